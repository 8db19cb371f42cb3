/- The model's l3Version and l1Once: a drawn version, a drawn chance. -/
import Derived.Test.YtdfhnngcddaccaaSf
import Derived.Test.YtdfhnngcddaccaaDrawn
namespace Go.Proofs.Ytdfhnngcddaccaa.dr
open Go.ChangeShapes Go.WideShapes Go.ChangeAt Go.RowKit
open Go.Proofs.Ytdfhnngcddaccaa.el2 Go.Proofs.Ytdfhnngcddaccaa.tx Go.Proofs.Ytdfhnngcddaccaa.bx Go.Proofs.Ytdfhnngcddaccaa.sf
open Go.Proofs.Ytdfhnngcddaccaa.cur (CurAt CodeAt Kp Only below_calls pick_calls)
open Go.Proofs.Ytdfhnngcddaccaa.sl (Ver)
set_option linter.unusedVariables false
set_option linter.unusedSimpArgs false
/-- a box of a version -/
def Vx (w : World) (b : Nat) (x : Ver) : Prop := ∃ f, w.rowIs b 34 5 f ∧ f 0 = .int .i64 x.a ∧ f 1 = .int .i64 x.b ∧ f 2 = .int .i64 x.c ∧ f 3 = .int .i64 x.d ∧ f 4 = .int .i64 x.e
section
variable {w w' : World} {b : Nat} {x y : Ver}
theorem Vx.at_ (h : Vx w b x) : Go.Proofs.Ytdfhnngcddaccaa.sl.At w b 0 x := by
  obtain ⟨f, hf, h0, h1, h2, h3, h4⟩ := h
  exact ⟨(hf.cell (show 0 < 5 by decide)).trans (by rw [h0]), (hf.cell (show 1 < 5 by decide)).trans (by rw [h1]), (hf.cell (show 2 < 5 by decide)).trans (by rw [h2]), (hf.cell (show 3 < 5 by decide)).trans (by rw [h3]), (hf.cell (show 4 < 5 by decide)).trans (by rw [h4])⟩
theorem Vx.cells (h : Vx w b x) : w.cell? ⟨b, 0, none⟩ = some (.int .i64 x.a) ∧ w.cell? ⟨b, 1, none⟩ = some (.int .i64 x.b) ∧ w.cell? ⟨b, 2, none⟩ = some (.int .i64 x.c) ∧ w.cell? ⟨b, 3, none⟩ = some (.int .i64 x.d) ∧ w.cell? ⟨b, 4, none⟩ = some (.int .i64 x.e) := h.at_
theorem Vx.fz (h : Vx w b x) (i : Nat) : w.frozen? ⟨b, i, none⟩ = false := by obtain ⟨f, hf, _⟩ := h; exact hf.frozen i
theorem Vx.lt (h : Vx w b x) : b < w.heap.size := by obtain ⟨f, hf, _⟩ := h; exact hf.lt
theorem Vx.of_block (h : Vx w b x) (hk : w'.heap[b]? = w.heap[b]?) : Vx w' b x := by obtain ⟨f, hf, hr⟩ := h; exact ⟨f, hf.of_block hk, hr⟩
theorem Vx.new (w : World) (x : Ver) : Vx (w.alloc (.cells #[.int .i64 x.a, .int .i64 x.b, .int .i64 x.c, .int .i64 x.d, .int .i64 x.e] 34)) w.heap.size x :=
  ⟨fun i => if i = 0 then .int .i64 x.a else if i = 1 then .int .i64 x.b else if i = 2 then .int .i64 x.c else if i = 3 then .int .i64 x.d else .int .i64 x.e, World.rowIs_alloc w #[.int .i64 x.a, .int .i64 x.b, .int .i64 x.c, .int .i64 x.d, .int .i64 x.e] 34 _ (fun i hi => by
    have : i = 0 ∨ i = 1 ∨ i = 2 ∨ i = 3 ∨ i = 4 := by simp at hi; omega
    rcases this with rfl | rfl | rfl | rfl | rfl <;> rfl), rfl, rfl, rfl, rfl, rfl⟩
theorem Vx.zero (w : World) : Vx (w.alloc (.cells #[.int .i64 0, .int .i64 0, .int .i64 0, .int .i64 0, .int .i64 0] 34)) w.heap.size ⟨0, 0, 0, 0, 0⟩ := Vx.new w ⟨0, 0, 0, 0, 0⟩
theorem Vx.put (h : Vx w b y) (x : Ver) : Vx (World.setCell (World.setCell (World.setCell (World.setCell (World.setCell w ⟨b, 0, none⟩ (.int .i64 x.a)) ⟨b, 1, none⟩ (.int .i64 x.b)) ⟨b, 2, none⟩ (.int .i64 x.c)) ⟨b, 3, none⟩ (.int .i64 x.d)) ⟨b, 4, none⟩ (.int .i64 x.e)) b x := by
  obtain ⟨f, hf, _⟩ := h
  exact ⟨_, ((((hf.set 0 (.int .i64 x.a)).set 1 (.int .i64 x.b)).set 2 (.int .i64 x.c)).set 3 (.int .i64 x.d)).set 4 (.int .i64 x.e), rfl, rfl, rfl, rfl, rfl⟩
end
section
variable {w W W' : World} {B b len cap q : Nat} {a : Option Addr}
/-- a change of a block that is new since the start -/
theorem off_grown {q : Nat} (ho : Off q W W') : W.grownBy W' (some q) := ⟨ho.os, ho.tape, ho.output, by rw [ho.size]; exact Nat.le_refl _, fun k _ hk => ho.block k (fun e => hk (by rw [e]))⟩
theorem kp_off (h : Kp B b w W) (hB : B ≤ w.heap.size) (hq : w.heap.size ≤ q) (ho : Off q W W') : Kp B b w W' := h.grown (off_grown ho) hB (fun k e => by injection e with e; omega)
theorem cur_off (h : CurAt W b a len cap) (hq : b ≠ q) (ho : Off q W W') : CurAt W' b a len cap := h.grown (off_grown ho) (fun e => by injection e with e; exact hq e)
end
/-- a drawn version -/
def DVr (B b : Nat) (a : Option Addr) (len cap : Nat) (w : World) (e : Ending) (w' : World) : Prop :=
  ∃ v : Ver, e = .returned (.agg #[.int .i64 v.a, .int .i64 v.b, .int .i64 v.c, .int .i64 v.d, .int .i64 v.e]) ∧ CurAt w' b a len cap ∧ Kp B b w w'
set_option maxHeartbeats 800000 in
theorem once_calls (b B : Nat) (a : Option Addr) (len cap : Nat) (n : Int) (w : World) (hl : len ≤ 1048576) (hc : CurAt w b a len cap) (hcode : CodeAt w B a len) (hB : B ≤ b) (h0 : 0 < n) :
    Calls Try.prog 63 #[.pointer (some ⟨b, 0, none⟩), .int .i64 n] w fun e w' => ∃ x : Bool, e = .returned (.bool x) ∧ CurAt w' b a len cap ∧ Only b w w' := by
  have HK := Lib.hid (below_calls b B a len cap n w hl hc hcode hB h0)
  clear hc hcode
  go_enter Try.func63, Try.ntmps63
  go_wp2_with fail
  refine HK.out.mono ?_
  rintro e W1 ⟨x, rfl, hx0, hx1, hc1, ho1⟩
  have HC := Lib.hid hc1
  have HO := Lib.hid ho1
  clear hc1 ho1 HK
  by_cases hx : x = 0
  · have t : (x == 0) = true := by simp [hx]
    go_wp2_with fail
    go_ret
    exact ⟨_, rfl, HC.out, HO.out⟩
  · have t : (x == 0) = false := by simp [hx]
    go_wp2_with fail
    go_ret
    exact ⟨_, rfl, HC.out, HO.out⟩
end Go.Proofs.Ytdfhnngcddaccaa.dr
