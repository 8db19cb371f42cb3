/- FnTransactions holds at every code: the law returns true and writes nothing that was there. No condition. -/
import Derived.Test.YtbnkkgjkhpbgiaaSf
import Derived.Test.YtbnkkgjkhpbgiaaDrawn
import Derived.Test.YtbnkkgjkhpbgiaaDany
import Derived.Test.YtbnkkgjkhpbgiaaLt
import Derived.Test.YtbnkkgjkhpbgiaaEl2
import Derived.Test.YtbnkkgjkhpbgiaaLc
import Derived.Test.YtbnkkgjkhpbgiaaTn
import Derived.Test.YtbnkkgjkhpbgiaaTe
import Derived.Test.YtbnkkgjkhpbgiaaTf
import Derived.Test.YtbnkkgjkhpbgiaaTvs
import Derived.Test.YtbnkkgjkhpbgiaaFw
import Derived.WalkKit
import Derived.ProofKit
import Derived.OpenShut
import Derived.ShutString
import Derived.ChangeOld
import Derived.Below
import Derived.Carry
import Derived.Lib.Hide
import Derived.StillTailTactics
import Derived.Deep.RegionHeld3
import Derived.Deep.DeepHandedRow
/- The model's l3Version and l1Once: a drawn version, a drawn chance. -/
namespace Go.Proofs.Ytbnkkgjkhpbgiaa.dr
open Go.ChangeShapes Go.WideShapes Go.ChangeAt Go.RowKit
open Go.Proofs.Ytbnkkgjkhpbgiaa.el2 Go.Proofs.Ytbnkkgjkhpbgiaa.tx Go.Proofs.Ytbnkkgjkhpbgiaa.bx Go.Proofs.Ytbnkkgjkhpbgiaa.sf
open Go.Proofs.Ytbnkkgjkhpbgiaa.cur (CurAt CodeAt Kp Only below_calls pick_calls)
open Go.Proofs.Ytbnkkgjkhpbgiaa.sl (Ver)
set_option linter.unusedVariables false
set_option linter.unusedSimpArgs false
/-- a box of a version -/
def Vx (w : World) (b : Nat) (x : Ver) : Prop := ∃ f, w.rowIs b 110 5 f ∧ f 0 = .int .i64 x.a ∧ f 1 = .int .i64 x.b ∧ f 2 = .int .i64 x.c ∧ f 3 = .int .i64 x.d ∧ f 4 = .int .i64 x.e
section
variable {w w' : World} {b : Nat} {x y : Ver}
theorem Vx.at_ (h : Vx w b x) : Go.Proofs.Ytbnkkgjkhpbgiaa.sl.At w b 0 x := by
  obtain ⟨f, hf, h0, h1, h2, h3, h4⟩ := h
  exact ⟨(hf.cell (show 0 < 5 by decide)).trans (by rw [h0]), (hf.cell (show 1 < 5 by decide)).trans (by rw [h1]), (hf.cell (show 2 < 5 by decide)).trans (by rw [h2]), (hf.cell (show 3 < 5 by decide)).trans (by rw [h3]), (hf.cell (show 4 < 5 by decide)).trans (by rw [h4])⟩
theorem Vx.cells (h : Vx w b x) : w.cell? ⟨b, 0, none⟩ = some (.int .i64 x.a) ∧ w.cell? ⟨b, 1, none⟩ = some (.int .i64 x.b) ∧ w.cell? ⟨b, 2, none⟩ = some (.int .i64 x.c) ∧ w.cell? ⟨b, 3, none⟩ = some (.int .i64 x.d) ∧ w.cell? ⟨b, 4, none⟩ = some (.int .i64 x.e) := h.at_
theorem Vx.fz (h : Vx w b x) (i : Nat) : w.frozen? ⟨b, i, none⟩ = false := by obtain ⟨f, hf, _⟩ := h; exact hf.frozen i
theorem Vx.lt (h : Vx w b x) : b < w.heap.size := by obtain ⟨f, hf, _⟩ := h; exact hf.lt
theorem Vx.of_block (h : Vx w b x) (hk : w'.heap[b]? = w.heap[b]?) : Vx w' b x := by obtain ⟨f, hf, hr⟩ := h; exact ⟨f, hf.of_block hk, hr⟩
theorem Vx.new (w : World) (x : Ver) : Vx (w.alloc (.cells #[.int .i64 x.a, .int .i64 x.b, .int .i64 x.c, .int .i64 x.d, .int .i64 x.e] 110)) w.heap.size x :=
  ⟨fun i => if i = 0 then .int .i64 x.a else if i = 1 then .int .i64 x.b else if i = 2 then .int .i64 x.c else if i = 3 then .int .i64 x.d else .int .i64 x.e, World.rowIs_alloc w #[.int .i64 x.a, .int .i64 x.b, .int .i64 x.c, .int .i64 x.d, .int .i64 x.e] 110 _ (fun i hi => by
    have : i = 0 ∨ i = 1 ∨ i = 2 ∨ i = 3 ∨ i = 4 := by simp at hi; omega
    rcases this with rfl | rfl | rfl | rfl | rfl <;> rfl), rfl, rfl, rfl, rfl, rfl⟩
theorem Vx.zero (w : World) : Vx (w.alloc (.cells #[.int .i64 0, .int .i64 0, .int .i64 0, .int .i64 0, .int .i64 0] 110)) w.heap.size ⟨0, 0, 0, 0, 0⟩ := Vx.new w ⟨0, 0, 0, 0, 0⟩
theorem Vx.put (h : Vx w b y) (x : Ver) : Vx (World.setCell (World.setCell (World.setCell (World.setCell (World.setCell w ⟨b, 0, none⟩ (.int .i64 x.a)) ⟨b, 1, none⟩ (.int .i64 x.b)) ⟨b, 2, none⟩ (.int .i64 x.c)) ⟨b, 3, none⟩ (.int .i64 x.d)) ⟨b, 4, none⟩ (.int .i64 x.e)) b x := by
  obtain ⟨f, hf, _⟩ := h
  exact ⟨_, ((((hf.set 0 (.int .i64 x.a)).set 1 (.int .i64 x.b)).set 2 (.int .i64 x.c)).set 3 (.int .i64 x.d)).set 4 (.int .i64 x.e), rfl, rfl, rfl, rfl, rfl⟩
end
section
variable {w W W' : World} {B b len cap q : Nat} {a : Option Addr}
/-- a change of a block that is new since the start -/
theorem off_grown {q : Nat} (ho : Off q W W') : W.grownBy W' (some q) := ⟨ho.os, ho.tape, ho.output, by rw [ho.size]; exact Nat.le_refl _, fun k _ hk => ho.block k (fun e => hk (by rw [e]))⟩
theorem kp_off (h : Kp B b w W) (hB : B ≤ w.heap.size) (hq : w.heap.size ≤ q) (ho : Off q W W') : Kp B b w W' := h.grown (off_grown ho) hB (fun k e => by injection e with e; omega)
theorem cur_off (h : CurAt W b a len cap) (hq : b ≠ q) (ho : Off q W W') : CurAt W' b a len cap := h.grown (off_grown ho) (fun e => by injection e with e; exact hq e)
end
/-- a drawn version -/
def DVr (B b : Nat) (a : Option Addr) (len cap : Nat) (w : World) (e : Ending) (w' : World) : Prop :=
  ∃ v : Ver, e = .returned (.agg #[.int .i64 v.a, .int .i64 v.b, .int .i64 v.c, .int .i64 v.d, .int .i64 v.e]) ∧ CurAt w' b a len cap ∧ Kp B b w w'
set_option maxHeartbeats 800000 in
theorem once_calls (b B : Nat) (a : Option Addr) (len cap : Nat) (n : Int) (w : World) (hl : len ≤ 1048576) (hc : CurAt w b a len cap) (hcode : CodeAt w B a len) (hB : B ≤ b) (h0 : 0 < n) :
    Calls Try.prog 42 #[.pointer (some ⟨b, 0, none⟩), .int .i64 n] w fun e w' => ∃ x : Bool, e = .returned (.bool x) ∧ CurAt w' b a len cap ∧ Only b w w' := by
  have HK := Lib.hid (below_calls b B a len cap n w hl hc hcode hB h0)
  clear hc hcode
  go_enter Try.func42, Try.ntmps42
  go_wp2_with fail
  refine HK.out.mono ?_
  rintro e W1 ⟨x, rfl, hx0, hx1, hc1, ho1⟩
  have HC := Lib.hid hc1
  have HO := Lib.hid ho1
  clear hc1 ho1 HK
  by_cases hx : x = 0
  · have t : (x == 0) = true := by simp [hx]
    go_wp2_with fail
    go_ret
    exact ⟨_, rfl, HC.out, HO.out⟩
  · have t : (x == 0) = false := by simp [hx]
    go_wp2_with fail
    go_ret
    exact ⟨_, rfl, HC.out, HO.out⟩
end Go.Proofs.Ytbnkkgjkhpbgiaa.dr
/- The model's DrawTrackRead: a drawn transaction, a key, a version. -/
namespace Go.Proofs.Ytbnkkgjkhpbgiaa.drt
open Go.ChangeShapes Go.WideShapes Go.ChangeAt Go.RowKit
open Go.Proofs.Ytbnkkgjkhpbgiaa.el2 Go.Proofs.Ytbnkkgjkhpbgiaa.tx Go.Proofs.Ytbnkkgjkhpbgiaa.ap Go.Proofs.Ytbnkkgjkhpbgiaa.bx Go.Proofs.Ytbnkkgjkhpbgiaa.ad Go.Proofs.Ytbnkkgjkhpbgiaa.sf Go.Proofs.Ytbnkkgjkhpbgiaa.dr
open Go.Proofs.Ytbnkkgjkhpbgiaa.cur (CurAt CodeAt Kp Only below_calls pick_calls new_calls cur_new)
open Go.Proofs.Ytbnkkgjkhpbgiaa.vers (new2)
open Go.Proofs.Ytbnkkgjkhpbgiaa.sl (Ver)
set_option linter.unusedVariables false
set_option linter.unusedSimpArgs false
section
variable {w W W' : World} {B b base tb n c n2 c2 : Nat} {x : Hd} {A A2 : Option Addr} {R S : List E2}
theorem Bo.kp (h : Bo W base tb x A n c R A2 n2 c2 S) (hb : b < base) (hk : Kp B b W W') : Bo W' base tb x A n c R A2 n2 c2 S :=
  ⟨h.bx.of_block (hk.gr.block tb h.lt (fun e => by injection e with e; have := h.le; omega)), ⟨own_same h.own.1 fun g hg => by
    obtain ⟨h1, cur, hh⟩ := own_block h.own.1 hg
    exact hk.gr.block g (heap_lt hh) (fun e => by injection e with e; omega), own_same h.own.2 fun g hg => by
    obtain ⟨h1, cur, hh⟩ := own_block h.own.2 hg
    exact hk.gr.block g (heap_lt hh) (fun e => by injection e with e; omega)⟩, h.le⟩
theorem put9_cell {V : World} {bb : Nat} {x : Hd} {u v : Value} {p : Addr} (h : p.block ≠ bb) : World.cell? (World.setCell (World.setCell (World.setCell (World.setCell (World.setCell (World.setCell (World.setCell (World.setCell (World.setCell V ⟨bb, 0, none⟩ (.int .i64 x.i)) ⟨bb, 1, none⟩ (.int .i64 x.s)) ⟨bb, 2, none⟩ (.int .i64 x.t)) ⟨bb, 3, none⟩ (.int .i64 x.b)) ⟨bb, 4, none⟩ (.int .i64 x.l)) ⟨bb, 5, none⟩ (.int .i64 x.h)) ⟨bb, 6, none⟩ (.int .i64 x.c)) ⟨bb, 7, none⟩ u) ⟨bb, 8, none⟩ v) p = V.cell? p := Go.Proofs.Ytbnkkgjkhpbgiaa.lt.put_cell h
end
section
variable {w W W' : World} {rb vb base tb n c n2 c2 : Nat} {x : Hd} {A A2 : Option Addr} {R S : List E2} {v : Ver}
/-- what a caller sees when the two results have been laid -/
def Fin (w W' : World) (rb vb : Nat) (x : Hd) (A : Option Addr) (n c : Nat) (R : List E2) (A2 : Option Addr) (n2 c2 : Nat) (S : List E2) (v : Ver) : Prop :=
  TB W' rb x (.slice A n c) (.slice A2 n2 c2) ∧ Go.Proofs.Ytbnkkgjkhpbgiaa.sl.At W' vb 0 v ∧ OwnT W' w.heap.size (.slice A n c) n R (.slice A2 n2 c2) n2 S ∧ Below w.heap.size w W'
theorem fin_95 (hz : Bx W rb ⟨0, 0, 0, 0, 0, 0, 0⟩ (.slice none 0 0) (.slice none 0 0)) (hv : Vx W vb ⟨0, 0, 0, 0, 0⟩) (hB : Bo W base tb x A n c R A2 n2 c2 S) (hbel : Below w.heap.size w W) (h1 : w.heap.size ≤ rb) (h2 : w.heap.size ≤ vb) (hne : rb ≠ vb) (h3 : rb < base) (h4 : vb < base) (hw : w.heap.size ≤ base)
    (hW : (World.setCell (World.setCell (World.setCell (World.setCell (World.setCell (World.setCell (World.setCell (World.setCell (World.setCell (World.setCell (World.setCell (World.setCell (World.setCell (World.setCell W ⟨rb, 0, none⟩ (.int .i64 x.i)) ⟨rb, 1, none⟩ (.int .i64 x.s)) ⟨rb, 2, none⟩ (.int .i64 x.t)) ⟨rb, 3, none⟩ (.int .i64 x.b)) ⟨rb, 4, none⟩ (.int .i64 x.l)) ⟨rb, 5, none⟩ (.int .i64 x.h)) ⟨rb, 6, none⟩ (.int .i64 x.c)) ⟨rb, 7, none⟩ (.slice A n c)) ⟨rb, 8, none⟩ (.slice A2 n2 c2)) ⟨vb, 0, none⟩ (.int .i64 v.a)) ⟨vb, 1, none⟩ (.int .i64 v.b)) ⟨vb, 2, none⟩ (.int .i64 v.c)) ⟨vb, 3, none⟩ (.int .i64 v.d)) ⟨vb, 4, none⟩ (.int .i64 v.e)) = W') : Fin w W' rb vb x A n c R A2 n2 c2 S v := by
  have o1 := off_put W rb x (.slice A n c) (.slice A2 n2 c2)
  have b1 := hz.put x (.slice A n c) (.slice A2 n2 c2)
  have v1 := hv.of_block (o1.block vb (fun e => hne e.symm))
  have w1 := hB.own.off o1 h3
  have l1 := hbel.trans (o1.below h1)
  generalize (World.setCell (World.setCell (World.setCell (World.setCell (World.setCell (World.setCell (World.setCell (World.setCell (World.setCell W ⟨rb, 0, none⟩ (.int .i64 x.i)) ⟨rb, 1, none⟩ (.int .i64 x.s)) ⟨rb, 2, none⟩ (.int .i64 x.t)) ⟨rb, 3, none⟩ (.int .i64 x.b)) ⟨rb, 4, none⟩ (.int .i64 x.l)) ⟨rb, 5, none⟩ (.int .i64 x.h)) ⟨rb, 6, none⟩ (.int .i64 x.c)) ⟨rb, 7, none⟩ (.slice A n c)) ⟨rb, 8, none⟩ (.slice A2 n2 c2)) = W1 at o1 b1 v1 w1 l1 hW
  have o2 := off5 W1 vb (.int .i64 v.a) (.int .i64 v.b) (.int .i64 v.c) (.int .i64 v.d) (.int .i64 v.e)
  have v2 := v1.put v
  rw [hW] at o2 v2
  exact ⟨(b1.of_block (o2.block rb hne)).tb, v2.at_, (w1.off o2 h4).more hw, l1.trans (o2.below h2)⟩
theorem fin_59 (hz : Bx W rb ⟨0, 0, 0, 0, 0, 0, 0⟩ (.slice none 0 0) (.slice none 0 0)) (hv : Vx W vb ⟨0, 0, 0, 0, 0⟩) (hB : Bo W base tb x A n c R A2 n2 c2 S) (hbel : Below w.heap.size w W) (h1 : w.heap.size ≤ rb) (h2 : w.heap.size ≤ vb) (hne : rb ≠ vb) (h3 : rb < base) (h4 : vb < base) (hw : w.heap.size ≤ base)
    (hW : (World.setCell (World.setCell (World.setCell (World.setCell (World.setCell (World.setCell (World.setCell (World.setCell (World.setCell (World.setCell (World.setCell (World.setCell (World.setCell (World.setCell W ⟨vb, 0, none⟩ (.int .i64 v.a)) ⟨vb, 1, none⟩ (.int .i64 v.b)) ⟨vb, 2, none⟩ (.int .i64 v.c)) ⟨vb, 3, none⟩ (.int .i64 v.d)) ⟨vb, 4, none⟩ (.int .i64 v.e)) ⟨rb, 0, none⟩ (.int .i64 x.i)) ⟨rb, 1, none⟩ (.int .i64 x.s)) ⟨rb, 2, none⟩ (.int .i64 x.t)) ⟨rb, 3, none⟩ (.int .i64 x.b)) ⟨rb, 4, none⟩ (.int .i64 x.l)) ⟨rb, 5, none⟩ (.int .i64 x.h)) ⟨rb, 6, none⟩ (.int .i64 x.c)) ⟨rb, 7, none⟩ (.slice A n c)) ⟨rb, 8, none⟩ (.slice A2 n2 c2)) = W') : Fin w W' rb vb x A n c R A2 n2 c2 S v := by
  have o1 := off5 W vb (.int .i64 v.a) (.int .i64 v.b) (.int .i64 v.c) (.int .i64 v.d) (.int .i64 v.e)
  have v1 := hv.put v
  have b1 := hz.of_block (o1.block rb hne)
  have w1 := hB.own.off o1 h4
  have l1 := hbel.trans (o1.below h2)
  generalize (World.setCell (World.setCell (World.setCell (World.setCell (World.setCell W ⟨vb, 0, none⟩ (.int .i64 v.a)) ⟨vb, 1, none⟩ (.int .i64 v.b)) ⟨vb, 2, none⟩ (.int .i64 v.c)) ⟨vb, 3, none⟩ (.int .i64 v.d)) ⟨vb, 4, none⟩ (.int .i64 v.e)) = W1 at o1 b1 v1 w1 l1 hW
  have o2 := off_put W1 rb x (.slice A n c) (.slice A2 n2 c2)
  have b2 := b1.put x (.slice A n c) (.slice A2 n2 c2)
  rw [hW] at o2 b2
  exact ⟨b2.tb, (v1.of_block (o2.block vb (fun e => hne e.symm))).at_, (w1.off o2 h3).more hw, l1.trans (o2.below h1)⟩
end
/-- a drawn transaction, a key, a version -/
def DTR (w : World) (e : Ending) (w' : World) : Prop :=
  ∃ (x : Hd) (A : Option Addr) (n c : Nat) (R : List E2) (A2 : Option Addr) (n2 c2 : Nat) (S : List E2) (k : Int) (v : Ver), e = .returned (.tuple #[txv x (.slice A n c) (.slice A2 n2 c2), .int .i64 k, .agg #[.int .i64 v.a, .int .i64 v.b, .int .i64 v.c, .int .i64 v.d, .int .i64 v.e]]) ∧ n ≤ 5 ∧ n2 ≤ 5 ∧ OwnT w' w.heap.size (.slice A n c) n R (.slice A2 n2 c2) n2 S ∧ Below w.heap.size w w'
end Go.Proofs.Ytbnkkgjkhpbgiaa.drt
/- The model's DrawNewTransaction: three drawn integers. -/
namespace Go.Proofs.Ytbnkkgjkhpbgiaa.dnt
open Go.ChangeShapes Go.WideShapes Go.ChangeAt Go.RowKit
open Go.Proofs.Ytbnkkgjkhpbgiaa.el2 (new1)
open Go.Proofs.Ytbnkkgjkhpbgiaa.cur (CurAt CodeAt Kp Only below_calls pick_calls new_calls cur_new)
set_option linter.unusedVariables false
set_option linter.unusedSimpArgs false
theorem list_of {W : World} {g n : Nat} {t : TypeId} {vs : List Int} {fz : Nat × Nat} (h : W.heap[g]? = some (.cells (vs.map (fun v => Value.int .i64 v)).toArray t fz)) (hn : vs.length = n) (hr : ∀ v ∈ vs, -1 ≤ v ∧ v ≤ 1000) : ∀ j, j < n → ∃ v : Int, W.cell? ⟨g, j, none⟩ = some (.int .i64 v) ∧ -1 ≤ v ∧ v ≤ 1000 := by
  intro j hj
  have hjl : j < vs.length := by omega
  refine ⟨vs[j], ?_, hr _ (List.getElem_mem hjl)⟩
  simp [World.cell?, h, hjl]
theorem list_0 (W : World) : ∀ j, j < 5 → ∃ v : Int, (W.alloc (.cells #[.int .i64 1, .int .i64 3, .int .i64 9, .int .i64 0, .int .i64 10] 3)).cell? ⟨W.heap.size, j, none⟩ = some (.int .i64 v) ∧ -1 ≤ v ∧ v ≤ 1000 :=
  list_of (vs := [1, 3, 9, 0, 10]) (heap_alloc_new W _) rfl (by simp)
theorem list_1 (W : World) : ∀ j, j < 6 → ∃ v : Int, (W.alloc (.cells #[.int .i64 1, .int .i64 2, .int .i64 3, .int .i64 4, .int .i64 0, .int .i64 5] 3)).cell? ⟨W.heap.size, j, none⟩ = some (.int .i64 v) ∧ -1 ≤ v ∧ v ≤ 1000 :=
  list_of (vs := [1, 2, 3, 4, 0, 5]) (heap_alloc_new W _) rfl (by simp)
theorem list_2 (W : World) : ∀ j, j < 5 → ∃ v : Int, (W.alloc (.cells #[.int .i64 0, .int .i64 5, .int .i64 999, .int .i64 1000, .int .i64 (-1)] 3)).cell? ⟨W.heap.size, j, none⟩ = some (.int .i64 v) ∧ -1 ≤ v ∧ v ≤ 1000 :=
  list_of (vs := [0, 5, 999, 1000, -1]) (heap_alloc_new W _) rfl (by simp)
/-- three drawn integers -/
def DNT (w : World) (e : Ending) (w' : World) : Prop := ∃ i s b : Int, e = .returned (.tuple #[.int .i64 i, .int .i64 s, .int .i64 b]) ∧ Below w.heap.size w w'
set_option maxRecDepth 100000 in
set_option maxHeartbeats 1600000 in
theorem draw_nt (a : Option Addr) (len cap : Nat) (w : World) (hl : len ≤ 1048576) (hcode : CodeAt w w.heap.size a len) :
    Calls Try.prog 8 #[.slice a len cap] w (DNT w) := by
  have HN := Lib.hid (new_calls w.heap.size a len cap w hl hcode (Nat.le_refl _))
  have HC := Lib.hid hcode
  clear hcode
  go_enter Try.func8, Try.ntmps8
  go_wp2_with fail
  refine HN.out.mono ?_
  rintro e W1 ⟨h, rfl, rfl⟩
  have hcu := cur_new w a len cap h
  have hb := new1 w (.cells #[.slice a len cap, .int .i64 0, .int .i64 h] 93)
  have hs : w.heap.size < (w.alloc (.cells #[.slice a len cap, .int .i64 0, .int .i64 h] 93)).heap.size := by simp
  generalize w.alloc _ = W1 at hcu hb hs ⊢
  have C1 := Lib.hid hcu
  have HB1 := Lib.hid hb
  clear hcu hb HN
  go_wp2_with fail
  have hl0 := list_0 W1
  have hcu := C1.out.alloc (.cells #[.int .i64 1, .int .i64 3, .int .i64 9, .int .i64 0, .int .i64 10] 3)
  have hb := HB1.out.alloc (show w.heap.size ≤ W1.heap.size by omega) (.cells #[.int .i64 1, .int .i64 3, .int .i64 9, .int .i64 0, .int .i64 10] 3)
  have hsz : w.heap.size < (W1.alloc (.cells #[.int .i64 1, .int .i64 3, .int .i64 9, .int .i64 0, .int .i64 10] 3)).heap.size := by simp; omega
  generalize hg : W1.heap.size = g0 at hl0 ⊢
  have hne : g0 ≠ w.heap.size := by omega
  generalize W1.alloc _ = V1 at hl0 hcu hb hsz ⊢
  refine (pick_calls w.heap.size w.heap.size g0 a len cap 5 (-1) 1000 V1 hl hcu (HC.out.below (Nat.le_refl _) hb) (Nat.le_refl _) (by omega) (by omega) hne hl0).mono ?_
  rintro e W2 ⟨i, rfl, -, -, hc2, ho⟩
  have C2 := Lib.hid hc2
  have HB2 : Hid (Below w.heap.size w W2) := Lib.hid (hb.trans (ho.below (Nat.le_refl _)))
  have hs : w.heap.size < W2.heap.size := C2.out.lt
  clear hc2 ho hl0 hcu hb hsz hg hne
  go_wp2_with fail
  have hl1 := list_1 W2
  have hcu := C2.out.alloc (.cells #[.int .i64 1, .int .i64 2, .int .i64 3, .int .i64 4, .int .i64 0, .int .i64 5] 3)
  have hb := HB2.out.alloc (show w.heap.size ≤ W2.heap.size by omega) (.cells #[.int .i64 1, .int .i64 2, .int .i64 3, .int .i64 4, .int .i64 0, .int .i64 5] 3)
  have hsz : w.heap.size < (W2.alloc (.cells #[.int .i64 1, .int .i64 2, .int .i64 3, .int .i64 4, .int .i64 0, .int .i64 5] 3)).heap.size := by simp; omega
  generalize hg : W2.heap.size = g1 at hl1 ⊢
  have hne : g1 ≠ w.heap.size := by omega
  generalize W2.alloc _ = V2 at hl1 hcu hb hsz ⊢
  refine (pick_calls w.heap.size w.heap.size g1 a len cap 6 (-1) 1000 V2 hl hcu (HC.out.below (Nat.le_refl _) hb) (Nat.le_refl _) (by omega) (by omega) hne hl1).mono ?_
  rintro e W3 ⟨s, rfl, -, -, hc2, ho⟩
  have C3 := Lib.hid hc2
  have HB3 : Hid (Below w.heap.size w W3) := Lib.hid (hb.trans (ho.below (Nat.le_refl _)))
  have hs : w.heap.size < W3.heap.size := C3.out.lt
  clear hc2 ho hl1 hcu hb hsz hg hne
  go_wp2_with fail
  have hl2 := list_2 W3
  have hcu := C3.out.alloc (.cells #[.int .i64 0, .int .i64 5, .int .i64 999, .int .i64 1000, .int .i64 (-1)] 3)
  have hb := HB3.out.alloc (show w.heap.size ≤ W3.heap.size by omega) (.cells #[.int .i64 0, .int .i64 5, .int .i64 999, .int .i64 1000, .int .i64 (-1)] 3)
  have hsz : w.heap.size < (W3.alloc (.cells #[.int .i64 0, .int .i64 5, .int .i64 999, .int .i64 1000, .int .i64 (-1)] 3)).heap.size := by simp; omega
  generalize hg : W3.heap.size = g2 at hl2 ⊢
  have hne : g2 ≠ w.heap.size := by omega
  generalize W3.alloc _ = V3 at hl2 hcu hb hsz ⊢
  refine (pick_calls w.heap.size w.heap.size g2 a len cap 5 (-1) 1000 V3 hl hcu (HC.out.below (Nat.le_refl _) hb) (Nat.le_refl _) (by omega) (by omega) hne hl2).mono ?_
  rintro e W4 ⟨b, rfl, -, -, hc2, ho⟩
  have C4 := Lib.hid hc2
  have HB4 : Hid (Below w.heap.size w W4) := Lib.hid (hb.trans (ho.below (Nat.le_refl _)))
  have hs : w.heap.size < W4.heap.size := C4.out.lt
  clear hc2 ho hl2 hcu hb hsz hg hne
  go_wp2_with fail
  exact bodyPost_ret (v := .tuple #[.int .i64 i, .int .i64 s, .int .i64 b]) (by simp [results, Try.results8, go_sem]) rfl ⟨i, s, b, rfl, HB4.out⟩
end Go.Proofs.Ytbnkkgjkhpbgiaa.dnt
/- The model's DrawEqualTransactions: two drawn transactions. -/
namespace Go.Proofs.Ytbnkkgjkhpbgiaa.det
open Go.ChangeShapes Go.WideShapes Go.ChangeAt Go.RowKit
open Go.Proofs.Ytbnkkgjkhpbgiaa.el2 Go.Proofs.Ytbnkkgjkhpbgiaa.tx Go.Proofs.Ytbnkkgjkhpbgiaa.ap Go.Proofs.Ytbnkkgjkhpbgiaa.bx Go.Proofs.Ytbnkkgjkhpbgiaa.ad Go.Proofs.Ytbnkkgjkhpbgiaa.sf Go.Proofs.Ytbnkkgjkhpbgiaa.dr Go.Proofs.Ytbnkkgjkhpbgiaa.drt Go.Proofs.Ytbnkkgjkhpbgiaa.lc
open Go.Proofs.Ytbnkkgjkhpbgiaa.cur (CurAt CodeAt Kp Only below_calls pick_calls new_calls cur_new)
open Go.Proofs.Ytbnkkgjkhpbgiaa.vers (new2)
set_option linter.unusedVariables false
set_option linter.unusedSimpArgs false
section
variable {w W W' : World} {rb vb base base2 n c n2 c2 m d m2 d2 : Nat} {x y : Hd} {A A2 F F2 : Option Addr} {R S Q Q2 : List E2}
/-- two transactions to be read -/
def Two (w W' : World) (rb vb : Nat) (x : Hd) (A : Option Addr) (n c : Nat) (R : List E2) (A2 : Option Addr) (n2 c2 : Nat) (S : List E2) (y : Hd) (F : Option Addr) (m d : Nat) (Q : List E2) (F2 : Option Addr) (m2 d2 : Nat) (Q2 : List E2) : Prop :=
  TB W' rb x (.slice A n c) (.slice A2 n2 c2) ∧ TB W' vb y (.slice F m d) (.slice F2 m2 d2) ∧ OwnT W' w.heap.size (.slice A n c) n R (.slice A2 n2 c2) n2 S ∧ OwnT W' w.heap.size (.slice F m d) m Q (.slice F2 m2 d2) m2 Q2 ∧ Below w.heap.size w W'
theorem fin_xy (hz : Bx W rb ⟨0, 0, 0, 0, 0, 0, 0⟩ (.slice none 0 0) (.slice none 0 0)) (hv : Bx W vb ⟨0, 0, 0, 0, 0, 0, 0⟩ (.slice none 0 0) (.slice none 0 0)) (hB : OwnT W base (.slice A n c) n R (.slice A2 n2 c2) n2 S) (hF : OwnT W base2 (.slice F m d) m Q (.slice F2 m2 d2) m2 Q2) (hbel : Below w.heap.size w W) (h1 : w.heap.size ≤ rb) (h2 : w.heap.size ≤ vb) (hne : rb ≠ vb) (h3 : rb < base) (h4 : vb < base) (h5 : rb < base2) (h6 : vb < base2)
    (hW : (World.setCell (World.setCell (World.setCell (World.setCell (World.setCell (World.setCell (World.setCell (World.setCell (World.setCell (World.setCell (World.setCell (World.setCell (World.setCell (World.setCell (World.setCell (World.setCell (World.setCell (World.setCell W ⟨rb, 0, none⟩ (.int .i64 x.i)) ⟨rb, 1, none⟩ (.int .i64 x.s)) ⟨rb, 2, none⟩ (.int .i64 x.t)) ⟨rb, 3, none⟩ (.int .i64 x.b)) ⟨rb, 4, none⟩ (.int .i64 x.l)) ⟨rb, 5, none⟩ (.int .i64 x.h)) ⟨rb, 6, none⟩ (.int .i64 x.c)) ⟨rb, 7, none⟩ (.slice A n c)) ⟨rb, 8, none⟩ (.slice A2 n2 c2)) ⟨vb, 0, none⟩ (.int .i64 y.i)) ⟨vb, 1, none⟩ (.int .i64 y.s)) ⟨vb, 2, none⟩ (.int .i64 y.t)) ⟨vb, 3, none⟩ (.int .i64 y.b)) ⟨vb, 4, none⟩ (.int .i64 y.l)) ⟨vb, 5, none⟩ (.int .i64 y.h)) ⟨vb, 6, none⟩ (.int .i64 y.c)) ⟨vb, 7, none⟩ (.slice F m d)) ⟨vb, 8, none⟩ (.slice F2 m2 d2)) = W') : Two w W' rb vb x A n c R A2 n2 c2 S y F m d Q F2 m2 d2 Q2 := by
  have o1 := off_put W rb x (.slice A n c) (.slice A2 n2 c2)
  have b1 := hz.put x (.slice A n c) (.slice A2 n2 c2)
  have v1 := hv.of_block (o1.block vb (fun e => hne e.symm))
  have w1 := hB.off o1 h3
  have f1 := hF.off o1 h5
  have l1 := hbel.trans (o1.below h1)
  generalize (World.setCell (World.setCell (World.setCell (World.setCell (World.setCell (World.setCell (World.setCell (World.setCell (World.setCell W ⟨rb, 0, none⟩ (.int .i64 x.i)) ⟨rb, 1, none⟩ (.int .i64 x.s)) ⟨rb, 2, none⟩ (.int .i64 x.t)) ⟨rb, 3, none⟩ (.int .i64 x.b)) ⟨rb, 4, none⟩ (.int .i64 x.l)) ⟨rb, 5, none⟩ (.int .i64 x.h)) ⟨rb, 6, none⟩ (.int .i64 x.c)) ⟨rb, 7, none⟩ (.slice A n c)) ⟨rb, 8, none⟩ (.slice A2 n2 c2)) = W1 at o1 b1 v1 w1 f1 l1 hW
  have o2 := off_put W1 vb y (.slice F m d) (.slice F2 m2 d2)
  have v2 := v1.put y (.slice F m d) (.slice F2 m2 d2)
  rw [hW] at o2 v2
  exact ⟨(b1.of_block (o2.block rb hne)).tb, v2.tb, (w1.off o2 h4).more (by omega), (f1.off o2 h6).more (by omega), l1.trans (o2.below h2)⟩
theorem fin_yx (hz : Bx W rb ⟨0, 0, 0, 0, 0, 0, 0⟩ (.slice none 0 0) (.slice none 0 0)) (hv : Bx W vb ⟨0, 0, 0, 0, 0, 0, 0⟩ (.slice none 0 0) (.slice none 0 0)) (hB : OwnT W base (.slice A n c) n R (.slice A2 n2 c2) n2 S) (hF : OwnT W base2 (.slice F m d) m Q (.slice F2 m2 d2) m2 Q2) (hbel : Below w.heap.size w W) (h1 : w.heap.size ≤ rb) (h2 : w.heap.size ≤ vb) (hne : rb ≠ vb) (h3 : rb < base) (h4 : vb < base) (h5 : rb < base2) (h6 : vb < base2)
    (hW : (World.setCell (World.setCell (World.setCell (World.setCell (World.setCell (World.setCell (World.setCell (World.setCell (World.setCell (World.setCell (World.setCell (World.setCell (World.setCell (World.setCell (World.setCell (World.setCell (World.setCell (World.setCell W ⟨vb, 0, none⟩ (.int .i64 y.i)) ⟨vb, 1, none⟩ (.int .i64 y.s)) ⟨vb, 2, none⟩ (.int .i64 y.t)) ⟨vb, 3, none⟩ (.int .i64 y.b)) ⟨vb, 4, none⟩ (.int .i64 y.l)) ⟨vb, 5, none⟩ (.int .i64 y.h)) ⟨vb, 6, none⟩ (.int .i64 y.c)) ⟨vb, 7, none⟩ (.slice F m d)) ⟨vb, 8, none⟩ (.slice F2 m2 d2)) ⟨rb, 0, none⟩ (.int .i64 x.i)) ⟨rb, 1, none⟩ (.int .i64 x.s)) ⟨rb, 2, none⟩ (.int .i64 x.t)) ⟨rb, 3, none⟩ (.int .i64 x.b)) ⟨rb, 4, none⟩ (.int .i64 x.l)) ⟨rb, 5, none⟩ (.int .i64 x.h)) ⟨rb, 6, none⟩ (.int .i64 x.c)) ⟨rb, 7, none⟩ (.slice A n c)) ⟨rb, 8, none⟩ (.slice A2 n2 c2)) = W') : Two w W' rb vb x A n c R A2 n2 c2 S y F m d Q F2 m2 d2 Q2 := by
  obtain ⟨h, h', w1, f1, l1⟩ := fin_xy hv hz hF hB hbel h2 h1 (fun e => hne e.symm) h6 h5 h4 h3 hW
  exact ⟨h', h, f1, w1, l1⟩
theorem own_slices {u v : Value} (h : OwnT W base u n R v n2 S) : ∃ A c A2 c2, u = .slice A n c ∧ v = .slice A2 n2 c2 := by
  obtain ⟨A, c, e, _⟩ := own_vs h.1 (by have := h.1.1; rw [flat_len] at this; omega)
  obtain ⟨A2, c2, e2, _⟩ := own_vs h.2 (by have := h.2.1; rw [flat_len] at this; omega)
  exact ⟨A, c, A2, c2, e, e2⟩
end
/-- two drawn transactions -/
def DET (w : World) (e : Ending) (w' : World) : Prop :=
  ∃ (x : Hd) (A : Option Addr) (n c : Nat) (R : List E2) (A2 : Option Addr) (n2 c2 : Nat) (S : List E2) (y : Hd) (F : Option Addr) (m d : Nat) (Q : List E2) (F2 : Option Addr) (m2 d2 : Nat) (Q2 : List E2), e = .returned (.tuple #[txv x (.slice A n c) (.slice A2 n2 c2), txv y (.slice F m d) (.slice F2 m2 d2)]) ∧ n ≤ 5 ∧ n2 ≤ 5 ∧ m ≤ 5 ∧ m2 ≤ 5 ∧ OwnT w' w.heap.size (.slice A n c) n R (.slice A2 n2 c2) n2 S ∧ OwnT w' w.heap.size (.slice F m d) m Q (.slice F2 m2 d2) m2 Q2 ∧ Below w.heap.size w w'
set_option maxRecDepth 100000 in
set_option maxHeartbeats 6400000 in
theorem draw_et (a : Option Addr) (len cap : Nat) (w : World) (hl : len ≤ 1048576) (hcode : CodeAt w w.heap.size a len) :
    Calls Try.prog 17 #[.slice a len cap] w (DET w) := by
  have HN := Lib.hid (fun W (hb : Below w.heap.size w W) => new_calls w.heap.size a len cap W hl (hcode.below (Nat.le_refl _) hb) hb.size)
  have HC := Lib.hid hcode
  clear hcode
  go_enter Try.func17, Try.ntmps17
  go_wp2_with fail
  have hb0 := new2 w (.cells #[.int .i64 0, .int .i64 0, .int .i64 0, .int .i64 0, .int .i64 0, .int .i64 0, .int .i64 0, .slice none 0 0, .slice none 0 0] 29) (.cells #[.int .i64 0, .int .i64 0, .int .i64 0, .int .i64 0, .int .i64 0, .int .i64 0, .int .i64 0, .slice none 0 0, .slice none 0 0] 29)
  have zr : Bx ((w.alloc (.cells #[.int .i64 0, .int .i64 0, .int .i64 0, .int .i64 0, .int .i64 0, .int .i64 0, .int .i64 0, .slice none 0 0, .slice none 0 0] 29)).alloc (.cells #[.int .i64 0, .int .i64 0, .int .i64 0, .int .i64 0, .int .i64 0, .int .i64 0, .int .i64 0, .slice none 0 0, .slice none 0 0] 29)) w.heap.size ⟨0, 0, 0, 0, 0, 0, 0⟩ (.slice none 0 0) (.slice none 0 0) := (Bx.zero w).alloc _
  have zv := Bx.zero (w.alloc (.cells #[.int .i64 0, .int .i64 0, .int .i64 0, .int .i64 0, .int .i64 0, .int .i64 0, .int .i64 0, .slice none 0 0, .slice none 0 0] 29))
  rw [show (w.alloc (.cells #[.int .i64 0, .int .i64 0, .int .i64 0, .int .i64 0, .int .i64 0, .int .i64 0, .int .i64 0, .slice none 0 0, .slice none 0 0] 29)).heap.size = w.heap.size + 1 by simp] at zv
  have hs0 : ((w.alloc (.cells #[.int .i64 0, .int .i64 0, .int .i64 0, .int .i64 0, .int .i64 0, .int .i64 0, .int .i64 0, .slice none 0 0, .slice none 0 0] 29)).alloc (.cells #[.int .i64 0, .int .i64 0, .int .i64 0, .int .i64 0, .int .i64 0, .int .i64 0, .int .i64 0, .slice none 0 0, .slice none 0 0] 29)).heap.size = w.heap.size + 2 := by simp
  generalize (w.alloc _).alloc _ = w0 at hb0 zr zv hs0 ⊢
  have HB0 := Lib.hid hb0
  clear hb0
  refine (HN.out w0 HB0.out).mono ?_
  rintro e W1 ⟨h, rfl, rfl⟩
  have hcur := cur_new w0 a len cap h
  have hb1 := HB0.out.alloc (by omega) (.cells #[.slice a len cap, .int .i64 0, .int .i64 h] 93)
  have hcd := HC.out.below (B' := w.heap.size) (Nat.le_refl _) hb1
  have zr1 := zr.alloc (.cells #[.slice a len cap, .int .i64 0, .int .i64 h] 93)
  have zv1 := zv.alloc (.cells #[.slice a len cap, .int .i64 0, .int .i64 h] 93)
  have hs1 : w.heap.size + 3 ≤ (w0.alloc (.cells #[.slice a len cap, .int .i64 0, .int .i64 h] 93)).heap.size := by simp; omega
  simp only [hs0] at hcur ⊢
  generalize w0.alloc (.cells #[.slice a len cap, .int .i64 0, .int .i64 h] 93) = W1 at hcur hcd hb1 zr1 zv1 hs1 ⊢
  have HO := Lib.hid (fun (n : Int) (hn : 0 < n) W (hW : CurAt W (w.heap.size + 2) a len cap) (hO : Kp w.heap.size (w.heap.size + 2) W1 W) => once_calls (w.heap.size + 2) w.heap.size a len cap n W hl hW (hcd.below (Nat.le_refl _) hO.bel) (by omega) hn)
  have HX := Lib.hid (fun W (hW : CurAt W (w.heap.size + 2) a len cap) (hO : Kp w.heap.size (w.heap.size + 2) W1 W) => Go.Proofs.Ytbnkkgjkhpbgiaa.dany.draw_anyt (w.heap.size + 2) w.heap.size a len cap W hl hW (hcd.below (Nat.le_refl _) hO.bel) (by omega))
  have HB1 := Lib.hid hb1
  have ZR1 := Lib.hid zr1
  have ZV1 := Lib.hid zv1
  have hbw : w.heap.size + 2 < W1.heap.size := hcur.lt
  have HCU := Lib.hid hcur
  clear hcur hcd hb1 zr zv zr1 zv1 HN HC HB0 hs0
  go_wp2_with fail
  refine (HX.out W1 HCU.out (Kp.refl _ _ _)).mono ?_
  rintro e W2 ⟨x, A, n, c, R, A2, n2, c2, S, rfl, hn, hn2, hown, hcu2, hkp2⟩
  have hz2 := hkp2.size
  have bo3 : Bo (W2.alloc (.cells #[.int .i64 x.i, .int .i64 x.s, .int .i64 x.t, .int .i64 x.b, .int .i64 x.l, .int .i64 x.h, .int .i64 x.c, .slice A n c, .slice A2 n2 c2] 29)) W1.heap.size W2.heap.size x A n c R A2 n2 c2 S := ⟨Bx.new W2 x _ _, hown.keep (el2.new1 W2 _), hz2⟩
  have k3 := hkp2.alloc (show w.heap.size ≤ W1.heap.size by omega) (.cells #[.int .i64 x.i, .int .i64 x.s, .int .i64 x.t, .int .i64 x.b, .int .i64 x.l, .int .i64 x.h, .int .i64 x.c, .slice A n c, .slice A2 n2 c2] 29)
  have c3 := hcu2.alloc (.cells #[.int .i64 x.i, .int .i64 x.s, .int .i64 x.t, .int .i64 x.b, .int .i64 x.l, .int .i64 x.h, .int .i64 x.c, .slice A n c, .slice A2 n2 c2] 29)
  clear hown hcu2 hkp2
  go_wp2_with fail
  generalize htb : W2.heap.size = tb at bo3 hz2 ⊢
  generalize W2.alloc _ = W3 at bo3 k3 c3 ⊢
  have K3 := Lib.hid k3
  have C3 := Lib.hid c3
  have B3 := Lib.hid bo3
  clear bo3 k3 c3 htb
  try go_wp2_with fail
  refine (HO.out 2 (by omega) W3 C3.out K3.out).mono ?_
  rintro e W4 ⟨q, rfl, hc4, ho4⟩
  have K4 := Lib.hid (K3.out.only ho4 (by omega))
  have C4 := Lib.hid hc4
  have B4 := Lib.hid (Bo.only B3.out (by omega) ho4)
  clear hc4 ho4 HO
  cases q
  case true =>
    have hbt := B4.out.lt
    obtain ⟨t0, t1, t2, t3, t4, t5, t6, t7, t8⟩ := B4.out.bx.tb
    have hz4 := K4.out.size
    try go_wp2_with fail
    have hbk0 : Below W4.heap.size W4 W4.drew := (Below.refl _ _).drew
    go_region_held3 (fun w' => w'.cell? ⟨tb, 0, none⟩ = some (.int .i64 x.i) ∧ w'.cell? ⟨tb, 1, none⟩ = some (.int .i64 x.s) ∧ w'.cell? ⟨tb, 2, none⟩ = some (.int .i64 x.t) ∧ w'.cell? ⟨tb, 3, none⟩ = some (.int .i64 x.b) ∧ w'.cell? ⟨tb, 4, none⟩ = some (.int .i64 x.l) ∧ w'.cell? ⟨tb, 5, none⟩ = some (.int .i64 x.h) ∧ w'.cell? ⟨tb, 6, none⟩ = some (.int .i64 x.c) ∧ w'.cell? ⟨tb, 7, none⟩ = some (.slice A n c) ∧ w'.cell? ⟨tb, 8, none⟩ = some (.slice A2 n2 c2)) (first | go_keep | (repeat' apply And.intro) <;> first | with_reducible exact (put9_cell (by simp only; omega)).trans (by assumption) | with_reducible exact (put9_cell (by simp only; omega)).trans ((put9_cell (by simp only; omega)).trans (by assumption))) (first | (go_at_call 43; (with_reducible refine (copy_m x (by omega) (by omega) (Bo.vs (B4.out.keep hbk0)) (Bo.vs2 (B4.out.keep hbk0)) (Nat.le_refl _)).mono ?_); rintro e W5 ⟨u5, v5, he, hown, hb5⟩; obtain ⟨F, d, F2, d2, e1, e2⟩ := own_slices hown; subst e1; subst e2; subst he; have hbk1 := hbk0.trans (hb5.mono hbk0.size); have B5 := B4.out.keep hbk1; have hown : OwnT W5 W4.heap.size (.slice F n d) n R (.slice F2 n2 d2) n2 S := hown; have K5 : Kp w.heap.size (w.heap.size + 2) W1 W5 := K4.out.trans ⟨hbk1.mono (by omega), hbk1.os, hbk1.tape, hbk1.output, hbk1.size, fun k hk _ => hbk1.block k hk⟩; obtain ⟨s0, s1, s2, s3, s4, s5, s6, s7, s8⟩ := B5.bx.tb; have ZR5 := ZR1.out.of_block (K5.gr.block w.heap.size (by omega) (fun e => by injection e with e; omega)); have ZV5 := ZV1.out.of_block (K5.gr.block (w.heap.size + 1) (by omega) (fun e => by injection e with e; omega)); obtain ⟨z0, z1, z2, z3, z4, z5, z6, z7, z8⟩ := ZR5.tb; have y0 := ZR5.fz 0; have y1 := ZR5.fz 1; have y2 := ZR5.fz 2; have y3 := ZR5.fz 3; have y4 := ZR5.fz 4; have y5 := ZR5.fz 5; have y6 := ZR5.fz 6; have y7 := ZR5.fz 7; have y8 := ZR5.fz 8; obtain ⟨g0, g1, g2, g3, g4, g5, g6, g7, g8⟩ := ZV5.tb; have f0 := ZV5.fz 0; have f1 := ZV5.fz 1; have f2 := ZV5.fz 2; have f3 := ZV5.fz 3; have f4 := ZV5.fz 4; have f5 := ZV5.fz 5; have f6 := ZV5.fz 6; have f7 := ZV5.fz 7; have f8 := ZV5.fz 8))
    all_goals
      have hbel := HB1.out.trans K5.bel
      have hF := fun W' hW => fin_xy (W' := W') (w := w) (x := x) (y := x) (base := W1.heap.size) (base2 := W4.heap.size) ZR5 ZV5 B5.own hown hbel (Nat.le_refl _) (Nat.le_succ _) (by omega) (by omega) (by omega) (by omega) (by omega) hW
      have hG := fun W' hW => fin_yx (W' := W') (w := w) (x := x) (y := x) (base := W1.heap.size) (base2 := W4.heap.size) ZR5 ZV5 B5.own hown hbel (Nat.le_refl _) (Nat.le_succ _) (by omega) (by omega) (by omega) (by omega) (by omega) hW
      clear hbk0 t0 t1 t2 t3 t4 t5 t6 t7 t8 s0 s1 s2 s3 s4 s5 s6 s7 s8 z0 z1 z2 z3 z4 z5 z6 z7 z8 y0 y1 y2 y3 y4 y5 y6 y7 y8 g0 g1 g2 g3 g4 g5 g6 g7 g8 f0 f1 f2 f3 f4 f5 f6 f7 f8
      try go_wp2_with fail
      generalize hW : World.setCell _ _ _ = W9
      obtain ⟨⟨e0, e1, e2, e3, e4, e5, e6, e7, e8⟩, ⟨q0, q1, q2, q3, q4, q5, q6, q7, q8⟩, hO, hO2, hB9⟩ := (by first | exact hF W9 hW | exact hG W9 hW : Two w W9 w.heap.size (w.heap.size + 1) x A n c R A2 n2 c2 S x F n d R F2 n2 d2 S)
      exact bodyPost_ret (v := .tuple #[txv x (.slice A n c) (.slice A2 n2 c2), txv x (.slice F n d) (.slice F2 n2 d2)]) (by simp [results, Try.results17, go_sem, e0, e1, e2, e3, e4, e5, e6, e7, e8, q0, q1, q2, q3, q4, q5, q6, q7, q8]) rfl ⟨x, A, n, c, R, A2, n2, c2, S, x, F, n, d, R, F2, n2, d2, S, rfl, hn, hn2, hn, hn2, hO, hO2, hB9⟩
  case false =>
    have hbt := B4.out.lt
    obtain ⟨t0, t1, t2, t3, t4, t5, t6, t7, t8⟩ := B4.out.bx.tb
    have hz4 := K4.out.size
    try go_wp2_with fail
    have hbk0 : Below W4.heap.size W4 W4.drew := (Below.refl _ _).drew
    go_region_held3 (fun w' => w'.cell? ⟨tb, 0, none⟩ = some (.int .i64 x.i) ∧ w'.cell? ⟨tb, 1, none⟩ = some (.int .i64 x.s) ∧ w'.cell? ⟨tb, 2, none⟩ = some (.int .i64 x.t) ∧ w'.cell? ⟨tb, 3, none⟩ = some (.int .i64 x.b) ∧ w'.cell? ⟨tb, 4, none⟩ = some (.int .i64 x.l) ∧ w'.cell? ⟨tb, 5, none⟩ = some (.int .i64 x.h) ∧ w'.cell? ⟨tb, 6, none⟩ = some (.int .i64 x.c) ∧ w'.cell? ⟨tb, 7, none⟩ = some (.slice A n c) ∧ w'.cell? ⟨tb, 8, none⟩ = some (.slice A2 n2 c2)) (first | go_keep | (repeat' apply And.intro) <;> first | with_reducible exact (put9_cell (by simp only; omega)).trans (by assumption) | with_reducible exact (put9_cell (by simp only; omega)).trans ((put9_cell (by simp only; omega)).trans (by assumption))) (first | (go_at_call 41; have hcp : CurAt W4.drew (w.heap.size + 2) a len cap := C4.out; (with_reducible refine (HX.out W4.drew hcp K4.out.drew).mono ?_); rintro e W5 ⟨x5, F, m, d, Q, F2, m2, d2, Q2, he, hm, hm2, hown, hc5, hk5⟩; subst he; have hk5' : Kp w.heap.size (w.heap.size + 2) W4 W5 := ⟨⟨hk5.bel.os, hk5.bel.tape, hk5.bel.output, hk5.bel.size, hk5.bel.block⟩, ⟨hk5.gr.os, hk5.gr.tape, hk5.gr.output, hk5.gr.size, hk5.gr.block⟩⟩; have B5 := Bo.kp B4.out (by omega) hk5'; have hown : OwnT W5 W4.heap.size (.slice F m d) m Q (.slice F2 m2 d2) m2 Q2 := hown; have K5 := K4.out.trans hk5'; obtain ⟨s0, s1, s2, s3, s4, s5, s6, s7, s8⟩ := B5.bx.tb; have ZR5 := ZR1.out.of_block (K5.gr.block w.heap.size (by omega) (fun e => by injection e with e; omega)); have ZV5 := ZV1.out.of_block (K5.gr.block (w.heap.size + 1) (by omega) (fun e => by injection e with e; omega)); obtain ⟨z0, z1, z2, z3, z4, z5, z6, z7, z8⟩ := ZR5.tb; have y0 := ZR5.fz 0; have y1 := ZR5.fz 1; have y2 := ZR5.fz 2; have y3 := ZR5.fz 3; have y4 := ZR5.fz 4; have y5 := ZR5.fz 5; have y6 := ZR5.fz 6; have y7 := ZR5.fz 7; have y8 := ZR5.fz 8; obtain ⟨g0, g1, g2, g3, g4, g5, g6, g7, g8⟩ := ZV5.tb; have f0 := ZV5.fz 0; have f1 := ZV5.fz 1; have f2 := ZV5.fz 2; have f3 := ZV5.fz 3; have f4 := ZV5.fz 4; have f5 := ZV5.fz 5; have f6 := ZV5.fz 6; have f7 := ZV5.fz 7; have f8 := ZV5.fz 8))
    all_goals
      have hbel := HB1.out.trans K5.bel
      have hF := fun W' hW => fin_xy (W' := W') (w := w) (x := x) (y := x5) (base := W1.heap.size) (base2 := W4.heap.size) ZR5 ZV5 B5.own hown hbel (Nat.le_refl _) (Nat.le_succ _) (by omega) (by omega) (by omega) (by omega) (by omega) hW
      have hG := fun W' hW => fin_yx (W' := W') (w := w) (x := x) (y := x5) (base := W1.heap.size) (base2 := W4.heap.size) ZR5 ZV5 B5.own hown hbel (Nat.le_refl _) (Nat.le_succ _) (by omega) (by omega) (by omega) (by omega) (by omega) hW
      clear hbk0 t0 t1 t2 t3 t4 t5 t6 t7 t8 s0 s1 s2 s3 s4 s5 s6 s7 s8 z0 z1 z2 z3 z4 z5 z6 z7 z8 y0 y1 y2 y3 y4 y5 y6 y7 y8 g0 g1 g2 g3 g4 g5 g6 g7 g8 f0 f1 f2 f3 f4 f5 f6 f7 f8
      try go_wp2_with fail
      generalize hW : World.setCell _ _ _ = W9
      obtain ⟨⟨e0, e1, e2, e3, e4, e5, e6, e7, e8⟩, ⟨q0, q1, q2, q3, q4, q5, q6, q7, q8⟩, hO, hO2, hB9⟩ := (by first | exact hF W9 hW | exact hG W9 hW : Two w W9 w.heap.size (w.heap.size + 1) x A n c R A2 n2 c2 S x5 F m d Q F2 m2 d2 Q2)
      exact bodyPost_ret (v := .tuple #[txv x (.slice A n c) (.slice A2 n2 c2), txv x5 (.slice F m d) (.slice F2 m2 d2)]) (by simp [results, Try.results17, go_sem, e0, e1, e2, e3, e4, e5, e6, e7, e8, q0, q1, q2, q3, q4, q5, q6, q7, q8]) rfl ⟨x, A, n, c, R, A2, n2, c2, S, x5, F, m, d, Q, F2, m2, d2, Q2, rfl, hn, hn2, hm, hm2, hO, hO2, hB9⟩
end Go.Proofs.Ytbnkkgjkhpbgiaa.det
/- FnTransactions: the walk at a code that is not too long. -/
namespace Go.Proofs.Ytbnkkgjkhpbgiaa.trc
open Go.ChangeShapes Go.WideShapes Go.ChangeAt Go.RowKit
open Go.Proofs.Ytbnkkgjkhpbgiaa.el2 Go.Proofs.Ytbnkkgjkhpbgiaa.tx Go.Proofs.Ytbnkkgjkhpbgiaa.seq Go.Proofs.Ytbnkkgjkhpbgiaa.tv Go.Proofs.Ytbnkkgjkhpbgiaa.tf Go.Proofs.Ytbnkkgjkhpbgiaa.bx Go.Proofs.Ytbnkkgjkhpbgiaa.te
open Go.Proofs.Ytbnkkgjkhpbgiaa.cur (CurAt CodeAt big_no)
open Go.Proofs.Ytbnkkgjkhpbgiaa.vers (new2)
set_option linter.unusedVariables false
set_option linter.unusedSimpArgs false
theorem code_more {w : World} {B B' : Nat} {a : Option Addr} {len : Nat} (h : CodeAt w B a len) (hB : B ≤ B') : CodeAt w B' a len := by
  intro j hj
  obtain ⟨cb, off, z, h1, h2, h3, h4, h5⟩ := h j hj
  exact ⟨cb, off, z, h1, by omega, h3, h4, h5⟩
theorem vs_none (W : World) (B : Nat) : Vs W B none 0 [] := ⟨rfl, fun h => absurd h (by omega)⟩
theorem eqT_sym (x y : Hd) (R S Q Q2 : List E2) : eqT y Q Q2 x R S = eqT x R S y Q Q2 := by
  by_cases h : x = y ∧ R = Q ∧ S = Q2
  · rw [eqT_yes h, eqT_yes ⟨h.1.symm, h.2.1.symm, h.2.2.symm⟩]
  · rw [eqT_no h, eqT_no fun h' => h ⟨h'.1.symm, h'.2.1.symm, h'.2.2.symm⟩]
theorem own_two {w : World} {base n c n2 c2 : Nat} {A A2 : Option Addr} {R S : List E2} (h : OwnT w base (.slice A n c) n R (.slice A2 n2 c2) n2 S) : Vs w w.heap.size A n R ∧ Vs w w.heap.size A2 n2 S := by
  obtain ⟨A', c', e, hv, _⟩ := own_vs h.1 (by have := h.1.1; rw [flat_len] at this; omega)
  obtain ⟨A2', c2', e2, hv2, _⟩ := own_vs h.2 (by have := h.2.1; rw [flat_len] at this; omega)
  injection e with e1 _ e3
  injection e2 with f1 _ f3
  subst e1
  subst f1
  exact ⟨hv, hv2⟩
set_option maxRecDepth 100000 in
set_option maxHeartbeats 6400000 in
theorem core (a : Option Addr) (len cap : Nat) (w : World) (hl : len ≤ 1048576) (hcode : CodeAt w w.heap.size a len) :
    Calls Try.prog 3 #[.slice a len cap] w fun e w' => e = .returned (.bool true) ∧ Below w.heap.size w w' := by
  have BIG := Lib.hid (big_no a len cap w (by omega))
  have HT := Lib.hid (Go.Proofs.Ytbnkkgjkhpbgiaa.dnt.draw_nt a len cap w hl hcode)
  have HC := Lib.hid hcode
  clear hcode
  go_enter Try.func3, Try.ntmps3
  go_wp2_with fail
  refine BIG.out.mono ?_
  rintro e w' ⟨rfl, rfl⟩
  clear BIG
  go_wp2_with fail
  refine HT.out.mono ?_
  rintro e W1 ⟨i, s, b, rfl, hb1⟩
  have HB1 := Lib.hid hb1
  clear hb1 HT
  obtain ⟨q1, hq1⟩ : ∃ q, Go.Proofs.Ytbnkkgjkhpbgiaa.tn.nwT i s b = q := ⟨_, rfl⟩
  have HQ1 := Lib.hid hq1
  clear hq1
  obtain ⟨q2, hq2⟩ : ∃ q, Go.Proofs.Ytbnkkgjkhpbgiaa.tn.nwB i s b = q := ⟨_, rfl⟩
  have HQ2 := Lib.hid hq2
  clear hq2
  obtain ⟨q3, hq3⟩ : ∃ q, Go.Proofs.Ytbnkkgjkhpbgiaa.tn.sn s = q := ⟨_, rfl⟩
  have HQ3 := Lib.hid hq3
  clear hq3
  go_wp2_with fail
  refine (Go.Proofs.Ytbnkkgjkhpbgiaa.tn.impl_new i s b W1).mono ?_
  rintro e W2 ⟨he, hb⟩
  rw [HQ1.out, HQ2.out] at he
  subst he
  have HB2 := Lib.hid (HB1.out.trans (hb.mono HB1.out.size))
  clear hb
  have hn3 := new1 W2 (.cells #[.int .i64 q1.i, .int .i64 q1.s, .int .i64 q1.t, .int .i64 q1.b, .int .i64 q1.l, .int .i64 q1.h, .int .i64 q1.c, .slice none 0 0, .slice none 0 0] 29)
  have t6 := TB.new W2 q1 none 0 0 none 0 0 29
  have hb3 := HB2.out.trans (hn3.mono HB2.out.size)
  have hz6 : W2.heap.size < (W2.alloc (.cells #[.int .i64 q1.i, .int .i64 q1.s, .int .i64 q1.t, .int .i64 q1.b, .int .i64 q1.l, .int .i64 q1.h, .int .i64 q1.c, .slice none 0 0, .slice none 0 0] 29)).heap.size := by simp
  clear hn3
  go_wp2_with fail
  generalize hk6 : W2.heap.size = b6 at t6 hz6 ⊢
  generalize W2.alloc _ = W3 at t6 hz6 hb3 ⊢
  have T6 := Lib.hid t6
  have HB3 := Lib.hid hb3
  clear t6 hb3 hk6
  refine (Go.Proofs.Ytbnkkgjkhpbgiaa.tn.spec_new i s b W3).mono ?_
  rintro e W4 ⟨he, hb⟩
  rw [HQ1.out, HQ2.out] at he
  subst he
  have HB4 := Lib.hid (HB3.out.trans (hb.mono HB3.out.size))
  have t6 := TB.keep T6.out hz6 hb
  have hz4 : b6 < W4.heap.size := Nat.lt_of_lt_of_le hz6 hb.size
  clear hb T6
  have hn3 := new1 W4 (.cells #[.int .i64 q1.i, .int .i64 q1.s, .int .i64 q1.t, .int .i64 q1.b, .int .i64 q1.l, .int .i64 q1.h, .int .i64 q1.c, .slice none 0 0, .slice none 0 0] 29)
  have t8 := TB.new W4 q1 none 0 0 none 0 0 29
  have t6 := TB.keep t6 hz4 hn3
  have hb3 := HB4.out.trans (hn3.mono HB4.out.size)
  have hz8 : W4.heap.size < (W4.alloc (.cells #[.int .i64 q1.i, .int .i64 q1.s, .int .i64 q1.t, .int .i64 q1.b, .int .i64 q1.l, .int .i64 q1.h, .int .i64 q1.c, .slice none 0 0, .slice none 0 0] 29)).heap.size := by simp
  clear hn3 hz6
  have T6 := Lib.hid t6
  have T8 := Lib.hid t8
  obtain ⟨r0, r1, r2, r3, r4, r5, r6, r7, r8⟩ := t6
  obtain ⟨v0, v1, v2, v3, v4, v5, v6, v7, v8⟩ := t8
  go_wp2_with fail
  clear r0 r1 r2 r3 r4 r5 r6 r7 r8 v0 v1 v2 v3 v4 v5 v6 v7 v8
  generalize hk8 : W4.heap.size = b8 at T8 hz8 hz4 ⊢
  generalize W4.alloc _ = W5 at T6 T8 hz8 hb3 ⊢
  have HB5 := Lib.hid hb3
  have hz6 : b6 < W5.heap.size := by omega
  clear hb3 hk8 hz4
  have HEQ : Hid (eqT q1 [] [] q1 [] [] = true) := Lib.hid (eqT_yes ⟨rfl, rfl, rfl⟩)
  refine (Go.Proofs.Ytbnkkgjkhpbgiaa.te.impl_eqtx q1 q1 (by omega) (by omega) (by omega) (by omega) (vs_none _ _) (vs_none _ _) (vs_none _ _) (vs_none _ _) (Nat.le_refl _)).mono ?_
  rintro e W6 ⟨he, hb⟩
  rw [HEQ.out] at he
  subst he
  have HB6 := Lib.hid (HB5.out.trans (hb.mono HB5.out.size))
  have t6 := TB.keep T6.out hz6 hb
  have T6 := Lib.hid t6
  have hz6 : b6 < W6.heap.size := Nat.lt_of_lt_of_le hz6 hb.size
  clear hb T8 hz8 t6
  go_wp2_with fail
  refine (Go.Proofs.Ytbnkkgjkhpbgiaa.tn.impl_scheme s W6).mono ?_
  rintro e W7 ⟨he, hb⟩
  rw [HQ3.out] at he
  subst he
  have HB7 := Lib.hid (HB6.out.trans (hb.mono HB6.out.size))
  have t6 := TB.keep T6.out hz6 hb
  have T6 := Lib.hid t6
  have hz6 : b6 < W7.heap.size := Nat.lt_of_lt_of_le hz6 hb.size
  clear hb t6
  go_wp2_with fail
  refine (Go.Proofs.Ytbnkkgjkhpbgiaa.tn.spec_scheme s W7).mono ?_
  rintro e W8 ⟨he, hb⟩
  rw [HQ3.out] at he
  subst he
  have HB8 := Lib.hid (HB7.out.trans (hb.mono HB7.out.size))
  have t6 := TB.keep T6.out hz6 hb
  have T6 := Lib.hid t6
  have hz6 : b6 < W8.heap.size := Nat.lt_of_lt_of_le hz6 hb.size
  clear hb t6
  cases q2
  · go_wp2_with fail
    refine (Go.Proofs.Ytbnkkgjkhpbgiaa.det.draw_et a len cap W8 hl (code_more (HC.out.below (Nat.le_refl _) HB8.out) HB8.out.size)).mono ?_
    rintro e Wa ⟨x, A, n, c, R, A2, n2, c2, S, y, F, m, d, Q, F2, m2, d2, Q2, rfl, hn, hn2, hm, hm2, ho1, ho2, hba⟩
    have hnn := new2 Wa (.cells #[.int .i64 x.i, .int .i64 x.s, .int .i64 x.t, .int .i64 x.b, .int .i64 x.l, .int .i64 x.h, .int .i64 x.c, .slice A n c, .slice A2 n2 c2] 29) (.cells #[.int .i64 y.i, .int .i64 y.s, .int .i64 y.t, .int .i64 y.b, .int .i64 y.l, .int .i64 y.h, .int .i64 y.c, .slice F m d, .slice F2 m2 d2] 29)
    obtain ⟨v1, v2⟩ := own_two ho1
    obtain ⟨v3, v4⟩ := own_two ho2
    have tx0 := TB.keep (TB.new Wa x A n c A2 n2 c2 29) (by simp) (new1 (Wa.alloc (.cells #[.int .i64 x.i, .int .i64 x.s, .int .i64 x.t, .int .i64 x.b, .int .i64 x.l, .int .i64 x.h, .int .i64 x.c, .slice A n c, .slice A2 n2 c2] 29)) (.cells #[.int .i64 y.i, .int .i64 y.s, .int .i64 y.t, .int .i64 y.b, .int .i64 y.l, .int .i64 y.h, .int .i64 y.c, .slice F m d, .slice F2 m2 d2] 29))
    have ty0 := TB.new (Wa.alloc (.cells #[.int .i64 x.i, .int .i64 x.s, .int .i64 x.t, .int .i64 x.b, .int .i64 x.l, .int .i64 x.h, .int .i64 x.c, .slice A n c, .slice A2 n2 c2] 29)) y F m d F2 m2 d2 29
    rw [show (Wa.alloc (.cells #[.int .i64 x.i, .int .i64 x.s, .int .i64 x.t, .int .i64 x.b, .int .i64 x.l, .int .i64 x.h, .int .i64 x.c, .slice A n c, .slice A2 n2 c2] 29)).heap.size = Wa.heap.size + 1 by simp] at ty0
    have hzz : Wa.heap.size + 2 ≤ ((Wa.alloc (.cells #[.int .i64 x.i, .int .i64 x.s, .int .i64 x.t, .int .i64 x.b, .int .i64 x.l, .int .i64 x.h, .int .i64 x.c, .slice A n c, .slice A2 n2 c2] 29)).alloc (.cells #[.int .i64 y.i, .int .i64 y.s, .int .i64 y.t, .int .i64 y.b, .int .i64 y.l, .int .i64 y.h, .int .i64 y.c, .slice F m d, .slice F2 m2 d2] 29)).heap.size := by simp
    have w1 := Lib.hid (v1.below hnn)
    have w2 := Lib.hid (v2.below hnn)
    have w3 := Lib.hid (v3.below hnn)
    have w4 := Lib.hid (v4.below hnn)
    have hbb := (HB8.out.trans (hba.mono HB8.out.size)).trans (hnn.mono (Nat.le_trans HB8.out.size hba.size))
    clear v1 v2 v3 v4 ho1 ho2 hba hnn
    go_wp2_with fail
    generalize hk : Wa.heap.size = bx at tx0 ty0 hzz w1 w2 w3 w4 ⊢
    generalize (Wa.alloc _).alloc _ = Wb at tx0 ty0 hzz hbb w1 w2 w3 w4 ⊢
    have V1 := Lib.hid (w1.out.more (show bx ≤ Wb.heap.size by omega))
    have V2 := Lib.hid (w2.out.more (show bx ≤ Wb.heap.size by omega))
    have V3 := Lib.hid (w3.out.more (show bx ≤ Wb.heap.size by omega))
    have V4 := Lib.hid (w4.out.more (show bx ≤ Wb.heap.size by omega))
    have HBB := Lib.hid hbb
    have TX := Lib.hid tx0
    have TY := Lib.hid ty0
    clear w1 w2 w3 w4 hbb hk
    obtain ⟨qe, hqe⟩ : ∃ q, eqT x R S y Q Q2 = q := ⟨_, rfl⟩
    have HQe := Lib.hid hqe
    obtain ⟨qg, hqg⟩ : ∃ q, txB x R S = q := ⟨_, rfl⟩
    have HQg := Lib.hid hqg
    obtain ⟨qh, hqh⟩ : ∃ q, (txB x R S && decide (n2 = 0)) = q := ⟨_, rfl⟩
    have HQh := Lib.hid hqh
    have HQe2 := Lib.hid ((eqT_sym x y R S Q Q2).trans hqe)
    clear hqe hqg hqh
    have hbk0 : Below Wb.heap.size Wb Wb.drew := (Below.refl _ _).drew
    obtain ⟨r0, r1, r2, r3, r4, r5, r6, r7, r8⟩ := tx0
    obtain ⟨v0, v1, v2, v3, v4, v5, v6, v7, v8⟩ := ty0
    have hzx : bx < Wb.heap.size := by omega
    have hzy : bx + 1 < Wb.heap.size := by omega
    try go_wp2_with fail
    go_region_held3 (fun w' => w'.cell? ⟨bx, 0, none⟩ = some (.int .i64 x.i) ∧ w'.cell? ⟨bx, 1, none⟩ = some (.int .i64 x.s) ∧ w'.cell? ⟨bx, 2, none⟩ = some (.int .i64 x.t) ∧ w'.cell? ⟨bx, 3, none⟩ = some (.int .i64 x.b) ∧ w'.cell? ⟨bx, 4, none⟩ = some (.int .i64 x.l) ∧ w'.cell? ⟨bx, 5, none⟩ = some (.int .i64 x.h) ∧ w'.cell? ⟨bx, 6, none⟩ = some (.int .i64 x.c) ∧ w'.cell? ⟨bx, 7, none⟩ = some (.slice A n c) ∧ w'.cell? ⟨bx, 8, none⟩ = some (.slice A2 n2 c2) ∧ w'.cell? ⟨bx + 1, 0, none⟩ = some (.int .i64 y.i) ∧ w'.cell? ⟨bx + 1, 1, none⟩ = some (.int .i64 y.s) ∧ w'.cell? ⟨bx + 1, 2, none⟩ = some (.int .i64 y.t) ∧ w'.cell? ⟨bx + 1, 3, none⟩ = some (.int .i64 y.b) ∧ w'.cell? ⟨bx + 1, 4, none⟩ = some (.int .i64 y.l) ∧ w'.cell? ⟨bx + 1, 5, none⟩ = some (.int .i64 y.h) ∧ w'.cell? ⟨bx + 1, 6, none⟩ = some (.int .i64 y.c) ∧ w'.cell? ⟨bx + 1, 7, none⟩ = some (.slice F m d) ∧ w'.cell? ⟨bx + 1, 8, none⟩ = some (.slice F2 m2 d2)) (go_keep) (first | (go_at_call 20; (with_reducible refine (spec_ro x (by omega) (by omega) (V1.out.below hbk7) (V2.out.below hbk7) hbk7.size).mono ?_); rintro e X8 ⟨he, hb⟩; rw [HQh.out] at he; subst he; have hbk8 := hbk7.trans (hb.mono hbk7.size); clear hb; obtain ⟨ut0, ut1, ut2, ut3, ut4, ut5, ut6, ut7, ut8⟩ := TB.keep TX.out hzx hbk8; obtain ⟨zt0, zt1, zt2, zt3, zt4, zt5, zt6, zt7, zt8⟩ := TB.keep TY.out hzy hbk8) | (go_at_call 15; (with_reducible refine (impl_ro x (by omega) (by omega) (V1.out.below hbk6) (V2.out.below hbk6) hbk6.size).mono ?_); rintro e X7 ⟨he, hb⟩; rw [HQh.out] at he; subst he; have hbk7 := hbk6.trans (hb.mono hbk6.size); clear hb; obtain ⟨us0, us1, us2, us3, us4, us5, us6, us7, us8⟩ := TB.keep TX.out hzx hbk7; obtain ⟨zs0, zs1, zs2, zs3, zs4, zs5, zs6, zs7, zs8⟩ := TB.keep TY.out hzy hbk7) | (go_at_call 19; (with_reducible refine (tvs.spec_tx x (by omega) (by omega) (V1.out.below hbk5) (V2.out.below hbk5) hbk5.size).mono ?_); rintro e X6 ⟨he, hb⟩; rw [HQg.out] at he; subst he; have hbk6 := hbk5.trans (hb.mono hbk5.size); clear hb; obtain ⟨up0, up1, up2, up3, up4, up5, up6, up7, up8⟩ := TB.keep TX.out hzx hbk6; obtain ⟨zp0, zp1, zp2, zp3, zp4, zp5, zp6, zp7, zp8⟩ := TB.keep TY.out hzy hbk6) | (go_at_call 14; (with_reducible refine (impl_tx x (by omega) (by omega) (V1.out.below hbk4) (V2.out.below hbk4) hbk4.size).mono ?_); rintro e X5 ⟨he, hb⟩; rw [HQg.out] at he; subst he; have hbk5 := hbk4.trans (hb.mono hbk4.size); clear hb; obtain ⟨uo0, uo1, uo2, uo3, uo4, uo5, uo6, uo7, uo8⟩ := TB.keep TX.out hzx hbk5; obtain ⟨zo0, zo1, zo2, zo3, zo4, zo5, zo6, zo7, zo8⟩ := TB.keep TY.out hzy hbk5) | (go_at_call 11; (with_reducible refine (Go.Proofs.Ytbnkkgjkhpbgiaa.te.impl_eqtx y x (by omega) (by omega) (by omega) (by omega) (V3.out.below hbk3) (V4.out.below hbk3) (V1.out.below hbk3) (V2.out.below hbk3) hbk3.size).mono ?_); rintro e X4 ⟨he, hb⟩; rw [HQe2.out] at he; subst he; have hbk4 := hbk3.trans (hb.mono hbk3.size); clear hb; obtain ⟨un0, un1, un2, un3, un4, un5, un6, un7, un8⟩ := TB.keep TX.out hzx hbk4; obtain ⟨zn0, zn1, zn2, zn3, zn4, zn5, zn6, zn7, zn8⟩ := TB.keep TY.out hzy hbk4) | (go_at_call 11; (with_reducible refine (Go.Proofs.Ytbnkkgjkhpbgiaa.te.impl_eqtx x y (by omega) (by omega) (by omega) (by omega) (V1.out.below hbk2) (V2.out.below hbk2) (V3.out.below hbk2) (V4.out.below hbk2) hbk2.size).mono ?_); rintro e X3 ⟨he, hb⟩; rw [HQe.out] at he; subst he; have hbk3 := hbk2.trans (hb.mono hbk2.size); clear hb; obtain ⟨um0, um1, um2, um3, um4, um5, um6, um7, um8⟩ := TB.keep TX.out hzx hbk3; obtain ⟨zm0, zm1, zm2, zm3, zm4, zm5, zm6, zm7, zm8⟩ := TB.keep TY.out hzy hbk3) | (go_at_call 18; (with_reducible refine (Go.Proofs.Ytbnkkgjkhpbgiaa.te.spec_eqtx x y (by omega) (by omega) (by omega) (by omega) (V1.out.below hbk1) (V2.out.below hbk1) (V3.out.below hbk1) (V4.out.below hbk1) hbk1.size).mono ?_); rintro e X2 ⟨he, hb⟩; rw [HQe.out] at he; subst he; have hbk2 := hbk1.trans (hb.mono hbk1.size); clear hb; obtain ⟨ul0, ul1, ul2, ul3, ul4, ul5, ul6, ul7, ul8⟩ := TB.keep TX.out hzx hbk2; obtain ⟨zl0, zl1, zl2, zl3, zl4, zl5, zl6, zl7, zl8⟩ := TB.keep TY.out hzy hbk2) | (go_at_call 11; (with_reducible refine (Go.Proofs.Ytbnkkgjkhpbgiaa.te.impl_eqtx x y (by omega) (by omega) (by omega) (by omega) (V1.out.below hbk0) (V2.out.below hbk0) (V3.out.below hbk0) (V4.out.below hbk0) hbk0.size).mono ?_); rintro e X1 ⟨he, hb⟩; rw [HQe.out] at he; subst he; have hbk1 := hbk0.trans (hb.mono hbk0.size); clear hb; obtain ⟨uk0, uk1, uk2, uk3, uk4, uk5, uk6, uk7, uk8⟩ := TB.keep TX.out hzx hbk1; obtain ⟨zk0, zk1, zk2, zk3, zk4, zk5, zk6, zk7, zk8⟩ := TB.keep TY.out hzy hbk1))
    all_goals
      have HEND := Lib.hid (HBB.out.trans (hbk8.mono HBB.out.size))
      clear hbk0 r0 r1 r2 r3 r4 r5 r6 r7 r8 v0 v1 v2 v3 v4 v5 v6 v7 v8 hbk1 uk0 uk1 uk2 uk3 uk4 uk5 uk6 uk7 uk8 zk0 zk1 zk2 zk3 zk4 zk5 zk6 zk7 zk8 hbk2 ul0 ul1 ul2 ul3 ul4 ul5 ul6 ul7 ul8 zl0 zl1 zl2 zl3 zl4 zl5 zl6 zl7 zl8 hbk3 um0 um1 um2 um3 um4 um5 um6 um7 um8 zm0 zm1 zm2 zm3 zm4 zm5 zm6 zm7 zm8 hbk4 un0 un1 un2 un3 un4 un5 un6 un7 un8 zn0 zn1 zn2 zn3 zn4 zn5 zn6 zn7 zn8 hbk5 uo0 uo1 uo2 uo3 uo4 uo5 uo6 uo7 uo8 zo0 zo1 zo2 zo3 zo4 zo5 zo6 zo7 zo8 hbk6 up0 up1 up2 up3 up4 up5 up6 up7 up8 zp0 zp1 zp2 zp3 zp4 zp5 zp6 zp7 zp8 hbk7 us0 us1 us2 us3 us4 us5 us6 us7 us8 zs0 zs1 zs2 zs3 zs4 zs5 zs6 zs7 zs8 hbk8 ut0 ut1 ut2 ut3 ut4 ut5 ut6 ut7 ut8 zt0 zt1 zt2 zt3 zt4 zt5 zt6 zt7 zt8
      try go_wp2_with fail
      go_ret
      exact ⟨rfl, HEND.out⟩
  · have hy := HQ2.out
    have hn0 : q1 = Go.Proofs.Ytbnkkgjkhpbgiaa.tn.n0 i s b := by rw [← HQ1.out]; exact Go.Proofs.Ytbnkkgjkhpbgiaa.tn.nw_yes hy
    have HV : Hid (txB q1 [] [] = true) := Lib.hid (by rw [hn0]; exact hy)
    have HX : Hid (Go.Proofs.Ytbnkkgjkhpbgiaa.fw.excB q1 [] [] = false) := Lib.hid (by rw [hn0]; simp [Go.Proofs.Ytbnkkgjkhpbgiaa.fw.excB, Go.Proofs.Ytbnkkgjkhpbgiaa.tn.n0])
    have hst : (q1.t != 1) = false := by rw [hn0]; rfl
    clear hy hn0
    obtain ⟨r0, r1, r2, r3, r4, r5, r6, r7, r8⟩ := T6.out
    go_wp2_with fail
    clear r0 r1 r2 r3 r4 r5 r6 r7 r8
    refine (impl_tx q1 (by omega) (by omega) (vs_none _ _) (vs_none _ _) (Nat.le_refl _)).mono ?_
    rintro e W9 ⟨he, hb⟩
    rw [HV.out] at he
    subst he
    have HB9 := Lib.hid (HB8.out.trans (hb.mono HB8.out.size))
    have t6 := TB.keep T6.out hz6 hb
    have T6 := Lib.hid t6
    have hz6 : b6 < W9.heap.size := Nat.lt_of_lt_of_le hz6 hb.size
    clear hb t6
    obtain ⟨r0, r1, r2, r3, r4, r5, r6, r7, r8⟩ := T6.out
    go_wp2_with fail
    clear r0 r1 r2 r3 r4 r5 r6 r7 r8
    refine (impl_ro q1 (by omega) (by omega) (vs_none _ _) (vs_none _ _) (Nat.le_refl _)).mono ?_
    rintro e W10 ⟨he, hb⟩
    replace he : e = .returned (.bool true) := by rw [he, HV.out]; rfl
    subst he
    have HB10 := Lib.hid (HB9.out.trans (hb.mono HB9.out.size))
    have t6 := TB.keep T6.out hz6 hb
    have T6 := Lib.hid t6
    have hz6 : b6 < W10.heap.size := Nat.lt_of_lt_of_le hz6 hb.size
    clear hb t6
    obtain ⟨r0, r1, r2, r3, r4, r5, r6, r7, r8⟩ := T6.out
    go_wp2_with fail
    clear r0 r1 r2 r3 r4 r5 r6 r7 r8
    refine (Go.Proofs.Ytbnkkgjkhpbgiaa.fw.impl_exc q1 (by omega) (by omega) (vs_none _ _) (vs_none _ _) (Nat.le_refl _)).mono ?_
    rintro e W11 ⟨he, hb⟩
    rw [HX.out] at he
    subst he
    have HB11 := Lib.hid (HB10.out.trans (hb.mono HB10.out.size))
    have t6 := TB.keep T6.out hz6 hb
    have T6 := Lib.hid t6
    have hz6 : b6 < W11.heap.size := Nat.lt_of_lt_of_le hz6 hb.size
    clear hb t6
    obtain ⟨r0, r1, r2, r3, r4, r5, r6, r7, r8⟩ := T6.out
    go_wp2_with fail
    clear r0 r1 r2 r3 r4 r5 r6 r7 r8 hst
    refine (Go.Proofs.Ytbnkkgjkhpbgiaa.det.draw_et a len cap W11 hl (code_more (HC.out.below (Nat.le_refl _) HB11.out) HB11.out.size)).mono ?_
    rintro e Wa ⟨x, A, n, c, R, A2, n2, c2, S, y, F, m, d, Q, F2, m2, d2, Q2, rfl, hn, hn2, hm, hm2, ho1, ho2, hba⟩
    have hnn := new2 Wa (.cells #[.int .i64 x.i, .int .i64 x.s, .int .i64 x.t, .int .i64 x.b, .int .i64 x.l, .int .i64 x.h, .int .i64 x.c, .slice A n c, .slice A2 n2 c2] 29) (.cells #[.int .i64 y.i, .int .i64 y.s, .int .i64 y.t, .int .i64 y.b, .int .i64 y.l, .int .i64 y.h, .int .i64 y.c, .slice F m d, .slice F2 m2 d2] 29)
    obtain ⟨v1, v2⟩ := own_two ho1
    obtain ⟨v3, v4⟩ := own_two ho2
    have tx0 := TB.keep (TB.new Wa x A n c A2 n2 c2 29) (by simp) (new1 (Wa.alloc (.cells #[.int .i64 x.i, .int .i64 x.s, .int .i64 x.t, .int .i64 x.b, .int .i64 x.l, .int .i64 x.h, .int .i64 x.c, .slice A n c, .slice A2 n2 c2] 29)) (.cells #[.int .i64 y.i, .int .i64 y.s, .int .i64 y.t, .int .i64 y.b, .int .i64 y.l, .int .i64 y.h, .int .i64 y.c, .slice F m d, .slice F2 m2 d2] 29))
    have ty0 := TB.new (Wa.alloc (.cells #[.int .i64 x.i, .int .i64 x.s, .int .i64 x.t, .int .i64 x.b, .int .i64 x.l, .int .i64 x.h, .int .i64 x.c, .slice A n c, .slice A2 n2 c2] 29)) y F m d F2 m2 d2 29
    rw [show (Wa.alloc (.cells #[.int .i64 x.i, .int .i64 x.s, .int .i64 x.t, .int .i64 x.b, .int .i64 x.l, .int .i64 x.h, .int .i64 x.c, .slice A n c, .slice A2 n2 c2] 29)).heap.size = Wa.heap.size + 1 by simp] at ty0
    have hzz : Wa.heap.size + 2 ≤ ((Wa.alloc (.cells #[.int .i64 x.i, .int .i64 x.s, .int .i64 x.t, .int .i64 x.b, .int .i64 x.l, .int .i64 x.h, .int .i64 x.c, .slice A n c, .slice A2 n2 c2] 29)).alloc (.cells #[.int .i64 y.i, .int .i64 y.s, .int .i64 y.t, .int .i64 y.b, .int .i64 y.l, .int .i64 y.h, .int .i64 y.c, .slice F m d, .slice F2 m2 d2] 29)).heap.size := by simp
    have w1 := Lib.hid (v1.below hnn)
    have w2 := Lib.hid (v2.below hnn)
    have w3 := Lib.hid (v3.below hnn)
    have w4 := Lib.hid (v4.below hnn)
    have hbb := (HB11.out.trans (hba.mono HB11.out.size)).trans (hnn.mono (Nat.le_trans HB11.out.size hba.size))
    clear v1 v2 v3 v4 ho1 ho2 hba hnn
    go_wp2_with fail
    generalize hk : Wa.heap.size = bx at tx0 ty0 hzz w1 w2 w3 w4 ⊢
    generalize (Wa.alloc _).alloc _ = Wb at tx0 ty0 hzz hbb w1 w2 w3 w4 ⊢
    have V1 := Lib.hid (w1.out.more (show bx ≤ Wb.heap.size by omega))
    have V2 := Lib.hid (w2.out.more (show bx ≤ Wb.heap.size by omega))
    have V3 := Lib.hid (w3.out.more (show bx ≤ Wb.heap.size by omega))
    have V4 := Lib.hid (w4.out.more (show bx ≤ Wb.heap.size by omega))
    have HBB := Lib.hid hbb
    have TX := Lib.hid tx0
    have TY := Lib.hid ty0
    clear w1 w2 w3 w4 hbb hk
    obtain ⟨qe, hqe⟩ : ∃ q, eqT x R S y Q Q2 = q := ⟨_, rfl⟩
    have HQe := Lib.hid hqe
    obtain ⟨qg, hqg⟩ : ∃ q, txB x R S = q := ⟨_, rfl⟩
    have HQg := Lib.hid hqg
    obtain ⟨qh, hqh⟩ : ∃ q, (txB x R S && decide (n2 = 0)) = q := ⟨_, rfl⟩
    have HQh := Lib.hid hqh
    have HQe2 := Lib.hid ((eqT_sym x y R S Q Q2).trans hqe)
    clear hqe hqg hqh
    have hbk0 : Below Wb.heap.size Wb Wb.drew := (Below.refl _ _).drew
    obtain ⟨r0, r1, r2, r3, r4, r5, r6, r7, r8⟩ := tx0
    obtain ⟨v0, v1, v2, v3, v4, v5, v6, v7, v8⟩ := ty0
    have hzx : bx < Wb.heap.size := by omega
    have hzy : bx + 1 < Wb.heap.size := by omega
    try go_wp2_with fail
    go_region_held3 (fun w' => w'.cell? ⟨bx, 0, none⟩ = some (.int .i64 x.i) ∧ w'.cell? ⟨bx, 1, none⟩ = some (.int .i64 x.s) ∧ w'.cell? ⟨bx, 2, none⟩ = some (.int .i64 x.t) ∧ w'.cell? ⟨bx, 3, none⟩ = some (.int .i64 x.b) ∧ w'.cell? ⟨bx, 4, none⟩ = some (.int .i64 x.l) ∧ w'.cell? ⟨bx, 5, none⟩ = some (.int .i64 x.h) ∧ w'.cell? ⟨bx, 6, none⟩ = some (.int .i64 x.c) ∧ w'.cell? ⟨bx, 7, none⟩ = some (.slice A n c) ∧ w'.cell? ⟨bx, 8, none⟩ = some (.slice A2 n2 c2) ∧ w'.cell? ⟨bx + 1, 0, none⟩ = some (.int .i64 y.i) ∧ w'.cell? ⟨bx + 1, 1, none⟩ = some (.int .i64 y.s) ∧ w'.cell? ⟨bx + 1, 2, none⟩ = some (.int .i64 y.t) ∧ w'.cell? ⟨bx + 1, 3, none⟩ = some (.int .i64 y.b) ∧ w'.cell? ⟨bx + 1, 4, none⟩ = some (.int .i64 y.l) ∧ w'.cell? ⟨bx + 1, 5, none⟩ = some (.int .i64 y.h) ∧ w'.cell? ⟨bx + 1, 6, none⟩ = some (.int .i64 y.c) ∧ w'.cell? ⟨bx + 1, 7, none⟩ = some (.slice F m d) ∧ w'.cell? ⟨bx + 1, 8, none⟩ = some (.slice F2 m2 d2)) (go_keep) (first | (go_at_call 20; (with_reducible refine (spec_ro x (by omega) (by omega) (V1.out.below hbk7) (V2.out.below hbk7) hbk7.size).mono ?_); rintro e X8 ⟨he, hb⟩; rw [HQh.out] at he; subst he; have hbk8 := hbk7.trans (hb.mono hbk7.size); clear hb; obtain ⟨ut0, ut1, ut2, ut3, ut4, ut5, ut6, ut7, ut8⟩ := TB.keep TX.out hzx hbk8; obtain ⟨zt0, zt1, zt2, zt3, zt4, zt5, zt6, zt7, zt8⟩ := TB.keep TY.out hzy hbk8) | (go_at_call 15; (with_reducible refine (impl_ro x (by omega) (by omega) (V1.out.below hbk6) (V2.out.below hbk6) hbk6.size).mono ?_); rintro e X7 ⟨he, hb⟩; rw [HQh.out] at he; subst he; have hbk7 := hbk6.trans (hb.mono hbk6.size); clear hb; obtain ⟨us0, us1, us2, us3, us4, us5, us6, us7, us8⟩ := TB.keep TX.out hzx hbk7; obtain ⟨zs0, zs1, zs2, zs3, zs4, zs5, zs6, zs7, zs8⟩ := TB.keep TY.out hzy hbk7) | (go_at_call 19; (with_reducible refine (tvs.spec_tx x (by omega) (by omega) (V1.out.below hbk5) (V2.out.below hbk5) hbk5.size).mono ?_); rintro e X6 ⟨he, hb⟩; rw [HQg.out] at he; subst he; have hbk6 := hbk5.trans (hb.mono hbk5.size); clear hb; obtain ⟨up0, up1, up2, up3, up4, up5, up6, up7, up8⟩ := TB.keep TX.out hzx hbk6; obtain ⟨zp0, zp1, zp2, zp3, zp4, zp5, zp6, zp7, zp8⟩ := TB.keep TY.out hzy hbk6) | (go_at_call 14; (with_reducible refine (impl_tx x (by omega) (by omega) (V1.out.below hbk4) (V2.out.below hbk4) hbk4.size).mono ?_); rintro e X5 ⟨he, hb⟩; rw [HQg.out] at he; subst he; have hbk5 := hbk4.trans (hb.mono hbk4.size); clear hb; obtain ⟨uo0, uo1, uo2, uo3, uo4, uo5, uo6, uo7, uo8⟩ := TB.keep TX.out hzx hbk5; obtain ⟨zo0, zo1, zo2, zo3, zo4, zo5, zo6, zo7, zo8⟩ := TB.keep TY.out hzy hbk5) | (go_at_call 11; (with_reducible refine (Go.Proofs.Ytbnkkgjkhpbgiaa.te.impl_eqtx y x (by omega) (by omega) (by omega) (by omega) (V3.out.below hbk3) (V4.out.below hbk3) (V1.out.below hbk3) (V2.out.below hbk3) hbk3.size).mono ?_); rintro e X4 ⟨he, hb⟩; rw [HQe2.out] at he; subst he; have hbk4 := hbk3.trans (hb.mono hbk3.size); clear hb; obtain ⟨un0, un1, un2, un3, un4, un5, un6, un7, un8⟩ := TB.keep TX.out hzx hbk4; obtain ⟨zn0, zn1, zn2, zn3, zn4, zn5, zn6, zn7, zn8⟩ := TB.keep TY.out hzy hbk4) | (go_at_call 11; (with_reducible refine (Go.Proofs.Ytbnkkgjkhpbgiaa.te.impl_eqtx x y (by omega) (by omega) (by omega) (by omega) (V1.out.below hbk2) (V2.out.below hbk2) (V3.out.below hbk2) (V4.out.below hbk2) hbk2.size).mono ?_); rintro e X3 ⟨he, hb⟩; rw [HQe.out] at he; subst he; have hbk3 := hbk2.trans (hb.mono hbk2.size); clear hb; obtain ⟨um0, um1, um2, um3, um4, um5, um6, um7, um8⟩ := TB.keep TX.out hzx hbk3; obtain ⟨zm0, zm1, zm2, zm3, zm4, zm5, zm6, zm7, zm8⟩ := TB.keep TY.out hzy hbk3) | (go_at_call 18; (with_reducible refine (Go.Proofs.Ytbnkkgjkhpbgiaa.te.spec_eqtx x y (by omega) (by omega) (by omega) (by omega) (V1.out.below hbk1) (V2.out.below hbk1) (V3.out.below hbk1) (V4.out.below hbk1) hbk1.size).mono ?_); rintro e X2 ⟨he, hb⟩; rw [HQe.out] at he; subst he; have hbk2 := hbk1.trans (hb.mono hbk1.size); clear hb; obtain ⟨ul0, ul1, ul2, ul3, ul4, ul5, ul6, ul7, ul8⟩ := TB.keep TX.out hzx hbk2; obtain ⟨zl0, zl1, zl2, zl3, zl4, zl5, zl6, zl7, zl8⟩ := TB.keep TY.out hzy hbk2) | (go_at_call 11; (with_reducible refine (Go.Proofs.Ytbnkkgjkhpbgiaa.te.impl_eqtx x y (by omega) (by omega) (by omega) (by omega) (V1.out.below hbk0) (V2.out.below hbk0) (V3.out.below hbk0) (V4.out.below hbk0) hbk0.size).mono ?_); rintro e X1 ⟨he, hb⟩; rw [HQe.out] at he; subst he; have hbk1 := hbk0.trans (hb.mono hbk0.size); clear hb; obtain ⟨uk0, uk1, uk2, uk3, uk4, uk5, uk6, uk7, uk8⟩ := TB.keep TX.out hzx hbk1; obtain ⟨zk0, zk1, zk2, zk3, zk4, zk5, zk6, zk7, zk8⟩ := TB.keep TY.out hzy hbk1))
    all_goals
      have HEND := Lib.hid (HBB.out.trans (hbk8.mono HBB.out.size))
      clear hbk0 r0 r1 r2 r3 r4 r5 r6 r7 r8 v0 v1 v2 v3 v4 v5 v6 v7 v8 hbk1 uk0 uk1 uk2 uk3 uk4 uk5 uk6 uk7 uk8 zk0 zk1 zk2 zk3 zk4 zk5 zk6 zk7 zk8 hbk2 ul0 ul1 ul2 ul3 ul4 ul5 ul6 ul7 ul8 zl0 zl1 zl2 zl3 zl4 zl5 zl6 zl7 zl8 hbk3 um0 um1 um2 um3 um4 um5 um6 um7 um8 zm0 zm1 zm2 zm3 zm4 zm5 zm6 zm7 zm8 hbk4 un0 un1 un2 un3 un4 un5 un6 un7 un8 zn0 zn1 zn2 zn3 zn4 zn5 zn6 zn7 zn8 hbk5 uo0 uo1 uo2 uo3 uo4 uo5 uo6 uo7 uo8 zo0 zo1 zo2 zo3 zo4 zo5 zo6 zo7 zo8 hbk6 up0 up1 up2 up3 up4 up5 up6 up7 up8 zp0 zp1 zp2 zp3 zp4 zp5 zp6 zp7 zp8 hbk7 us0 us1 us2 us3 us4 us5 us6 us7 us8 zs0 zs1 zs2 zs3 zs4 zs5 zs6 zs7 zs8 hbk8 ut0 ut1 ut2 ut3 ut4 ut5 ut6 ut7 ut8 zt0 zt1 zt2 zt3 zt4 zt5 zt6 zt7 zt8
      try go_wp2_with fail
      go_ret
      exact ⟨rfl, HEND.out⟩
end Go.Proofs.Ytbnkkgjkhpbgiaa.trc
namespace Go.Proofs.Ytbnkkgjkhpbgiaa.fnTransactions
open Go.ChangeShapes Go.WideShapes Go.ChangeAt Go.RowKit
open Go.ChangeMaps (open_string shut_string)
open Go.Proofs.Ytbnkkgjkhpbgiaa.cur
set_option linter.unusedVariables false
theorem own : ownKnob Try.prog.godebug = none := by kernel_rfl
theorem laidOut : laidOutB Try.prog = true := by kernel_rfl
def IsRow (k : IntKind) (w : World) (a : Option Addr) (len cap : Nat) (zs : List Int) : Prop :=
  (a = none ∧ len = 0 ∧ cap = 0 ∧ zs = []) ∨
  ∃ x, a = some x ∧ len ≤ cap ∧ cap ≤ maxLen ∧ zs.length = cap ∧ (∀ i, i < zs.length → w.cell? (x.add i) = some (.int k (zs.getD i 0))) ∧ ∀ n ∈ zs, (Lit.int k n).wf = true
theorem code_of {w : World} {a : Option Addr} {len cap : Nat} {zs : List Int} (h : IsRow .u8 w a len cap zs) : CodeAt w w.heap.size a len := by
  intro j hj
  rcases h with ⟨rfl, rfl, rfl, rfl⟩ | ⟨x, rfl, hl, hm, hz, hcell, hwz⟩
  · omega
  · obtain ⟨cb, off, spot⟩ := x
    have hc := hcell j (by omega)
    have hspot : spot = none := by
      have h0 := hcell 0 (by omega)
      simpa [Addr.add] using World.cell?_spot h0
    subst hspot
    rw [Addr.add_lit] at hc
    have hmem : zs.getD j 0 ∈ zs := by
      rw [List.getD_eq_getElem?_getD, List.getElem?_eq_getElem (show j < zs.length by omega)]
      exact List.getElem_mem _
    have hb := bounds_u8 (hwz _ hmem)
    exact ⟨cb, off, _, rfl, World.block_lt_of_cell? w _ hc, hb.1, hb.2, hc⟩
theorem walk (a : Option Addr) (len cap : Nat) (zs : List Int) (w : World) (h : IsRow .u8 w a len cap zs) :
    Calls Try.prog 3 #[.slice a len cap] w fun e w' => e = .returned (.bool true) ∧ Below w.heap.size w w' := by
  by_cases hbig : 1048576 < len
  · have BIG := Lib.hid (big_yes a len cap w hbig)
    clear h
    go_enter Try.func3, Try.ntmps3
    go_wp2_with fail
    refine BIG.out.mono ?_
    rintro e w' ⟨rfl, rfl⟩
    go_wp2_with fail
    go_ret
    exact ⟨rfl, Below.refl _ _⟩
  · exact Go.Proofs.Ytbnkkgjkhpbgiaa.trc.core a len cap w (by omega) (code_of h)
/-! ### THE ROW's STEP -/
set_option maxRecDepth 100000 in
theorem lifted (os : Os) (started : os.Started) (H : Type) (enc : TypeId × Value → H) :
    ReturnsInHanded {} Try.checked os 3 .any (Rows.fnTransactionsSpec.pre6 enc Try.prog Try.f3 Rows.fnTransactionsRow.domain false) (Rows.fnTransactionsSpec.post enc Try.prog Try.f3 false true false false) := by
  refine returnsInHanded_of_change (C := Try.checked) own started (by kernel_rfl) Try.func3
    (ChangeSpec.witness6 (enc := enc) (C := Try.checked) false ⟨#[], #[.slice none 0 0], []⟩ 8 (by kernel_rfl) (by kernel_rfl) (by kernel_rfl) (by kernel_rfl)) ?_
  intro W base args ds gs before hval0 hW hcnd _
  have hval : ∀ (j : Nat) t v, Try.f3.params[j]? = some t → args[j]? = some v → Value.okWide Try.prog W .any base t v := hval0
  have hW' := hW
  obtain ⟨p, q, hA0, hV, rfl, hfz, hnd⟩ := hW
  have hA : DataW.TrodAll enc Try.prog W 0 (fun _ => true) true Try.f3.params.toList args.toList ds p := hA0
  rw [Try.params3] at hA hval
  obtain ⟨v0, vs0, d0, ds0, p0, q0, hargs, rfl, rfl, h0, r0⟩ := trodAll_cons hA
  obtain ⟨rfl, rfl, rfl⟩ := trodAll_nil r0
  obtain rfl : args = #[v0] := by cases args; simp_all
  obtain ⟨rfl, rfl⟩ := trodVars_none hV
  obtain ⟨a0, len0, cap0, rfl⟩ := okWide_slice Try.underlying22 (hval 0 22 v0 rfl rfl)
  have k0 := h0
  have lt0 : ∀ x ∈ p0, x.block < W.heap.size := by obtain ⟨m, hm⟩ := k0; exact DataW.trod_lt m _ _ _ hm
  obtain ⟨z0, w0⟩ : ∃ zs, IsRow .u8 W a0 len0 cap0 zs := by
    obtain ⟨fuel, hf⟩ := h0
    rcases open_ints Try.underlying22 Try.underlying5 (by kernel_rfl) hf with ⟨hcs, _⟩ | ⟨x, l, c, zs, hcs, _, hl, hm, hz, _, hcell, hwz⟩
    · simp [Value.cells] at hcs
      obtain ⟨rfl, rfl, rfl⟩ := hcs
      exact ⟨[], .inl ⟨rfl, rfl, rfl, rfl⟩⟩
    · simp [Value.cells] at hcs
      obtain ⟨rfl, rfl, rfl⟩ := hcs
      exact ⟨zs, .inr ⟨_, rfl, hl, hm, by simpa using hz, hcell, hwz⟩⟩
  clear hA0 hval0
  refine (walk a0 len0 cap0 z0 W w0).mono fun e W' ⟨he, bel⟩ => ?_
  subst he
  exact ⟨_, rfl, _, _, _, [], _, [], hW', trodAll_mk1 (shut_bool Try.underlying4 _), (trodAll_cons_mk (Below.trod laidOut (by kernel_rfl) (of_decide_eq_true (by kernel_rfl)) k0 bel lt0) trodAll_mk0), rfl, bel.frame _, fun h => by cases h⟩

theorem over : Rows.fnTransactionsRow.holds Try.pinned (OpenSpec.ofChange Rows.fnTransactionsSpec) :=
  OpenClaim.holds_of_wide 3 Try.f3 rfl rfl rfl rfl rfl rfl rfl ⟨rfl, rfl, rfl, rfl, rfl⟩ rfl rfl rfl rfl rfl (by kernel_rfl) Try.func3 (by kernel_rfl)
    (of_decide_eq_true (by kernel_rfl)) (by unfold Func.isWrapper; first | (rw [if_pos (by decide +kernel)]; kernel_rfl) | (rw [if_neg (by decide +kernel)]; exact ⟨rfl, rfl⟩))
    (fun os started H enc _ => lifted os started H enc)

/-- THE STATEMENT -/
theorem proved : Rows.FnTransactionsSaid := over
#print axioms proved
end Go.Proofs.Ytbnkkgjkhpbgiaa.fnTransactions
