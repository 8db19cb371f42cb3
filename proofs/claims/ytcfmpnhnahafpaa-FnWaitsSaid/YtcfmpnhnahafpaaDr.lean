/- The model's l3Version and l1Once: a drawn version, a drawn chance. -/
import Derived.Test.YtcfmpnhnahafpaaSf
import Derived.Test.YtcfmpnhnahafpaaDrawn
namespace Go.Proofs.Ytcfmpnhnahafpaa.dr
open Go.ChangeShapes Go.WideShapes Go.ChangeAt Go.RowKit
open Go.Proofs.Ytcfmpnhnahafpaa.el2 Go.Proofs.Ytcfmpnhnahafpaa.tx Go.Proofs.Ytcfmpnhnahafpaa.bx Go.Proofs.Ytcfmpnhnahafpaa.sf
open Go.Proofs.Ytcfmpnhnahafpaa.cur (CurAt CodeAt Kp Only below_calls)
open Go.Proofs.Ytcfmpnhnahafpaa.sl (Ver)
set_option linter.unusedVariables false
set_option linter.unusedSimpArgs false
section
variable {w w' : World} {b : Nat} {x y : Ver}
end
section
variable {w W W' : World} {B b len cap q : Nat} {a : Option Addr}
/-- a change of a block that is new since the start -/
theorem off_grown {q : Nat} (ho : Off q W W') : W.grownBy W' (some q) := ⟨ho.os, ho.tape, ho.output, by rw [ho.size]; exact Nat.le_refl _, fun k _ hk => ho.block k (fun e => hk (by rw [e]))⟩
theorem kp_off (h : Kp B b w W) (hB : B ≤ w.heap.size) (hq : w.heap.size ≤ q) (ho : Off q W W') : Kp B b w W' := h.grown (off_grown ho) hB (fun k e => by injection e with e; omega)
theorem cur_off (h : CurAt W b a len cap) (hq : b ≠ q) (ho : Off q W W') : CurAt W' b a len cap := h.grown (off_grown ho) (fun e => by injection e with e; exact hq e)
end
/-- a drawn version -/
def DVr (B b : Nat) (a : Option Addr) (len cap : Nat) (w : World) (e : Ending) (w' : World) : Prop :=
  ∃ v : Ver, e = .returned (.agg #[.int .i64 v.a, .int .i64 v.b, .int .i64 v.c, .int .i64 v.d, .int .i64 v.e]) ∧ CurAt w' b a len cap ∧ Kp B b w w'
set_option maxHeartbeats 800000 in
theorem once_calls (b B : Nat) (a : Option Addr) (len cap : Nat) (n : Int) (w : World) (hl : len ≤ 1048576) (hc : CurAt w b a len cap) (hcode : CodeAt w B a len) (hB : B ≤ b) (h0 : 0 < n) :
    Calls Try.prog 45 #[.pointer (some ⟨b, 0, none⟩), .int .i64 n] w fun e w' => ∃ x : Bool, e = .returned (.bool x) ∧ CurAt w' b a len cap ∧ Only b w w' := by
  have HK := Lib.hid (below_calls b B a len cap n w hl hc hcode hB h0)
  clear hc hcode
  go_enter Try.func45, Try.ntmps45
  go_wp2_with fail
  refine HK.out.mono ?_
  rintro e W1 ⟨x, rfl, hx0, hx1, hc1, ho1⟩
  have HC := Lib.hid hc1
  have HO := Lib.hid ho1
  clear hc1 ho1 HK
  by_cases hx : x = 0
  · have t : (x == 0) = true := by simp [hx]
    go_wp2_with fail
    go_ret
    exact ⟨_, rfl, HC.out, HO.out⟩
  · have t : (x == 0) = false := by simp [hx]
    go_wp2_with fail
    go_ret
    exact ⟨_, rfl, HC.out, HO.out⟩
end Go.Proofs.Ytcfmpnhnahafpaa.dr
