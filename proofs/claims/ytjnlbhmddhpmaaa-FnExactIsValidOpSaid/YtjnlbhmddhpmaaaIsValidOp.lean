/- IsValidOp of the program answers as its model at every operation: the law returns true and writes nothing that was there. No condition. -/
import Derived.Test.YtjnlbhmddhpmaaaOvs
import Derived.Test.YtjnlbhmddhpmaaaROp
import Derived.WalkKit
import Derived.ProofKit
import Derived.OpenShut
import Derived.ShutString
import Derived.ChangeOld
import Derived.Below
import Derived.Carry
import Derived.Lib.Hide
import Derived.StillTailTactics
import Derived.Deep.RegionHeld3
import Derived.Deep.DeepHandedRow
namespace Go.Proofs.Ytjnlbhmddhpmaaa.fnExactIsValidOp
open Go.ChangeShapes Go.WideShapes Go.ChangeAt Go.RowKit
open Go.ChangeMaps (open_string shut_string)
open Go.Proofs.Ytjnlbhmddhpmaaa.el6
open Go.Proofs.Ytjnlbhmddhpmaaa.vers (new2 new3)
set_option linter.unusedVariables false
theorem own : ownKnob Try.prog.godebug = none := by kernel_rfl
theorem laidOut : laidOutB Try.prog = true := by kernel_rfl
set_option maxHeartbeats 1600000 in
theorem walk (x0 : E6) (w : World)  :
    Calls Try.prog 7 #[.agg #[.int .i64 x0.a, .int .i64 x0.b, .int .i64 x0.c, .int .i64 x0.d, .int .i64 x0.e, .int .i64 x0.f]] w fun e w' => e = .returned (.bool true) ∧ Below w.heap.size w w' := by
  obtain ⟨q0z, hq0⟩ : ∃ q, Go.Proofs.Ytjnlbhmddhpmaaa.ovp.ovX x0 = q := ⟨_, rfl⟩
  have HQ0 := Lib.hid hq0
  clear hq0
  go_enter Try.func7, Try.ntmps7
  go_wp2_with fail
  have hx0 := Go.Proofs.Ytjnlbhmddhpmaaa.el6.boxed w x0 51
  have hl0 : w.heap.size < (w.alloc (.cells #[.int .i64 x0.a, .int .i64 x0.b, .int .i64 x0.c, .int .i64 x0.d, .int .i64 x0.e, .int .i64 x0.f] 51)).heap.size := by simp; try omega
  have hb := Go.Proofs.Ytjnlbhmddhpmaaa.el2.new1 w (.cells #[.int .i64 x0.a, .int .i64 x0.b, .int .i64 x0.c, .int .i64 x0.d, .int .i64 x0.e, .int .i64 x0.f] 51)
  generalize (w.alloc (.cells #[.int .i64 x0.a, .int .i64 x0.b, .int .i64 x0.c, .int .i64 x0.d, .int .i64 x0.e, .int .i64 x0.f] 51)) = W1 at hx0 hl0 hb ⊢
  have HB1 : Hid (Below w.heap.size w W1) := Lib.hid hb
  have HS1 : Hid (Below w.heap.size w W1) := Lib.hid hb
  clear hb
  have b0_1 := Lib.hid hx0
  have b0l_1 := hl0
  clear hx0 hl0
  refine (Go.Proofs.Ytjnlbhmddhpmaaa.rOp.to_one x0 _).mono ?_
  rintro e W2 ⟨rfl, hb⟩
  have HB2 : Hid (Below w.heap.size w W2) := Lib.hid (HB1.out.trans (hb.mono HB1.out.size))
  have HS2 : Hid (Below W1.heap.size W1 W2) := Lib.hid hb
  clear hb
  have b0_2 := Lib.hid ((b0_1.out).keep b0l_1 (HS2.out))
  have b0l_2 := Nat.lt_of_lt_of_le b0l_1 HS2.out.size
  clear b0_1 b0l_1
  go_wp2_with fail
  refine (Go.Proofs.Ytjnlbhmddhpmaaa.ovp.spec_op x0.a x0.b x0.c x0.d x0.e x0.f _).mono ?_
  rintro e W3 ⟨he, hb⟩
  rw [HQ0.out] at he
  subst he
  have HB3 : Hid (Below w.heap.size w W3) := Lib.hid (HB2.out.trans (hb.mono HB2.out.size))
  have HS3 : Hid (Below W2.heap.size W2 W3) := Lib.hid hb
  clear hb
  have b0_3 := Lib.hid ((b0_2.out).keep b0l_2 (HS3.out))
  have b0l_3 := Nat.lt_of_lt_of_le b0l_2 HS3.out.size
  clear b0_2 b0l_2
  obtain ⟨b0c0, b0c1, b0c2, b0c3, b0c4, b0c5⟩ := Go.Proofs.Ytjnlbhmddhpmaaa.el6.atFlat (b0_3.out)
  go_wp2_with fail
  refine (Go.Proofs.Ytjnlbhmddhpmaaa.rOp.to_one x0 _).mono ?_
  rintro e W4 ⟨rfl, hb⟩
  have HB4 : Hid (Below w.heap.size w W4) := Lib.hid (HB3.out.trans (hb.mono HB3.out.size))
  have HS4 : Hid (Below W3.heap.size W3 W4) := Lib.hid hb
  clear hb
  have b0_4 := Lib.hid ((b0_3.out).keep b0l_3 (HS4.out))
  have b0l_4 := Nat.lt_of_lt_of_le b0l_3 HS4.out.size
  clear b0_3 b0l_3
  clear b0c0 b0c1 b0c2 b0c3 b0c4 b0c5
  go_wp2_with fail
  refine (Go.Proofs.Ytjnlbhmddhpmaaa.ovp.impl_op x0.a x0.b x0.c x0.d x0.e x0.f _).mono ?_
  rintro e W5 ⟨he, hb⟩
  rw [HQ0.out] at he
  subst he
  have HB5 : Hid (Below w.heap.size w W5) := Lib.hid (HB4.out.trans (hb.mono HB4.out.size))
  have HS5 : Hid (Below W4.heap.size W4 W5) := Lib.hid hb
  clear hb
  have b0_5 := Lib.hid ((b0_4.out).keep b0l_4 (HS5.out))
  have b0l_5 := Nat.lt_of_lt_of_le b0l_4 HS5.out.size
  clear b0_4 b0l_4
  go_wp2_with fail
  go_ret
  exact ⟨rfl, HB5.out⟩
/-! ### THE ROW's STEP -/
set_option maxRecDepth 100000 in
theorem lifted (os : Os) (started : os.Started) (H : Type) (enc : TypeId × Value → H) :
    ReturnsInHanded {} Try.checked os 7 .any (Rows.fnExactIsValidOpSpec.pre6 enc Try.prog Try.f7 Rows.fnExactIsValidOpRow.domain false) (Rows.fnExactIsValidOpSpec.post enc Try.prog Try.f7 false true false false) := by
  refine returnsInHanded_of_change (C := Try.checked) own started (by kernel_rfl) Try.func7
    (ChangeSpec.witness6 (enc := enc) (C := Try.checked) false ⟨#[], #[.agg #[.int .i64 0, .int .i64 0, .int .i64 0, .int .i64 0, .int .i64 0, .int .i64 0]], []⟩ 8 (by kernel_rfl) (by kernel_rfl) (by kernel_rfl) (by kernel_rfl)) ?_
  intro W base args ds gs before hval0 hW hcnd _
  have hval : ∀ (j : Nat) t v, Try.f7.params[j]? = some t → args[j]? = some v → Value.okWide Try.prog W .any base t v := hval0
  have hW' := hW
  obtain ⟨pp, qq, hA0, hV, rfl, hfz, hnd⟩ := hW
  have hA : DataW.TrodAll enc Try.prog W 0 (fun _ => true) true Try.f7.params.toList args.toList ds pp := hA0
  rw [Try.params7] at hA hval
  obtain ⟨v0, vs0, dd0, ds0, pp0, qq0, hargs, rfl, rfl, h0, r0⟩ := trodAll_cons hA
  obtain ⟨rfl, rfl, rfl⟩ := trodAll_nil r0
  obtain rfl : args = #[v0] := by cases args; simp_all
  obtain ⟨rfl, rfl⟩ := trodVars_none hV
  have k0 := h0
  have lt0 : ∀ x ∈ pp0, x.block < W.heap.size := by obtain ⟨m, hm⟩ := k0; exact DataW.trod_lt m _ _ _ hm
  obtain ⟨x0, rfl⟩ := Go.Proofs.Ytjnlbhmddhpmaaa.rOp.open_one (hval 0 51 v0 rfl rfl) h0
  clear hA0 hval0
  refine (walk x0 W ).mono fun e W' ⟨he, bel⟩ => ?_
  subst he
  exact ⟨_, rfl, _, _, _, [], _, [], hW', trodAll_mk1 (shut_bool Try.underlying4 _), (trodAll_cons_mk (Below.trod laidOut (by kernel_rfl) (of_decide_eq_true (by kernel_rfl)) k0 bel lt0) trodAll_mk0), rfl, bel.frame _, fun h => by cases h⟩

theorem over : Rows.fnExactIsValidOpRow.holds Try.pinned (OpenSpec.ofChange Rows.fnExactIsValidOpSpec) :=
  OpenClaim.holds_of_wide 7 Try.f7 rfl rfl rfl rfl rfl rfl rfl ⟨rfl, rfl, rfl, rfl, rfl⟩ rfl rfl rfl rfl rfl (by kernel_rfl) Try.func7 (by kernel_rfl)
    (of_decide_eq_true (by kernel_rfl)) (by unfold Func.isWrapper; first | (rw [if_pos (by decide +kernel)]; kernel_rfl) | (rw [if_neg (by decide +kernel)]; exact ⟨rfl, rfl⟩))
    (fun os started H enc _ => lifted os started H enc)

/-- THE STATEMENT -/
theorem proved : Rows.FnExactIsValidOpSaid := over
#print axioms proved
end Go.Proofs.Ytjnlbhmddhpmaaa.fnExactIsValidOp
