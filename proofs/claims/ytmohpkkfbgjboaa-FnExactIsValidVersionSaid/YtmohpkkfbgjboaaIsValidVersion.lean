/- IsValidVersion of the program answers as its model at every version: the law returns true and writes nothing that was there. No condition. -/
import Derived.Test.YtmohpkkfbgjboaaOpen
import Derived.Test.YtmohpkkfbgjboaaCh
import Derived.WalkKit
import Derived.ProofKit
import Derived.OpenShut
import Derived.ShutString
import Derived.ChangeOld
import Derived.Below
import Derived.Carry
import Derived.Lib.Hide
import Derived.Deep.DeepHandedRow
namespace Go.Proofs.Ytmohpkkfbgjboaa.fnExactIsValidVersion
open Go.ChangeShapes Go.WideShapes Go.ChangeAt Go.RowKit
open Go.ChangeMaps (open_string shut_string)
open Go.Proofs.Ytmohpkkfbgjboaa.vers Go.Proofs.Ytmohpkkfbgjboaa.sl Go.Proofs.Ytmohpkkfbgjboaa.opn Go.Proofs.Ytmohpkkfbgjboaa.ch
set_option linter.unusedVariables false
theorem walk (a0 : Ver) (w : World) :
    Calls Try.prog 3 #[.agg #[.int .i64 a0.a, .int .i64 a0.b, .int .i64 a0.c, .int .i64 a0.d, .int .i64 a0.e]] w fun e w' => e = .returned (.bool true) ∧ Below w.heap.size w w' := by
  have hx := boxed w a0 23
  have hb0 := new1 w (.cells #[.int .i64 a0.a, .int .i64 a0.b, .int .i64 a0.c, .int .i64 a0.d, .int .i64 a0.e] 23)
  have hlt : w.heap.size < (w.alloc (.cells #[.int .i64 a0.a, .int .i64 a0.b, .int .i64 a0.c, .int .i64 a0.d, .int .i64 a0.e] 23)).heap.size := by simp
  have HX := Lib.hid hx
  have HB0 := Lib.hid hb0
  clear hx hb0
  go_enter Try.func3, Try.ntmps3
  go_wp2_with fail
  refine (to_version a0.a a0.b a0.c a0.d a0.e _).mono ?_
  rintro e W1 ⟨rfl, hb1⟩
  have HB1 := Lib.hid hb1
  clear hb1
  go_wp2_with fail
  refine (spec_version a0.a a0.b a0.c a0.d a0.e _).mono ?_
  rintro e W2 ⟨rfl, hb2⟩
  have hb3 := HB1.out.trans (hb2.mono HB1.out.size)
  obtain ⟨g0, g1, g2, g3, g4⟩ := atFlat (HX.out.keep hlt hb3)
  have HB2 := Lib.hid hb3
  clear hb2 hb3
  go_wp2_with fail
  refine (to_version a0.a a0.b a0.c a0.d a0.e _).mono ?_
  rintro e W3 ⟨rfl, hb1⟩
  have HB3 := Lib.hid hb1
  clear hb1
  go_wp2_with fail
  refine (impl_version a0.a a0.b a0.c a0.d a0.e _).mono ?_
  rintro e W4 ⟨rfl, hb1⟩
  have hb4 := (HB0.out.trans (HB2.out.mono HB0.out.size))
  have hb5 := hb4.trans ((HB3.out.trans (hb1.mono HB3.out.size)).mono hb4.size)
  have HB5 := Lib.hid hb5
  clear hb1 hb4 hb5
  go_wp2_with fail
  go_ret
  exact ⟨rfl, HB5.out⟩
    /-! ### THE ROW's STEP -/
set_option maxRecDepth 100000 in
theorem lifted (os : Os) (started : os.Started) (H : Type) (enc : TypeId × Value → H) :
    ReturnsInHanded {} Try.checked os 3 .any (Rows.fnExactIsValidVersionSpec.pre6 enc Try.prog Try.f3 Rows.fnExactIsValidVersionRow.domain false) (Rows.fnExactIsValidVersionSpec.post enc Try.prog Try.f3 false true false false) := by
  refine returnsInHanded_of_change (C := Try.checked) own started (by kernel_rfl) Try.func3
    (ChangeSpec.witness6 (enc := enc) (C := Try.checked) false ⟨#[], #[.agg #[.int .i64 0, .int .i64 0, .int .i64 0, .int .i64 0, .int .i64 0]], []⟩ 8 (by kernel_rfl) (by kernel_rfl) (by kernel_rfl) (by kernel_rfl)) ?_
  intro W base args ds gs before hval0 hW hcnd _
  have hval : ∀ (j : Nat) t v, Try.f3.params[j]? = some t → args[j]? = some v → Value.okWide Try.prog W .any base t v := hval0
  have hW' := hW
  obtain ⟨p, q, hA0, hV, rfl, hfz, hnd⟩ := hW
  have hA : DataW.TrodAll enc Try.prog W 0 (fun _ => true) true Try.f3.params.toList args.toList ds p := hA0
  rw [Try.params3] at hA hval
  obtain ⟨v0, vs0, d0, ds0, p0, q0, hargs, rfl, rfl, h0, r0⟩ := trodAll_cons hA
  obtain ⟨rfl, rfl, rfl⟩ := trodAll_nil r0
  obtain rfl : args = #[v0] := by cases args; simp_all
  obtain ⟨rfl, rfl⟩ := trodVars_none hV
  have k0 := h0
  have lt0 : ∀ x ∈ p0, x.block < W.heap.size := by obtain ⟨m, hm⟩ := k0; exact DataW.trod_lt m _ _ _ hm
  obtain ⟨a0, rfl⟩ := open_version (hval 0 23 v0 rfl rfl) h0
  clear hA0 hval0
  refine (walk a0 W ).mono fun e W' ⟨he, bel⟩ => ?_
  subst he
  exact ⟨_, rfl, _, _, _, [], _, [], hW', trodAll_mk1 (shut_bool Try.underlying4 _), (trodAll_cons_mk (Below.trod laidOut (by kernel_rfl) (of_decide_eq_true (by kernel_rfl)) k0 bel lt0) trodAll_mk0), rfl, bel.frame _, fun h => by cases h⟩

theorem over : Rows.fnExactIsValidVersionRow.holds Try.pinned (OpenSpec.ofChange Rows.fnExactIsValidVersionSpec) :=
  OpenClaim.holds_of_wide 3 Try.f3 rfl rfl rfl rfl rfl rfl rfl ⟨rfl, rfl, rfl, rfl, rfl⟩ rfl rfl rfl rfl rfl (by kernel_rfl) Try.func3 (by kernel_rfl)
    (of_decide_eq_true (by kernel_rfl)) (by unfold Func.isWrapper; first | (rw [if_pos (by decide +kernel)]; kernel_rfl) | (rw [if_neg (by decide +kernel)]; exact ⟨rfl, rfl⟩))
    (fun os started H enc _ => lifted os started H enc)

/-- THE STATEMENT -/
theorem proved : Rows.FnExactIsValidVersionSaid := over
#print axioms proved
end Go.Proofs.Ytmohpkkfbgjboaa.fnExactIsValidVersion
