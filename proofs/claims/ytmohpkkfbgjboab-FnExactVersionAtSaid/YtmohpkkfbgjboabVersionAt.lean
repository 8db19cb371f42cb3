/- VersionAt of the program answers as its model at every slice of versions and every integer: the law returns true and writes nothing that was there. No condition. -/
import Derived.Test.YtmohpkkfbgjboabOpen
import Derived.Test.YtmohpkkfbgjboabFind
import Derived.WalkKit
import Derived.ProofKit
import Derived.OpenShut
import Derived.ShutString
import Derived.ChangeOld
import Derived.Below
import Derived.Carry
import Derived.Lib.Hide
import Derived.Deep.DeepHandedRow
namespace Go.Proofs.Ytmohpkkfbgjboab.fnExactVersionAt
open Go.ChangeShapes Go.WideShapes Go.ChangeAt Go.RowKit
open Go.ChangeMaps (open_string shut_string)
open Go.Proofs.Ytmohpkkfbgjboab.vers Go.Proofs.Ytmohpkkfbgjboab.sl Go.Proofs.Ytmohpkkfbgjboab.opn Go.Proofs.Ytmohpkkfbgjboab.ch Go.Proofs.Ytmohpkkfbgjboab.find
set_option linter.unusedVariables false
theorem walk (a0 : Option Addr) (len0 cap0 : Nat) (l0 : List Ver) (a1 : Int) (w : World) (h0 : Vs w w.heap.size a0 len0 l0) (m0 : len0 ≤ maxLen) (b1 : (Lit.int .i64 a1).wf = true) :
    Calls Try.prog 10 #[.slice a0 len0 cap0, .int .i64 a1] w fun e w' => e = .returned (.bool true) ∧ Below w.heap.size w w' := by
  unfold maxLen at m0
  have H0 := Lib.hid h0
  clear h0
  by_cases hbig : (1048576 : Int) < (len0 : Int)
  · go_enter Try.func10, Try.ntmps10
    go_wp2_with fail
    refine (count_no _ _ _ _ _ (by omega) (by omega) (by omega) hbig).mono ?_
    rintro e W0 ⟨rfl, rfl⟩
    go_wp2_with fail
    go_ret
    exact ⟨rfl, Below.refl _ _⟩
  · have hsm : len0 ≤ 1048576 := by omega
    go_enter Try.func10, Try.ntmps10
    go_wp2_with fail
    refine (count_yes _ _ _ _ _ (by omega) (by omega) (by omega) (by omega)).mono ?_
    rintro e W0 ⟨rfl, rfl⟩
    go_wp2_with fail
    refine (copied (by omega) H0.out (Nat.le_refl _)).mono ?_
    rintro e W1 ⟨N1, rfl, hN, hv, hb⟩
    have V1 := Lib.hid hv
    clear hv hN
    have HB1 : Hid (Below w.heap.size w W1) := Lib.hid hb
    clear hb
    go_wp2_with fail
    refine (spec_at a1 (by omega) (V1.out) (Nat.le_refl _)).mono ?_
    rintro e W2 ⟨rfl, hb⟩
    have HB2 : Hid (Below w.heap.size w W2) := Lib.hid (HB1.out.trans (hb.mono HB1.out.size))
    have HS2 : Hid (Below W1.heap.size W1 W2) := Lib.hid hb
    clear hb
    go_wp2_with fail
    refine (copied (by omega) (H0.out.below HB2.out) HB2.out.size).mono ?_
    rintro e W3 ⟨N2, rfl, hN, hv, hb⟩
    have V2 := Lib.hid hv
    clear hv hN
    have HB3 : Hid (Below w.heap.size w W3) := Lib.hid (HB2.out.trans (hb.mono HB2.out.size))
    have HS3 : Hid (Below W2.heap.size W2 W3) := Lib.hid hb
    clear hb
    go_wp2_with fail
    refine (impl_at a1 (by omega) (V2.out) (Nat.le_refl _)).mono ?_
    rintro e W4 ⟨rfl, hb⟩
    have HB4 : Hid (Below w.heap.size w W4) := Lib.hid (HB3.out.trans (hb.mono HB3.out.size))
    have HS4 : Hid (Below W3.heap.size W3 W4) := Lib.hid hb
    clear hb
    go_wp2_with fail
    refine (copied (by omega) (H0.out.below HB4.out) HB4.out.size).mono ?_
    rintro e W5 ⟨N3, rfl, hN, hv, hb⟩
    have V3 := Lib.hid hv
    clear hv hN
    have HB5 : Hid (Below w.heap.size w W5) := Lib.hid (HB4.out.trans (hb.mono HB4.out.size))
    have HS5 : Hid (Below W4.heap.size W4 W5) := Lib.hid hb
    clear hb
    go_wp2_with fail
    refine (same_versions (by omega) (((((V2.out).below HS4.out).more HS4.out.size).below HS5.out).more HS5.out.size) (V3.out) (Nat.le_refl _)).mono ?_
    rintro e W6 ⟨rfl, hb⟩
    have HB6 : Hid (Below w.heap.size w W6) := Lib.hid (HB5.out.trans (hb.mono HB5.out.size))
    have HS6 : Hid (Below W5.heap.size W5 W6) := Lib.hid hb
    clear hb
    go_wp2_with fail
    go_ret
    exact ⟨rfl, HB6.out⟩
/-! ### THE ROW's STEP -/
set_option maxRecDepth 100000 in
theorem lifted (os : Os) (started : os.Started) (H : Type) (enc : TypeId × Value → H) :
    ReturnsInHanded {} Try.checked os 10 .any (Rows.fnExactVersionAtSpec.pre6 enc Try.prog Try.f10 Rows.fnExactVersionAtRow.domain false) (Rows.fnExactVersionAtSpec.post enc Try.prog Try.f10 false true false false) := by
  refine returnsInHanded_of_change (C := Try.checked) own started (by kernel_rfl) Try.func10
    (ChangeSpec.witness6 (enc := enc) (C := Try.checked) false ⟨#[], #[.slice none 0 0, .int .i64 0], []⟩ 8 (by kernel_rfl) (by kernel_rfl) (by kernel_rfl) (by kernel_rfl)) ?_
  intro W base args ds gs before hval0 hW hcnd _
  have hval : ∀ (j : Nat) t v, Try.f10.params[j]? = some t → args[j]? = some v → Value.okWide Try.prog W .any base t v := hval0
  have hW' := hW
  obtain ⟨p, q, hA0, hV, rfl, hfz, hnd⟩ := hW
  have hA : DataW.TrodAll enc Try.prog W 0 (fun _ => true) true Try.f10.params.toList args.toList ds p := hA0
  rw [Try.params10] at hA hval
  obtain ⟨v0, vs0, d0, ds0, p0, q0, hargs, rfl, rfl, h0, r0⟩ := trodAll_cons hA
  obtain ⟨v1, vs1, d1, ds1, p1, q1, rfl, rfl, rfl, h1, r1⟩ := trodAll_cons r0
  obtain ⟨rfl, rfl, rfl⟩ := trodAll_nil r1
  obtain rfl : args = #[v0, v1] := by cases args; simp_all
  obtain ⟨rfl, rfl⟩ := trodVars_none hV
  have k0 := h0
  have lt0 : ∀ x ∈ p0, x.block < W.heap.size := by obtain ⟨m, hm⟩ := k0; exact DataW.trod_lt m _ _ _ hm
  obtain ⟨a0, len0, cap0, rfl⟩ := okWide_slice Try.underlying49 (hval 0 49 v0 rfl rfl)
  obtain ⟨l0, w0, m0⟩ := open_versions h0
  obtain ⟨a1, rfl, rfl, rfl, w1⟩ := open_int Try.underlying3 (hval 1 3 v1 rfl rfl) h1
  clear hA0 hval0
  refine (walk a0 len0 cap0 l0 a1 W w0 m0 w1).mono fun e W' ⟨he, bel⟩ => ?_
  subst he
  exact ⟨_, rfl, _, _, _, [], _, [], hW', trodAll_mk1 (shut_bool Try.underlying4 _), (trodAll_cons_mk (Below.trod laidOut (by kernel_rfl) (of_decide_eq_true (by kernel_rfl)) k0 bel lt0) (trodAll_cons_mk (shut_int Try.underlying3 w1) trodAll_mk0)), rfl, bel.frame _, fun h => by cases h⟩

theorem over : Rows.fnExactVersionAtRow.holds Try.pinned (OpenSpec.ofChange Rows.fnExactVersionAtSpec) :=
  OpenClaim.holds_of_wide 10 Try.f10 rfl rfl rfl rfl rfl rfl rfl ⟨rfl, rfl, rfl, rfl, rfl⟩ rfl rfl rfl rfl rfl (by kernel_rfl) Try.func10 (by kernel_rfl)
    (of_decide_eq_true (by kernel_rfl)) (by unfold Func.isWrapper; first | (rw [if_pos (by decide +kernel)]; kernel_rfl) | (rw [if_neg (by decide +kernel)]; exact ⟨rfl, rfl⟩))
    (fun os started H enc _ => lifted os started H enc)

/-- THE STATEMENT -/
theorem proved : Rows.FnExactVersionAtSaid := over
#print axioms proved
end Go.Proofs.Ytmohpkkfbgjboab.fnExactVersionAt
