/- WouldDeadlock of the program answers as its model at every list of waits and two integers: the law returns true and writes nothing that was there. No condition. -/
import Derived.Test.YtcfmpnhnahafpaaWtw
import Derived.Test.YtcfmpnhnahafpaaOwt
import Derived.WalkKit
import Derived.ProofKit
import Derived.OpenShut
import Derived.ShutString
import Derived.ChangeOld
import Derived.Below
import Derived.Carry
import Derived.Lib.Hide
import Derived.StillTailTactics
import Derived.Deep.RegionHeld3
import Derived.Deep.DeepHandedRow
namespace Go.Proofs.Ytcfmpnhnahafpaa.fnExactWouldDeadlock
open Go.ChangeShapes Go.WideShapes Go.ChangeAt Go.RowKit
open Go.ChangeMaps (open_string shut_string)
open Go.Proofs.Ytcfmpnhnahafpaa.el2
open Go.Proofs.Ytcfmpnhnahafpaa.fr (FR)
open Go.Proofs.Ytcfmpnhnahafpaa.vers (new2 new3)
set_option linter.unusedVariables false
theorem own : ownKnob Try.prog.godebug = none := by kernel_rfl
theorem laidOut : laidOutB Try.prog = true := by kernel_rfl
theorem walk (A0 : Option Addr) (n0 c0 : Nat) (L0 : List E2) (a1 : Int) (a2 : Int) (w : World) (h0 : Go.Proofs.Ytcfmpnhnahafpaa.el2.Vs w w.heap.size A0 n0 L0) (m0 : n0 ≤ maxLen) (b1 : (Lit.int .i64 a1).wf = true) (b2 : (Lit.int .i64 a2).wf = true) :
    Calls Try.prog 8 #[.slice A0 n0 c0, .int .i64 a1, .int .i64 a2] w fun e w' => e = .returned (.bool true) ∧ Below w.heap.size w w' := by
  unfold maxLen at m0
  have H0 := Lib.hid h0
  have hlen0 := h0.1
  clear h0
  clear b1
  clear b2
  by_cases hbig0 : (1048576 : Int) < (n0 : Int)
  · have hz := Go.Proofs.Ytcfmpnhnahafpaa.owt.szK_no (left := (1048576 : Int)) (n := n0) (by omega)
    have HZ0 := Lib.hid hz
    clear hz
    go_enter Try.func8, Try.ntmps8
    go_wp2_with fail
    refine (Go.Proofs.Ytcfmpnhnahafpaa.owt.count_k A0 n0 c0 _ _ (by omega) (by omega) (by omega)).mono ?_
    rintro e W1 ⟨rfl, hb⟩
    rw [HZ0.out]
    have HB1 : Hid (Below w.heap.size w W1) := Lib.hid hb
    have HS1 : Hid (Below w.heap.size w W1) := Lib.hid hb
    have HF1 : Hid (FR 0 0 w W1) := Lib.hid (FR.of_below hb)
    have hs1 : w.heap.size ≤ W1.heap.size := hb.size
    clear hb
    go_wp2_with fail
    go_ret
    exact ⟨rfl, HB1.out⟩
  have hz := Go.Proofs.Ytcfmpnhnahafpaa.owt.szK_yes (left := (1048576 : Int)) (n := n0) (by omega)
  have HZ0 := Lib.hid hz
  clear hz
  obtain ⟨lf0, hlf⟩ : ∃ lf : Int, lf = (1048576 : Int) - (n0 : Int) := ⟨_, rfl⟩
  have hz := HZ0.out
  clear HZ0
  rw [← hlf] at hz
  have HZ0 := Lib.hid hz
  have tz0 : decide (lf0 < 0) = false := decide_eq_false (by omega)
  have lf00 : 0 ≤ lf0 := by omega
  have lf10 : lf0 ≤ 1048576 := by omega
  clear hlf hz
  obtain ⟨q0, hq0⟩ : ∃ q, Go.Proofs.Ytcfmpnhnahafpaa.wt.ddB L0 a1 a2 = q := ⟨_, rfl⟩
  have HQ0 := Lib.hid hq0
  clear hq0
  go_enter Try.func8, Try.ntmps8
  go_wp2_with fail
  refine (Go.Proofs.Ytcfmpnhnahafpaa.owt.count_k A0 n0 c0 _ _ (by omega) (by omega) (by omega)).mono ?_
  rintro e W1 ⟨rfl, hb⟩
  rw [HZ0.out]
  have HB1 : Hid (Below w.heap.size w W1) := Lib.hid hb
  have HS1 : Hid (Below w.heap.size w W1) := Lib.hid hb
  have HF1 : Hid (FR 0 0 w W1) := Lib.hid (FR.of_below hb)
  have hs1 : w.heap.size ≤ W1.heap.size := hb.size
  clear hb
  go_wp2_with fail
  refine (Go.Proofs.Ytcfmpnhnahafpaa.owt.own_k (by omega) (H0.out.below HB1.out) (HB1.out).size).mono ?_
  rintro e W2 ⟨Ns1, rfl, hv, hb⟩
  have hvp := hv.vs (Nat.le_refl _)
  have HB2 : Hid (Below w.heap.size w W2) := Lib.hid (HB1.out.trans (hb.mono HB1.out.size))
  have HS2 : Hid (Below W1.heap.size W1 W2) := Lib.hid hb
  have HF2 : Hid (FR 0 0 W1 W2) := Lib.hid (FR.of_below hb)
  have hs2 : W1.heap.size ≤ W2.heap.size := hb.size
  clear hb
  have s1_2 := Lib.hid hv
  clear hv
  have s1p_2 := Lib.hid hvp
  clear hvp
  go_wp2_with fail
  refine (Go.Proofs.Ytcfmpnhnahafpaa.wtw.spec_wd a1 a2 (by omega) (Nat.le_refl _) (.inr ⟨_, _, rfl⟩) s1p_2.out (Nat.le_refl _)).mono ?_
  rintro e W3 ⟨he, hb⟩
  rw [HQ0.out] at he
  subst he
  have HB3 : Hid (Below w.heap.size w W3) := Lib.hid (HB2.out.trans (hb.mono HB2.out.size))
  have HS3 : Hid (Below W2.heap.size W2 W3) := Lib.hid hb
  have HF3 : Hid (FR 0 0 W2 W3) := Lib.hid (FR.of_below hb)
  have hs3 : W2.heap.size ≤ W3.heap.size := hb.size
  clear hb
  have s1_3 := Lib.hid (s1_2.out.fr HF3.out (by omega) (by omega))
  clear s1_2
  have s1p_3 := Lib.hid ((s1p_2.out.below HS3.out).more HS3.out.size)
  clear s1p_2
  go_wp2_with fail
  refine (Go.Proofs.Ytcfmpnhnahafpaa.owt.own_k (by omega) (H0.out.below HB3.out) (HB3.out).size).mono ?_
  rintro e W4 ⟨Ns2, rfl, hv, hb⟩
  have hvp := hv.vs (Nat.le_refl _)
  have HB4 : Hid (Below w.heap.size w W4) := Lib.hid (HB3.out.trans (hb.mono HB3.out.size))
  have HS4 : Hid (Below W3.heap.size W3 W4) := Lib.hid hb
  have HF4 : Hid (FR 0 0 W3 W4) := Lib.hid (FR.of_below hb)
  have hs4 : W3.heap.size ≤ W4.heap.size := hb.size
  clear hb
  have s1_4 := Lib.hid (s1_3.out.fr HF4.out (by omega) (by omega))
  clear s1_3
  have s1p_4 := Lib.hid ((s1p_3.out.below HS4.out).more HS4.out.size)
  clear s1p_3
  have s2_4 := Lib.hid hv
  clear hv
  have s2p_4 := Lib.hid hvp
  clear hvp
  go_wp2_with fail
  refine (Go.Proofs.Ytcfmpnhnahafpaa.wtw.impl_wd a1 a2 (by omega) s2p_4.out (Nat.le_refl _)).mono ?_
  rintro e W5 ⟨he, hb⟩
  rw [HQ0.out] at he
  subst he
  have HB5 : Hid (Below w.heap.size w W5) := Lib.hid (HB4.out.trans (hb.mono HB4.out.size))
  have HS5 : Hid (Below W4.heap.size W4 W5) := Lib.hid hb
  have HF5 : Hid (FR 0 0 W4 W5) := Lib.hid (FR.of_below hb)
  have hs5 : W4.heap.size ≤ W5.heap.size := hb.size
  clear hb
  have s1_5 := Lib.hid (s1_4.out.fr HF5.out (by omega) (by omega))
  clear s1_4
  have s1p_5 := Lib.hid ((s1p_4.out.below HS5.out).more HS5.out.size)
  clear s1p_4
  have s2_5 := Lib.hid (s2_4.out.fr HF5.out (by omega) (by omega))
  clear s2_4
  have s2p_5 := Lib.hid ((s2p_4.out.below HS5.out).more HS5.out.size)
  clear s2p_4
  go_wp2_with fail
  refine (Go.Proofs.Ytcfmpnhnahafpaa.owt.own_k (by omega) (H0.out.below HB5.out) (HB5.out).size).mono ?_
  rintro e W6 ⟨Ns3, rfl, hv, hb⟩
  have hvp := hv.vs (Nat.le_refl _)
  have HB6 : Hid (Below w.heap.size w W6) := Lib.hid (HB5.out.trans (hb.mono HB5.out.size))
  have HS6 : Hid (Below W5.heap.size W5 W6) := Lib.hid hb
  have HF6 : Hid (FR 0 0 W5 W6) := Lib.hid (FR.of_below hb)
  have hs6 : W5.heap.size ≤ W6.heap.size := hb.size
  clear hb
  have s1_6 := Lib.hid (s1_5.out.fr HF6.out (by omega) (by omega))
  clear s1_5
  have s1p_6 := Lib.hid ((s1p_5.out.below HS6.out).more HS6.out.size)
  clear s1p_5
  have s2_6 := Lib.hid (s2_5.out.fr HF6.out (by omega) (by omega))
  clear s2_5
  have s2p_6 := Lib.hid ((s2p_5.out.below HS6.out).more HS6.out.size)
  clear s2p_5
  have s3_6 := Lib.hid hv
  clear hv
  have s3p_6 := Lib.hid hvp
  clear hvp
  go_wp2_with fail
  refine (Go.Proofs.Ytcfmpnhnahafpaa.owt.same_k (by omega) (s2_6.out.vs (by omega)) (s3_6.out.vs (by omega))).mono ?_
  rintro e W7 ⟨rfl, hb⟩
  have HB7 : Hid (Below w.heap.size w W7) := Lib.hid (HB6.out.trans (hb.mono HB6.out.size))
  have HS7 : Hid (Below W6.heap.size W6 W7) := Lib.hid hb
  have HF7 : Hid (FR 0 0 W6 W7) := Lib.hid (FR.of_below hb)
  have hs7 : W6.heap.size ≤ W7.heap.size := hb.size
  clear hb
  have s1_7 := Lib.hid (s1_6.out.fr HF7.out (by omega) (by omega))
  clear s1_6
  have s1p_7 := Lib.hid ((s1p_6.out.below HS7.out).more HS7.out.size)
  clear s1p_6
  have s2_7 := Lib.hid (s2_6.out.fr HF7.out (by omega) (by omega))
  clear s2_6
  have s2p_7 := Lib.hid ((s2p_6.out.below HS7.out).more HS7.out.size)
  clear s2p_6
  have s3_7 := Lib.hid (s3_6.out.fr HF7.out (by omega) (by omega))
  clear s3_6
  have s3p_7 := Lib.hid ((s3p_6.out.below HS7.out).more HS7.out.size)
  clear s3p_6
  go_wp2_with fail
  go_ret
  exact ⟨rfl, HB7.out⟩
/-! ### THE ROW's STEP -/
set_option maxRecDepth 100000 in
theorem lifted (os : Os) (started : os.Started) (H : Type) (enc : TypeId × Value → H) :
    ReturnsInHanded {} Try.checked os 8 .any (Rows.fnExactWouldDeadlockSpec.pre6 enc Try.prog Try.f8 Rows.fnExactWouldDeadlockRow.domain false) (Rows.fnExactWouldDeadlockSpec.post enc Try.prog Try.f8 false true false false) := by
  refine returnsInHanded_of_change (C := Try.checked) own started (by kernel_rfl) Try.func8
    (ChangeSpec.witness6 (enc := enc) (C := Try.checked) false ⟨#[], #[.slice none 0 0, .int .i64 0, .int .i64 0], []⟩ 8 (by kernel_rfl) (by kernel_rfl) (by kernel_rfl) (by kernel_rfl)) ?_
  intro W base args ds gs before hval0 hW hcnd _
  have hval : ∀ (j : Nat) t v, Try.f8.params[j]? = some t → args[j]? = some v → Value.okWide Try.prog W .any base t v := hval0
  have hW' := hW
  obtain ⟨pp, qq, hA0, hV, rfl, hfz, hnd⟩ := hW
  have hA : DataW.TrodAll enc Try.prog W 0 (fun _ => true) true Try.f8.params.toList args.toList ds pp := hA0
  rw [Try.params8] at hA hval
  obtain ⟨v0, vs0, dd0, ds0, pp0, qq0, hargs, rfl, rfl, h0, r0⟩ := trodAll_cons hA
  obtain ⟨v1, vs1, dd1, ds1, pp1, qq1, rfl, rfl, rfl, h1, r1⟩ := trodAll_cons r0
  obtain ⟨v2, vs2, dd2, ds2, pp2, qq2, rfl, rfl, rfl, h2, r2⟩ := trodAll_cons r1
  obtain ⟨rfl, rfl, rfl⟩ := trodAll_nil r2
  obtain rfl : args = #[v0, v1, v2] := by cases args; simp_all
  obtain ⟨rfl, rfl⟩ := trodVars_none hV
  have k0 := h0
  have lt0 : ∀ x ∈ pp0, x.block < W.heap.size := by obtain ⟨m, hm⟩ := k0; exact DataW.trod_lt m _ _ _ hm
  obtain ⟨A0, n0, c0, rfl⟩ := okWide_slice Try.underlying37 (hval 0 37 v0 rfl rfl)
  obtain ⟨L0, w0, m0⟩ := Go.Proofs.Ytcfmpnhnahafpaa.rWait.open_slice1 h0
  obtain ⟨a1, rfl, rfl, rfl, w1⟩ := open_int Try.underlying3 (hval 1 3 v1 rfl rfl) h1
  obtain ⟨a2, rfl, rfl, rfl, w2⟩ := open_int Try.underlying3 (hval 2 3 v2 rfl rfl) h2
  clear hA0 hval0
  refine (walk A0 n0 c0 L0 a1 a2 W w0 m0 w1 w2).mono fun e W' ⟨he, bel⟩ => ?_
  subst he
  exact ⟨_, rfl, _, _, _, [], _, [], hW', trodAll_mk1 (shut_bool Try.underlying4 _), (trodAll_cons_mk (Below.trod laidOut (by kernel_rfl) (of_decide_eq_true (by kernel_rfl)) k0 bel lt0) (trodAll_cons_mk (shut_int Try.underlying3 w1) (trodAll_cons_mk (shut_int Try.underlying3 w2) trodAll_mk0))), rfl, bel.frame _, fun h => by cases h⟩

theorem over : Rows.fnExactWouldDeadlockRow.holds Try.pinned (OpenSpec.ofChange Rows.fnExactWouldDeadlockSpec) :=
  OpenClaim.holds_of_wide 8 Try.f8 rfl rfl rfl rfl rfl rfl rfl ⟨rfl, rfl, rfl, rfl, rfl⟩ rfl rfl rfl rfl rfl (by kernel_rfl) Try.func8 (by kernel_rfl)
    (of_decide_eq_true (by kernel_rfl)) (by unfold Func.isWrapper; first | (rw [if_pos (by decide +kernel)]; kernel_rfl) | (rw [if_neg (by decide +kernel)]; exact ⟨rfl, rfl⟩))
    (fun os started H enc _ => lifted os started H enc)

/-- THE STATEMENT -/
theorem proved : Rows.FnExactWouldDeadlockSaid := over
#print axioms proved
end Go.Proofs.Ytcfmpnhnahafpaa.fnExactWouldDeadlock
