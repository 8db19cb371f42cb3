/- NewEngine of the program answers as its model at every flag, in memory of its own: the law returns true and writes nothing that was there. No condition. -/
import Derived.Test.YtjnlbhmddhpmaaaNewe
import Derived.Test.YtjnlbhmddhpmaaaOpt
import Derived.WalkKit
import Derived.ProofKit
import Derived.OpenShut
import Derived.ShutString
import Derived.ChangeOld
import Derived.Below
import Derived.Carry
import Derived.Lib.Hide
import Derived.StillTailTactics
import Derived.Deep.RegionHeld3
import Derived.Deep.DeepHandedRow
namespace Go.Proofs.Ytjnlbhmddhpmaaa.fnExactNewEngine
open Go.ChangeShapes Go.WideShapes Go.ChangeAt Go.RowKit
open Go.ChangeMaps (open_string shut_string)
open Go.Proofs.Ytjnlbhmddhpmaaa.el2
open Go.Proofs.Ytjnlbhmddhpmaaa.fr (FR)
open Go.Proofs.Ytjnlbhmddhpmaaa.vers (new2 new3)
open Go.Proofs.Ytjnlbhmddhpmaaa.mkr (Tr)
open Go.Proofs.Ytjnlbhmddhpmaaa.sl (Ver)
set_option linter.unusedVariables false
theorem own : ownKnob Try.prog.godebug = none := by kernel_rfl
theorem laidOut : laidOutB Try.prog = true := by kernel_rfl
set_option maxHeartbeats 3200000 in
theorem walk (q0 : Bool) (w : World)  :
    Calls Try.prog 3 #[.bool q0] w fun e w' => e = .returned (.bool true) ∧ Below w.heap.size w w' := by
  have hcn : Go.Proofs.Ytjnlbhmddhpmaaa.st.cnt Go.Proofs.Ytjnlbhmddhpmaaa.new.ns = 6 := Go.Proofs.Ytjnlbhmddhpmaaa.new.ns_cnt
  have hct : Go.Proofs.Ytjnlbhmddhpmaaa.ts.cntT [] = 0 := rfl
  go_enter Try.func3, Try.ntmps3
  go_wp2_with fail
  refine (Go.Proofs.Ytjnlbhmddhpmaaa.newe.spec_newe q0 _).mono ?_
  rintro e W1 ⟨As1, cs1, rfl, hv, hb⟩
  have HB1 : Hid (Below w.heap.size w W1) := Lib.hid hb
  have HS1 : Hid (Below w.heap.size w W1) := Lib.hid hb
  have HF1 : Hid (FR 0 0 w W1) := Lib.hid (FR.of_below hb)
  have hs1 : w.heap.size ≤ W1.heap.size := hb.size
  clear hb
  have s1_1 := Lib.hid hv
  clear hv
  go_wp2_with fail
  have hx0 := Go.Proofs.Ytjnlbhmddhpmaaa.eg.EB.new W1 q0 (.slice As1 6 cs1) (.slice none 0 0) (.slice none 0 0) (.slice none 0 0) 0 29
  have hz : (W1.alloc (.cells #[.bool q0, .slice As1 6 cs1, .slice none 0 0, .slice none 0 0, .slice none 0 0, .int .i64 0] 29)).heap.size = W1.heap.size + 1 := by simp
  have hb := Go.Proofs.Ytjnlbhmddhpmaaa.el2.new1 W1 (.cells #[.bool q0, .slice As1 6 cs1, .slice none 0 0, .slice none 0 0, .slice none 0 0, .int .i64 0] 29)
  generalize (W1.alloc (.cells #[.bool q0, .slice As1 6 cs1, .slice none 0 0, .slice none 0 0, .slice none 0 0, .int .i64 0] 29)) = W2 at hx0 hb hz ⊢
  have HB2 : Hid (Below w.heap.size w W2) := Lib.hid (HB1.out.trans (hb.mono HB1.out.size))
  have HS2 : Hid (Below W1.heap.size W1 W2) := Lib.hid hb
  have HF2 : Hid (FR 0 0 W1 W2) := Lib.hid (FR.of_below hb)
  have hs2 : W1.heap.size ≤ W2.heap.size := hb.size
  clear hb
  have s1_2 := Lib.hid (s1_1.out.fr HF2.out (by omega) (by omega))
  clear s1_1
  have hz2 : W1.heap.size + 1 ≤ W2.heap.size := Nat.le_of_eq hz.symm
  clear hz
  have b0_2 := Lib.hid hx0
  clear hx0
  refine (Go.Proofs.Ytjnlbhmddhpmaaa.newe.impl_newe q0 _).mono ?_
  rintro e W3 ⟨As2, cs2, rfl, hv, hvp, hb⟩
  have HB3 : Hid (Below w.heap.size w W3) := Lib.hid (HB2.out.trans (hb.mono HB2.out.size))
  have HS3 : Hid (Below W2.heap.size W2 W3) := Lib.hid hb
  have HF3 : Hid (FR 0 0 W2 W3) := Lib.hid (FR.of_below hb)
  have hs3 : W2.heap.size ≤ W3.heap.size := hb.size
  clear hb
  have b0_3 := Lib.hid (Go.Proofs.Ytjnlbhmddhpmaaa.eg.EB.fr b0_2.out HF3.out (by omega) (by omega))
  clear b0_2
  have s1_3 := Lib.hid (s1_2.out.fr HF3.out (by omega) (by omega))
  clear s1_2
  have s2_3 := Lib.hid hv
  clear hv
  have s2p_3 := Lib.hid hvp
  clear hvp
  obtain ⟨b0c0, b0c1, b0c2, b0c3, b0c4, b0c5⟩ := b0_3.out
  have b0L : W1.heap.size < W3.heap.size := by omega
  go_wp2_with fail
  have hx0 := Go.Proofs.Ytjnlbhmddhpmaaa.eg.EB.new W3 q0 (.slice As2 6 cs2) (.slice none 0 0) (.slice none 0 0) (.slice none 0 0) 0 29
  have hz : (W3.alloc (.cells #[.bool q0, .slice As2 6 cs2, .slice none 0 0, .slice none 0 0, .slice none 0 0, .int .i64 0] 29)).heap.size = W3.heap.size + 1 := by simp
  have hb := Go.Proofs.Ytjnlbhmddhpmaaa.el2.new1 W3 (.cells #[.bool q0, .slice As2 6 cs2, .slice none 0 0, .slice none 0 0, .slice none 0 0, .int .i64 0] 29)
  generalize (W3.alloc (.cells #[.bool q0, .slice As2 6 cs2, .slice none 0 0, .slice none 0 0, .slice none 0 0, .int .i64 0] 29)) = W4 at hx0 hb hz ⊢
  have HB4 : Hid (Below w.heap.size w W4) := Lib.hid (HB3.out.trans (hb.mono HB3.out.size))
  have HS4 : Hid (Below W3.heap.size W3 W4) := Lib.hid hb
  have HF4 : Hid (FR 0 0 W3 W4) := Lib.hid (FR.of_below hb)
  have hs4 : W3.heap.size ≤ W4.heap.size := hb.size
  clear hb
  have b0_4 := Lib.hid (Go.Proofs.Ytjnlbhmddhpmaaa.eg.EB.fr b0_3.out HF4.out (by omega) (by omega))
  clear b0_3
  have s1_4 := Lib.hid (s1_3.out.fr HF4.out (by omega) (by omega))
  clear s1_3
  have s2_4 := Lib.hid (s2_3.out.fr HF4.out (by omega) (by omega))
  clear s2_3
  have s2p_4 := Lib.hid ((s2p_3.out.below HS4.out).more HS4.out.size)
  clear s2p_3
  have hz4 : W3.heap.size + 1 ≤ W4.heap.size := Nat.le_of_eq hz.symm
  clear hz
  have b1_4 := Lib.hid hx0
  clear hx0
  refine (Go.Proofs.Ytjnlbhmddhpmaaa.eg.same_eg q0 0 (by omega) (by omega) (by omega) (by omega) s2p_4.out (s1_4.out.er (by omega)) (Nat.le_refl _)).mono ?_
  rintro e W5 ⟨rfl, hb⟩
  have HB5 : Hid (Below w.heap.size w W5) := Lib.hid (HB4.out.trans (hb.mono HB4.out.size))
  have HS5 : Hid (Below W4.heap.size W4 W5) := Lib.hid hb
  have HF5 : Hid (FR 0 0 W4 W5) := Lib.hid (FR.of_below hb)
  have hs5 : W4.heap.size ≤ W5.heap.size := hb.size
  clear hb
  have b0_5 := Lib.hid (Go.Proofs.Ytjnlbhmddhpmaaa.eg.EB.fr b0_4.out HF5.out (by omega) (by omega))
  clear b0_4
  have b1_5 := Lib.hid (Go.Proofs.Ytjnlbhmddhpmaaa.eg.EB.fr b1_4.out HF5.out (by omega) (by omega))
  clear b1_4
  have s1_5 := Lib.hid (s1_4.out.fr HF5.out (by omega) (by omega))
  clear s1_4
  have s2_5 := Lib.hid (s2_4.out.fr HF5.out (by omega) (by omega))
  clear s2_4
  have s2p_5 := Lib.hid ((s2p_4.out.below HS5.out).more HS5.out.size)
  clear s2p_4
  clear b0c0 b0c1 b0c2 b0c3 b0c4 b0c5 b0L
  obtain ⟨b1c0, b1c1, b1c2, b1c3, b1c4, b1c5⟩ := b1_5.out
  have b1L : W3.heap.size < W5.heap.size := by omega
  go_wp2_with fail
  refine (Go.Proofs.Ytjnlbhmddhpmaaa.eg.mark_e1 q0 0 (by omega) (by omega) (by omega) (by omega) (by omega) (by omega) s2_5.out (by omega)).mono ?_
  rintro e W6 ⟨rfl, hm, hf⟩
  have HF6 : Hid (FR W2.heap.size W3.heap.size W5 W6) := Lib.hid hf
  have HB6 : Hid (Below w.heap.size w W6) := Lib.hid (FR.chain HB5.out hf (by omega))
  have hs6 : W5.heap.size ≤ W6.heap.size := hf.size
  clear hf
  have b0_6 := Lib.hid (Go.Proofs.Ytjnlbhmddhpmaaa.eg.EB.fr b0_5.out HF6.out (by omega) (by omega))
  clear b0_5
  have b1_6 := Lib.hid (Go.Proofs.Ytjnlbhmddhpmaaa.eg.EB.fr b1_5.out HF6.out (by omega) (by omega))
  clear b1_5
  have s1_6 := Lib.hid (s1_5.out.fr HF6.out (by omega) (by omega))
  clear s1_5
  clear s2_5 s2p_5
  obtain ⟨s2c, hs2c⟩ : ∃ z : Int, z = 1 + ((Go.Proofs.Ytjnlbhmddhpmaaa.st.cnt Go.Proofs.Ytjnlbhmddhpmaaa.new.ns * 5 + (0 * 7 + Go.Proofs.Ytjnlbhmddhpmaaa.ts.cntT [] * 2) + 0 * 2 + 0 * 2 : Nat) : Int) := ⟨_, rfl⟩
  rw [← hs2c]
  have s2t : decide (s2c < 0) = false := decide_eq_false (by omega)
  have s2b0 : 0 ≤ s2c := by omega
  have s2b1 : s2c ≤ 1099511627776 := by omega
  have Hs2C := Lib.hid hs2c
  clear hs2c
  have s2m_6 := Lib.hid hm
  clear hm
  clear b1c0 b1c1 b1c2 b1c3 b1c4 b1c5 b1L
  obtain ⟨b1c0, b1c1, b1c2, b1c3, b1c4, b1c5⟩ := b1_6.out
  have b1L : W3.heap.size < W6.heap.size := by omega
  go_wp2_with fail
  refine (Go.Proofs.Ytjnlbhmddhpmaaa.eg.held_e1 q0 0 (by omega) (by omega) (by omega) (by omega) (by omega) (by omega) s2m_6.out (by omega)).mono ?_
  rintro e W7 ⟨rfl, hb⟩
  rw [← Hs2C.out]
  have HB7 : Hid (Below w.heap.size w W7) := Lib.hid (HB6.out.trans (hb.mono HB6.out.size))
  have HS7 : Hid (Below W6.heap.size W6 W7) := Lib.hid hb
  have HF7 : Hid (FR 0 0 W6 W7) := Lib.hid (FR.of_below hb)
  have hs7 : W6.heap.size ≤ W7.heap.size := hb.size
  clear hb
  have b0_7 := Lib.hid (Go.Proofs.Ytjnlbhmddhpmaaa.eg.EB.fr b0_6.out HF7.out (by omega) (by omega))
  clear b0_6
  have b1_7 := Lib.hid (Go.Proofs.Ytjnlbhmddhpmaaa.eg.EB.fr b1_6.out HF7.out (by omega) (by omega))
  clear b1_6
  have s1_7 := Lib.hid (s1_6.out.fr HF7.out (by omega) (by omega))
  clear s1_6
  have s2m_7 := Lib.hid (s2m_6.out.fr HF7.out (by omega) (by omega))
  clear s2m_6
  clear b1c0 b1c1 b1c2 b1c3 b1c4 b1c5 b1L
  go_wp2_with fail
  refine (Go.Proofs.Ytjnlbhmddhpmaaa.newe.impl_newe q0 _).mono ?_
  rintro e W8 ⟨As3, cs3, rfl, hv, hvp, hb⟩
  have HB8 : Hid (Below w.heap.size w W8) := Lib.hid (HB7.out.trans (hb.mono HB7.out.size))
  have HS8 : Hid (Below W7.heap.size W7 W8) := Lib.hid hb
  have HF8 : Hid (FR 0 0 W7 W8) := Lib.hid (FR.of_below hb)
  have hs8 : W7.heap.size ≤ W8.heap.size := hb.size
  clear hb
  have b0_8 := Lib.hid (Go.Proofs.Ytjnlbhmddhpmaaa.eg.EB.fr b0_7.out HF8.out (by omega) (by omega))
  clear b0_7
  have b1_8 := Lib.hid (Go.Proofs.Ytjnlbhmddhpmaaa.eg.EB.fr b1_7.out HF8.out (by omega) (by omega))
  clear b1_7
  have s1_8 := Lib.hid (s1_7.out.fr HF8.out (by omega) (by omega))
  clear s1_7
  have s2m_8 := Lib.hid (s2m_7.out.fr HF8.out (by omega) (by omega))
  clear s2m_7
  have s3_8 := Lib.hid hv
  clear hv
  have s3p_8 := Lib.hid hvp
  clear hvp
  obtain ⟨b0c0, b0c1, b0c2, b0c3, b0c4, b0c5⟩ := b0_8.out
  have b0L : W1.heap.size < W8.heap.size := by omega
  go_wp2_with fail
  have hx0 := Go.Proofs.Ytjnlbhmddhpmaaa.eg.EB.new W8 q0 (.slice As3 6 cs3) (.slice none 0 0) (.slice none 0 0) (.slice none 0 0) 0 29
  have hz : (W8.alloc (.cells #[.bool q0, .slice As3 6 cs3, .slice none 0 0, .slice none 0 0, .slice none 0 0, .int .i64 0] 29)).heap.size = W8.heap.size + 1 := by simp
  have hb := Go.Proofs.Ytjnlbhmddhpmaaa.el2.new1 W8 (.cells #[.bool q0, .slice As3 6 cs3, .slice none 0 0, .slice none 0 0, .slice none 0 0, .int .i64 0] 29)
  generalize (W8.alloc (.cells #[.bool q0, .slice As3 6 cs3, .slice none 0 0, .slice none 0 0, .slice none 0 0, .int .i64 0] 29)) = W9 at hx0 hb hz ⊢
  have HB9 : Hid (Below w.heap.size w W9) := Lib.hid (HB8.out.trans (hb.mono HB8.out.size))
  have HS9 : Hid (Below W8.heap.size W8 W9) := Lib.hid hb
  have HF9 : Hid (FR 0 0 W8 W9) := Lib.hid (FR.of_below hb)
  have hs9 : W8.heap.size ≤ W9.heap.size := hb.size
  clear hb
  have b0_9 := Lib.hid (Go.Proofs.Ytjnlbhmddhpmaaa.eg.EB.fr b0_8.out HF9.out (by omega) (by omega))
  clear b0_8
  have b1_9 := Lib.hid (Go.Proofs.Ytjnlbhmddhpmaaa.eg.EB.fr b1_8.out HF9.out (by omega) (by omega))
  clear b1_8
  have s1_9 := Lib.hid (s1_8.out.fr HF9.out (by omega) (by omega))
  clear s1_8
  have s2m_9 := Lib.hid (s2m_8.out.fr HF9.out (by omega) (by omega))
  clear s2m_8
  have s3_9 := Lib.hid (s3_8.out.fr HF9.out (by omega) (by omega))
  clear s3_8
  have s3p_9 := Lib.hid ((s3p_8.out.below HS9.out).more HS9.out.size)
  clear s3p_8
  have hz9 : W8.heap.size + 1 ≤ W9.heap.size := Nat.le_of_eq hz.symm
  clear hz
  have b2_9 := Lib.hid hx0
  clear hx0
  refine (Go.Proofs.Ytjnlbhmddhpmaaa.eg.same_eg q0 0 (by omega) (by omega) (by omega) (by omega) s3p_9.out (s1_9.out.er (by omega)) (Nat.le_refl _)).mono ?_
  rintro e W10 ⟨rfl, hb⟩
  have HB10 : Hid (Below w.heap.size w W10) := Lib.hid (HB9.out.trans (hb.mono HB9.out.size))
  have HS10 : Hid (Below W9.heap.size W9 W10) := Lib.hid hb
  have HF10 : Hid (FR 0 0 W9 W10) := Lib.hid (FR.of_below hb)
  have hs10 : W9.heap.size ≤ W10.heap.size := hb.size
  clear hb
  have b0_10 := Lib.hid (Go.Proofs.Ytjnlbhmddhpmaaa.eg.EB.fr b0_9.out HF10.out (by omega) (by omega))
  clear b0_9
  have b1_10 := Lib.hid (Go.Proofs.Ytjnlbhmddhpmaaa.eg.EB.fr b1_9.out HF10.out (by omega) (by omega))
  clear b1_9
  have b2_10 := Lib.hid (Go.Proofs.Ytjnlbhmddhpmaaa.eg.EB.fr b2_9.out HF10.out (by omega) (by omega))
  clear b2_9
  have s1_10 := Lib.hid (s1_9.out.fr HF10.out (by omega) (by omega))
  clear s1_9
  have s2m_10 := Lib.hid (s2m_9.out.fr HF10.out (by omega) (by omega))
  clear s2m_9
  have s3_10 := Lib.hid (s3_9.out.fr HF10.out (by omega) (by omega))
  clear s3_9
  have s3p_10 := Lib.hid ((s3p_9.out.below HS10.out).more HS10.out.size)
  clear s3p_9
  clear b0c0 b0c1 b0c2 b0c3 b0c4 b0c5 b0L
  obtain ⟨b1c0, b1c1, b1c2, b1c3, b1c4, b1c5⟩ := b1_10.out
  have b1L : W3.heap.size < W10.heap.size := by omega
  go_wp2_with fail
  refine (Go.Proofs.Ytjnlbhmddhpmaaa.eg.held_e1 q0 0 (by omega) (by omega) (by omega) (by omega) (by omega) (by omega) s2m_10.out (by omega)).mono ?_
  rintro e W11 ⟨rfl, hb⟩
  rw [← Hs2C.out]
  have HB11 : Hid (Below w.heap.size w W11) := Lib.hid (HB10.out.trans (hb.mono HB10.out.size))
  have HS11 : Hid (Below W10.heap.size W10 W11) := Lib.hid hb
  have HF11 : Hid (FR 0 0 W10 W11) := Lib.hid (FR.of_below hb)
  have hs11 : W10.heap.size ≤ W11.heap.size := hb.size
  clear hb
  have b0_11 := Lib.hid (Go.Proofs.Ytjnlbhmddhpmaaa.eg.EB.fr b0_10.out HF11.out (by omega) (by omega))
  clear b0_10
  have b1_11 := Lib.hid (Go.Proofs.Ytjnlbhmddhpmaaa.eg.EB.fr b1_10.out HF11.out (by omega) (by omega))
  clear b1_10
  have b2_11 := Lib.hid (Go.Proofs.Ytjnlbhmddhpmaaa.eg.EB.fr b2_10.out HF11.out (by omega) (by omega))
  clear b2_10
  have s1_11 := Lib.hid (s1_10.out.fr HF11.out (by omega) (by omega))
  clear s1_10
  have s2m_11 := Lib.hid (s2m_10.out.fr HF11.out (by omega) (by omega))
  clear s2m_10
  have s3_11 := Lib.hid (s3_10.out.fr HF11.out (by omega) (by omega))
  clear s3_10
  have s3p_11 := Lib.hid ((s3p_10.out.below HS11.out).more HS11.out.size)
  clear s3p_10
  clear b1c0 b1c1 b1c2 b1c3 b1c4 b1c5 b1L
  go_wp2_with fail
  go_ret
  exact ⟨rfl, HB11.out⟩
/-! ### THE ROW's STEP -/
set_option maxRecDepth 100000 in
theorem lifted (os : Os) (started : os.Started) (H : Type) (enc : TypeId × Value → H) :
    ReturnsInHanded {} Try.checked os 3 .any (Rows.fnExactNewEngineSpec.pre6 enc Try.prog Try.f3 Rows.fnExactNewEngineRow.domain false) (Rows.fnExactNewEngineSpec.post enc Try.prog Try.f3 false true false false) := by
  refine returnsInHanded_of_change (C := Try.checked) own started (by kernel_rfl) Try.func3
    (ChangeSpec.witness6 (enc := enc) (C := Try.checked) false ⟨#[], #[.bool false], []⟩ 8 (by kernel_rfl) (by kernel_rfl) (by kernel_rfl) (by kernel_rfl)) ?_
  intro W base args ds gs before hval0 hW hcnd _
  have hval : ∀ (j : Nat) t v, Try.f3.params[j]? = some t → args[j]? = some v → Value.okWide Try.prog W .any base t v := hval0
  have hW' := hW
  obtain ⟨pp, qq, hA0, hV, rfl, hfz, hnd⟩ := hW
  have hA : DataW.TrodAll enc Try.prog W 0 (fun _ => true) true Try.f3.params.toList args.toList ds pp := hA0
  rw [Try.params3] at hA hval
  obtain ⟨v0, vs0, dd0, ds0, pp0, qq0, hargs, rfl, rfl, h0, r0⟩ := trodAll_cons hA
  obtain ⟨rfl, rfl, rfl⟩ := trodAll_nil r0
  obtain rfl : args = #[v0] := by cases args; simp_all
  obtain ⟨rfl, rfl⟩ := trodVars_none hV
  have k0 := h0
  have lt0 : ∀ x ∈ pp0, x.block < W.heap.size := by obtain ⟨m, hm⟩ := k0; exact DataW.trod_lt m _ _ _ hm
  obtain ⟨q0, rfl⟩ := Go.Proofs.Ytjnlbhmddhpmaaa.newe.open_b (hval 0 4 v0 rfl rfl) h0
  clear hA0 hval0
  refine (walk q0 W ).mono fun e W' ⟨he, bel⟩ => ?_
  subst he
  exact ⟨_, rfl, _, _, _, [], _, [], hW', trodAll_mk1 (shut_bool Try.underlying4 _), (trodAll_cons_mk (Below.trod laidOut (by kernel_rfl) (of_decide_eq_true (by kernel_rfl)) k0 bel lt0) trodAll_mk0), rfl, bel.frame _, fun h => by cases h⟩

theorem over : Rows.fnExactNewEngineRow.holds Try.pinned (OpenSpec.ofChange Rows.fnExactNewEngineSpec) :=
  OpenClaim.holds_of_wide 3 Try.f3 rfl rfl rfl rfl rfl rfl rfl ⟨rfl, rfl, rfl, rfl, rfl⟩ rfl rfl rfl rfl rfl (by kernel_rfl) Try.func3 (by kernel_rfl)
    (of_decide_eq_true (by kernel_rfl)) (by unfold Func.isWrapper; first | (rw [if_pos (by decide +kernel)]; kernel_rfl) | (rw [if_neg (by decide +kernel)]; exact ⟨rfl, rfl⟩))
    (fun os started H enc _ => lifted os started H enc)

/-- THE STATEMENT -/
theorem proved : Rows.FnExactNewEngineSaid := over
#print axioms proved
end Go.Proofs.Ytjnlbhmddhpmaaa.fnExactNewEngine
