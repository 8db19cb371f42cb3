/- EqualOps of the program answers as its model at every pair of lists of operations: the law returns true and writes nothing that was there. No condition. -/
import Derived.Test.YtjnlbhmddhpmaabEqo
import Derived.Test.YtjnlbhmddhpmaabOwo
import Derived.WalkKit
import Derived.ProofKit
import Derived.OpenShut
import Derived.ShutString
import Derived.ChangeOld
import Derived.Below
import Derived.Carry
import Derived.Lib.Hide
import Derived.StillTailTactics
import Derived.Deep.RegionHeld3
import Derived.Deep.DeepHandedRow
namespace Go.Proofs.Ytjnlbhmddhpmaab.fnExactEqualOps
open Go.ChangeShapes Go.WideShapes Go.ChangeAt Go.RowKit
open Go.ChangeMaps (open_string shut_string)
open Go.Proofs.Ytjnlbhmddhpmaab.el6
open Go.Proofs.Ytjnlbhmddhpmaab.fr (FR)
open Go.Proofs.Ytjnlbhmddhpmaab.vers (new2 new3)
set_option linter.unusedVariables false
theorem own : ownKnob Try.prog.godebug = none := by kernel_rfl
theorem laidOut : laidOutB Try.prog = true := by kernel_rfl
set_option maxHeartbeats 1600000 in
theorem walk (A0 : Option Addr) (n0 c0 : Nat) (L0 : List E6) (A1 : Option Addr) (n1 c1 : Nat) (L1 : List E6) (w : World) (h0 : Go.Proofs.Ytjnlbhmddhpmaab.el6.Vs w w.heap.size A0 n0 L0) (m0 : n0 ≤ maxLen) (h1 : Go.Proofs.Ytjnlbhmddhpmaab.el6.Vs w w.heap.size A1 n1 L1) (m1 : n1 ≤ maxLen) :
    Calls Try.prog 4 #[.slice A0 n0 c0, .slice A1 n1 c1] w fun e w' => e = .returned (.bool true) ∧ Below w.heap.size w w' := by
  unfold maxLen at m0
  have H0 := Lib.hid h0
  have hlen0 := h0.1
  clear h0
  unfold maxLen at m1
  have H1 := Lib.hid h1
  have hlen1 := h1.1
  clear h1
  by_cases hbig0 : (1048576 : Int) < (n0 : Int)
  · have hz := Go.Proofs.Ytjnlbhmddhpmaab.owo.szK_no (left := (1048576 : Int)) (n := n0) (by omega)
    have HZ0 := Lib.hid hz
    clear hz
    go_enter Try.func4, Try.ntmps4
    go_wp2_with fail
    refine (Go.Proofs.Ytjnlbhmddhpmaab.owo.count_k A0 n0 c0 _ _ (by omega) (by omega) (by omega)).mono ?_
    rintro e W1 ⟨rfl, hb⟩
    rw [HZ0.out]
    have HB1 : Hid (Below w.heap.size w W1) := Lib.hid hb
    have HS1 : Hid (Below w.heap.size w W1) := Lib.hid hb
    have HF1 : Hid (FR 0 0 w W1) := Lib.hid (FR.of_below hb)
    have hs1 : w.heap.size ≤ W1.heap.size := hb.size
    clear hb
    go_wp2_with fail
    go_ret
    exact ⟨rfl, HB1.out⟩
  have hz := Go.Proofs.Ytjnlbhmddhpmaab.owo.szK_yes (left := (1048576 : Int)) (n := n0) (by omega)
  have HZ0 := Lib.hid hz
  clear hz
  obtain ⟨lf0, hlf⟩ : ∃ lf : Int, lf = (1048576 : Int) - (n0 : Int) := ⟨_, rfl⟩
  have hz := HZ0.out
  clear HZ0
  rw [← hlf] at hz
  have HZ0 := Lib.hid hz
  have tz0 : decide (lf0 < 0) = false := decide_eq_false (by omega)
  have lf00 : 0 ≤ lf0 := by omega
  have lf10 : lf0 ≤ 1048576 := by omega
  clear hlf hz
  by_cases hbig1 : lf0 < (n1 : Int)
  · have hz := Go.Proofs.Ytjnlbhmddhpmaab.owo.szK_no (left := lf0) (n := n1) (by omega)
    have HZ1 := Lib.hid hz
    clear hz
    go_enter Try.func4, Try.ntmps4
    go_wp2_with fail
    refine (Go.Proofs.Ytjnlbhmddhpmaab.owo.count_k A0 n0 c0 _ _ (by omega) (by omega) (by omega)).mono ?_
    rintro e W1 ⟨rfl, hb⟩
    rw [HZ0.out]
    have HB1 : Hid (Below w.heap.size w W1) := Lib.hid hb
    have HS1 : Hid (Below w.heap.size w W1) := Lib.hid hb
    have HF1 : Hid (FR 0 0 w W1) := Lib.hid (FR.of_below hb)
    have hs1 : w.heap.size ≤ W1.heap.size := hb.size
    clear hb
    go_wp2_with fail
    refine (Go.Proofs.Ytjnlbhmddhpmaab.owo.count_k A1 n1 c1 _ _ (by omega) (by omega) (by omega)).mono ?_
    rintro e W2 ⟨rfl, hb⟩
    rw [HZ1.out]
    have HB2 : Hid (Below w.heap.size w W2) := Lib.hid (HB1.out.trans (hb.mono HB1.out.size))
    have HS2 : Hid (Below W1.heap.size W1 W2) := Lib.hid hb
    have HF2 : Hid (FR 0 0 W1 W2) := Lib.hid (FR.of_below hb)
    have hs2 : W1.heap.size ≤ W2.heap.size := hb.size
    clear hb
    go_wp2_with fail
    go_ret
    exact ⟨rfl, HB2.out⟩
  have hz := Go.Proofs.Ytjnlbhmddhpmaab.owo.szK_yes (left := lf0) (n := n1) (by omega)
  have HZ1 := Lib.hid hz
  clear hz
  obtain ⟨lf1, hlf⟩ : ∃ lf : Int, lf = lf0 - (n1 : Int) := ⟨_, rfl⟩
  have hz := HZ1.out
  clear HZ1
  rw [← hlf] at hz
  have HZ1 := Lib.hid hz
  have tz1 : decide (lf1 < 0) = false := decide_eq_false (by omega)
  have lf01 : 0 ≤ lf1 := by omega
  have lf11 : lf1 ≤ 1048576 := by omega
  clear hlf hz
  obtain ⟨q0z, hq0⟩ : ∃ q, Go.Proofs.Ytjnlbhmddhpmaab.eqo.lO L0 L1 = q := ⟨_, rfl⟩
  have HQ0 := Lib.hid hq0
  clear hq0
  go_enter Try.func4, Try.ntmps4
  go_wp2_with fail
  refine (Go.Proofs.Ytjnlbhmddhpmaab.owo.count_k A0 n0 c0 _ _ (by omega) (by omega) (by omega)).mono ?_
  rintro e W1 ⟨rfl, hb⟩
  rw [HZ0.out]
  have HB1 : Hid (Below w.heap.size w W1) := Lib.hid hb
  have HS1 : Hid (Below w.heap.size w W1) := Lib.hid hb
  have HF1 : Hid (FR 0 0 w W1) := Lib.hid (FR.of_below hb)
  have hs1 : w.heap.size ≤ W1.heap.size := hb.size
  clear hb
  go_wp2_with fail
  refine (Go.Proofs.Ytjnlbhmddhpmaab.owo.count_k A1 n1 c1 _ _ (by omega) (by omega) (by omega)).mono ?_
  rintro e W2 ⟨rfl, hb⟩
  rw [HZ1.out]
  have HB2 : Hid (Below w.heap.size w W2) := Lib.hid (HB1.out.trans (hb.mono HB1.out.size))
  have HS2 : Hid (Below W1.heap.size W1 W2) := Lib.hid hb
  have HF2 : Hid (FR 0 0 W1 W2) := Lib.hid (FR.of_below hb)
  have hs2 : W1.heap.size ≤ W2.heap.size := hb.size
  clear hb
  go_wp2_with fail
  refine (Go.Proofs.Ytjnlbhmddhpmaab.owo.own_k (by omega) (H0.out.below HB2.out) (HB2.out).size).mono ?_
  rintro e W3 ⟨Ns1, rfl, hv, hb⟩
  have hvp := hv.vs (Nat.le_refl _)
  have HB3 : Hid (Below w.heap.size w W3) := Lib.hid (HB2.out.trans (hb.mono HB2.out.size))
  have HS3 : Hid (Below W2.heap.size W2 W3) := Lib.hid hb
  have HF3 : Hid (FR 0 0 W2 W3) := Lib.hid (FR.of_below hb)
  have hs3 : W2.heap.size ≤ W3.heap.size := hb.size
  clear hb
  have s1_3 := Lib.hid hv
  clear hv
  have s1p_3 := Lib.hid hvp
  clear hvp
  go_wp2_with fail
  refine (Go.Proofs.Ytjnlbhmddhpmaab.owo.own_k (by omega) (H1.out.below HB3.out) (HB3.out).size).mono ?_
  rintro e W4 ⟨Ns2, rfl, hv, hb⟩
  have hvp := hv.vs (Nat.le_refl _)
  have HB4 : Hid (Below w.heap.size w W4) := Lib.hid (HB3.out.trans (hb.mono HB3.out.size))
  have HS4 : Hid (Below W3.heap.size W3 W4) := Lib.hid hb
  have HF4 : Hid (FR 0 0 W3 W4) := Lib.hid (FR.of_below hb)
  have hs4 : W3.heap.size ≤ W4.heap.size := hb.size
  clear hb
  have s1_4 := Lib.hid (s1_3.out.fr HF4.out (by omega) (by omega))
  clear s1_3
  have s1p_4 := Lib.hid ((s1p_3.out.below HS4.out).more HS4.out.size)
  clear s1p_3
  have s2_4 := Lib.hid hv
  clear hv
  have s2p_4 := Lib.hid hvp
  clear hvp
  go_wp2_with fail
  refine (Go.Proofs.Ytjnlbhmddhpmaab.eqo.spec_eqo (by omega) (by omega) s1p_4.out s2p_4.out (Nat.le_refl _)).mono ?_
  rintro e W5 ⟨he, hb⟩
  rw [HQ0.out] at he
  subst he
  have HB5 : Hid (Below w.heap.size w W5) := Lib.hid (HB4.out.trans (hb.mono HB4.out.size))
  have HS5 : Hid (Below W4.heap.size W4 W5) := Lib.hid hb
  have HF5 : Hid (FR 0 0 W4 W5) := Lib.hid (FR.of_below hb)
  have hs5 : W4.heap.size ≤ W5.heap.size := hb.size
  clear hb
  have s1_5 := Lib.hid (s1_4.out.fr HF5.out (by omega) (by omega))
  clear s1_4
  have s1p_5 := Lib.hid ((s1p_4.out.below HS5.out).more HS5.out.size)
  clear s1p_4
  have s2_5 := Lib.hid (s2_4.out.fr HF5.out (by omega) (by omega))
  clear s2_4
  have s2p_5 := Lib.hid ((s2p_4.out.below HS5.out).more HS5.out.size)
  clear s2p_4
  go_wp2_with fail
  refine (Go.Proofs.Ytjnlbhmddhpmaab.owo.own_k (by omega) (H0.out.below HB5.out) (HB5.out).size).mono ?_
  rintro e W6 ⟨Ns3, rfl, hv, hb⟩
  have hvp := hv.vs (Nat.le_refl _)
  have HB6 : Hid (Below w.heap.size w W6) := Lib.hid (HB5.out.trans (hb.mono HB5.out.size))
  have HS6 : Hid (Below W5.heap.size W5 W6) := Lib.hid hb
  have HF6 : Hid (FR 0 0 W5 W6) := Lib.hid (FR.of_below hb)
  have hs6 : W5.heap.size ≤ W6.heap.size := hb.size
  clear hb
  have s1_6 := Lib.hid (s1_5.out.fr HF6.out (by omega) (by omega))
  clear s1_5
  have s1p_6 := Lib.hid ((s1p_5.out.below HS6.out).more HS6.out.size)
  clear s1p_5
  have s2_6 := Lib.hid (s2_5.out.fr HF6.out (by omega) (by omega))
  clear s2_5
  have s2p_6 := Lib.hid ((s2p_5.out.below HS6.out).more HS6.out.size)
  clear s2p_5
  have s3_6 := Lib.hid hv
  clear hv
  have s3p_6 := Lib.hid hvp
  clear hvp
  go_wp2_with fail
  refine (Go.Proofs.Ytjnlbhmddhpmaab.owo.own_k (by omega) (H1.out.below HB6.out) (HB6.out).size).mono ?_
  rintro e W7 ⟨Ns4, rfl, hv, hb⟩
  have hvp := hv.vs (Nat.le_refl _)
  have HB7 : Hid (Below w.heap.size w W7) := Lib.hid (HB6.out.trans (hb.mono HB6.out.size))
  have HS7 : Hid (Below W6.heap.size W6 W7) := Lib.hid hb
  have HF7 : Hid (FR 0 0 W6 W7) := Lib.hid (FR.of_below hb)
  have hs7 : W6.heap.size ≤ W7.heap.size := hb.size
  clear hb
  have s1_7 := Lib.hid (s1_6.out.fr HF7.out (by omega) (by omega))
  clear s1_6
  have s1p_7 := Lib.hid ((s1p_6.out.below HS7.out).more HS7.out.size)
  clear s1p_6
  have s2_7 := Lib.hid (s2_6.out.fr HF7.out (by omega) (by omega))
  clear s2_6
  have s2p_7 := Lib.hid ((s2p_6.out.below HS7.out).more HS7.out.size)
  clear s2p_6
  have s3_7 := Lib.hid (s3_6.out.fr HF7.out (by omega) (by omega))
  clear s3_6
  have s3p_7 := Lib.hid ((s3p_6.out.below HS7.out).more HS7.out.size)
  clear s3p_6
  have s4_7 := Lib.hid hv
  clear hv
  have s4p_7 := Lib.hid hvp
  clear hvp
  go_wp2_with fail
  refine (Go.Proofs.Ytjnlbhmddhpmaab.eqo.impl_eqo (by omega) (by omega) s3p_7.out s4p_7.out (Nat.le_refl _)).mono ?_
  rintro e W8 ⟨he, hb⟩
  rw [HQ0.out] at he
  subst he
  have HB8 : Hid (Below w.heap.size w W8) := Lib.hid (HB7.out.trans (hb.mono HB7.out.size))
  have HS8 : Hid (Below W7.heap.size W7 W8) := Lib.hid hb
  have HF8 : Hid (FR 0 0 W7 W8) := Lib.hid (FR.of_below hb)
  have hs8 : W7.heap.size ≤ W8.heap.size := hb.size
  clear hb
  have s1_8 := Lib.hid (s1_7.out.fr HF8.out (by omega) (by omega))
  clear s1_7
  have s1p_8 := Lib.hid ((s1p_7.out.below HS8.out).more HS8.out.size)
  clear s1p_7
  have s2_8 := Lib.hid (s2_7.out.fr HF8.out (by omega) (by omega))
  clear s2_7
  have s2p_8 := Lib.hid ((s2p_7.out.below HS8.out).more HS8.out.size)
  clear s2p_7
  have s3_8 := Lib.hid (s3_7.out.fr HF8.out (by omega) (by omega))
  clear s3_7
  have s3p_8 := Lib.hid ((s3p_7.out.below HS8.out).more HS8.out.size)
  clear s3p_7
  have s4_8 := Lib.hid (s4_7.out.fr HF8.out (by omega) (by omega))
  clear s4_7
  have s4p_8 := Lib.hid ((s4p_7.out.below HS8.out).more HS8.out.size)
  clear s4p_7
  go_wp2_with fail
  refine (Go.Proofs.Ytjnlbhmddhpmaab.owo.own_k (by omega) (H0.out.below HB8.out) (HB8.out).size).mono ?_
  rintro e W9 ⟨Ns5, rfl, hv, hb⟩
  have hvp := hv.vs (Nat.le_refl _)
  have HB9 : Hid (Below w.heap.size w W9) := Lib.hid (HB8.out.trans (hb.mono HB8.out.size))
  have HS9 : Hid (Below W8.heap.size W8 W9) := Lib.hid hb
  have HF9 : Hid (FR 0 0 W8 W9) := Lib.hid (FR.of_below hb)
  have hs9 : W8.heap.size ≤ W9.heap.size := hb.size
  clear hb
  have s1_9 := Lib.hid (s1_8.out.fr HF9.out (by omega) (by omega))
  clear s1_8
  have s1p_9 := Lib.hid ((s1p_8.out.below HS9.out).more HS9.out.size)
  clear s1p_8
  have s2_9 := Lib.hid (s2_8.out.fr HF9.out (by omega) (by omega))
  clear s2_8
  have s2p_9 := Lib.hid ((s2p_8.out.below HS9.out).more HS9.out.size)
  clear s2p_8
  have s3_9 := Lib.hid (s3_8.out.fr HF9.out (by omega) (by omega))
  clear s3_8
  have s3p_9 := Lib.hid ((s3p_8.out.below HS9.out).more HS9.out.size)
  clear s3p_8
  have s4_9 := Lib.hid (s4_8.out.fr HF9.out (by omega) (by omega))
  clear s4_8
  have s4p_9 := Lib.hid ((s4p_8.out.below HS9.out).more HS9.out.size)
  clear s4p_8
  have s5_9 := Lib.hid hv
  clear hv
  have s5p_9 := Lib.hid hvp
  clear hvp
  go_wp2_with fail
  refine (Go.Proofs.Ytjnlbhmddhpmaab.owo.same_k (by omega) (s3_9.out.vs (by omega)) (s5_9.out.vs (by omega))).mono ?_
  rintro e W10 ⟨rfl, hb⟩
  have HB10 : Hid (Below w.heap.size w W10) := Lib.hid (HB9.out.trans (hb.mono HB9.out.size))
  have HS10 : Hid (Below W9.heap.size W9 W10) := Lib.hid hb
  have HF10 : Hid (FR 0 0 W9 W10) := Lib.hid (FR.of_below hb)
  have hs10 : W9.heap.size ≤ W10.heap.size := hb.size
  clear hb
  have s1_10 := Lib.hid (s1_9.out.fr HF10.out (by omega) (by omega))
  clear s1_9
  have s1p_10 := Lib.hid ((s1p_9.out.below HS10.out).more HS10.out.size)
  clear s1p_9
  have s2_10 := Lib.hid (s2_9.out.fr HF10.out (by omega) (by omega))
  clear s2_9
  have s2p_10 := Lib.hid ((s2p_9.out.below HS10.out).more HS10.out.size)
  clear s2p_9
  have s3_10 := Lib.hid (s3_9.out.fr HF10.out (by omega) (by omega))
  clear s3_9
  have s3p_10 := Lib.hid ((s3p_9.out.below HS10.out).more HS10.out.size)
  clear s3p_9
  have s4_10 := Lib.hid (s4_9.out.fr HF10.out (by omega) (by omega))
  clear s4_9
  have s4p_10 := Lib.hid ((s4p_9.out.below HS10.out).more HS10.out.size)
  clear s4p_9
  have s5_10 := Lib.hid (s5_9.out.fr HF10.out (by omega) (by omega))
  clear s5_9
  have s5p_10 := Lib.hid ((s5p_9.out.below HS10.out).more HS10.out.size)
  clear s5p_9
  go_wp2_with fail
  refine (Go.Proofs.Ytjnlbhmddhpmaab.owo.own_k (by omega) (H1.out.below HB10.out) (HB10.out).size).mono ?_
  rintro e W11 ⟨Ns6, rfl, hv, hb⟩
  have hvp := hv.vs (Nat.le_refl _)
  have HB11 : Hid (Below w.heap.size w W11) := Lib.hid (HB10.out.trans (hb.mono HB10.out.size))
  have HS11 : Hid (Below W10.heap.size W10 W11) := Lib.hid hb
  have HF11 : Hid (FR 0 0 W10 W11) := Lib.hid (FR.of_below hb)
  have hs11 : W10.heap.size ≤ W11.heap.size := hb.size
  clear hb
  have s1_11 := Lib.hid (s1_10.out.fr HF11.out (by omega) (by omega))
  clear s1_10
  have s1p_11 := Lib.hid ((s1p_10.out.below HS11.out).more HS11.out.size)
  clear s1p_10
  have s2_11 := Lib.hid (s2_10.out.fr HF11.out (by omega) (by omega))
  clear s2_10
  have s2p_11 := Lib.hid ((s2p_10.out.below HS11.out).more HS11.out.size)
  clear s2p_10
  have s3_11 := Lib.hid (s3_10.out.fr HF11.out (by omega) (by omega))
  clear s3_10
  have s3p_11 := Lib.hid ((s3p_10.out.below HS11.out).more HS11.out.size)
  clear s3p_10
  have s4_11 := Lib.hid (s4_10.out.fr HF11.out (by omega) (by omega))
  clear s4_10
  have s4p_11 := Lib.hid ((s4p_10.out.below HS11.out).more HS11.out.size)
  clear s4p_10
  have s5_11 := Lib.hid (s5_10.out.fr HF11.out (by omega) (by omega))
  clear s5_10
  have s5p_11 := Lib.hid ((s5p_10.out.below HS11.out).more HS11.out.size)
  clear s5p_10
  have s6_11 := Lib.hid hv
  clear hv
  have s6p_11 := Lib.hid hvp
  clear hvp
  go_wp2_with fail
  refine (Go.Proofs.Ytjnlbhmddhpmaab.owo.same_k (by omega) (s4_11.out.vs (by omega)) (s6_11.out.vs (by omega))).mono ?_
  rintro e W12 ⟨rfl, hb⟩
  have HB12 : Hid (Below w.heap.size w W12) := Lib.hid (HB11.out.trans (hb.mono HB11.out.size))
  have HS12 : Hid (Below W11.heap.size W11 W12) := Lib.hid hb
  have HF12 : Hid (FR 0 0 W11 W12) := Lib.hid (FR.of_below hb)
  have hs12 : W11.heap.size ≤ W12.heap.size := hb.size
  clear hb
  have s1_12 := Lib.hid (s1_11.out.fr HF12.out (by omega) (by omega))
  clear s1_11
  have s1p_12 := Lib.hid ((s1p_11.out.below HS12.out).more HS12.out.size)
  clear s1p_11
  have s2_12 := Lib.hid (s2_11.out.fr HF12.out (by omega) (by omega))
  clear s2_11
  have s2p_12 := Lib.hid ((s2p_11.out.below HS12.out).more HS12.out.size)
  clear s2p_11
  have s3_12 := Lib.hid (s3_11.out.fr HF12.out (by omega) (by omega))
  clear s3_11
  have s3p_12 := Lib.hid ((s3p_11.out.below HS12.out).more HS12.out.size)
  clear s3p_11
  have s4_12 := Lib.hid (s4_11.out.fr HF12.out (by omega) (by omega))
  clear s4_11
  have s4p_12 := Lib.hid ((s4p_11.out.below HS12.out).more HS12.out.size)
  clear s4p_11
  have s5_12 := Lib.hid (s5_11.out.fr HF12.out (by omega) (by omega))
  clear s5_11
  have s5p_12 := Lib.hid ((s5p_11.out.below HS12.out).more HS12.out.size)
  clear s5p_11
  have s6_12 := Lib.hid (s6_11.out.fr HF12.out (by omega) (by omega))
  clear s6_11
  have s6p_12 := Lib.hid ((s6p_11.out.below HS12.out).more HS12.out.size)
  clear s6p_11
  go_wp2_with fail
  go_ret
  exact ⟨rfl, HB12.out⟩
/-! ### THE ROW's STEP -/
set_option maxRecDepth 100000 in
theorem lifted (os : Os) (started : os.Started) (H : Type) (enc : TypeId × Value → H) :
    ReturnsInHanded {} Try.checked os 4 .any (Rows.fnExactEqualOpsSpec.pre6 enc Try.prog Try.f4 Rows.fnExactEqualOpsRow.domain false) (Rows.fnExactEqualOpsSpec.post enc Try.prog Try.f4 false true false false) := by
  refine returnsInHanded_of_change (C := Try.checked) own started (by kernel_rfl) Try.func4
    (ChangeSpec.witness6 (enc := enc) (C := Try.checked) false ⟨#[], #[.slice none 0 0, .slice none 0 0], []⟩ 8 (by kernel_rfl) (by kernel_rfl) (by kernel_rfl) (by kernel_rfl)) ?_
  intro W base args ds gs before hval0 hW hcnd _
  have hval : ∀ (j : Nat) t v, Try.f4.params[j]? = some t → args[j]? = some v → Value.okWide Try.prog W .any base t v := hval0
  have hW' := hW
  obtain ⟨pp, qq, hA0, hV, rfl, hfz, hnd⟩ := hW
  have hA : DataW.TrodAll enc Try.prog W 0 (fun _ => true) true Try.f4.params.toList args.toList ds pp := hA0
  rw [Try.params4] at hA hval
  obtain ⟨v0, vs0, dd0, ds0, pp0, qq0, hargs, rfl, rfl, h0, r0⟩ := trodAll_cons hA
  obtain ⟨v1, vs1, dd1, ds1, pp1, qq1, rfl, rfl, rfl, h1, r1⟩ := trodAll_cons r0
  obtain ⟨rfl, rfl, rfl⟩ := trodAll_nil r1
  obtain rfl : args = #[v0, v1] := by cases args; simp_all
  obtain ⟨rfl, rfl⟩ := trodVars_none hV
  have k0 := h0
  have lt0 : ∀ x ∈ pp0, x.block < W.heap.size := by obtain ⟨m, hm⟩ := k0; exact DataW.trod_lt m _ _ _ hm
  obtain ⟨A0, n0, c0, rfl⟩ := okWide_slice Try.underlying22 (hval 0 22 v0 rfl rfl)
  obtain ⟨L0, w0, m0⟩ := Go.Proofs.Ytjnlbhmddhpmaab.rOp.open_slice1 h0
  have k1 := h1
  have lt1 : ∀ x ∈ pp1, x.block < W.heap.size := by obtain ⟨m, hm⟩ := k1; exact DataW.trod_lt m _ _ _ hm
  obtain ⟨A1, n1, c1, rfl⟩ := okWide_slice Try.underlying22 (hval 1 22 v1 rfl rfl)
  obtain ⟨L1, w1, m1⟩ := Go.Proofs.Ytjnlbhmddhpmaab.rOp.open_slice1 h1
  clear hA0 hval0
  refine (walk A0 n0 c0 L0 A1 n1 c1 L1 W w0 m0 w1 m1).mono fun e W' ⟨he, bel⟩ => ?_
  subst he
  exact ⟨_, rfl, _, _, _, [], _, [], hW', trodAll_mk1 (shut_bool Try.underlying4 _), (trodAll_cons_mk (Below.trod laidOut (by kernel_rfl) (of_decide_eq_true (by kernel_rfl)) k0 bel lt0) (trodAll_cons_mk (Below.trod laidOut (by kernel_rfl) (of_decide_eq_true (by kernel_rfl)) k1 bel lt1) trodAll_mk0)), rfl, bel.frame _, fun h => by cases h⟩

theorem over : Rows.fnExactEqualOpsRow.holds Try.pinned (OpenSpec.ofChange Rows.fnExactEqualOpsSpec) :=
  OpenClaim.holds_of_wide 4 Try.f4 rfl rfl rfl rfl rfl rfl rfl ⟨rfl, rfl, rfl, rfl, rfl⟩ rfl rfl rfl rfl rfl (by kernel_rfl) Try.func4 (by kernel_rfl)
    (of_decide_eq_true (by kernel_rfl)) (by unfold Func.isWrapper; first | (rw [if_pos (by decide +kernel)]; kernel_rfl) | (rw [if_neg (by decide +kernel)]; exact ⟨rfl, rfl⟩))
    (fun os started H enc _ => lifted os started H enc)

/-- THE STATEMENT -/
theorem proved : Rows.FnExactEqualOpsSaid := over
#print axioms proved
end Go.Proofs.Ytjnlbhmddhpmaab.fnExactEqualOps
