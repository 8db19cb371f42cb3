/- OpsOf of the program answers as its model at every list of operations and integer, in memory of its own: the law returns true and writes nothing that was there. No condition. -/
import Derived.Test.YtjnlbhmddhpmaabOo
import Derived.Test.YtjnlbhmddhpmaabOwo
import Derived.WalkKit
import Derived.ProofKit
import Derived.OpenShut
import Derived.ShutString
import Derived.ChangeOld
import Derived.Below
import Derived.Carry
import Derived.Lib.Hide
import Derived.StillTailTactics
import Derived.Deep.RegionHeld3
import Derived.Deep.DeepHandedRow
namespace Go.Proofs.Ytjnlbhmddhpmaab.fnExactOpsOf
open Go.ChangeShapes Go.WideShapes Go.ChangeAt Go.RowKit
open Go.ChangeMaps (open_string shut_string)
open Go.Proofs.Ytjnlbhmddhpmaab.el6
open Go.Proofs.Ytjnlbhmddhpmaab.fr (FR)
open Go.Proofs.Ytjnlbhmddhpmaab.vers (new2 new3)
set_option linter.unusedVariables false
theorem own : ownKnob Try.prog.godebug = none := by kernel_rfl
theorem laidOut : laidOutB Try.prog = true := by kernel_rfl
set_option maxHeartbeats 6400000 in
theorem walk (A0 : Option Addr) (n0 c0 : Nat) (L0 : List E6) (a1 : Int) (w : World) (h0 : Go.Proofs.Ytjnlbhmddhpmaab.el6.Vs w w.heap.size A0 n0 L0) (m0 : n0 ≤ maxLen) (b1 : (Lit.int .i64 a1).wf = true) :
    Calls Try.prog 3 #[.slice A0 n0 c0, .int .i64 a1] w fun e w' => e = .returned (.bool true) ∧ Below w.heap.size w w' := by
  unfold maxLen at m0
  have H0 := Lib.hid h0
  have hlen0 := h0.1
  clear h0
  clear b1
  by_cases hbig0 : (1048576 : Int) < (n0 : Int)
  · have hz := Go.Proofs.Ytjnlbhmddhpmaab.owo.szK_no (left := (1048576 : Int)) (n := n0) (by omega)
    have HZ0 := Lib.hid hz
    clear hz
    go_enter Try.func3, Try.ntmps3
    go_wp2_with fail
    refine (Go.Proofs.Ytjnlbhmddhpmaab.owo.count_k A0 n0 c0 _ _ (by omega) (by omega) (by omega)).mono ?_
    rintro e W1 ⟨rfl, hb⟩
    rw [HZ0.out]
    have HB1 : Hid (Below w.heap.size w W1) := Lib.hid hb
    have HS1 : Hid (Below w.heap.size w W1) := Lib.hid hb
    have HF1 : Hid (FR 0 0 w W1) := Lib.hid (FR.of_below hb)
    have hs1 : w.heap.size ≤ W1.heap.size := hb.size
    clear hb
    go_wp2_with fail
    go_ret
    exact ⟨rfl, HB1.out⟩
  have hz := Go.Proofs.Ytjnlbhmddhpmaab.owo.szK_yes (left := (1048576 : Int)) (n := n0) (by omega)
  have HZ0 := Lib.hid hz
  clear hz
  obtain ⟨lf0, hlf⟩ : ∃ lf : Int, lf = (1048576 : Int) - (n0 : Int) := ⟨_, rfl⟩
  have hz := HZ0.out
  clear HZ0
  rw [← hlf] at hz
  have HZ0 := Lib.hid hz
  have tz0 : decide (lf0 < 0) = false := decide_eq_false (by omega)
  have lf00 : 0 ≤ lf0 := by omega
  have lf10 : lf0 ≤ 1048576 := by omega
  clear hlf hz
  obtain ⟨q, hq⟩ : ∃ q, Go.Proofs.Ytjnlbhmddhpmaab.oo.opL a1 L0 = q := ⟨_, rfl⟩
  obtain ⟨nq, hnq⟩ : ∃ k, q.length = k := ⟨_, rfl⟩
  have bq : nq ≤ n0 := by have := Go.Proofs.Ytjnlbhmddhpmaab.oo.op_len a1 L0; rw [hq] at this; omega
  have HQ := Lib.hid hq
  have HNQ := Lib.hid hnq
  clear hq hnq
  go_enter Try.func3, Try.ntmps3
  go_wp2_with fail
  refine (Go.Proofs.Ytjnlbhmddhpmaab.owo.count_k A0 n0 c0 _ _ (by omega) (by omega) (by omega)).mono ?_
  rintro e W1 ⟨rfl, hb⟩
  rw [HZ0.out]
  have HB1 : Hid (Below w.heap.size w W1) := Lib.hid hb
  have HS1 : Hid (Below w.heap.size w W1) := Lib.hid hb
  have HF1 : Hid (FR 0 0 w W1) := Lib.hid (FR.of_below hb)
  have hs1 : w.heap.size ≤ W1.heap.size := hb.size
  clear hb
  go_wp2_with fail
  refine (Go.Proofs.Ytjnlbhmddhpmaab.owo.own_k (by omega) (H0.out.below HB1.out) (HB1.out).size).mono ?_
  rintro e W2 ⟨Ns1, rfl, hv, hb⟩
  have hvp := hv.vs (Nat.le_refl _)
  have HB2 : Hid (Below w.heap.size w W2) := Lib.hid (HB1.out.trans (hb.mono HB1.out.size))
  have HS2 : Hid (Below W1.heap.size W1 W2) := Lib.hid hb
  have HF2 : Hid (FR 0 0 W1 W2) := Lib.hid (FR.of_below hb)
  have hs2 : W1.heap.size ≤ W2.heap.size := hb.size
  clear hb
  have s1_2 := Lib.hid hv
  clear hv
  have s1p_2 := Lib.hid hvp
  clear hvp
  go_wp2_with fail
  refine (Go.Proofs.Ytjnlbhmddhpmaab.oo.spec_oo a1 (by omega) s1p_2.out (Nat.le_refl _)).mono ?_
  rintro e W3 ⟨As2, cs2, he, ho, hb⟩
  rw [HQ.out, HNQ.out] at he ho
  subst he
  have hv : Go.Proofs.Ytjnlbhmddhpmaab.ow6.OwS 32 W3 (W2.heap.size) (W3.heap.size) As2 nq q := Go.Proofs.Ytjnlbhmddhpmaab.ow6.OwS.of_own ho HNQ.out (Nat.le_refl _) (Nat.le_refl _)
  clear ho
  have HB3 : Hid (Below w.heap.size w W3) := Lib.hid (HB2.out.trans (hb.mono HB2.out.size))
  have HS3 : Hid (Below W2.heap.size W2 W3) := Lib.hid hb
  have HF3 : Hid (FR 0 0 W2 W3) := Lib.hid (FR.of_below hb)
  have hs3 : W2.heap.size ≤ W3.heap.size := hb.size
  clear hb
  have s1_3 := Lib.hid (s1_2.out.fr HF3.out (by omega) (by omega))
  clear s1_2
  have s1p_3 := Lib.hid ((s1p_2.out.below HS3.out).more HS3.out.size)
  clear s1p_2
  have s2_3 := Lib.hid hv
  clear hv
  go_wp2_with fail
  refine (Go.Proofs.Ytjnlbhmddhpmaab.owo.own_k (by omega) (H0.out.below HB3.out) (HB3.out).size).mono ?_
  rintro e W4 ⟨Ns3, rfl, hv, hb⟩
  have hvp := hv.vs (Nat.le_refl _)
  have HB4 : Hid (Below w.heap.size w W4) := Lib.hid (HB3.out.trans (hb.mono HB3.out.size))
  have HS4 : Hid (Below W3.heap.size W3 W4) := Lib.hid hb
  have HF4 : Hid (FR 0 0 W3 W4) := Lib.hid (FR.of_below hb)
  have hs4 : W3.heap.size ≤ W4.heap.size := hb.size
  clear hb
  have s1_4 := Lib.hid (s1_3.out.fr HF4.out (by omega) (by omega))
  clear s1_3
  have s1p_4 := Lib.hid ((s1p_3.out.below HS4.out).more HS4.out.size)
  clear s1p_3
  have s2_4 := Lib.hid (s2_3.out.fr HF4.out (by omega) (by omega))
  clear s2_3
  have s3_4 := Lib.hid hv
  clear hv
  have s3p_4 := Lib.hid hvp
  clear hvp
  go_wp2_with fail
  refine (Go.Proofs.Ytjnlbhmddhpmaab.oo.impl_oo a1 (by omega) s3p_4.out (Nat.le_refl _)).mono ?_
  rintro e W5 ⟨As4, cs4, he, ho, hb⟩
  rw [HQ.out, HNQ.out] at he ho
  subst he
  have hv : Go.Proofs.Ytjnlbhmddhpmaab.ow6.OwS 32 W5 (W4.heap.size) (W5.heap.size) As4 nq q := Go.Proofs.Ytjnlbhmddhpmaab.ow6.OwS.of_own ho HNQ.out (Nat.le_refl _) (Nat.le_refl _)
  clear ho
  have HB5 : Hid (Below w.heap.size w W5) := Lib.hid (HB4.out.trans (hb.mono HB4.out.size))
  have HS5 : Hid (Below W4.heap.size W4 W5) := Lib.hid hb
  have HF5 : Hid (FR 0 0 W4 W5) := Lib.hid (FR.of_below hb)
  have hs5 : W4.heap.size ≤ W5.heap.size := hb.size
  clear hb
  have s1_5 := Lib.hid (s1_4.out.fr HF5.out (by omega) (by omega))
  clear s1_4
  have s1p_5 := Lib.hid ((s1p_4.out.below HS5.out).more HS5.out.size)
  clear s1p_4
  have s2_5 := Lib.hid (s2_4.out.fr HF5.out (by omega) (by omega))
  clear s2_4
  have s3_5 := Lib.hid (s3_4.out.fr HF5.out (by omega) (by omega))
  clear s3_4
  have s3p_5 := Lib.hid ((s3p_4.out.below HS5.out).more HS5.out.size)
  clear s3p_4
  have s4_5 := Lib.hid hv
  clear hv
  go_wp2_with fail
  refine (Go.Proofs.Ytjnlbhmddhpmaab.owo.same_k (by omega) (s4_5.out.vs (by omega)) (s2_5.out.vs (by omega))).mono ?_
  rintro e W6 ⟨rfl, hb⟩
  have HB6 : Hid (Below w.heap.size w W6) := Lib.hid (HB5.out.trans (hb.mono HB5.out.size))
  have HS6 : Hid (Below W5.heap.size W5 W6) := Lib.hid hb
  have HF6 : Hid (FR 0 0 W5 W6) := Lib.hid (FR.of_below hb)
  have hs6 : W5.heap.size ≤ W6.heap.size := hb.size
  clear hb
  have s1_6 := Lib.hid (s1_5.out.fr HF6.out (by omega) (by omega))
  clear s1_5
  have s1p_6 := Lib.hid ((s1p_5.out.below HS6.out).more HS6.out.size)
  clear s1p_5
  have s2_6 := Lib.hid (s2_5.out.fr HF6.out (by omega) (by omega))
  clear s2_5
  have s3_6 := Lib.hid (s3_5.out.fr HF6.out (by omega) (by omega))
  clear s3_5
  have s3p_6 := Lib.hid ((s3p_5.out.below HS6.out).more HS6.out.size)
  clear s3p_5
  have s4_6 := Lib.hid (s4_5.out.fr HF6.out (by omega) (by omega))
  clear s4_5
  go_wp2_with fail
  refine (Go.Proofs.Ytjnlbhmddhpmaab.owo.own_k (by omega) (H0.out.below HB6.out) (HB6.out).size).mono ?_
  rintro e W7 ⟨Ns5, rfl, hv, hb⟩
  have hvp := hv.vs (Nat.le_refl _)
  have HB7 : Hid (Below w.heap.size w W7) := Lib.hid (HB6.out.trans (hb.mono HB6.out.size))
  have HS7 : Hid (Below W6.heap.size W6 W7) := Lib.hid hb
  have HF7 : Hid (FR 0 0 W6 W7) := Lib.hid (FR.of_below hb)
  have hs7 : W6.heap.size ≤ W7.heap.size := hb.size
  clear hb
  have s1_7 := Lib.hid (s1_6.out.fr HF7.out (by omega) (by omega))
  clear s1_6
  have s1p_7 := Lib.hid ((s1p_6.out.below HS7.out).more HS7.out.size)
  clear s1p_6
  have s2_7 := Lib.hid (s2_6.out.fr HF7.out (by omega) (by omega))
  clear s2_6
  have s3_7 := Lib.hid (s3_6.out.fr HF7.out (by omega) (by omega))
  clear s3_6
  have s3p_7 := Lib.hid ((s3p_6.out.below HS7.out).more HS7.out.size)
  clear s3p_6
  have s4_7 := Lib.hid (s4_6.out.fr HF7.out (by omega) (by omega))
  clear s4_6
  have s5_7 := Lib.hid hv
  clear hv
  have s5p_7 := Lib.hid hvp
  clear hvp
  go_wp2_with fail
  refine (Go.Proofs.Ytjnlbhmddhpmaab.owo.same_k (by omega) (s3_7.out.vs (by omega)) (s5_7.out.vs (by omega))).mono ?_
  rintro e W8 ⟨rfl, hb⟩
  have HB8 : Hid (Below w.heap.size w W8) := Lib.hid (HB7.out.trans (hb.mono HB7.out.size))
  have HS8 : Hid (Below W7.heap.size W7 W8) := Lib.hid hb
  have HF8 : Hid (FR 0 0 W7 W8) := Lib.hid (FR.of_below hb)
  have hs8 : W7.heap.size ≤ W8.heap.size := hb.size
  clear hb
  have s1_8 := Lib.hid (s1_7.out.fr HF8.out (by omega) (by omega))
  clear s1_7
  have s1p_8 := Lib.hid ((s1p_7.out.below HS8.out).more HS8.out.size)
  clear s1p_7
  have s2_8 := Lib.hid (s2_7.out.fr HF8.out (by omega) (by omega))
  clear s2_7
  have s3_8 := Lib.hid (s3_7.out.fr HF8.out (by omega) (by omega))
  clear s3_7
  have s3p_8 := Lib.hid ((s3p_7.out.below HS8.out).more HS8.out.size)
  clear s3p_7
  have s4_8 := Lib.hid (s4_7.out.fr HF8.out (by omega) (by omega))
  clear s4_7
  have s5_8 := Lib.hid (s5_7.out.fr HF8.out (by omega) (by omega))
  clear s5_7
  have s5p_8 := Lib.hid ((s5p_7.out.below HS8.out).more HS8.out.size)
  clear s5p_7
  go_wp2_with fail
  refine (Go.Proofs.Ytjnlbhmddhpmaab.owo.mark_k (by omega) s3_8.out (by omega)).mono ?_
  rintro e W9 ⟨rfl, hm, hf⟩
  have HF9 : Hid (FR W3.heap.size W4.heap.size W8 W9) := Lib.hid hf
  have HB9 : Hid (Below w.heap.size w W9) := Lib.hid (FR.chain HB8.out hf (by omega))
  have hs9 : W8.heap.size ≤ W9.heap.size := hf.size
  clear hf
  have s1_9 := Lib.hid (s1_8.out.fr HF9.out (by omega) (by omega))
  clear s1_8
  clear s1p_8
  have s2_9 := Lib.hid (s2_8.out.fr HF9.out (by omega) (by omega))
  clear s2_8
  have s4_9 := Lib.hid (s4_8.out.fr HF9.out (by omega) (by omega))
  clear s4_8
  have s5_9 := Lib.hid (s5_8.out.fr HF9.out (by omega) (by omega))
  clear s5_8
  clear s5p_8
  clear s3_8 s3p_8
  obtain ⟨s3c, hs3c⟩ : ∃ z : Int, z = 1 + ((n0 * 6 : Nat) : Int) := ⟨_, rfl⟩
  rw [← hs3c]
  have s3t : decide (s3c < 0) = false := decide_eq_false (by omega)
  have s3b0 : 0 ≤ s3c := by omega
  have s3b1 : s3c ≤ 1099511627776 := by omega
  have Hs3C := Lib.hid hs3c
  clear hs3c
  have s3m_9 := Lib.hid hm
  clear hm
  go_wp2_with fail
  refine (Go.Proofs.Ytjnlbhmddhpmaab.owo.same_k (by omega) (s4_9.out.vs (by omega)) (s2_9.out.vs (by omega))).mono ?_
  rintro e W10 ⟨rfl, hb⟩
  have HB10 : Hid (Below w.heap.size w W10) := Lib.hid (HB9.out.trans (hb.mono HB9.out.size))
  have HS10 : Hid (Below W9.heap.size W9 W10) := Lib.hid hb
  have HF10 : Hid (FR 0 0 W9 W10) := Lib.hid (FR.of_below hb)
  have hs10 : W9.heap.size ≤ W10.heap.size := hb.size
  clear hb
  have s1_10 := Lib.hid (s1_9.out.fr HF10.out (by omega) (by omega))
  clear s1_9
  have s2_10 := Lib.hid (s2_9.out.fr HF10.out (by omega) (by omega))
  clear s2_9
  have s4_10 := Lib.hid (s4_9.out.fr HF10.out (by omega) (by omega))
  clear s4_9
  have s5_10 := Lib.hid (s5_9.out.fr HF10.out (by omega) (by omega))
  clear s5_9
  have s3m_10 := Lib.hid (s3m_9.out.fr HF10.out (by omega) (by omega))
  clear s3m_9
  go_wp2_with fail
  refine (Go.Proofs.Ytjnlbhmddhpmaab.owo.mark_k (by omega) s4_10.out (by omega)).mono ?_
  rintro e W11 ⟨rfl, hm, hf⟩
  have HF11 : Hid (FR W4.heap.size W5.heap.size W10 W11) := Lib.hid hf
  have HB11 : Hid (Below w.heap.size w W11) := Lib.hid (FR.chain HB10.out hf (by omega))
  have hs11 : W10.heap.size ≤ W11.heap.size := hf.size
  clear hf
  have s1_11 := Lib.hid (s1_10.out.fr HF11.out (by omega) (by omega))
  clear s1_10
  have s2_11 := Lib.hid (s2_10.out.fr HF11.out (by omega) (by omega))
  clear s2_10
  have s5_11 := Lib.hid (s5_10.out.fr HF11.out (by omega) (by omega))
  clear s5_10
  have s3m_11 := Lib.hid (s3m_10.out.fr HF11.out (by omega) (by omega))
  clear s3m_10
  clear s4_10 
  obtain ⟨s4c, hs4c⟩ : ∃ z : Int, z = 1 + ((nq * 6 : Nat) : Int) := ⟨_, rfl⟩
  rw [← hs4c]
  have s4t : decide (s4c < 0) = false := decide_eq_false (by omega)
  have s4b0 : 0 ≤ s4c := by omega
  have s4b1 : s4c ≤ 1099511627776 := by omega
  have Hs4C := Lib.hid hs4c
  clear hs4c
  have s4m_11 := Lib.hid hm
  clear hm
  go_wp2_with fail
  refine (Go.Proofs.Ytjnlbhmddhpmaab.owo.held_k (by omega) s4m_11.out (by omega)).mono ?_
  rintro e W12 ⟨rfl, hb⟩
  rw [← Hs4C.out]
  have HB12 : Hid (Below w.heap.size w W12) := Lib.hid (HB11.out.trans (hb.mono HB11.out.size))
  have HS12 : Hid (Below W11.heap.size W11 W12) := Lib.hid hb
  have HF12 : Hid (FR 0 0 W11 W12) := Lib.hid (FR.of_below hb)
  have hs12 : W11.heap.size ≤ W12.heap.size := hb.size
  clear hb
  have s1_12 := Lib.hid (s1_11.out.fr HF12.out (by omega) (by omega))
  clear s1_11
  have s2_12 := Lib.hid (s2_11.out.fr HF12.out (by omega) (by omega))
  clear s2_11
  have s5_12 := Lib.hid (s5_11.out.fr HF12.out (by omega) (by omega))
  clear s5_11
  have s3m_12 := Lib.hid (s3m_11.out.fr HF12.out (by omega) (by omega))
  clear s3m_11
  have s4m_12 := Lib.hid (s4m_11.out.fr HF12.out (by omega) (by omega))
  clear s4m_11
  go_wp2_with fail
  refine (Go.Proofs.Ytjnlbhmddhpmaab.owo.own_k (by omega) (H0.out.below HB12.out) (HB12.out).size).mono ?_
  rintro e W13 ⟨Ns6, rfl, hv, hb⟩
  have hvp := hv.vs (Nat.le_refl _)
  have HB13 : Hid (Below w.heap.size w W13) := Lib.hid (HB12.out.trans (hb.mono HB12.out.size))
  have HS13 : Hid (Below W12.heap.size W12 W13) := Lib.hid hb
  have HF13 : Hid (FR 0 0 W12 W13) := Lib.hid (FR.of_below hb)
  have hs13 : W12.heap.size ≤ W13.heap.size := hb.size
  clear hb
  have s1_13 := Lib.hid (s1_12.out.fr HF13.out (by omega) (by omega))
  clear s1_12
  have s2_13 := Lib.hid (s2_12.out.fr HF13.out (by omega) (by omega))
  clear s2_12
  have s5_13 := Lib.hid (s5_12.out.fr HF13.out (by omega) (by omega))
  clear s5_12
  have s3m_13 := Lib.hid (s3m_12.out.fr HF13.out (by omega) (by omega))
  clear s3m_12
  have s4m_13 := Lib.hid (s4m_12.out.fr HF13.out (by omega) (by omega))
  clear s4m_12
  have s6_13 := Lib.hid hv
  clear hv
  have s6p_13 := Lib.hid hvp
  clear hvp
  go_wp2_with fail
  refine (Go.Proofs.Ytjnlbhmddhpmaab.oo.impl_oo a1 (by omega) s6p_13.out (Nat.le_refl _)).mono ?_
  rintro e W14 ⟨As7, cs7, he, ho, hb⟩
  rw [HQ.out, HNQ.out] at he ho
  subst he
  have hv : Go.Proofs.Ytjnlbhmddhpmaab.ow6.OwS 32 W14 (W13.heap.size) (W14.heap.size) As7 nq q := Go.Proofs.Ytjnlbhmddhpmaab.ow6.OwS.of_own ho HNQ.out (Nat.le_refl _) (Nat.le_refl _)
  clear ho
  have HB14 : Hid (Below w.heap.size w W14) := Lib.hid (HB13.out.trans (hb.mono HB13.out.size))
  have HS14 : Hid (Below W13.heap.size W13 W14) := Lib.hid hb
  have HF14 : Hid (FR 0 0 W13 W14) := Lib.hid (FR.of_below hb)
  have hs14 : W13.heap.size ≤ W14.heap.size := hb.size
  clear hb
  have s1_14 := Lib.hid (s1_13.out.fr HF14.out (by omega) (by omega))
  clear s1_13
  have s2_14 := Lib.hid (s2_13.out.fr HF14.out (by omega) (by omega))
  clear s2_13
  have s5_14 := Lib.hid (s5_13.out.fr HF14.out (by omega) (by omega))
  clear s5_13
  have s3m_14 := Lib.hid (s3m_13.out.fr HF14.out (by omega) (by omega))
  clear s3m_13
  have s4m_14 := Lib.hid (s4m_13.out.fr HF14.out (by omega) (by omega))
  clear s4m_13
  have s6_14 := Lib.hid (s6_13.out.fr HF14.out (by omega) (by omega))
  clear s6_13
  have s6p_14 := Lib.hid ((s6p_13.out.below HS14.out).more HS14.out.size)
  clear s6p_13
  have s7_14 := Lib.hid hv
  clear hv
  go_wp2_with fail
  refine (Go.Proofs.Ytjnlbhmddhpmaab.owo.same_k (by omega) (s7_14.out.vs (by omega)) (s2_14.out.vs (by omega))).mono ?_
  rintro e W15 ⟨rfl, hb⟩
  have HB15 : Hid (Below w.heap.size w W15) := Lib.hid (HB14.out.trans (hb.mono HB14.out.size))
  have HS15 : Hid (Below W14.heap.size W14 W15) := Lib.hid hb
  have HF15 : Hid (FR 0 0 W14 W15) := Lib.hid (FR.of_below hb)
  have hs15 : W14.heap.size ≤ W15.heap.size := hb.size
  clear hb
  have s1_15 := Lib.hid (s1_14.out.fr HF15.out (by omega) (by omega))
  clear s1_14
  have s2_15 := Lib.hid (s2_14.out.fr HF15.out (by omega) (by omega))
  clear s2_14
  have s5_15 := Lib.hid (s5_14.out.fr HF15.out (by omega) (by omega))
  clear s5_14
  have s3m_15 := Lib.hid (s3m_14.out.fr HF15.out (by omega) (by omega))
  clear s3m_14
  have s4m_15 := Lib.hid (s4m_14.out.fr HF15.out (by omega) (by omega))
  clear s4m_14
  have s6_15 := Lib.hid (s6_14.out.fr HF15.out (by omega) (by omega))
  clear s6_14
  have s6p_15 := Lib.hid ((s6p_14.out.below HS15.out).more HS15.out.size)
  clear s6p_14
  have s7_15 := Lib.hid (s7_14.out.fr HF15.out (by omega) (by omega))
  clear s7_14
  go_wp2_with fail
  refine (Go.Proofs.Ytjnlbhmddhpmaab.owo.held_k (by omega) s4m_15.out (by omega)).mono ?_
  rintro e W16 ⟨rfl, hb⟩
  rw [← Hs4C.out]
  have HB16 : Hid (Below w.heap.size w W16) := Lib.hid (HB15.out.trans (hb.mono HB15.out.size))
  have HS16 : Hid (Below W15.heap.size W15 W16) := Lib.hid hb
  have HF16 : Hid (FR 0 0 W15 W16) := Lib.hid (FR.of_below hb)
  have hs16 : W15.heap.size ≤ W16.heap.size := hb.size
  clear hb
  have s1_16 := Lib.hid (s1_15.out.fr HF16.out (by omega) (by omega))
  clear s1_15
  have s2_16 := Lib.hid (s2_15.out.fr HF16.out (by omega) (by omega))
  clear s2_15
  have s5_16 := Lib.hid (s5_15.out.fr HF16.out (by omega) (by omega))
  clear s5_15
  have s3m_16 := Lib.hid (s3m_15.out.fr HF16.out (by omega) (by omega))
  clear s3m_15
  have s4m_16 := Lib.hid (s4m_15.out.fr HF16.out (by omega) (by omega))
  clear s4m_15
  have s6_16 := Lib.hid (s6_15.out.fr HF16.out (by omega) (by omega))
  clear s6_15
  have s6p_16 := Lib.hid ((s6p_15.out.below HS16.out).more HS16.out.size)
  clear s6p_15
  have s7_16 := Lib.hid (s7_15.out.fr HF16.out (by omega) (by omega))
  clear s7_15
  go_wp2_with fail
  go_ret
  exact ⟨rfl, HB16.out⟩
/-! ### THE ROW's STEP -/
set_option maxRecDepth 100000 in
theorem lifted (os : Os) (started : os.Started) (H : Type) (enc : TypeId × Value → H) :
    ReturnsInHanded {} Try.checked os 3 .any (Rows.fnExactOpsOfSpec.pre6 enc Try.prog Try.f3 Rows.fnExactOpsOfRow.domain false) (Rows.fnExactOpsOfSpec.post enc Try.prog Try.f3 false true false false) := by
  refine returnsInHanded_of_change (C := Try.checked) own started (by kernel_rfl) Try.func3
    (ChangeSpec.witness6 (enc := enc) (C := Try.checked) false ⟨#[], #[.slice none 0 0, .int .i64 0], []⟩ 8 (by kernel_rfl) (by kernel_rfl) (by kernel_rfl) (by kernel_rfl)) ?_
  intro W base args ds gs before hval0 hW hcnd _
  have hval : ∀ (j : Nat) t v, Try.f3.params[j]? = some t → args[j]? = some v → Value.okWide Try.prog W .any base t v := hval0
  have hW' := hW
  obtain ⟨pp, qq, hA0, hV, rfl, hfz, hnd⟩ := hW
  have hA : DataW.TrodAll enc Try.prog W 0 (fun _ => true) true Try.f3.params.toList args.toList ds pp := hA0
  rw [Try.params3] at hA hval
  obtain ⟨v0, vs0, dd0, ds0, pp0, qq0, hargs, rfl, rfl, h0, r0⟩ := trodAll_cons hA
  obtain ⟨v1, vs1, dd1, ds1, pp1, qq1, rfl, rfl, rfl, h1, r1⟩ := trodAll_cons r0
  obtain ⟨rfl, rfl, rfl⟩ := trodAll_nil r1
  obtain rfl : args = #[v0, v1] := by cases args; simp_all
  obtain ⟨rfl, rfl⟩ := trodVars_none hV
  have k0 := h0
  have lt0 : ∀ x ∈ pp0, x.block < W.heap.size := by obtain ⟨m, hm⟩ := k0; exact DataW.trod_lt m _ _ _ hm
  obtain ⟨A0, n0, c0, rfl⟩ := okWide_slice Try.underlying22 (hval 0 22 v0 rfl rfl)
  obtain ⟨L0, w0, m0⟩ := Go.Proofs.Ytjnlbhmddhpmaab.rOp.open_slice1 h0
  obtain ⟨a1, rfl, rfl, rfl, w1⟩ := open_int Try.underlying3 (hval 1 3 v1 rfl rfl) h1
  clear hA0 hval0
  refine (walk A0 n0 c0 L0 a1 W w0 m0 w1).mono fun e W' ⟨he, bel⟩ => ?_
  subst he
  exact ⟨_, rfl, _, _, _, [], _, [], hW', trodAll_mk1 (shut_bool Try.underlying4 _), (trodAll_cons_mk (Below.trod laidOut (by kernel_rfl) (of_decide_eq_true (by kernel_rfl)) k0 bel lt0) (trodAll_cons_mk (shut_int Try.underlying3 w1) trodAll_mk0)), rfl, bel.frame _, fun h => by cases h⟩

theorem over : Rows.fnExactOpsOfRow.holds Try.pinned (OpenSpec.ofChange Rows.fnExactOpsOfSpec) :=
  OpenClaim.holds_of_wide 3 Try.f3 rfl rfl rfl rfl rfl rfl rfl ⟨rfl, rfl, rfl, rfl, rfl⟩ rfl rfl rfl rfl rfl (by kernel_rfl) Try.func3 (by kernel_rfl)
    (of_decide_eq_true (by kernel_rfl)) (by unfold Func.isWrapper; first | (rw [if_pos (by decide +kernel)]; kernel_rfl) | (rw [if_neg (by decide +kernel)]; exact ⟨rfl, rfl⟩))
    (fun os started H enc _ => lifted os started H enc)

/-- THE STATEMENT -/
theorem proved : Rows.FnExactOpsOfSaid := over
#print axioms proved
end Go.Proofs.Ytjnlbhmddhpmaab.fnExactOpsOf
