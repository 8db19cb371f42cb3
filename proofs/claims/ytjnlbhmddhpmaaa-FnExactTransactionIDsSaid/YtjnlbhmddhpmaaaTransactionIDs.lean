/- TransactionIDs of the program answers as its model at every engine and integer, in memory of its own: the law returns true and writes nothing that was there. No condition. -/
import Derived.Test.YtjnlbhmddhpmaaaFnd
import Derived.Test.YtjnlbhmddhpmaaaOpt
import Derived.Test.YtjnlbhmddhpmaaaOwi
import Derived.WalkKit
import Derived.ProofKit
import Derived.OpenShut
import Derived.ShutString
import Derived.ChangeOld
import Derived.Below
import Derived.Carry
import Derived.Lib.Hide
import Derived.StillTailTactics
import Derived.Deep.RegionHeld3
import Derived.Deep.DeepHandedRow
namespace Go.Proofs.Ytjnlbhmddhpmaaa.fnExactTransactionIDs
open Go.ChangeShapes Go.WideShapes Go.ChangeAt Go.RowKit
open Go.ChangeMaps (open_string shut_string)
open Go.Proofs.Ytjnlbhmddhpmaaa.el2
open Go.Proofs.Ytjnlbhmddhpmaaa.fr (FR)
open Go.Proofs.Ytjnlbhmddhpmaaa.vers (new2 new3)
open Go.Proofs.Ytjnlbhmddhpmaaa.mkr (Tr)
open Go.Proofs.Ytjnlbhmddhpmaaa.sl (Ver)
set_option linter.unusedVariables false
theorem own : ownKnob Try.prog.godebug = none := by kernel_rfl
theorem laidOut : laidOutB Try.prog = true := by kernel_rfl
set_option maxHeartbeats 6400000 in
theorem walk (q0 : Bool) (A0a : Option Addr) (n0a c0a : Nat) (C0 : List (List Ver)) (A0b : Option Addr) (n0b c0b : Nat) (L0 : List Tr) (A0c : Option Addr) (n0c c0c : Nat) (K0 : List E2) (A0d : Option Addr) (n0d c0d : Nat) (X0 : List E2) (z0 : Int) (a1 : Int) (w : World) (h0s : Go.Proofs.Ytjnlbhmddhpmaaa.st.R0 w w.heap.size A0a n0a C0) (m0a : n0a ≤ maxLen) (h0t : Go.Proofs.Ytjnlbhmddhpmaaa.ts.Ts maxLen w w.heap.size A0b n0b L0) (m0b : n0b ≤ maxLen) (h0k : Go.Proofs.Ytjnlbhmddhpmaaa.el2.Vs w w.heap.size A0c n0c K0) (m0c : n0c ≤ maxLen) (h0x : Go.Proofs.Ytjnlbhmddhpmaaa.el2.Vs w w.heap.size A0d n0d X0) (m0d : n0d ≤ maxLen) (b0 : (Lit.int .i64 z0).wf = true) (b1 : (Lit.int .i64 a1).wf = true) :
    Calls Try.prog 5 #[.agg #[.bool q0, .slice A0a n0a c0a, .slice A0b n0b c0b, .slice A0c n0c c0c, .slice A0d n0d c0d, .int .i64 z0], .int .i64 a1] w fun e w' => e = .returned (.bool true) ∧ Below w.heap.size w w' := by
  have HTx0 := Lib.hid (Go.Proofs.Ytjnlbhmddhpmaaa.eg.ts_wide (M' := 9223372036854775807) h0t (by unfold maxLen; omega))
  unfold maxLen at m0a m0b m0c m0d
  have HCs0 := Lib.hid h0s
  have HLk0 := Lib.hid h0k
  have HWt0 := Lib.hid h0x
  have l0a := h0s.1
  have l0b := h0t.1
  have l0c := h0k.1
  have l0d := h0x.1
  clear h0s h0t h0k h0x b0
  clear b1
  by_cases hbig0 : (1048576 : Int) < Go.Proofs.Ytjnlbhmddhpmaaa.eg.totE C0 L0 n0c n0d
  · have hz := Go.Proofs.Ytjnlbhmddhpmaaa.eg.szE_no (left := (1048576 : Int)) (C := C0) (L := L0) (n3 := n0c) (n4 := n0d) (by omega)
    have HZ0 := Lib.hid hz
    clear hz
    go_enter Try.func5, Try.ntmps5
    go_wp2_with fail
    have hx0 := Go.Proofs.Ytjnlbhmddhpmaaa.eg.EB.new w q0 (.slice A0a n0a c0a) (.slice A0b n0b c0b) (.slice A0c n0c c0c) (.slice A0d n0d c0d) z0 41
    have hz : (w.alloc (.cells #[.bool q0, .slice A0a n0a c0a, .slice A0b n0b c0b, .slice A0c n0c c0c, .slice A0d n0d c0d, .int .i64 z0] 41)).heap.size = w.heap.size + 1 := by simp
    have hb := Go.Proofs.Ytjnlbhmddhpmaaa.el2.new1 w (.cells #[.bool q0, .slice A0a n0a c0a, .slice A0b n0b c0b, .slice A0c n0c c0c, .slice A0d n0d c0d, .int .i64 z0] 41)
    generalize (w.alloc (.cells #[.bool q0, .slice A0a n0a c0a, .slice A0b n0b c0b, .slice A0c n0c c0c, .slice A0d n0d c0d, .int .i64 z0] 41)) = W1 at hx0 hb hz ⊢
    have HB1 : Hid (Below w.heap.size w W1) := Lib.hid hb
    have HS1 : Hid (Below w.heap.size w W1) := Lib.hid hb
    have HF1 : Hid (FR 0 0 w W1) := Lib.hid (FR.of_below hb)
    have hs1 : w.heap.size ≤ W1.heap.size := hb.size
    clear hb
    have hz1 : w.heap.size + 1 ≤ W1.heap.size := Nat.le_of_eq hz.symm
    clear hz
    have b0_1 := Lib.hid hx0
    clear hx0
    refine (Go.Proofs.Ytjnlbhmddhpmaaa.eg.count_eg q0 z0 (by omega) (by omega) (by omega) (by omega) (HCs0.out.below HB1.out) (HTx0.out.below HB1.out) HB1.out.size (by omega) (by omega)).mono ?_
    rintro e W2 ⟨rfl, hb⟩
    rw [HZ0.out]
    have HB2 : Hid (Below w.heap.size w W2) := Lib.hid (HB1.out.trans (hb.mono HB1.out.size))
    have HS2 : Hid (Below W1.heap.size W1 W2) := Lib.hid hb
    have HF2 : Hid (FR 0 0 W1 W2) := Lib.hid (FR.of_below hb)
    have hs2 : W1.heap.size ≤ W2.heap.size := hb.size
    clear hb
    have b0_2 := Lib.hid (Go.Proofs.Ytjnlbhmddhpmaaa.eg.EB.fr b0_1.out HF2.out (by omega) (by omega))
    clear b0_1
    go_wp2_with fail
    go_ret
    exact ⟨rfl, HB2.out⟩
  have hz := Go.Proofs.Ytjnlbhmddhpmaaa.eg.szE_yes (left := (1048576 : Int)) (C := C0) (L := L0) (n3 := n0c) (n4 := n0d) (by omega)
  have HZ0 := Lib.hid hz
  clear hz
  have htot0 := Go.Proofs.Ytjnlbhmddhpmaaa.eg.totE_eq C0 L0 n0c n0d
  have HR0 : Hid (Go.Proofs.Ytjnlbhmddhpmaaa.ego.ER w w.heap.size A0a n0a C0 A0b n0b L0 A0c n0c K0 A0d n0d X0) := Lib.hid ⟨HCs0.out.tight (by omega), Go.Proofs.Ytjnlbhmddhpmaaa.ts.Ts.tight HTx0.out (by omega), HLk0.out, HWt0.out⟩
  obtain ⟨lf0, hlf⟩ : ∃ lf : Int, lf = (1048576 : Int) - (Go.Proofs.Ytjnlbhmddhpmaaa.eg.totE C0 L0 n0c n0d : Int) := ⟨_, rfl⟩
  have hz := HZ0.out
  clear HZ0
  rw [← hlf] at hz
  have HZ0 := Lib.hid hz
  have tz0 : decide (lf0 < 0) = false := decide_eq_false (by omega)
  have lf00 : 0 ≤ lf0 := by omega
  have lf10 : lf0 ≤ 1048576 := by omega
  clear hlf hz
  obtain ⟨q, hq⟩ : ∃ q, Go.Proofs.Ytjnlbhmddhpmaaa.eid.idsT a1 L0 = q := ⟨_, rfl⟩
  obtain ⟨nq, hnq⟩ : ∃ k, q.length = k := ⟨_, rfl⟩
  have bq : nq ≤ n0b := by have := Go.Proofs.Ytjnlbhmddhpmaaa.eid.ids_len a1 L0; rw [hq] at this; omega
  have HQ := Lib.hid hq
  have HNQ := Lib.hid hnq
  clear hq hnq
  go_enter Try.func5, Try.ntmps5
  go_wp2_with fail
  have hx0 := Go.Proofs.Ytjnlbhmddhpmaaa.eg.EB.new w q0 (.slice A0a n0a c0a) (.slice A0b n0b c0b) (.slice A0c n0c c0c) (.slice A0d n0d c0d) z0 41
  have hz : (w.alloc (.cells #[.bool q0, .slice A0a n0a c0a, .slice A0b n0b c0b, .slice A0c n0c c0c, .slice A0d n0d c0d, .int .i64 z0] 41)).heap.size = w.heap.size + 1 := by simp
  have hb := Go.Proofs.Ytjnlbhmddhpmaaa.el2.new1 w (.cells #[.bool q0, .slice A0a n0a c0a, .slice A0b n0b c0b, .slice A0c n0c c0c, .slice A0d n0d c0d, .int .i64 z0] 41)
  generalize (w.alloc (.cells #[.bool q0, .slice A0a n0a c0a, .slice A0b n0b c0b, .slice A0c n0c c0c, .slice A0d n0d c0d, .int .i64 z0] 41)) = W1 at hx0 hb hz ⊢
  have HB1 : Hid (Below w.heap.size w W1) := Lib.hid hb
  have HS1 : Hid (Below w.heap.size w W1) := Lib.hid hb
  have HF1 : Hid (FR 0 0 w W1) := Lib.hid (FR.of_below hb)
  have hs1 : w.heap.size ≤ W1.heap.size := hb.size
  clear hb
  have hz1 : w.heap.size + 1 ≤ W1.heap.size := Nat.le_of_eq hz.symm
  clear hz
  have b0_1 := Lib.hid hx0
  clear hx0
  refine (Go.Proofs.Ytjnlbhmddhpmaaa.eg.count_eg q0 z0 (by omega) (by omega) (by omega) (by omega) (HCs0.out.below HB1.out) (HTx0.out.below HB1.out) HB1.out.size (by omega) (by omega)).mono ?_
  rintro e W2 ⟨rfl, hb⟩
  rw [HZ0.out]
  have HB2 : Hid (Below w.heap.size w W2) := Lib.hid (HB1.out.trans (hb.mono HB1.out.size))
  have HS2 : Hid (Below W1.heap.size W1 W2) := Lib.hid hb
  have HF2 : Hid (FR 0 0 W1 W2) := Lib.hid (FR.of_below hb)
  have hs2 : W1.heap.size ≤ W2.heap.size := hb.size
  clear hb
  have b0_2 := Lib.hid (Go.Proofs.Ytjnlbhmddhpmaaa.eg.EB.fr b0_1.out HF2.out (by omega) (by omega))
  clear b0_1
  obtain ⟨b0c0, b0c1, b0c2, b0c3, b0c4, b0c5⟩ := b0_2.out
  have b0L : w.heap.size < W2.heap.size := by omega
  go_wp2_with fail
  refine (Go.Proofs.Ytjnlbhmddhpmaaa.eg.owned_eg q0 z0 (by omega) (by omega) (by omega) (by omega) (by omega) (by omega) (HR0.out.below HB2.out) (HB2.out).size).mono ?_
  rintro e W3 ⟨Ns1a, Ns1b, Ns1c, Ns1d, rfl, hv, hvp, hb⟩
  have HB3 : Hid (Below w.heap.size w W3) := Lib.hid (HB2.out.trans (hb.mono HB2.out.size))
  have HS3 : Hid (Below W2.heap.size W2 W3) := Lib.hid hb
  have HF3 : Hid (FR 0 0 W2 W3) := Lib.hid (FR.of_below hb)
  have hs3 : W2.heap.size ≤ W3.heap.size := hb.size
  clear hb
  have b0_3 := Lib.hid (Go.Proofs.Ytjnlbhmddhpmaaa.eg.EB.fr b0_2.out HF3.out (by omega) (by omega))
  clear b0_2
  have s1_3 := Lib.hid hv
  clear hv
  have s1p_3 := Lib.hid hvp
  clear hvp
  clear b0c0 b0c1 b0c2 b0c3 b0c4 b0c5 b0L
  go_wp2_with fail
  refine (Go.Proofs.Ytjnlbhmddhpmaaa.fnd.spec_ids q0 z0 a1 (by omega) (by omega) (by omega) (by omega) s1p_3.out (Nat.le_refl _)).mono ?_
  rintro e W4 ⟨As2, cs2, he, ho, hb⟩
  rw [HQ.out, HNQ.out] at he ho
  subst he
  have hv : Go.Proofs.Ytjnlbhmddhpmaaa.owi.OwI W4 (W3.heap.size) (W4.heap.size) As2 nq q := Go.Proofs.Ytjnlbhmddhpmaaa.owi.OwI.of_own ho HNQ.out (Nat.le_refl _) (Nat.le_refl _)
  clear ho
  have HB4 : Hid (Below w.heap.size w W4) := Lib.hid (HB3.out.trans (hb.mono HB3.out.size))
  have HS4 : Hid (Below W3.heap.size W3 W4) := Lib.hid hb
  have HF4 : Hid (FR 0 0 W3 W4) := Lib.hid (FR.of_below hb)
  have hs4 : W3.heap.size ≤ W4.heap.size := hb.size
  clear hb
  have b0_4 := Lib.hid (Go.Proofs.Ytjnlbhmddhpmaaa.eg.EB.fr b0_3.out HF4.out (by omega) (by omega))
  clear b0_3
  have s1_4 := Lib.hid (s1_3.out.fr HF4.out (by omega) (by omega))
  clear s1_3
  have s1p_4 := Lib.hid ((s1p_3.out.below HS4.out).more HS4.out.size)
  clear s1p_3
  have s2_4 := Lib.hid hv
  clear hv
  obtain ⟨b0c0, b0c1, b0c2, b0c3, b0c4, b0c5⟩ := b0_4.out
  have b0L : w.heap.size < W4.heap.size := by omega
  go_wp2_with fail
  refine (Go.Proofs.Ytjnlbhmddhpmaaa.eg.owned_eg q0 z0 (by omega) (by omega) (by omega) (by omega) (by omega) (by omega) (HR0.out.below HB4.out) (HB4.out).size).mono ?_
  rintro e W5 ⟨Ns3a, Ns3b, Ns3c, Ns3d, rfl, hv, hvp, hb⟩
  have HB5 : Hid (Below w.heap.size w W5) := Lib.hid (HB4.out.trans (hb.mono HB4.out.size))
  have HS5 : Hid (Below W4.heap.size W4 W5) := Lib.hid hb
  have HF5 : Hid (FR 0 0 W4 W5) := Lib.hid (FR.of_below hb)
  have hs5 : W4.heap.size ≤ W5.heap.size := hb.size
  clear hb
  have b0_5 := Lib.hid (Go.Proofs.Ytjnlbhmddhpmaaa.eg.EB.fr b0_4.out HF5.out (by omega) (by omega))
  clear b0_4
  have s1_5 := Lib.hid (s1_4.out.fr HF5.out (by omega) (by omega))
  clear s1_4
  have s1p_5 := Lib.hid ((s1p_4.out.below HS5.out).more HS5.out.size)
  clear s1p_4
  have s2_5 := Lib.hid (s2_4.out.fr HF5.out (by omega) (by omega))
  clear s2_4
  have s3_5 := Lib.hid hv
  clear hv
  have s3p_5 := Lib.hid hvp
  clear hvp
  clear b0c0 b0c1 b0c2 b0c3 b0c4 b0c5 b0L
  go_wp2_with fail
  have hx0 := Go.Proofs.Ytjnlbhmddhpmaaa.eg.EB.new W5 q0 (.slice (some ⟨Ns3a, 0, none⟩) n0a n0a) (.slice (some ⟨Ns3b, 0, none⟩) n0b n0b) (.slice (some ⟨Ns3c, 0, none⟩) n0c n0c) (.slice (some ⟨Ns3d, 0, none⟩) n0d n0d) z0 29
  have hz : (W5.alloc (.cells #[.bool q0, .slice (some ⟨Ns3a, 0, none⟩) n0a n0a, .slice (some ⟨Ns3b, 0, none⟩) n0b n0b, .slice (some ⟨Ns3c, 0, none⟩) n0c n0c, .slice (some ⟨Ns3d, 0, none⟩) n0d n0d, .int .i64 z0] 29)).heap.size = W5.heap.size + 1 := by simp
  have hb := Go.Proofs.Ytjnlbhmddhpmaaa.el2.new1 W5 (.cells #[.bool q0, .slice (some ⟨Ns3a, 0, none⟩) n0a n0a, .slice (some ⟨Ns3b, 0, none⟩) n0b n0b, .slice (some ⟨Ns3c, 0, none⟩) n0c n0c, .slice (some ⟨Ns3d, 0, none⟩) n0d n0d, .int .i64 z0] 29)
  generalize (W5.alloc (.cells #[.bool q0, .slice (some ⟨Ns3a, 0, none⟩) n0a n0a, .slice (some ⟨Ns3b, 0, none⟩) n0b n0b, .slice (some ⟨Ns3c, 0, none⟩) n0c n0c, .slice (some ⟨Ns3d, 0, none⟩) n0d n0d, .int .i64 z0] 29)) = W6 at hx0 hb hz ⊢
  have HB6 : Hid (Below w.heap.size w W6) := Lib.hid (HB5.out.trans (hb.mono HB5.out.size))
  have HS6 : Hid (Below W5.heap.size W5 W6) := Lib.hid hb
  have HF6 : Hid (FR 0 0 W5 W6) := Lib.hid (FR.of_below hb)
  have hs6 : W5.heap.size ≤ W6.heap.size := hb.size
  clear hb
  have b0_6 := Lib.hid (Go.Proofs.Ytjnlbhmddhpmaaa.eg.EB.fr b0_5.out HF6.out (by omega) (by omega))
  clear b0_5
  have s1_6 := Lib.hid (s1_5.out.fr HF6.out (by omega) (by omega))
  clear s1_5
  have s1p_6 := Lib.hid ((s1p_5.out.below HS6.out).more HS6.out.size)
  clear s1p_5
  have s2_6 := Lib.hid (s2_5.out.fr HF6.out (by omega) (by omega))
  clear s2_5
  have s3_6 := Lib.hid (s3_5.out.fr HF6.out (by omega) (by omega))
  clear s3_5
  have s3p_6 := Lib.hid ((s3p_5.out.below HS6.out).more HS6.out.size)
  clear s3p_5
  have hz6 : W5.heap.size + 1 ≤ W6.heap.size := Nat.le_of_eq hz.symm
  clear hz
  have b1_6 := Lib.hid hx0
  clear hx0
  refine (Go.Proofs.Ytjnlbhmddhpmaaa.fnd.impl_ids q0 z0 a1 (by omega) (by omega) (by omega) (by omega) s3p_6.out (Nat.le_refl _)).mono ?_
  rintro e W7 ⟨As4, cs4, he, ho, hb⟩
  rw [HQ.out, HNQ.out] at he ho
  subst he
  have hv : Go.Proofs.Ytjnlbhmddhpmaaa.owi.OwI W7 (W6.heap.size) (W7.heap.size) As4 nq q := Go.Proofs.Ytjnlbhmddhpmaaa.owi.OwI.of_own ho HNQ.out (Nat.le_refl _) (Nat.le_refl _)
  clear ho
  have HB7 : Hid (Below w.heap.size w W7) := Lib.hid (HB6.out.trans (hb.mono HB6.out.size))
  have HS7 : Hid (Below W6.heap.size W6 W7) := Lib.hid hb
  have HF7 : Hid (FR 0 0 W6 W7) := Lib.hid (FR.of_below hb)
  have hs7 : W6.heap.size ≤ W7.heap.size := hb.size
  clear hb
  have b0_7 := Lib.hid (Go.Proofs.Ytjnlbhmddhpmaaa.eg.EB.fr b0_6.out HF7.out (by omega) (by omega))
  clear b0_6
  have b1_7 := Lib.hid (Go.Proofs.Ytjnlbhmddhpmaaa.eg.EB.fr b1_6.out HF7.out (by omega) (by omega))
  clear b1_6
  have s1_7 := Lib.hid (s1_6.out.fr HF7.out (by omega) (by omega))
  clear s1_6
  have s1p_7 := Lib.hid ((s1p_6.out.below HS7.out).more HS7.out.size)
  clear s1p_6
  have s2_7 := Lib.hid (s2_6.out.fr HF7.out (by omega) (by omega))
  clear s2_6
  have s3_7 := Lib.hid (s3_6.out.fr HF7.out (by omega) (by omega))
  clear s3_6
  have s3p_7 := Lib.hid ((s3p_6.out.below HS7.out).more HS7.out.size)
  clear s3p_6
  have s4_7 := Lib.hid hv
  clear hv
  go_wp2_with fail
  refine (Go.Proofs.Ytjnlbhmddhpmaaa.owi.same_i (by omega) (s4_7.out.vs (by omega)) (s2_7.out.vs (by omega))).mono ?_
  rintro e W8 ⟨rfl, hb⟩
  have HB8 : Hid (Below w.heap.size w W8) := Lib.hid (HB7.out.trans (hb.mono HB7.out.size))
  have HS8 : Hid (Below W7.heap.size W7 W8) := Lib.hid hb
  have HF8 : Hid (FR 0 0 W7 W8) := Lib.hid (FR.of_below hb)
  have hs8 : W7.heap.size ≤ W8.heap.size := hb.size
  clear hb
  have b0_8 := Lib.hid (Go.Proofs.Ytjnlbhmddhpmaaa.eg.EB.fr b0_7.out HF8.out (by omega) (by omega))
  clear b0_7
  have b1_8 := Lib.hid (Go.Proofs.Ytjnlbhmddhpmaaa.eg.EB.fr b1_7.out HF8.out (by omega) (by omega))
  clear b1_7
  have s1_8 := Lib.hid (s1_7.out.fr HF8.out (by omega) (by omega))
  clear s1_7
  have s1p_8 := Lib.hid ((s1p_7.out.below HS8.out).more HS8.out.size)
  clear s1p_7
  have s2_8 := Lib.hid (s2_7.out.fr HF8.out (by omega) (by omega))
  clear s2_7
  have s3_8 := Lib.hid (s3_7.out.fr HF8.out (by omega) (by omega))
  clear s3_7
  have s3p_8 := Lib.hid ((s3p_7.out.below HS8.out).more HS8.out.size)
  clear s3p_7
  have s4_8 := Lib.hid (s4_7.out.fr HF8.out (by omega) (by omega))
  clear s4_7
  go_wp2_with fail
  have hbk0 : Below W8.heap.size W8 W8.drew := (Below.refl _ _).drew
  have hbw0 := HB8.out.trans (hbk0.mono HB8.out.size)
  have b1l_8 : W5.heap.size < W8.heap.size := by omega
  have b0l_8 : w.heap.size < W8.heap.size := by omega
  obtain ⟨b1c0, b1c1, b1c2, b1c3, b1c4, b1c5⟩ := b1_8.out
  obtain ⟨b0c0, b0c1, b0c2, b0c3, b0c4, b0c5⟩ := b0_8.out
  go_region_held3 (fun w' => w'.cell? ⟨W5.heap.size, 0, none⟩ = some (.bool q0) ∧ w'.cell? ⟨W5.heap.size, 1, none⟩ = some (.slice (some ⟨Ns3a, 0, none⟩) n0a n0a) ∧ w'.cell? ⟨W5.heap.size, 2, none⟩ = some (.slice (some ⟨Ns3b, 0, none⟩) n0b n0b) ∧ w'.cell? ⟨W5.heap.size, 3, none⟩ = some (.slice (some ⟨Ns3c, 0, none⟩) n0c n0c) ∧ w'.cell? ⟨W5.heap.size, 4, none⟩ = some (.slice (some ⟨Ns3d, 0, none⟩) n0d n0d) ∧ w'.cell? ⟨W5.heap.size, 5, none⟩ = some (.int .i64 z0) ∧ w'.cell? ⟨w.heap.size, 0, none⟩ = some (.bool q0) ∧ w'.cell? ⟨w.heap.size, 1, none⟩ = some (.slice A0a n0a c0a) ∧ w'.cell? ⟨w.heap.size, 2, none⟩ = some (.slice A0b n0b c0b) ∧ w'.cell? ⟨w.heap.size, 3, none⟩ = some (.slice A0c n0c c0c) ∧ w'.cell? ⟨w.heap.size, 4, none⟩ = some (.slice A0d n0d c0d) ∧ w'.cell? ⟨w.heap.size, 5, none⟩ = some (.int .i64 z0)) (go_keep) (first | (go_at_call 11; (with_reducible refine (Go.Proofs.Ytjnlbhmddhpmaaa.eg.same_eg q0 z0 (by omega) (by omega) (by omega) (by omega) ((s3p_8.out.below hbk1).more hbk1.size) s5a1 (Nat.le_refl _)).mono ?_); rintro e W9 ⟨rfl, hb⟩; have hbk2 := hbk1.trans (hb.mono hbk1.size); have hbw2 := HB8.out.trans (hbk2.mono HB8.out.size); have s5a2 := (s5a1.below hb).more hb.size; clear hb ; obtain ⟨b1d20, b1d21, b1d22, b1d23, b1d24, b1d25⟩ := ((b1_8.out).keep b1l_8 (hbk2)); obtain ⟨b0d20, b0d21, b0d22, b0d23, b0d24, b0d25⟩ := ((b0_8.out).keep b0l_8 (hbk2))) | (go_at_call 16; (with_reducible refine (Go.Proofs.Ytjnlbhmddhpmaaa.eg.copied_eg q0 z0 (by omega) (by omega) (by omega) (by omega) (by omega) (by omega) (HR0.out.below hbw0) (hbw0).size).mono ?_); rintro e Wa1 ⟨Ns5a, Ns5b, Ns5c, Ns5d, rfl, hv, hb⟩; have hbk1 := hbk0.trans (hb.mono hbk0.size); have hbw1 := HB8.out.trans (hbk1.mono HB8.out.size); have s5a1 := hv; clear hb hv; obtain ⟨b1d10, b1d11, b1d12, b1d13, b1d14, b1d15⟩ := ((b1_8.out).keep b1l_8 (hbk1)); obtain ⟨b0d10, b0d11, b0d12, b0d13, b0d14, b0d15⟩ := ((b0_8.out).keep b0l_8 (hbk1))))
  have hb := hbk2
  clear hbk0 hbw0 s5a1 b1d10 b1d11 b1d12 b1d13 b1d14 b1d15 b0d10 b0d11 b0d12 b0d13 b0d14 b0d15 hbk1 hbw1 s5a2 b1d20 b1d21 b1d22 b1d23 b1d24 b1d25 b0d20 b0d21 b0d22 b0d23 b0d24 b0d25 hbk2 hbw2 b1c0 b1c1 b1c2 b1c3 b1c4 b1c5 b0c0 b0c1 b0c2 b0c3 b0c4 b0c5 b1l_8 b0l_8
  have HB9 : Hid (Below w.heap.size w W9) := Lib.hid (HB8.out.trans (hb.mono HB8.out.size))
  have HS9 : Hid (Below W8.heap.size W8 W9) := Lib.hid hb
  have HF9 : Hid (FR 0 0 W8 W9) := Lib.hid (FR.of_below hb)
  have hs9 : W8.heap.size ≤ W9.heap.size := hb.size
  clear hb
  have b0_9 := Lib.hid (Go.Proofs.Ytjnlbhmddhpmaaa.eg.EB.fr b0_8.out HF9.out (by omega) (by omega))
  clear b0_8
  have b1_9 := Lib.hid (Go.Proofs.Ytjnlbhmddhpmaaa.eg.EB.fr b1_8.out HF9.out (by omega) (by omega))
  clear b1_8
  have s1_9 := Lib.hid (s1_8.out.fr HF9.out (by omega) (by omega))
  clear s1_8
  have s1p_9 := Lib.hid ((s1p_8.out.below HS9.out).more HS9.out.size)
  clear s1p_8
  have s2_9 := Lib.hid (s2_8.out.fr HF9.out (by omega) (by omega))
  clear s2_8
  have s3_9 := Lib.hid (s3_8.out.fr HF9.out (by omega) (by omega))
  clear s3_8
  have s3p_9 := Lib.hid ((s3p_8.out.below HS9.out).more HS9.out.size)
  clear s3p_8
  have s4_9 := Lib.hid (s4_8.out.fr HF9.out (by omega) (by omega))
  clear s4_8
  obtain ⟨b1c0, b1c1, b1c2, b1c3, b1c4, b1c5⟩ := b1_9.out
  have b1L : W5.heap.size < W9.heap.size := by omega
  go_wp2_with fail
  refine (Go.Proofs.Ytjnlbhmddhpmaaa.eg.mark_e1 q0 z0 (by omega) (by omega) (by omega) (by omega) (by omega) (by omega) s3_9.out (by omega)).mono ?_
  rintro e W10 ⟨rfl, hm, hf⟩
  have HF10 : Hid (FR W4.heap.size W5.heap.size W9 W10) := Lib.hid hf
  have HB10 : Hid (Below w.heap.size w W10) := Lib.hid (FR.chain HB9.out hf (by omega))
  have hs10 : W9.heap.size ≤ W10.heap.size := hf.size
  clear hf
  have b0_10 := Lib.hid (Go.Proofs.Ytjnlbhmddhpmaaa.eg.EB.fr b0_9.out HF10.out (by omega) (by omega))
  clear b0_9
  have b1_10 := Lib.hid (Go.Proofs.Ytjnlbhmddhpmaaa.eg.EB.fr b1_9.out HF10.out (by omega) (by omega))
  clear b1_9
  have s1_10 := Lib.hid (s1_9.out.fr HF10.out (by omega) (by omega))
  clear s1_9
  clear s1p_9
  have s2_10 := Lib.hid (s2_9.out.fr HF10.out (by omega) (by omega))
  clear s2_9
  have s4_10 := Lib.hid (s4_9.out.fr HF10.out (by omega) (by omega))
  clear s4_9
  clear s3_9 s3p_9
  obtain ⟨s3c, hs3c⟩ : ∃ z : Int, z = 1 + ((Go.Proofs.Ytjnlbhmddhpmaaa.st.cnt C0 * 5 + (n0b * 7 + Go.Proofs.Ytjnlbhmddhpmaaa.ts.cntT L0 * 2) + n0c * 2 + n0d * 2 : Nat) : Int) := ⟨_, rfl⟩
  rw [← hs3c]
  have s3t : decide (s3c < 0) = false := decide_eq_false (by omega)
  have s3b0 : 0 ≤ s3c := by omega
  have s3b1 : s3c ≤ 1099511627776 := by omega
  have Hs3C := Lib.hid hs3c
  clear hs3c
  have s3m_10 := Lib.hid hm
  clear hm
  clear b1c0 b1c1 b1c2 b1c3 b1c4 b1c5 b1L
  go_wp2_with fail
  refine (Go.Proofs.Ytjnlbhmddhpmaaa.owi.same_i (by omega) (s4_10.out.vs (by omega)) (s2_10.out.vs (by omega))).mono ?_
  rintro e W11 ⟨rfl, hb⟩
  have HB11 : Hid (Below w.heap.size w W11) := Lib.hid (HB10.out.trans (hb.mono HB10.out.size))
  have HS11 : Hid (Below W10.heap.size W10 W11) := Lib.hid hb
  have HF11 : Hid (FR 0 0 W10 W11) := Lib.hid (FR.of_below hb)
  have hs11 : W10.heap.size ≤ W11.heap.size := hb.size
  clear hb
  have b0_11 := Lib.hid (Go.Proofs.Ytjnlbhmddhpmaaa.eg.EB.fr b0_10.out HF11.out (by omega) (by omega))
  clear b0_10
  have b1_11 := Lib.hid (Go.Proofs.Ytjnlbhmddhpmaaa.eg.EB.fr b1_10.out HF11.out (by omega) (by omega))
  clear b1_10
  have s1_11 := Lib.hid (s1_10.out.fr HF11.out (by omega) (by omega))
  clear s1_10
  have s2_11 := Lib.hid (s2_10.out.fr HF11.out (by omega) (by omega))
  clear s2_10
  have s4_11 := Lib.hid (s4_10.out.fr HF11.out (by omega) (by omega))
  clear s4_10
  have s3m_11 := Lib.hid (s3m_10.out.fr HF11.out (by omega) (by omega))
  clear s3m_10
  go_wp2_with fail
  refine (Go.Proofs.Ytjnlbhmddhpmaaa.owi.mark_i (by omega) s4_11.out (by omega)).mono ?_
  rintro e W12 ⟨rfl, hm, hf⟩
  have HF12 : Hid (FR W6.heap.size W7.heap.size W11 W12) := Lib.hid hf
  have HB12 : Hid (Below w.heap.size w W12) := Lib.hid (FR.chain HB11.out hf (by omega))
  have hs12 : W11.heap.size ≤ W12.heap.size := hf.size
  clear hf
  have b0_12 := Lib.hid (Go.Proofs.Ytjnlbhmddhpmaaa.eg.EB.fr b0_11.out HF12.out (by omega) (by omega))
  clear b0_11
  have b1_12 := Lib.hid (Go.Proofs.Ytjnlbhmddhpmaaa.eg.EB.fr b1_11.out HF12.out (by omega) (by omega))
  clear b1_11
  have s1_12 := Lib.hid (s1_11.out.fr HF12.out (by omega) (by omega))
  clear s1_11
  have s2_12 := Lib.hid (s2_11.out.fr HF12.out (by omega) (by omega))
  clear s2_11
  have s3m_12 := Lib.hid (s3m_11.out.fr HF12.out (by omega) (by omega))
  clear s3m_11
  clear s4_11 
  obtain ⟨s4c, hs4c⟩ : ∃ z : Int, z = 1 + ((nq : Nat) : Int) := ⟨_, rfl⟩
  rw [← hs4c]
  have s4t : decide (s4c < 0) = false := decide_eq_false (by omega)
  have s4b0 : 0 ≤ s4c := by omega
  have s4b1 : s4c ≤ 1099511627776 := by omega
  have Hs4C := Lib.hid hs4c
  clear hs4c
  have s4m_12 := Lib.hid hm
  clear hm
  go_wp2_with fail
  refine (Go.Proofs.Ytjnlbhmddhpmaaa.owi.held_i (by omega) s4m_12.out (by omega)).mono ?_
  rintro e W13 ⟨rfl, hb⟩
  rw [← Hs4C.out]
  have HB13 : Hid (Below w.heap.size w W13) := Lib.hid (HB12.out.trans (hb.mono HB12.out.size))
  have HS13 : Hid (Below W12.heap.size W12 W13) := Lib.hid hb
  have HF13 : Hid (FR 0 0 W12 W13) := Lib.hid (FR.of_below hb)
  have hs13 : W12.heap.size ≤ W13.heap.size := hb.size
  clear hb
  have b0_13 := Lib.hid (Go.Proofs.Ytjnlbhmddhpmaaa.eg.EB.fr b0_12.out HF13.out (by omega) (by omega))
  clear b0_12
  have b1_13 := Lib.hid (Go.Proofs.Ytjnlbhmddhpmaaa.eg.EB.fr b1_12.out HF13.out (by omega) (by omega))
  clear b1_12
  have s1_13 := Lib.hid (s1_12.out.fr HF13.out (by omega) (by omega))
  clear s1_12
  have s2_13 := Lib.hid (s2_12.out.fr HF13.out (by omega) (by omega))
  clear s2_12
  have s3m_13 := Lib.hid (s3m_12.out.fr HF13.out (by omega) (by omega))
  clear s3m_12
  have s4m_13 := Lib.hid (s4m_12.out.fr HF13.out (by omega) (by omega))
  clear s4m_12
  obtain ⟨b0c0, b0c1, b0c2, b0c3, b0c4, b0c5⟩ := b0_13.out
  have b0L : w.heap.size < W13.heap.size := by omega
  go_wp2_with fail
  refine (Go.Proofs.Ytjnlbhmddhpmaaa.eg.owned_eg q0 z0 (by omega) (by omega) (by omega) (by omega) (by omega) (by omega) (HR0.out.below HB13.out) (HB13.out).size).mono ?_
  rintro e W14 ⟨Ns6a, Ns6b, Ns6c, Ns6d, rfl, hv, hvp, hb⟩
  have HB14 : Hid (Below w.heap.size w W14) := Lib.hid (HB13.out.trans (hb.mono HB13.out.size))
  have HS14 : Hid (Below W13.heap.size W13 W14) := Lib.hid hb
  have HF14 : Hid (FR 0 0 W13 W14) := Lib.hid (FR.of_below hb)
  have hs14 : W13.heap.size ≤ W14.heap.size := hb.size
  clear hb
  have b0_14 := Lib.hid (Go.Proofs.Ytjnlbhmddhpmaaa.eg.EB.fr b0_13.out HF14.out (by omega) (by omega))
  clear b0_13
  have b1_14 := Lib.hid (Go.Proofs.Ytjnlbhmddhpmaaa.eg.EB.fr b1_13.out HF14.out (by omega) (by omega))
  clear b1_13
  have s1_14 := Lib.hid (s1_13.out.fr HF14.out (by omega) (by omega))
  clear s1_13
  have s2_14 := Lib.hid (s2_13.out.fr HF14.out (by omega) (by omega))
  clear s2_13
  have s3m_14 := Lib.hid (s3m_13.out.fr HF14.out (by omega) (by omega))
  clear s3m_13
  have s4m_14 := Lib.hid (s4m_13.out.fr HF14.out (by omega) (by omega))
  clear s4m_13
  have s6_14 := Lib.hid hv
  clear hv
  have s6p_14 := Lib.hid hvp
  clear hvp
  clear b0c0 b0c1 b0c2 b0c3 b0c4 b0c5 b0L
  go_wp2_with fail
  refine (Go.Proofs.Ytjnlbhmddhpmaaa.fnd.impl_ids q0 z0 a1 (by omega) (by omega) (by omega) (by omega) s6p_14.out (Nat.le_refl _)).mono ?_
  rintro e W15 ⟨As7, cs7, he, ho, hb⟩
  rw [HQ.out, HNQ.out] at he ho
  subst he
  have hv : Go.Proofs.Ytjnlbhmddhpmaaa.owi.OwI W15 (W14.heap.size) (W15.heap.size) As7 nq q := Go.Proofs.Ytjnlbhmddhpmaaa.owi.OwI.of_own ho HNQ.out (Nat.le_refl _) (Nat.le_refl _)
  clear ho
  have HB15 : Hid (Below w.heap.size w W15) := Lib.hid (HB14.out.trans (hb.mono HB14.out.size))
  have HS15 : Hid (Below W14.heap.size W14 W15) := Lib.hid hb
  have HF15 : Hid (FR 0 0 W14 W15) := Lib.hid (FR.of_below hb)
  have hs15 : W14.heap.size ≤ W15.heap.size := hb.size
  clear hb
  have b0_15 := Lib.hid (Go.Proofs.Ytjnlbhmddhpmaaa.eg.EB.fr b0_14.out HF15.out (by omega) (by omega))
  clear b0_14
  have b1_15 := Lib.hid (Go.Proofs.Ytjnlbhmddhpmaaa.eg.EB.fr b1_14.out HF15.out (by omega) (by omega))
  clear b1_14
  have s1_15 := Lib.hid (s1_14.out.fr HF15.out (by omega) (by omega))
  clear s1_14
  have s2_15 := Lib.hid (s2_14.out.fr HF15.out (by omega) (by omega))
  clear s2_14
  have s3m_15 := Lib.hid (s3m_14.out.fr HF15.out (by omega) (by omega))
  clear s3m_14
  have s4m_15 := Lib.hid (s4m_14.out.fr HF15.out (by omega) (by omega))
  clear s4m_14
  have s6_15 := Lib.hid (s6_14.out.fr HF15.out (by omega) (by omega))
  clear s6_14
  have s6p_15 := Lib.hid ((s6p_14.out.below HS15.out).more HS15.out.size)
  clear s6p_14
  have s7_15 := Lib.hid hv
  clear hv
  go_wp2_with fail
  refine (Go.Proofs.Ytjnlbhmddhpmaaa.owi.same_i (by omega) (s7_15.out.vs (by omega)) (s2_15.out.vs (by omega))).mono ?_
  rintro e W16 ⟨rfl, hb⟩
  have HB16 : Hid (Below w.heap.size w W16) := Lib.hid (HB15.out.trans (hb.mono HB15.out.size))
  have HS16 : Hid (Below W15.heap.size W15 W16) := Lib.hid hb
  have HF16 : Hid (FR 0 0 W15 W16) := Lib.hid (FR.of_below hb)
  have hs16 : W15.heap.size ≤ W16.heap.size := hb.size
  clear hb
  have b0_16 := Lib.hid (Go.Proofs.Ytjnlbhmddhpmaaa.eg.EB.fr b0_15.out HF16.out (by omega) (by omega))
  clear b0_15
  have b1_16 := Lib.hid (Go.Proofs.Ytjnlbhmddhpmaaa.eg.EB.fr b1_15.out HF16.out (by omega) (by omega))
  clear b1_15
  have s1_16 := Lib.hid (s1_15.out.fr HF16.out (by omega) (by omega))
  clear s1_15
  have s2_16 := Lib.hid (s2_15.out.fr HF16.out (by omega) (by omega))
  clear s2_15
  have s3m_16 := Lib.hid (s3m_15.out.fr HF16.out (by omega) (by omega))
  clear s3m_15
  have s4m_16 := Lib.hid (s4m_15.out.fr HF16.out (by omega) (by omega))
  clear s4m_15
  have s6_16 := Lib.hid (s6_15.out.fr HF16.out (by omega) (by omega))
  clear s6_15
  have s6p_16 := Lib.hid ((s6p_15.out.below HS16.out).more HS16.out.size)
  clear s6p_15
  have s7_16 := Lib.hid (s7_15.out.fr HF16.out (by omega) (by omega))
  clear s7_15
  go_wp2_with fail
  refine (Go.Proofs.Ytjnlbhmddhpmaaa.owi.held_i (by omega) s4m_16.out (by omega)).mono ?_
  rintro e W17 ⟨rfl, hb⟩
  rw [← Hs4C.out]
  have HB17 : Hid (Below w.heap.size w W17) := Lib.hid (HB16.out.trans (hb.mono HB16.out.size))
  have HS17 : Hid (Below W16.heap.size W16 W17) := Lib.hid hb
  have HF17 : Hid (FR 0 0 W16 W17) := Lib.hid (FR.of_below hb)
  have hs17 : W16.heap.size ≤ W17.heap.size := hb.size
  clear hb
  have b0_17 := Lib.hid (Go.Proofs.Ytjnlbhmddhpmaaa.eg.EB.fr b0_16.out HF17.out (by omega) (by omega))
  clear b0_16
  have b1_17 := Lib.hid (Go.Proofs.Ytjnlbhmddhpmaaa.eg.EB.fr b1_16.out HF17.out (by omega) (by omega))
  clear b1_16
  have s1_17 := Lib.hid (s1_16.out.fr HF17.out (by omega) (by omega))
  clear s1_16
  have s2_17 := Lib.hid (s2_16.out.fr HF17.out (by omega) (by omega))
  clear s2_16
  have s3m_17 := Lib.hid (s3m_16.out.fr HF17.out (by omega) (by omega))
  clear s3m_16
  have s4m_17 := Lib.hid (s4m_16.out.fr HF17.out (by omega) (by omega))
  clear s4m_16
  have s6_17 := Lib.hid (s6_16.out.fr HF17.out (by omega) (by omega))
  clear s6_16
  have s6p_17 := Lib.hid ((s6p_16.out.below HS17.out).more HS17.out.size)
  clear s6p_16
  have s7_17 := Lib.hid (s7_16.out.fr HF17.out (by omega) (by omega))
  clear s7_16
  go_wp2_with fail
  go_ret
  exact ⟨rfl, HB17.out⟩
/-! ### THE ROW's STEP -/
set_option maxRecDepth 100000 in
theorem lifted (os : Os) (started : os.Started) (H : Type) (enc : TypeId × Value → H) :
    ReturnsInHanded {} Try.checked os 5 .any (Rows.fnExactTransactionIDsSpec.pre6 enc Try.prog Try.f5 Rows.fnExactTransactionIDsRow.domain false) (Rows.fnExactTransactionIDsSpec.post enc Try.prog Try.f5 false true false false) := by
  refine returnsInHanded_of_change (C := Try.checked) own started (by kernel_rfl) Try.func5
    (ChangeSpec.witness6 (enc := enc) (C := Try.checked) false ⟨#[], #[.agg #[.bool false, .slice none 0 0, .slice none 0 0, .slice none 0 0, .slice none 0 0, .int .i64 0], .int .i64 0], []⟩ 8 (by kernel_rfl) (by kernel_rfl) (by kernel_rfl) (by kernel_rfl)) ?_
  intro W base args ds gs before hval0 hW hcnd _
  have hval : ∀ (j : Nat) t v, Try.f5.params[j]? = some t → args[j]? = some v → Value.okWide Try.prog W .any base t v := hval0
  have hW' := hW
  obtain ⟨pp, qq, hA0, hV, rfl, hfz, hnd⟩ := hW
  have hA : DataW.TrodAll enc Try.prog W 0 (fun _ => true) true Try.f5.params.toList args.toList ds pp := hA0
  rw [Try.params5] at hA hval
  obtain ⟨v0, vs0, dd0, ds0, pp0, qq0, hargs, rfl, rfl, h0, r0⟩ := trodAll_cons hA
  obtain ⟨v1, vs1, dd1, ds1, pp1, qq1, rfl, rfl, rfl, h1, r1⟩ := trodAll_cons r0
  obtain ⟨rfl, rfl, rfl⟩ := trodAll_nil r1
  obtain rfl : args = #[v0, v1] := by cases args; simp_all
  obtain ⟨rfl, rfl⟩ := trodVars_none hV
  have k0 := h0
  have lt0 : ∀ x ∈ pp0, x.block < W.heap.size := by obtain ⟨m, hm⟩ := k0; exact DataW.trod_lt m _ _ _ hm
  obtain ⟨q0, A0a, n0a, c0a, C0, A0b, n0b, c0b, L0, A0c, n0c, c0c, K0, A0d, n0d, c0d, X0, z0, rfl, u0a, m0a, u0b, m0b, u0c, m0c, u0d, m0d, b0⟩ := Go.Proofs.Ytjnlbhmddhpmaaa.opt.open_engine (hval 0 41 v0 rfl rfl) h0
  obtain ⟨a1, rfl, rfl, rfl, w1⟩ := open_int Try.underlying3 (hval 1 3 v1 rfl rfl) h1
  clear hA0 hval0
  refine (walk q0 A0a n0a c0a C0 A0b n0b c0b L0 A0c n0c c0c K0 A0d n0d c0d X0 z0 a1 W u0a m0a u0b m0b u0c m0c u0d m0d b0 w1).mono fun e W' ⟨he, bel⟩ => ?_
  subst he
  exact ⟨_, rfl, _, _, _, [], _, [], hW', trodAll_mk1 (shut_bool Try.underlying4 _), (trodAll_cons_mk (Below.trod laidOut (by kernel_rfl) (of_decide_eq_true (by kernel_rfl)) k0 bel lt0) (trodAll_cons_mk (shut_int Try.underlying3 w1) trodAll_mk0)), rfl, bel.frame _, fun h => by cases h⟩

theorem over : Rows.fnExactTransactionIDsRow.holds Try.pinned (OpenSpec.ofChange Rows.fnExactTransactionIDsSpec) :=
  OpenClaim.holds_of_wide 5 Try.f5 rfl rfl rfl rfl rfl rfl rfl ⟨rfl, rfl, rfl, rfl, rfl⟩ rfl rfl rfl rfl rfl (by kernel_rfl) Try.func5 (by kernel_rfl)
    (of_decide_eq_true (by kernel_rfl)) (by unfold Func.isWrapper; first | (rw [if_pos (by decide +kernel)]; kernel_rfl) | (rw [if_neg (by decide +kernel)]; exact ⟨rfl, rfl⟩))
    (fun os started H enc _ => lifted os started H enc)

/-- THE STATEMENT -/
theorem proved : Rows.FnExactTransactionIDsSaid := over
#print axioms proved
end Go.Proofs.Ytjnlbhmddhpmaaa.fnExactTransactionIDs
