/- EqualSteps of the program answers as its model at every pair of steps: the law returns true and writes nothing that was there. No condition. -/
import Derived.Test.YtjnlbhmddhpmaaaStp
import Derived.Test.YtjnlbhmddhpmaaaEl2
import Derived.WalkKit
import Derived.ProofKit
import Derived.OpenShut
import Derived.ShutString
import Derived.ChangeOld
import Derived.Below
import Derived.Carry
import Derived.Lib.Hide
import Derived.StillTailTactics
import Derived.Deep.RegionHeld3
import Derived.Deep.DeepHandedRow
namespace Go.Proofs.Ytjnlbhmddhpmaaa.fnExactEqualSteps
open Go.ChangeShapes Go.WideShapes Go.ChangeAt Go.RowKit
open Go.ChangeMaps (open_string shut_string)
open Go.Proofs.Ytjnlbhmddhpmaaa.vers (new1 new2 new3)
set_option linter.unusedVariables false
theorem own : ownKnob Try.prog.godebug = none := by kernel_rfl
theorem laidOut : laidOutB Try.prog = true := by kernel_rfl
set_option maxHeartbeats 1600000 in
theorem walk (y0 : Int) (A0 : Option Addr) (n0 c0 : Nat) (L0 : List Int) (y1 : Int) (A1 : Option Addr) (n1 c1 : Nat) (L1 : List Int) (w : World) (h0 : Go.Proofs.Ytjnlbhmddhpmaaa.ints.Is w w.heap.size A0 n0 L0) (m0 : n0 ≤ maxLen) (h1 : Go.Proofs.Ytjnlbhmddhpmaaa.ints.Is w w.heap.size A1 n1 L1) (m1 : n1 ≤ maxLen) :
    Calls Try.prog 8 #[.agg #[.int .i64 y0, .slice A0 n0 c0], .agg #[.int .i64 y1, .slice A1 n1 c1]] w fun e w' => e = .returned (.bool true) ∧ Below w.heap.size w w' := by
  unfold maxLen at m0
  have H0 := Lib.hid h0
  clear h0
  unfold maxLen at m1
  have H1 := Lib.hid h1
  clear h1
  by_cases hbig0 : (1048576 : Int) < (n0 : Int)
  · have hz := Go.Proofs.Ytjnlbhmddhpmaaa.stp.szK_no (left := (1048576 : Int)) (n := n0) (by omega)
    have HZ0 := Lib.hid hz
    clear hz
    go_enter Try.func8, Try.ntmps8
    go_wp2_with fail
    have hx0 := Go.Proofs.Ytjnlbhmddhpmaaa.stp.SB.new w y0 (.slice A0 n0 c0) 57
    replace hx0 := (hx0).keep (by simp; try omega) (new1 (w.alloc (.cells #[.int .i64 y0, .slice A0 n0 c0] 57)) (.cells #[.int .i64 y1, .slice A1 n1 c1] 57))
    have hl0 : w.heap.size < ((w.alloc (.cells #[.int .i64 y0, .slice A0 n0 c0] 57)).alloc (.cells #[.int .i64 y1, .slice A1 n1 c1] 57)).heap.size := by simp; try omega
    have hx1 := Go.Proofs.Ytjnlbhmddhpmaaa.stp.SB.new (w.alloc (.cells #[.int .i64 y0, .slice A0 n0 c0] 57)) y1 (.slice A1 n1 c1) 57
    rw [show (w.alloc (.cells #[.int .i64 y0, .slice A0 n0 c0] 57)).heap.size = w.heap.size + 1 by simp] at hx1
    have hl1 : w.heap.size + 1 < ((w.alloc (.cells #[.int .i64 y0, .slice A0 n0 c0] 57)).alloc (.cells #[.int .i64 y1, .slice A1 n1 c1] 57)).heap.size := by simp; try omega
    have hb := Go.Proofs.Ytjnlbhmddhpmaaa.vers.new2 w (.cells #[.int .i64 y0, .slice A0 n0 c0] 57) (.cells #[.int .i64 y1, .slice A1 n1 c1] 57)
    generalize ((w.alloc (.cells #[.int .i64 y0, .slice A0 n0 c0] 57)).alloc (.cells #[.int .i64 y1, .slice A1 n1 c1] 57)) = W1 at hx0 hl0 hx1 hl1 hb ⊢
    have HB1 : Hid (Below w.heap.size w W1) := Lib.hid hb
    have HS1 : Hid (Below w.heap.size w W1) := Lib.hid hb
    clear hb
    have b0_1 := Lib.hid hx0
    have b0l_1 := hl0
    clear hx0 hl0
    have b1_1 := Lib.hid hx1
    have b1l_1 := hl1
    clear hx1 hl1
    refine (Go.Proofs.Ytjnlbhmddhpmaaa.stp.count_step y0 A0 n0 c0 _ _ (by omega) (by omega) (by omega)).mono ?_
    rintro e W2 ⟨rfl, hb⟩
    rw [HZ0.out]
    have HB2 : Hid (Below w.heap.size w W2) := Lib.hid (HB1.out.trans (hb.mono HB1.out.size))
    have HS2 : Hid (Below W1.heap.size W1 W2) := Lib.hid hb
    clear hb
    have b0_2 := Lib.hid ((b0_1.out).keep b0l_1 (HS2.out))
    have b0l_2 := Nat.lt_of_lt_of_le b0l_1 HS2.out.size
    clear b0_1 b0l_1
    have b1_2 := Lib.hid ((b1_1.out).keep b1l_1 (HS2.out))
    have b1l_2 := Nat.lt_of_lt_of_le b1l_1 HS2.out.size
    clear b1_1 b1l_1
    go_wp2_with fail
    go_ret
    exact ⟨rfl, HB2.out⟩
  have hz := Go.Proofs.Ytjnlbhmddhpmaaa.stp.szK_yes (left := (1048576 : Int)) (n := n0) (by omega)
  have HZ0 := Lib.hid hz
  clear hz
  obtain ⟨lf0, hlf⟩ : ∃ lf : Int, lf = (1048576 : Int) - (n0 : Int) := ⟨_, rfl⟩
  have hz := HZ0.out
  clear HZ0
  rw [← hlf] at hz
  have HZ0 := Lib.hid hz
  have tz0 : decide (lf0 < 0) = false := decide_eq_false (by omega)
  have lf00 : 0 ≤ lf0 := by omega
  have lf10 : lf0 ≤ 1048576 := by omega
  clear hlf hz
  by_cases hbig1 : lf0 < (n1 : Int)
  · have hz := Go.Proofs.Ytjnlbhmddhpmaaa.stp.szK_no (left := lf0) (n := n1) (by omega)
    have HZ1 := Lib.hid hz
    clear hz
    go_enter Try.func8, Try.ntmps8
    go_wp2_with fail
    have hx0 := Go.Proofs.Ytjnlbhmddhpmaaa.stp.SB.new w y0 (.slice A0 n0 c0) 57
    replace hx0 := (hx0).keep (by simp; try omega) (new1 (w.alloc (.cells #[.int .i64 y0, .slice A0 n0 c0] 57)) (.cells #[.int .i64 y1, .slice A1 n1 c1] 57))
    have hl0 : w.heap.size < ((w.alloc (.cells #[.int .i64 y0, .slice A0 n0 c0] 57)).alloc (.cells #[.int .i64 y1, .slice A1 n1 c1] 57)).heap.size := by simp; try omega
    have hx1 := Go.Proofs.Ytjnlbhmddhpmaaa.stp.SB.new (w.alloc (.cells #[.int .i64 y0, .slice A0 n0 c0] 57)) y1 (.slice A1 n1 c1) 57
    rw [show (w.alloc (.cells #[.int .i64 y0, .slice A0 n0 c0] 57)).heap.size = w.heap.size + 1 by simp] at hx1
    have hl1 : w.heap.size + 1 < ((w.alloc (.cells #[.int .i64 y0, .slice A0 n0 c0] 57)).alloc (.cells #[.int .i64 y1, .slice A1 n1 c1] 57)).heap.size := by simp; try omega
    have hb := Go.Proofs.Ytjnlbhmddhpmaaa.vers.new2 w (.cells #[.int .i64 y0, .slice A0 n0 c0] 57) (.cells #[.int .i64 y1, .slice A1 n1 c1] 57)
    generalize ((w.alloc (.cells #[.int .i64 y0, .slice A0 n0 c0] 57)).alloc (.cells #[.int .i64 y1, .slice A1 n1 c1] 57)) = W1 at hx0 hl0 hx1 hl1 hb ⊢
    have HB1 : Hid (Below w.heap.size w W1) := Lib.hid hb
    have HS1 : Hid (Below w.heap.size w W1) := Lib.hid hb
    clear hb
    have b0_1 := Lib.hid hx0
    have b0l_1 := hl0
    clear hx0 hl0
    have b1_1 := Lib.hid hx1
    have b1l_1 := hl1
    clear hx1 hl1
    refine (Go.Proofs.Ytjnlbhmddhpmaaa.stp.count_step y0 A0 n0 c0 _ _ (by omega) (by omega) (by omega)).mono ?_
    rintro e W2 ⟨rfl, hb⟩
    rw [HZ0.out]
    have HB2 : Hid (Below w.heap.size w W2) := Lib.hid (HB1.out.trans (hb.mono HB1.out.size))
    have HS2 : Hid (Below W1.heap.size W1 W2) := Lib.hid hb
    clear hb
    have b0_2 := Lib.hid ((b0_1.out).keep b0l_1 (HS2.out))
    have b0l_2 := Nat.lt_of_lt_of_le b0l_1 HS2.out.size
    clear b0_1 b0l_1
    have b1_2 := Lib.hid ((b1_1.out).keep b1l_1 (HS2.out))
    have b1l_2 := Nat.lt_of_lt_of_le b1l_1 HS2.out.size
    clear b1_1 b1l_1
    obtain ⟨b1c0, b1c1⟩ := b1_2.out
    go_wp2_with fail
    refine (Go.Proofs.Ytjnlbhmddhpmaaa.stp.count_step y1 A1 n1 c1 _ _ (by omega) (by omega) (by omega)).mono ?_
    rintro e W3 ⟨rfl, hb⟩
    rw [HZ1.out]
    have HB3 : Hid (Below w.heap.size w W3) := Lib.hid (HB2.out.trans (hb.mono HB2.out.size))
    have HS3 : Hid (Below W2.heap.size W2 W3) := Lib.hid hb
    clear hb
    have b0_3 := Lib.hid ((b0_2.out).keep b0l_2 (HS3.out))
    have b0l_3 := Nat.lt_of_lt_of_le b0l_2 HS3.out.size
    clear b0_2 b0l_2
    have b1_3 := Lib.hid ((b1_2.out).keep b1l_2 (HS3.out))
    have b1l_3 := Nat.lt_of_lt_of_le b1l_2 HS3.out.size
    clear b1_2 b1l_2
    clear b1c0 b1c1
    go_wp2_with fail
    go_ret
    exact ⟨rfl, HB3.out⟩
  have hz := Go.Proofs.Ytjnlbhmddhpmaaa.stp.szK_yes (left := lf0) (n := n1) (by omega)
  have HZ1 := Lib.hid hz
  clear hz
  obtain ⟨lf1, hlf⟩ : ∃ lf : Int, lf = lf0 - (n1 : Int) := ⟨_, rfl⟩
  have hz := HZ1.out
  clear HZ1
  rw [← hlf] at hz
  have HZ1 := Lib.hid hz
  have tz1 : decide (lf1 < 0) = false := decide_eq_false (by omega)
  have lf01 : 0 ≤ lf1 := by omega
  have lf11 : lf1 ≤ 1048576 := by omega
  clear hlf hz
  obtain ⟨q0z, hq0⟩ : ∃ q, Go.Proofs.Ytjnlbhmddhpmaaa.stp.eqP y0 L0 y1 L1 = q := ⟨_, rfl⟩
  have HQ0 := Lib.hid hq0
  clear hq0
  go_enter Try.func8, Try.ntmps8
  go_wp2_with fail
  have hx0 := Go.Proofs.Ytjnlbhmddhpmaaa.stp.SB.new w y0 (.slice A0 n0 c0) 57
  replace hx0 := (hx0).keep (by simp; try omega) (new1 (w.alloc (.cells #[.int .i64 y0, .slice A0 n0 c0] 57)) (.cells #[.int .i64 y1, .slice A1 n1 c1] 57))
  have hl0 : w.heap.size < ((w.alloc (.cells #[.int .i64 y0, .slice A0 n0 c0] 57)).alloc (.cells #[.int .i64 y1, .slice A1 n1 c1] 57)).heap.size := by simp; try omega
  have hx1 := Go.Proofs.Ytjnlbhmddhpmaaa.stp.SB.new (w.alloc (.cells #[.int .i64 y0, .slice A0 n0 c0] 57)) y1 (.slice A1 n1 c1) 57
  rw [show (w.alloc (.cells #[.int .i64 y0, .slice A0 n0 c0] 57)).heap.size = w.heap.size + 1 by simp] at hx1
  have hl1 : w.heap.size + 1 < ((w.alloc (.cells #[.int .i64 y0, .slice A0 n0 c0] 57)).alloc (.cells #[.int .i64 y1, .slice A1 n1 c1] 57)).heap.size := by simp; try omega
  have hb := Go.Proofs.Ytjnlbhmddhpmaaa.vers.new2 w (.cells #[.int .i64 y0, .slice A0 n0 c0] 57) (.cells #[.int .i64 y1, .slice A1 n1 c1] 57)
  generalize ((w.alloc (.cells #[.int .i64 y0, .slice A0 n0 c0] 57)).alloc (.cells #[.int .i64 y1, .slice A1 n1 c1] 57)) = W1 at hx0 hl0 hx1 hl1 hb ⊢
  have HB1 : Hid (Below w.heap.size w W1) := Lib.hid hb
  have HS1 : Hid (Below w.heap.size w W1) := Lib.hid hb
  clear hb
  have b0_1 := Lib.hid hx0
  have b0l_1 := hl0
  clear hx0 hl0
  have b1_1 := Lib.hid hx1
  have b1l_1 := hl1
  clear hx1 hl1
  refine (Go.Proofs.Ytjnlbhmddhpmaaa.stp.count_step y0 A0 n0 c0 _ _ (by omega) (by omega) (by omega)).mono ?_
  rintro e W2 ⟨rfl, hb⟩
  rw [HZ0.out]
  have HB2 : Hid (Below w.heap.size w W2) := Lib.hid (HB1.out.trans (hb.mono HB1.out.size))
  have HS2 : Hid (Below W1.heap.size W1 W2) := Lib.hid hb
  clear hb
  have b0_2 := Lib.hid ((b0_1.out).keep b0l_1 (HS2.out))
  have b0l_2 := Nat.lt_of_lt_of_le b0l_1 HS2.out.size
  clear b0_1 b0l_1
  have b1_2 := Lib.hid ((b1_1.out).keep b1l_1 (HS2.out))
  have b1l_2 := Nat.lt_of_lt_of_le b1l_1 HS2.out.size
  clear b1_1 b1l_1
  obtain ⟨b1c0, b1c1⟩ := b1_2.out
  go_wp2_with fail
  refine (Go.Proofs.Ytjnlbhmddhpmaaa.stp.count_step y1 A1 n1 c1 _ _ (by omega) (by omega) (by omega)).mono ?_
  rintro e W3 ⟨rfl, hb⟩
  rw [HZ1.out]
  have HB3 : Hid (Below w.heap.size w W3) := Lib.hid (HB2.out.trans (hb.mono HB2.out.size))
  have HS3 : Hid (Below W2.heap.size W2 W3) := Lib.hid hb
  clear hb
  have b0_3 := Lib.hid ((b0_2.out).keep b0l_2 (HS3.out))
  have b0l_3 := Nat.lt_of_lt_of_le b0l_2 HS3.out.size
  clear b0_2 b0l_2
  have b1_3 := Lib.hid ((b1_2.out).keep b1l_2 (HS3.out))
  have b1l_3 := Nat.lt_of_lt_of_le b1l_2 HS3.out.size
  clear b1_2 b1l_2
  clear b1c0 b1c1
  go_wp2_with fail
  have hbk0 : Below W3.heap.size W3 W3.drew := (Below.refl _ _).drew
  have hbw0 := HB3.out.trans (hbk0.mono HB3.out.size)
  obtain ⟨b0c0, b0c1⟩ := b0_3.out
  obtain ⟨b1c0, b1c1⟩ := b1_3.out
  go_region_held3 (fun w' => w'.cell? ⟨w.heap.size, 0, none⟩ = some (.int .i64 y0) ∧ w'.cell? ⟨w.heap.size, 1, none⟩ = some (.slice A0 n0 c0) ∧ w'.cell? ⟨w.heap.size + 1, 0, none⟩ = some (.int .i64 y1) ∧ w'.cell? ⟨w.heap.size + 1, 1, none⟩ = some (.slice A1 n1 c1)) (go_keep) (first | (go_at_call 29; (with_reducible refine (Go.Proofs.Ytjnlbhmddhpmaaa.stp.spec_steps y0 y1 (by omega) (by omega) s1a2 s2a2 (Nat.le_refl _)).mono ?_); rintro e W4 ⟨he, hb⟩; rw [HQ0.out] at he; subst he; have hbk3 := hbk2.trans (hb.mono hbk2.size); have hbw3 := HB3.out.trans (hbk3.mono HB3.out.size); have s1a3 := (s1a2.below hb).more hb.size; have s2a3 := (s2a2.below hb).more hb.size; clear hb ; obtain ⟨b0d30, b0d31⟩ := ((b0_3.out).keep b0l_3 (hbk3)); obtain ⟨b1d30, b1d31⟩ := ((b1_3.out).keep b1l_3 (hbk3))) | (go_at_call 30; (with_reducible refine (Go.Proofs.Ytjnlbhmddhpmaaa.stp.copy_step y1 (by omega) (H1.out.below hbw1) (hbw1).size).mono ?_); rintro e Wa2 ⟨Ns2, rfl, hv, hb⟩; have hbk2 := hbk1.trans (hb.mono hbk1.size); have hbw2 := HB3.out.trans (hbk2.mono HB3.out.size); have s1a2 := (s1a1.below hb).more hb.size; have s2a2 := hv; clear hb hv; obtain ⟨b0d20, b0d21⟩ := ((b0_3.out).keep b0l_3 (hbk2)); obtain ⟨b1d20, b1d21⟩ := ((b1_3.out).keep b1l_3 (hbk2))) | (go_at_call 30; (with_reducible refine (Go.Proofs.Ytjnlbhmddhpmaaa.stp.copy_step y0 (by omega) (H0.out.below hbw0) (hbw0).size).mono ?_); rintro e Wa1 ⟨Ns1, rfl, hv, hb⟩; have hbk1 := hbk0.trans (hb.mono hbk0.size); have hbw1 := HB3.out.trans (hbk1.mono HB3.out.size); have s1a1 := hv; clear hb hv; obtain ⟨b0d10, b0d11⟩ := ((b0_3.out).keep b0l_3 (hbk1)); obtain ⟨b1d10, b1d11⟩ := ((b1_3.out).keep b1l_3 (hbk1))))
  have hb := hbk3
  clear hbk0 hbw0 s1a1 b0d10 b0d11 b1d10 b1d11 hbk1 hbw1 s1a2 s2a2 b0d20 b0d21 b1d20 b1d21 hbk2 hbw2 s1a3 s2a3 b0d30 b0d31 b1d30 b1d31 hbk3 hbw3 b0c0 b0c1 b1c0 b1c1
  have HB4 : Hid (Below w.heap.size w W4) := Lib.hid (HB3.out.trans (hb.mono HB3.out.size))
  have HS4 : Hid (Below W3.heap.size W3 W4) := Lib.hid hb
  clear hb
  have b0_4 := Lib.hid ((b0_3.out).keep b0l_3 (HS4.out))
  have b0l_4 := Nat.lt_of_lt_of_le b0l_3 HS4.out.size
  clear b0_3 b0l_3
  have b1_4 := Lib.hid ((b1_3.out).keep b1l_3 (HS4.out))
  have b1l_4 := Nat.lt_of_lt_of_le b1l_3 HS4.out.size
  clear b1_3 b1l_3
  obtain ⟨b0c0, b0c1⟩ := b0_4.out
  go_wp2_with fail
  refine (Go.Proofs.Ytjnlbhmddhpmaaa.stp.copy_step y0 (by omega) (H0.out.below HB4.out) (HB4.out).size).mono ?_
  rintro e W5 ⟨Ns3, rfl, hv, hb⟩
  have HB5 : Hid (Below w.heap.size w W5) := Lib.hid (HB4.out.trans (hb.mono HB4.out.size))
  have HS5 : Hid (Below W4.heap.size W4 W5) := Lib.hid hb
  clear hb
  have b0_5 := Lib.hid ((b0_4.out).keep b0l_4 (HS5.out))
  have b0l_5 := Nat.lt_of_lt_of_le b0l_4 HS5.out.size
  clear b0_4 b0l_4
  have b1_5 := Lib.hid ((b1_4.out).keep b1l_4 (HS5.out))
  have b1l_5 := Nat.lt_of_lt_of_le b1l_4 HS5.out.size
  clear b1_4 b1l_4
  have s3_5 := Lib.hid hv
  clear hv
  clear b0c0 b0c1
  obtain ⟨b1c0, b1c1⟩ := b1_5.out
  go_wp2_with fail
  have hx0 := Go.Proofs.Ytjnlbhmddhpmaaa.stp.SB.new W5 y0 (.slice (some ⟨Ns3, 0, none⟩) n0 n0) 60
  have hl0 : W5.heap.size < (W5.alloc (.cells #[.int .i64 y0, .slice (some ⟨Ns3, 0, none⟩) n0 n0] 60)).heap.size := by simp; try omega
  have hb := Go.Proofs.Ytjnlbhmddhpmaaa.el2.new1 W5 (.cells #[.int .i64 y0, .slice (some ⟨Ns3, 0, none⟩) n0 n0] 60)
  generalize (W5.alloc (.cells #[.int .i64 y0, .slice (some ⟨Ns3, 0, none⟩) n0 n0] 60)) = W6 at hx0 hl0 hb ⊢
  have HB6 : Hid (Below w.heap.size w W6) := Lib.hid (HB5.out.trans (hb.mono HB5.out.size))
  have HS6 : Hid (Below W5.heap.size W5 W6) := Lib.hid hb
  clear hb
  have b0_6 := Lib.hid ((b0_5.out).keep b0l_5 (HS6.out))
  have b0l_6 := Nat.lt_of_lt_of_le b0l_5 HS6.out.size
  clear b0_5 b0l_5
  have b1_6 := Lib.hid ((b1_5.out).keep b1l_5 (HS6.out))
  have b1l_6 := Nat.lt_of_lt_of_le b1l_5 HS6.out.size
  clear b1_5 b1l_5
  have s3_6 := Lib.hid ((s3_5.out.below HS6.out).more HS6.out.size)
  clear s3_5
  have b2_6 := Lib.hid hx0
  have b2l_6 := hl0
  clear hx0 hl0
  refine (Go.Proofs.Ytjnlbhmddhpmaaa.stp.copy_step y1 (by omega) (H1.out.below HB6.out) (HB6.out).size).mono ?_
  rintro e W7 ⟨Ns4, rfl, hv, hb⟩
  have HB7 : Hid (Below w.heap.size w W7) := Lib.hid (HB6.out.trans (hb.mono HB6.out.size))
  have HS7 : Hid (Below W6.heap.size W6 W7) := Lib.hid hb
  clear hb
  have b0_7 := Lib.hid ((b0_6.out).keep b0l_6 (HS7.out))
  have b0l_7 := Nat.lt_of_lt_of_le b0l_6 HS7.out.size
  clear b0_6 b0l_6
  have b1_7 := Lib.hid ((b1_6.out).keep b1l_6 (HS7.out))
  have b1l_7 := Nat.lt_of_lt_of_le b1l_6 HS7.out.size
  clear b1_6 b1l_6
  have b2_7 := Lib.hid ((b2_6.out).keep b2l_6 (HS7.out))
  have b2l_7 := Nat.lt_of_lt_of_le b2l_6 HS7.out.size
  clear b2_6 b2l_6
  have s3_7 := Lib.hid ((s3_6.out.below HS7.out).more HS7.out.size)
  clear s3_6
  have s4_7 := Lib.hid hv
  clear hv
  clear b1c0 b1c1
  obtain ⟨b2c0, b2c1⟩ := b2_7.out
  go_wp2_with fail
  have hx0 := Go.Proofs.Ytjnlbhmddhpmaaa.stp.SB.new W7 y1 (.slice (some ⟨Ns4, 0, none⟩) n1 n1) 60
  have hl0 : W7.heap.size < (W7.alloc (.cells #[.int .i64 y1, .slice (some ⟨Ns4, 0, none⟩) n1 n1] 60)).heap.size := by simp; try omega
  have hb := Go.Proofs.Ytjnlbhmddhpmaaa.el2.new1 W7 (.cells #[.int .i64 y1, .slice (some ⟨Ns4, 0, none⟩) n1 n1] 60)
  generalize (W7.alloc (.cells #[.int .i64 y1, .slice (some ⟨Ns4, 0, none⟩) n1 n1] 60)) = W8 at hx0 hl0 hb ⊢
  have HB8 : Hid (Below w.heap.size w W8) := Lib.hid (HB7.out.trans (hb.mono HB7.out.size))
  have HS8 : Hid (Below W7.heap.size W7 W8) := Lib.hid hb
  clear hb
  have b0_8 := Lib.hid ((b0_7.out).keep b0l_7 (HS8.out))
  have b0l_8 := Nat.lt_of_lt_of_le b0l_7 HS8.out.size
  clear b0_7 b0l_7
  have b1_8 := Lib.hid ((b1_7.out).keep b1l_7 (HS8.out))
  have b1l_8 := Nat.lt_of_lt_of_le b1l_7 HS8.out.size
  clear b1_7 b1l_7
  have b2_8 := Lib.hid ((b2_7.out).keep b2l_7 (HS8.out))
  have b2l_8 := Nat.lt_of_lt_of_le b2l_7 HS8.out.size
  clear b2_7 b2l_7
  have s3_8 := Lib.hid ((s3_7.out.below HS8.out).more HS8.out.size)
  clear s3_7
  have s4_8 := Lib.hid ((s4_7.out.below HS8.out).more HS8.out.size)
  clear s4_7
  have b3_8 := Lib.hid hx0
  have b3l_8 := hl0
  clear hx0 hl0
  refine (Go.Proofs.Ytjnlbhmddhpmaaa.stp.impl_steps y0 y1 (by omega) (by omega) s3_8.out s4_8.out (Nat.le_refl _)).mono ?_
  rintro e W9 ⟨he, hb⟩
  rw [HQ0.out] at he
  subst he
  have HB9 : Hid (Below w.heap.size w W9) := Lib.hid (HB8.out.trans (hb.mono HB8.out.size))
  have HS9 : Hid (Below W8.heap.size W8 W9) := Lib.hid hb
  clear hb
  have b0_9 := Lib.hid ((b0_8.out).keep b0l_8 (HS9.out))
  have b0l_9 := Nat.lt_of_lt_of_le b0l_8 HS9.out.size
  clear b0_8 b0l_8
  have b1_9 := Lib.hid ((b1_8.out).keep b1l_8 (HS9.out))
  have b1l_9 := Nat.lt_of_lt_of_le b1l_8 HS9.out.size
  clear b1_8 b1l_8
  have b2_9 := Lib.hid ((b2_8.out).keep b2l_8 (HS9.out))
  have b2l_9 := Nat.lt_of_lt_of_le b2l_8 HS9.out.size
  clear b2_8 b2l_8
  have b3_9 := Lib.hid ((b3_8.out).keep b3l_8 (HS9.out))
  have b3l_9 := Nat.lt_of_lt_of_le b3l_8 HS9.out.size
  clear b3_8 b3l_8
  have s3_9 := Lib.hid ((s3_8.out.below HS9.out).more HS9.out.size)
  clear s3_8
  have s4_9 := Lib.hid ((s4_8.out.below HS9.out).more HS9.out.size)
  clear s4_8
  clear b2c0 b2c1
  go_wp2_with fail
  have hbk0 : Below W9.heap.size W9 W9.drew := (Below.refl _ _).drew
  have hbw0 := HB9.out.trans (hbk0.mono HB9.out.size)
  obtain ⟨b2c0, b2c1⟩ := b2_9.out
  obtain ⟨b0c0, b0c1⟩ := b0_9.out
  go_region_held3 (fun w' => w'.cell? ⟨W5.heap.size, 0, none⟩ = some (.int .i64 y0) ∧ w'.cell? ⟨W5.heap.size, 1, none⟩ = some (.slice (some ⟨Ns3, 0, none⟩) n0 n0) ∧ w'.cell? ⟨w.heap.size, 0, none⟩ = some (.int .i64 y0) ∧ w'.cell? ⟨w.heap.size, 1, none⟩ = some (.slice A0 n0 c0)) (go_keep) (first | (go_at_call 32; (with_reducible refine (Go.Proofs.Ytjnlbhmddhpmaaa.stp.same_step y0 (by omega) ((s3_9.out.below hbk1).more hbk1.size) s5a1 (Nat.le_refl _)).mono ?_); rintro e W10 ⟨rfl, hb⟩; have hbk2 := hbk1.trans (hb.mono hbk1.size); have hbw2 := HB9.out.trans (hbk2.mono HB9.out.size); have s5a2 := (s5a1.below hb).more hb.size; clear hb ; obtain ⟨b2d20, b2d21⟩ := ((b2_9.out).keep b2l_9 (hbk2)); obtain ⟨b0d20, b0d21⟩ := ((b0_9.out).keep b0l_9 (hbk2))) | (go_at_call 30; (with_reducible refine (Go.Proofs.Ytjnlbhmddhpmaaa.stp.copy_step y0 (by omega) (H0.out.below hbw0) (hbw0).size).mono ?_); rintro e Wa1 ⟨Ns5, rfl, hv, hb⟩; have hbk1 := hbk0.trans (hb.mono hbk0.size); have hbw1 := HB9.out.trans (hbk1.mono HB9.out.size); have s5a1 := hv; clear hb hv; obtain ⟨b2d10, b2d11⟩ := ((b2_9.out).keep b2l_9 (hbk1)); obtain ⟨b0d10, b0d11⟩ := ((b0_9.out).keep b0l_9 (hbk1))))
  have hb := hbk2
  clear hbk0 hbw0 s5a1 b2d10 b2d11 b0d10 b0d11 hbk1 hbw1 s5a2 b2d20 b2d21 b0d20 b0d21 hbk2 hbw2 b2c0 b2c1 b0c0 b0c1
  have HB10 : Hid (Below w.heap.size w W10) := Lib.hid (HB9.out.trans (hb.mono HB9.out.size))
  have HS10 : Hid (Below W9.heap.size W9 W10) := Lib.hid hb
  clear hb
  have b0_10 := Lib.hid ((b0_9.out).keep b0l_9 (HS10.out))
  have b0l_10 := Nat.lt_of_lt_of_le b0l_9 HS10.out.size
  clear b0_9 b0l_9
  have b1_10 := Lib.hid ((b1_9.out).keep b1l_9 (HS10.out))
  have b1l_10 := Nat.lt_of_lt_of_le b1l_9 HS10.out.size
  clear b1_9 b1l_9
  have b2_10 := Lib.hid ((b2_9.out).keep b2l_9 (HS10.out))
  have b2l_10 := Nat.lt_of_lt_of_le b2l_9 HS10.out.size
  clear b2_9 b2l_9
  have b3_10 := Lib.hid ((b3_9.out).keep b3l_9 (HS10.out))
  have b3l_10 := Nat.lt_of_lt_of_le b3l_9 HS10.out.size
  clear b3_9 b3l_9
  have s3_10 := Lib.hid ((s3_9.out.below HS10.out).more HS10.out.size)
  clear s3_9
  have s4_10 := Lib.hid ((s4_9.out.below HS10.out).more HS10.out.size)
  clear s4_9
  go_wp2_with fail
  have hbk0 : Below W10.heap.size W10 W10.drew := (Below.refl _ _).drew
  have hbw0 := HB10.out.trans (hbk0.mono HB10.out.size)
  obtain ⟨b3c0, b3c1⟩ := b3_10.out
  obtain ⟨b1c0, b1c1⟩ := b1_10.out
  go_region_held3 (fun w' => w'.cell? ⟨W7.heap.size, 0, none⟩ = some (.int .i64 y1) ∧ w'.cell? ⟨W7.heap.size, 1, none⟩ = some (.slice (some ⟨Ns4, 0, none⟩) n1 n1) ∧ w'.cell? ⟨w.heap.size + 1, 0, none⟩ = some (.int .i64 y1) ∧ w'.cell? ⟨w.heap.size + 1, 1, none⟩ = some (.slice A1 n1 c1)) (go_keep) (first | (go_at_call 32; (with_reducible refine (Go.Proofs.Ytjnlbhmddhpmaaa.stp.same_step y1 (by omega) ((s4_10.out.below hbk1).more hbk1.size) s6a1 (Nat.le_refl _)).mono ?_); rintro e W11 ⟨rfl, hb⟩; have hbk2 := hbk1.trans (hb.mono hbk1.size); have hbw2 := HB10.out.trans (hbk2.mono HB10.out.size); have s6a2 := (s6a1.below hb).more hb.size; clear hb ; obtain ⟨b3d20, b3d21⟩ := ((b3_10.out).keep b3l_10 (hbk2)); obtain ⟨b1d20, b1d21⟩ := ((b1_10.out).keep b1l_10 (hbk2))) | (go_at_call 30; (with_reducible refine (Go.Proofs.Ytjnlbhmddhpmaaa.stp.copy_step y1 (by omega) (H1.out.below hbw0) (hbw0).size).mono ?_); rintro e Wa1 ⟨Ns6, rfl, hv, hb⟩; have hbk1 := hbk0.trans (hb.mono hbk0.size); have hbw1 := HB10.out.trans (hbk1.mono HB10.out.size); have s6a1 := hv; clear hb hv; obtain ⟨b3d10, b3d11⟩ := ((b3_10.out).keep b3l_10 (hbk1)); obtain ⟨b1d10, b1d11⟩ := ((b1_10.out).keep b1l_10 (hbk1))))
  have hb := hbk2
  clear hbk0 hbw0 s6a1 b3d10 b3d11 b1d10 b1d11 hbk1 hbw1 s6a2 b3d20 b3d21 b1d20 b1d21 hbk2 hbw2 b3c0 b3c1 b1c0 b1c1
  have HB11 : Hid (Below w.heap.size w W11) := Lib.hid (HB10.out.trans (hb.mono HB10.out.size))
  have HS11 : Hid (Below W10.heap.size W10 W11) := Lib.hid hb
  clear hb
  have b0_11 := Lib.hid ((b0_10.out).keep b0l_10 (HS11.out))
  have b0l_11 := Nat.lt_of_lt_of_le b0l_10 HS11.out.size
  clear b0_10 b0l_10
  have b1_11 := Lib.hid ((b1_10.out).keep b1l_10 (HS11.out))
  have b1l_11 := Nat.lt_of_lt_of_le b1l_10 HS11.out.size
  clear b1_10 b1l_10
  have b2_11 := Lib.hid ((b2_10.out).keep b2l_10 (HS11.out))
  have b2l_11 := Nat.lt_of_lt_of_le b2l_10 HS11.out.size
  clear b2_10 b2l_10
  have b3_11 := Lib.hid ((b3_10.out).keep b3l_10 (HS11.out))
  have b3l_11 := Nat.lt_of_lt_of_le b3l_10 HS11.out.size
  clear b3_10 b3l_10
  have s3_11 := Lib.hid ((s3_10.out.below HS11.out).more HS11.out.size)
  clear s3_10
  have s4_11 := Lib.hid ((s4_10.out.below HS11.out).more HS11.out.size)
  clear s4_10
  go_wp2_with fail
  go_ret
  exact ⟨rfl, HB11.out⟩
/-! ### THE ROW's STEP -/
set_option maxRecDepth 100000 in
theorem lifted (os : Os) (started : os.Started) (H : Type) (enc : TypeId × Value → H) :
    ReturnsInHanded {} Try.checked os 8 .any (Rows.fnExactEqualStepsSpec.pre6 enc Try.prog Try.f8 Rows.fnExactEqualStepsRow.domain false) (Rows.fnExactEqualStepsSpec.post enc Try.prog Try.f8 false true false false) := by
  refine returnsInHanded_of_change (C := Try.checked) own started (by kernel_rfl) Try.func8
    (ChangeSpec.witness6 (enc := enc) (C := Try.checked) false ⟨#[], #[.agg #[.int .i64 0, .slice none 0 0], .agg #[.int .i64 0, .slice none 0 0]], []⟩ 8 (by kernel_rfl) (by kernel_rfl) (by kernel_rfl) (by kernel_rfl)) ?_
  intro W base args ds gs before hval0 hW hcnd _
  have hval : ∀ (j : Nat) t v, Try.f8.params[j]? = some t → args[j]? = some v → Value.okWide Try.prog W .any base t v := hval0
  have hW' := hW
  obtain ⟨pp, qq, hA0, hV, rfl, hfz, hnd⟩ := hW
  have hA : DataW.TrodAll enc Try.prog W 0 (fun _ => true) true Try.f8.params.toList args.toList ds pp := hA0
  rw [Try.params8] at hA hval
  obtain ⟨v0, vs0, dd0, ds0, pp0, qq0, hargs, rfl, rfl, h0, r0⟩ := trodAll_cons hA
  obtain ⟨v1, vs1, dd1, ds1, pp1, qq1, rfl, rfl, rfl, h1, r1⟩ := trodAll_cons r0
  obtain ⟨rfl, rfl, rfl⟩ := trodAll_nil r1
  obtain rfl : args = #[v0, v1] := by cases args; simp_all
  obtain ⟨rfl, rfl⟩ := trodVars_none hV
  have k0 := h0
  have lt0 : ∀ x ∈ pp0, x.block < W.heap.size := by obtain ⟨m, hm⟩ := k0; exact DataW.trod_lt m _ _ _ hm
  obtain ⟨y0, A0, n0, c0, L0, rfl, w0, m0⟩ := Go.Proofs.Ytjnlbhmddhpmaaa.stp.open_step (hval 0 57 v0 rfl rfl) h0
  have k1 := h1
  have lt1 : ∀ x ∈ pp1, x.block < W.heap.size := by obtain ⟨m, hm⟩ := k1; exact DataW.trod_lt m _ _ _ hm
  obtain ⟨y1, A1, n1, c1, L1, rfl, w1, m1⟩ := Go.Proofs.Ytjnlbhmddhpmaaa.stp.open_step (hval 1 57 v1 rfl rfl) h1
  clear hA0 hval0
  refine (walk y0 A0 n0 c0 L0 y1 A1 n1 c1 L1 W w0 m0 w1 m1).mono fun e W' ⟨he, bel⟩ => ?_
  subst he
  exact ⟨_, rfl, _, _, _, [], _, [], hW', trodAll_mk1 (shut_bool Try.underlying4 _), (trodAll_cons_mk (Below.trod laidOut (by kernel_rfl) (of_decide_eq_true (by kernel_rfl)) k0 bel lt0) (trodAll_cons_mk (Below.trod laidOut (by kernel_rfl) (of_decide_eq_true (by kernel_rfl)) k1 bel lt1) trodAll_mk0)), rfl, bel.frame _, fun h => by cases h⟩

theorem over : Rows.fnExactEqualStepsRow.holds Try.pinned (OpenSpec.ofChange Rows.fnExactEqualStepsSpec) :=
  OpenClaim.holds_of_wide 8 Try.f8 rfl rfl rfl rfl rfl rfl rfl ⟨rfl, rfl, rfl, rfl, rfl⟩ rfl rfl rfl rfl rfl (by kernel_rfl) Try.func8 (by kernel_rfl)
    (of_decide_eq_true (by kernel_rfl)) (by unfold Func.isWrapper; first | (rw [if_pos (by decide +kernel)]; kernel_rfl) | (rw [if_neg (by decide +kernel)]; exact ⟨rfl, rfl⟩))
    (fun os started H enc _ => lifted os started H enc)

/-- THE STATEMENT -/
theorem proved : Rows.FnExactEqualStepsSaid := over
#print axioms proved
end Go.Proofs.Ytjnlbhmddhpmaaa.fnExactEqualSteps
