/- EqualEngines of the program answers as its model at every pair of engines: the law returns true and writes nothing that was there. No condition. -/
import Derived.Test.YtjnlbhmddhpmaaaEges
import Derived.Test.YtjnlbhmddhpmaaaOpt
import Derived.WalkKit
import Derived.ProofKit
import Derived.OpenShut
import Derived.ShutString
import Derived.ChangeOld
import Derived.Below
import Derived.Carry
import Derived.Lib.Hide
import Derived.StillTailTactics
import Derived.Deep.RegionHeld3
import Derived.Deep.DeepHandedRow
namespace Go.Proofs.Ytjnlbhmddhpmaaa.fnExactEqualEngines
open Go.ChangeShapes Go.WideShapes Go.ChangeAt Go.RowKit
open Go.ChangeMaps (open_string shut_string)
open Go.Proofs.Ytjnlbhmddhpmaaa.el2
open Go.Proofs.Ytjnlbhmddhpmaaa.fr (FR)
open Go.Proofs.Ytjnlbhmddhpmaaa.vers (new2 new3)
open Go.Proofs.Ytjnlbhmddhpmaaa.mkr (Tr)
open Go.Proofs.Ytjnlbhmddhpmaaa.sl (Ver)
set_option linter.unusedVariables false
theorem own : ownKnob Try.prog.godebug = none := by kernel_rfl
theorem laidOut : laidOutB Try.prog = true := by kernel_rfl
set_option maxHeartbeats 3200000 in
theorem walk (q0 : Bool) (A0a : Option Addr) (n0a c0a : Nat) (C0 : List (List Ver)) (A0b : Option Addr) (n0b c0b : Nat) (L0 : List Tr) (A0c : Option Addr) (n0c c0c : Nat) (K0 : List E2) (A0d : Option Addr) (n0d c0d : Nat) (X0 : List E2) (z0 : Int) (q1 : Bool) (A1a : Option Addr) (n1a c1a : Nat) (C1 : List (List Ver)) (A1b : Option Addr) (n1b c1b : Nat) (L1 : List Tr) (A1c : Option Addr) (n1c c1c : Nat) (K1 : List E2) (A1d : Option Addr) (n1d c1d : Nat) (X1 : List E2) (z1 : Int) (w : World) (h0s : Go.Proofs.Ytjnlbhmddhpmaaa.st.R0 w w.heap.size A0a n0a C0) (m0a : n0a ≤ maxLen) (h0t : Go.Proofs.Ytjnlbhmddhpmaaa.ts.Ts maxLen w w.heap.size A0b n0b L0) (m0b : n0b ≤ maxLen) (h0k : Go.Proofs.Ytjnlbhmddhpmaaa.el2.Vs w w.heap.size A0c n0c K0) (m0c : n0c ≤ maxLen) (h0x : Go.Proofs.Ytjnlbhmddhpmaaa.el2.Vs w w.heap.size A0d n0d X0) (m0d : n0d ≤ maxLen) (b0 : (Lit.int .i64 z0).wf = true) (h1s : Go.Proofs.Ytjnlbhmddhpmaaa.st.R0 w w.heap.size A1a n1a C1) (m1a : n1a ≤ maxLen) (h1t : Go.Proofs.Ytjnlbhmddhpmaaa.ts.Ts maxLen w w.heap.size A1b n1b L1) (m1b : n1b ≤ maxLen) (h1k : Go.Proofs.Ytjnlbhmddhpmaaa.el2.Vs w w.heap.size A1c n1c K1) (m1c : n1c ≤ maxLen) (h1x : Go.Proofs.Ytjnlbhmddhpmaaa.el2.Vs w w.heap.size A1d n1d X1) (m1d : n1d ≤ maxLen) (b1 : (Lit.int .i64 z1).wf = true) :
    Calls Try.prog 6 #[.agg #[.bool q0, .slice A0a n0a c0a, .slice A0b n0b c0b, .slice A0c n0c c0c, .slice A0d n0d c0d, .int .i64 z0], .agg #[.bool q1, .slice A1a n1a c1a, .slice A1b n1b c1b, .slice A1c n1c c1c, .slice A1d n1d c1d, .int .i64 z1]] w fun e w' => e = .returned (.bool true) ∧ Below w.heap.size w w' := by
  have HTx0 := Lib.hid (Go.Proofs.Ytjnlbhmddhpmaaa.eg.ts_wide (M' := 9223372036854775807) h0t (by unfold maxLen; omega))
  unfold maxLen at m0a m0b m0c m0d
  have HCs0 := Lib.hid h0s
  have HLk0 := Lib.hid h0k
  have HWt0 := Lib.hid h0x
  have l0a := h0s.1
  have l0b := h0t.1
  have l0c := h0k.1
  have l0d := h0x.1
  clear h0s h0t h0k h0x b0
  have HTx1 := Lib.hid (Go.Proofs.Ytjnlbhmddhpmaaa.eg.ts_wide (M' := 9223372036854775807) h1t (by unfold maxLen; omega))
  unfold maxLen at m1a m1b m1c m1d
  have HCs1 := Lib.hid h1s
  have HLk1 := Lib.hid h1k
  have HWt1 := Lib.hid h1x
  have l1a := h1s.1
  have l1b := h1t.1
  have l1c := h1k.1
  have l1d := h1x.1
  clear h1s h1t h1k h1x b1
  by_cases hbig0 : (1048576 : Int) < Go.Proofs.Ytjnlbhmddhpmaaa.eg.totE C0 L0 n0c n0d
  · have hz := Go.Proofs.Ytjnlbhmddhpmaaa.eg.szE_no (left := (1048576 : Int)) (C := C0) (L := L0) (n3 := n0c) (n4 := n0d) (by omega)
    have HZ0 := Lib.hid hz
    clear hz
    go_enter Try.func6, Try.ntmps6
    go_wp2_with fail
    have hx0 := Go.Proofs.Ytjnlbhmddhpmaaa.eg.EB.new w q0 (.slice A0a n0a c0a) (.slice A0b n0b c0b) (.slice A0c n0c c0c) (.slice A0d n0d c0d) z0 41
    replace hx0 := (hx0).keep (by simp; try omega) (new1 (w.alloc (.cells #[.bool q0, .slice A0a n0a c0a, .slice A0b n0b c0b, .slice A0c n0c c0c, .slice A0d n0d c0d, .int .i64 z0] 41)) (.cells #[.bool q1, .slice A1a n1a c1a, .slice A1b n1b c1b, .slice A1c n1c c1c, .slice A1d n1d c1d, .int .i64 z1] 41))
    have hl0 : w.heap.size < ((w.alloc (.cells #[.bool q0, .slice A0a n0a c0a, .slice A0b n0b c0b, .slice A0c n0c c0c, .slice A0d n0d c0d, .int .i64 z0] 41)).alloc (.cells #[.bool q1, .slice A1a n1a c1a, .slice A1b n1b c1b, .slice A1c n1c c1c, .slice A1d n1d c1d, .int .i64 z1] 41)).heap.size := by simp; try omega
    have hx1 := Go.Proofs.Ytjnlbhmddhpmaaa.eg.EB.new (w.alloc (.cells #[.bool q0, .slice A0a n0a c0a, .slice A0b n0b c0b, .slice A0c n0c c0c, .slice A0d n0d c0d, .int .i64 z0] 41)) q1 (.slice A1a n1a c1a) (.slice A1b n1b c1b) (.slice A1c n1c c1c) (.slice A1d n1d c1d) z1 41
    rw [show (w.alloc (.cells #[.bool q0, .slice A0a n0a c0a, .slice A0b n0b c0b, .slice A0c n0c c0c, .slice A0d n0d c0d, .int .i64 z0] 41)).heap.size = w.heap.size + 1 by simp] at hx1
    have hl1 : w.heap.size + 1 < ((w.alloc (.cells #[.bool q0, .slice A0a n0a c0a, .slice A0b n0b c0b, .slice A0c n0c c0c, .slice A0d n0d c0d, .int .i64 z0] 41)).alloc (.cells #[.bool q1, .slice A1a n1a c1a, .slice A1b n1b c1b, .slice A1c n1c c1c, .slice A1d n1d c1d, .int .i64 z1] 41)).heap.size := by simp; try omega
    have hb := Go.Proofs.Ytjnlbhmddhpmaaa.vers.new2 w (.cells #[.bool q0, .slice A0a n0a c0a, .slice A0b n0b c0b, .slice A0c n0c c0c, .slice A0d n0d c0d, .int .i64 z0] 41) (.cells #[.bool q1, .slice A1a n1a c1a, .slice A1b n1b c1b, .slice A1c n1c c1c, .slice A1d n1d c1d, .int .i64 z1] 41)
    generalize ((w.alloc (.cells #[.bool q0, .slice A0a n0a c0a, .slice A0b n0b c0b, .slice A0c n0c c0c, .slice A0d n0d c0d, .int .i64 z0] 41)).alloc (.cells #[.bool q1, .slice A1a n1a c1a, .slice A1b n1b c1b, .slice A1c n1c c1c, .slice A1d n1d c1d, .int .i64 z1] 41)) = W1 at hx0 hl0 hx1 hl1 hb ⊢
    have HB1 : Hid (Below w.heap.size w W1) := Lib.hid hb
    have HS1 : Hid (Below w.heap.size w W1) := Lib.hid hb
    clear hb
    have b0_1 := Lib.hid hx0
    have b0l_1 := hl0
    clear hx0 hl0
    have b1_1 := Lib.hid hx1
    have b1l_1 := hl1
    clear hx1 hl1
    refine (Go.Proofs.Ytjnlbhmddhpmaaa.eg.count_eg q0 z0 (by omega) (by omega) (by omega) (by omega) (HCs0.out.below HB1.out) (HTx0.out.below HB1.out) HB1.out.size (by omega) (by omega)).mono ?_
    rintro e W2 ⟨rfl, hb⟩
    rw [HZ0.out]
    have HB2 : Hid (Below w.heap.size w W2) := Lib.hid (HB1.out.trans (hb.mono HB1.out.size))
    have HS2 : Hid (Below W1.heap.size W1 W2) := Lib.hid hb
    clear hb
    have b0_2 := Lib.hid ((b0_1.out).keep b0l_1 (HS2.out))
    have b0l_2 := Nat.lt_of_lt_of_le b0l_1 HS2.out.size
    clear b0_1 b0l_1
    have b1_2 := Lib.hid ((b1_1.out).keep b1l_1 (HS2.out))
    have b1l_2 := Nat.lt_of_lt_of_le b1l_1 HS2.out.size
    clear b1_1 b1l_1
    go_wp2_with fail
    go_ret
    exact ⟨rfl, HB2.out⟩
  have hz := Go.Proofs.Ytjnlbhmddhpmaaa.eg.szE_yes (left := (1048576 : Int)) (C := C0) (L := L0) (n3 := n0c) (n4 := n0d) (by omega)
  have HZ0 := Lib.hid hz
  clear hz
  have htot0 := Go.Proofs.Ytjnlbhmddhpmaaa.eg.totE_eq C0 L0 n0c n0d
  have HR0 : Hid (Go.Proofs.Ytjnlbhmddhpmaaa.ego.ER w w.heap.size A0a n0a C0 A0b n0b L0 A0c n0c K0 A0d n0d X0) := Lib.hid ⟨HCs0.out.tight (by omega), Go.Proofs.Ytjnlbhmddhpmaaa.ts.Ts.tight HTx0.out (by omega), HLk0.out, HWt0.out⟩
  obtain ⟨lf0, hlf⟩ : ∃ lf : Int, lf = (1048576 : Int) - (Go.Proofs.Ytjnlbhmddhpmaaa.eg.totE C0 L0 n0c n0d : Int) := ⟨_, rfl⟩
  have hz := HZ0.out
  clear HZ0
  rw [← hlf] at hz
  have HZ0 := Lib.hid hz
  have tz0 : decide (lf0 < 0) = false := decide_eq_false (by omega)
  have lf00 : 0 ≤ lf0 := by omega
  have lf10 : lf0 ≤ 1048576 := by omega
  clear hlf hz
  by_cases hbig1 : lf0 < Go.Proofs.Ytjnlbhmddhpmaaa.eg.totE C1 L1 n1c n1d
  · have hz := Go.Proofs.Ytjnlbhmddhpmaaa.eg.szE_no (left := lf0) (C := C1) (L := L1) (n3 := n1c) (n4 := n1d) (by omega)
    have HZ1 := Lib.hid hz
    clear hz
    go_enter Try.func6, Try.ntmps6
    go_wp2_with fail
    have hx0 := Go.Proofs.Ytjnlbhmddhpmaaa.eg.EB.new w q0 (.slice A0a n0a c0a) (.slice A0b n0b c0b) (.slice A0c n0c c0c) (.slice A0d n0d c0d) z0 41
    replace hx0 := (hx0).keep (by simp; try omega) (new1 (w.alloc (.cells #[.bool q0, .slice A0a n0a c0a, .slice A0b n0b c0b, .slice A0c n0c c0c, .slice A0d n0d c0d, .int .i64 z0] 41)) (.cells #[.bool q1, .slice A1a n1a c1a, .slice A1b n1b c1b, .slice A1c n1c c1c, .slice A1d n1d c1d, .int .i64 z1] 41))
    have hl0 : w.heap.size < ((w.alloc (.cells #[.bool q0, .slice A0a n0a c0a, .slice A0b n0b c0b, .slice A0c n0c c0c, .slice A0d n0d c0d, .int .i64 z0] 41)).alloc (.cells #[.bool q1, .slice A1a n1a c1a, .slice A1b n1b c1b, .slice A1c n1c c1c, .slice A1d n1d c1d, .int .i64 z1] 41)).heap.size := by simp; try omega
    have hx1 := Go.Proofs.Ytjnlbhmddhpmaaa.eg.EB.new (w.alloc (.cells #[.bool q0, .slice A0a n0a c0a, .slice A0b n0b c0b, .slice A0c n0c c0c, .slice A0d n0d c0d, .int .i64 z0] 41)) q1 (.slice A1a n1a c1a) (.slice A1b n1b c1b) (.slice A1c n1c c1c) (.slice A1d n1d c1d) z1 41
    rw [show (w.alloc (.cells #[.bool q0, .slice A0a n0a c0a, .slice A0b n0b c0b, .slice A0c n0c c0c, .slice A0d n0d c0d, .int .i64 z0] 41)).heap.size = w.heap.size + 1 by simp] at hx1
    have hl1 : w.heap.size + 1 < ((w.alloc (.cells #[.bool q0, .slice A0a n0a c0a, .slice A0b n0b c0b, .slice A0c n0c c0c, .slice A0d n0d c0d, .int .i64 z0] 41)).alloc (.cells #[.bool q1, .slice A1a n1a c1a, .slice A1b n1b c1b, .slice A1c n1c c1c, .slice A1d n1d c1d, .int .i64 z1] 41)).heap.size := by simp; try omega
    have hb := Go.Proofs.Ytjnlbhmddhpmaaa.vers.new2 w (.cells #[.bool q0, .slice A0a n0a c0a, .slice A0b n0b c0b, .slice A0c n0c c0c, .slice A0d n0d c0d, .int .i64 z0] 41) (.cells #[.bool q1, .slice A1a n1a c1a, .slice A1b n1b c1b, .slice A1c n1c c1c, .slice A1d n1d c1d, .int .i64 z1] 41)
    generalize ((w.alloc (.cells #[.bool q0, .slice A0a n0a c0a, .slice A0b n0b c0b, .slice A0c n0c c0c, .slice A0d n0d c0d, .int .i64 z0] 41)).alloc (.cells #[.bool q1, .slice A1a n1a c1a, .slice A1b n1b c1b, .slice A1c n1c c1c, .slice A1d n1d c1d, .int .i64 z1] 41)) = W1 at hx0 hl0 hx1 hl1 hb ⊢
    have HB1 : Hid (Below w.heap.size w W1) := Lib.hid hb
    have HS1 : Hid (Below w.heap.size w W1) := Lib.hid hb
    clear hb
    have b0_1 := Lib.hid hx0
    have b0l_1 := hl0
    clear hx0 hl0
    have b1_1 := Lib.hid hx1
    have b1l_1 := hl1
    clear hx1 hl1
    refine (Go.Proofs.Ytjnlbhmddhpmaaa.eg.count_eg q0 z0 (by omega) (by omega) (by omega) (by omega) (HCs0.out.below HB1.out) (HTx0.out.below HB1.out) HB1.out.size (by omega) (by omega)).mono ?_
    rintro e W2 ⟨rfl, hb⟩
    rw [HZ0.out]
    have HB2 : Hid (Below w.heap.size w W2) := Lib.hid (HB1.out.trans (hb.mono HB1.out.size))
    have HS2 : Hid (Below W1.heap.size W1 W2) := Lib.hid hb
    clear hb
    have b0_2 := Lib.hid ((b0_1.out).keep b0l_1 (HS2.out))
    have b0l_2 := Nat.lt_of_lt_of_le b0l_1 HS2.out.size
    clear b0_1 b0l_1
    have b1_2 := Lib.hid ((b1_1.out).keep b1l_1 (HS2.out))
    have b1l_2 := Nat.lt_of_lt_of_le b1l_1 HS2.out.size
    clear b1_1 b1l_1
    obtain ⟨b1c0, b1c1, b1c2, b1c3, b1c4, b1c5⟩ := b1_2.out
    go_wp2_with fail
    refine (Go.Proofs.Ytjnlbhmddhpmaaa.eg.count_eg q1 z1 (by omega) (by omega) (by omega) (by omega) (HCs1.out.below HB2.out) (HTx1.out.below HB2.out) HB2.out.size (by omega) (by omega)).mono ?_
    rintro e W3 ⟨rfl, hb⟩
    rw [HZ1.out]
    have HB3 : Hid (Below w.heap.size w W3) := Lib.hid (HB2.out.trans (hb.mono HB2.out.size))
    have HS3 : Hid (Below W2.heap.size W2 W3) := Lib.hid hb
    clear hb
    have b0_3 := Lib.hid ((b0_2.out).keep b0l_2 (HS3.out))
    have b0l_3 := Nat.lt_of_lt_of_le b0l_2 HS3.out.size
    clear b0_2 b0l_2
    have b1_3 := Lib.hid ((b1_2.out).keep b1l_2 (HS3.out))
    have b1l_3 := Nat.lt_of_lt_of_le b1l_2 HS3.out.size
    clear b1_2 b1l_2
    clear b1c0 b1c1 b1c2 b1c3 b1c4 b1c5
    go_wp2_with fail
    go_ret
    exact ⟨rfl, HB3.out⟩
  have hz := Go.Proofs.Ytjnlbhmddhpmaaa.eg.szE_yes (left := lf0) (C := C1) (L := L1) (n3 := n1c) (n4 := n1d) (by omega)
  have HZ1 := Lib.hid hz
  clear hz
  have htot1 := Go.Proofs.Ytjnlbhmddhpmaaa.eg.totE_eq C1 L1 n1c n1d
  have HR1 : Hid (Go.Proofs.Ytjnlbhmddhpmaaa.ego.ER w w.heap.size A1a n1a C1 A1b n1b L1 A1c n1c K1 A1d n1d X1) := Lib.hid ⟨HCs1.out.tight (by omega), Go.Proofs.Ytjnlbhmddhpmaaa.ts.Ts.tight HTx1.out (by omega), HLk1.out, HWt1.out⟩
  obtain ⟨lf1, hlf⟩ : ∃ lf : Int, lf = lf0 - (Go.Proofs.Ytjnlbhmddhpmaaa.eg.totE C1 L1 n1c n1d : Int) := ⟨_, rfl⟩
  have hz := HZ1.out
  clear HZ1
  rw [← hlf] at hz
  have HZ1 := Lib.hid hz
  have tz1 : decide (lf1 < 0) = false := decide_eq_false (by omega)
  have lf01 : 0 ≤ lf1 := by omega
  have lf11 : lf1 ≤ 1048576 := by omega
  clear hlf hz
  obtain ⟨q0z, hq0⟩ : ∃ q, Go.Proofs.Ytjnlbhmddhpmaaa.ege.eqE q0 C0 L0 K0 X0 z0 q1 C1 L1 K1 X1 z1 = q := ⟨_, rfl⟩
  have HQ0 := Lib.hid hq0
  clear hq0
  go_enter Try.func6, Try.ntmps6
  go_wp2_with fail
  have hx0 := Go.Proofs.Ytjnlbhmddhpmaaa.eg.EB.new w q0 (.slice A0a n0a c0a) (.slice A0b n0b c0b) (.slice A0c n0c c0c) (.slice A0d n0d c0d) z0 41
  replace hx0 := (hx0).keep (by simp; try omega) (new1 (w.alloc (.cells #[.bool q0, .slice A0a n0a c0a, .slice A0b n0b c0b, .slice A0c n0c c0c, .slice A0d n0d c0d, .int .i64 z0] 41)) (.cells #[.bool q1, .slice A1a n1a c1a, .slice A1b n1b c1b, .slice A1c n1c c1c, .slice A1d n1d c1d, .int .i64 z1] 41))
  have hl0 : w.heap.size < ((w.alloc (.cells #[.bool q0, .slice A0a n0a c0a, .slice A0b n0b c0b, .slice A0c n0c c0c, .slice A0d n0d c0d, .int .i64 z0] 41)).alloc (.cells #[.bool q1, .slice A1a n1a c1a, .slice A1b n1b c1b, .slice A1c n1c c1c, .slice A1d n1d c1d, .int .i64 z1] 41)).heap.size := by simp; try omega
  have hx1 := Go.Proofs.Ytjnlbhmddhpmaaa.eg.EB.new (w.alloc (.cells #[.bool q0, .slice A0a n0a c0a, .slice A0b n0b c0b, .slice A0c n0c c0c, .slice A0d n0d c0d, .int .i64 z0] 41)) q1 (.slice A1a n1a c1a) (.slice A1b n1b c1b) (.slice A1c n1c c1c) (.slice A1d n1d c1d) z1 41
  rw [show (w.alloc (.cells #[.bool q0, .slice A0a n0a c0a, .slice A0b n0b c0b, .slice A0c n0c c0c, .slice A0d n0d c0d, .int .i64 z0] 41)).heap.size = w.heap.size + 1 by simp] at hx1
  have hl1 : w.heap.size + 1 < ((w.alloc (.cells #[.bool q0, .slice A0a n0a c0a, .slice A0b n0b c0b, .slice A0c n0c c0c, .slice A0d n0d c0d, .int .i64 z0] 41)).alloc (.cells #[.bool q1, .slice A1a n1a c1a, .slice A1b n1b c1b, .slice A1c n1c c1c, .slice A1d n1d c1d, .int .i64 z1] 41)).heap.size := by simp; try omega
  have hb := Go.Proofs.Ytjnlbhmddhpmaaa.vers.new2 w (.cells #[.bool q0, .slice A0a n0a c0a, .slice A0b n0b c0b, .slice A0c n0c c0c, .slice A0d n0d c0d, .int .i64 z0] 41) (.cells #[.bool q1, .slice A1a n1a c1a, .slice A1b n1b c1b, .slice A1c n1c c1c, .slice A1d n1d c1d, .int .i64 z1] 41)
  generalize ((w.alloc (.cells #[.bool q0, .slice A0a n0a c0a, .slice A0b n0b c0b, .slice A0c n0c c0c, .slice A0d n0d c0d, .int .i64 z0] 41)).alloc (.cells #[.bool q1, .slice A1a n1a c1a, .slice A1b n1b c1b, .slice A1c n1c c1c, .slice A1d n1d c1d, .int .i64 z1] 41)) = W1 at hx0 hl0 hx1 hl1 hb ⊢
  have HB1 : Hid (Below w.heap.size w W1) := Lib.hid hb
  have HS1 : Hid (Below w.heap.size w W1) := Lib.hid hb
  clear hb
  have b0_1 := Lib.hid hx0
  have b0l_1 := hl0
  clear hx0 hl0
  have b1_1 := Lib.hid hx1
  have b1l_1 := hl1
  clear hx1 hl1
  refine (Go.Proofs.Ytjnlbhmddhpmaaa.eg.count_eg q0 z0 (by omega) (by omega) (by omega) (by omega) (HCs0.out.below HB1.out) (HTx0.out.below HB1.out) HB1.out.size (by omega) (by omega)).mono ?_
  rintro e W2 ⟨rfl, hb⟩
  rw [HZ0.out]
  have HB2 : Hid (Below w.heap.size w W2) := Lib.hid (HB1.out.trans (hb.mono HB1.out.size))
  have HS2 : Hid (Below W1.heap.size W1 W2) := Lib.hid hb
  clear hb
  have b0_2 := Lib.hid ((b0_1.out).keep b0l_1 (HS2.out))
  have b0l_2 := Nat.lt_of_lt_of_le b0l_1 HS2.out.size
  clear b0_1 b0l_1
  have b1_2 := Lib.hid ((b1_1.out).keep b1l_1 (HS2.out))
  have b1l_2 := Nat.lt_of_lt_of_le b1l_1 HS2.out.size
  clear b1_1 b1l_1
  obtain ⟨b1c0, b1c1, b1c2, b1c3, b1c4, b1c5⟩ := b1_2.out
  go_wp2_with fail
  refine (Go.Proofs.Ytjnlbhmddhpmaaa.eg.count_eg q1 z1 (by omega) (by omega) (by omega) (by omega) (HCs1.out.below HB2.out) (HTx1.out.below HB2.out) HB2.out.size (by omega) (by omega)).mono ?_
  rintro e W3 ⟨rfl, hb⟩
  rw [HZ1.out]
  have HB3 : Hid (Below w.heap.size w W3) := Lib.hid (HB2.out.trans (hb.mono HB2.out.size))
  have HS3 : Hid (Below W2.heap.size W2 W3) := Lib.hid hb
  clear hb
  have b0_3 := Lib.hid ((b0_2.out).keep b0l_2 (HS3.out))
  have b0l_3 := Nat.lt_of_lt_of_le b0l_2 HS3.out.size
  clear b0_2 b0l_2
  have b1_3 := Lib.hid ((b1_2.out).keep b1l_2 (HS3.out))
  have b1l_3 := Nat.lt_of_lt_of_le b1l_2 HS3.out.size
  clear b1_2 b1l_2
  clear b1c0 b1c1 b1c2 b1c3 b1c4 b1c5
  go_wp2_with fail
  have hbk0 : Below W3.heap.size W3 W3.drew := (Below.refl _ _).drew
  have hbw0 := HB3.out.trans (hbk0.mono HB3.out.size)
  obtain ⟨b0c0, b0c1, b0c2, b0c3, b0c4, b0c5⟩ := b0_3.out
  obtain ⟨b1c0, b1c1, b1c2, b1c3, b1c4, b1c5⟩ := b1_3.out
  go_region_held3 (fun w' => w'.cell? ⟨w.heap.size, 0, none⟩ = some (.bool q0) ∧ w'.cell? ⟨w.heap.size, 1, none⟩ = some (.slice A0a n0a c0a) ∧ w'.cell? ⟨w.heap.size, 2, none⟩ = some (.slice A0b n0b c0b) ∧ w'.cell? ⟨w.heap.size, 3, none⟩ = some (.slice A0c n0c c0c) ∧ w'.cell? ⟨w.heap.size, 4, none⟩ = some (.slice A0d n0d c0d) ∧ w'.cell? ⟨w.heap.size, 5, none⟩ = some (.int .i64 z0) ∧ w'.cell? ⟨w.heap.size + 1, 0, none⟩ = some (.bool q1) ∧ w'.cell? ⟨w.heap.size + 1, 1, none⟩ = some (.slice A1a n1a c1a) ∧ w'.cell? ⟨w.heap.size + 1, 2, none⟩ = some (.slice A1b n1b c1b) ∧ w'.cell? ⟨w.heap.size + 1, 3, none⟩ = some (.slice A1c n1c c1c) ∧ w'.cell? ⟨w.heap.size + 1, 4, none⟩ = some (.slice A1d n1d c1d) ∧ w'.cell? ⟨w.heap.size + 1, 5, none⟩ = some (.int .i64 z1)) (go_keep) (first | (go_at_call 23; (with_reducible refine (Go.Proofs.Ytjnlbhmddhpmaaa.ege.spec_eqe q0 q1 z0 z1 (by omega) (by omega) (by omega) (by omega) (by omega) (by omega) (by omega) (by omega) s1a2 s2a2 (Nat.le_refl _)).mono ?_); rintro e W4 ⟨he, hb⟩; rw [HQ0.out] at he; subst he; have hbk3 := hbk2.trans (hb.mono hbk2.size); have hbw3 := HB3.out.trans (hbk3.mono HB3.out.size); have s1a3 := (s1a2.below hb).more hb.size; have s2a3 := (s2a2.below hb).more hb.size; clear hb ; obtain ⟨b0d30, b0d31, b0d32, b0d33, b0d34, b0d35⟩ := ((b0_3.out).keep b0l_3 (hbk3)); obtain ⟨b1d30, b1d31, b1d32, b1d33, b1d34, b1d35⟩ := ((b1_3.out).keep b1l_3 (hbk3))) | (go_at_call 16; (with_reducible refine (Go.Proofs.Ytjnlbhmddhpmaaa.eg.copied_eg q1 z1 (by omega) (by omega) (by omega) (by omega) (by omega) (by omega) (HR1.out.below hbw1) (hbw1).size).mono ?_); rintro e Wa2 ⟨Ns2a, Ns2b, Ns2c, Ns2d, rfl, hv, hb⟩; have hbk2 := hbk1.trans (hb.mono hbk1.size); have hbw2 := HB3.out.trans (hbk2.mono HB3.out.size); have s1a2 := (s1a1.below hb).more hb.size; have s2a2 := hv; clear hb hv; obtain ⟨b0d20, b0d21, b0d22, b0d23, b0d24, b0d25⟩ := ((b0_3.out).keep b0l_3 (hbk2)); obtain ⟨b1d20, b1d21, b1d22, b1d23, b1d24, b1d25⟩ := ((b1_3.out).keep b1l_3 (hbk2))) | (go_at_call 16; (with_reducible refine (Go.Proofs.Ytjnlbhmddhpmaaa.eg.copied_eg q0 z0 (by omega) (by omega) (by omega) (by omega) (by omega) (by omega) (HR0.out.below hbw0) (hbw0).size).mono ?_); rintro e Wa1 ⟨Ns1a, Ns1b, Ns1c, Ns1d, rfl, hv, hb⟩; have hbk1 := hbk0.trans (hb.mono hbk0.size); have hbw1 := HB3.out.trans (hbk1.mono HB3.out.size); have s1a1 := hv; clear hb hv; obtain ⟨b0d10, b0d11, b0d12, b0d13, b0d14, b0d15⟩ := ((b0_3.out).keep b0l_3 (hbk1)); obtain ⟨b1d10, b1d11, b1d12, b1d13, b1d14, b1d15⟩ := ((b1_3.out).keep b1l_3 (hbk1))))
  have hb := hbk3
  clear hbk0 hbw0 s1a1 b0d10 b0d11 b0d12 b0d13 b0d14 b0d15 b1d10 b1d11 b1d12 b1d13 b1d14 b1d15 hbk1 hbw1 s1a2 s2a2 b0d20 b0d21 b0d22 b0d23 b0d24 b0d25 b1d20 b1d21 b1d22 b1d23 b1d24 b1d25 hbk2 hbw2 s1a3 s2a3 b0d30 b0d31 b0d32 b0d33 b0d34 b0d35 b1d30 b1d31 b1d32 b1d33 b1d34 b1d35 hbk3 hbw3 b0c0 b0c1 b0c2 b0c3 b0c4 b0c5 b1c0 b1c1 b1c2 b1c3 b1c4 b1c5
  have HB4 : Hid (Below w.heap.size w W4) := Lib.hid (HB3.out.trans (hb.mono HB3.out.size))
  have HS4 : Hid (Below W3.heap.size W3 W4) := Lib.hid hb
  clear hb
  have b0_4 := Lib.hid ((b0_3.out).keep b0l_3 (HS4.out))
  have b0l_4 := Nat.lt_of_lt_of_le b0l_3 HS4.out.size
  clear b0_3 b0l_3
  have b1_4 := Lib.hid ((b1_3.out).keep b1l_3 (HS4.out))
  have b1l_4 := Nat.lt_of_lt_of_le b1l_3 HS4.out.size
  clear b1_3 b1l_3
  obtain ⟨b0c0, b0c1, b0c2, b0c3, b0c4, b0c5⟩ := b0_4.out
  go_wp2_with fail
  refine (Go.Proofs.Ytjnlbhmddhpmaaa.eg.copied_eg q0 z0 (by omega) (by omega) (by omega) (by omega) (by omega) (by omega) (HR0.out.below HB4.out) (HB4.out).size).mono ?_
  rintro e W5 ⟨Ns3a, Ns3b, Ns3c, Ns3d, rfl, hv, hb⟩
  have HB5 : Hid (Below w.heap.size w W5) := Lib.hid (HB4.out.trans (hb.mono HB4.out.size))
  have HS5 : Hid (Below W4.heap.size W4 W5) := Lib.hid hb
  clear hb
  have b0_5 := Lib.hid ((b0_4.out).keep b0l_4 (HS5.out))
  have b0l_5 := Nat.lt_of_lt_of_le b0l_4 HS5.out.size
  clear b0_4 b0l_4
  have b1_5 := Lib.hid ((b1_4.out).keep b1l_4 (HS5.out))
  have b1l_5 := Nat.lt_of_lt_of_le b1l_4 HS5.out.size
  clear b1_4 b1l_4
  have s3_5 := Lib.hid hv
  clear hv
  clear b0c0 b0c1 b0c2 b0c3 b0c4 b0c5
  obtain ⟨b1c0, b1c1, b1c2, b1c3, b1c4, b1c5⟩ := b1_5.out
  go_wp2_with fail
  have hx0 := Go.Proofs.Ytjnlbhmddhpmaaa.eg.EB.new W5 q0 (.slice (some ⟨Ns3a, 0, none⟩) n0a n0a) (.slice (some ⟨Ns3b, 0, none⟩) n0b n0b) (.slice (some ⟨Ns3c, 0, none⟩) n0c n0c) (.slice (some ⟨Ns3d, 0, none⟩) n0d n0d) z0 29
  have hl0 : W5.heap.size < (W5.alloc (.cells #[.bool q0, .slice (some ⟨Ns3a, 0, none⟩) n0a n0a, .slice (some ⟨Ns3b, 0, none⟩) n0b n0b, .slice (some ⟨Ns3c, 0, none⟩) n0c n0c, .slice (some ⟨Ns3d, 0, none⟩) n0d n0d, .int .i64 z0] 29)).heap.size := by simp; try omega
  have hb := Go.Proofs.Ytjnlbhmddhpmaaa.el2.new1 W5 (.cells #[.bool q0, .slice (some ⟨Ns3a, 0, none⟩) n0a n0a, .slice (some ⟨Ns3b, 0, none⟩) n0b n0b, .slice (some ⟨Ns3c, 0, none⟩) n0c n0c, .slice (some ⟨Ns3d, 0, none⟩) n0d n0d, .int .i64 z0] 29)
  generalize (W5.alloc (.cells #[.bool q0, .slice (some ⟨Ns3a, 0, none⟩) n0a n0a, .slice (some ⟨Ns3b, 0, none⟩) n0b n0b, .slice (some ⟨Ns3c, 0, none⟩) n0c n0c, .slice (some ⟨Ns3d, 0, none⟩) n0d n0d, .int .i64 z0] 29)) = W6 at hx0 hl0 hb ⊢
  have HB6 : Hid (Below w.heap.size w W6) := Lib.hid (HB5.out.trans (hb.mono HB5.out.size))
  have HS6 : Hid (Below W5.heap.size W5 W6) := Lib.hid hb
  clear hb
  have b0_6 := Lib.hid ((b0_5.out).keep b0l_5 (HS6.out))
  have b0l_6 := Nat.lt_of_lt_of_le b0l_5 HS6.out.size
  clear b0_5 b0l_5
  have b1_6 := Lib.hid ((b1_5.out).keep b1l_5 (HS6.out))
  have b1l_6 := Nat.lt_of_lt_of_le b1l_5 HS6.out.size
  clear b1_5 b1l_5
  have s3_6 := Lib.hid ((s3_5.out.below HS6.out).more HS6.out.size)
  clear s3_5
  have b2_6 := Lib.hid hx0
  have b2l_6 := hl0
  clear hx0 hl0
  refine (Go.Proofs.Ytjnlbhmddhpmaaa.eg.copied_eg q1 z1 (by omega) (by omega) (by omega) (by omega) (by omega) (by omega) (HR1.out.below HB6.out) (HB6.out).size).mono ?_
  rintro e W7 ⟨Ns4a, Ns4b, Ns4c, Ns4d, rfl, hv, hb⟩
  have HB7 : Hid (Below w.heap.size w W7) := Lib.hid (HB6.out.trans (hb.mono HB6.out.size))
  have HS7 : Hid (Below W6.heap.size W6 W7) := Lib.hid hb
  clear hb
  have b0_7 := Lib.hid ((b0_6.out).keep b0l_6 (HS7.out))
  have b0l_7 := Nat.lt_of_lt_of_le b0l_6 HS7.out.size
  clear b0_6 b0l_6
  have b1_7 := Lib.hid ((b1_6.out).keep b1l_6 (HS7.out))
  have b1l_7 := Nat.lt_of_lt_of_le b1l_6 HS7.out.size
  clear b1_6 b1l_6
  have b2_7 := Lib.hid ((b2_6.out).keep b2l_6 (HS7.out))
  have b2l_7 := Nat.lt_of_lt_of_le b2l_6 HS7.out.size
  clear b2_6 b2l_6
  have s3_7 := Lib.hid ((s3_6.out.below HS7.out).more HS7.out.size)
  clear s3_6
  have s4_7 := Lib.hid hv
  clear hv
  clear b1c0 b1c1 b1c2 b1c3 b1c4 b1c5
  obtain ⟨b2c0, b2c1, b2c2, b2c3, b2c4, b2c5⟩ := b2_7.out
  go_wp2_with fail
  have hx0 := Go.Proofs.Ytjnlbhmddhpmaaa.eg.EB.new W7 q1 (.slice (some ⟨Ns4a, 0, none⟩) n1a n1a) (.slice (some ⟨Ns4b, 0, none⟩) n1b n1b) (.slice (some ⟨Ns4c, 0, none⟩) n1c n1c) (.slice (some ⟨Ns4d, 0, none⟩) n1d n1d) z1 29
  have hl0 : W7.heap.size < (W7.alloc (.cells #[.bool q1, .slice (some ⟨Ns4a, 0, none⟩) n1a n1a, .slice (some ⟨Ns4b, 0, none⟩) n1b n1b, .slice (some ⟨Ns4c, 0, none⟩) n1c n1c, .slice (some ⟨Ns4d, 0, none⟩) n1d n1d, .int .i64 z1] 29)).heap.size := by simp; try omega
  have hb := Go.Proofs.Ytjnlbhmddhpmaaa.el2.new1 W7 (.cells #[.bool q1, .slice (some ⟨Ns4a, 0, none⟩) n1a n1a, .slice (some ⟨Ns4b, 0, none⟩) n1b n1b, .slice (some ⟨Ns4c, 0, none⟩) n1c n1c, .slice (some ⟨Ns4d, 0, none⟩) n1d n1d, .int .i64 z1] 29)
  generalize (W7.alloc (.cells #[.bool q1, .slice (some ⟨Ns4a, 0, none⟩) n1a n1a, .slice (some ⟨Ns4b, 0, none⟩) n1b n1b, .slice (some ⟨Ns4c, 0, none⟩) n1c n1c, .slice (some ⟨Ns4d, 0, none⟩) n1d n1d, .int .i64 z1] 29)) = W8 at hx0 hl0 hb ⊢
  have HB8 : Hid (Below w.heap.size w W8) := Lib.hid (HB7.out.trans (hb.mono HB7.out.size))
  have HS8 : Hid (Below W7.heap.size W7 W8) := Lib.hid hb
  clear hb
  have b0_8 := Lib.hid ((b0_7.out).keep b0l_7 (HS8.out))
  have b0l_8 := Nat.lt_of_lt_of_le b0l_7 HS8.out.size
  clear b0_7 b0l_7
  have b1_8 := Lib.hid ((b1_7.out).keep b1l_7 (HS8.out))
  have b1l_8 := Nat.lt_of_lt_of_le b1l_7 HS8.out.size
  clear b1_7 b1l_7
  have b2_8 := Lib.hid ((b2_7.out).keep b2l_7 (HS8.out))
  have b2l_8 := Nat.lt_of_lt_of_le b2l_7 HS8.out.size
  clear b2_7 b2l_7
  have s3_8 := Lib.hid ((s3_7.out.below HS8.out).more HS8.out.size)
  clear s3_7
  have s4_8 := Lib.hid ((s4_7.out.below HS8.out).more HS8.out.size)
  clear s4_7
  have b3_8 := Lib.hid hx0
  have b3l_8 := hl0
  clear hx0 hl0
  refine (Go.Proofs.Ytjnlbhmddhpmaaa.ege.impl_eqe q0 q1 z0 z1 (by omega) (by omega) (by omega) (by omega) (by omega) (by omega) (by omega) (by omega) s3_8.out s4_8.out (Nat.le_refl _)).mono ?_
  rintro e W9 ⟨he, hb⟩
  rw [HQ0.out] at he
  subst he
  have HB9 : Hid (Below w.heap.size w W9) := Lib.hid (HB8.out.trans (hb.mono HB8.out.size))
  have HS9 : Hid (Below W8.heap.size W8 W9) := Lib.hid hb
  clear hb
  have b0_9 := Lib.hid ((b0_8.out).keep b0l_8 (HS9.out))
  have b0l_9 := Nat.lt_of_lt_of_le b0l_8 HS9.out.size
  clear b0_8 b0l_8
  have b1_9 := Lib.hid ((b1_8.out).keep b1l_8 (HS9.out))
  have b1l_9 := Nat.lt_of_lt_of_le b1l_8 HS9.out.size
  clear b1_8 b1l_8
  have b2_9 := Lib.hid ((b2_8.out).keep b2l_8 (HS9.out))
  have b2l_9 := Nat.lt_of_lt_of_le b2l_8 HS9.out.size
  clear b2_8 b2l_8
  have b3_9 := Lib.hid ((b3_8.out).keep b3l_8 (HS9.out))
  have b3l_9 := Nat.lt_of_lt_of_le b3l_8 HS9.out.size
  clear b3_8 b3l_8
  have s3_9 := Lib.hid ((s3_8.out.below HS9.out).more HS9.out.size)
  clear s3_8
  have s4_9 := Lib.hid ((s4_8.out.below HS9.out).more HS9.out.size)
  clear s4_8
  clear b2c0 b2c1 b2c2 b2c3 b2c4 b2c5
  go_wp2_with fail
  have hbk0 : Below W9.heap.size W9 W9.drew := (Below.refl _ _).drew
  have hbw0 := HB9.out.trans (hbk0.mono HB9.out.size)
  obtain ⟨b2c0, b2c1, b2c2, b2c3, b2c4, b2c5⟩ := b2_9.out
  obtain ⟨b0c0, b0c1, b0c2, b0c3, b0c4, b0c5⟩ := b0_9.out
  go_region_held3 (fun w' => w'.cell? ⟨W5.heap.size, 0, none⟩ = some (.bool q0) ∧ w'.cell? ⟨W5.heap.size, 1, none⟩ = some (.slice (some ⟨Ns3a, 0, none⟩) n0a n0a) ∧ w'.cell? ⟨W5.heap.size, 2, none⟩ = some (.slice (some ⟨Ns3b, 0, none⟩) n0b n0b) ∧ w'.cell? ⟨W5.heap.size, 3, none⟩ = some (.slice (some ⟨Ns3c, 0, none⟩) n0c n0c) ∧ w'.cell? ⟨W5.heap.size, 4, none⟩ = some (.slice (some ⟨Ns3d, 0, none⟩) n0d n0d) ∧ w'.cell? ⟨W5.heap.size, 5, none⟩ = some (.int .i64 z0) ∧ w'.cell? ⟨w.heap.size, 0, none⟩ = some (.bool q0) ∧ w'.cell? ⟨w.heap.size, 1, none⟩ = some (.slice A0a n0a c0a) ∧ w'.cell? ⟨w.heap.size, 2, none⟩ = some (.slice A0b n0b c0b) ∧ w'.cell? ⟨w.heap.size, 3, none⟩ = some (.slice A0c n0c c0c) ∧ w'.cell? ⟨w.heap.size, 4, none⟩ = some (.slice A0d n0d c0d) ∧ w'.cell? ⟨w.heap.size, 5, none⟩ = some (.int .i64 z0)) (go_keep) (first | (go_at_call 11; (with_reducible refine (Go.Proofs.Ytjnlbhmddhpmaaa.eg.same_eg q0 z0 (by omega) (by omega) (by omega) (by omega) ((s3_9.out.below hbk1).more hbk1.size) s5a1 (Nat.le_refl _)).mono ?_); rintro e W10 ⟨rfl, hb⟩; have hbk2 := hbk1.trans (hb.mono hbk1.size); have hbw2 := HB9.out.trans (hbk2.mono HB9.out.size); have s5a2 := (s5a1.below hb).more hb.size; clear hb ; obtain ⟨b2d20, b2d21, b2d22, b2d23, b2d24, b2d25⟩ := ((b2_9.out).keep b2l_9 (hbk2)); obtain ⟨b0d20, b0d21, b0d22, b0d23, b0d24, b0d25⟩ := ((b0_9.out).keep b0l_9 (hbk2))) | (go_at_call 16; (with_reducible refine (Go.Proofs.Ytjnlbhmddhpmaaa.eg.copied_eg q0 z0 (by omega) (by omega) (by omega) (by omega) (by omega) (by omega) (HR0.out.below hbw0) (hbw0).size).mono ?_); rintro e Wa1 ⟨Ns5a, Ns5b, Ns5c, Ns5d, rfl, hv, hb⟩; have hbk1 := hbk0.trans (hb.mono hbk0.size); have hbw1 := HB9.out.trans (hbk1.mono HB9.out.size); have s5a1 := hv; clear hb hv; obtain ⟨b2d10, b2d11, b2d12, b2d13, b2d14, b2d15⟩ := ((b2_9.out).keep b2l_9 (hbk1)); obtain ⟨b0d10, b0d11, b0d12, b0d13, b0d14, b0d15⟩ := ((b0_9.out).keep b0l_9 (hbk1))))
  have hb := hbk2
  clear hbk0 hbw0 s5a1 b2d10 b2d11 b2d12 b2d13 b2d14 b2d15 b0d10 b0d11 b0d12 b0d13 b0d14 b0d15 hbk1 hbw1 s5a2 b2d20 b2d21 b2d22 b2d23 b2d24 b2d25 b0d20 b0d21 b0d22 b0d23 b0d24 b0d25 hbk2 hbw2 b2c0 b2c1 b2c2 b2c3 b2c4 b2c5 b0c0 b0c1 b0c2 b0c3 b0c4 b0c5
  have HB10 : Hid (Below w.heap.size w W10) := Lib.hid (HB9.out.trans (hb.mono HB9.out.size))
  have HS10 : Hid (Below W9.heap.size W9 W10) := Lib.hid hb
  clear hb
  have b0_10 := Lib.hid ((b0_9.out).keep b0l_9 (HS10.out))
  have b0l_10 := Nat.lt_of_lt_of_le b0l_9 HS10.out.size
  clear b0_9 b0l_9
  have b1_10 := Lib.hid ((b1_9.out).keep b1l_9 (HS10.out))
  have b1l_10 := Nat.lt_of_lt_of_le b1l_9 HS10.out.size
  clear b1_9 b1l_9
  have b2_10 := Lib.hid ((b2_9.out).keep b2l_9 (HS10.out))
  have b2l_10 := Nat.lt_of_lt_of_le b2l_9 HS10.out.size
  clear b2_9 b2l_9
  have b3_10 := Lib.hid ((b3_9.out).keep b3l_9 (HS10.out))
  have b3l_10 := Nat.lt_of_lt_of_le b3l_9 HS10.out.size
  clear b3_9 b3l_9
  have s3_10 := Lib.hid ((s3_9.out.below HS10.out).more HS10.out.size)
  clear s3_9
  have s4_10 := Lib.hid ((s4_9.out.below HS10.out).more HS10.out.size)
  clear s4_9
  go_wp2_with fail
  have hbk0 : Below W10.heap.size W10 W10.drew := (Below.refl _ _).drew
  have hbw0 := HB10.out.trans (hbk0.mono HB10.out.size)
  obtain ⟨b3c0, b3c1, b3c2, b3c3, b3c4, b3c5⟩ := b3_10.out
  obtain ⟨b1c0, b1c1, b1c2, b1c3, b1c4, b1c5⟩ := b1_10.out
  go_region_held3 (fun w' => w'.cell? ⟨W7.heap.size, 0, none⟩ = some (.bool q1) ∧ w'.cell? ⟨W7.heap.size, 1, none⟩ = some (.slice (some ⟨Ns4a, 0, none⟩) n1a n1a) ∧ w'.cell? ⟨W7.heap.size, 2, none⟩ = some (.slice (some ⟨Ns4b, 0, none⟩) n1b n1b) ∧ w'.cell? ⟨W7.heap.size, 3, none⟩ = some (.slice (some ⟨Ns4c, 0, none⟩) n1c n1c) ∧ w'.cell? ⟨W7.heap.size, 4, none⟩ = some (.slice (some ⟨Ns4d, 0, none⟩) n1d n1d) ∧ w'.cell? ⟨W7.heap.size, 5, none⟩ = some (.int .i64 z1) ∧ w'.cell? ⟨w.heap.size + 1, 0, none⟩ = some (.bool q1) ∧ w'.cell? ⟨w.heap.size + 1, 1, none⟩ = some (.slice A1a n1a c1a) ∧ w'.cell? ⟨w.heap.size + 1, 2, none⟩ = some (.slice A1b n1b c1b) ∧ w'.cell? ⟨w.heap.size + 1, 3, none⟩ = some (.slice A1c n1c c1c) ∧ w'.cell? ⟨w.heap.size + 1, 4, none⟩ = some (.slice A1d n1d c1d) ∧ w'.cell? ⟨w.heap.size + 1, 5, none⟩ = some (.int .i64 z1)) (go_keep) (first | (go_at_call 11; (with_reducible refine (Go.Proofs.Ytjnlbhmddhpmaaa.eg.same_eg q1 z1 (by omega) (by omega) (by omega) (by omega) ((s4_10.out.below hbk1).more hbk1.size) s6a1 (Nat.le_refl _)).mono ?_); rintro e W11 ⟨rfl, hb⟩; have hbk2 := hbk1.trans (hb.mono hbk1.size); have hbw2 := HB10.out.trans (hbk2.mono HB10.out.size); have s6a2 := (s6a1.below hb).more hb.size; clear hb ; obtain ⟨b3d20, b3d21, b3d22, b3d23, b3d24, b3d25⟩ := ((b3_10.out).keep b3l_10 (hbk2)); obtain ⟨b1d20, b1d21, b1d22, b1d23, b1d24, b1d25⟩ := ((b1_10.out).keep b1l_10 (hbk2))) | (go_at_call 16; (with_reducible refine (Go.Proofs.Ytjnlbhmddhpmaaa.eg.copied_eg q1 z1 (by omega) (by omega) (by omega) (by omega) (by omega) (by omega) (HR1.out.below hbw0) (hbw0).size).mono ?_); rintro e Wa1 ⟨Ns6a, Ns6b, Ns6c, Ns6d, rfl, hv, hb⟩; have hbk1 := hbk0.trans (hb.mono hbk0.size); have hbw1 := HB10.out.trans (hbk1.mono HB10.out.size); have s6a1 := hv; clear hb hv; obtain ⟨b3d10, b3d11, b3d12, b3d13, b3d14, b3d15⟩ := ((b3_10.out).keep b3l_10 (hbk1)); obtain ⟨b1d10, b1d11, b1d12, b1d13, b1d14, b1d15⟩ := ((b1_10.out).keep b1l_10 (hbk1))))
  have hb := hbk2
  clear hbk0 hbw0 s6a1 b3d10 b3d11 b3d12 b3d13 b3d14 b3d15 b1d10 b1d11 b1d12 b1d13 b1d14 b1d15 hbk1 hbw1 s6a2 b3d20 b3d21 b3d22 b3d23 b3d24 b3d25 b1d20 b1d21 b1d22 b1d23 b1d24 b1d25 hbk2 hbw2 b3c0 b3c1 b3c2 b3c3 b3c4 b3c5 b1c0 b1c1 b1c2 b1c3 b1c4 b1c5
  have HB11 : Hid (Below w.heap.size w W11) := Lib.hid (HB10.out.trans (hb.mono HB10.out.size))
  have HS11 : Hid (Below W10.heap.size W10 W11) := Lib.hid hb
  clear hb
  have b0_11 := Lib.hid ((b0_10.out).keep b0l_10 (HS11.out))
  have b0l_11 := Nat.lt_of_lt_of_le b0l_10 HS11.out.size
  clear b0_10 b0l_10
  have b1_11 := Lib.hid ((b1_10.out).keep b1l_10 (HS11.out))
  have b1l_11 := Nat.lt_of_lt_of_le b1l_10 HS11.out.size
  clear b1_10 b1l_10
  have b2_11 := Lib.hid ((b2_10.out).keep b2l_10 (HS11.out))
  have b2l_11 := Nat.lt_of_lt_of_le b2l_10 HS11.out.size
  clear b2_10 b2l_10
  have b3_11 := Lib.hid ((b3_10.out).keep b3l_10 (HS11.out))
  have b3l_11 := Nat.lt_of_lt_of_le b3l_10 HS11.out.size
  clear b3_10 b3l_10
  have s3_11 := Lib.hid ((s3_10.out.below HS11.out).more HS11.out.size)
  clear s3_10
  have s4_11 := Lib.hid ((s4_10.out.below HS11.out).more HS11.out.size)
  clear s4_10
  go_wp2_with fail
  go_ret
  exact ⟨rfl, HB11.out⟩
/-! ### THE ROW's STEP -/
set_option maxRecDepth 100000 in
theorem lifted (os : Os) (started : os.Started) (H : Type) (enc : TypeId × Value → H) :
    ReturnsInHanded {} Try.checked os 6 .any (Rows.fnExactEqualEnginesSpec.pre6 enc Try.prog Try.f6 Rows.fnExactEqualEnginesRow.domain false) (Rows.fnExactEqualEnginesSpec.post enc Try.prog Try.f6 false true false false) := by
  refine returnsInHanded_of_change (C := Try.checked) own started (by kernel_rfl) Try.func6
    (ChangeSpec.witness6 (enc := enc) (C := Try.checked) false ⟨#[], #[.agg #[.bool false, .slice none 0 0, .slice none 0 0, .slice none 0 0, .slice none 0 0, .int .i64 0], .agg #[.bool false, .slice none 0 0, .slice none 0 0, .slice none 0 0, .slice none 0 0, .int .i64 0]], []⟩ 8 (by kernel_rfl) (by kernel_rfl) (by kernel_rfl) (by kernel_rfl)) ?_
  intro W base args ds gs before hval0 hW hcnd _
  have hval : ∀ (j : Nat) t v, Try.f6.params[j]? = some t → args[j]? = some v → Value.okWide Try.prog W .any base t v := hval0
  have hW' := hW
  obtain ⟨pp, qq, hA0, hV, rfl, hfz, hnd⟩ := hW
  have hA : DataW.TrodAll enc Try.prog W 0 (fun _ => true) true Try.f6.params.toList args.toList ds pp := hA0
  rw [Try.params6] at hA hval
  obtain ⟨v0, vs0, dd0, ds0, pp0, qq0, hargs, rfl, rfl, h0, r0⟩ := trodAll_cons hA
  obtain ⟨v1, vs1, dd1, ds1, pp1, qq1, rfl, rfl, rfl, h1, r1⟩ := trodAll_cons r0
  obtain ⟨rfl, rfl, rfl⟩ := trodAll_nil r1
  obtain rfl : args = #[v0, v1] := by cases args; simp_all
  obtain ⟨rfl, rfl⟩ := trodVars_none hV
  have k0 := h0
  have lt0 : ∀ x ∈ pp0, x.block < W.heap.size := by obtain ⟨m, hm⟩ := k0; exact DataW.trod_lt m _ _ _ hm
  obtain ⟨q0, A0a, n0a, c0a, C0, A0b, n0b, c0b, L0, A0c, n0c, c0c, K0, A0d, n0d, c0d, X0, z0, rfl, u0a, m0a, u0b, m0b, u0c, m0c, u0d, m0d, b0⟩ := Go.Proofs.Ytjnlbhmddhpmaaa.opt.open_engine (hval 0 41 v0 rfl rfl) h0
  have k1 := h1
  have lt1 : ∀ x ∈ pp1, x.block < W.heap.size := by obtain ⟨m, hm⟩ := k1; exact DataW.trod_lt m _ _ _ hm
  obtain ⟨q1, A1a, n1a, c1a, C1, A1b, n1b, c1b, L1, A1c, n1c, c1c, K1, A1d, n1d, c1d, X1, z1, rfl, u1a, m1a, u1b, m1b, u1c, m1c, u1d, m1d, b1⟩ := Go.Proofs.Ytjnlbhmddhpmaaa.opt.open_engine (hval 1 41 v1 rfl rfl) h1
  clear hA0 hval0
  refine (walk q0 A0a n0a c0a C0 A0b n0b c0b L0 A0c n0c c0c K0 A0d n0d c0d X0 z0 q1 A1a n1a c1a C1 A1b n1b c1b L1 A1c n1c c1c K1 A1d n1d c1d X1 z1 W u0a m0a u0b m0b u0c m0c u0d m0d b0 u1a m1a u1b m1b u1c m1c u1d m1d b1).mono fun e W' ⟨he, bel⟩ => ?_
  subst he
  exact ⟨_, rfl, _, _, _, [], _, [], hW', trodAll_mk1 (shut_bool Try.underlying4 _), (trodAll_cons_mk (Below.trod laidOut (by kernel_rfl) (of_decide_eq_true (by kernel_rfl)) k0 bel lt0) (trodAll_cons_mk (Below.trod laidOut (by kernel_rfl) (of_decide_eq_true (by kernel_rfl)) k1 bel lt1) trodAll_mk0)), rfl, bel.frame _, fun h => by cases h⟩

theorem over : Rows.fnExactEqualEnginesRow.holds Try.pinned (OpenSpec.ofChange Rows.fnExactEqualEnginesSpec) :=
  OpenClaim.holds_of_wide 6 Try.f6 rfl rfl rfl rfl rfl rfl rfl ⟨rfl, rfl, rfl, rfl, rfl⟩ rfl rfl rfl rfl rfl (by kernel_rfl) Try.func6 (by kernel_rfl)
    (of_decide_eq_true (by kernel_rfl)) (by unfold Func.isWrapper; first | (rw [if_pos (by decide +kernel)]; kernel_rfl) | (rw [if_neg (by decide +kernel)]; exact ⟨rfl, rfl⟩))
    (fun os started H enc _ => lifted os started H enc)

/-- THE STATEMENT -/
theorem proved : Rows.FnExactEqualEnginesSaid := over
#print axioms proved
end Go.Proofs.Ytjnlbhmddhpmaaa.fnExactEqualEngines
