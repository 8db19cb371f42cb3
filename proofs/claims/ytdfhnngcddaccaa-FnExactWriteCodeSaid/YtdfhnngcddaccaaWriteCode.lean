/- WriteCode of the program answers as its model at every store, list of locks, transaction and integer: the law returns true and writes nothing that was there. No condition. -/
import Derived.Test.YtdfhnngcddaccaaWrs
import Derived.Test.YtdfhnngcddaccaaWlaw
import Derived.Test.YtdfhnngcddaccaaOpenS
import Derived.Test.YtdfhnngcddaccaaOwk
import Derived.WalkKit
import Derived.ProofKit
import Derived.OpenShut
import Derived.ShutString
import Derived.ChangeOld
import Derived.Below
import Derived.Carry
import Derived.Lib.Hide
import Derived.StillTailTactics
import Derived.Deep.RegionHeld3
import Derived.Deep.DeepHandedRow
namespace Go.Proofs.Ytdfhnngcddaccaa.fnExactWriteCode
open Go.ChangeShapes Go.WideShapes Go.ChangeAt Go.RowKit
open Go.ChangeMaps (open_string shut_string)
open Go.Proofs.Ytdfhnngcddaccaa.el2
open Go.Proofs.Ytdfhnngcddaccaa.tx
open Go.Proofs.Ytdfhnngcddaccaa.st
open Go.Proofs.Ytdfhnngcddaccaa.sl
open Go.Proofs.Ytdfhnngcddaccaa.opns
open Go.Proofs.Ytdfhnngcddaccaa.vers (new2 new3)
set_option linter.unusedVariables false
theorem own : ownKnob Try.prog.godebug = none := by kernel_rfl
theorem laidOut : laidOutB Try.prog = true := by kernel_rfl
set_option maxHeartbeats 6400000 in
theorem walk (A0 : Option Addr) (n0 c0 : Nat) (L0 : List (List Ver)) (A1 : Option Addr) (n1 c1 : Nat) (L1 : List E2) (x2 : Hd) (A2 : Option Addr) (n2 c2 : Nat) (R2 : List E2) (B2 : Option Addr) (p2 d2 : Nat) (Q2 : List E2) (a3 : Int) (w : World) (h0 : R0 w w.heap.size A0 n0 L0) (m0 : n0 ≤ maxLen) (h1 : Go.Proofs.Ytdfhnngcddaccaa.el2.Vs w w.heap.size A1 n1 L1) (m1 : n1 ≤ maxLen) (h2 : Go.Proofs.Ytdfhnngcddaccaa.el2.Vs w w.heap.size A2 n2 R2) (m2 : n2 ≤ maxLen) (g2 : Go.Proofs.Ytdfhnngcddaccaa.el2.Vs w w.heap.size B2 p2 Q2) (o2 : p2 ≤ maxLen) (b3 : (Lit.int .i64 a3).wf = true) :
    Calls Try.prog 6 #[.agg #[.slice A0 n0 c0], .slice A1 n1 c1, .agg #[.int .i64 x2.i, .int .i64 x2.s, .int .i64 x2.t, .int .i64 x2.b, .int .i64 x2.l, .int .i64 x2.h, .int .i64 x2.c, .slice A2 n2 c2, .slice B2 p2 d2], .int .i64 a3] w fun e w' => e = .returned (.bool true) ∧ Below w.heap.size w w' := by
  unfold maxLen at m0
  have H0 := Lib.hid h0
  have hlen0 := h0.1
  clear h0
  unfold maxLen at m1
  have H1 := Lib.hid h1
  have hlen1 := h1.1
  clear h1
  unfold maxLen at m2 o2
  have H2 := Lib.hid h2
  have G2 := Lib.hid g2
  have hlen2 := h2.1
  have hlem2 := g2.1
  clear h2 g2
  clear b3
  by_cases hbig0 : (1048576 : Int) < tot L0
  · have hz := szR_no (left := (1048576 : Int)) (ll := L0) (by omega)
    have HZ0 := Lib.hid hz
    clear hz
    go_enter Try.func6, Try.ntmps6
    go_wp2_with fail
    have hx0 := one_cell w (.slice A0 n0 c0) 48
    replace hx0 := ((new1 (w.alloc (.cells #[.slice A0 n0 c0] 48)) (.cells #[.int .i64 x2.i, .int .i64 x2.s, .int .i64 x2.t, .int .i64 x2.b, .int .i64 x2.l, .int .i64 x2.h, .int .i64 x2.c, .slice A2 n2 c2, .slice B2 p2 d2] 52)).cell (p := ⟨w.heap.size, 0, none⟩) (by simp; try omega)).trans hx0
    have hl0 : w.heap.size < ((w.alloc (.cells #[.slice A0 n0 c0] 48)).alloc (.cells #[.int .i64 x2.i, .int .i64 x2.s, .int .i64 x2.t, .int .i64 x2.b, .int .i64 x2.l, .int .i64 x2.h, .int .i64 x2.c, .slice A2 n2 c2, .slice B2 p2 d2] 52)).heap.size := by simp; try omega
    have hx1 := TB.new (w.alloc (.cells #[.slice A0 n0 c0] 48)) x2 A2 n2 c2 B2 p2 d2 52
    rw [show (w.alloc (.cells #[.slice A0 n0 c0] 48)).heap.size = w.heap.size + 1 by simp] at hx1
    have hl1 : w.heap.size + 1 < ((w.alloc (.cells #[.slice A0 n0 c0] 48)).alloc (.cells #[.int .i64 x2.i, .int .i64 x2.s, .int .i64 x2.t, .int .i64 x2.b, .int .i64 x2.l, .int .i64 x2.h, .int .i64 x2.c, .slice A2 n2 c2, .slice B2 p2 d2] 52)).heap.size := by simp; try omega
    have hb := Go.Proofs.Ytdfhnngcddaccaa.vers.new2 w (.cells #[.slice A0 n0 c0] 48) (.cells #[.int .i64 x2.i, .int .i64 x2.s, .int .i64 x2.t, .int .i64 x2.b, .int .i64 x2.l, .int .i64 x2.h, .int .i64 x2.c, .slice A2 n2 c2, .slice B2 p2 d2] 52)
    generalize ((w.alloc (.cells #[.slice A0 n0 c0] 48)).alloc (.cells #[.int .i64 x2.i, .int .i64 x2.s, .int .i64 x2.t, .int .i64 x2.b, .int .i64 x2.l, .int .i64 x2.h, .int .i64 x2.c, .slice A2 n2 c2, .slice B2 p2 d2] 52)) = W1 at hx0 hl0 hx1 hl1 hb ⊢
    have HB1 : Hid (Below w.heap.size w W1) := Lib.hid hb
    have HS1 : Hid (Below w.heap.size w W1) := Lib.hid hb
    clear hb
    have b0_1 := Lib.hid hx0
    have b0l_1 := hl0
    clear hx0 hl0
    have b1_1 := Lib.hid hx1
    have b1l_1 := hl1
    clear hx1 hl1
    refine (count_store (by omega) (H0.out.below HB1.out) HB1.out.size (by omega) (by omega)).mono ?_
    rintro e W2 ⟨rfl, hb⟩
    rw [HZ0.out]
    have HB2 : Hid (Below w.heap.size w W2) := Lib.hid (HB1.out.trans (hb.mono HB1.out.size))
    have HS2 : Hid (Below W1.heap.size W1 W2) := Lib.hid hb
    clear hb
    have b0_2 := Lib.hid (((HS2.out).cell (p := ⟨w.heap.size, 0, none⟩) b0l_1).trans b0_1.out)
    have b0l_2 := Nat.lt_of_lt_of_le b0l_1 HS2.out.size
    clear b0_1 b0l_1
    have b1_2 := Lib.hid ((b1_1.out).keep b1l_1 (HS2.out))
    have b1l_2 := Nat.lt_of_lt_of_le b1l_1 HS2.out.size
    clear b1_1 b1l_1
    go_wp2_with fail
    go_ret
    exact ⟨rfl, HB2.out⟩
  have hz := szR_yes (left := (1048576 : Int)) (ll := L0) (by omega)
  have HZ0 := Lib.hid hz
  clear hz
  have htot0 := tot_eq L0
  have HR0 := Lib.hid (H0.out.tight (by omega))
  obtain ⟨lf0, hlf⟩ : ∃ lf : Int, lf = (1048576 : Int) - (tot L0 : Int) := ⟨_, rfl⟩
  have hz := HZ0.out
  clear HZ0
  rw [← hlf] at hz
  have HZ0 := Lib.hid hz
  have tz0 : decide (lf0 < 0) = false := decide_eq_false (by omega)
  have lf00 : 0 ≤ lf0 := by omega
  have lf10 : lf0 ≤ 1048576 := by omega
  clear hlf hz
  by_cases hbig1 : lf0 < (n1 : Int)
  · have hz := Go.Proofs.Ytdfhnngcddaccaa.owk.szK_no (left := lf0) (n := n1) (by omega)
    have HZ1 := Lib.hid hz
    clear hz
    go_enter Try.func6, Try.ntmps6
    go_wp2_with fail
    have hx0 := one_cell w (.slice A0 n0 c0) 48
    replace hx0 := ((new1 (w.alloc (.cells #[.slice A0 n0 c0] 48)) (.cells #[.int .i64 x2.i, .int .i64 x2.s, .int .i64 x2.t, .int .i64 x2.b, .int .i64 x2.l, .int .i64 x2.h, .int .i64 x2.c, .slice A2 n2 c2, .slice B2 p2 d2] 52)).cell (p := ⟨w.heap.size, 0, none⟩) (by simp; try omega)).trans hx0
    have hl0 : w.heap.size < ((w.alloc (.cells #[.slice A0 n0 c0] 48)).alloc (.cells #[.int .i64 x2.i, .int .i64 x2.s, .int .i64 x2.t, .int .i64 x2.b, .int .i64 x2.l, .int .i64 x2.h, .int .i64 x2.c, .slice A2 n2 c2, .slice B2 p2 d2] 52)).heap.size := by simp; try omega
    have hx1 := TB.new (w.alloc (.cells #[.slice A0 n0 c0] 48)) x2 A2 n2 c2 B2 p2 d2 52
    rw [show (w.alloc (.cells #[.slice A0 n0 c0] 48)).heap.size = w.heap.size + 1 by simp] at hx1
    have hl1 : w.heap.size + 1 < ((w.alloc (.cells #[.slice A0 n0 c0] 48)).alloc (.cells #[.int .i64 x2.i, .int .i64 x2.s, .int .i64 x2.t, .int .i64 x2.b, .int .i64 x2.l, .int .i64 x2.h, .int .i64 x2.c, .slice A2 n2 c2, .slice B2 p2 d2] 52)).heap.size := by simp; try omega
    have hb := Go.Proofs.Ytdfhnngcddaccaa.vers.new2 w (.cells #[.slice A0 n0 c0] 48) (.cells #[.int .i64 x2.i, .int .i64 x2.s, .int .i64 x2.t, .int .i64 x2.b, .int .i64 x2.l, .int .i64 x2.h, .int .i64 x2.c, .slice A2 n2 c2, .slice B2 p2 d2] 52)
    generalize ((w.alloc (.cells #[.slice A0 n0 c0] 48)).alloc (.cells #[.int .i64 x2.i, .int .i64 x2.s, .int .i64 x2.t, .int .i64 x2.b, .int .i64 x2.l, .int .i64 x2.h, .int .i64 x2.c, .slice A2 n2 c2, .slice B2 p2 d2] 52)) = W1 at hx0 hl0 hx1 hl1 hb ⊢
    have HB1 : Hid (Below w.heap.size w W1) := Lib.hid hb
    have HS1 : Hid (Below w.heap.size w W1) := Lib.hid hb
    clear hb
    have b0_1 := Lib.hid hx0
    have b0l_1 := hl0
    clear hx0 hl0
    have b1_1 := Lib.hid hx1
    have b1l_1 := hl1
    clear hx1 hl1
    refine (count_store (by omega) (H0.out.below HB1.out) HB1.out.size (by omega) (by omega)).mono ?_
    rintro e W2 ⟨rfl, hb⟩
    rw [HZ0.out]
    have HB2 : Hid (Below w.heap.size w W2) := Lib.hid (HB1.out.trans (hb.mono HB1.out.size))
    have HS2 : Hid (Below W1.heap.size W1 W2) := Lib.hid hb
    clear hb
    have b0_2 := Lib.hid (((HS2.out).cell (p := ⟨w.heap.size, 0, none⟩) b0l_1).trans b0_1.out)
    have b0l_2 := Nat.lt_of_lt_of_le b0l_1 HS2.out.size
    clear b0_1 b0l_1
    have b1_2 := Lib.hid ((b1_1.out).keep b1l_1 (HS2.out))
    have b1l_2 := Nat.lt_of_lt_of_le b1l_1 HS2.out.size
    clear b1_1 b1l_1
    go_wp2_with fail
    refine (Go.Proofs.Ytdfhnngcddaccaa.owk.count_k A1 n1 c1 _ _ (by omega) (by omega) (by omega)).mono ?_
    rintro e W3 ⟨rfl, hb⟩
    rw [HZ1.out]
    have HB3 : Hid (Below w.heap.size w W3) := Lib.hid (HB2.out.trans (hb.mono HB2.out.size))
    have HS3 : Hid (Below W2.heap.size W2 W3) := Lib.hid hb
    clear hb
    have b0_3 := Lib.hid (((HS3.out).cell (p := ⟨w.heap.size, 0, none⟩) b0l_2).trans b0_2.out)
    have b0l_3 := Nat.lt_of_lt_of_le b0l_2 HS3.out.size
    clear b0_2 b0l_2
    have b1_3 := Lib.hid ((b1_2.out).keep b1l_2 (HS3.out))
    have b1l_3 := Nat.lt_of_lt_of_le b1l_2 HS3.out.size
    clear b1_2 b1l_2
    go_wp2_with fail
    go_ret
    exact ⟨rfl, HB3.out⟩
  have hz := Go.Proofs.Ytdfhnngcddaccaa.owk.szK_yes (left := lf0) (n := n1) (by omega)
  have HZ1 := Lib.hid hz
  clear hz
  obtain ⟨lf1, hlf⟩ : ∃ lf : Int, lf = lf0 - (n1 : Int) := ⟨_, rfl⟩
  have hz := HZ1.out
  clear HZ1
  rw [← hlf] at hz
  have HZ1 := Lib.hid hz
  have tz1 : decide (lf1 < 0) = false := decide_eq_false (by omega)
  have lf01 : 0 ≤ lf1 := by omega
  have lf11 : lf1 ≤ 1048576 := by omega
  clear hlf hz
  by_cases hbig2 : lf1 < n2 + p2
  · have hz := szT_no (left := lf1) (n := n2) (n2 := p2) (by omega)
    have HZ2 := Lib.hid hz
    clear hz
    go_enter Try.func6, Try.ntmps6
    go_wp2_with fail
    have hx0 := one_cell w (.slice A0 n0 c0) 48
    replace hx0 := ((new1 (w.alloc (.cells #[.slice A0 n0 c0] 48)) (.cells #[.int .i64 x2.i, .int .i64 x2.s, .int .i64 x2.t, .int .i64 x2.b, .int .i64 x2.l, .int .i64 x2.h, .int .i64 x2.c, .slice A2 n2 c2, .slice B2 p2 d2] 52)).cell (p := ⟨w.heap.size, 0, none⟩) (by simp; try omega)).trans hx0
    have hl0 : w.heap.size < ((w.alloc (.cells #[.slice A0 n0 c0] 48)).alloc (.cells #[.int .i64 x2.i, .int .i64 x2.s, .int .i64 x2.t, .int .i64 x2.b, .int .i64 x2.l, .int .i64 x2.h, .int .i64 x2.c, .slice A2 n2 c2, .slice B2 p2 d2] 52)).heap.size := by simp; try omega
    have hx1 := TB.new (w.alloc (.cells #[.slice A0 n0 c0] 48)) x2 A2 n2 c2 B2 p2 d2 52
    rw [show (w.alloc (.cells #[.slice A0 n0 c0] 48)).heap.size = w.heap.size + 1 by simp] at hx1
    have hl1 : w.heap.size + 1 < ((w.alloc (.cells #[.slice A0 n0 c0] 48)).alloc (.cells #[.int .i64 x2.i, .int .i64 x2.s, .int .i64 x2.t, .int .i64 x2.b, .int .i64 x2.l, .int .i64 x2.h, .int .i64 x2.c, .slice A2 n2 c2, .slice B2 p2 d2] 52)).heap.size := by simp; try omega
    have hb := Go.Proofs.Ytdfhnngcddaccaa.vers.new2 w (.cells #[.slice A0 n0 c0] 48) (.cells #[.int .i64 x2.i, .int .i64 x2.s, .int .i64 x2.t, .int .i64 x2.b, .int .i64 x2.l, .int .i64 x2.h, .int .i64 x2.c, .slice A2 n2 c2, .slice B2 p2 d2] 52)
    generalize ((w.alloc (.cells #[.slice A0 n0 c0] 48)).alloc (.cells #[.int .i64 x2.i, .int .i64 x2.s, .int .i64 x2.t, .int .i64 x2.b, .int .i64 x2.l, .int .i64 x2.h, .int .i64 x2.c, .slice A2 n2 c2, .slice B2 p2 d2] 52)) = W1 at hx0 hl0 hx1 hl1 hb ⊢
    have HB1 : Hid (Below w.heap.size w W1) := Lib.hid hb
    have HS1 : Hid (Below w.heap.size w W1) := Lib.hid hb
    clear hb
    have b0_1 := Lib.hid hx0
    have b0l_1 := hl0
    clear hx0 hl0
    have b1_1 := Lib.hid hx1
    have b1l_1 := hl1
    clear hx1 hl1
    refine (count_store (by omega) (H0.out.below HB1.out) HB1.out.size (by omega) (by omega)).mono ?_
    rintro e W2 ⟨rfl, hb⟩
    rw [HZ0.out]
    have HB2 : Hid (Below w.heap.size w W2) := Lib.hid (HB1.out.trans (hb.mono HB1.out.size))
    have HS2 : Hid (Below W1.heap.size W1 W2) := Lib.hid hb
    clear hb
    have b0_2 := Lib.hid (((HS2.out).cell (p := ⟨w.heap.size, 0, none⟩) b0l_1).trans b0_1.out)
    have b0l_2 := Nat.lt_of_lt_of_le b0l_1 HS2.out.size
    clear b0_1 b0l_1
    have b1_2 := Lib.hid ((b1_1.out).keep b1l_1 (HS2.out))
    have b1l_2 := Nat.lt_of_lt_of_le b1l_1 HS2.out.size
    clear b1_1 b1l_1
    go_wp2_with fail
    refine (Go.Proofs.Ytdfhnngcddaccaa.owk.count_k A1 n1 c1 _ _ (by omega) (by omega) (by omega)).mono ?_
    rintro e W3 ⟨rfl, hb⟩
    rw [HZ1.out]
    have HB3 : Hid (Below w.heap.size w W3) := Lib.hid (HB2.out.trans (hb.mono HB2.out.size))
    have HS3 : Hid (Below W2.heap.size W2 W3) := Lib.hid hb
    clear hb
    have b0_3 := Lib.hid (((HS3.out).cell (p := ⟨w.heap.size, 0, none⟩) b0l_2).trans b0_2.out)
    have b0l_3 := Nat.lt_of_lt_of_le b0l_2 HS3.out.size
    clear b0_2 b0l_2
    have b1_3 := Lib.hid ((b1_2.out).keep b1l_2 (HS3.out))
    have b1l_3 := Nat.lt_of_lt_of_le b1l_2 HS3.out.size
    clear b1_2 b1l_2
    obtain ⟨b1c0, b1c1, b1c2, b1c3, b1c4, b1c5, b1c6, b1c7, b1c8⟩ := b1_3.out
    go_wp2_with fail
    refine (count_tx x2 A2 n2 c2 B2 p2 d2 _ _ (by omega) (by omega) (by omega) (by omega)).mono ?_
    rintro e W4 ⟨rfl, hb⟩
    rw [HZ2.out]
    have HB4 : Hid (Below w.heap.size w W4) := Lib.hid (HB3.out.trans (hb.mono HB3.out.size))
    have HS4 : Hid (Below W3.heap.size W3 W4) := Lib.hid hb
    clear hb
    have b0_4 := Lib.hid (((HS4.out).cell (p := ⟨w.heap.size, 0, none⟩) b0l_3).trans b0_3.out)
    have b0l_4 := Nat.lt_of_lt_of_le b0l_3 HS4.out.size
    clear b0_3 b0l_3
    have b1_4 := Lib.hid ((b1_3.out).keep b1l_3 (HS4.out))
    have b1l_4 := Nat.lt_of_lt_of_le b1l_3 HS4.out.size
    clear b1_3 b1l_3
    clear b1c0 b1c1 b1c2 b1c3 b1c4 b1c5 b1c6 b1c7 b1c8
    go_wp2_with fail
    go_ret
    exact ⟨rfl, HB4.out⟩
  have hz := szT_yes (left := lf1) (n := n2) (n2 := p2) (by omega)
  have HZ2 := Lib.hid hz
  clear hz
  obtain ⟨lf2, hlf⟩ : ∃ lf : Int, lf = lf1 - (n2 : Int) - (p2 : Int) := ⟨_, rfl⟩
  have hz := HZ2.out
  clear HZ2
  rw [← hlf] at hz
  have HZ2 := Lib.hid hz
  have tz2 : decide (lf2 < 0) = false := decide_eq_false (by omega)
  have lf02 : 0 ≤ lf2 := by omega
  have lf12 : lf2 ≤ 1048576 := by omega
  clear hlf hz
  obtain ⟨q0, hq0⟩ : ∃ q, Go.Proofs.Ytdfhnngcddaccaa.sc.wcI L0 L1 x2 R2 Q2 a3 = q := ⟨_, rfl⟩
  have HQ0 := Lib.hid hq0
  clear hq0
  go_enter Try.func6, Try.ntmps6
  go_wp2_with fail
  have hx0 := one_cell w (.slice A0 n0 c0) 48
  replace hx0 := ((new1 (w.alloc (.cells #[.slice A0 n0 c0] 48)) (.cells #[.int .i64 x2.i, .int .i64 x2.s, .int .i64 x2.t, .int .i64 x2.b, .int .i64 x2.l, .int .i64 x2.h, .int .i64 x2.c, .slice A2 n2 c2, .slice B2 p2 d2] 52)).cell (p := ⟨w.heap.size, 0, none⟩) (by simp; try omega)).trans hx0
  have hl0 : w.heap.size < ((w.alloc (.cells #[.slice A0 n0 c0] 48)).alloc (.cells #[.int .i64 x2.i, .int .i64 x2.s, .int .i64 x2.t, .int .i64 x2.b, .int .i64 x2.l, .int .i64 x2.h, .int .i64 x2.c, .slice A2 n2 c2, .slice B2 p2 d2] 52)).heap.size := by simp; try omega
  have hx1 := TB.new (w.alloc (.cells #[.slice A0 n0 c0] 48)) x2 A2 n2 c2 B2 p2 d2 52
  rw [show (w.alloc (.cells #[.slice A0 n0 c0] 48)).heap.size = w.heap.size + 1 by simp] at hx1
  have hl1 : w.heap.size + 1 < ((w.alloc (.cells #[.slice A0 n0 c0] 48)).alloc (.cells #[.int .i64 x2.i, .int .i64 x2.s, .int .i64 x2.t, .int .i64 x2.b, .int .i64 x2.l, .int .i64 x2.h, .int .i64 x2.c, .slice A2 n2 c2, .slice B2 p2 d2] 52)).heap.size := by simp; try omega
  have hb := Go.Proofs.Ytdfhnngcddaccaa.vers.new2 w (.cells #[.slice A0 n0 c0] 48) (.cells #[.int .i64 x2.i, .int .i64 x2.s, .int .i64 x2.t, .int .i64 x2.b, .int .i64 x2.l, .int .i64 x2.h, .int .i64 x2.c, .slice A2 n2 c2, .slice B2 p2 d2] 52)
  generalize ((w.alloc (.cells #[.slice A0 n0 c0] 48)).alloc (.cells #[.int .i64 x2.i, .int .i64 x2.s, .int .i64 x2.t, .int .i64 x2.b, .int .i64 x2.l, .int .i64 x2.h, .int .i64 x2.c, .slice A2 n2 c2, .slice B2 p2 d2] 52)) = W1 at hx0 hl0 hx1 hl1 hb ⊢
  have HB1 : Hid (Below w.heap.size w W1) := Lib.hid hb
  have HS1 : Hid (Below w.heap.size w W1) := Lib.hid hb
  clear hb
  have b0_1 := Lib.hid hx0
  have b0l_1 := hl0
  clear hx0 hl0
  have b1_1 := Lib.hid hx1
  have b1l_1 := hl1
  clear hx1 hl1
  refine (count_store (by omega) (H0.out.below HB1.out) HB1.out.size (by omega) (by omega)).mono ?_
  rintro e W2 ⟨rfl, hb⟩
  rw [HZ0.out]
  have HB2 : Hid (Below w.heap.size w W2) := Lib.hid (HB1.out.trans (hb.mono HB1.out.size))
  have HS2 : Hid (Below W1.heap.size W1 W2) := Lib.hid hb
  clear hb
  have b0_2 := Lib.hid (((HS2.out).cell (p := ⟨w.heap.size, 0, none⟩) b0l_1).trans b0_1.out)
  have b0l_2 := Nat.lt_of_lt_of_le b0l_1 HS2.out.size
  clear b0_1 b0l_1
  have b1_2 := Lib.hid ((b1_1.out).keep b1l_1 (HS2.out))
  have b1l_2 := Nat.lt_of_lt_of_le b1l_1 HS2.out.size
  clear b1_1 b1l_1
  go_wp2_with fail
  refine (Go.Proofs.Ytdfhnngcddaccaa.owk.count_k A1 n1 c1 _ _ (by omega) (by omega) (by omega)).mono ?_
  rintro e W3 ⟨rfl, hb⟩
  rw [HZ1.out]
  have HB3 : Hid (Below w.heap.size w W3) := Lib.hid (HB2.out.trans (hb.mono HB2.out.size))
  have HS3 : Hid (Below W2.heap.size W2 W3) := Lib.hid hb
  clear hb
  have b0_3 := Lib.hid (((HS3.out).cell (p := ⟨w.heap.size, 0, none⟩) b0l_2).trans b0_2.out)
  have b0l_3 := Nat.lt_of_lt_of_le b0l_2 HS3.out.size
  clear b0_2 b0l_2
  have b1_3 := Lib.hid ((b1_2.out).keep b1l_2 (HS3.out))
  have b1l_3 := Nat.lt_of_lt_of_le b1l_2 HS3.out.size
  clear b1_2 b1l_2
  obtain ⟨b1c0, b1c1, b1c2, b1c3, b1c4, b1c5, b1c6, b1c7, b1c8⟩ := b1_3.out
  go_wp2_with fail
  refine (count_tx x2 A2 n2 c2 B2 p2 d2 _ _ (by omega) (by omega) (by omega) (by omega)).mono ?_
  rintro e W4 ⟨rfl, hb⟩
  rw [HZ2.out]
  have HB4 : Hid (Below w.heap.size w W4) := Lib.hid (HB3.out.trans (hb.mono HB3.out.size))
  have HS4 : Hid (Below W3.heap.size W3 W4) := Lib.hid hb
  clear hb
  have b0_4 := Lib.hid (((HS4.out).cell (p := ⟨w.heap.size, 0, none⟩) b0l_3).trans b0_3.out)
  have b0l_4 := Nat.lt_of_lt_of_le b0l_3 HS4.out.size
  clear b0_3 b0l_3
  have b1_4 := Lib.hid ((b1_3.out).keep b1l_3 (HS4.out))
  have b1l_4 := Nat.lt_of_lt_of_le b1l_3 HS4.out.size
  clear b1_3 b1l_3
  clear b1c0 b1c1 b1c2 b1c3 b1c4 b1c5 b1c6 b1c7 b1c8
  go_wp2_with fail
  have hbk0 : Below W4.heap.size W4 W4.drew := (Below.refl _ _).drew
  have hbw0 := HB4.out.trans (hbk0.mono HB4.out.size)
  have b0c0 := b0_4.out
  obtain ⟨b1c0, b1c1, b1c2, b1c3, b1c4, b1c5, b1c6, b1c7, b1c8⟩ := b1_4.out
  go_region_held3 (fun w' => w'.cell? ⟨w.heap.size, 0, none⟩ = some (.slice A0 n0 c0) ∧ w'.cell? ⟨w.heap.size + 1, 0, none⟩ = some (.int .i64 x2.i) ∧ w'.cell? ⟨w.heap.size + 1, 1, none⟩ = some (.int .i64 x2.s) ∧ w'.cell? ⟨w.heap.size + 1, 2, none⟩ = some (.int .i64 x2.t) ∧ w'.cell? ⟨w.heap.size + 1, 3, none⟩ = some (.int .i64 x2.b) ∧ w'.cell? ⟨w.heap.size + 1, 4, none⟩ = some (.int .i64 x2.l) ∧ w'.cell? ⟨w.heap.size + 1, 5, none⟩ = some (.int .i64 x2.h) ∧ w'.cell? ⟨w.heap.size + 1, 6, none⟩ = some (.int .i64 x2.c) ∧ w'.cell? ⟨w.heap.size + 1, 7, none⟩ = some (.slice A2 n2 c2) ∧ w'.cell? ⟨w.heap.size + 1, 8, none⟩ = some (.slice B2 p2 d2)) (go_keep) (first | (go_at_call 18; (with_reducible refine (Go.Proofs.Ytdfhnngcddaccaa.wrs.spec_wc x2 a3 (by omega) (by omega) (by omega) (by omega) s3ra3 s3wa3 s1a3 s2a3 (Nat.le_refl _)).mono ?_); rintro e W5 ⟨he, hb⟩; rw [HQ0.out] at he; subst he; have hbk4 := hbk3.trans (hb.mono hbk3.size); have hbw4 := HB4.out.trans (hbk4.mono HB4.out.size); have s1a4 := (s1a3.below hb).more hb.size; have s2a4 := (s2a3.below hb).more hb.size; have s3ra4 := (s3ra3.below hb).more hb.size; have s3wa4 := (s3wa3.below hb).more hb.size; clear hb ; have b0d40 := (((hbk4).cell (p := ⟨w.heap.size, 0, none⟩) b0l_4).trans b0_4.out); obtain ⟨b1d40, b1d41, b1d42, b1d43, b1d44, b1d45, b1d46, b1d47, b1d48⟩ := ((b1_4.out).keep b1l_4 (hbk4))) | (go_at_call 25; (with_reducible refine (Go.Proofs.Ytdfhnngcddaccaa.tx.copied_tx x2 (by omega) (by omega) (H2.out.below hbw2) (G2.out.below hbw2) (hbw2).size).mono ?_); rintro e Wa3 ⟨Ns3, Ms3, rfl, hv, hu, hb⟩; have hbk3 := hbk2.trans (hb.mono hbk2.size); have hbw3 := HB4.out.trans (hbk3.mono HB4.out.size); have s1a3 := (s1a2.below hb).more hb.size; have s2a3 := (s2a2.below hb).more hb.size; have s3ra3 := hv; have s3wa3 := hu; clear hb hv hu; have b0d30 := (((hbk3).cell (p := ⟨w.heap.size, 0, none⟩) b0l_4).trans b0_4.out); obtain ⟨b1d30, b1d31, b1d32, b1d33, b1d34, b1d35, b1d36, b1d37, b1d38⟩ := ((b1_4.out).keep b1l_4 (hbk3))) | (go_at_call 30; (with_reducible refine (Go.Proofs.Ytdfhnngcddaccaa.wlaw.copied_k (by omega) (H1.out.below hbw1) (hbw1).size).mono ?_); rintro e Wa2 ⟨Ns2, rfl, hv, hb⟩; have hbk2 := hbk1.trans (hb.mono hbk1.size); have hbw2 := HB4.out.trans (hbk2.mono HB4.out.size); have s1a2 := (s1a1.below hb).more hb.size; have s2a2 := hv; clear hb hv; have b0d20 := (((hbk2).cell (p := ⟨w.heap.size, 0, none⟩) b0l_4).trans b0_4.out); obtain ⟨b1d20, b1d21, b1d22, b1d23, b1d24, b1d25, b1d26, b1d27, b1d28⟩ := ((b1_4.out).keep b1l_4 (hbk2))) | (go_at_call 24; (with_reducible refine (copy_store (by omega) (by omega) (HR0.out.below hbw0) (hbw0).size).mono ?_); rintro e Wa1 ⟨Ns1, rfl, hN, hv, hb⟩; clear hN; have hbk1 := hbk0.trans (hb.mono hbk0.size); have hbw1 := HB4.out.trans (hbk1.mono HB4.out.size); have s1a1 := hv; clear hb hv; have b0d10 := (((hbk1).cell (p := ⟨w.heap.size, 0, none⟩) b0l_4).trans b0_4.out); obtain ⟨b1d10, b1d11, b1d12, b1d13, b1d14, b1d15, b1d16, b1d17, b1d18⟩ := ((b1_4.out).keep b1l_4 (hbk1))))
  have hb := hbk4
  clear hbk0 hbw0 s1a1 b0d10 b1d10 b1d11 b1d12 b1d13 b1d14 b1d15 b1d16 b1d17 b1d18 hbk1 hbw1 s1a2 s2a2 b0d20 b1d20 b1d21 b1d22 b1d23 b1d24 b1d25 b1d26 b1d27 b1d28 hbk2 hbw2 s1a3 s2a3 s3ra3 s3wa3 b0d30 b1d30 b1d31 b1d32 b1d33 b1d34 b1d35 b1d36 b1d37 b1d38 hbk3 hbw3 s1a4 s2a4 s3ra4 s3wa4 b0d40 b1d40 b1d41 b1d42 b1d43 b1d44 b1d45 b1d46 b1d47 b1d48 hbk4 hbw4 b0c0 b1c0 b1c1 b1c2 b1c3 b1c4 b1c5 b1c6 b1c7 b1c8
  have HB5 : Hid (Below w.heap.size w W5) := Lib.hid (HB4.out.trans (hb.mono HB4.out.size))
  have HS5 : Hid (Below W4.heap.size W4 W5) := Lib.hid hb
  clear hb
  have b0_5 := Lib.hid (((HS5.out).cell (p := ⟨w.heap.size, 0, none⟩) b0l_4).trans b0_4.out)
  have b0l_5 := Nat.lt_of_lt_of_le b0l_4 HS5.out.size
  clear b0_4 b0l_4
  have b1_5 := Lib.hid ((b1_4.out).keep b1l_4 (HS5.out))
  have b1l_5 := Nat.lt_of_lt_of_le b1l_4 HS5.out.size
  clear b1_4 b1l_4
  have b0c0 := b0_5.out
  go_wp2_with fail
  refine (copy_store (by omega) (by omega) (HR0.out.below HB5.out) (HB5.out).size).mono ?_
  rintro e W6 ⟨Ns4, rfl, hN, hv, hb⟩
  clear hN
  have HB6 : Hid (Below w.heap.size w W6) := Lib.hid (HB5.out.trans (hb.mono HB5.out.size))
  have HS6 : Hid (Below W5.heap.size W5 W6) := Lib.hid hb
  clear hb
  have b0_6 := Lib.hid (((HS6.out).cell (p := ⟨w.heap.size, 0, none⟩) b0l_5).trans b0_5.out)
  have b0l_6 := Nat.lt_of_lt_of_le b0l_5 HS6.out.size
  clear b0_5 b0l_5
  have b1_6 := Lib.hid ((b1_5.out).keep b1l_5 (HS6.out))
  have b1l_6 := Nat.lt_of_lt_of_le b1l_5 HS6.out.size
  clear b1_5 b1l_5
  have s4_6 := Lib.hid hv
  clear hv
  clear b0c0
  go_wp2_with fail
  have hx0 := one_cell W6 (.slice (some ⟨Ns4, 0, none⟩) n0 n0) 26
  have hl0 : W6.heap.size < (W6.alloc (.cells #[.slice (some ⟨Ns4, 0, none⟩) n0 n0] 26)).heap.size := by simp; try omega
  have hb := Go.Proofs.Ytdfhnngcddaccaa.el2.new1 W6 (.cells #[.slice (some ⟨Ns4, 0, none⟩) n0 n0] 26)
  generalize (W6.alloc (.cells #[.slice (some ⟨Ns4, 0, none⟩) n0 n0] 26)) = W7 at hx0 hl0 hb ⊢
  have HB7 : Hid (Below w.heap.size w W7) := Lib.hid (HB6.out.trans (hb.mono HB6.out.size))
  have HS7 : Hid (Below W6.heap.size W6 W7) := Lib.hid hb
  clear hb
  have b0_7 := Lib.hid (((HS7.out).cell (p := ⟨w.heap.size, 0, none⟩) b0l_6).trans b0_6.out)
  have b0l_7 := Nat.lt_of_lt_of_le b0l_6 HS7.out.size
  clear b0_6 b0l_6
  have b1_7 := Lib.hid ((b1_6.out).keep b1l_6 (HS7.out))
  have b1l_7 := Nat.lt_of_lt_of_le b1l_6 HS7.out.size
  clear b1_6 b1l_6
  have s4_7 := Lib.hid ((s4_6.out.below HS7.out).more HS7.out.size)
  clear s4_6
  have b2_7 := Lib.hid hx0
  have b2l_7 := hl0
  clear hx0 hl0
  refine (Go.Proofs.Ytdfhnngcddaccaa.wlaw.copied_k (by omega) (H1.out.below HB7.out) (HB7.out).size).mono ?_
  rintro e W8 ⟨Ns5, rfl, hv, hb⟩
  have HB8 : Hid (Below w.heap.size w W8) := Lib.hid (HB7.out.trans (hb.mono HB7.out.size))
  have HS8 : Hid (Below W7.heap.size W7 W8) := Lib.hid hb
  clear hb
  have b0_8 := Lib.hid (((HS8.out).cell (p := ⟨w.heap.size, 0, none⟩) b0l_7).trans b0_7.out)
  have b0l_8 := Nat.lt_of_lt_of_le b0l_7 HS8.out.size
  clear b0_7 b0l_7
  have b1_8 := Lib.hid ((b1_7.out).keep b1l_7 (HS8.out))
  have b1l_8 := Nat.lt_of_lt_of_le b1l_7 HS8.out.size
  clear b1_7 b1l_7
  have b2_8 := Lib.hid (((HS8.out).cell (p := ⟨W6.heap.size, 0, none⟩) b2l_7).trans b2_7.out)
  have b2l_8 := Nat.lt_of_lt_of_le b2l_7 HS8.out.size
  clear b2_7 b2l_7
  have s4_8 := Lib.hid ((s4_7.out.below HS8.out).more HS8.out.size)
  clear s4_7
  have s5_8 := Lib.hid hv
  clear hv
  obtain ⟨b1c0, b1c1, b1c2, b1c3, b1c4, b1c5, b1c6, b1c7, b1c8⟩ := b1_8.out
  go_wp2_with fail
  refine (Go.Proofs.Ytdfhnngcddaccaa.tx.copied_tx x2 (by omega) (by omega) (H2.out.below HB8.out) (G2.out.below HB8.out) (HB8.out).size).mono ?_
  rintro e W9 ⟨Ns6, Ms6, rfl, hv, hu, hb⟩
  have HB9 : Hid (Below w.heap.size w W9) := Lib.hid (HB8.out.trans (hb.mono HB8.out.size))
  have HS9 : Hid (Below W8.heap.size W8 W9) := Lib.hid hb
  clear hb
  have b0_9 := Lib.hid (((HS9.out).cell (p := ⟨w.heap.size, 0, none⟩) b0l_8).trans b0_8.out)
  have b0l_9 := Nat.lt_of_lt_of_le b0l_8 HS9.out.size
  clear b0_8 b0l_8
  have b1_9 := Lib.hid ((b1_8.out).keep b1l_8 (HS9.out))
  have b1l_9 := Nat.lt_of_lt_of_le b1l_8 HS9.out.size
  clear b1_8 b1l_8
  have b2_9 := Lib.hid (((HS9.out).cell (p := ⟨W6.heap.size, 0, none⟩) b2l_8).trans b2_8.out)
  have b2l_9 := Nat.lt_of_lt_of_le b2l_8 HS9.out.size
  clear b2_8 b2l_8
  have s4_9 := Lib.hid ((s4_8.out.below HS9.out).more HS9.out.size)
  clear s4_8
  have s5_9 := Lib.hid ((s5_8.out.below HS9.out).more HS9.out.size)
  clear s5_8
  have s6r_9 := Lib.hid hv
  clear hv
  have s6w_9 := Lib.hid hu
  clear hu
  clear b1c0 b1c1 b1c2 b1c3 b1c4 b1c5 b1c6 b1c7 b1c8
  have b2c0 := b2_9.out
  go_wp2_with fail
  have hx0 := TB.new W9 x2 (some ⟨Ns6, 0, none⟩) n2 n2 (some ⟨Ms6, 0, none⟩) p2 p2 30
  have hl0 : W9.heap.size < (W9.alloc (.cells #[.int .i64 x2.i, .int .i64 x2.s, .int .i64 x2.t, .int .i64 x2.b, .int .i64 x2.l, .int .i64 x2.h, .int .i64 x2.c, .slice (some ⟨Ns6, 0, none⟩) n2 n2, .slice (some ⟨Ms6, 0, none⟩) p2 p2] 30)).heap.size := by simp; try omega
  have hb := Go.Proofs.Ytdfhnngcddaccaa.el2.new1 W9 (.cells #[.int .i64 x2.i, .int .i64 x2.s, .int .i64 x2.t, .int .i64 x2.b, .int .i64 x2.l, .int .i64 x2.h, .int .i64 x2.c, .slice (some ⟨Ns6, 0, none⟩) n2 n2, .slice (some ⟨Ms6, 0, none⟩) p2 p2] 30)
  generalize (W9.alloc (.cells #[.int .i64 x2.i, .int .i64 x2.s, .int .i64 x2.t, .int .i64 x2.b, .int .i64 x2.l, .int .i64 x2.h, .int .i64 x2.c, .slice (some ⟨Ns6, 0, none⟩) n2 n2, .slice (some ⟨Ms6, 0, none⟩) p2 p2] 30)) = W10 at hx0 hl0 hb ⊢
  have HB10 : Hid (Below w.heap.size w W10) := Lib.hid (HB9.out.trans (hb.mono HB9.out.size))
  have HS10 : Hid (Below W9.heap.size W9 W10) := Lib.hid hb
  clear hb
  have b0_10 := Lib.hid (((HS10.out).cell (p := ⟨w.heap.size, 0, none⟩) b0l_9).trans b0_9.out)
  have b0l_10 := Nat.lt_of_lt_of_le b0l_9 HS10.out.size
  clear b0_9 b0l_9
  have b1_10 := Lib.hid ((b1_9.out).keep b1l_9 (HS10.out))
  have b1l_10 := Nat.lt_of_lt_of_le b1l_9 HS10.out.size
  clear b1_9 b1l_9
  have b2_10 := Lib.hid (((HS10.out).cell (p := ⟨W6.heap.size, 0, none⟩) b2l_9).trans b2_9.out)
  have b2l_10 := Nat.lt_of_lt_of_le b2l_9 HS10.out.size
  clear b2_9 b2l_9
  have s4_10 := Lib.hid ((s4_9.out.below HS10.out).more HS10.out.size)
  clear s4_9
  have s5_10 := Lib.hid ((s5_9.out.below HS10.out).more HS10.out.size)
  clear s5_9
  have s6r_10 := Lib.hid ((s6r_9.out.below HS10.out).more HS10.out.size)
  clear s6r_9
  have s6w_10 := Lib.hid ((s6w_9.out.below HS10.out).more HS10.out.size)
  clear s6w_9
  have b3_10 := Lib.hid hx0
  have b3l_10 := hl0
  clear hx0 hl0
  refine (Go.Proofs.Ytdfhnngcddaccaa.wrc.impl_wc x2 a3 (by omega) (by omega) (by omega) (by omega) s6r_10.out s6w_10.out s4_10.out s5_10.out (Nat.le_refl _)).mono ?_
  rintro e W11 ⟨he, hb⟩
  rw [HQ0.out] at he
  subst he
  have HB11 : Hid (Below w.heap.size w W11) := Lib.hid (HB10.out.trans (hb.mono HB10.out.size))
  have HS11 : Hid (Below W10.heap.size W10 W11) := Lib.hid hb
  clear hb
  have b0_11 := Lib.hid (((HS11.out).cell (p := ⟨w.heap.size, 0, none⟩) b0l_10).trans b0_10.out)
  have b0l_11 := Nat.lt_of_lt_of_le b0l_10 HS11.out.size
  clear b0_10 b0l_10
  have b1_11 := Lib.hid ((b1_10.out).keep b1l_10 (HS11.out))
  have b1l_11 := Nat.lt_of_lt_of_le b1l_10 HS11.out.size
  clear b1_10 b1l_10
  have b2_11 := Lib.hid (((HS11.out).cell (p := ⟨W6.heap.size, 0, none⟩) b2l_10).trans b2_10.out)
  have b2l_11 := Nat.lt_of_lt_of_le b2l_10 HS11.out.size
  clear b2_10 b2l_10
  have b3_11 := Lib.hid ((b3_10.out).keep b3l_10 (HS11.out))
  have b3l_11 := Nat.lt_of_lt_of_le b3l_10 HS11.out.size
  clear b3_10 b3l_10
  have s4_11 := Lib.hid ((s4_10.out.below HS11.out).more HS11.out.size)
  clear s4_10
  have s5_11 := Lib.hid ((s5_10.out.below HS11.out).more HS11.out.size)
  clear s5_10
  have s6r_11 := Lib.hid ((s6r_10.out.below HS11.out).more HS11.out.size)
  clear s6r_10
  have s6w_11 := Lib.hid ((s6w_10.out.below HS11.out).more HS11.out.size)
  clear s6w_10
  clear b2c0
  go_wp2_with fail
  have hbk0 : Below W11.heap.size W11 W11.drew := (Below.refl _ _).drew
  have hbw0 := HB11.out.trans (hbk0.mono HB11.out.size)
  have b2c0 := b2_11.out
  have b0c0 := b0_11.out
  go_region_held3 (fun w' => w'.cell? ⟨W6.heap.size, 0, none⟩ = some (.slice (some ⟨Ns4, 0, none⟩) n0 n0) ∧ w'.cell? ⟨w.heap.size, 0, none⟩ = some (.slice A0 n0 c0)) (go_keep) (first | (go_at_call 27; (with_reducible refine (same_store (by omega) ((s4_11.out.below hbk1).more hbk1.size) s7a1 (Nat.le_refl _)).mono ?_); rintro e W12 ⟨rfl, hb⟩; have hbk2 := hbk1.trans (hb.mono hbk1.size); have hbw2 := HB11.out.trans (hbk2.mono HB11.out.size); have s7a2 := (s7a1.below hb).more hb.size; clear hb ; have b2d20 := (((hbk2).cell (p := ⟨W6.heap.size, 0, none⟩) b2l_11).trans b2_11.out); have b0d20 := (((hbk2).cell (p := ⟨w.heap.size, 0, none⟩) b0l_11).trans b0_11.out)) | (go_at_call 24; (with_reducible refine (copy_store (by omega) (by omega) (HR0.out.below hbw0) (hbw0).size).mono ?_); rintro e Wa1 ⟨Ns7, rfl, hN, hv, hb⟩; clear hN; have hbk1 := hbk0.trans (hb.mono hbk0.size); have hbw1 := HB11.out.trans (hbk1.mono HB11.out.size); have s7a1 := hv; clear hb hv; have b2d10 := (((hbk1).cell (p := ⟨W6.heap.size, 0, none⟩) b2l_11).trans b2_11.out); have b0d10 := (((hbk1).cell (p := ⟨w.heap.size, 0, none⟩) b0l_11).trans b0_11.out)))
  have hb := hbk2
  clear hbk0 hbw0 s7a1 b2d10 b0d10 hbk1 hbw1 s7a2 b2d20 b0d20 hbk2 hbw2 b2c0 b0c0
  have HB12 : Hid (Below w.heap.size w W12) := Lib.hid (HB11.out.trans (hb.mono HB11.out.size))
  have HS12 : Hid (Below W11.heap.size W11 W12) := Lib.hid hb
  clear hb
  have b0_12 := Lib.hid (((HS12.out).cell (p := ⟨w.heap.size, 0, none⟩) b0l_11).trans b0_11.out)
  have b0l_12 := Nat.lt_of_lt_of_le b0l_11 HS12.out.size
  clear b0_11 b0l_11
  have b1_12 := Lib.hid ((b1_11.out).keep b1l_11 (HS12.out))
  have b1l_12 := Nat.lt_of_lt_of_le b1l_11 HS12.out.size
  clear b1_11 b1l_11
  have b2_12 := Lib.hid (((HS12.out).cell (p := ⟨W6.heap.size, 0, none⟩) b2l_11).trans b2_11.out)
  have b2l_12 := Nat.lt_of_lt_of_le b2l_11 HS12.out.size
  clear b2_11 b2l_11
  have b3_12 := Lib.hid ((b3_11.out).keep b3l_11 (HS12.out))
  have b3l_12 := Nat.lt_of_lt_of_le b3l_11 HS12.out.size
  clear b3_11 b3l_11
  have s4_12 := Lib.hid ((s4_11.out.below HS12.out).more HS12.out.size)
  clear s4_11
  have s5_12 := Lib.hid ((s5_11.out.below HS12.out).more HS12.out.size)
  clear s5_11
  have s6r_12 := Lib.hid ((s6r_11.out.below HS12.out).more HS12.out.size)
  clear s6r_11
  have s6w_12 := Lib.hid ((s6w_11.out.below HS12.out).more HS12.out.size)
  clear s6w_11
  go_wp2_with fail
  refine (Go.Proofs.Ytdfhnngcddaccaa.wlaw.copied_k (by omega) (H1.out.below HB12.out) (HB12.out).size).mono ?_
  rintro e W13 ⟨Ns8, rfl, hv, hb⟩
  have HB13 : Hid (Below w.heap.size w W13) := Lib.hid (HB12.out.trans (hb.mono HB12.out.size))
  have HS13 : Hid (Below W12.heap.size W12 W13) := Lib.hid hb
  clear hb
  have b0_13 := Lib.hid (((HS13.out).cell (p := ⟨w.heap.size, 0, none⟩) b0l_12).trans b0_12.out)
  have b0l_13 := Nat.lt_of_lt_of_le b0l_12 HS13.out.size
  clear b0_12 b0l_12
  have b1_13 := Lib.hid ((b1_12.out).keep b1l_12 (HS13.out))
  have b1l_13 := Nat.lt_of_lt_of_le b1l_12 HS13.out.size
  clear b1_12 b1l_12
  have b2_13 := Lib.hid (((HS13.out).cell (p := ⟨W6.heap.size, 0, none⟩) b2l_12).trans b2_12.out)
  have b2l_13 := Nat.lt_of_lt_of_le b2l_12 HS13.out.size
  clear b2_12 b2l_12
  have b3_13 := Lib.hid ((b3_12.out).keep b3l_12 (HS13.out))
  have b3l_13 := Nat.lt_of_lt_of_le b3l_12 HS13.out.size
  clear b3_12 b3l_12
  have s4_13 := Lib.hid ((s4_12.out.below HS13.out).more HS13.out.size)
  clear s4_12
  have s5_13 := Lib.hid ((s5_12.out.below HS13.out).more HS13.out.size)
  clear s5_12
  have s6r_13 := Lib.hid ((s6r_12.out.below HS13.out).more HS13.out.size)
  clear s6r_12
  have s6w_13 := Lib.hid ((s6w_12.out.below HS13.out).more HS13.out.size)
  clear s6w_12
  have s8_13 := Lib.hid hv
  clear hv
  go_wp2_with fail
  refine (Go.Proofs.Ytdfhnngcddaccaa.owk.same_k (by omega) s5_13.out s8_13.out).mono ?_
  rintro e W14 ⟨rfl, hb⟩
  have HB14 : Hid (Below w.heap.size w W14) := Lib.hid (HB13.out.trans (hb.mono HB13.out.size))
  have HS14 : Hid (Below W13.heap.size W13 W14) := Lib.hid hb
  clear hb
  have b0_14 := Lib.hid (((HS14.out).cell (p := ⟨w.heap.size, 0, none⟩) b0l_13).trans b0_13.out)
  have b0l_14 := Nat.lt_of_lt_of_le b0l_13 HS14.out.size
  clear b0_13 b0l_13
  have b1_14 := Lib.hid ((b1_13.out).keep b1l_13 (HS14.out))
  have b1l_14 := Nat.lt_of_lt_of_le b1l_13 HS14.out.size
  clear b1_13 b1l_13
  have b2_14 := Lib.hid (((HS14.out).cell (p := ⟨W6.heap.size, 0, none⟩) b2l_13).trans b2_13.out)
  have b2l_14 := Nat.lt_of_lt_of_le b2l_13 HS14.out.size
  clear b2_13 b2l_13
  have b3_14 := Lib.hid ((b3_13.out).keep b3l_13 (HS14.out))
  have b3l_14 := Nat.lt_of_lt_of_le b3l_13 HS14.out.size
  clear b3_13 b3l_13
  have s4_14 := Lib.hid ((s4_13.out.below HS14.out).more HS14.out.size)
  clear s4_13
  have s5_14 := Lib.hid ((s5_13.out.below HS14.out).more HS14.out.size)
  clear s5_13
  have s6r_14 := Lib.hid ((s6r_13.out.below HS14.out).more HS14.out.size)
  clear s6r_13
  have s6w_14 := Lib.hid ((s6w_13.out.below HS14.out).more HS14.out.size)
  clear s6w_13
  have s8_14 := Lib.hid ((s8_13.out.below HS14.out).more HS14.out.size)
  clear s8_13
  go_wp2_with fail
  have hbk0 : Below W14.heap.size W14 W14.drew := (Below.refl _ _).drew
  have hbw0 := HB14.out.trans (hbk0.mono HB14.out.size)
  obtain ⟨b3c0, b3c1, b3c2, b3c3, b3c4, b3c5, b3c6, b3c7, b3c8⟩ := b3_14.out
  obtain ⟨b1c0, b1c1, b1c2, b1c3, b1c4, b1c5, b1c6, b1c7, b1c8⟩ := b1_14.out
  go_region_held3 (fun w' => w'.cell? ⟨W9.heap.size, 0, none⟩ = some (.int .i64 x2.i) ∧ w'.cell? ⟨W9.heap.size, 1, none⟩ = some (.int .i64 x2.s) ∧ w'.cell? ⟨W9.heap.size, 2, none⟩ = some (.int .i64 x2.t) ∧ w'.cell? ⟨W9.heap.size, 3, none⟩ = some (.int .i64 x2.b) ∧ w'.cell? ⟨W9.heap.size, 4, none⟩ = some (.int .i64 x2.l) ∧ w'.cell? ⟨W9.heap.size, 5, none⟩ = some (.int .i64 x2.h) ∧ w'.cell? ⟨W9.heap.size, 6, none⟩ = some (.int .i64 x2.c) ∧ w'.cell? ⟨W9.heap.size, 7, none⟩ = some (.slice (some ⟨Ns6, 0, none⟩) n2 n2) ∧ w'.cell? ⟨W9.heap.size, 8, none⟩ = some (.slice (some ⟨Ms6, 0, none⟩) p2 p2) ∧ w'.cell? ⟨w.heap.size + 1, 0, none⟩ = some (.int .i64 x2.i) ∧ w'.cell? ⟨w.heap.size + 1, 1, none⟩ = some (.int .i64 x2.s) ∧ w'.cell? ⟨w.heap.size + 1, 2, none⟩ = some (.int .i64 x2.t) ∧ w'.cell? ⟨w.heap.size + 1, 3, none⟩ = some (.int .i64 x2.b) ∧ w'.cell? ⟨w.heap.size + 1, 4, none⟩ = some (.int .i64 x2.l) ∧ w'.cell? ⟨w.heap.size + 1, 5, none⟩ = some (.int .i64 x2.h) ∧ w'.cell? ⟨w.heap.size + 1, 6, none⟩ = some (.int .i64 x2.c) ∧ w'.cell? ⟨w.heap.size + 1, 7, none⟩ = some (.slice A2 n2 c2) ∧ w'.cell? ⟨w.heap.size + 1, 8, none⟩ = some (.slice B2 p2 d2)) (go_keep) (first | (go_at_call 28; (with_reducible refine (same_tx x2 (by omega) (by omega) ((s6r_14.out.below hbk1).more hbk1.size) s9ra1 ((s6w_14.out.below hbk1).more hbk1.size) s9wa1 (Nat.le_refl _)).mono ?_); rintro e W15 ⟨rfl, hb⟩; have hbk2 := hbk1.trans (hb.mono hbk1.size); have hbw2 := HB14.out.trans (hbk2.mono HB14.out.size); have s9ra2 := (s9ra1.below hb).more hb.size; have s9wa2 := (s9wa1.below hb).more hb.size; clear hb ; obtain ⟨b3d20, b3d21, b3d22, b3d23, b3d24, b3d25, b3d26, b3d27, b3d28⟩ := ((b3_14.out).keep b3l_14 (hbk2)); obtain ⟨b1d20, b1d21, b1d22, b1d23, b1d24, b1d25, b1d26, b1d27, b1d28⟩ := ((b1_14.out).keep b1l_14 (hbk2))) | (go_at_call 25; (with_reducible refine (Go.Proofs.Ytdfhnngcddaccaa.tx.copied_tx x2 (by omega) (by omega) (H2.out.below hbw0) (G2.out.below hbw0) (hbw0).size).mono ?_); rintro e Wa1 ⟨Ns9, Ms9, rfl, hv, hu, hb⟩; have hbk1 := hbk0.trans (hb.mono hbk0.size); have hbw1 := HB14.out.trans (hbk1.mono HB14.out.size); have s9ra1 := hv; have s9wa1 := hu; clear hb hv hu; obtain ⟨b3d10, b3d11, b3d12, b3d13, b3d14, b3d15, b3d16, b3d17, b3d18⟩ := ((b3_14.out).keep b3l_14 (hbk1)); obtain ⟨b1d10, b1d11, b1d12, b1d13, b1d14, b1d15, b1d16, b1d17, b1d18⟩ := ((b1_14.out).keep b1l_14 (hbk1))))
  have hb := hbk2
  clear hbk0 hbw0 s9ra1 s9wa1 b3d10 b3d11 b3d12 b3d13 b3d14 b3d15 b3d16 b3d17 b3d18 b1d10 b1d11 b1d12 b1d13 b1d14 b1d15 b1d16 b1d17 b1d18 hbk1 hbw1 s9ra2 s9wa2 b3d20 b3d21 b3d22 b3d23 b3d24 b3d25 b3d26 b3d27 b3d28 b1d20 b1d21 b1d22 b1d23 b1d24 b1d25 b1d26 b1d27 b1d28 hbk2 hbw2 b3c0 b3c1 b3c2 b3c3 b3c4 b3c5 b3c6 b3c7 b3c8 b1c0 b1c1 b1c2 b1c3 b1c4 b1c5 b1c6 b1c7 b1c8
  have HB15 : Hid (Below w.heap.size w W15) := Lib.hid (HB14.out.trans (hb.mono HB14.out.size))
  have HS15 : Hid (Below W14.heap.size W14 W15) := Lib.hid hb
  clear hb
  have b0_15 := Lib.hid (((HS15.out).cell (p := ⟨w.heap.size, 0, none⟩) b0l_14).trans b0_14.out)
  have b0l_15 := Nat.lt_of_lt_of_le b0l_14 HS15.out.size
  clear b0_14 b0l_14
  have b1_15 := Lib.hid ((b1_14.out).keep b1l_14 (HS15.out))
  have b1l_15 := Nat.lt_of_lt_of_le b1l_14 HS15.out.size
  clear b1_14 b1l_14
  have b2_15 := Lib.hid (((HS15.out).cell (p := ⟨W6.heap.size, 0, none⟩) b2l_14).trans b2_14.out)
  have b2l_15 := Nat.lt_of_lt_of_le b2l_14 HS15.out.size
  clear b2_14 b2l_14
  have b3_15 := Lib.hid ((b3_14.out).keep b3l_14 (HS15.out))
  have b3l_15 := Nat.lt_of_lt_of_le b3l_14 HS15.out.size
  clear b3_14 b3l_14
  have s4_15 := Lib.hid ((s4_14.out.below HS15.out).more HS15.out.size)
  clear s4_14
  have s5_15 := Lib.hid ((s5_14.out.below HS15.out).more HS15.out.size)
  clear s5_14
  have s6r_15 := Lib.hid ((s6r_14.out.below HS15.out).more HS15.out.size)
  clear s6r_14
  have s6w_15 := Lib.hid ((s6w_14.out.below HS15.out).more HS15.out.size)
  clear s6w_14
  have s8_15 := Lib.hid ((s8_14.out.below HS15.out).more HS15.out.size)
  clear s8_14
  go_wp2_with fail
  go_ret
  exact ⟨rfl, HB15.out⟩
/-! ### THE ROW's STEP -/
set_option maxRecDepth 100000 in
theorem lifted (os : Os) (started : os.Started) (H : Type) (enc : TypeId × Value → H) :
    ReturnsInHanded {} Try.checked os 6 .any (Rows.fnExactWriteCodeSpec.pre6 enc Try.prog Try.f6 Rows.fnExactWriteCodeRow.domain false) (Rows.fnExactWriteCodeSpec.post enc Try.prog Try.f6 false true false false) := by
  refine returnsInHanded_of_change (C := Try.checked) own started (by kernel_rfl) Try.func6
    (ChangeSpec.witness6 (enc := enc) (C := Try.checked) false ⟨#[], #[.agg #[.slice none 0 0], .slice none 0 0, .agg #[.int .i64 0, .int .i64 0, .int .i64 0, .int .i64 0, .int .i64 0, .int .i64 0, .int .i64 0, .slice none 0 0, .slice none 0 0], .int .i64 0], []⟩ 8 (by kernel_rfl) (by kernel_rfl) (by kernel_rfl) (by kernel_rfl)) ?_
  intro W base args ds gs before hval0 hW hcnd _
  have hval : ∀ (j : Nat) t v, Try.f6.params[j]? = some t → args[j]? = some v → Value.okWide Try.prog W .any base t v := hval0
  have hW' := hW
  obtain ⟨pp, qq, hA0, hV, rfl, hfz, hnd⟩ := hW
  have hA : DataW.TrodAll enc Try.prog W 0 (fun _ => true) true Try.f6.params.toList args.toList ds pp := hA0
  rw [Try.params6] at hA hval
  obtain ⟨v0, vs0, dd0, ds0, pp0, qq0, hargs, rfl, rfl, h0, r0⟩ := trodAll_cons hA
  obtain ⟨v1, vs1, dd1, ds1, pp1, qq1, rfl, rfl, rfl, h1, r1⟩ := trodAll_cons r0
  obtain ⟨v2, vs2, dd2, ds2, pp2, qq2, rfl, rfl, rfl, h2, r2⟩ := trodAll_cons r1
  obtain ⟨v3, vs3, dd3, ds3, pp3, qq3, rfl, rfl, rfl, h3, r3⟩ := trodAll_cons r2
  obtain ⟨rfl, rfl, rfl⟩ := trodAll_nil r3
  obtain rfl : args = #[v0, v1, v2, v3] := by cases args; simp_all
  obtain ⟨rfl, rfl⟩ := trodVars_none hV
  have k0 := h0
  have lt0 : ∀ x ∈ pp0, x.block < W.heap.size := by obtain ⟨m, hm⟩ := k0; exact DataW.trod_lt m _ _ _ hm
  obtain ⟨A0, n0, c0, L0, rfl, w0, m0⟩ := open_store (hval 0 48 v0 rfl rfl) h0
  have k1 := h1
  have lt1 : ∀ x ∈ pp1, x.block < W.heap.size := by obtain ⟨m, hm⟩ := k1; exact DataW.trod_lt m _ _ _ hm
  obtain ⟨A1, n1, c1, rfl⟩ := okWide_slice Try.underlying61 (hval 1 61 v1 rfl rfl)
  obtain ⟨L1, w1, m1⟩ := Go.Proofs.Ytdfhnngcddaccaa.rLock.open_slice1 h1
  have k2 := h2
  have lt2 : ∀ x ∈ pp2, x.block < W.heap.size := by obtain ⟨m, hm⟩ := k2; exact DataW.trod_lt m _ _ _ hm
  obtain ⟨x2, A2, n2, c2, R2, B2, p2, d2, Q2, rfl, w2, m2, u2, o2⟩ := open_tx (hval 2 52 v2 rfl rfl) h2
  obtain ⟨a3, rfl, rfl, rfl, w3⟩ := open_int Try.underlying3 (hval 3 3 v3 rfl rfl) h3
  clear hA0 hval0
  refine (walk A0 n0 c0 L0 A1 n1 c1 L1 x2 A2 n2 c2 R2 B2 p2 d2 Q2 a3 W w0 m0 w1 m1 w2 m2 u2 o2 w3).mono fun e W' ⟨he, bel⟩ => ?_
  subst he
  exact ⟨_, rfl, _, _, _, [], _, [], hW', trodAll_mk1 (shut_bool Try.underlying4 _), (trodAll_cons_mk (Below.trod laidOut (by kernel_rfl) (of_decide_eq_true (by kernel_rfl)) k0 bel lt0) (trodAll_cons_mk (Below.trod laidOut (by kernel_rfl) (of_decide_eq_true (by kernel_rfl)) k1 bel lt1) (trodAll_cons_mk (Below.trod laidOut (by kernel_rfl) (of_decide_eq_true (by kernel_rfl)) k2 bel lt2) (trodAll_cons_mk (shut_int Try.underlying3 w3) trodAll_mk0)))), rfl, bel.frame _, fun h => by cases h⟩

theorem over : Rows.fnExactWriteCodeRow.holds Try.pinned (OpenSpec.ofChange Rows.fnExactWriteCodeSpec) :=
  OpenClaim.holds_of_wide 6 Try.f6 rfl rfl rfl rfl rfl rfl rfl ⟨rfl, rfl, rfl, rfl, rfl⟩ rfl rfl rfl rfl rfl (by kernel_rfl) Try.func6 (by kernel_rfl)
    (of_decide_eq_true (by kernel_rfl)) (by unfold Func.isWrapper; first | (rw [if_pos (by decide +kernel)]; kernel_rfl) | (rw [if_neg (by decide +kernel)]; exact ⟨rfl, rfl⟩))
    (fun os started H enc _ => lifted os started H enc)

/-- THE STATEMENT -/
theorem proved : Rows.FnExactWriteCodeSaid := over
#print axioms proved
end Go.Proofs.Ytdfhnngcddaccaa.fnExactWriteCode
