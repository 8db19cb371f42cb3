/- ChooseVersion of the program answers as its model at every store, transaction and integer: the law returns true and writes nothing that was there. No condition. -/
import Derived.Test.YtdfhnngcddaccaaCho
import Derived.Test.YtdfhnngcddaccaaXv
import Derived.Test.YtdfhnngcddaccaaOpenS
import Derived.WalkKit
import Derived.ProofKit
import Derived.OpenShut
import Derived.ShutString
import Derived.ChangeOld
import Derived.Below
import Derived.Carry
import Derived.Lib.Hide
import Derived.StillTailTactics
import Derived.Deep.RegionHeld3
import Derived.Deep.DeepHandedRow
namespace Go.Proofs.Ytdfhnngcddaccaa.fnExactChooseVersion
open Go.ChangeShapes Go.WideShapes Go.ChangeAt Go.RowKit
open Go.ChangeMaps (open_string shut_string)
open Go.Proofs.Ytdfhnngcddaccaa.el2
open Go.Proofs.Ytdfhnngcddaccaa.tx
open Go.Proofs.Ytdfhnngcddaccaa.st
open Go.Proofs.Ytdfhnngcddaccaa.sl
open Go.Proofs.Ytdfhnngcddaccaa.opns
open Go.Proofs.Ytdfhnngcddaccaa.vers (new2 new3)
set_option linter.unusedVariables false
theorem own : ownKnob Try.prog.godebug = none := by kernel_rfl
theorem laidOut : laidOutB Try.prog = true := by kernel_rfl
set_option maxRecDepth 100000 in
set_option maxHeartbeats 12800000 in
theorem walk (A0 : Option Addr) (n0 c0 : Nat) (L0 : List (List Ver)) (x1 : Hd) (A1 : Option Addr) (n1 c1 : Nat) (R1 : List E2) (B1 : Option Addr) (p1 d1 : Nat) (Q1 : List E2) (a2 : Int) (w : World) (h0 : R0 w w.heap.size A0 n0 L0) (m0 : n0 ≤ maxLen) (h1 : Go.Proofs.Ytdfhnngcddaccaa.el2.Vs w w.heap.size A1 n1 R1) (m1 : n1 ≤ maxLen) (g1 : Go.Proofs.Ytdfhnngcddaccaa.el2.Vs w w.heap.size B1 p1 Q1) (o1 : p1 ≤ maxLen) (b2 : (Lit.int .i64 a2).wf = true) :
    Calls Try.prog 5 #[.agg #[.slice A0 n0 c0], .agg #[.int .i64 x1.i, .int .i64 x1.s, .int .i64 x1.t, .int .i64 x1.b, .int .i64 x1.l, .int .i64 x1.h, .int .i64 x1.c, .slice A1 n1 c1, .slice B1 p1 d1], .int .i64 a2] w fun e w' => e = .returned (.bool true) ∧ Below w.heap.size w w' := by
  unfold maxLen at m0
  have H0 := Lib.hid h0
  have hlen0 := h0.1
  clear h0
  unfold maxLen at m1 o1
  have H1 := Lib.hid h1
  have G1 := Lib.hid g1
  have hlen1 := h1.1
  have hlem1 := g1.1
  clear h1 g1
  clear b2
  by_cases hbig0 : (1048576 : Int) < tot L0
  · have hz := szR_no (left := (1048576 : Int)) (ll := L0) (by omega)
    have HZ0 := Lib.hid hz
    clear hz
    go_enter Try.func5, Try.ntmps5
    go_wp2_with fail
    have hx0 := one_cell w (.slice A0 n0 c0) 48
    replace hx0 := ((new1 (w.alloc (.cells #[.slice A0 n0 c0] 48)) (.cells #[.int .i64 x1.i, .int .i64 x1.s, .int .i64 x1.t, .int .i64 x1.b, .int .i64 x1.l, .int .i64 x1.h, .int .i64 x1.c, .slice A1 n1 c1, .slice B1 p1 d1] 52)).cell (p := ⟨w.heap.size, 0, none⟩) (by simp; try omega)).trans hx0
    have hl0 : w.heap.size < ((w.alloc (.cells #[.slice A0 n0 c0] 48)).alloc (.cells #[.int .i64 x1.i, .int .i64 x1.s, .int .i64 x1.t, .int .i64 x1.b, .int .i64 x1.l, .int .i64 x1.h, .int .i64 x1.c, .slice A1 n1 c1, .slice B1 p1 d1] 52)).heap.size := by simp; try omega
    have hx1 := TB.new (w.alloc (.cells #[.slice A0 n0 c0] 48)) x1 A1 n1 c1 B1 p1 d1 52
    rw [show (w.alloc (.cells #[.slice A0 n0 c0] 48)).heap.size = w.heap.size + 1 by simp] at hx1
    have hl1 : w.heap.size + 1 < ((w.alloc (.cells #[.slice A0 n0 c0] 48)).alloc (.cells #[.int .i64 x1.i, .int .i64 x1.s, .int .i64 x1.t, .int .i64 x1.b, .int .i64 x1.l, .int .i64 x1.h, .int .i64 x1.c, .slice A1 n1 c1, .slice B1 p1 d1] 52)).heap.size := by simp; try omega
    have hb := Go.Proofs.Ytdfhnngcddaccaa.vers.new2 w (.cells #[.slice A0 n0 c0] 48) (.cells #[.int .i64 x1.i, .int .i64 x1.s, .int .i64 x1.t, .int .i64 x1.b, .int .i64 x1.l, .int .i64 x1.h, .int .i64 x1.c, .slice A1 n1 c1, .slice B1 p1 d1] 52)
    generalize ((w.alloc (.cells #[.slice A0 n0 c0] 48)).alloc (.cells #[.int .i64 x1.i, .int .i64 x1.s, .int .i64 x1.t, .int .i64 x1.b, .int .i64 x1.l, .int .i64 x1.h, .int .i64 x1.c, .slice A1 n1 c1, .slice B1 p1 d1] 52)) = W1 at hx0 hl0 hx1 hl1 hb ⊢
    have HB1 : Hid (Below w.heap.size w W1) := Lib.hid hb
    have HS1 : Hid (Below w.heap.size w W1) := Lib.hid hb
    clear hb
    have b0_1 := Lib.hid hx0
    have b0l_1 := hl0
    clear hx0 hl0
    have b1_1 := Lib.hid hx1
    have b1l_1 := hl1
    clear hx1 hl1
    refine (count_store (by omega) (H0.out.below HB1.out) HB1.out.size (by omega) (by omega)).mono ?_
    rintro e W2 ⟨rfl, hb⟩
    rw [HZ0.out]
    have HB2 : Hid (Below w.heap.size w W2) := Lib.hid (HB1.out.trans (hb.mono HB1.out.size))
    have HS2 : Hid (Below W1.heap.size W1 W2) := Lib.hid hb
    clear hb
    have b0_2 := Lib.hid (((HS2.out).cell (p := ⟨w.heap.size, 0, none⟩) b0l_1).trans b0_1.out)
    have b0l_2 := Nat.lt_of_lt_of_le b0l_1 HS2.out.size
    clear b0_1 b0l_1
    have b1_2 := Lib.hid ((b1_1.out).keep b1l_1 (HS2.out))
    have b1l_2 := Nat.lt_of_lt_of_le b1l_1 HS2.out.size
    clear b1_1 b1l_1
    go_wp2_with fail
    go_ret
    exact ⟨rfl, HB2.out⟩
  have hz := szR_yes (left := (1048576 : Int)) (ll := L0) (by omega)
  have HZ0 := Lib.hid hz
  clear hz
  have htot0 := tot_eq L0
  have HR0 := Lib.hid (H0.out.tight (by omega))
  obtain ⟨lf0, hlf⟩ : ∃ lf : Int, lf = (1048576 : Int) - (tot L0 : Int) := ⟨_, rfl⟩
  have hz := HZ0.out
  clear HZ0
  rw [← hlf] at hz
  have HZ0 := Lib.hid hz
  have tz0 : decide (lf0 < 0) = false := decide_eq_false (by omega)
  have lf00 : 0 ≤ lf0 := by omega
  have lf10 : lf0 ≤ 1048576 := by omega
  clear hlf hz
  by_cases hbig1 : lf0 < n1 + p1
  · have hz := szT_no (left := lf0) (n := n1) (n2 := p1) (by omega)
    have HZ1 := Lib.hid hz
    clear hz
    go_enter Try.func5, Try.ntmps5
    go_wp2_with fail
    have hx0 := one_cell w (.slice A0 n0 c0) 48
    replace hx0 := ((new1 (w.alloc (.cells #[.slice A0 n0 c0] 48)) (.cells #[.int .i64 x1.i, .int .i64 x1.s, .int .i64 x1.t, .int .i64 x1.b, .int .i64 x1.l, .int .i64 x1.h, .int .i64 x1.c, .slice A1 n1 c1, .slice B1 p1 d1] 52)).cell (p := ⟨w.heap.size, 0, none⟩) (by simp; try omega)).trans hx0
    have hl0 : w.heap.size < ((w.alloc (.cells #[.slice A0 n0 c0] 48)).alloc (.cells #[.int .i64 x1.i, .int .i64 x1.s, .int .i64 x1.t, .int .i64 x1.b, .int .i64 x1.l, .int .i64 x1.h, .int .i64 x1.c, .slice A1 n1 c1, .slice B1 p1 d1] 52)).heap.size := by simp; try omega
    have hx1 := TB.new (w.alloc (.cells #[.slice A0 n0 c0] 48)) x1 A1 n1 c1 B1 p1 d1 52
    rw [show (w.alloc (.cells #[.slice A0 n0 c0] 48)).heap.size = w.heap.size + 1 by simp] at hx1
    have hl1 : w.heap.size + 1 < ((w.alloc (.cells #[.slice A0 n0 c0] 48)).alloc (.cells #[.int .i64 x1.i, .int .i64 x1.s, .int .i64 x1.t, .int .i64 x1.b, .int .i64 x1.l, .int .i64 x1.h, .int .i64 x1.c, .slice A1 n1 c1, .slice B1 p1 d1] 52)).heap.size := by simp; try omega
    have hb := Go.Proofs.Ytdfhnngcddaccaa.vers.new2 w (.cells #[.slice A0 n0 c0] 48) (.cells #[.int .i64 x1.i, .int .i64 x1.s, .int .i64 x1.t, .int .i64 x1.b, .int .i64 x1.l, .int .i64 x1.h, .int .i64 x1.c, .slice A1 n1 c1, .slice B1 p1 d1] 52)
    generalize ((w.alloc (.cells #[.slice A0 n0 c0] 48)).alloc (.cells #[.int .i64 x1.i, .int .i64 x1.s, .int .i64 x1.t, .int .i64 x1.b, .int .i64 x1.l, .int .i64 x1.h, .int .i64 x1.c, .slice A1 n1 c1, .slice B1 p1 d1] 52)) = W1 at hx0 hl0 hx1 hl1 hb ⊢
    have HB1 : Hid (Below w.heap.size w W1) := Lib.hid hb
    have HS1 : Hid (Below w.heap.size w W1) := Lib.hid hb
    clear hb
    have b0_1 := Lib.hid hx0
    have b0l_1 := hl0
    clear hx0 hl0
    have b1_1 := Lib.hid hx1
    have b1l_1 := hl1
    clear hx1 hl1
    refine (count_store (by omega) (H0.out.below HB1.out) HB1.out.size (by omega) (by omega)).mono ?_
    rintro e W2 ⟨rfl, hb⟩
    rw [HZ0.out]
    have HB2 : Hid (Below w.heap.size w W2) := Lib.hid (HB1.out.trans (hb.mono HB1.out.size))
    have HS2 : Hid (Below W1.heap.size W1 W2) := Lib.hid hb
    clear hb
    have b0_2 := Lib.hid (((HS2.out).cell (p := ⟨w.heap.size, 0, none⟩) b0l_1).trans b0_1.out)
    have b0l_2 := Nat.lt_of_lt_of_le b0l_1 HS2.out.size
    clear b0_1 b0l_1
    have b1_2 := Lib.hid ((b1_1.out).keep b1l_1 (HS2.out))
    have b1l_2 := Nat.lt_of_lt_of_le b1l_1 HS2.out.size
    clear b1_1 b1l_1
    obtain ⟨b1c0, b1c1, b1c2, b1c3, b1c4, b1c5, b1c6, b1c7, b1c8⟩ := b1_2.out
    go_wp2_with fail
    refine (count_tx x1 A1 n1 c1 B1 p1 d1 _ _ (by omega) (by omega) (by omega) (by omega)).mono ?_
    rintro e W3 ⟨rfl, hb⟩
    rw [HZ1.out]
    have HB3 : Hid (Below w.heap.size w W3) := Lib.hid (HB2.out.trans (hb.mono HB2.out.size))
    have HS3 : Hid (Below W2.heap.size W2 W3) := Lib.hid hb
    clear hb
    have b0_3 := Lib.hid (((HS3.out).cell (p := ⟨w.heap.size, 0, none⟩) b0l_2).trans b0_2.out)
    have b0l_3 := Nat.lt_of_lt_of_le b0l_2 HS3.out.size
    clear b0_2 b0l_2
    have b1_3 := Lib.hid ((b1_2.out).keep b1l_2 (HS3.out))
    have b1l_3 := Nat.lt_of_lt_of_le b1l_2 HS3.out.size
    clear b1_2 b1l_2
    clear b1c0 b1c1 b1c2 b1c3 b1c4 b1c5 b1c6 b1c7 b1c8
    go_wp2_with fail
    go_ret
    exact ⟨rfl, HB3.out⟩
  have hz := szT_yes (left := lf0) (n := n1) (n2 := p1) (by omega)
  have HZ1 := Lib.hid hz
  clear hz
  obtain ⟨lf1, hlf⟩ : ∃ lf : Int, lf = lf0 - (n1 : Int) - (p1 : Int) := ⟨_, rfl⟩
  have hz := HZ1.out
  clear HZ1
  rw [← hlf] at hz
  have HZ1 := Lib.hid hz
  have tz1 : decide (lf1 < 0) = false := decide_eq_false (by omega)
  have lf01 : 0 ≤ lf1 := by omega
  have lf11 : lf1 ≤ 1048576 := by omega
  clear hlf hz
  obtain ⟨m1, hm1⟩ : ∃ q, Go.Proofs.Ytdfhnngcddaccaa.sc.cvV L0 x1 R1 Q1 a2 = q := ⟨_, rfl⟩
  obtain ⟨q1, hq1⟩ : ∃ q, Go.Proofs.Ytdfhnngcddaccaa.sc.cvI L0 x1 R1 Q1 a2 = q := ⟨_, rfl⟩
  have HM1 := Lib.hid hm1
  have HQ1 := Lib.hid hq1
  clear hm1 hq1
  go_enter Try.func5, Try.ntmps5
  go_wp2_with fail
  have hx0 := one_cell w (.slice A0 n0 c0) 48
  replace hx0 := ((new1 (w.alloc (.cells #[.slice A0 n0 c0] 48)) (.cells #[.int .i64 x1.i, .int .i64 x1.s, .int .i64 x1.t, .int .i64 x1.b, .int .i64 x1.l, .int .i64 x1.h, .int .i64 x1.c, .slice A1 n1 c1, .slice B1 p1 d1] 52)).cell (p := ⟨w.heap.size, 0, none⟩) (by simp; try omega)).trans hx0
  have hl0 : w.heap.size < ((w.alloc (.cells #[.slice A0 n0 c0] 48)).alloc (.cells #[.int .i64 x1.i, .int .i64 x1.s, .int .i64 x1.t, .int .i64 x1.b, .int .i64 x1.l, .int .i64 x1.h, .int .i64 x1.c, .slice A1 n1 c1, .slice B1 p1 d1] 52)).heap.size := by simp; try omega
  have hx1 := TB.new (w.alloc (.cells #[.slice A0 n0 c0] 48)) x1 A1 n1 c1 B1 p1 d1 52
  rw [show (w.alloc (.cells #[.slice A0 n0 c0] 48)).heap.size = w.heap.size + 1 by simp] at hx1
  have hl1 : w.heap.size + 1 < ((w.alloc (.cells #[.slice A0 n0 c0] 48)).alloc (.cells #[.int .i64 x1.i, .int .i64 x1.s, .int .i64 x1.t, .int .i64 x1.b, .int .i64 x1.l, .int .i64 x1.h, .int .i64 x1.c, .slice A1 n1 c1, .slice B1 p1 d1] 52)).heap.size := by simp; try omega
  have hb := Go.Proofs.Ytdfhnngcddaccaa.vers.new2 w (.cells #[.slice A0 n0 c0] 48) (.cells #[.int .i64 x1.i, .int .i64 x1.s, .int .i64 x1.t, .int .i64 x1.b, .int .i64 x1.l, .int .i64 x1.h, .int .i64 x1.c, .slice A1 n1 c1, .slice B1 p1 d1] 52)
  generalize ((w.alloc (.cells #[.slice A0 n0 c0] 48)).alloc (.cells #[.int .i64 x1.i, .int .i64 x1.s, .int .i64 x1.t, .int .i64 x1.b, .int .i64 x1.l, .int .i64 x1.h, .int .i64 x1.c, .slice A1 n1 c1, .slice B1 p1 d1] 52)) = W1 at hx0 hl0 hx1 hl1 hb ⊢
  have HB1 : Hid (Below w.heap.size w W1) := Lib.hid hb
  have HS1 : Hid (Below w.heap.size w W1) := Lib.hid hb
  clear hb
  have b0_1 := Lib.hid hx0
  have b0l_1 := hl0
  clear hx0 hl0
  have b1_1 := Lib.hid hx1
  have b1l_1 := hl1
  clear hx1 hl1
  refine (count_store (by omega) (H0.out.below HB1.out) HB1.out.size (by omega) (by omega)).mono ?_
  rintro e W2 ⟨rfl, hb⟩
  rw [HZ0.out]
  have HB2 : Hid (Below w.heap.size w W2) := Lib.hid (HB1.out.trans (hb.mono HB1.out.size))
  have HS2 : Hid (Below W1.heap.size W1 W2) := Lib.hid hb
  clear hb
  have b0_2 := Lib.hid (((HS2.out).cell (p := ⟨w.heap.size, 0, none⟩) b0l_1).trans b0_1.out)
  have b0l_2 := Nat.lt_of_lt_of_le b0l_1 HS2.out.size
  clear b0_1 b0l_1
  have b1_2 := Lib.hid ((b1_1.out).keep b1l_1 (HS2.out))
  have b1l_2 := Nat.lt_of_lt_of_le b1l_1 HS2.out.size
  clear b1_1 b1l_1
  obtain ⟨b1c0, b1c1, b1c2, b1c3, b1c4, b1c5, b1c6, b1c7, b1c8⟩ := b1_2.out
  go_wp2_with fail
  refine (count_tx x1 A1 n1 c1 B1 p1 d1 _ _ (by omega) (by omega) (by omega) (by omega)).mono ?_
  rintro e W3 ⟨rfl, hb⟩
  rw [HZ1.out]
  have HB3 : Hid (Below w.heap.size w W3) := Lib.hid (HB2.out.trans (hb.mono HB2.out.size))
  have HS3 : Hid (Below W2.heap.size W2 W3) := Lib.hid hb
  clear hb
  have b0_3 := Lib.hid (((HS3.out).cell (p := ⟨w.heap.size, 0, none⟩) b0l_2).trans b0_2.out)
  have b0l_3 := Nat.lt_of_lt_of_le b0l_2 HS3.out.size
  clear b0_2 b0l_2
  have b1_3 := Lib.hid ((b1_2.out).keep b1l_2 (HS3.out))
  have b1l_3 := Nat.lt_of_lt_of_le b1l_2 HS3.out.size
  clear b1_2 b1l_2
  clear b1c0 b1c1 b1c2 b1c3 b1c4 b1c5 b1c6 b1c7 b1c8
  go_wp2_with fail
  go_cut [8, 9] from 24 to 32 (fun p b wx => ∃ b1 : Nat, p = .pointer (some ⟨b1, 0, none⟩) ∧ b = .int .i64 q1 ∧ Below W3.heap.size W3 wx ∧ Go.Proofs.Ytdfhnngcddaccaa.xv.RV W3 wx b1 m1)
  case first =>
    have hbk0 : Below W3.heap.size W3 W3.drew := (Below.refl _ _).drew
    have hbw0 := HB3.out.trans (hbk0.mono HB3.out.size)
    have b0c0 := b0_3.out
    obtain ⟨b1c0, b1c1, b1c2, b1c3, b1c4, b1c5, b1c6, b1c7, b1c8⟩ := b1_3.out
    go_region_held3 (fun w' => w'.cell? ⟨w.heap.size, 0, none⟩ = some (.slice A0 n0 c0) ∧ w'.cell? ⟨w.heap.size + 1, 0, none⟩ = some (.int .i64 x1.i) ∧ w'.cell? ⟨w.heap.size + 1, 1, none⟩ = some (.int .i64 x1.s) ∧ w'.cell? ⟨w.heap.size + 1, 2, none⟩ = some (.int .i64 x1.t) ∧ w'.cell? ⟨w.heap.size + 1, 3, none⟩ = some (.int .i64 x1.b) ∧ w'.cell? ⟨w.heap.size + 1, 4, none⟩ = some (.int .i64 x1.l) ∧ w'.cell? ⟨w.heap.size + 1, 5, none⟩ = some (.int .i64 x1.h) ∧ w'.cell? ⟨w.heap.size + 1, 6, none⟩ = some (.int .i64 x1.c) ∧ w'.cell? ⟨w.heap.size + 1, 7, none⟩ = some (.slice A1 n1 c1) ∧ w'.cell? ⟨w.heap.size + 1, 8, none⟩ = some (.slice B1 p1 d1)) (first | go_keep | (repeat' apply And.intro) <;> (repeat first | with_reducible assumption | with_reducible refine (Go.Proofs.Ytdfhnngcddaccaa.xv.cell5 (by simp only; omega)).trans ?_ | with_reducible refine (Go.Proofs.Ytdfhnngcddaccaa.xv.cellA (by first | (simp only; omega) | (simp; omega))).trans ?_)) (first | (go_at_call 24; (with_reducible refine (copy_store (by omega) (by omega) (HR0.out.below hbw0) (hbw0).size).mono ?_); rintro e Wa1 ⟨Ns1, rfl, hN, hv, hb⟩; clear hN; have hbk1 := hbk0.trans (hb.mono hbk0.size); have hbw1 := HB3.out.trans (hbk1.mono HB3.out.size); have hzs1 := hb.size; (try (have zb1 := zb1.call hb; have ltzb1_1 := zb1.mx.lt; have lozb1 := zb1.lo)); (try (have zc1 := zc1.call hb; have ltzc1_1 := zc1.mx.lt; have lozc1 := zc1.lo)); have s1a1 := hv; clear hb hv; have b0d10 := (((hbk1).cell (p := ⟨w.heap.size, 0, none⟩) b0l_3).trans b0_3.out); obtain ⟨b1d10, b1d11, b1d12, b1d13, b1d14, b1d15, b1d16, b1d17, b1d18⟩ := ((b1_3.out).keep b1l_3 (hbk1))) | (go_at_call 24; have hbk0Z : Below W3.heap.size W3 ((W3.alloc (.cells #[.int .i64 0, .int .i64 0, .int .i64 0, .int .i64 0, .int .i64 0] 34)).drew) := (Go.Proofs.Ytdfhnngcddaccaa.xv.bel_alloc (Below.refl W3.heap.size W3) (.cells #[.int .i64 0, .int .i64 0, .int .i64 0, .int .i64 0, .int .i64 0] 34)).drew; have hbw0Z := HB3.out.trans (hbk0Z.mono HB3.out.size); have zb1 : Go.Proofs.Ytdfhnngcddaccaa.xv.RV W3 ((W3.alloc (.cells #[.int .i64 0, .int .i64 0, .int .i64 0, .int .i64 0, .int .i64 0] 34)).drew) W3.heap.size ⟨0, 0, 0, 0, 0⟩ := (Go.Proofs.Ytdfhnngcddaccaa.xv.RV.zero (b := W3.heap.size) (Below.refl W3.heap.size W3) rfl).drew; (with_reducible refine (copy_store (by omega) (by omega) (HR0.out.below hbw0Z) (hbw0Z).size).mono ?_); rintro e Wa1 ⟨Ns1, rfl, hN, hv, hb⟩; clear hN; have hbk1 := hbk0Z.trans (hb.mono hbk0Z.size); have hbw1 := HB3.out.trans (hbk1.mono HB3.out.size); have hzs1 := hb.size; (try (have zb1 := zb1.call hb; have ltzb1_1 := zb1.mx.lt; have lozb1 := zb1.lo)); (try (have zc1 := zc1.call hb; have ltzc1_1 := zc1.mx.lt; have lozc1 := zc1.lo)); have s1a1 := hv; clear hb hv; have b0d10 := (((hbk1).cell (p := ⟨w.heap.size, 0, none⟩) b0l_3).trans b0_3.out); obtain ⟨b1d10, b1d11, b1d12, b1d13, b1d14, b1d15, b1d16, b1d17, b1d18⟩ := ((b1_3.out).keep b1l_3 (hbk1))) | (go_at_call 25; (with_reducible refine (Go.Proofs.Ytdfhnngcddaccaa.tx.copied_tx x1 (by omega) (by omega) (H1.out.below hbw1) (G1.out.below hbw1) (hbw1).size).mono ?_); rintro e Wa2 ⟨Ns2, Ms2, rfl, hv, hu, hb⟩; have hbk2 := hbk1.trans (hb.mono hbk1.size); have hbw2 := HB3.out.trans (hbk2.mono HB3.out.size); have hzs2 := hb.size; (try (have zb1 := zb1.call hb; have ltzb1_2 := zb1.mx.lt; have lozb1 := zb1.lo)); (try (have zc1 := zc1.call hb; have ltzc1_2 := zc1.mx.lt; have lozc1 := zc1.lo)); (try (have zb2 := zb2.call hb; have ltzb2_2 := zb2.mx.lt; have lozb2 := zb2.lo)); (try (have zc2 := zc2.call hb; have ltzc2_2 := zc2.mx.lt; have lozc2 := zc2.lo)); have s1a2 := (s1a1.below hb).more hb.size; have s2ra2 := hv; have s2wa2 := hu; clear hb hv hu; have b0d20 := (((hbk2).cell (p := ⟨w.heap.size, 0, none⟩) b0l_3).trans b0_3.out); obtain ⟨b1d20, b1d21, b1d22, b1d23, b1d24, b1d25, b1d26, b1d27, b1d28⟩ := ((b1_3.out).keep b1l_3 (hbk2))) | (go_at_call 25; have hbk1Z : Below W3.heap.size W3 ((Wa1.alloc (.cells #[.int .i64 0, .int .i64 0, .int .i64 0, .int .i64 0, .int .i64 0] 34))) := (Go.Proofs.Ytdfhnngcddaccaa.xv.bel_alloc hbk1 (.cells #[.int .i64 0, .int .i64 0, .int .i64 0, .int .i64 0, .int .i64 0] 34)); have hbw1Z := HB3.out.trans (hbk1Z.mono HB3.out.size); have zb2 : Go.Proofs.Ytdfhnngcddaccaa.xv.RV W3 ((Wa1.alloc (.cells #[.int .i64 0, .int .i64 0, .int .i64 0, .int .i64 0, .int .i64 0] 34))) Wa1.heap.size ⟨0, 0, 0, 0, 0⟩ := (Go.Proofs.Ytdfhnngcddaccaa.xv.RV.zero (b := Wa1.heap.size) hbk1 rfl); have hnn : Below Wa1.heap.size Wa1 ((Wa1.alloc (.cells #[.int .i64 0, .int .i64 0, .int .i64 0, .int .i64 0, .int .i64 0] 34))) := Go.Proofs.Ytdfhnngcddaccaa.el2.new1 Wa1 (.cells #[.int .i64 0, .int .i64 0, .int .i64 0, .int .i64 0, .int .i64 0] 34); have s1a1Z := (s1a1.below hnn).more hnn.size; (try have zb1 := zb1.call hnn); (try have zc1 := zc1.call hnn); (with_reducible refine (Go.Proofs.Ytdfhnngcddaccaa.tx.copied_tx x1 (by omega) (by omega) (H1.out.below hbw1Z) (G1.out.below hbw1Z) (hbw1Z).size).mono ?_); rintro e Wa2 ⟨Ns2, Ms2, rfl, hv, hu, hb⟩; have hbk2 := hbk1Z.trans (hb.mono hbk1Z.size); have hbw2 := HB3.out.trans (hbk2.mono HB3.out.size); have hzs2 := hb.size; (try (have zb1 := zb1.call hb; have ltzb1_2 := zb1.mx.lt; have lozb1 := zb1.lo)); (try (have zc1 := zc1.call hb; have ltzc1_2 := zc1.mx.lt; have lozc1 := zc1.lo)); (try (have zb2 := zb2.call hb; have ltzb2_2 := zb2.mx.lt; have lozb2 := zb2.lo)); (try (have zc2 := zc2.call hb; have ltzc2_2 := zc2.mx.lt; have lozc2 := zc2.lo)); have s1a2 := (s1a1Z.below hb).more hb.size; have s2ra2 := hv; have s2wa2 := hu; clear hb hv hu; have b0d20 := (((hbk2).cell (p := ⟨w.heap.size, 0, none⟩) b0l_3).trans b0_3.out); obtain ⟨b1d20, b1d21, b1d22, b1d23, b1d24, b1d25, b1d26, b1d27, b1d28⟩ := ((b1_3.out).keep b1l_3 (hbk2))) | (go_at_call 12; (with_reducible refine (Go.Proofs.Ytdfhnngcddaccaa.cho.spec_cv x1 a2 (by omega) (by omega) (by omega) s2ra2 s2wa2 s1a2 (Nat.le_refl _)).mono ?_); rintro e Wa3 ⟨he, hb⟩; rw [HM1.out, HQ1.out] at he; subst he; have hbk3 := hbk2.trans (hb.mono hbk2.size); have hbw3 := HB3.out.trans (hbk3.mono HB3.out.size); have hzs3 := hb.size; (try (have zb1 := zb1.call hb; have ltzb1_3 := zb1.mx.lt; have lozb1 := zb1.lo)); (try (have zc1 := zc1.call hb; have ltzc1_3 := zc1.mx.lt; have lozc1 := zc1.lo)); (try (have zb2 := zb2.call hb; have ltzb2_3 := zb2.mx.lt; have lozb2 := zb2.lo)); (try (have zc2 := zc2.call hb; have ltzc2_3 := zc2.mx.lt; have lozc2 := zc2.lo)); (try (have zb3 := zb3.call hb; have ltzb3_3 := zb3.mx.lt; have lozb3 := zb3.lo)); (try (have zc3 := zc3.call hb; have ltzc3_3 := zc3.mx.lt; have lozc3 := zc3.lo)); (try (obtain ⟨yzb1, xzb1, pzb1, qzb1, rzb1⟩ := zb1.mx.cells; have fzb1 := zb1.mx.fz 0; have gzb1 := zb1.mx.fz 1; have hzb1 := zb1.mx.fz 2; have izb1 := zb1.mx.fz 3; have jzb1 := zb1.mx.fz 4)); (try (obtain ⟨yzc1, xzc1, pzc1, qzc1, rzc1⟩ := zc1.mx.cells; have fzc1 := zc1.mx.fz 0; have gzc1 := zc1.mx.fz 1; have hzc1 := zc1.mx.fz 2; have izc1 := zc1.mx.fz 3; have jzc1 := zc1.mx.fz 4)); (try (obtain ⟨yzb2, xzb2, pzb2, qzb2, rzb2⟩ := zb2.mx.cells; have fzb2 := zb2.mx.fz 0; have gzb2 := zb2.mx.fz 1; have hzb2 := zb2.mx.fz 2; have izb2 := zb2.mx.fz 3; have jzb2 := zb2.mx.fz 4)); (try (obtain ⟨yzc2, xzc2, pzc2, qzc2, rzc2⟩ := zc2.mx.cells; have fzc2 := zc2.mx.fz 0; have gzc2 := zc2.mx.fz 1; have hzc2 := zc2.mx.fz 2; have izc2 := zc2.mx.fz 3; have jzc2 := zc2.mx.fz 4)); (try (obtain ⟨yzb3, xzb3, pzb3, qzb3, rzb3⟩ := zb3.mx.cells; have fzb3 := zb3.mx.fz 0; have gzb3 := zb3.mx.fz 1; have hzb3 := zb3.mx.fz 2; have izb3 := zb3.mx.fz 3; have jzb3 := zb3.mx.fz 4)); (try (obtain ⟨yzc3, xzc3, pzc3, qzc3, rzc3⟩ := zc3.mx.cells; have fzc3 := zc3.mx.fz 0; have gzc3 := zc3.mx.fz 1; have hzc3 := zc3.mx.fz 2; have izc3 := zc3.mx.fz 3; have jzc3 := zc3.mx.fz 4)); have s1a3 := (s1a2.below hb).more hb.size; have s2ra3 := (s2ra2.below hb).more hb.size; have s2wa3 := (s2wa2.below hb).more hb.size; clear hb; have b0d30 := (((hbk3).cell (p := ⟨w.heap.size, 0, none⟩) b0l_3).trans b0_3.out); obtain ⟨b1d30, b1d31, b1d32, b1d33, b1d34, b1d35, b1d36, b1d37, b1d38⟩ := ((b1_3.out).keep b1l_3 (hbk3))) | (go_at_call 12; have hbk2Z : Below W3.heap.size W3 ((Wa2.alloc (.cells #[.int .i64 0, .int .i64 0, .int .i64 0, .int .i64 0, .int .i64 0] 34))) := (Go.Proofs.Ytdfhnngcddaccaa.xv.bel_alloc hbk2 (.cells #[.int .i64 0, .int .i64 0, .int .i64 0, .int .i64 0, .int .i64 0] 34)); have hbw2Z := HB3.out.trans (hbk2Z.mono HB3.out.size); have zb3 : Go.Proofs.Ytdfhnngcddaccaa.xv.RV W3 ((Wa2.alloc (.cells #[.int .i64 0, .int .i64 0, .int .i64 0, .int .i64 0, .int .i64 0] 34))) Wa2.heap.size ⟨0, 0, 0, 0, 0⟩ := (Go.Proofs.Ytdfhnngcddaccaa.xv.RV.zero (b := Wa2.heap.size) hbk2 rfl); have hnn : Below Wa2.heap.size Wa2 ((Wa2.alloc (.cells #[.int .i64 0, .int .i64 0, .int .i64 0, .int .i64 0, .int .i64 0] 34))) := Go.Proofs.Ytdfhnngcddaccaa.el2.new1 Wa2 (.cells #[.int .i64 0, .int .i64 0, .int .i64 0, .int .i64 0, .int .i64 0] 34); have s1a2Z := (s1a2.below hnn).more hnn.size; have s2ra2Z := (s2ra2.below hnn).more hnn.size; have s2wa2Z := (s2wa2.below hnn).more hnn.size; (try have zb1 := zb1.call hnn); (try have zc1 := zc1.call hnn); (try have zb2 := zb2.call hnn); (try have zc2 := zc2.call hnn); (with_reducible refine (Go.Proofs.Ytdfhnngcddaccaa.cho.spec_cv x1 a2 (by omega) (by omega) (by omega) s2ra2Z s2wa2Z s1a2Z (Nat.le_refl _)).mono ?_); rintro e Wa3 ⟨he, hb⟩; rw [HM1.out, HQ1.out] at he; subst he; have hbk3 := hbk2Z.trans (hb.mono hbk2Z.size); have hbw3 := HB3.out.trans (hbk3.mono HB3.out.size); have hzs3 := hb.size; (try (have zb1 := zb1.call hb; have ltzb1_3 := zb1.mx.lt; have lozb1 := zb1.lo)); (try (have zc1 := zc1.call hb; have ltzc1_3 := zc1.mx.lt; have lozc1 := zc1.lo)); (try (have zb2 := zb2.call hb; have ltzb2_3 := zb2.mx.lt; have lozb2 := zb2.lo)); (try (have zc2 := zc2.call hb; have ltzc2_3 := zc2.mx.lt; have lozc2 := zc2.lo)); (try (have zb3 := zb3.call hb; have ltzb3_3 := zb3.mx.lt; have lozb3 := zb3.lo)); (try (have zc3 := zc3.call hb; have ltzc3_3 := zc3.mx.lt; have lozc3 := zc3.lo)); (try (obtain ⟨yzb1, xzb1, pzb1, qzb1, rzb1⟩ := zb1.mx.cells; have fzb1 := zb1.mx.fz 0; have gzb1 := zb1.mx.fz 1; have hzb1 := zb1.mx.fz 2; have izb1 := zb1.mx.fz 3; have jzb1 := zb1.mx.fz 4)); (try (obtain ⟨yzc1, xzc1, pzc1, qzc1, rzc1⟩ := zc1.mx.cells; have fzc1 := zc1.mx.fz 0; have gzc1 := zc1.mx.fz 1; have hzc1 := zc1.mx.fz 2; have izc1 := zc1.mx.fz 3; have jzc1 := zc1.mx.fz 4)); (try (obtain ⟨yzb2, xzb2, pzb2, qzb2, rzb2⟩ := zb2.mx.cells; have fzb2 := zb2.mx.fz 0; have gzb2 := zb2.mx.fz 1; have hzb2 := zb2.mx.fz 2; have izb2 := zb2.mx.fz 3; have jzb2 := zb2.mx.fz 4)); (try (obtain ⟨yzc2, xzc2, pzc2, qzc2, rzc2⟩ := zc2.mx.cells; have fzc2 := zc2.mx.fz 0; have gzc2 := zc2.mx.fz 1; have hzc2 := zc2.mx.fz 2; have izc2 := zc2.mx.fz 3; have jzc2 := zc2.mx.fz 4)); (try (obtain ⟨yzb3, xzb3, pzb3, qzb3, rzb3⟩ := zb3.mx.cells; have fzb3 := zb3.mx.fz 0; have gzb3 := zb3.mx.fz 1; have hzb3 := zb3.mx.fz 2; have izb3 := zb3.mx.fz 3; have jzb3 := zb3.mx.fz 4)); (try (obtain ⟨yzc3, xzc3, pzc3, qzc3, rzc3⟩ := zc3.mx.cells; have fzc3 := zc3.mx.fz 0; have gzc3 := zc3.mx.fz 1; have hzc3 := zc3.mx.fz 2; have izc3 := zc3.mx.fz 3; have jzc3 := zc3.mx.fz 4)); have s1a3 := (s1a2Z.below hb).more hb.size; have s2ra3 := (s2ra2Z.below hb).more hb.size; have s2wa3 := (s2wa2Z.below hb).more hb.size; clear hb; have b0d30 := (((hbk3).cell (p := ⟨w.heap.size, 0, none⟩) b0l_3).trans b0_3.out); obtain ⟨b1d30, b1d31, b1d32, b1d33, b1d34, b1d35, b1d36, b1d37, b1d38⟩ := ((b1_3.out).keep b1l_3 (hbk3))))
    all_goals (try go_wp2_with fail)
    all_goals go_meet
    all_goals (refine ⟨_, rfl, rfl, ?_, ?_⟩ <;> (repeat first | assumption | with_reducible exact hbk3 | with_reducible refine Go.Proofs.Ytdfhnngcddaccaa.xv.bel_alloc ?_ _ | with_reducible refine Go.Proofs.Ytdfhnngcddaccaa.xv.bel_put ?_ (by omega) | with_reducible refine Go.Proofs.Ytdfhnngcddaccaa.xv.RV.new ?_ (by first | rfl | simp) | with_reducible refine Go.Proofs.Ytdfhnngcddaccaa.xv.RV.putS (m0 := ⟨0, 0, 0, 0, 0⟩) ?_ | with_reducible refine Go.Proofs.Ytdfhnngcddaccaa.xv.RV.alloc ?_ _))
  case rest =>
    obtain ⟨bx1, rfl, rfl, hb, hr1⟩ := hcut
    obtain ⟨W4, hW⟩ : ∃ W, W = wc := ⟨_, rfl⟩
    subst hW
    have hx0 := hr1.mx
    clear hr1
    have HB4 : Hid (Below w.heap.size w W4) := Lib.hid (HB3.out.trans (hb.mono HB3.out.size))
    have HS4 : Hid (Below W3.heap.size W3 W4) := Lib.hid hb
    clear hb
    have b0_4 := Lib.hid (((HS4.out).cell (p := ⟨w.heap.size, 0, none⟩) b0l_3).trans b0_3.out)
    have b0l_4 := Nat.lt_of_lt_of_le b0l_3 HS4.out.size
    clear b0_3 b0l_3
    have b1_4 := Lib.hid ((b1_3.out).keep b1l_3 (HS4.out))
    have b1l_4 := Nat.lt_of_lt_of_le b1l_3 HS4.out.size
    clear b1_3 b1l_3
    have b2_4 := Lib.hid (Go.Proofs.Ytdfhnngcddaccaa.xv.Vx.at_ hx0)
    have b2l_4 := hx0.lt
    clear hx0
    have b0c0 := b0_4.out
    go_wp2_with fail
    refine (copy_store (by omega) (by omega) (HR0.out.below HB4.out) (HB4.out).size).mono ?_
    rintro e W5 ⟨Ns3, rfl, hN, hv, hb⟩
    clear hN
    have HB5 : Hid (Below w.heap.size w W5) := Lib.hid (HB4.out.trans (hb.mono HB4.out.size))
    have HS5 : Hid (Below W4.heap.size W4 W5) := Lib.hid hb
    clear hb
    have b0_5 := Lib.hid (((HS5.out).cell (p := ⟨w.heap.size, 0, none⟩) b0l_4).trans b0_4.out)
    have b0l_5 := Nat.lt_of_lt_of_le b0l_4 HS5.out.size
    clear b0_4 b0l_4
    have b1_5 := Lib.hid ((b1_4.out).keep b1l_4 (HS5.out))
    have b1l_5 := Nat.lt_of_lt_of_le b1l_4 HS5.out.size
    clear b1_4 b1l_4
    have b2_5 := Lib.hid ((b2_4.out).keep b2l_4 (HS5.out))
    have b2l_5 := Nat.lt_of_lt_of_le b2l_4 HS5.out.size
    clear b2_4 b2l_4
    have s3_5 := Lib.hid hv
    clear hv
    clear b0c0
    obtain ⟨b1c0, b1c1, b1c2, b1c3, b1c4, b1c5, b1c6, b1c7, b1c8⟩ := b1_5.out
    go_wp2_with fail
    have hx0 := one_cell W5 (.slice (some ⟨Ns3, 0, none⟩) n0 n0) 26
    have hl0 : W5.heap.size < (W5.alloc (.cells #[.slice (some ⟨Ns3, 0, none⟩) n0 n0] 26)).heap.size := by simp; try omega
    have hb := Go.Proofs.Ytdfhnngcddaccaa.el2.new1 W5 (.cells #[.slice (some ⟨Ns3, 0, none⟩) n0 n0] 26)
    generalize (W5.alloc (.cells #[.slice (some ⟨Ns3, 0, none⟩) n0 n0] 26)) = W6 at hx0 hl0 hb ⊢
    have HB6 : Hid (Below w.heap.size w W6) := Lib.hid (HB5.out.trans (hb.mono HB5.out.size))
    have HS6 : Hid (Below W5.heap.size W5 W6) := Lib.hid hb
    clear hb
    have b0_6 := Lib.hid (((HS6.out).cell (p := ⟨w.heap.size, 0, none⟩) b0l_5).trans b0_5.out)
    have b0l_6 := Nat.lt_of_lt_of_le b0l_5 HS6.out.size
    clear b0_5 b0l_5
    have b1_6 := Lib.hid ((b1_5.out).keep b1l_5 (HS6.out))
    have b1l_6 := Nat.lt_of_lt_of_le b1l_5 HS6.out.size
    clear b1_5 b1l_5
    have b2_6 := Lib.hid ((b2_5.out).keep b2l_5 (HS6.out))
    have b2l_6 := Nat.lt_of_lt_of_le b2l_5 HS6.out.size
    clear b2_5 b2l_5
    have s3_6 := Lib.hid ((s3_5.out.below HS6.out).more HS6.out.size)
    clear s3_5
    have b3_6 := Lib.hid hx0
    have b3l_6 := hl0
    clear hx0 hl0
    refine (Go.Proofs.Ytdfhnngcddaccaa.tx.copied_tx x1 (by omega) (by omega) (H1.out.below HB6.out) (G1.out.below HB6.out) (HB6.out).size).mono ?_
    rintro e W7 ⟨Ns4, Ms4, rfl, hv, hu, hb⟩
    have HB7 : Hid (Below w.heap.size w W7) := Lib.hid (HB6.out.trans (hb.mono HB6.out.size))
    have HS7 : Hid (Below W6.heap.size W6 W7) := Lib.hid hb
    clear hb
    have b0_7 := Lib.hid (((HS7.out).cell (p := ⟨w.heap.size, 0, none⟩) b0l_6).trans b0_6.out)
    have b0l_7 := Nat.lt_of_lt_of_le b0l_6 HS7.out.size
    clear b0_6 b0l_6
    have b1_7 := Lib.hid ((b1_6.out).keep b1l_6 (HS7.out))
    have b1l_7 := Nat.lt_of_lt_of_le b1l_6 HS7.out.size
    clear b1_6 b1l_6
    have b2_7 := Lib.hid ((b2_6.out).keep b2l_6 (HS7.out))
    have b2l_7 := Nat.lt_of_lt_of_le b2l_6 HS7.out.size
    clear b2_6 b2l_6
    have b3_7 := Lib.hid (((HS7.out).cell (p := ⟨W5.heap.size, 0, none⟩) b3l_6).trans b3_6.out)
    have b3l_7 := Nat.lt_of_lt_of_le b3l_6 HS7.out.size
    clear b3_6 b3l_6
    have s3_7 := Lib.hid ((s3_6.out.below HS7.out).more HS7.out.size)
    clear s3_6
    have s4r_7 := Lib.hid hv
    clear hv
    have s4w_7 := Lib.hid hu
    clear hu
    clear b1c0 b1c1 b1c2 b1c3 b1c4 b1c5 b1c6 b1c7 b1c8
    have b3c0 := b3_7.out
    go_wp2_with fail
    have hx0 := TB.new W7 x1 (some ⟨Ns4, 0, none⟩) n1 n1 (some ⟨Ms4, 0, none⟩) p1 p1 30
    have hl0 : W7.heap.size < (W7.alloc (.cells #[.int .i64 x1.i, .int .i64 x1.s, .int .i64 x1.t, .int .i64 x1.b, .int .i64 x1.l, .int .i64 x1.h, .int .i64 x1.c, .slice (some ⟨Ns4, 0, none⟩) n1 n1, .slice (some ⟨Ms4, 0, none⟩) p1 p1] 30)).heap.size := by simp; try omega
    have hb := Go.Proofs.Ytdfhnngcddaccaa.el2.new1 W7 (.cells #[.int .i64 x1.i, .int .i64 x1.s, .int .i64 x1.t, .int .i64 x1.b, .int .i64 x1.l, .int .i64 x1.h, .int .i64 x1.c, .slice (some ⟨Ns4, 0, none⟩) n1 n1, .slice (some ⟨Ms4, 0, none⟩) p1 p1] 30)
    generalize (W7.alloc (.cells #[.int .i64 x1.i, .int .i64 x1.s, .int .i64 x1.t, .int .i64 x1.b, .int .i64 x1.l, .int .i64 x1.h, .int .i64 x1.c, .slice (some ⟨Ns4, 0, none⟩) n1 n1, .slice (some ⟨Ms4, 0, none⟩) p1 p1] 30)) = W8 at hx0 hl0 hb ⊢
    have HB8 : Hid (Below w.heap.size w W8) := Lib.hid (HB7.out.trans (hb.mono HB7.out.size))
    have HS8 : Hid (Below W7.heap.size W7 W8) := Lib.hid hb
    clear hb
    have b0_8 := Lib.hid (((HS8.out).cell (p := ⟨w.heap.size, 0, none⟩) b0l_7).trans b0_7.out)
    have b0l_8 := Nat.lt_of_lt_of_le b0l_7 HS8.out.size
    clear b0_7 b0l_7
    have b1_8 := Lib.hid ((b1_7.out).keep b1l_7 (HS8.out))
    have b1l_8 := Nat.lt_of_lt_of_le b1l_7 HS8.out.size
    clear b1_7 b1l_7
    have b2_8 := Lib.hid ((b2_7.out).keep b2l_7 (HS8.out))
    have b2l_8 := Nat.lt_of_lt_of_le b2l_7 HS8.out.size
    clear b2_7 b2l_7
    have b3_8 := Lib.hid (((HS8.out).cell (p := ⟨W5.heap.size, 0, none⟩) b3l_7).trans b3_7.out)
    have b3l_8 := Nat.lt_of_lt_of_le b3l_7 HS8.out.size
    clear b3_7 b3l_7
    have s3_8 := Lib.hid ((s3_7.out.below HS8.out).more HS8.out.size)
    clear s3_7
    have s4r_8 := Lib.hid ((s4r_7.out.below HS8.out).more HS8.out.size)
    clear s4r_7
    have s4w_8 := Lib.hid ((s4w_7.out.below HS8.out).more HS8.out.size)
    clear s4w_7
    have b4_8 := Lib.hid hx0
    have b4l_8 := hl0
    clear hx0 hl0
    refine (Go.Proofs.Ytdfhnngcddaccaa.cho.impl_cv x1 a2 (by omega) (by omega) (by omega) s4r_8.out s4w_8.out s3_8.out (Nat.le_refl _)).mono ?_
    rintro e W9 ⟨he, hb⟩
    rw [HM1.out, HQ1.out] at he
    subst he
    have HB9 : Hid (Below w.heap.size w W9) := Lib.hid (HB8.out.trans (hb.mono HB8.out.size))
    have HS9 : Hid (Below W8.heap.size W8 W9) := Lib.hid hb
    clear hb
    have b0_9 := Lib.hid (((HS9.out).cell (p := ⟨w.heap.size, 0, none⟩) b0l_8).trans b0_8.out)
    have b0l_9 := Nat.lt_of_lt_of_le b0l_8 HS9.out.size
    clear b0_8 b0l_8
    have b1_9 := Lib.hid ((b1_8.out).keep b1l_8 (HS9.out))
    have b1l_9 := Nat.lt_of_lt_of_le b1l_8 HS9.out.size
    clear b1_8 b1l_8
    have b2_9 := Lib.hid ((b2_8.out).keep b2l_8 (HS9.out))
    have b2l_9 := Nat.lt_of_lt_of_le b2l_8 HS9.out.size
    clear b2_8 b2l_8
    have b3_9 := Lib.hid (((HS9.out).cell (p := ⟨W5.heap.size, 0, none⟩) b3l_8).trans b3_8.out)
    have b3l_9 := Nat.lt_of_lt_of_le b3l_8 HS9.out.size
    clear b3_8 b3l_8
    have b4_9 := Lib.hid ((b4_8.out).keep b4l_8 (HS9.out))
    have b4l_9 := Nat.lt_of_lt_of_le b4l_8 HS9.out.size
    clear b4_8 b4l_8
    have s3_9 := Lib.hid ((s3_8.out.below HS9.out).more HS9.out.size)
    clear s3_8
    have s4r_9 := Lib.hid ((s4r_8.out.below HS9.out).more HS9.out.size)
    clear s4r_8
    have s4w_9 := Lib.hid ((s4w_8.out.below HS9.out).more HS9.out.size)
    clear s4w_8
    clear b3c0
    obtain ⟨b2c0, b2c1, b2c2, b2c3, b2c4⟩ := Go.Proofs.Ytdfhnngcddaccaa.ch.atFlat (b2_9.out)
    go_wp2_with fail
    have hx0 := Go.Proofs.Ytdfhnngcddaccaa.xv.Vx.at_ (Go.Proofs.Ytdfhnngcddaccaa.xv.Vx.new W9 m1)
    have hl0 : W9.heap.size < (W9.alloc (.cells #[.int .i64 m1.a, .int .i64 m1.b, .int .i64 m1.c, .int .i64 m1.d, .int .i64 m1.e] 34)).heap.size := by simp; try omega
    have hb := Go.Proofs.Ytdfhnngcddaccaa.el2.new1 W9 (.cells #[.int .i64 m1.a, .int .i64 m1.b, .int .i64 m1.c, .int .i64 m1.d, .int .i64 m1.e] 34)
    generalize (W9.alloc (.cells #[.int .i64 m1.a, .int .i64 m1.b, .int .i64 m1.c, .int .i64 m1.d, .int .i64 m1.e] 34)) = W10 at hx0 hl0 hb ⊢
    have HB10 : Hid (Below w.heap.size w W10) := Lib.hid (HB9.out.trans (hb.mono HB9.out.size))
    have HS10 : Hid (Below W9.heap.size W9 W10) := Lib.hid hb
    clear hb
    have b0_10 := Lib.hid (((HS10.out).cell (p := ⟨w.heap.size, 0, none⟩) b0l_9).trans b0_9.out)
    have b0l_10 := Nat.lt_of_lt_of_le b0l_9 HS10.out.size
    clear b0_9 b0l_9
    have b1_10 := Lib.hid ((b1_9.out).keep b1l_9 (HS10.out))
    have b1l_10 := Nat.lt_of_lt_of_le b1l_9 HS10.out.size
    clear b1_9 b1l_9
    have b2_10 := Lib.hid ((b2_9.out).keep b2l_9 (HS10.out))
    have b2l_10 := Nat.lt_of_lt_of_le b2l_9 HS10.out.size
    clear b2_9 b2l_9
    have b3_10 := Lib.hid (((HS10.out).cell (p := ⟨W5.heap.size, 0, none⟩) b3l_9).trans b3_9.out)
    have b3l_10 := Nat.lt_of_lt_of_le b3l_9 HS10.out.size
    clear b3_9 b3l_9
    have b4_10 := Lib.hid ((b4_9.out).keep b4l_9 (HS10.out))
    have b4l_10 := Nat.lt_of_lt_of_le b4l_9 HS10.out.size
    clear b4_9 b4l_9
    have s3_10 := Lib.hid ((s3_9.out.below HS10.out).more HS10.out.size)
    clear s3_9
    have s4r_10 := Lib.hid ((s4r_9.out.below HS10.out).more HS10.out.size)
    clear s4r_9
    have s4w_10 := Lib.hid ((s4w_9.out.below HS10.out).more HS10.out.size)
    clear s4w_9
    have b5_10 := Lib.hid hx0
    have b5l_10 := hl0
    clear hx0 hl0
    refine (Go.Proofs.Ytdfhnngcddaccaa.xv.eq_self m1 _).mono ?_
    rintro e W11 ⟨rfl, hb⟩
    have HB11 : Hid (Below w.heap.size w W11) := Lib.hid (HB10.out.trans (hb.mono HB10.out.size))
    have HS11 : Hid (Below W10.heap.size W10 W11) := Lib.hid hb
    clear hb
    have b0_11 := Lib.hid (((HS11.out).cell (p := ⟨w.heap.size, 0, none⟩) b0l_10).trans b0_10.out)
    have b0l_11 := Nat.lt_of_lt_of_le b0l_10 HS11.out.size
    clear b0_10 b0l_10
    have b1_11 := Lib.hid ((b1_10.out).keep b1l_10 (HS11.out))
    have b1l_11 := Nat.lt_of_lt_of_le b1l_10 HS11.out.size
    clear b1_10 b1l_10
    have b2_11 := Lib.hid ((b2_10.out).keep b2l_10 (HS11.out))
    have b2l_11 := Nat.lt_of_lt_of_le b2l_10 HS11.out.size
    clear b2_10 b2l_10
    have b3_11 := Lib.hid (((HS11.out).cell (p := ⟨W5.heap.size, 0, none⟩) b3l_10).trans b3_10.out)
    have b3l_11 := Nat.lt_of_lt_of_le b3l_10 HS11.out.size
    clear b3_10 b3l_10
    have b4_11 := Lib.hid ((b4_10.out).keep b4l_10 (HS11.out))
    have b4l_11 := Nat.lt_of_lt_of_le b4l_10 HS11.out.size
    clear b4_10 b4l_10
    have b5_11 := Lib.hid ((b5_10.out).keep b5l_10 (HS11.out))
    have b5l_11 := Nat.lt_of_lt_of_le b5l_10 HS11.out.size
    clear b5_10 b5l_10
    have s3_11 := Lib.hid ((s3_10.out.below HS11.out).more HS11.out.size)
    clear s3_10
    have s4r_11 := Lib.hid ((s4r_10.out.below HS11.out).more HS11.out.size)
    clear s4r_10
    have s4w_11 := Lib.hid ((s4w_10.out.below HS11.out).more HS11.out.size)
    clear s4w_10
    clear b2c0 b2c1 b2c2 b2c3 b2c4
    go_wp2_with fail
    have hbk0 : Below W11.heap.size W11 W11.drew := (Below.refl _ _).drew
    have hbw0 := HB11.out.trans (hbk0.mono HB11.out.size)
    have b3c0 := b3_11.out
    have b0c0 := b0_11.out
    go_region_held3 (fun w' => w'.cell? ⟨W5.heap.size, 0, none⟩ = some (.slice (some ⟨Ns3, 0, none⟩) n0 n0) ∧ w'.cell? ⟨w.heap.size, 0, none⟩ = some (.slice A0 n0 c0)) (go_keep) (first | (go_at_call 27; (with_reducible refine (same_store (by omega) ((s3_11.out.below hbk1).more hbk1.size) s5a1 (Nat.le_refl _)).mono ?_); rintro e W12 ⟨rfl, hb⟩; have hbk2 := hbk1.trans (hb.mono hbk1.size); have hbw2 := HB11.out.trans (hbk2.mono HB11.out.size); have s5a2 := (s5a1.below hb).more hb.size; clear hb ; have b3d20 := (((hbk2).cell (p := ⟨W5.heap.size, 0, none⟩) b3l_11).trans b3_11.out); have b0d20 := (((hbk2).cell (p := ⟨w.heap.size, 0, none⟩) b0l_11).trans b0_11.out)) | (go_at_call 24; (with_reducible refine (copy_store (by omega) (by omega) (HR0.out.below hbw0) (hbw0).size).mono ?_); rintro e Wa1 ⟨Ns5, rfl, hN, hv, hb⟩; clear hN; have hbk1 := hbk0.trans (hb.mono hbk0.size); have hbw1 := HB11.out.trans (hbk1.mono HB11.out.size); have s5a1 := hv; clear hb hv; have b3d10 := (((hbk1).cell (p := ⟨W5.heap.size, 0, none⟩) b3l_11).trans b3_11.out); have b0d10 := (((hbk1).cell (p := ⟨w.heap.size, 0, none⟩) b0l_11).trans b0_11.out)))
    have hb := hbk2
    clear hbk0 hbw0 s5a1 b3d10 b0d10 hbk1 hbw1 s5a2 b3d20 b0d20 hbk2 hbw2 b3c0 b0c0
    have HB12 : Hid (Below w.heap.size w W12) := Lib.hid (HB11.out.trans (hb.mono HB11.out.size))
    have HS12 : Hid (Below W11.heap.size W11 W12) := Lib.hid hb
    clear hb
    have b0_12 := Lib.hid (((HS12.out).cell (p := ⟨w.heap.size, 0, none⟩) b0l_11).trans b0_11.out)
    have b0l_12 := Nat.lt_of_lt_of_le b0l_11 HS12.out.size
    clear b0_11 b0l_11
    have b1_12 := Lib.hid ((b1_11.out).keep b1l_11 (HS12.out))
    have b1l_12 := Nat.lt_of_lt_of_le b1l_11 HS12.out.size
    clear b1_11 b1l_11
    have b2_12 := Lib.hid ((b2_11.out).keep b2l_11 (HS12.out))
    have b2l_12 := Nat.lt_of_lt_of_le b2l_11 HS12.out.size
    clear b2_11 b2l_11
    have b3_12 := Lib.hid (((HS12.out).cell (p := ⟨W5.heap.size, 0, none⟩) b3l_11).trans b3_11.out)
    have b3l_12 := Nat.lt_of_lt_of_le b3l_11 HS12.out.size
    clear b3_11 b3l_11
    have b4_12 := Lib.hid ((b4_11.out).keep b4l_11 (HS12.out))
    have b4l_12 := Nat.lt_of_lt_of_le b4l_11 HS12.out.size
    clear b4_11 b4l_11
    have b5_12 := Lib.hid ((b5_11.out).keep b5l_11 (HS12.out))
    have b5l_12 := Nat.lt_of_lt_of_le b5l_11 HS12.out.size
    clear b5_11 b5l_11
    have s3_12 := Lib.hid ((s3_11.out.below HS12.out).more HS12.out.size)
    clear s3_11
    have s4r_12 := Lib.hid ((s4r_11.out.below HS12.out).more HS12.out.size)
    clear s4r_11
    have s4w_12 := Lib.hid ((s4w_11.out.below HS12.out).more HS12.out.size)
    clear s4w_11
    go_wp2_with fail
    have hbk0 : Below W12.heap.size W12 W12.drew := (Below.refl _ _).drew
    have hbw0 := HB12.out.trans (hbk0.mono HB12.out.size)
    obtain ⟨b4c0, b4c1, b4c2, b4c3, b4c4, b4c5, b4c6, b4c7, b4c8⟩ := b4_12.out
    obtain ⟨b1c0, b1c1, b1c2, b1c3, b1c4, b1c5, b1c6, b1c7, b1c8⟩ := b1_12.out
    go_region_held3 (fun w' => w'.cell? ⟨W7.heap.size, 0, none⟩ = some (.int .i64 x1.i) ∧ w'.cell? ⟨W7.heap.size, 1, none⟩ = some (.int .i64 x1.s) ∧ w'.cell? ⟨W7.heap.size, 2, none⟩ = some (.int .i64 x1.t) ∧ w'.cell? ⟨W7.heap.size, 3, none⟩ = some (.int .i64 x1.b) ∧ w'.cell? ⟨W7.heap.size, 4, none⟩ = some (.int .i64 x1.l) ∧ w'.cell? ⟨W7.heap.size, 5, none⟩ = some (.int .i64 x1.h) ∧ w'.cell? ⟨W7.heap.size, 6, none⟩ = some (.int .i64 x1.c) ∧ w'.cell? ⟨W7.heap.size, 7, none⟩ = some (.slice (some ⟨Ns4, 0, none⟩) n1 n1) ∧ w'.cell? ⟨W7.heap.size, 8, none⟩ = some (.slice (some ⟨Ms4, 0, none⟩) p1 p1) ∧ w'.cell? ⟨w.heap.size + 1, 0, none⟩ = some (.int .i64 x1.i) ∧ w'.cell? ⟨w.heap.size + 1, 1, none⟩ = some (.int .i64 x1.s) ∧ w'.cell? ⟨w.heap.size + 1, 2, none⟩ = some (.int .i64 x1.t) ∧ w'.cell? ⟨w.heap.size + 1, 3, none⟩ = some (.int .i64 x1.b) ∧ w'.cell? ⟨w.heap.size + 1, 4, none⟩ = some (.int .i64 x1.l) ∧ w'.cell? ⟨w.heap.size + 1, 5, none⟩ = some (.int .i64 x1.h) ∧ w'.cell? ⟨w.heap.size + 1, 6, none⟩ = some (.int .i64 x1.c) ∧ w'.cell? ⟨w.heap.size + 1, 7, none⟩ = some (.slice A1 n1 c1) ∧ w'.cell? ⟨w.heap.size + 1, 8, none⟩ = some (.slice B1 p1 d1)) (go_keep) (first | (go_at_call 28; (with_reducible refine (same_tx x1 (by omega) (by omega) ((s4r_12.out.below hbk1).more hbk1.size) s6ra1 ((s4w_12.out.below hbk1).more hbk1.size) s6wa1 (Nat.le_refl _)).mono ?_); rintro e W13 ⟨rfl, hb⟩; have hbk2 := hbk1.trans (hb.mono hbk1.size); have hbw2 := HB12.out.trans (hbk2.mono HB12.out.size); have s6ra2 := (s6ra1.below hb).more hb.size; have s6wa2 := (s6wa1.below hb).more hb.size; clear hb ; obtain ⟨b4d20, b4d21, b4d22, b4d23, b4d24, b4d25, b4d26, b4d27, b4d28⟩ := ((b4_12.out).keep b4l_12 (hbk2)); obtain ⟨b1d20, b1d21, b1d22, b1d23, b1d24, b1d25, b1d26, b1d27, b1d28⟩ := ((b1_12.out).keep b1l_12 (hbk2))) | (go_at_call 25; (with_reducible refine (Go.Proofs.Ytdfhnngcddaccaa.tx.copied_tx x1 (by omega) (by omega) (H1.out.below hbw0) (G1.out.below hbw0) (hbw0).size).mono ?_); rintro e Wa1 ⟨Ns6, Ms6, rfl, hv, hu, hb⟩; have hbk1 := hbk0.trans (hb.mono hbk0.size); have hbw1 := HB12.out.trans (hbk1.mono HB12.out.size); have s6ra1 := hv; have s6wa1 := hu; clear hb hv hu; obtain ⟨b4d10, b4d11, b4d12, b4d13, b4d14, b4d15, b4d16, b4d17, b4d18⟩ := ((b4_12.out).keep b4l_12 (hbk1)); obtain ⟨b1d10, b1d11, b1d12, b1d13, b1d14, b1d15, b1d16, b1d17, b1d18⟩ := ((b1_12.out).keep b1l_12 (hbk1))))
    have hb := hbk2
    clear hbk0 hbw0 s6ra1 s6wa1 b4d10 b4d11 b4d12 b4d13 b4d14 b4d15 b4d16 b4d17 b4d18 b1d10 b1d11 b1d12 b1d13 b1d14 b1d15 b1d16 b1d17 b1d18 hbk1 hbw1 s6ra2 s6wa2 b4d20 b4d21 b4d22 b4d23 b4d24 b4d25 b4d26 b4d27 b4d28 b1d20 b1d21 b1d22 b1d23 b1d24 b1d25 b1d26 b1d27 b1d28 hbk2 hbw2 b4c0 b4c1 b4c2 b4c3 b4c4 b4c5 b4c6 b4c7 b4c8 b1c0 b1c1 b1c2 b1c3 b1c4 b1c5 b1c6 b1c7 b1c8
    have HB13 : Hid (Below w.heap.size w W13) := Lib.hid (HB12.out.trans (hb.mono HB12.out.size))
    have HS13 : Hid (Below W12.heap.size W12 W13) := Lib.hid hb
    clear hb
    have b0_13 := Lib.hid (((HS13.out).cell (p := ⟨w.heap.size, 0, none⟩) b0l_12).trans b0_12.out)
    have b0l_13 := Nat.lt_of_lt_of_le b0l_12 HS13.out.size
    clear b0_12 b0l_12
    have b1_13 := Lib.hid ((b1_12.out).keep b1l_12 (HS13.out))
    have b1l_13 := Nat.lt_of_lt_of_le b1l_12 HS13.out.size
    clear b1_12 b1l_12
    have b2_13 := Lib.hid ((b2_12.out).keep b2l_12 (HS13.out))
    have b2l_13 := Nat.lt_of_lt_of_le b2l_12 HS13.out.size
    clear b2_12 b2l_12
    have b3_13 := Lib.hid (((HS13.out).cell (p := ⟨W5.heap.size, 0, none⟩) b3l_12).trans b3_12.out)
    have b3l_13 := Nat.lt_of_lt_of_le b3l_12 HS13.out.size
    clear b3_12 b3l_12
    have b4_13 := Lib.hid ((b4_12.out).keep b4l_12 (HS13.out))
    have b4l_13 := Nat.lt_of_lt_of_le b4l_12 HS13.out.size
    clear b4_12 b4l_12
    have b5_13 := Lib.hid ((b5_12.out).keep b5l_12 (HS13.out))
    have b5l_13 := Nat.lt_of_lt_of_le b5l_12 HS13.out.size
    clear b5_12 b5l_12
    have s3_13 := Lib.hid ((s3_12.out.below HS13.out).more HS13.out.size)
    clear s3_12
    have s4r_13 := Lib.hid ((s4r_12.out.below HS13.out).more HS13.out.size)
    clear s4r_12
    have s4w_13 := Lib.hid ((s4w_12.out.below HS13.out).more HS13.out.size)
    clear s4w_12
    go_wp2_with fail
    go_ret
    exact ⟨rfl, HB13.out⟩
/-! ### THE ROW's STEP -/
set_option maxRecDepth 100000 in
theorem lifted (os : Os) (started : os.Started) (H : Type) (enc : TypeId × Value → H) :
    ReturnsInHanded {} Try.checked os 5 .any (Rows.fnExactChooseVersionSpec.pre6 enc Try.prog Try.f5 Rows.fnExactChooseVersionRow.domain false) (Rows.fnExactChooseVersionSpec.post enc Try.prog Try.f5 false true false false) := by
  refine returnsInHanded_of_change (C := Try.checked) own started (by kernel_rfl) Try.func5
    (ChangeSpec.witness6 (enc := enc) (C := Try.checked) false ⟨#[], #[.agg #[.slice none 0 0], .agg #[.int .i64 0, .int .i64 0, .int .i64 0, .int .i64 0, .int .i64 0, .int .i64 0, .int .i64 0, .slice none 0 0, .slice none 0 0], .int .i64 0], []⟩ 8 (by kernel_rfl) (by kernel_rfl) (by kernel_rfl) (by kernel_rfl)) ?_
  intro W base args ds gs before hval0 hW hcnd _
  have hval : ∀ (j : Nat) t v, Try.f5.params[j]? = some t → args[j]? = some v → Value.okWide Try.prog W .any base t v := hval0
  have hW' := hW
  obtain ⟨pp, qq, hA0, hV, rfl, hfz, hnd⟩ := hW
  have hA : DataW.TrodAll enc Try.prog W 0 (fun _ => true) true Try.f5.params.toList args.toList ds pp := hA0
  rw [Try.params5] at hA hval
  obtain ⟨v0, vs0, dd0, ds0, pp0, qq0, hargs, rfl, rfl, h0, r0⟩ := trodAll_cons hA
  obtain ⟨v1, vs1, dd1, ds1, pp1, qq1, rfl, rfl, rfl, h1, r1⟩ := trodAll_cons r0
  obtain ⟨v2, vs2, dd2, ds2, pp2, qq2, rfl, rfl, rfl, h2, r2⟩ := trodAll_cons r1
  obtain ⟨rfl, rfl, rfl⟩ := trodAll_nil r2
  obtain rfl : args = #[v0, v1, v2] := by cases args; simp_all
  obtain ⟨rfl, rfl⟩ := trodVars_none hV
  have k0 := h0
  have lt0 : ∀ x ∈ pp0, x.block < W.heap.size := by obtain ⟨m, hm⟩ := k0; exact DataW.trod_lt m _ _ _ hm
  obtain ⟨A0, n0, c0, L0, rfl, w0, m0⟩ := open_store (hval 0 48 v0 rfl rfl) h0
  have k1 := h1
  have lt1 : ∀ x ∈ pp1, x.block < W.heap.size := by obtain ⟨m, hm⟩ := k1; exact DataW.trod_lt m _ _ _ hm
  obtain ⟨x1, A1, n1, c1, R1, B1, p1, d1, Q1, rfl, w1, m1, u1, o1⟩ := open_tx (hval 1 52 v1 rfl rfl) h1
  obtain ⟨a2, rfl, rfl, rfl, w2⟩ := open_int Try.underlying3 (hval 2 3 v2 rfl rfl) h2
  clear hA0 hval0
  refine (walk A0 n0 c0 L0 x1 A1 n1 c1 R1 B1 p1 d1 Q1 a2 W w0 m0 w1 m1 u1 o1 w2).mono fun e W' ⟨he, bel⟩ => ?_
  subst he
  exact ⟨_, rfl, _, _, _, [], _, [], hW', trodAll_mk1 (shut_bool Try.underlying4 _), (trodAll_cons_mk (Below.trod laidOut (by kernel_rfl) (of_decide_eq_true (by kernel_rfl)) k0 bel lt0) (trodAll_cons_mk (Below.trod laidOut (by kernel_rfl) (of_decide_eq_true (by kernel_rfl)) k1 bel lt1) (trodAll_cons_mk (shut_int Try.underlying3 w2) trodAll_mk0))), rfl, bel.frame _, fun h => by cases h⟩

theorem over : Rows.fnExactChooseVersionRow.holds Try.pinned (OpenSpec.ofChange Rows.fnExactChooseVersionSpec) :=
  OpenClaim.holds_of_wide 5 Try.f5 rfl rfl rfl rfl rfl rfl rfl ⟨rfl, rfl, rfl, rfl, rfl⟩ rfl rfl rfl rfl rfl (by kernel_rfl) Try.func5 (by kernel_rfl)
    (of_decide_eq_true (by kernel_rfl)) (by unfold Func.isWrapper; first | (rw [if_pos (by decide +kernel)]; kernel_rfl) | (rw [if_neg (by decide +kernel)]; exact ⟨rfl, rfl⟩))
    (fun os started H enc _ => lifted os started H enc)

/-- THE STATEMENT -/
theorem proved : Rows.FnExactChooseVersionSaid := over
#print axioms proved
end Go.Proofs.Ytdfhnngcddaccaa.fnExactChooseVersion
