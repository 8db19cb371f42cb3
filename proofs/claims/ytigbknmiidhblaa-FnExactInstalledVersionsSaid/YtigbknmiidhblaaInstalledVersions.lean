/- InstalledVersions of the program answers as its model at every store and transaction, in memory of its own: the law returns true and writes nothing that was there. No condition. -/
import Derived.Test.YtigbknmiidhblaaInv
import Derived.Test.YtigbknmiidhblaaMv
import Derived.Test.YtigbknmiidhblaaLw
import Derived.Test.YtigbknmiidhblaaOpenS
import Derived.WalkKit
import Derived.ProofKit
import Derived.OpenShut
import Derived.ShutString
import Derived.ChangeOld
import Derived.Below
import Derived.Carry
import Derived.Lib.Hide
import Derived.StillTailTactics
import Derived.Deep.RegionHeld3
import Derived.Deep.DeepHandedRow
namespace Go.Proofs.Ytigbknmiidhblaa.fnExactInstalledVersions
open Go.ChangeShapes Go.WideShapes Go.ChangeAt Go.RowKit
open Go.ChangeMaps (open_string shut_string)
open Go.Proofs.Ytigbknmiidhblaa.el2
open Go.Proofs.Ytigbknmiidhblaa.tx
open Go.Proofs.Ytigbknmiidhblaa.st
open Go.Proofs.Ytigbknmiidhblaa.sl
open Go.Proofs.Ytigbknmiidhblaa.opns
open Go.Proofs.Ytigbknmiidhblaa.fr (FR)
open Go.Proofs.Ytigbknmiidhblaa.vers (new2 new3)
set_option linter.unusedVariables false
theorem own : ownKnob Try.prog.godebug = none := by kernel_rfl
theorem laidOut : laidOutB Try.prog = true := by kernel_rfl
set_option maxHeartbeats 6400000 in
theorem walk (A0 : Option Addr) (n0 c0 : Nat) (L0 : List (List Ver)) (x1 : Hd) (A1 : Option Addr) (n1 c1 : Nat) (R1 : List E2) (B1 : Option Addr) (p1 d1 : Nat) (Q1 : List E2) (w : World) (h0 : R0 w w.heap.size A0 n0 L0) (m0 : n0 ≤ maxLen) (h1 : Go.Proofs.Ytigbknmiidhblaa.el2.Vs w w.heap.size A1 n1 R1) (m1 : n1 ≤ maxLen) (g1 : Go.Proofs.Ytigbknmiidhblaa.el2.Vs w w.heap.size B1 p1 Q1) (o1 : p1 ≤ maxLen) :
    Calls Try.prog 5 #[.agg #[.slice A0 n0 c0], .agg #[.int .i64 x1.i, .int .i64 x1.s, .int .i64 x1.t, .int .i64 x1.b, .int .i64 x1.l, .int .i64 x1.h, .int .i64 x1.c, .slice A1 n1 c1, .slice B1 p1 d1]] w fun e w' => e = .returned (.bool true) ∧ Below w.heap.size w w' := by
  unfold maxLen at m0
  have H0 := Lib.hid h0
  have hlen0 := h0.1
  clear h0
  unfold maxLen at m1 o1
  have H1 := Lib.hid h1
  have G1 := Lib.hid g1
  have hlen1 := h1.1
  have hlem1 := g1.1
  clear h1 g1
  by_cases hbig0 : (1048576 : Int) < tot L0
  · have hz := szR_no (left := (1048576 : Int)) (ll := L0) (by omega)
    have HZ0 := Lib.hid hz
    clear hz
    go_enter Try.func5, Try.ntmps5
    go_wp2_with fail
    have hx0 := one_cell w (.slice A0 n0 c0) 40
    replace hx0 := ((new1 (w.alloc (.cells #[.slice A0 n0 c0] 40)) (.cells #[.int .i64 x1.i, .int .i64 x1.s, .int .i64 x1.t, .int .i64 x1.b, .int .i64 x1.l, .int .i64 x1.h, .int .i64 x1.c, .slice A1 n1 c1, .slice B1 p1 d1] 25)).cell (p := ⟨w.heap.size, 0, none⟩) (by simp; try omega)).trans hx0
    have hx1 := TB.new (w.alloc (.cells #[.slice A0 n0 c0] 40)) x1 A1 n1 c1 B1 p1 d1 25
    rw [show (w.alloc (.cells #[.slice A0 n0 c0] 40)).heap.size = w.heap.size + 1 by simp] at hx1
    have hz : ((w.alloc (.cells #[.slice A0 n0 c0] 40)).alloc (.cells #[.int .i64 x1.i, .int .i64 x1.s, .int .i64 x1.t, .int .i64 x1.b, .int .i64 x1.l, .int .i64 x1.h, .int .i64 x1.c, .slice A1 n1 c1, .slice B1 p1 d1] 25)).heap.size = w.heap.size + 2 := by simp
    have hb := Go.Proofs.Ytigbknmiidhblaa.vers.new2 w (.cells #[.slice A0 n0 c0] 40) (.cells #[.int .i64 x1.i, .int .i64 x1.s, .int .i64 x1.t, .int .i64 x1.b, .int .i64 x1.l, .int .i64 x1.h, .int .i64 x1.c, .slice A1 n1 c1, .slice B1 p1 d1] 25)
    generalize ((w.alloc (.cells #[.slice A0 n0 c0] 40)).alloc (.cells #[.int .i64 x1.i, .int .i64 x1.s, .int .i64 x1.t, .int .i64 x1.b, .int .i64 x1.l, .int .i64 x1.h, .int .i64 x1.c, .slice A1 n1 c1, .slice B1 p1 d1] 25)) = W1 at hx0 hx1 hb hz ⊢
    have HB1 : Hid (Below w.heap.size w W1) := Lib.hid hb
    have HS1 : Hid (Below w.heap.size w W1) := Lib.hid hb
    have HF1 : Hid (FR 0 0 w W1) := Lib.hid (FR.of_below hb)
    have hs1 : w.heap.size ≤ W1.heap.size := hb.size
    clear hb
    have hz1 : w.heap.size + 2 ≤ W1.heap.size := Nat.le_of_eq hz.symm
    clear hz
    have b0_1 := Lib.hid hx0
    clear hx0
    have b1_1 := Lib.hid hx1
    clear hx1
    refine (count_store (by omega) (H0.out.below HB1.out) HB1.out.size (by omega) (by omega)).mono ?_
    rintro e W2 ⟨rfl, hb⟩
    rw [HZ0.out]
    have HB2 : Hid (Below w.heap.size w W2) := Lib.hid (HB1.out.trans (hb.mono HB1.out.size))
    have HS2 : Hid (Below W1.heap.size W1 W2) := Lib.hid hb
    have HF2 : Hid (FR 0 0 W1 W2) := Lib.hid (FR.of_below hb)
    have hs2 : W1.heap.size ≤ W2.heap.size := hb.size
    clear hb
    have b0_2 := Lib.hid ((HF2.out.cell (p := ⟨w.heap.size, 0, none⟩) (by simp only; omega) (by simp only; omega)).trans b0_1.out)
    clear b0_1
    have b1_2 := Lib.hid (Go.Proofs.Ytigbknmiidhblaa.tm.TB.fr b1_1.out HF2.out (by omega) (by omega))
    clear b1_1
    go_wp2_with fail
    go_ret
    exact ⟨rfl, HB2.out⟩
  have hz := szR_yes (left := (1048576 : Int)) (ll := L0) (by omega)
  have HZ0 := Lib.hid hz
  clear hz
  have htot0 := tot_eq L0
  have HR0 := Lib.hid (H0.out.tight (by omega))
  obtain ⟨lf0, hlf⟩ : ∃ lf : Int, lf = (1048576 : Int) - (tot L0 : Int) := ⟨_, rfl⟩
  have hz := HZ0.out
  clear HZ0
  rw [← hlf] at hz
  have HZ0 := Lib.hid hz
  have tz0 : decide (lf0 < 0) = false := decide_eq_false (by omega)
  have lf00 : 0 ≤ lf0 := by omega
  have lf10 : lf0 ≤ 1048576 := by omega
  clear hlf hz
  by_cases hbig1 : lf0 < n1 + p1
  · have hz := szT_no (left := lf0) (n := n1) (n2 := p1) (by omega)
    have HZ1 := Lib.hid hz
    clear hz
    go_enter Try.func5, Try.ntmps5
    go_wp2_with fail
    have hx0 := one_cell w (.slice A0 n0 c0) 40
    replace hx0 := ((new1 (w.alloc (.cells #[.slice A0 n0 c0] 40)) (.cells #[.int .i64 x1.i, .int .i64 x1.s, .int .i64 x1.t, .int .i64 x1.b, .int .i64 x1.l, .int .i64 x1.h, .int .i64 x1.c, .slice A1 n1 c1, .slice B1 p1 d1] 25)).cell (p := ⟨w.heap.size, 0, none⟩) (by simp; try omega)).trans hx0
    have hx1 := TB.new (w.alloc (.cells #[.slice A0 n0 c0] 40)) x1 A1 n1 c1 B1 p1 d1 25
    rw [show (w.alloc (.cells #[.slice A0 n0 c0] 40)).heap.size = w.heap.size + 1 by simp] at hx1
    have hz : ((w.alloc (.cells #[.slice A0 n0 c0] 40)).alloc (.cells #[.int .i64 x1.i, .int .i64 x1.s, .int .i64 x1.t, .int .i64 x1.b, .int .i64 x1.l, .int .i64 x1.h, .int .i64 x1.c, .slice A1 n1 c1, .slice B1 p1 d1] 25)).heap.size = w.heap.size + 2 := by simp
    have hb := Go.Proofs.Ytigbknmiidhblaa.vers.new2 w (.cells #[.slice A0 n0 c0] 40) (.cells #[.int .i64 x1.i, .int .i64 x1.s, .int .i64 x1.t, .int .i64 x1.b, .int .i64 x1.l, .int .i64 x1.h, .int .i64 x1.c, .slice A1 n1 c1, .slice B1 p1 d1] 25)
    generalize ((w.alloc (.cells #[.slice A0 n0 c0] 40)).alloc (.cells #[.int .i64 x1.i, .int .i64 x1.s, .int .i64 x1.t, .int .i64 x1.b, .int .i64 x1.l, .int .i64 x1.h, .int .i64 x1.c, .slice A1 n1 c1, .slice B1 p1 d1] 25)) = W1 at hx0 hx1 hb hz ⊢
    have HB1 : Hid (Below w.heap.size w W1) := Lib.hid hb
    have HS1 : Hid (Below w.heap.size w W1) := Lib.hid hb
    have HF1 : Hid (FR 0 0 w W1) := Lib.hid (FR.of_below hb)
    have hs1 : w.heap.size ≤ W1.heap.size := hb.size
    clear hb
    have hz1 : w.heap.size + 2 ≤ W1.heap.size := Nat.le_of_eq hz.symm
    clear hz
    have b0_1 := Lib.hid hx0
    clear hx0
    have b1_1 := Lib.hid hx1
    clear hx1
    refine (count_store (by omega) (H0.out.below HB1.out) HB1.out.size (by omega) (by omega)).mono ?_
    rintro e W2 ⟨rfl, hb⟩
    rw [HZ0.out]
    have HB2 : Hid (Below w.heap.size w W2) := Lib.hid (HB1.out.trans (hb.mono HB1.out.size))
    have HS2 : Hid (Below W1.heap.size W1 W2) := Lib.hid hb
    have HF2 : Hid (FR 0 0 W1 W2) := Lib.hid (FR.of_below hb)
    have hs2 : W1.heap.size ≤ W2.heap.size := hb.size
    clear hb
    have b0_2 := Lib.hid ((HF2.out.cell (p := ⟨w.heap.size, 0, none⟩) (by simp only; omega) (by simp only; omega)).trans b0_1.out)
    clear b0_1
    have b1_2 := Lib.hid (Go.Proofs.Ytigbknmiidhblaa.tm.TB.fr b1_1.out HF2.out (by omega) (by omega))
    clear b1_1
    obtain ⟨b1c0, b1c1, b1c2, b1c3, b1c4, b1c5, b1c6, b1c7, b1c8⟩ := b1_2.out
    have b1L : w.heap.size + 1 < W2.heap.size := by omega
    go_wp2_with fail
    refine (count_tx x1 A1 n1 c1 B1 p1 d1 _ _ (by omega) (by omega) (by omega) (by omega)).mono ?_
    rintro e W3 ⟨rfl, hb⟩
    rw [HZ1.out]
    have HB3 : Hid (Below w.heap.size w W3) := Lib.hid (HB2.out.trans (hb.mono HB2.out.size))
    have HS3 : Hid (Below W2.heap.size W2 W3) := Lib.hid hb
    have HF3 : Hid (FR 0 0 W2 W3) := Lib.hid (FR.of_below hb)
    have hs3 : W2.heap.size ≤ W3.heap.size := hb.size
    clear hb
    have b0_3 := Lib.hid ((HF3.out.cell (p := ⟨w.heap.size, 0, none⟩) (by simp only; omega) (by simp only; omega)).trans b0_2.out)
    clear b0_2
    have b1_3 := Lib.hid (Go.Proofs.Ytigbknmiidhblaa.tm.TB.fr b1_2.out HF3.out (by omega) (by omega))
    clear b1_2
    clear b1c0 b1c1 b1c2 b1c3 b1c4 b1c5 b1c6 b1c7 b1c8 b1L
    go_wp2_with fail
    go_ret
    exact ⟨rfl, HB3.out⟩
  have hz := szT_yes (left := lf0) (n := n1) (n2 := p1) (by omega)
  have HZ1 := Lib.hid hz
  clear hz
  obtain ⟨lf1, hlf⟩ : ∃ lf : Int, lf = lf0 - (n1 : Int) - (p1 : Int) := ⟨_, rfl⟩
  have hz := HZ1.out
  clear HZ1
  rw [← hlf] at hz
  have HZ1 := Lib.hid hz
  have tz1 : decide (lf1 < 0) = false := decide_eq_false (by omega)
  have lf01 : 0 ≤ lf1 := by omega
  have lf11 : lf1 ≤ 1048576 := by omega
  clear hlf hz
  obtain ⟨q, hq⟩ : ∃ q, Go.Proofs.Ytigbknmiidhblaa.cq.instL L0 x1 R1 Q1 = q := ⟨_, rfl⟩
  obtain ⟨nq, hnq⟩ : ∃ k, q.length = k := ⟨_, rfl⟩
  have bq : nq ≤ 6 := by have := Go.Proofs.Ytigbknmiidhblaa.inv.instL_len L0 x1 R1 Q1; rw [hq] at this; omega
  have HQ := Lib.hid hq
  have HNQ := Lib.hid hnq
  clear hq hnq
  go_enter Try.func5, Try.ntmps5
  go_wp2_with fail
  have hx0 := one_cell w (.slice A0 n0 c0) 40
  replace hx0 := ((new1 (w.alloc (.cells #[.slice A0 n0 c0] 40)) (.cells #[.int .i64 x1.i, .int .i64 x1.s, .int .i64 x1.t, .int .i64 x1.b, .int .i64 x1.l, .int .i64 x1.h, .int .i64 x1.c, .slice A1 n1 c1, .slice B1 p1 d1] 25)).cell (p := ⟨w.heap.size, 0, none⟩) (by simp; try omega)).trans hx0
  have hx1 := TB.new (w.alloc (.cells #[.slice A0 n0 c0] 40)) x1 A1 n1 c1 B1 p1 d1 25
  rw [show (w.alloc (.cells #[.slice A0 n0 c0] 40)).heap.size = w.heap.size + 1 by simp] at hx1
  have hz : ((w.alloc (.cells #[.slice A0 n0 c0] 40)).alloc (.cells #[.int .i64 x1.i, .int .i64 x1.s, .int .i64 x1.t, .int .i64 x1.b, .int .i64 x1.l, .int .i64 x1.h, .int .i64 x1.c, .slice A1 n1 c1, .slice B1 p1 d1] 25)).heap.size = w.heap.size + 2 := by simp
  have hb := Go.Proofs.Ytigbknmiidhblaa.vers.new2 w (.cells #[.slice A0 n0 c0] 40) (.cells #[.int .i64 x1.i, .int .i64 x1.s, .int .i64 x1.t, .int .i64 x1.b, .int .i64 x1.l, .int .i64 x1.h, .int .i64 x1.c, .slice A1 n1 c1, .slice B1 p1 d1] 25)
  generalize ((w.alloc (.cells #[.slice A0 n0 c0] 40)).alloc (.cells #[.int .i64 x1.i, .int .i64 x1.s, .int .i64 x1.t, .int .i64 x1.b, .int .i64 x1.l, .int .i64 x1.h, .int .i64 x1.c, .slice A1 n1 c1, .slice B1 p1 d1] 25)) = W1 at hx0 hx1 hb hz ⊢
  have HB1 : Hid (Below w.heap.size w W1) := Lib.hid hb
  have HS1 : Hid (Below w.heap.size w W1) := Lib.hid hb
  have HF1 : Hid (FR 0 0 w W1) := Lib.hid (FR.of_below hb)
  have hs1 : w.heap.size ≤ W1.heap.size := hb.size
  clear hb
  have hz1 : w.heap.size + 2 ≤ W1.heap.size := Nat.le_of_eq hz.symm
  clear hz
  have b0_1 := Lib.hid hx0
  clear hx0
  have b1_1 := Lib.hid hx1
  clear hx1
  refine (count_store (by omega) (H0.out.below HB1.out) HB1.out.size (by omega) (by omega)).mono ?_
  rintro e W2 ⟨rfl, hb⟩
  rw [HZ0.out]
  have HB2 : Hid (Below w.heap.size w W2) := Lib.hid (HB1.out.trans (hb.mono HB1.out.size))
  have HS2 : Hid (Below W1.heap.size W1 W2) := Lib.hid hb
  have HF2 : Hid (FR 0 0 W1 W2) := Lib.hid (FR.of_below hb)
  have hs2 : W1.heap.size ≤ W2.heap.size := hb.size
  clear hb
  have b0_2 := Lib.hid ((HF2.out.cell (p := ⟨w.heap.size, 0, none⟩) (by simp only; omega) (by simp only; omega)).trans b0_1.out)
  clear b0_1
  have b1_2 := Lib.hid (Go.Proofs.Ytigbknmiidhblaa.tm.TB.fr b1_1.out HF2.out (by omega) (by omega))
  clear b1_1
  obtain ⟨b1c0, b1c1, b1c2, b1c3, b1c4, b1c5, b1c6, b1c7, b1c8⟩ := b1_2.out
  have b1L : w.heap.size + 1 < W2.heap.size := by omega
  go_wp2_with fail
  refine (count_tx x1 A1 n1 c1 B1 p1 d1 _ _ (by omega) (by omega) (by omega) (by omega)).mono ?_
  rintro e W3 ⟨rfl, hb⟩
  rw [HZ1.out]
  have HB3 : Hid (Below w.heap.size w W3) := Lib.hid (HB2.out.trans (hb.mono HB2.out.size))
  have HS3 : Hid (Below W2.heap.size W2 W3) := Lib.hid hb
  have HF3 : Hid (FR 0 0 W2 W3) := Lib.hid (FR.of_below hb)
  have hs3 : W2.heap.size ≤ W3.heap.size := hb.size
  clear hb
  have b0_3 := Lib.hid ((HF3.out.cell (p := ⟨w.heap.size, 0, none⟩) (by simp only; omega) (by simp only; omega)).trans b0_2.out)
  clear b0_2
  have b1_3 := Lib.hid (Go.Proofs.Ytigbknmiidhblaa.tm.TB.fr b1_2.out HF3.out (by omega) (by omega))
  clear b1_2
  clear b1c0 b1c1 b1c2 b1c3 b1c4 b1c5 b1c6 b1c7 b1c8 b1L
  go_wp2_with fail
  have hbk0 : Below W3.heap.size W3 W3.drew := (Below.refl _ _).drew
  have hbw0 := HB3.out.trans (hbk0.mono HB3.out.size)
  have b0l_3 : w.heap.size < W3.heap.size := by omega
  have b1l_3 : w.heap.size + 1 < W3.heap.size := by omega
  have b0c0 := b0_3.out
  obtain ⟨b1c0, b1c1, b1c2, b1c3, b1c4, b1c5, b1c6, b1c7, b1c8⟩ := b1_3.out
  go_region_held3 (fun w' => w'.cell? ⟨w.heap.size, 0, none⟩ = some (.slice A0 n0 c0) ∧ w'.cell? ⟨w.heap.size + 1, 0, none⟩ = some (.int .i64 x1.i) ∧ w'.cell? ⟨w.heap.size + 1, 1, none⟩ = some (.int .i64 x1.s) ∧ w'.cell? ⟨w.heap.size + 1, 2, none⟩ = some (.int .i64 x1.t) ∧ w'.cell? ⟨w.heap.size + 1, 3, none⟩ = some (.int .i64 x1.b) ∧ w'.cell? ⟨w.heap.size + 1, 4, none⟩ = some (.int .i64 x1.l) ∧ w'.cell? ⟨w.heap.size + 1, 5, none⟩ = some (.int .i64 x1.h) ∧ w'.cell? ⟨w.heap.size + 1, 6, none⟩ = some (.int .i64 x1.c) ∧ w'.cell? ⟨w.heap.size + 1, 7, none⟩ = some (.slice A1 n1 c1) ∧ w'.cell? ⟨w.heap.size + 1, 8, none⟩ = some (.slice B1 p1 d1)) (go_keep) (first | (go_at_call 16; (with_reducible refine (Go.Proofs.Ytigbknmiidhblaa.inv.spec_inst x1 (by omega) (by omega) (by omega) s2ra2 s2wa2 s1a2 (Nat.le_refl _)).mono ?_); rintro e W4 ⟨As3, cs3, he, ho, hb⟩; rw [HQ.out, HNQ.out] at he ho; subst he; have hv : Go.Proofs.Ytigbknmiidhblaa.mv.OvS W4 (W3.heap.size) (W4.heap.size) As3 nq q := Go.Proofs.Ytigbknmiidhblaa.mv.OvS.of_own (Go.Proofs.Ytigbknmiidhblaa.oq.own_lo ho fun q9 e9 => Nat.le_trans hbk2.size (ho.lt q9 e9).1) HNQ.out (Nat.le_refl _); clear ho; have hbk3 := hbk2.trans (hb.mono hbk2.size); have hbw3 := HB3.out.trans (hbk3.mono HB3.out.size); have s1a3 := (s1a2.below hb).more hb.size; have s2ra3 := (s2ra2.below hb).more hb.size; have s2wa3 := (s2wa2.below hb).more hb.size; have s3a3 := hv; clear hb hv; have b0d30 := (((hbk3).cell (p := ⟨w.heap.size, 0, none⟩) b0l_3).trans b0_3.out); obtain ⟨b1d30, b1d31, b1d32, b1d33, b1d34, b1d35, b1d36, b1d37, b1d38⟩ := ((b1_3.out).keep b1l_3 (hbk3))) | (go_at_call 8; (with_reducible refine (Go.Proofs.Ytigbknmiidhblaa.tx.copied_tx x1 (by omega) (by omega) (H1.out.below hbw1) (G1.out.below hbw1) (hbw1).size).mono ?_); rintro e Wa2 ⟨Ns2, Ms2, rfl, hv, hu, hb⟩; have hbk2 := hbk1.trans (hb.mono hbk1.size); have hbw2 := HB3.out.trans (hbk2.mono HB3.out.size); have s1a2 := (s1a1.below hb).more hb.size; have s2ra2 := hv; have s2wa2 := hu; clear hb hv hu; have b0d20 := (((hbk2).cell (p := ⟨w.heap.size, 0, none⟩) b0l_3).trans b0_3.out); obtain ⟨b1d20, b1d21, b1d22, b1d23, b1d24, b1d25, b1d26, b1d27, b1d28⟩ := ((b1_3.out).keep b1l_3 (hbk2))) | (go_at_call 17; (with_reducible refine (copy_store (by omega) (by omega) (HR0.out.below hbw0) (hbw0).size).mono ?_); rintro e Wa1 ⟨Ns1, rfl, hN, hv, hb⟩; clear hN; have hbk1 := hbk0.trans (hb.mono hbk0.size); have hbw1 := HB3.out.trans (hbk1.mono HB3.out.size); have s1a1 := hv; clear hb hv; have b0d10 := (((hbk1).cell (p := ⟨w.heap.size, 0, none⟩) b0l_3).trans b0_3.out); obtain ⟨b1d10, b1d11, b1d12, b1d13, b1d14, b1d15, b1d16, b1d17, b1d18⟩ := ((b1_3.out).keep b1l_3 (hbk1))))
  have hb := hbk3
  have s3_4 := Lib.hid s3a3
  clear hbk0 hbw0 s1a1 b0d10 b1d10 b1d11 b1d12 b1d13 b1d14 b1d15 b1d16 b1d17 b1d18 hbk1 hbw1 s1a2 s2ra2 s2wa2 b0d20 b1d20 b1d21 b1d22 b1d23 b1d24 b1d25 b1d26 b1d27 b1d28 hbk2 hbw2 s1a3 s2ra3 s2wa3 s3a3 b0d30 b1d30 b1d31 b1d32 b1d33 b1d34 b1d35 b1d36 b1d37 b1d38 hbk3 hbw3 b0c0 b1c0 b1c1 b1c2 b1c3 b1c4 b1c5 b1c6 b1c7 b1c8 b0l_3 b1l_3
  have HB4 : Hid (Below w.heap.size w W4) := Lib.hid (HB3.out.trans (hb.mono HB3.out.size))
  have HS4 : Hid (Below W3.heap.size W3 W4) := Lib.hid hb
  have HF4 : Hid (FR 0 0 W3 W4) := Lib.hid (FR.of_below hb)
  have hs4 : W3.heap.size ≤ W4.heap.size := hb.size
  clear hb
  have b0_4 := Lib.hid ((HF4.out.cell (p := ⟨w.heap.size, 0, none⟩) (by simp only; omega) (by simp only; omega)).trans b0_3.out)
  clear b0_3
  have b1_4 := Lib.hid (Go.Proofs.Ytigbknmiidhblaa.tm.TB.fr b1_3.out HF4.out (by omega) (by omega))
  clear b1_3
  have b0c0 := b0_4.out
  have b0L : w.heap.size < W4.heap.size := by omega
  go_wp2_with fail
  refine (Go.Proofs.Ytigbknmiidhblaa.lw.own_store (by omega) (by omega) (HR0.out.below HB4.out) (HB4.out).size).mono ?_
  rintro e W5 ⟨Ns4, rfl, hv, hvp, hb⟩
  have HB5 : Hid (Below w.heap.size w W5) := Lib.hid (HB4.out.trans (hb.mono HB4.out.size))
  have HS5 : Hid (Below W4.heap.size W4 W5) := Lib.hid hb
  have HF5 : Hid (FR 0 0 W4 W5) := Lib.hid (FR.of_below hb)
  have hs5 : W4.heap.size ≤ W5.heap.size := hb.size
  clear hb
  have b0_5 := Lib.hid ((HF5.out.cell (p := ⟨w.heap.size, 0, none⟩) (by simp only; omega) (by simp only; omega)).trans b0_4.out)
  clear b0_4
  have b1_5 := Lib.hid (Go.Proofs.Ytigbknmiidhblaa.tm.TB.fr b1_4.out HF5.out (by omega) (by omega))
  clear b1_4
  have s3_5 := Lib.hid (s3_4.out.fr HF5.out (by omega) (by omega))
  clear s3_4
  have s4_5 := Lib.hid hv
  clear hv
  have s4p_5 := Lib.hid hvp
  clear hvp
  clear b0c0 b0L
  obtain ⟨b1c0, b1c1, b1c2, b1c3, b1c4, b1c5, b1c6, b1c7, b1c8⟩ := b1_5.out
  have b1L : w.heap.size + 1 < W5.heap.size := by omega
  go_wp2_with fail
  have hx0 := one_cell W5 (.slice (some ⟨Ns4, 0, none⟩) n0 n0) 46
  have hz : (W5.alloc (.cells #[.slice (some ⟨Ns4, 0, none⟩) n0 n0] 46)).heap.size = W5.heap.size + 1 := by simp
  have hb := Go.Proofs.Ytigbknmiidhblaa.el2.new1 W5 (.cells #[.slice (some ⟨Ns4, 0, none⟩) n0 n0] 46)
  generalize (W5.alloc (.cells #[.slice (some ⟨Ns4, 0, none⟩) n0 n0] 46)) = W6 at hx0 hb hz ⊢
  have HB6 : Hid (Below w.heap.size w W6) := Lib.hid (HB5.out.trans (hb.mono HB5.out.size))
  have HS6 : Hid (Below W5.heap.size W5 W6) := Lib.hid hb
  have HF6 : Hid (FR 0 0 W5 W6) := Lib.hid (FR.of_below hb)
  have hs6 : W5.heap.size ≤ W6.heap.size := hb.size
  clear hb
  have b0_6 := Lib.hid ((HF6.out.cell (p := ⟨w.heap.size, 0, none⟩) (by simp only; omega) (by simp only; omega)).trans b0_5.out)
  clear b0_5
  have b1_6 := Lib.hid (Go.Proofs.Ytigbknmiidhblaa.tm.TB.fr b1_5.out HF6.out (by omega) (by omega))
  clear b1_5
  have s3_6 := Lib.hid (s3_5.out.fr HF6.out (by omega) (by omega))
  clear s3_5
  have s4_6 := Lib.hid (s4_5.out.fr HF6.out (by omega) (by omega))
  clear s4_5
  have s4p_6 := Lib.hid ((s4p_5.out.below HS6.out).more HS6.out.size)
  clear s4p_5
  have hz6 : W5.heap.size + 1 ≤ W6.heap.size := Nat.le_of_eq hz.symm
  clear hz
  have b2_6 := Lib.hid hx0
  clear hx0
  refine (Go.Proofs.Ytigbknmiidhblaa.tm.own_tx x1 (by omega) (by omega) (H1.out.below HB6.out) (G1.out.below HB6.out) (HB6.out).size).mono ?_
  rintro e W7 ⟨Ns5, Ms5, rfl, hv, hb⟩
  have hvr := hv.1.vs (Nat.le_refl _)
  have hvw := hv.2.vs (Nat.le_refl _)
  have HB7 : Hid (Below w.heap.size w W7) := Lib.hid (HB6.out.trans (hb.mono HB6.out.size))
  have HS7 : Hid (Below W6.heap.size W6 W7) := Lib.hid hb
  have HF7 : Hid (FR 0 0 W6 W7) := Lib.hid (FR.of_below hb)
  have hs7 : W6.heap.size ≤ W7.heap.size := hb.size
  clear hb
  have b0_7 := Lib.hid ((HF7.out.cell (p := ⟨w.heap.size, 0, none⟩) (by simp only; omega) (by simp only; omega)).trans b0_6.out)
  clear b0_6
  have b1_7 := Lib.hid (Go.Proofs.Ytigbknmiidhblaa.tm.TB.fr b1_6.out HF7.out (by omega) (by omega))
  clear b1_6
  have b2_7 := Lib.hid ((HF7.out.cell (p := ⟨W5.heap.size, 0, none⟩) (by simp only; omega) (by simp only; omega)).trans b2_6.out)
  clear b2_6
  have s3_7 := Lib.hid (s3_6.out.fr HF7.out (by omega) (by omega))
  clear s3_6
  have s4_7 := Lib.hid (s4_6.out.fr HF7.out (by omega) (by omega))
  clear s4_6
  have s4p_7 := Lib.hid ((s4p_6.out.below HS7.out).more HS7.out.size)
  clear s4p_6
  have s5_7 := Lib.hid hv
  clear hv
  have s5r_7 := Lib.hid hvr
  clear hvr
  have s5w_7 := Lib.hid hvw
  clear hvw
  clear b1c0 b1c1 b1c2 b1c3 b1c4 b1c5 b1c6 b1c7 b1c8 b1L
  have b2c0 := b2_7.out
  have b2L : W5.heap.size < W7.heap.size := by omega
  go_wp2_with fail
  have hx0 := TB.new W7 x1 (some ⟨Ns5, 0, none⟩) n1 n1 (some ⟨Ms5, 0, none⟩) p1 p1 30
  have hz : (W7.alloc (.cells #[.int .i64 x1.i, .int .i64 x1.s, .int .i64 x1.t, .int .i64 x1.b, .int .i64 x1.l, .int .i64 x1.h, .int .i64 x1.c, .slice (some ⟨Ns5, 0, none⟩) n1 n1, .slice (some ⟨Ms5, 0, none⟩) p1 p1] 30)).heap.size = W7.heap.size + 1 := by simp
  have hb := Go.Proofs.Ytigbknmiidhblaa.el2.new1 W7 (.cells #[.int .i64 x1.i, .int .i64 x1.s, .int .i64 x1.t, .int .i64 x1.b, .int .i64 x1.l, .int .i64 x1.h, .int .i64 x1.c, .slice (some ⟨Ns5, 0, none⟩) n1 n1, .slice (some ⟨Ms5, 0, none⟩) p1 p1] 30)
  generalize (W7.alloc (.cells #[.int .i64 x1.i, .int .i64 x1.s, .int .i64 x1.t, .int .i64 x1.b, .int .i64 x1.l, .int .i64 x1.h, .int .i64 x1.c, .slice (some ⟨Ns5, 0, none⟩) n1 n1, .slice (some ⟨Ms5, 0, none⟩) p1 p1] 30)) = W8 at hx0 hb hz ⊢
  have HB8 : Hid (Below w.heap.size w W8) := Lib.hid (HB7.out.trans (hb.mono HB7.out.size))
  have HS8 : Hid (Below W7.heap.size W7 W8) := Lib.hid hb
  have HF8 : Hid (FR 0 0 W7 W8) := Lib.hid (FR.of_below hb)
  have hs8 : W7.heap.size ≤ W8.heap.size := hb.size
  clear hb
  have b0_8 := Lib.hid ((HF8.out.cell (p := ⟨w.heap.size, 0, none⟩) (by simp only; omega) (by simp only; omega)).trans b0_7.out)
  clear b0_7
  have b1_8 := Lib.hid (Go.Proofs.Ytigbknmiidhblaa.tm.TB.fr b1_7.out HF8.out (by omega) (by omega))
  clear b1_7
  have b2_8 := Lib.hid ((HF8.out.cell (p := ⟨W5.heap.size, 0, none⟩) (by simp only; omega) (by simp only; omega)).trans b2_7.out)
  clear b2_7
  have s3_8 := Lib.hid (s3_7.out.fr HF8.out (by omega) (by omega))
  clear s3_7
  have s4_8 := Lib.hid (s4_7.out.fr HF8.out (by omega) (by omega))
  clear s4_7
  have s4p_8 := Lib.hid ((s4p_7.out.below HS8.out).more HS8.out.size)
  clear s4p_7
  have s5_8 := Lib.hid (s5_7.out.fr HF8.out (by omega) (by omega))
  clear s5_7
  have s5r_8 := Lib.hid ((s5r_7.out.below HS8.out).more HS8.out.size)
  clear s5r_7
  have s5w_8 := Lib.hid ((s5w_7.out.below HS8.out).more HS8.out.size)
  clear s5w_7
  have hz8 : W7.heap.size + 1 ≤ W8.heap.size := Nat.le_of_eq hz.symm
  clear hz
  have b3_8 := Lib.hid hx0
  clear hx0
  refine (Go.Proofs.Ytigbknmiidhblaa.inv.impl_inst x1 (by omega) (by omega) (by omega) s5r_8.out s5w_8.out s4p_8.out (Nat.le_refl _)).mono ?_
  rintro e W9 ⟨As6, cs6, he, ho, hb⟩
  rw [HQ.out, HNQ.out] at he ho
  subst he
  have hv : Go.Proofs.Ytigbknmiidhblaa.mv.OvS W9 (W8.heap.size) (W9.heap.size) As6 nq q := Go.Proofs.Ytigbknmiidhblaa.mv.OvS.of_own (Go.Proofs.Ytigbknmiidhblaa.oq.own_lo ho fun q9 e9 => Nat.le_trans (Nat.le_refl _) (ho.lt q9 e9).1) HNQ.out (Nat.le_refl _)
  clear ho
  have HB9 : Hid (Below w.heap.size w W9) := Lib.hid (HB8.out.trans (hb.mono HB8.out.size))
  have HS9 : Hid (Below W8.heap.size W8 W9) := Lib.hid hb
  have HF9 : Hid (FR 0 0 W8 W9) := Lib.hid (FR.of_below hb)
  have hs9 : W8.heap.size ≤ W9.heap.size := hb.size
  clear hb
  have b0_9 := Lib.hid ((HF9.out.cell (p := ⟨w.heap.size, 0, none⟩) (by simp only; omega) (by simp only; omega)).trans b0_8.out)
  clear b0_8
  have b1_9 := Lib.hid (Go.Proofs.Ytigbknmiidhblaa.tm.TB.fr b1_8.out HF9.out (by omega) (by omega))
  clear b1_8
  have b2_9 := Lib.hid ((HF9.out.cell (p := ⟨W5.heap.size, 0, none⟩) (by simp only; omega) (by simp only; omega)).trans b2_8.out)
  clear b2_8
  have b3_9 := Lib.hid (Go.Proofs.Ytigbknmiidhblaa.tm.TB.fr b3_8.out HF9.out (by omega) (by omega))
  clear b3_8
  have s3_9 := Lib.hid (s3_8.out.fr HF9.out (by omega) (by omega))
  clear s3_8
  have s4_9 := Lib.hid (s4_8.out.fr HF9.out (by omega) (by omega))
  clear s4_8
  have s4p_9 := Lib.hid ((s4p_8.out.below HS9.out).more HS9.out.size)
  clear s4p_8
  have s5_9 := Lib.hid (s5_8.out.fr HF9.out (by omega) (by omega))
  clear s5_8
  have s5r_9 := Lib.hid ((s5r_8.out.below HS9.out).more HS9.out.size)
  clear s5r_8
  have s5w_9 := Lib.hid ((s5w_8.out.below HS9.out).more HS9.out.size)
  clear s5w_8
  have s6_9 := Lib.hid hv
  clear hv
  clear b2c0 b2L
  go_wp2_with fail
  refine (Go.Proofs.Ytigbknmiidhblaa.mv.same_l (by omega) (s6_9.out.vs (by omega)) (s3_9.out.vs (by omega))).mono ?_
  rintro e W10 ⟨rfl, hb⟩
  have HB10 : Hid (Below w.heap.size w W10) := Lib.hid (HB9.out.trans (hb.mono HB9.out.size))
  have HS10 : Hid (Below W9.heap.size W9 W10) := Lib.hid hb
  have HF10 : Hid (FR 0 0 W9 W10) := Lib.hid (FR.of_below hb)
  have hs10 : W9.heap.size ≤ W10.heap.size := hb.size
  clear hb
  have b0_10 := Lib.hid ((HF10.out.cell (p := ⟨w.heap.size, 0, none⟩) (by simp only; omega) (by simp only; omega)).trans b0_9.out)
  clear b0_9
  have b1_10 := Lib.hid (Go.Proofs.Ytigbknmiidhblaa.tm.TB.fr b1_9.out HF10.out (by omega) (by omega))
  clear b1_9
  have b2_10 := Lib.hid ((HF10.out.cell (p := ⟨W5.heap.size, 0, none⟩) (by simp only; omega) (by simp only; omega)).trans b2_9.out)
  clear b2_9
  have b3_10 := Lib.hid (Go.Proofs.Ytigbknmiidhblaa.tm.TB.fr b3_9.out HF10.out (by omega) (by omega))
  clear b3_9
  have s3_10 := Lib.hid (s3_9.out.fr HF10.out (by omega) (by omega))
  clear s3_9
  have s4_10 := Lib.hid (s4_9.out.fr HF10.out (by omega) (by omega))
  clear s4_9
  have s4p_10 := Lib.hid ((s4p_9.out.below HS10.out).more HS10.out.size)
  clear s4p_9
  have s5_10 := Lib.hid (s5_9.out.fr HF10.out (by omega) (by omega))
  clear s5_9
  have s5r_10 := Lib.hid ((s5r_9.out.below HS10.out).more HS10.out.size)
  clear s5r_9
  have s5w_10 := Lib.hid ((s5w_9.out.below HS10.out).more HS10.out.size)
  clear s5w_9
  have s6_10 := Lib.hid (s6_9.out.fr HF10.out (by omega) (by omega))
  clear s6_9
  go_wp2_with fail
  have hbk0 : Below W10.heap.size W10 W10.drew := (Below.refl _ _).drew
  have hbw0 := HB10.out.trans (hbk0.mono HB10.out.size)
  have b2l_10 : W5.heap.size < W10.heap.size := by omega
  have b0l_10 : w.heap.size < W10.heap.size := by omega
  have b2c0 := b2_10.out
  have b0c0 := b0_10.out
  go_region_held3 (fun w' => w'.cell? ⟨W5.heap.size, 0, none⟩ = some (.slice (some ⟨Ns4, 0, none⟩) n0 n0) ∧ w'.cell? ⟨w.heap.size, 0, none⟩ = some (.slice A0 n0 c0)) (go_keep) (first | (go_at_call 20; (with_reducible refine (same_store (by omega) ((s4p_10.out.below hbk1).more hbk1.size) s7a1 (Nat.le_refl _)).mono ?_); rintro e W11 ⟨rfl, hb⟩; have hbk2 := hbk1.trans (hb.mono hbk1.size); have hbw2 := HB10.out.trans (hbk2.mono HB10.out.size); have s7a2 := (s7a1.below hb).more hb.size; clear hb ; have b2d20 := (((hbk2).cell (p := ⟨W5.heap.size, 0, none⟩) b2l_10).trans b2_10.out); have b0d20 := (((hbk2).cell (p := ⟨w.heap.size, 0, none⟩) b0l_10).trans b0_10.out)) | (go_at_call 17; (with_reducible refine (copy_store (by omega) (by omega) (HR0.out.below hbw0) (hbw0).size).mono ?_); rintro e Wa1 ⟨Ns7, rfl, hN, hv, hb⟩; clear hN; have hbk1 := hbk0.trans (hb.mono hbk0.size); have hbw1 := HB10.out.trans (hbk1.mono HB10.out.size); have s7a1 := hv; clear hb hv; have b2d10 := (((hbk1).cell (p := ⟨W5.heap.size, 0, none⟩) b2l_10).trans b2_10.out); have b0d10 := (((hbk1).cell (p := ⟨w.heap.size, 0, none⟩) b0l_10).trans b0_10.out)))
  have hb := hbk2
  clear hbk0 hbw0 s7a1 b2d10 b0d10 hbk1 hbw1 s7a2 b2d20 b0d20 hbk2 hbw2 b2c0 b0c0 b2l_10 b0l_10
  have HB11 : Hid (Below w.heap.size w W11) := Lib.hid (HB10.out.trans (hb.mono HB10.out.size))
  have HS11 : Hid (Below W10.heap.size W10 W11) := Lib.hid hb
  have HF11 : Hid (FR 0 0 W10 W11) := Lib.hid (FR.of_below hb)
  have hs11 : W10.heap.size ≤ W11.heap.size := hb.size
  clear hb
  have b0_11 := Lib.hid ((HF11.out.cell (p := ⟨w.heap.size, 0, none⟩) (by simp only; omega) (by simp only; omega)).trans b0_10.out)
  clear b0_10
  have b1_11 := Lib.hid (Go.Proofs.Ytigbknmiidhblaa.tm.TB.fr b1_10.out HF11.out (by omega) (by omega))
  clear b1_10
  have b2_11 := Lib.hid ((HF11.out.cell (p := ⟨W5.heap.size, 0, none⟩) (by simp only; omega) (by simp only; omega)).trans b2_10.out)
  clear b2_10
  have b3_11 := Lib.hid (Go.Proofs.Ytigbknmiidhblaa.tm.TB.fr b3_10.out HF11.out (by omega) (by omega))
  clear b3_10
  have s3_11 := Lib.hid (s3_10.out.fr HF11.out (by omega) (by omega))
  clear s3_10
  have s4_11 := Lib.hid (s4_10.out.fr HF11.out (by omega) (by omega))
  clear s4_10
  have s4p_11 := Lib.hid ((s4p_10.out.below HS11.out).more HS11.out.size)
  clear s4p_10
  have s5_11 := Lib.hid (s5_10.out.fr HF11.out (by omega) (by omega))
  clear s5_10
  have s5r_11 := Lib.hid ((s5r_10.out.below HS11.out).more HS11.out.size)
  clear s5r_10
  have s5w_11 := Lib.hid ((s5w_10.out.below HS11.out).more HS11.out.size)
  clear s5w_10
  have s6_11 := Lib.hid (s6_10.out.fr HF11.out (by omega) (by omega))
  clear s6_10
  go_wp2_with fail
  have hbk0 : Below W11.heap.size W11 W11.drew := (Below.refl _ _).drew
  have hbw0 := HB11.out.trans (hbk0.mono HB11.out.size)
  have b3l_11 : W7.heap.size < W11.heap.size := by omega
  have b1l_11 : w.heap.size + 1 < W11.heap.size := by omega
  obtain ⟨b3c0, b3c1, b3c2, b3c3, b3c4, b3c5, b3c6, b3c7, b3c8⟩ := b3_11.out
  obtain ⟨b1c0, b1c1, b1c2, b1c3, b1c4, b1c5, b1c6, b1c7, b1c8⟩ := b1_11.out
  go_region_held3 (fun w' => w'.cell? ⟨W7.heap.size, 0, none⟩ = some (.int .i64 x1.i) ∧ w'.cell? ⟨W7.heap.size, 1, none⟩ = some (.int .i64 x1.s) ∧ w'.cell? ⟨W7.heap.size, 2, none⟩ = some (.int .i64 x1.t) ∧ w'.cell? ⟨W7.heap.size, 3, none⟩ = some (.int .i64 x1.b) ∧ w'.cell? ⟨W7.heap.size, 4, none⟩ = some (.int .i64 x1.l) ∧ w'.cell? ⟨W7.heap.size, 5, none⟩ = some (.int .i64 x1.h) ∧ w'.cell? ⟨W7.heap.size, 6, none⟩ = some (.int .i64 x1.c) ∧ w'.cell? ⟨W7.heap.size, 7, none⟩ = some (.slice (some ⟨Ns5, 0, none⟩) n1 n1) ∧ w'.cell? ⟨W7.heap.size, 8, none⟩ = some (.slice (some ⟨Ms5, 0, none⟩) p1 p1) ∧ w'.cell? ⟨w.heap.size + 1, 0, none⟩ = some (.int .i64 x1.i) ∧ w'.cell? ⟨w.heap.size + 1, 1, none⟩ = some (.int .i64 x1.s) ∧ w'.cell? ⟨w.heap.size + 1, 2, none⟩ = some (.int .i64 x1.t) ∧ w'.cell? ⟨w.heap.size + 1, 3, none⟩ = some (.int .i64 x1.b) ∧ w'.cell? ⟨w.heap.size + 1, 4, none⟩ = some (.int .i64 x1.l) ∧ w'.cell? ⟨w.heap.size + 1, 5, none⟩ = some (.int .i64 x1.h) ∧ w'.cell? ⟨w.heap.size + 1, 6, none⟩ = some (.int .i64 x1.c) ∧ w'.cell? ⟨w.heap.size + 1, 7, none⟩ = some (.slice A1 n1 c1) ∧ w'.cell? ⟨w.heap.size + 1, 8, none⟩ = some (.slice B1 p1 d1)) (go_keep) (first | (go_at_call 10; (with_reducible refine (same_tx x1 (by omega) (by omega) ((s5r_11.out.below hbk1).more hbk1.size) s8ra1 ((s5w_11.out.below hbk1).more hbk1.size) s8wa1 (Nat.le_refl _)).mono ?_); rintro e W12 ⟨rfl, hb⟩; have hbk2 := hbk1.trans (hb.mono hbk1.size); have hbw2 := HB11.out.trans (hbk2.mono HB11.out.size); have s8ra2 := (s8ra1.below hb).more hb.size; have s8wa2 := (s8wa1.below hb).more hb.size; clear hb ; obtain ⟨b3d20, b3d21, b3d22, b3d23, b3d24, b3d25, b3d26, b3d27, b3d28⟩ := ((b3_11.out).keep b3l_11 (hbk2)); obtain ⟨b1d20, b1d21, b1d22, b1d23, b1d24, b1d25, b1d26, b1d27, b1d28⟩ := ((b1_11.out).keep b1l_11 (hbk2))) | (go_at_call 8; (with_reducible refine (Go.Proofs.Ytigbknmiidhblaa.tx.copied_tx x1 (by omega) (by omega) (H1.out.below hbw0) (G1.out.below hbw0) (hbw0).size).mono ?_); rintro e Wa1 ⟨Ns8, Ms8, rfl, hv, hu, hb⟩; have hbk1 := hbk0.trans (hb.mono hbk0.size); have hbw1 := HB11.out.trans (hbk1.mono HB11.out.size); have s8ra1 := hv; have s8wa1 := hu; clear hb hv hu; obtain ⟨b3d10, b3d11, b3d12, b3d13, b3d14, b3d15, b3d16, b3d17, b3d18⟩ := ((b3_11.out).keep b3l_11 (hbk1)); obtain ⟨b1d10, b1d11, b1d12, b1d13, b1d14, b1d15, b1d16, b1d17, b1d18⟩ := ((b1_11.out).keep b1l_11 (hbk1))))
  have hb := hbk2
  clear hbk0 hbw0 s8ra1 s8wa1 b3d10 b3d11 b3d12 b3d13 b3d14 b3d15 b3d16 b3d17 b3d18 b1d10 b1d11 b1d12 b1d13 b1d14 b1d15 b1d16 b1d17 b1d18 hbk1 hbw1 s8ra2 s8wa2 b3d20 b3d21 b3d22 b3d23 b3d24 b3d25 b3d26 b3d27 b3d28 b1d20 b1d21 b1d22 b1d23 b1d24 b1d25 b1d26 b1d27 b1d28 hbk2 hbw2 b3c0 b3c1 b3c2 b3c3 b3c4 b3c5 b3c6 b3c7 b3c8 b1c0 b1c1 b1c2 b1c3 b1c4 b1c5 b1c6 b1c7 b1c8 b3l_11 b1l_11
  have HB12 : Hid (Below w.heap.size w W12) := Lib.hid (HB11.out.trans (hb.mono HB11.out.size))
  have HS12 : Hid (Below W11.heap.size W11 W12) := Lib.hid hb
  have HF12 : Hid (FR 0 0 W11 W12) := Lib.hid (FR.of_below hb)
  have hs12 : W11.heap.size ≤ W12.heap.size := hb.size
  clear hb
  have b0_12 := Lib.hid ((HF12.out.cell (p := ⟨w.heap.size, 0, none⟩) (by simp only; omega) (by simp only; omega)).trans b0_11.out)
  clear b0_11
  have b1_12 := Lib.hid (Go.Proofs.Ytigbknmiidhblaa.tm.TB.fr b1_11.out HF12.out (by omega) (by omega))
  clear b1_11
  have b2_12 := Lib.hid ((HF12.out.cell (p := ⟨W5.heap.size, 0, none⟩) (by simp only; omega) (by simp only; omega)).trans b2_11.out)
  clear b2_11
  have b3_12 := Lib.hid (Go.Proofs.Ytigbknmiidhblaa.tm.TB.fr b3_11.out HF12.out (by omega) (by omega))
  clear b3_11
  have s3_12 := Lib.hid (s3_11.out.fr HF12.out (by omega) (by omega))
  clear s3_11
  have s4_12 := Lib.hid (s4_11.out.fr HF12.out (by omega) (by omega))
  clear s4_11
  have s4p_12 := Lib.hid ((s4p_11.out.below HS12.out).more HS12.out.size)
  clear s4p_11
  have s5_12 := Lib.hid (s5_11.out.fr HF12.out (by omega) (by omega))
  clear s5_11
  have s5r_12 := Lib.hid ((s5r_11.out.below HS12.out).more HS12.out.size)
  clear s5r_11
  have s5w_12 := Lib.hid ((s5w_11.out.below HS12.out).more HS12.out.size)
  clear s5w_11
  have s6_12 := Lib.hid (s6_11.out.fr HF12.out (by omega) (by omega))
  clear s6_11
  have b2c0 := b2_12.out
  have b2L : W5.heap.size < W12.heap.size := by omega
  go_wp2_with fail
  refine (Go.Proofs.Ytigbknmiidhblaa.lw.mark_st (by omega) (by omega) s4_12.out (by omega)).mono ?_
  rintro e W13 ⟨rfl, hf⟩
  have HF13 : Hid (FR W4.heap.size W5.heap.size W12 W13) := Lib.hid hf
  have HB13 : Hid (Below w.heap.size w W13) := Lib.hid (FR.chain HB12.out hf (by omega))
  have hs13 : W12.heap.size ≤ W13.heap.size := hf.size
  clear hf
  have b0_13 := Lib.hid ((HF13.out.cell (p := ⟨w.heap.size, 0, none⟩) (by simp only; omega) (by simp only; omega)).trans b0_12.out)
  clear b0_12
  have b1_13 := Lib.hid (Go.Proofs.Ytigbknmiidhblaa.tm.TB.fr b1_12.out HF13.out (by omega) (by omega))
  clear b1_12
  have b2_13 := Lib.hid ((HF13.out.cell (p := ⟨W5.heap.size, 0, none⟩) (by simp only; omega) (by simp only; omega)).trans b2_12.out)
  clear b2_12
  have b3_13 := Lib.hid (Go.Proofs.Ytigbknmiidhblaa.tm.TB.fr b3_12.out HF13.out (by omega) (by omega))
  clear b3_12
  have s3_13 := Lib.hid (s3_12.out.fr HF13.out (by omega) (by omega))
  clear s3_12
  have s5_13 := Lib.hid (s5_12.out.fr HF13.out (by omega) (by omega))
  clear s5_12
  clear s5r_12
  clear s5w_12
  have s6_13 := Lib.hid (s6_12.out.fr HF13.out (by omega) (by omega))
  clear s6_12
  clear s4_12 s4p_12
  obtain ⟨s4c, hs4c⟩ : ∃ z : Int, z = 1 + ((Go.Proofs.Ytigbknmiidhblaa.st.cnt L0 * 5 : Nat) : Int) := ⟨_, rfl⟩
  rw [← hs4c]
  have s4t : decide (s4c < 0) = false := decide_eq_false (by omega)
  have s4b0 : 0 ≤ s4c := by omega
  have s4b1 : s4c ≤ 1099511627776 := by omega
  have Hs4C := Lib.hid hs4c
  clear hs4c
  clear b2c0 b2L
  obtain ⟨b3c0, b3c1, b3c2, b3c3, b3c4, b3c5, b3c6, b3c7, b3c8⟩ := b3_13.out
  have b3L : W7.heap.size < W13.heap.size := by omega
  go_wp2_with fail
  refine (Go.Proofs.Ytigbknmiidhblaa.lw.mark_txk (k0 := s4c) x1 (by omega) (by omega) (by omega) (by omega) s5_13.out (by omega)).mono ?_
  rintro e W14 ⟨rfl, hf⟩
  have HF14 : Hid (FR W6.heap.size W7.heap.size W13 W14) := Lib.hid hf
  have HB14 : Hid (Below w.heap.size w W14) := Lib.hid (FR.chain HB13.out hf (by omega))
  have hs14 : W13.heap.size ≤ W14.heap.size := hf.size
  clear hf
  have b0_14 := Lib.hid ((HF14.out.cell (p := ⟨w.heap.size, 0, none⟩) (by simp only; omega) (by simp only; omega)).trans b0_13.out)
  clear b0_13
  have b1_14 := Lib.hid (Go.Proofs.Ytigbknmiidhblaa.tm.TB.fr b1_13.out HF14.out (by omega) (by omega))
  clear b1_13
  have b2_14 := Lib.hid ((HF14.out.cell (p := ⟨W5.heap.size, 0, none⟩) (by simp only; omega) (by simp only; omega)).trans b2_13.out)
  clear b2_13
  have b3_14 := Lib.hid (Go.Proofs.Ytigbknmiidhblaa.tm.TB.fr b3_13.out HF14.out (by omega) (by omega))
  clear b3_13
  have s3_14 := Lib.hid (s3_13.out.fr HF14.out (by omega) (by omega))
  clear s3_13
  have s6_14 := Lib.hid (s6_13.out.fr HF14.out (by omega) (by omega))
  clear s6_13
  clear s5_13 
  obtain ⟨s5c, hs5c⟩ : ∃ z : Int, z = s4c + ((n1 * 2 : Nat) : Int) + ((p1 * 2 : Nat) : Int) := ⟨_, rfl⟩
  rw [← hs5c]
  have s5t : decide (s5c < 0) = false := decide_eq_false (by omega)
  have s5b0 : 0 ≤ s5c := by omega
  have s5b1 : s5c ≤ 1125899906842624 := by omega
  have Hs5C := Lib.hid hs5c
  clear hs5c
  clear b3c0 b3c1 b3c2 b3c3 b3c4 b3c5 b3c6 b3c7 b3c8 b3L
  go_wp2_with fail
  refine (Go.Proofs.Ytigbknmiidhblaa.mv.same_l (by omega) (s6_14.out.vs (by omega)) (s3_14.out.vs (by omega))).mono ?_
  rintro e W15 ⟨rfl, hb⟩
  have HB15 : Hid (Below w.heap.size w W15) := Lib.hid (HB14.out.trans (hb.mono HB14.out.size))
  have HS15 : Hid (Below W14.heap.size W14 W15) := Lib.hid hb
  have HF15 : Hid (FR 0 0 W14 W15) := Lib.hid (FR.of_below hb)
  have hs15 : W14.heap.size ≤ W15.heap.size := hb.size
  clear hb
  have b0_15 := Lib.hid ((HF15.out.cell (p := ⟨w.heap.size, 0, none⟩) (by simp only; omega) (by simp only; omega)).trans b0_14.out)
  clear b0_14
  have b1_15 := Lib.hid (Go.Proofs.Ytigbknmiidhblaa.tm.TB.fr b1_14.out HF15.out (by omega) (by omega))
  clear b1_14
  have b2_15 := Lib.hid ((HF15.out.cell (p := ⟨W5.heap.size, 0, none⟩) (by simp only; omega) (by simp only; omega)).trans b2_14.out)
  clear b2_14
  have b3_15 := Lib.hid (Go.Proofs.Ytigbknmiidhblaa.tm.TB.fr b3_14.out HF15.out (by omega) (by omega))
  clear b3_14
  have s3_15 := Lib.hid (s3_14.out.fr HF15.out (by omega) (by omega))
  clear s3_14
  have s6_15 := Lib.hid (s6_14.out.fr HF15.out (by omega) (by omega))
  clear s6_14
  go_wp2_with fail
  refine (Go.Proofs.Ytigbknmiidhblaa.mv.mark_l (by omega) s6_15.out (by omega)).mono ?_
  rintro e W16 ⟨rfl, hm, hf⟩
  have HF16 : Hid (FR W8.heap.size W9.heap.size W15 W16) := Lib.hid hf
  have HB16 : Hid (Below w.heap.size w W16) := Lib.hid (FR.chain HB15.out hf (by omega))
  have hs16 : W15.heap.size ≤ W16.heap.size := hf.size
  clear hf
  have b0_16 := Lib.hid ((HF16.out.cell (p := ⟨w.heap.size, 0, none⟩) (by simp only; omega) (by simp only; omega)).trans b0_15.out)
  clear b0_15
  have b1_16 := Lib.hid (Go.Proofs.Ytigbknmiidhblaa.tm.TB.fr b1_15.out HF16.out (by omega) (by omega))
  clear b1_15
  have b2_16 := Lib.hid ((HF16.out.cell (p := ⟨W5.heap.size, 0, none⟩) (by simp only; omega) (by simp only; omega)).trans b2_15.out)
  clear b2_15
  have b3_16 := Lib.hid (Go.Proofs.Ytigbknmiidhblaa.tm.TB.fr b3_15.out HF16.out (by omega) (by omega))
  clear b3_15
  have s3_16 := Lib.hid (s3_15.out.fr HF16.out (by omega) (by omega))
  clear s3_15
  clear s6_15 
  obtain ⟨s6c, hs6c⟩ : ∃ z : Int, z = 1 + ((nq * 5 : Nat) : Int) := ⟨_, rfl⟩
  rw [← hs6c]
  have s6t : decide (s6c < 0) = false := decide_eq_false (by omega)
  have s6b0 : 0 ≤ s6c := by omega
  have s6b1 : s6c ≤ 1099511627776 := by omega
  have Hs6C := Lib.hid hs6c
  clear hs6c
  have s6m_16 := Lib.hid hm
  clear hm
  go_wp2_with fail
  refine (Go.Proofs.Ytigbknmiidhblaa.mv.held_l (by omega) s6m_16.out (by omega)).mono ?_
  rintro e W17 ⟨rfl, hb⟩
  rw [← Hs6C.out]
  have HB17 : Hid (Below w.heap.size w W17) := Lib.hid (HB16.out.trans (hb.mono HB16.out.size))
  have HS17 : Hid (Below W16.heap.size W16 W17) := Lib.hid hb
  have HF17 : Hid (FR 0 0 W16 W17) := Lib.hid (FR.of_below hb)
  have hs17 : W16.heap.size ≤ W17.heap.size := hb.size
  clear hb
  have b0_17 := Lib.hid ((HF17.out.cell (p := ⟨w.heap.size, 0, none⟩) (by simp only; omega) (by simp only; omega)).trans b0_16.out)
  clear b0_16
  have b1_17 := Lib.hid (Go.Proofs.Ytigbknmiidhblaa.tm.TB.fr b1_16.out HF17.out (by omega) (by omega))
  clear b1_16
  have b2_17 := Lib.hid ((HF17.out.cell (p := ⟨W5.heap.size, 0, none⟩) (by simp only; omega) (by simp only; omega)).trans b2_16.out)
  clear b2_16
  have b3_17 := Lib.hid (Go.Proofs.Ytigbknmiidhblaa.tm.TB.fr b3_16.out HF17.out (by omega) (by omega))
  clear b3_16
  have s3_17 := Lib.hid (s3_16.out.fr HF17.out (by omega) (by omega))
  clear s3_16
  have s6m_17 := Lib.hid (s6m_16.out.fr HF17.out (by omega) (by omega))
  clear s6m_16
  go_wp2_with fail
  have hbk0 : Below W17.heap.size W17 W17.drew := (Below.refl _ _).drew
  have hbw0 := HB17.out.trans (hbk0.mono HB17.out.size)
  have b0l_17 : w.heap.size < W17.heap.size := by omega
  have b1l_17 : w.heap.size + 1 < W17.heap.size := by omega
  have b0c0 := b0_17.out
  obtain ⟨b1c0, b1c1, b1c2, b1c3, b1c4, b1c5, b1c6, b1c7, b1c8⟩ := b1_17.out
  go_region_held3 (fun w' => w'.cell? ⟨w.heap.size, 0, none⟩ = some (.slice A0 n0 c0) ∧ w'.cell? ⟨w.heap.size + 1, 0, none⟩ = some (.int .i64 x1.i) ∧ w'.cell? ⟨w.heap.size + 1, 1, none⟩ = some (.int .i64 x1.s) ∧ w'.cell? ⟨w.heap.size + 1, 2, none⟩ = some (.int .i64 x1.t) ∧ w'.cell? ⟨w.heap.size + 1, 3, none⟩ = some (.int .i64 x1.b) ∧ w'.cell? ⟨w.heap.size + 1, 4, none⟩ = some (.int .i64 x1.l) ∧ w'.cell? ⟨w.heap.size + 1, 5, none⟩ = some (.int .i64 x1.h) ∧ w'.cell? ⟨w.heap.size + 1, 6, none⟩ = some (.int .i64 x1.c) ∧ w'.cell? ⟨w.heap.size + 1, 7, none⟩ = some (.slice A1 n1 c1) ∧ w'.cell? ⟨w.heap.size + 1, 8, none⟩ = some (.slice B1 p1 d1)) (go_keep) (first | (go_at_call 18; (with_reducible refine (Go.Proofs.Ytigbknmiidhblaa.inv.impl_inst x1 (by omega) (by omega) (by omega) s10ra2 s10wa2 s9a2 (Nat.le_refl _)).mono ?_); rintro e W18 ⟨As11, cs11, he, ho, hb⟩; rw [HQ.out, HNQ.out] at he ho; subst he; have hv : Go.Proofs.Ytigbknmiidhblaa.mv.OvS W18 (W17.heap.size) (W18.heap.size) As11 nq q := Go.Proofs.Ytigbknmiidhblaa.mv.OvS.of_own (Go.Proofs.Ytigbknmiidhblaa.oq.own_lo ho fun q9 e9 => Nat.le_trans hbk2.size (ho.lt q9 e9).1) HNQ.out (Nat.le_refl _); clear ho; have hbk3 := hbk2.trans (hb.mono hbk2.size); have hbw3 := HB17.out.trans (hbk3.mono HB17.out.size); have s9a3 := (s9a2.below hb).more hb.size; have s10ra3 := (s10ra2.below hb).more hb.size; have s10wa3 := (s10wa2.below hb).more hb.size; have s11a3 := hv; clear hb hv; have b0d30 := (((hbk3).cell (p := ⟨w.heap.size, 0, none⟩) b0l_17).trans b0_17.out); obtain ⟨b1d30, b1d31, b1d32, b1d33, b1d34, b1d35, b1d36, b1d37, b1d38⟩ := ((b1_17.out).keep b1l_17 (hbk3))) | (go_at_call 8; (with_reducible refine (Go.Proofs.Ytigbknmiidhblaa.tx.copied_tx x1 (by omega) (by omega) (H1.out.below hbw1) (G1.out.below hbw1) (hbw1).size).mono ?_); rintro e Wa2 ⟨Ns10, Ms10, rfl, hv, hu, hb⟩; have hbk2 := hbk1.trans (hb.mono hbk1.size); have hbw2 := HB17.out.trans (hbk2.mono HB17.out.size); have s9a2 := (s9a1.below hb).more hb.size; have s10ra2 := hv; have s10wa2 := hu; clear hb hv hu; have b0d20 := (((hbk2).cell (p := ⟨w.heap.size, 0, none⟩) b0l_17).trans b0_17.out); obtain ⟨b1d20, b1d21, b1d22, b1d23, b1d24, b1d25, b1d26, b1d27, b1d28⟩ := ((b1_17.out).keep b1l_17 (hbk2))) | (go_at_call 17; (with_reducible refine (copy_store (by omega) (by omega) (HR0.out.below hbw0) (hbw0).size).mono ?_); rintro e Wa1 ⟨Ns9, rfl, hN, hv, hb⟩; clear hN; have hbk1 := hbk0.trans (hb.mono hbk0.size); have hbw1 := HB17.out.trans (hbk1.mono HB17.out.size); have s9a1 := hv; clear hb hv; have b0d10 := (((hbk1).cell (p := ⟨w.heap.size, 0, none⟩) b0l_17).trans b0_17.out); obtain ⟨b1d10, b1d11, b1d12, b1d13, b1d14, b1d15, b1d16, b1d17, b1d18⟩ := ((b1_17.out).keep b1l_17 (hbk1))))
  have hb := hbk3
  have s11_18 := Lib.hid s11a3
  clear hbk0 hbw0 s9a1 b0d10 b1d10 b1d11 b1d12 b1d13 b1d14 b1d15 b1d16 b1d17 b1d18 hbk1 hbw1 s9a2 s10ra2 s10wa2 b0d20 b1d20 b1d21 b1d22 b1d23 b1d24 b1d25 b1d26 b1d27 b1d28 hbk2 hbw2 s9a3 s10ra3 s10wa3 s11a3 b0d30 b1d30 b1d31 b1d32 b1d33 b1d34 b1d35 b1d36 b1d37 b1d38 hbk3 hbw3 b0c0 b1c0 b1c1 b1c2 b1c3 b1c4 b1c5 b1c6 b1c7 b1c8 b0l_17 b1l_17
  have HB18 : Hid (Below w.heap.size w W18) := Lib.hid (HB17.out.trans (hb.mono HB17.out.size))
  have HS18 : Hid (Below W17.heap.size W17 W18) := Lib.hid hb
  have HF18 : Hid (FR 0 0 W17 W18) := Lib.hid (FR.of_below hb)
  have hs18 : W17.heap.size ≤ W18.heap.size := hb.size
  clear hb
  have b0_18 := Lib.hid ((HF18.out.cell (p := ⟨w.heap.size, 0, none⟩) (by simp only; omega) (by simp only; omega)).trans b0_17.out)
  clear b0_17
  have b1_18 := Lib.hid (Go.Proofs.Ytigbknmiidhblaa.tm.TB.fr b1_17.out HF18.out (by omega) (by omega))
  clear b1_17
  have b2_18 := Lib.hid ((HF18.out.cell (p := ⟨W5.heap.size, 0, none⟩) (by simp only; omega) (by simp only; omega)).trans b2_17.out)
  clear b2_17
  have b3_18 := Lib.hid (Go.Proofs.Ytigbknmiidhblaa.tm.TB.fr b3_17.out HF18.out (by omega) (by omega))
  clear b3_17
  have s3_18 := Lib.hid (s3_17.out.fr HF18.out (by omega) (by omega))
  clear s3_17
  have s6m_18 := Lib.hid (s6m_17.out.fr HF18.out (by omega) (by omega))
  clear s6m_17
  go_wp2_with fail
  refine (Go.Proofs.Ytigbknmiidhblaa.mv.same_l (by omega) (s11_18.out.vs (by omega)) (s3_18.out.vs (by omega))).mono ?_
  rintro e W19 ⟨rfl, hb⟩
  have HB19 : Hid (Below w.heap.size w W19) := Lib.hid (HB18.out.trans (hb.mono HB18.out.size))
  have HS19 : Hid (Below W18.heap.size W18 W19) := Lib.hid hb
  have HF19 : Hid (FR 0 0 W18 W19) := Lib.hid (FR.of_below hb)
  have hs19 : W18.heap.size ≤ W19.heap.size := hb.size
  clear hb
  have b0_19 := Lib.hid ((HF19.out.cell (p := ⟨w.heap.size, 0, none⟩) (by simp only; omega) (by simp only; omega)).trans b0_18.out)
  clear b0_18
  have b1_19 := Lib.hid (Go.Proofs.Ytigbknmiidhblaa.tm.TB.fr b1_18.out HF19.out (by omega) (by omega))
  clear b1_18
  have b2_19 := Lib.hid ((HF19.out.cell (p := ⟨W5.heap.size, 0, none⟩) (by simp only; omega) (by simp only; omega)).trans b2_18.out)
  clear b2_18
  have b3_19 := Lib.hid (Go.Proofs.Ytigbknmiidhblaa.tm.TB.fr b3_18.out HF19.out (by omega) (by omega))
  clear b3_18
  have s3_19 := Lib.hid (s3_18.out.fr HF19.out (by omega) (by omega))
  clear s3_18
  have s6m_19 := Lib.hid (s6m_18.out.fr HF19.out (by omega) (by omega))
  clear s6m_18
  have s11_19 := Lib.hid (s11_18.out.fr HF19.out (by omega) (by omega))
  clear s11_18
  go_wp2_with fail
  refine (Go.Proofs.Ytigbknmiidhblaa.mv.held_l (by omega) s6m_19.out (by omega)).mono ?_
  rintro e W20 ⟨rfl, hb⟩
  rw [← Hs6C.out]
  have HB20 : Hid (Below w.heap.size w W20) := Lib.hid (HB19.out.trans (hb.mono HB19.out.size))
  have HS20 : Hid (Below W19.heap.size W19 W20) := Lib.hid hb
  have HF20 : Hid (FR 0 0 W19 W20) := Lib.hid (FR.of_below hb)
  have hs20 : W19.heap.size ≤ W20.heap.size := hb.size
  clear hb
  have b0_20 := Lib.hid ((HF20.out.cell (p := ⟨w.heap.size, 0, none⟩) (by simp only; omega) (by simp only; omega)).trans b0_19.out)
  clear b0_19
  have b1_20 := Lib.hid (Go.Proofs.Ytigbknmiidhblaa.tm.TB.fr b1_19.out HF20.out (by omega) (by omega))
  clear b1_19
  have b2_20 := Lib.hid ((HF20.out.cell (p := ⟨W5.heap.size, 0, none⟩) (by simp only; omega) (by simp only; omega)).trans b2_19.out)
  clear b2_19
  have b3_20 := Lib.hid (Go.Proofs.Ytigbknmiidhblaa.tm.TB.fr b3_19.out HF20.out (by omega) (by omega))
  clear b3_19
  have s3_20 := Lib.hid (s3_19.out.fr HF20.out (by omega) (by omega))
  clear s3_19
  have s6m_20 := Lib.hid (s6m_19.out.fr HF20.out (by omega) (by omega))
  clear s6m_19
  have s11_20 := Lib.hid (s11_19.out.fr HF20.out (by omega) (by omega))
  clear s11_19
  go_wp2_with fail
  go_ret
  exact ⟨rfl, HB20.out⟩
/-! ### THE ROW's STEP -/
set_option maxRecDepth 100000 in
theorem lifted (os : Os) (started : os.Started) (H : Type) (enc : TypeId × Value → H) :
    ReturnsInHanded {} Try.checked os 5 .any (Rows.fnExactInstalledVersionsSpec.pre6 enc Try.prog Try.f5 Rows.fnExactInstalledVersionsRow.domain false) (Rows.fnExactInstalledVersionsSpec.post enc Try.prog Try.f5 false true false false) := by
  refine returnsInHanded_of_change (C := Try.checked) own started (by kernel_rfl) Try.func5
    (ChangeSpec.witness6 (enc := enc) (C := Try.checked) false ⟨#[], #[.agg #[.slice none 0 0], .agg #[.int .i64 0, .int .i64 0, .int .i64 0, .int .i64 0, .int .i64 0, .int .i64 0, .int .i64 0, .slice none 0 0, .slice none 0 0]], []⟩ 8 (by kernel_rfl) (by kernel_rfl) (by kernel_rfl) (by kernel_rfl)) ?_
  intro W base args ds gs before hval0 hW hcnd _
  have hval : ∀ (j : Nat) t v, Try.f5.params[j]? = some t → args[j]? = some v → Value.okWide Try.prog W .any base t v := hval0
  have hW' := hW
  obtain ⟨pp, qq, hA0, hV, rfl, hfz, hnd⟩ := hW
  have hA : DataW.TrodAll enc Try.prog W 0 (fun _ => true) true Try.f5.params.toList args.toList ds pp := hA0
  rw [Try.params5] at hA hval
  obtain ⟨v0, vs0, dd0, ds0, pp0, qq0, hargs, rfl, rfl, h0, r0⟩ := trodAll_cons hA
  obtain ⟨v1, vs1, dd1, ds1, pp1, qq1, rfl, rfl, rfl, h1, r1⟩ := trodAll_cons r0
  obtain ⟨rfl, rfl, rfl⟩ := trodAll_nil r1
  obtain rfl : args = #[v0, v1] := by cases args; simp_all
  obtain ⟨rfl, rfl⟩ := trodVars_none hV
  have k0 := h0
  have lt0 : ∀ x ∈ pp0, x.block < W.heap.size := by obtain ⟨m, hm⟩ := k0; exact DataW.trod_lt m _ _ _ hm
  obtain ⟨A0, n0, c0, L0, rfl, w0, m0⟩ := open_store (hval 0 40 v0 rfl rfl) h0
  have k1 := h1
  have lt1 : ∀ x ∈ pp1, x.block < W.heap.size := by obtain ⟨m, hm⟩ := k1; exact DataW.trod_lt m _ _ _ hm
  obtain ⟨x1, A1, n1, c1, R1, B1, p1, d1, Q1, rfl, w1, m1, u1, o1⟩ := open_tx (hval 1 25 v1 rfl rfl) h1
  clear hA0 hval0
  refine (walk A0 n0 c0 L0 x1 A1 n1 c1 R1 B1 p1 d1 Q1 W w0 m0 w1 m1 u1 o1).mono fun e W' ⟨he, bel⟩ => ?_
  subst he
  exact ⟨_, rfl, _, _, _, [], _, [], hW', trodAll_mk1 (shut_bool Try.underlying4 _), (trodAll_cons_mk (Below.trod laidOut (by kernel_rfl) (of_decide_eq_true (by kernel_rfl)) k0 bel lt0) (trodAll_cons_mk (Below.trod laidOut (by kernel_rfl) (of_decide_eq_true (by kernel_rfl)) k1 bel lt1) trodAll_mk0)), rfl, bel.frame _, fun h => by cases h⟩

theorem over : Rows.fnExactInstalledVersionsRow.holds Try.pinned (OpenSpec.ofChange Rows.fnExactInstalledVersionsSpec) :=
  OpenClaim.holds_of_wide 5 Try.f5 rfl rfl rfl rfl rfl rfl rfl ⟨rfl, rfl, rfl, rfl, rfl⟩ rfl rfl rfl rfl rfl (by kernel_rfl) Try.func5 (by kernel_rfl)
    (of_decide_eq_true (by kernel_rfl)) (by unfold Func.isWrapper; first | (rw [if_pos (by decide +kernel)]; kernel_rfl) | (rw [if_neg (by decide +kernel)]; exact ⟨rfl, rfl⟩))
    (fun os started H enc _ => lifted os started H enc)

/-- THE STATEMENT -/
theorem proved : Rows.FnExactInstalledVersionsSaid := over
#print axioms proved
end Go.Proofs.Ytigbknmiidhblaa.fnExactInstalledVersions
