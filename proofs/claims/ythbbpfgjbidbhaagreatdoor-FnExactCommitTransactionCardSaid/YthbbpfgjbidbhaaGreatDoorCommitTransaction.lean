/- CommitTransaction of the program answers as its model at every store, transaction and integer, in memory of its own: the law returns true and writes nothing that was there; its two listed errors are tied to the text of the program. No other condition. -/
import Derived.Test.YthbbpfgjbidbhaaGreatDoorCml
import Derived.Test.YthbbpfgjbidbhaaGreatDoorMc
import Derived.Test.YthbbpfgjbidbhaaGreatDoorLw
import Derived.Test.YthbbpfgjbidbhaaGreatDoorErv
import Derived.Test.YthbbpfgjbidbhaaGreatDoorOpenS
import Derived.Test.YthbbpfgjbidbhaaGreatDoorOpen
import Derived.Test.YthbbpfgjbidbhaaGreatDoorCards
import Derived.OpenVars
import Derived.OpenShut
import Derived.Test.YthbbpfgjbidbhaaGreatDoorTie
import Derived.WalkKit
import Derived.ProofKit
import Derived.ShutString
import Derived.ChangeOld
import Derived.Below
import Derived.Carry
import Derived.Lib.Hide
import Derived.StillTailTactics
import Derived.Deep.RegionHeld3
import Derived.Deep.DeepHandedRow
namespace Go.Proofs.YthbbpfgjbidbhaaGreatDoor.fnExactCommitTransaction
open Go.ChangeShapes Go.WideShapes Go.ChangeAt Go.RowKit
open Go.ChangeMaps (open_string shut_string)
open Go.Proofs.YthbbpfgjbidbhaaGreatDoor.el2
open Go.Proofs.YthbbpfgjbidbhaaGreatDoor.tx
open Go.Proofs.YthbbpfgjbidbhaaGreatDoor.st
open Go.Proofs.YthbbpfgjbidbhaaGreatDoor.sl
open Go.Proofs.YthbbpfgjbidbhaaGreatDoor.opns
open Go.Proofs.YthbbpfgjbidbhaaGreatDoor.fr (FR)
open Go.Proofs.YthbbpfgjbidbhaaGreatDoor.vers (new2 new3)
open Go.Proofs.YthbbpfgjbidbhaaGreatDoor.rg
open Go.Proofs.YthbbpfgjbidbhaaGreatDoor.cmi
open Go.Proofs.YthbbpfgjbidbhaaGreatDoor.cml
set_option linter.unusedVariables false
set_option linter.unusedSimpArgs false
abbrev Facts := Go.Proofs.YthbbpfgjbidbhaaGreatDoor.crm.Ev
noncomputable abbrev laidWorld := Go.Proofs.YthbbpfgjbidbhaaGreatDoor.erv.errWorld
theorem own : ownKnob Tryz.prog.godebug = none := by kernel_rfl
theorem laidOut : laidOutB Tryz.prog = true := by kernel_rfl
set_option maxRecDepth 100000 in
set_option maxHeartbeats 25600000 in
theorem walk (A0 : Option Addr) (n0 c0 : Nat) (L0 : List (List Ver)) (x1 : Hd) (A1 : Option Addr) (n1 c1 : Nat) (R1 : List E2) (B1 : Option Addr) (p1 d1 : Nat) (Q1 : List E2) (a2 : Int) (w : World) (h0 : R0 w w.heap.size A0 n0 L0) (m0 : n0 ≤ maxLen) (h1 : Go.Proofs.YthbbpfgjbidbhaaGreatDoor.el2.Vs w w.heap.size A1 n1 R1) (m1 : n1 ≤ maxLen) (g1 : Go.Proofs.YthbbpfgjbidbhaaGreatDoor.el2.Vs w w.heap.size B1 p1 Q1) (o1 : p1 ≤ maxLen) (b2 : (Lit.int .i64 a2).wf = true) (hF : Facts w) :
    Calls Tryz.prog 3 #[.agg #[.slice A0 n0 c0], .agg #[.int .i64 x1.i, .int .i64 x1.s, .int .i64 x1.t, .int .i64 x1.b, .int .i64 x1.l, .int .i64 x1.h, .int .i64 x1.c, .slice A1 n1 c1, .slice B1 p1 d1], .int .i64 a2] w fun e w' => e = .returned (.bool true) ∧ Below w.heap.size w w' := by
  have HF := Lib.hid hF
  clear hF
  unfold maxLen at m0
  have H0 := Lib.hid h0
  have hlen0 := h0.1
  clear h0
  unfold maxLen at m1 o1
  have H1 := Lib.hid h1
  have G1 := Lib.hid g1
  have hlen1 := h1.1
  have hlem1 := g1.1
  clear h1 g1
  clear b2
  by_cases hbig0 : (1048576 : Int) < tot L0
  · have hz := szR_no (left := (1048576 : Int)) (ll := L0) (by omega)
    have HZ0 := Lib.hid hz
    clear hz
    go_enter Tryz.func3, Tryz.ntmps3
    go_wp2_with fail
    have hx0 := one_cell w (.slice A0 n0 c0) 24
    replace hx0 := ((new1 (w.alloc (.cells #[.slice A0 n0 c0] 24)) (.cells #[.int .i64 x1.i, .int .i64 x1.s, .int .i64 x1.t, .int .i64 x1.b, .int .i64 x1.l, .int .i64 x1.h, .int .i64 x1.c, .slice A1 n1 c1, .slice B1 p1 d1] 28)).cell (p := ⟨w.heap.size, 0, none⟩) (by simp; try omega)).trans hx0
    have hx1 := TB.new (w.alloc (.cells #[.slice A0 n0 c0] 24)) x1 A1 n1 c1 B1 p1 d1 28
    rw [show (w.alloc (.cells #[.slice A0 n0 c0] 24)).heap.size = w.heap.size + 1 by simp] at hx1
    have hz : ((w.alloc (.cells #[.slice A0 n0 c0] 24)).alloc (.cells #[.int .i64 x1.i, .int .i64 x1.s, .int .i64 x1.t, .int .i64 x1.b, .int .i64 x1.l, .int .i64 x1.h, .int .i64 x1.c, .slice A1 n1 c1, .slice B1 p1 d1] 28)).heap.size = w.heap.size + 2 := by simp
    have hb := Go.Proofs.YthbbpfgjbidbhaaGreatDoor.vers.new2 w (.cells #[.slice A0 n0 c0] 24) (.cells #[.int .i64 x1.i, .int .i64 x1.s, .int .i64 x1.t, .int .i64 x1.b, .int .i64 x1.l, .int .i64 x1.h, .int .i64 x1.c, .slice A1 n1 c1, .slice B1 p1 d1] 28)
    generalize ((w.alloc (.cells #[.slice A0 n0 c0] 24)).alloc (.cells #[.int .i64 x1.i, .int .i64 x1.s, .int .i64 x1.t, .int .i64 x1.b, .int .i64 x1.l, .int .i64 x1.h, .int .i64 x1.c, .slice A1 n1 c1, .slice B1 p1 d1] 28)) = W1 at hx0 hx1 hb hz ⊢
    have HB1 : Hid (Below w.heap.size w W1) := Lib.hid hb
    have HS1 : Hid (Below w.heap.size w W1) := Lib.hid hb
    have HF1 : Hid (FR 0 0 w W1) := Lib.hid (FR.of_below hb)
    have hs1 : w.heap.size ≤ W1.heap.size := hb.size
    clear hb
    have hz1 : w.heap.size + 2 ≤ W1.heap.size := Nat.le_of_eq hz.symm
    clear hz
    have b0_1 := Lib.hid hx0
    clear hx0
    have b1_1 := Lib.hid hx1
    clear hx1
    refine (count_store (by omega) (H0.out.below HB1.out) HB1.out.size (by omega) (by omega)).mono ?_
    rintro e W2 ⟨rfl, hb⟩
    rw [HZ0.out]
    have HB2 : Hid (Below w.heap.size w W2) := Lib.hid (HB1.out.trans (hb.mono HB1.out.size))
    have HS2 : Hid (Below W1.heap.size W1 W2) := Lib.hid hb
    have HF2 : Hid (FR 0 0 W1 W2) := Lib.hid (FR.of_below hb)
    have hs2 : W1.heap.size ≤ W2.heap.size := hb.size
    clear hb
    have b0_2 := Lib.hid ((HF2.out.cell (p := ⟨w.heap.size, 0, none⟩) (by simp only; omega) (by simp only; omega)).trans b0_1.out)
    clear b0_1
    have b1_2 := Lib.hid (Go.Proofs.YthbbpfgjbidbhaaGreatDoor.tm.TB.fr b1_1.out HF2.out (by omega) (by omega))
    clear b1_1
    go_wp2_with fail
    go_ret
    exact ⟨rfl, HB2.out⟩
  have hz := szR_yes (left := (1048576 : Int)) (ll := L0) (by omega)
  have HZ0 := Lib.hid hz
  clear hz
  have htot0 := tot_eq L0
  have HR0 := Lib.hid (H0.out.tight (by omega))
  obtain ⟨lf0, hlf⟩ : ∃ lf : Int, lf = (1048576 : Int) - (tot L0 : Int) := ⟨_, rfl⟩
  have hz := HZ0.out
  clear HZ0
  rw [← hlf] at hz
  have HZ0 := Lib.hid hz
  have tz0 : decide (lf0 < 0) = false := decide_eq_false (by omega)
  have lf00 : 0 ≤ lf0 := by omega
  have lf10 : lf0 ≤ 1048576 := by omega
  have HLF1 := Lib.hid hlf
  clear hlf hz
  by_cases hbig1 : lf0 < n1 + p1
  · have hz := szT_no (left := lf0) (n := n1) (n2 := p1) (by omega)
    have HZ1 := Lib.hid hz
    clear hz
    go_enter Tryz.func3, Tryz.ntmps3
    go_wp2_with fail
    have hx0 := one_cell w (.slice A0 n0 c0) 24
    replace hx0 := ((new1 (w.alloc (.cells #[.slice A0 n0 c0] 24)) (.cells #[.int .i64 x1.i, .int .i64 x1.s, .int .i64 x1.t, .int .i64 x1.b, .int .i64 x1.l, .int .i64 x1.h, .int .i64 x1.c, .slice A1 n1 c1, .slice B1 p1 d1] 28)).cell (p := ⟨w.heap.size, 0, none⟩) (by simp; try omega)).trans hx0
    have hx1 := TB.new (w.alloc (.cells #[.slice A0 n0 c0] 24)) x1 A1 n1 c1 B1 p1 d1 28
    rw [show (w.alloc (.cells #[.slice A0 n0 c0] 24)).heap.size = w.heap.size + 1 by simp] at hx1
    have hz : ((w.alloc (.cells #[.slice A0 n0 c0] 24)).alloc (.cells #[.int .i64 x1.i, .int .i64 x1.s, .int .i64 x1.t, .int .i64 x1.b, .int .i64 x1.l, .int .i64 x1.h, .int .i64 x1.c, .slice A1 n1 c1, .slice B1 p1 d1] 28)).heap.size = w.heap.size + 2 := by simp
    have hb := Go.Proofs.YthbbpfgjbidbhaaGreatDoor.vers.new2 w (.cells #[.slice A0 n0 c0] 24) (.cells #[.int .i64 x1.i, .int .i64 x1.s, .int .i64 x1.t, .int .i64 x1.b, .int .i64 x1.l, .int .i64 x1.h, .int .i64 x1.c, .slice A1 n1 c1, .slice B1 p1 d1] 28)
    generalize ((w.alloc (.cells #[.slice A0 n0 c0] 24)).alloc (.cells #[.int .i64 x1.i, .int .i64 x1.s, .int .i64 x1.t, .int .i64 x1.b, .int .i64 x1.l, .int .i64 x1.h, .int .i64 x1.c, .slice A1 n1 c1, .slice B1 p1 d1] 28)) = W1 at hx0 hx1 hb hz ⊢
    have HB1 : Hid (Below w.heap.size w W1) := Lib.hid hb
    have HS1 : Hid (Below w.heap.size w W1) := Lib.hid hb
    have HF1 : Hid (FR 0 0 w W1) := Lib.hid (FR.of_below hb)
    have hs1 : w.heap.size ≤ W1.heap.size := hb.size
    clear hb
    have hz1 : w.heap.size + 2 ≤ W1.heap.size := Nat.le_of_eq hz.symm
    clear hz
    have b0_1 := Lib.hid hx0
    clear hx0
    have b1_1 := Lib.hid hx1
    clear hx1
    refine (count_store (by omega) (H0.out.below HB1.out) HB1.out.size (by omega) (by omega)).mono ?_
    rintro e W2 ⟨rfl, hb⟩
    rw [HZ0.out]
    have HB2 : Hid (Below w.heap.size w W2) := Lib.hid (HB1.out.trans (hb.mono HB1.out.size))
    have HS2 : Hid (Below W1.heap.size W1 W2) := Lib.hid hb
    have HF2 : Hid (FR 0 0 W1 W2) := Lib.hid (FR.of_below hb)
    have hs2 : W1.heap.size ≤ W2.heap.size := hb.size
    clear hb
    have b0_2 := Lib.hid ((HF2.out.cell (p := ⟨w.heap.size, 0, none⟩) (by simp only; omega) (by simp only; omega)).trans b0_1.out)
    clear b0_1
    have b1_2 := Lib.hid (Go.Proofs.YthbbpfgjbidbhaaGreatDoor.tm.TB.fr b1_1.out HF2.out (by omega) (by omega))
    clear b1_1
    obtain ⟨b1c0, b1c1, b1c2, b1c3, b1c4, b1c5, b1c6, b1c7, b1c8⟩ := b1_2.out
    have b1L : w.heap.size + 1 < W2.heap.size := by omega
    go_wp2_with fail
    refine (count_tx x1 A1 n1 c1 B1 p1 d1 _ _ (by omega) (by omega) (by omega) (by omega)).mono ?_
    rintro e W3 ⟨rfl, hb⟩
    rw [HZ1.out]
    have HB3 : Hid (Below w.heap.size w W3) := Lib.hid (HB2.out.trans (hb.mono HB2.out.size))
    have HS3 : Hid (Below W2.heap.size W2 W3) := Lib.hid hb
    have HF3 : Hid (FR 0 0 W2 W3) := Lib.hid (FR.of_below hb)
    have hs3 : W2.heap.size ≤ W3.heap.size := hb.size
    clear hb
    have b0_3 := Lib.hid ((HF3.out.cell (p := ⟨w.heap.size, 0, none⟩) (by simp only; omega) (by simp only; omega)).trans b0_2.out)
    clear b0_2
    have b1_3 := Lib.hid (Go.Proofs.YthbbpfgjbidbhaaGreatDoor.tm.TB.fr b1_2.out HF3.out (by omega) (by omega))
    clear b1_2
    clear b1c0 b1c1 b1c2 b1c3 b1c4 b1c5 b1c6 b1c7 b1c8 b1L
    go_wp2_with fail
    go_ret
    exact ⟨rfl, HB3.out⟩
  have hz := szT_yes (left := lf0) (n := n1) (n2 := p1) (by omega)
  have HZ1 := Lib.hid hz
  clear hz
  obtain ⟨lf1, hlf⟩ : ∃ lf : Int, lf = lf0 - (n1 : Int) - (p1 : Int) := ⟨_, rfl⟩
  have hz := HZ1.out
  clear HZ1
  rw [← hlf] at hz
  have HZ1 := Lib.hid hz
  have tz1 : decide (lf1 < 0) = false := decide_eq_false (by omega)
  have lf01 : 0 ≤ lf1 := by omega
  have lf11 : lf1 ≤ 1048576 := by omega
  have HLF2 := Lib.hid hlf
  clear hlf hz
  have HC : Hid (∀ l ∈ L0, l.length ≤ 1048576) := Lib.hid (Go.Proofs.YthbbpfgjbidbhaaGreatDoor.cml.rows_le (by have := HLF1.out; omega))
  obtain ⟨qx, hqx⟩ : ∃ q, Go.Proofs.YthbbpfgjbidbhaaGreatDoor.ct.cmX L0 x1 R1 Q1 a2 = q := ⟨_, rfl⟩
  obtain ⟨qc, hqc⟩ : ∃ q, Go.Proofs.YthbbpfgjbidbhaaGreatDoor.ct.cmC L0 x1 R1 Q1 a2 = q := ⟨_, rfl⟩
  obtain ⟨qb, hqb⟩ : ∃ q, Go.Proofs.YthbbpfgjbidbhaaGreatDoor.ct.cmB L0 x1 R1 Q1 a2 = q := ⟨_, rfl⟩
  have HCN : Hid (cnt qc ≤ 1048576) := Lib.hid (by have h1 := Go.Proofs.YthbbpfgjbidbhaaGreatDoor.cml.cm_cnt L0 x1 R1 Q1 a2; rw [hqc] at h1; have h2 := HLF1.out; omega)
  have HCL : Hid (∀ l ∈ qc, l.length ≤ 140737488355328) := Lib.hid (Go.Proofs.YthbbpfgjbidbhaaGreatDoor.cml.rows_le (by have := HCN.out; omega))
  have HQX := Lib.hid hqx
  have HQC := Lib.hid hqc
  have HQB := Lib.hid hqb
  clear hqx hqc hqb
  go_enter Tryz.func3, Tryz.ntmps3
  go_wp2_with fail
  have hx0 := one_cell w (.slice A0 n0 c0) 24
  replace hx0 := ((new1 (w.alloc (.cells #[.slice A0 n0 c0] 24)) (.cells #[.int .i64 x1.i, .int .i64 x1.s, .int .i64 x1.t, .int .i64 x1.b, .int .i64 x1.l, .int .i64 x1.h, .int .i64 x1.c, .slice A1 n1 c1, .slice B1 p1 d1] 28)).cell (p := ⟨w.heap.size, 0, none⟩) (by simp; try omega)).trans hx0
  have hx1 := TB.new (w.alloc (.cells #[.slice A0 n0 c0] 24)) x1 A1 n1 c1 B1 p1 d1 28
  rw [show (w.alloc (.cells #[.slice A0 n0 c0] 24)).heap.size = w.heap.size + 1 by simp] at hx1
  have hz : ((w.alloc (.cells #[.slice A0 n0 c0] 24)).alloc (.cells #[.int .i64 x1.i, .int .i64 x1.s, .int .i64 x1.t, .int .i64 x1.b, .int .i64 x1.l, .int .i64 x1.h, .int .i64 x1.c, .slice A1 n1 c1, .slice B1 p1 d1] 28)).heap.size = w.heap.size + 2 := by simp
  have hb := Go.Proofs.YthbbpfgjbidbhaaGreatDoor.vers.new2 w (.cells #[.slice A0 n0 c0] 24) (.cells #[.int .i64 x1.i, .int .i64 x1.s, .int .i64 x1.t, .int .i64 x1.b, .int .i64 x1.l, .int .i64 x1.h, .int .i64 x1.c, .slice A1 n1 c1, .slice B1 p1 d1] 28)
  generalize ((w.alloc (.cells #[.slice A0 n0 c0] 24)).alloc (.cells #[.int .i64 x1.i, .int .i64 x1.s, .int .i64 x1.t, .int .i64 x1.b, .int .i64 x1.l, .int .i64 x1.h, .int .i64 x1.c, .slice A1 n1 c1, .slice B1 p1 d1] 28)) = W1 at hx0 hx1 hb hz ⊢
  have HB1 : Hid (Below w.heap.size w W1) := Lib.hid hb
  have HS1 : Hid (Below w.heap.size w W1) := Lib.hid hb
  have HF1 : Hid (FR 0 0 w W1) := Lib.hid (FR.of_below hb)
  have hs1 : w.heap.size ≤ W1.heap.size := hb.size
  clear hb
  have hz1 : w.heap.size + 2 ≤ W1.heap.size := Nat.le_of_eq hz.symm
  clear hz
  have b0_1 := Lib.hid hx0
  clear hx0
  have b1_1 := Lib.hid hx1
  clear hx1
  refine (count_store (by omega) (H0.out.below HB1.out) HB1.out.size (by omega) (by omega)).mono ?_
  rintro e W2 ⟨rfl, hb⟩
  rw [HZ0.out]
  have HB2 : Hid (Below w.heap.size w W2) := Lib.hid (HB1.out.trans (hb.mono HB1.out.size))
  have HS2 : Hid (Below W1.heap.size W1 W2) := Lib.hid hb
  have HF2 : Hid (FR 0 0 W1 W2) := Lib.hid (FR.of_below hb)
  have hs2 : W1.heap.size ≤ W2.heap.size := hb.size
  clear hb
  have b0_2 := Lib.hid ((HF2.out.cell (p := ⟨w.heap.size, 0, none⟩) (by simp only; omega) (by simp only; omega)).trans b0_1.out)
  clear b0_1
  have b1_2 := Lib.hid (Go.Proofs.YthbbpfgjbidbhaaGreatDoor.tm.TB.fr b1_1.out HF2.out (by omega) (by omega))
  clear b1_1
  obtain ⟨b1c0, b1c1, b1c2, b1c3, b1c4, b1c5, b1c6, b1c7, b1c8⟩ := b1_2.out
  have b1L : w.heap.size + 1 < W2.heap.size := by omega
  go_wp2_with fail
  refine (count_tx x1 A1 n1 c1 B1 p1 d1 _ _ (by omega) (by omega) (by omega) (by omega)).mono ?_
  rintro e W3 ⟨rfl, hb⟩
  rw [HZ1.out]
  have HB3 : Hid (Below w.heap.size w W3) := Lib.hid (HB2.out.trans (hb.mono HB2.out.size))
  have HS3 : Hid (Below W2.heap.size W2 W3) := Lib.hid hb
  have HF3 : Hid (FR 0 0 W2 W3) := Lib.hid (FR.of_below hb)
  have hs3 : W2.heap.size ≤ W3.heap.size := hb.size
  clear hb
  have b0_3 := Lib.hid ((HF3.out.cell (p := ⟨w.heap.size, 0, none⟩) (by simp only; omega) (by simp only; omega)).trans b0_2.out)
  clear b0_2
  have b1_3 := Lib.hid (Go.Proofs.YthbbpfgjbidbhaaGreatDoor.tm.TB.fr b1_2.out HF3.out (by omega) (by omega))
  clear b1_2
  clear b1c0 b1c1 b1c2 b1c3 b1c4 b1c5 b1c6 b1c7 b1c8 b1L
  go_wp2_with fail
  go_cut [8, 9, 10] from 32 to 41 (fun p q b wx => ∃ (sb tb lo hi : Nat) (A : Option Addr) (c : Nat) (A2 : Option Addr) (c2 : Nat) (B2 : Option Addr) (d2 : Nat), p = .pointer (some ⟨sb, 0, none⟩) ∧ q = .pointer (some ⟨tb, 0, none⟩) ∧ b = .bool qb ∧ RgL W3 wx sb tb lo hi A n0 c qc qx A2 n1 c2 R1 B2 p1 d2 Q1)
  case first =>
    have hB0 := Below.refl W3.heap.size W3
    have hbk0 : Below W3.heap.size W3 W3.drew := (Below.refl _ _).drew
    have hbw0 := HB3.out.trans (hbk0.mono HB3.out.size)
    have hS0 : SL w A0 n0 c0 x1 A1 n1 c1 B1 p1 d1 W3 := ⟨b0_3.out, b1_3.out⟩
    have hv0 : w.heap.size + 2 ≤ W3.heap.size := by omega
    have b0c0 := b0_3.out
    obtain ⟨b1c0, b1c1, b1c2, b1c3, b1c4, b1c5, b1c6, b1c7, b1c8⟩ := b1_3.out
    go_region_held3 (fun w' => w'.cell? ⟨w.heap.size, 0, none⟩ = some (.slice A0 n0 c0) ∧ w'.cell? ⟨w.heap.size + 1, 0, none⟩ = some (.int .i64 x1.i) ∧ w'.cell? ⟨w.heap.size + 1, 1, none⟩ = some (.int .i64 x1.s) ∧ w'.cell? ⟨w.heap.size + 1, 2, none⟩ = some (.int .i64 x1.t) ∧ w'.cell? ⟨w.heap.size + 1, 3, none⟩ = some (.int .i64 x1.b) ∧ w'.cell? ⟨w.heap.size + 1, 4, none⟩ = some (.int .i64 x1.l) ∧ w'.cell? ⟨w.heap.size + 1, 5, none⟩ = some (.int .i64 x1.h) ∧ w'.cell? ⟨w.heap.size + 1, 6, none⟩ = some (.int .i64 x1.c) ∧ w'.cell? ⟨w.heap.size + 1, 7, none⟩ = some (.slice A1 n1 c1) ∧ w'.cell? ⟨w.heap.size + 1, 8, none⟩ = some (.slice B1 p1 d1)) ((change SL w A0 n0 c0 x1 A1 n1 c1 B1 p1 d1 _; (repeat first | with_reducible assumption | with_reducible refine keepA (by first | omega | (simp; omega)) ?_ | with_reducible refine keepS (by first | (simp only; omega) | (simp; omega)) ?_ | with_reducible refine keepD ?_))) (first | (go_at_call 7; (with_reducible refine (copy_store (by omega) (by omega) (HR0.out.below hbw0) (hbw0).size).mono ?_); rintro e Wa1 ⟨Ns1, rfl, hN, hv, hb⟩; clear hN; have hbk1 := hbk0.trans (hb.mono hbk0.size); have hbw1 := HB3.out.trans (hbk1.mono HB3.out.size); have hv1 : w.heap.size + 2 ≤ Wa1.heap.size := Nat.le_trans hv0 hbk1.size; (try have zs1 := zs1.call hb); (try have zt1 := zt1.call hb); have hh1 := hb.size; (try simp only [World.size_alloc, World.size_drew] at hh1); have s1a1 := hv; have hS1 : SL w A0 n0 c0 x1 A1 n1 c1 B1 p1 d1 Wa1 := keepC hb (by first | omega | (simp <;> omega)) (keepD (hS0)); clear hb hv) | (go_at_call 7; have hbk0S : Below W3.heap.size W3 ((W3.alloc (.cells #[.slice none 0 0] 33)).drew) := (bel_alloc hB0 (.cells #[.slice none 0 0] 33)).drew; have hbw0S := HB3.out.trans (hbk0S.mono HB3.out.size); have zs1 := (SBx.zero (u := .slice none 0 0) (t := 33) hB0 rfl).drew; (with_reducible refine (copy_store (by omega) (by omega) (HR0.out.below hbw0S) (hbw0S).size).mono ?_); rintro e Wa1 ⟨Ns1, rfl, hN, hv, hb⟩; clear hN; have hbk1 := hbk0S.trans (hb.mono hbk0S.size); have hbw1 := HB3.out.trans (hbk1.mono HB3.out.size); have hv1 : w.heap.size + 2 ≤ Wa1.heap.size := Nat.le_trans hv0 hbk1.size; (try have zs1 := zs1.call hb); (try have zt1 := zt1.call hb); have hh1 := hb.size; (try simp only [World.size_alloc, World.size_drew] at hh1); have s1a1 := hv; have hS1 : SL w A0 n0 c0 x1 A1 n1 c1 B1 p1 d1 Wa1 := keepC hb (by first | omega | (simp <;> omega)) (keepD (keepA (by first | omega | (simp <;> omega)) (hS0))); clear hb hv) | (go_at_call 7; have hbk0T : Below W3.heap.size W3 ((W3.alloc (.cells #[.int .i64 0, .int .i64 0, .int .i64 0, .int .i64 0, .int .i64 0, .int .i64 0, .int .i64 0, .slice none 0 0, .slice none 0 0] 37)).drew) := (bel_alloc hB0 (.cells #[.int .i64 0, .int .i64 0, .int .i64 0, .int .i64 0, .int .i64 0, .int .i64 0, .int .i64 0, .slice none 0 0, .slice none 0 0] 37)).drew; have hbw0T := HB3.out.trans (hbk0T.mono HB3.out.size); have zt1 := (TBx.zero hB0 rfl).drew; (with_reducible refine (copy_store (by omega) (by omega) (HR0.out.below hbw0T) (hbw0T).size).mono ?_); rintro e Wa1 ⟨Ns1, rfl, hN, hv, hb⟩; clear hN; have hbk1 := hbk0T.trans (hb.mono hbk0T.size); have hbw1 := HB3.out.trans (hbk1.mono HB3.out.size); have hv1 : w.heap.size + 2 ≤ Wa1.heap.size := Nat.le_trans hv0 hbk1.size; (try have zs1 := zs1.call hb); (try have zt1 := zt1.call hb); have hh1 := hb.size; (try simp only [World.size_alloc, World.size_drew] at hh1); have s1a1 := hv; have hS1 : SL w A0 n0 c0 x1 A1 n1 c1 B1 p1 d1 Wa1 := keepC hb (by first | omega | (simp <;> omega)) (keepD (keepA (by first | omega | (simp <;> omega)) (hS0))); clear hb hv) | (go_at_call 7; have hbk0ST : Below W3.heap.size W3 (((W3.alloc (.cells #[.slice none 0 0] 33)).alloc (.cells #[.int .i64 0, .int .i64 0, .int .i64 0, .int .i64 0, .int .i64 0, .int .i64 0, .int .i64 0, .slice none 0 0, .slice none 0 0] 37)).drew) := (bel_alloc (bel_alloc hB0 (.cells #[.slice none 0 0] 33)) (.cells #[.int .i64 0, .int .i64 0, .int .i64 0, .int .i64 0, .int .i64 0, .int .i64 0, .int .i64 0, .slice none 0 0, .slice none 0 0] 37)).drew; have hbw0ST := HB3.out.trans (hbk0ST.mono HB3.out.size); have zs1 := ((SBx.zero (u := .slice none 0 0) (t := 33) hB0 rfl).alloc (.cells #[.int .i64 0, .int .i64 0, .int .i64 0, .int .i64 0, .int .i64 0, .int .i64 0, .int .i64 0, .slice none 0 0, .slice none 0 0] 37)).drew; have zt1 := (TBx.zero (b := W3.heap.size + 1) (bel_alloc hB0 (.cells #[.slice none 0 0] 33)) (by simp)).drew; (with_reducible refine (copy_store (by omega) (by omega) (HR0.out.below hbw0ST) (hbw0ST).size).mono ?_); rintro e Wa1 ⟨Ns1, rfl, hN, hv, hb⟩; clear hN; have hbk1 := hbk0ST.trans (hb.mono hbk0ST.size); have hbw1 := HB3.out.trans (hbk1.mono HB3.out.size); have hv1 : w.heap.size + 2 ≤ Wa1.heap.size := Nat.le_trans hv0 hbk1.size; (try have zs1 := zs1.call hb); (try have zt1 := zt1.call hb); have hh1 := hb.size; (try simp only [World.size_alloc, World.size_drew] at hh1); have s1a1 := hv; have hS1 : SL w A0 n0 c0 x1 A1 n1 c1 B1 p1 d1 Wa1 := keepC hb (by first | omega | (simp <;> omega)) (keepD (keepA (by first | omega | (simp <;> omega)) (keepA (by first | omega | (simp <;> omega)) (hS0)))); clear hb hv) | (go_at_call 7; have hbk0TS : Below W3.heap.size W3 (((W3.alloc (.cells #[.int .i64 0, .int .i64 0, .int .i64 0, .int .i64 0, .int .i64 0, .int .i64 0, .int .i64 0, .slice none 0 0, .slice none 0 0] 37)).alloc (.cells #[.slice none 0 0] 33)).drew) := (bel_alloc (bel_alloc hB0 (.cells #[.int .i64 0, .int .i64 0, .int .i64 0, .int .i64 0, .int .i64 0, .int .i64 0, .int .i64 0, .slice none 0 0, .slice none 0 0] 37)) (.cells #[.slice none 0 0] 33)).drew; have hbw0TS := HB3.out.trans (hbk0TS.mono HB3.out.size); have zt1 := ((TBx.zero hB0 rfl).alloc (.cells #[.slice none 0 0] 33)).drew; have zs1 := (SBx.zero (u := .slice none 0 0) (t := 33) (b := W3.heap.size + 1) (bel_alloc hB0 (.cells #[.int .i64 0, .int .i64 0, .int .i64 0, .int .i64 0, .int .i64 0, .int .i64 0, .int .i64 0, .slice none 0 0, .slice none 0 0] 37)) (by simp)).drew; (with_reducible refine (copy_store (by omega) (by omega) (HR0.out.below hbw0TS) (hbw0TS).size).mono ?_); rintro e Wa1 ⟨Ns1, rfl, hN, hv, hb⟩; clear hN; have hbk1 := hbk0TS.trans (hb.mono hbk0TS.size); have hbw1 := HB3.out.trans (hbk1.mono HB3.out.size); have hv1 : w.heap.size + 2 ≤ Wa1.heap.size := Nat.le_trans hv0 hbk1.size; (try have zs1 := zs1.call hb); (try have zt1 := zt1.call hb); have hh1 := hb.size; (try simp only [World.size_alloc, World.size_drew] at hh1); have s1a1 := hv; have hS1 : SL w A0 n0 c0 x1 A1 n1 c1 B1 p1 d1 Wa1 := keepC hb (by first | omega | (simp <;> omega)) (keepD (keepA (by first | omega | (simp <;> omega)) (keepA (by first | omega | (simp <;> omega)) (hS0)))); clear hb hv) | (go_at_call 8; (with_reducible refine (Go.Proofs.YthbbpfgjbidbhaaGreatDoor.tx.copied_tx x1 (by omega) (by omega) (H1.out.below hbw1) (G1.out.below hbw1) (hbw1).size).mono ?_); rintro e Wa2 ⟨Ns2, Ms2, rfl, hv, hu, hb⟩; have hbk2 := hbk1.trans (hb.mono hbk1.size); have hbw2 := HB3.out.trans (hbk2.mono HB3.out.size); have hv2 : w.heap.size + 2 ≤ Wa2.heap.size := Nat.le_trans hv0 hbk2.size; (try have zs1 := zs1.call hb); (try have zt1 := zt1.call hb); (try have zs2 := zs2.call hb); (try have zt2 := zt2.call hb); have hh2 := hb.size; (try simp only [World.size_alloc, World.size_drew] at hh2); have s1a2 := (s1a1.below hb).more hb.size; have s2ra2 := hv; have s2wa2 := hu; have hS2 : SL w A0 n0 c0 x1 A1 n1 c1 B1 p1 d1 Wa2 := keepC hb (by first | omega | (simp <;> omega)) (hS1); clear hb hv hu) | (go_at_call 8; have hbk1S : Below W3.heap.size W3 ((Wa1.alloc (.cells #[.slice none 0 0] 33))) := (bel_alloc hbk1 (.cells #[.slice none 0 0] 33)); have hbw1S := HB3.out.trans (hbk1S.mono HB3.out.size); have hnn : Below Wa1.heap.size Wa1 ((Wa1.alloc (.cells #[.slice none 0 0] 33))) := new1 Wa1 (.cells #[.slice none 0 0] 33); have s1a1S := (s1a1.below hnn).more hnn.size; (try have zs1 := zs1.call hnn); (try have zt1 := zt1.call hnn); have zs2 := (SBx.zero (u := .slice none 0 0) (t := 33) hbk1 rfl); (with_reducible refine (Go.Proofs.YthbbpfgjbidbhaaGreatDoor.tx.copied_tx x1 (by omega) (by omega) (H1.out.below hbw1S) (G1.out.below hbw1S) (hbw1S).size).mono ?_); rintro e Wa2 ⟨Ns2, Ms2, rfl, hv, hu, hb⟩; have hbk2 := hbk1S.trans (hb.mono hbk1S.size); have hbw2 := HB3.out.trans (hbk2.mono HB3.out.size); have hv2 : w.heap.size + 2 ≤ Wa2.heap.size := Nat.le_trans hv0 hbk2.size; (try have zs1 := zs1.call hb); (try have zt1 := zt1.call hb); (try have zs2 := zs2.call hb); (try have zt2 := zt2.call hb); have hh2 := hb.size; (try simp only [World.size_alloc, World.size_drew] at hh2); have s1a2 := (s1a1S.below hb).more hb.size; have s2ra2 := hv; have s2wa2 := hu; have hS2 : SL w A0 n0 c0 x1 A1 n1 c1 B1 p1 d1 Wa2 := keepC hb (by first | omega | (simp <;> omega)) (keepA (by first | omega | (simp <;> omega)) (hS1)); clear hb hv hu) | (go_at_call 8; have hbk1T : Below W3.heap.size W3 ((Wa1.alloc (.cells #[.int .i64 0, .int .i64 0, .int .i64 0, .int .i64 0, .int .i64 0, .int .i64 0, .int .i64 0, .slice none 0 0, .slice none 0 0] 37))) := (bel_alloc hbk1 (.cells #[.int .i64 0, .int .i64 0, .int .i64 0, .int .i64 0, .int .i64 0, .int .i64 0, .int .i64 0, .slice none 0 0, .slice none 0 0] 37)); have hbw1T := HB3.out.trans (hbk1T.mono HB3.out.size); have hnn : Below Wa1.heap.size Wa1 ((Wa1.alloc (.cells #[.int .i64 0, .int .i64 0, .int .i64 0, .int .i64 0, .int .i64 0, .int .i64 0, .int .i64 0, .slice none 0 0, .slice none 0 0] 37))) := new1 Wa1 (.cells #[.int .i64 0, .int .i64 0, .int .i64 0, .int .i64 0, .int .i64 0, .int .i64 0, .int .i64 0, .slice none 0 0, .slice none 0 0] 37); have s1a1T := (s1a1.below hnn).more hnn.size; (try have zs1 := zs1.call hnn); (try have zt1 := zt1.call hnn); have zt2 := (TBx.zero hbk1 rfl); (with_reducible refine (Go.Proofs.YthbbpfgjbidbhaaGreatDoor.tx.copied_tx x1 (by omega) (by omega) (H1.out.below hbw1T) (G1.out.below hbw1T) (hbw1T).size).mono ?_); rintro e Wa2 ⟨Ns2, Ms2, rfl, hv, hu, hb⟩; have hbk2 := hbk1T.trans (hb.mono hbk1T.size); have hbw2 := HB3.out.trans (hbk2.mono HB3.out.size); have hv2 : w.heap.size + 2 ≤ Wa2.heap.size := Nat.le_trans hv0 hbk2.size; (try have zs1 := zs1.call hb); (try have zt1 := zt1.call hb); (try have zs2 := zs2.call hb); (try have zt2 := zt2.call hb); have hh2 := hb.size; (try simp only [World.size_alloc, World.size_drew] at hh2); have s1a2 := (s1a1T.below hb).more hb.size; have s2ra2 := hv; have s2wa2 := hu; have hS2 : SL w A0 n0 c0 x1 A1 n1 c1 B1 p1 d1 Wa2 := keepC hb (by first | omega | (simp <;> omega)) (keepA (by first | omega | (simp <;> omega)) (hS1)); clear hb hv hu) | (go_at_call 8; have hbk1ST : Below W3.heap.size W3 (((Wa1.alloc (.cells #[.slice none 0 0] 33)).alloc (.cells #[.int .i64 0, .int .i64 0, .int .i64 0, .int .i64 0, .int .i64 0, .int .i64 0, .int .i64 0, .slice none 0 0, .slice none 0 0] 37))) := (bel_alloc (bel_alloc hbk1 (.cells #[.slice none 0 0] 33)) (.cells #[.int .i64 0, .int .i64 0, .int .i64 0, .int .i64 0, .int .i64 0, .int .i64 0, .int .i64 0, .slice none 0 0, .slice none 0 0] 37)); have hbw1ST := HB3.out.trans (hbk1ST.mono HB3.out.size); have hnn : Below Wa1.heap.size Wa1 (((Wa1.alloc (.cells #[.slice none 0 0] 33)).alloc (.cells #[.int .i64 0, .int .i64 0, .int .i64 0, .int .i64 0, .int .i64 0, .int .i64 0, .int .i64 0, .slice none 0 0, .slice none 0 0] 37))) := bel_alloc (new1 Wa1 (.cells #[.slice none 0 0] 33)) (.cells #[.int .i64 0, .int .i64 0, .int .i64 0, .int .i64 0, .int .i64 0, .int .i64 0, .int .i64 0, .slice none 0 0, .slice none 0 0] 37); have s1a1ST := (s1a1.below hnn).more hnn.size; (try have zs1 := zs1.call hnn); (try have zt1 := zt1.call hnn); have zs2 := ((SBx.zero (u := .slice none 0 0) (t := 33) hbk1 rfl).alloc (.cells #[.int .i64 0, .int .i64 0, .int .i64 0, .int .i64 0, .int .i64 0, .int .i64 0, .int .i64 0, .slice none 0 0, .slice none 0 0] 37)); have zt2 := (TBx.zero (b := Wa1.heap.size + 1) (bel_alloc hbk1 (.cells #[.slice none 0 0] 33)) (by simp)); (with_reducible refine (Go.Proofs.YthbbpfgjbidbhaaGreatDoor.tx.copied_tx x1 (by omega) (by omega) (H1.out.below hbw1ST) (G1.out.below hbw1ST) (hbw1ST).size).mono ?_); rintro e Wa2 ⟨Ns2, Ms2, rfl, hv, hu, hb⟩; have hbk2 := hbk1ST.trans (hb.mono hbk1ST.size); have hbw2 := HB3.out.trans (hbk2.mono HB3.out.size); have hv2 : w.heap.size + 2 ≤ Wa2.heap.size := Nat.le_trans hv0 hbk2.size; (try have zs1 := zs1.call hb); (try have zt1 := zt1.call hb); (try have zs2 := zs2.call hb); (try have zt2 := zt2.call hb); have hh2 := hb.size; (try simp only [World.size_alloc, World.size_drew] at hh2); have s1a2 := (s1a1ST.below hb).more hb.size; have s2ra2 := hv; have s2wa2 := hu; have hS2 : SL w A0 n0 c0 x1 A1 n1 c1 B1 p1 d1 Wa2 := keepC hb (by first | omega | (simp <;> omega)) (keepA (by first | omega | (simp <;> omega)) (keepA (by first | omega | (simp <;> omega)) (hS1))); clear hb hv hu) | (go_at_call 8; have hbk1TS : Below W3.heap.size W3 (((Wa1.alloc (.cells #[.int .i64 0, .int .i64 0, .int .i64 0, .int .i64 0, .int .i64 0, .int .i64 0, .int .i64 0, .slice none 0 0, .slice none 0 0] 37)).alloc (.cells #[.slice none 0 0] 33))) := (bel_alloc (bel_alloc hbk1 (.cells #[.int .i64 0, .int .i64 0, .int .i64 0, .int .i64 0, .int .i64 0, .int .i64 0, .int .i64 0, .slice none 0 0, .slice none 0 0] 37)) (.cells #[.slice none 0 0] 33)); have hbw1TS := HB3.out.trans (hbk1TS.mono HB3.out.size); have hnn : Below Wa1.heap.size Wa1 (((Wa1.alloc (.cells #[.int .i64 0, .int .i64 0, .int .i64 0, .int .i64 0, .int .i64 0, .int .i64 0, .int .i64 0, .slice none 0 0, .slice none 0 0] 37)).alloc (.cells #[.slice none 0 0] 33))) := bel_alloc (new1 Wa1 (.cells #[.int .i64 0, .int .i64 0, .int .i64 0, .int .i64 0, .int .i64 0, .int .i64 0, .int .i64 0, .slice none 0 0, .slice none 0 0] 37)) (.cells #[.slice none 0 0] 33); have s1a1TS := (s1a1.below hnn).more hnn.size; (try have zs1 := zs1.call hnn); (try have zt1 := zt1.call hnn); have zt2 := ((TBx.zero hbk1 rfl).alloc (.cells #[.slice none 0 0] 33)); have zs2 := (SBx.zero (u := .slice none 0 0) (t := 33) (b := Wa1.heap.size + 1) (bel_alloc hbk1 (.cells #[.int .i64 0, .int .i64 0, .int .i64 0, .int .i64 0, .int .i64 0, .int .i64 0, .int .i64 0, .slice none 0 0, .slice none 0 0] 37)) (by simp)); (with_reducible refine (Go.Proofs.YthbbpfgjbidbhaaGreatDoor.tx.copied_tx x1 (by omega) (by omega) (H1.out.below hbw1TS) (G1.out.below hbw1TS) (hbw1TS).size).mono ?_); rintro e Wa2 ⟨Ns2, Ms2, rfl, hv, hu, hb⟩; have hbk2 := hbk1TS.trans (hb.mono hbk1TS.size); have hbw2 := HB3.out.trans (hbk2.mono HB3.out.size); have hv2 : w.heap.size + 2 ≤ Wa2.heap.size := Nat.le_trans hv0 hbk2.size; (try have zs1 := zs1.call hb); (try have zt1 := zt1.call hb); (try have zs2 := zs2.call hb); (try have zt2 := zt2.call hb); have hh2 := hb.size; (try simp only [World.size_alloc, World.size_drew] at hh2); have s1a2 := (s1a1TS.below hb).more hb.size; have s2ra2 := hv; have s2wa2 := hu; have hS2 : SL w A0 n0 c0 x1 A1 n1 c1 B1 p1 d1 Wa2 := keepC hb (by first | omega | (simp <;> omega)) (keepA (by first | omega | (simp <;> omega)) (keepA (by first | omega | (simp <;> omega)) (hS1))); clear hb hv hu) | (go_at_call 6; (with_reducible refine (Go.Proofs.YthbbpfgjbidbhaaGreatDoor.mc.spec_commit x1 a2 (by omega) HC.out (by omega) (by omega) s2ra2 s2wa2 s1a2 (Nat.le_refl _)).mono ?_); rintro e Wa3 ⟨As3, cs3, Es3, fs3, Bs3, ds3, he, ho, hot, hb⟩; rw [HQX.out, HQB.out] at he; rw [HQC.out] at ho; subst he; have hjo := Go.Proofs.YthbbpfgjbidbhaaGreatDoor.cml.JO.of ho hot hlen1 hlem1; clear ho hot; have hbk3 := hbk2.trans (hb.mono hbk2.size); have hbw3 := HB3.out.trans (hbk3.mono HB3.out.size); have hv3 : w.heap.size + 2 ≤ Wa3.heap.size := Nat.le_trans hv0 hbk3.size; (try have zs1 := zs1.call hb); (try have zt1 := zt1.call hb); (try have zs2 := zs2.call hb); (try have zt2 := zt2.call hb); (try have zs3 := zs3.call hb); (try have zt3 := zt3.call hb); obtain ⟨lo3, hlo3⟩ : ∃ k, k = (Wa2).heap.size := ⟨_, rfl⟩; rw [← hlo3] at hjo; (try simp only [World.size_alloc, World.size_drew] at hlo3); have hlw := hbk2.size; (try simp only [World.size_alloc, World.size_drew] at hlw); have hh3 := hb.size; (try simp only [World.size_alloc, World.size_drew] at hh3); (try (have lts1 := zs1.lt; have los1 := zs1.lo; have cs1 := zs1.cell; have fs1 := zs1.free)); (try (have ltt1 := zt1.bx.lt; have lot1 := zt1.lo; obtain ⟨ct10, ct11, ct12, ct13, ct14, ct15, ct16, ct17, ct18⟩ := zt1.bx.tb; have ft10 := zt1.bx.fz 0; have ft11 := zt1.bx.fz 1; have ft12 := zt1.bx.fz 2; have ft13 := zt1.bx.fz 3; have ft14 := zt1.bx.fz 4; have ft15 := zt1.bx.fz 5; have ft16 := zt1.bx.fz 6; have ft17 := zt1.bx.fz 7; have ft18 := zt1.bx.fz 8)); (try (have lts2 := zs2.lt; have los2 := zs2.lo; have cs2 := zs2.cell; have fs2 := zs2.free)); (try (have ltt2 := zt2.bx.lt; have lot2 := zt2.lo; obtain ⟨ct20, ct21, ct22, ct23, ct24, ct25, ct26, ct27, ct28⟩ := zt2.bx.tb; have ft20 := zt2.bx.fz 0; have ft21 := zt2.bx.fz 1; have ft22 := zt2.bx.fz 2; have ft23 := zt2.bx.fz 3; have ft24 := zt2.bx.fz 4; have ft25 := zt2.bx.fz 5; have ft26 := zt2.bx.fz 6; have ft27 := zt2.bx.fz 7; have ft28 := zt2.bx.fz 8)); (try (have lts3 := zs3.lt; have los3 := zs3.lo; have cs3 := zs3.cell; have fs3 := zs3.free)); (try (have ltt3 := zt3.bx.lt; have lot3 := zt3.lo; obtain ⟨ct30, ct31, ct32, ct33, ct34, ct35, ct36, ct37, ct38⟩ := zt3.bx.tb; have ft30 := zt3.bx.fz 0; have ft31 := zt3.bx.fz 1; have ft32 := zt3.bx.fz 2; have ft33 := zt3.bx.fz 3; have ft34 := zt3.bx.fz 4; have ft35 := zt3.bx.fz 5; have ft36 := zt3.bx.fz 6; have ft37 := zt3.bx.fz 7; have ft38 := zt3.bx.fz 8)); have s1a3 := (s1a2.below hb).more hb.size; have s2ra3 := (s2ra2.below hb).more hb.size; have s2wa3 := (s2wa2.below hb).more hb.size; have hS3 : SL w A0 n0 c0 x1 A1 n1 c1 B1 p1 d1 Wa3 := keepC hb (by first | omega | (simp <;> omega)) (hS2); clear hb) | (go_at_call 6; have hbk2S : Below W3.heap.size W3 ((Wa2.alloc (.cells #[.slice none 0 0] 33))) := (bel_alloc hbk2 (.cells #[.slice none 0 0] 33)); have hbw2S := HB3.out.trans (hbk2S.mono HB3.out.size); have hnn : Below Wa2.heap.size Wa2 ((Wa2.alloc (.cells #[.slice none 0 0] 33))) := new1 Wa2 (.cells #[.slice none 0 0] 33); have s1a2S := (s1a2.below hnn).more hnn.size; have s2ra2S := (s2ra2.below hnn).more hnn.size; have s2wa2S := (s2wa2.below hnn).more hnn.size; (try have zs1 := zs1.call hnn); (try have zt1 := zt1.call hnn); (try have zs2 := zs2.call hnn); (try have zt2 := zt2.call hnn); have zs3 := (SBx.zero (u := .slice none 0 0) (t := 33) hbk2 rfl); (with_reducible refine (Go.Proofs.YthbbpfgjbidbhaaGreatDoor.mc.spec_commit x1 a2 (by omega) HC.out (by omega) (by omega) s2ra2S s2wa2S s1a2S (Nat.le_refl _)).mono ?_); rintro e Wa3 ⟨As3, cs3, Es3, fs3, Bs3, ds3, he, ho, hot, hb⟩; rw [HQX.out, HQB.out] at he; rw [HQC.out] at ho; subst he; have hjo := Go.Proofs.YthbbpfgjbidbhaaGreatDoor.cml.JO.of ho hot hlen1 hlem1; clear ho hot; have hbk3 := hbk2S.trans (hb.mono hbk2S.size); have hbw3 := HB3.out.trans (hbk3.mono HB3.out.size); have hv3 : w.heap.size + 2 ≤ Wa3.heap.size := Nat.le_trans hv0 hbk3.size; (try have zs1 := zs1.call hb); (try have zt1 := zt1.call hb); (try have zs2 := zs2.call hb); (try have zt2 := zt2.call hb); (try have zs3 := zs3.call hb); (try have zt3 := zt3.call hb); obtain ⟨lo3, hlo3⟩ : ∃ k, k = ((Wa2.alloc (.cells #[.slice none 0 0] 33))).heap.size := ⟨_, rfl⟩; rw [← hlo3] at hjo; (try simp only [World.size_alloc, World.size_drew] at hlo3); have hlw := hbk2S.size; (try simp only [World.size_alloc, World.size_drew] at hlw); have hh3 := hb.size; (try simp only [World.size_alloc, World.size_drew] at hh3); (try (have lts1 := zs1.lt; have los1 := zs1.lo; have cs1 := zs1.cell; have fs1 := zs1.free)); (try (have ltt1 := zt1.bx.lt; have lot1 := zt1.lo; obtain ⟨ct10, ct11, ct12, ct13, ct14, ct15, ct16, ct17, ct18⟩ := zt1.bx.tb; have ft10 := zt1.bx.fz 0; have ft11 := zt1.bx.fz 1; have ft12 := zt1.bx.fz 2; have ft13 := zt1.bx.fz 3; have ft14 := zt1.bx.fz 4; have ft15 := zt1.bx.fz 5; have ft16 := zt1.bx.fz 6; have ft17 := zt1.bx.fz 7; have ft18 := zt1.bx.fz 8)); (try (have lts2 := zs2.lt; have los2 := zs2.lo; have cs2 := zs2.cell; have fs2 := zs2.free)); (try (have ltt2 := zt2.bx.lt; have lot2 := zt2.lo; obtain ⟨ct20, ct21, ct22, ct23, ct24, ct25, ct26, ct27, ct28⟩ := zt2.bx.tb; have ft20 := zt2.bx.fz 0; have ft21 := zt2.bx.fz 1; have ft22 := zt2.bx.fz 2; have ft23 := zt2.bx.fz 3; have ft24 := zt2.bx.fz 4; have ft25 := zt2.bx.fz 5; have ft26 := zt2.bx.fz 6; have ft27 := zt2.bx.fz 7; have ft28 := zt2.bx.fz 8)); (try (have lts3 := zs3.lt; have los3 := zs3.lo; have cs3 := zs3.cell; have fs3 := zs3.free)); (try (have ltt3 := zt3.bx.lt; have lot3 := zt3.lo; obtain ⟨ct30, ct31, ct32, ct33, ct34, ct35, ct36, ct37, ct38⟩ := zt3.bx.tb; have ft30 := zt3.bx.fz 0; have ft31 := zt3.bx.fz 1; have ft32 := zt3.bx.fz 2; have ft33 := zt3.bx.fz 3; have ft34 := zt3.bx.fz 4; have ft35 := zt3.bx.fz 5; have ft36 := zt3.bx.fz 6; have ft37 := zt3.bx.fz 7; have ft38 := zt3.bx.fz 8)); have s1a3 := (s1a2S.below hb).more hb.size; have s2ra3 := (s2ra2S.below hb).more hb.size; have s2wa3 := (s2wa2S.below hb).more hb.size; have hS3 : SL w A0 n0 c0 x1 A1 n1 c1 B1 p1 d1 Wa3 := keepC hb (by first | omega | (simp <;> omega)) (keepA (by first | omega | (simp <;> omega)) (hS2)); clear hb) | (go_at_call 6; have hbk2T : Below W3.heap.size W3 ((Wa2.alloc (.cells #[.int .i64 0, .int .i64 0, .int .i64 0, .int .i64 0, .int .i64 0, .int .i64 0, .int .i64 0, .slice none 0 0, .slice none 0 0] 37))) := (bel_alloc hbk2 (.cells #[.int .i64 0, .int .i64 0, .int .i64 0, .int .i64 0, .int .i64 0, .int .i64 0, .int .i64 0, .slice none 0 0, .slice none 0 0] 37)); have hbw2T := HB3.out.trans (hbk2T.mono HB3.out.size); have hnn : Below Wa2.heap.size Wa2 ((Wa2.alloc (.cells #[.int .i64 0, .int .i64 0, .int .i64 0, .int .i64 0, .int .i64 0, .int .i64 0, .int .i64 0, .slice none 0 0, .slice none 0 0] 37))) := new1 Wa2 (.cells #[.int .i64 0, .int .i64 0, .int .i64 0, .int .i64 0, .int .i64 0, .int .i64 0, .int .i64 0, .slice none 0 0, .slice none 0 0] 37); have s1a2T := (s1a2.below hnn).more hnn.size; have s2ra2T := (s2ra2.below hnn).more hnn.size; have s2wa2T := (s2wa2.below hnn).more hnn.size; (try have zs1 := zs1.call hnn); (try have zt1 := zt1.call hnn); (try have zs2 := zs2.call hnn); (try have zt2 := zt2.call hnn); have zt3 := (TBx.zero hbk2 rfl); (with_reducible refine (Go.Proofs.YthbbpfgjbidbhaaGreatDoor.mc.spec_commit x1 a2 (by omega) HC.out (by omega) (by omega) s2ra2T s2wa2T s1a2T (Nat.le_refl _)).mono ?_); rintro e Wa3 ⟨As3, cs3, Es3, fs3, Bs3, ds3, he, ho, hot, hb⟩; rw [HQX.out, HQB.out] at he; rw [HQC.out] at ho; subst he; have hjo := Go.Proofs.YthbbpfgjbidbhaaGreatDoor.cml.JO.of ho hot hlen1 hlem1; clear ho hot; have hbk3 := hbk2T.trans (hb.mono hbk2T.size); have hbw3 := HB3.out.trans (hbk3.mono HB3.out.size); have hv3 : w.heap.size + 2 ≤ Wa3.heap.size := Nat.le_trans hv0 hbk3.size; (try have zs1 := zs1.call hb); (try have zt1 := zt1.call hb); (try have zs2 := zs2.call hb); (try have zt2 := zt2.call hb); (try have zs3 := zs3.call hb); (try have zt3 := zt3.call hb); obtain ⟨lo3, hlo3⟩ : ∃ k, k = ((Wa2.alloc (.cells #[.int .i64 0, .int .i64 0, .int .i64 0, .int .i64 0, .int .i64 0, .int .i64 0, .int .i64 0, .slice none 0 0, .slice none 0 0] 37))).heap.size := ⟨_, rfl⟩; rw [← hlo3] at hjo; (try simp only [World.size_alloc, World.size_drew] at hlo3); have hlw := hbk2T.size; (try simp only [World.size_alloc, World.size_drew] at hlw); have hh3 := hb.size; (try simp only [World.size_alloc, World.size_drew] at hh3); (try (have lts1 := zs1.lt; have los1 := zs1.lo; have cs1 := zs1.cell; have fs1 := zs1.free)); (try (have ltt1 := zt1.bx.lt; have lot1 := zt1.lo; obtain ⟨ct10, ct11, ct12, ct13, ct14, ct15, ct16, ct17, ct18⟩ := zt1.bx.tb; have ft10 := zt1.bx.fz 0; have ft11 := zt1.bx.fz 1; have ft12 := zt1.bx.fz 2; have ft13 := zt1.bx.fz 3; have ft14 := zt1.bx.fz 4; have ft15 := zt1.bx.fz 5; have ft16 := zt1.bx.fz 6; have ft17 := zt1.bx.fz 7; have ft18 := zt1.bx.fz 8)); (try (have lts2 := zs2.lt; have los2 := zs2.lo; have cs2 := zs2.cell; have fs2 := zs2.free)); (try (have ltt2 := zt2.bx.lt; have lot2 := zt2.lo; obtain ⟨ct20, ct21, ct22, ct23, ct24, ct25, ct26, ct27, ct28⟩ := zt2.bx.tb; have ft20 := zt2.bx.fz 0; have ft21 := zt2.bx.fz 1; have ft22 := zt2.bx.fz 2; have ft23 := zt2.bx.fz 3; have ft24 := zt2.bx.fz 4; have ft25 := zt2.bx.fz 5; have ft26 := zt2.bx.fz 6; have ft27 := zt2.bx.fz 7; have ft28 := zt2.bx.fz 8)); (try (have lts3 := zs3.lt; have los3 := zs3.lo; have cs3 := zs3.cell; have fs3 := zs3.free)); (try (have ltt3 := zt3.bx.lt; have lot3 := zt3.lo; obtain ⟨ct30, ct31, ct32, ct33, ct34, ct35, ct36, ct37, ct38⟩ := zt3.bx.tb; have ft30 := zt3.bx.fz 0; have ft31 := zt3.bx.fz 1; have ft32 := zt3.bx.fz 2; have ft33 := zt3.bx.fz 3; have ft34 := zt3.bx.fz 4; have ft35 := zt3.bx.fz 5; have ft36 := zt3.bx.fz 6; have ft37 := zt3.bx.fz 7; have ft38 := zt3.bx.fz 8)); have s1a3 := (s1a2T.below hb).more hb.size; have s2ra3 := (s2ra2T.below hb).more hb.size; have s2wa3 := (s2wa2T.below hb).more hb.size; have hS3 : SL w A0 n0 c0 x1 A1 n1 c1 B1 p1 d1 Wa3 := keepC hb (by first | omega | (simp <;> omega)) (keepA (by first | omega | (simp <;> omega)) (hS2)); clear hb) | (go_at_call 6; have hbk2ST : Below W3.heap.size W3 (((Wa2.alloc (.cells #[.slice none 0 0] 33)).alloc (.cells #[.int .i64 0, .int .i64 0, .int .i64 0, .int .i64 0, .int .i64 0, .int .i64 0, .int .i64 0, .slice none 0 0, .slice none 0 0] 37))) := (bel_alloc (bel_alloc hbk2 (.cells #[.slice none 0 0] 33)) (.cells #[.int .i64 0, .int .i64 0, .int .i64 0, .int .i64 0, .int .i64 0, .int .i64 0, .int .i64 0, .slice none 0 0, .slice none 0 0] 37)); have hbw2ST := HB3.out.trans (hbk2ST.mono HB3.out.size); have hnn : Below Wa2.heap.size Wa2 (((Wa2.alloc (.cells #[.slice none 0 0] 33)).alloc (.cells #[.int .i64 0, .int .i64 0, .int .i64 0, .int .i64 0, .int .i64 0, .int .i64 0, .int .i64 0, .slice none 0 0, .slice none 0 0] 37))) := bel_alloc (new1 Wa2 (.cells #[.slice none 0 0] 33)) (.cells #[.int .i64 0, .int .i64 0, .int .i64 0, .int .i64 0, .int .i64 0, .int .i64 0, .int .i64 0, .slice none 0 0, .slice none 0 0] 37); have s1a2ST := (s1a2.below hnn).more hnn.size; have s2ra2ST := (s2ra2.below hnn).more hnn.size; have s2wa2ST := (s2wa2.below hnn).more hnn.size; (try have zs1 := zs1.call hnn); (try have zt1 := zt1.call hnn); (try have zs2 := zs2.call hnn); (try have zt2 := zt2.call hnn); have zs3 := ((SBx.zero (u := .slice none 0 0) (t := 33) hbk2 rfl).alloc (.cells #[.int .i64 0, .int .i64 0, .int .i64 0, .int .i64 0, .int .i64 0, .int .i64 0, .int .i64 0, .slice none 0 0, .slice none 0 0] 37)); have zt3 := (TBx.zero (b := Wa2.heap.size + 1) (bel_alloc hbk2 (.cells #[.slice none 0 0] 33)) (by simp)); (with_reducible refine (Go.Proofs.YthbbpfgjbidbhaaGreatDoor.mc.spec_commit x1 a2 (by omega) HC.out (by omega) (by omega) s2ra2ST s2wa2ST s1a2ST (Nat.le_refl _)).mono ?_); rintro e Wa3 ⟨As3, cs3, Es3, fs3, Bs3, ds3, he, ho, hot, hb⟩; rw [HQX.out, HQB.out] at he; rw [HQC.out] at ho; subst he; have hjo := Go.Proofs.YthbbpfgjbidbhaaGreatDoor.cml.JO.of ho hot hlen1 hlem1; clear ho hot; have hbk3 := hbk2ST.trans (hb.mono hbk2ST.size); have hbw3 := HB3.out.trans (hbk3.mono HB3.out.size); have hv3 : w.heap.size + 2 ≤ Wa3.heap.size := Nat.le_trans hv0 hbk3.size; (try have zs1 := zs1.call hb); (try have zt1 := zt1.call hb); (try have zs2 := zs2.call hb); (try have zt2 := zt2.call hb); (try have zs3 := zs3.call hb); (try have zt3 := zt3.call hb); obtain ⟨lo3, hlo3⟩ : ∃ k, k = (((Wa2.alloc (.cells #[.slice none 0 0] 33)).alloc (.cells #[.int .i64 0, .int .i64 0, .int .i64 0, .int .i64 0, .int .i64 0, .int .i64 0, .int .i64 0, .slice none 0 0, .slice none 0 0] 37))).heap.size := ⟨_, rfl⟩; rw [← hlo3] at hjo; (try simp only [World.size_alloc, World.size_drew] at hlo3); have hlw := hbk2ST.size; (try simp only [World.size_alloc, World.size_drew] at hlw); have hh3 := hb.size; (try simp only [World.size_alloc, World.size_drew] at hh3); (try (have lts1 := zs1.lt; have los1 := zs1.lo; have cs1 := zs1.cell; have fs1 := zs1.free)); (try (have ltt1 := zt1.bx.lt; have lot1 := zt1.lo; obtain ⟨ct10, ct11, ct12, ct13, ct14, ct15, ct16, ct17, ct18⟩ := zt1.bx.tb; have ft10 := zt1.bx.fz 0; have ft11 := zt1.bx.fz 1; have ft12 := zt1.bx.fz 2; have ft13 := zt1.bx.fz 3; have ft14 := zt1.bx.fz 4; have ft15 := zt1.bx.fz 5; have ft16 := zt1.bx.fz 6; have ft17 := zt1.bx.fz 7; have ft18 := zt1.bx.fz 8)); (try (have lts2 := zs2.lt; have los2 := zs2.lo; have cs2 := zs2.cell; have fs2 := zs2.free)); (try (have ltt2 := zt2.bx.lt; have lot2 := zt2.lo; obtain ⟨ct20, ct21, ct22, ct23, ct24, ct25, ct26, ct27, ct28⟩ := zt2.bx.tb; have ft20 := zt2.bx.fz 0; have ft21 := zt2.bx.fz 1; have ft22 := zt2.bx.fz 2; have ft23 := zt2.bx.fz 3; have ft24 := zt2.bx.fz 4; have ft25 := zt2.bx.fz 5; have ft26 := zt2.bx.fz 6; have ft27 := zt2.bx.fz 7; have ft28 := zt2.bx.fz 8)); (try (have lts3 := zs3.lt; have los3 := zs3.lo; have cs3 := zs3.cell; have fs3 := zs3.free)); (try (have ltt3 := zt3.bx.lt; have lot3 := zt3.lo; obtain ⟨ct30, ct31, ct32, ct33, ct34, ct35, ct36, ct37, ct38⟩ := zt3.bx.tb; have ft30 := zt3.bx.fz 0; have ft31 := zt3.bx.fz 1; have ft32 := zt3.bx.fz 2; have ft33 := zt3.bx.fz 3; have ft34 := zt3.bx.fz 4; have ft35 := zt3.bx.fz 5; have ft36 := zt3.bx.fz 6; have ft37 := zt3.bx.fz 7; have ft38 := zt3.bx.fz 8)); have s1a3 := (s1a2ST.below hb).more hb.size; have s2ra3 := (s2ra2ST.below hb).more hb.size; have s2wa3 := (s2wa2ST.below hb).more hb.size; have hS3 : SL w A0 n0 c0 x1 A1 n1 c1 B1 p1 d1 Wa3 := keepC hb (by first | omega | (simp <;> omega)) (keepA (by first | omega | (simp <;> omega)) (keepA (by first | omega | (simp <;> omega)) (hS2))); clear hb) | (go_at_call 6; have hbk2TS : Below W3.heap.size W3 (((Wa2.alloc (.cells #[.int .i64 0, .int .i64 0, .int .i64 0, .int .i64 0, .int .i64 0, .int .i64 0, .int .i64 0, .slice none 0 0, .slice none 0 0] 37)).alloc (.cells #[.slice none 0 0] 33))) := (bel_alloc (bel_alloc hbk2 (.cells #[.int .i64 0, .int .i64 0, .int .i64 0, .int .i64 0, .int .i64 0, .int .i64 0, .int .i64 0, .slice none 0 0, .slice none 0 0] 37)) (.cells #[.slice none 0 0] 33)); have hbw2TS := HB3.out.trans (hbk2TS.mono HB3.out.size); have hnn : Below Wa2.heap.size Wa2 (((Wa2.alloc (.cells #[.int .i64 0, .int .i64 0, .int .i64 0, .int .i64 0, .int .i64 0, .int .i64 0, .int .i64 0, .slice none 0 0, .slice none 0 0] 37)).alloc (.cells #[.slice none 0 0] 33))) := bel_alloc (new1 Wa2 (.cells #[.int .i64 0, .int .i64 0, .int .i64 0, .int .i64 0, .int .i64 0, .int .i64 0, .int .i64 0, .slice none 0 0, .slice none 0 0] 37)) (.cells #[.slice none 0 0] 33); have s1a2TS := (s1a2.below hnn).more hnn.size; have s2ra2TS := (s2ra2.below hnn).more hnn.size; have s2wa2TS := (s2wa2.below hnn).more hnn.size; (try have zs1 := zs1.call hnn); (try have zt1 := zt1.call hnn); (try have zs2 := zs2.call hnn); (try have zt2 := zt2.call hnn); have zt3 := ((TBx.zero hbk2 rfl).alloc (.cells #[.slice none 0 0] 33)); have zs3 := (SBx.zero (u := .slice none 0 0) (t := 33) (b := Wa2.heap.size + 1) (bel_alloc hbk2 (.cells #[.int .i64 0, .int .i64 0, .int .i64 0, .int .i64 0, .int .i64 0, .int .i64 0, .int .i64 0, .slice none 0 0, .slice none 0 0] 37)) (by simp)); (with_reducible refine (Go.Proofs.YthbbpfgjbidbhaaGreatDoor.mc.spec_commit x1 a2 (by omega) HC.out (by omega) (by omega) s2ra2TS s2wa2TS s1a2TS (Nat.le_refl _)).mono ?_); rintro e Wa3 ⟨As3, cs3, Es3, fs3, Bs3, ds3, he, ho, hot, hb⟩; rw [HQX.out, HQB.out] at he; rw [HQC.out] at ho; subst he; have hjo := Go.Proofs.YthbbpfgjbidbhaaGreatDoor.cml.JO.of ho hot hlen1 hlem1; clear ho hot; have hbk3 := hbk2TS.trans (hb.mono hbk2TS.size); have hbw3 := HB3.out.trans (hbk3.mono HB3.out.size); have hv3 : w.heap.size + 2 ≤ Wa3.heap.size := Nat.le_trans hv0 hbk3.size; (try have zs1 := zs1.call hb); (try have zt1 := zt1.call hb); (try have zs2 := zs2.call hb); (try have zt2 := zt2.call hb); (try have zs3 := zs3.call hb); (try have zt3 := zt3.call hb); obtain ⟨lo3, hlo3⟩ : ∃ k, k = (((Wa2.alloc (.cells #[.int .i64 0, .int .i64 0, .int .i64 0, .int .i64 0, .int .i64 0, .int .i64 0, .int .i64 0, .slice none 0 0, .slice none 0 0] 37)).alloc (.cells #[.slice none 0 0] 33))).heap.size := ⟨_, rfl⟩; rw [← hlo3] at hjo; (try simp only [World.size_alloc, World.size_drew] at hlo3); have hlw := hbk2TS.size; (try simp only [World.size_alloc, World.size_drew] at hlw); have hh3 := hb.size; (try simp only [World.size_alloc, World.size_drew] at hh3); (try (have lts1 := zs1.lt; have los1 := zs1.lo; have cs1 := zs1.cell; have fs1 := zs1.free)); (try (have ltt1 := zt1.bx.lt; have lot1 := zt1.lo; obtain ⟨ct10, ct11, ct12, ct13, ct14, ct15, ct16, ct17, ct18⟩ := zt1.bx.tb; have ft10 := zt1.bx.fz 0; have ft11 := zt1.bx.fz 1; have ft12 := zt1.bx.fz 2; have ft13 := zt1.bx.fz 3; have ft14 := zt1.bx.fz 4; have ft15 := zt1.bx.fz 5; have ft16 := zt1.bx.fz 6; have ft17 := zt1.bx.fz 7; have ft18 := zt1.bx.fz 8)); (try (have lts2 := zs2.lt; have los2 := zs2.lo; have cs2 := zs2.cell; have fs2 := zs2.free)); (try (have ltt2 := zt2.bx.lt; have lot2 := zt2.lo; obtain ⟨ct20, ct21, ct22, ct23, ct24, ct25, ct26, ct27, ct28⟩ := zt2.bx.tb; have ft20 := zt2.bx.fz 0; have ft21 := zt2.bx.fz 1; have ft22 := zt2.bx.fz 2; have ft23 := zt2.bx.fz 3; have ft24 := zt2.bx.fz 4; have ft25 := zt2.bx.fz 5; have ft26 := zt2.bx.fz 6; have ft27 := zt2.bx.fz 7; have ft28 := zt2.bx.fz 8)); (try (have lts3 := zs3.lt; have los3 := zs3.lo; have cs3 := zs3.cell; have fs3 := zs3.free)); (try (have ltt3 := zt3.bx.lt; have lot3 := zt3.lo; obtain ⟨ct30, ct31, ct32, ct33, ct34, ct35, ct36, ct37, ct38⟩ := zt3.bx.tb; have ft30 := zt3.bx.fz 0; have ft31 := zt3.bx.fz 1; have ft32 := zt3.bx.fz 2; have ft33 := zt3.bx.fz 3; have ft34 := zt3.bx.fz 4; have ft35 := zt3.bx.fz 5; have ft36 := zt3.bx.fz 6; have ft37 := zt3.bx.fz 7; have ft38 := zt3.bx.fz 8)); have s1a3 := (s1a2TS.below hb).more hb.size; have s2ra3 := (s2ra2TS.below hb).more hb.size; have s2wa3 := (s2wa2TS.below hb).more hb.size; have hS3 : SL w A0 n0 c0 x1 A1 n1 c1 B1 p1 d1 Wa3 := keepC hb (by first | omega | (simp <;> omega)) (keepA (by first | omega | (simp <;> omega)) (keepA (by first | omega | (simp <;> omega)) (hS2))); clear hb))
    all_goals (try go_wp2_with fail)
    all_goals go_meet
    all_goals exact ⟨_, _, lo3, Wa3.heap.size, _, _, _, _, _, _, rfl, rfl, rfl, RgL.mk (by (repeat first | with_reducible assumption | with_reducible refine bel_alloc ?_ _ | (with_reducible refine bel_set ?_ ?h9; case h9 => (first | (simp only; omega) | (simp <;> omega))) | with_reducible refine Below.drew ?_ | (with_reducible refine SBx.zero ?_ ?h9; case h9 => (first | rfl | simp)) | (with_reducible refine TBx.zero ?_ ?h9; case h9 => (first | rfl | simp)) | (with_reducible refine TBx.new ?_ ?h9; case h9 => (first | rfl | simp)) | with_reducible refine SBx.alloc ?_ _ | with_reducible refine TBx.alloc ?_ _ | with_reducible refine SBx.drew ?_ | with_reducible refine TBx.drew ?_ | with_reducible refine SBx.putS (u := .slice none 0 0) ?_ | with_reducible refine TBx.putS (x' := ⟨0, 0, 0, 0, 0, 0, 0⟩) (u' := .slice none 0 0) (v' := .slice none 0 0) ?_ | (with_reducible refine SBx.putO ?h9 ?_; case h9 => (first | (simp only; omega) | (simp <;> omega))) | (with_reducible refine TBx.putO ?h9 ?_; case h9 => (first | (simp only; omega) | (simp <;> omega))) | (with_reducible refine JO.joA ?_ ?h9 _; case h9 => (first | omega | (simp only [World.size_alloc, World.size_drew, World.setCell, Array.size_modify]; omega))) | (with_reducible refine JO.joD ?_ ?h9; case h9 => (first | omega | (simp only [World.size_alloc, World.size_drew, World.setCell, Array.size_modify]; omega))) | (with_reducible refine JO.joS ?h8 ?h9 ?_; (case h8 => (first | (simp only; omega) | (simp <;> omega))); (case h9 => (first | omega | (simp only [World.size_alloc, World.size_drew, World.setCell, Array.size_modify]; omega)))))) (by (repeat first | with_reducible assumption | with_reducible refine bel_alloc ?_ _ | (with_reducible refine bel_set ?_ ?h9; case h9 => (first | (simp only; omega) | (simp <;> omega))) | with_reducible refine Below.drew ?_ | (with_reducible refine SBx.zero ?_ ?h9; case h9 => (first | rfl | simp)) | (with_reducible refine TBx.zero ?_ ?h9; case h9 => (first | rfl | simp)) | (with_reducible refine TBx.new ?_ ?h9; case h9 => (first | rfl | simp)) | with_reducible refine SBx.alloc ?_ _ | with_reducible refine TBx.alloc ?_ _ | with_reducible refine SBx.drew ?_ | with_reducible refine TBx.drew ?_ | with_reducible refine SBx.putS (u := .slice none 0 0) ?_ | with_reducible refine TBx.putS (x' := ⟨0, 0, 0, 0, 0, 0, 0⟩) (u' := .slice none 0 0) (v' := .slice none 0 0) ?_ | (with_reducible refine SBx.putO ?h9 ?_; case h9 => (first | (simp only; omega) | (simp <;> omega))) | (with_reducible refine TBx.putO ?h9 ?_; case h9 => (first | (simp only; omega) | (simp <;> omega))) | (with_reducible refine JO.joA ?_ ?h9 _; case h9 => (first | omega | (simp only [World.size_alloc, World.size_drew, World.setCell, Array.size_modify]; omega))) | (with_reducible refine JO.joD ?_ ?h9; case h9 => (first | omega | (simp only [World.size_alloc, World.size_drew, World.setCell, Array.size_modify]; omega))) | (with_reducible refine JO.joS ?h8 ?h9 ?_; (case h8 => (first | (simp only; omega) | (simp <;> omega))); (case h9 => (first | omega | (simp only [World.size_alloc, World.size_drew, World.setCell, Array.size_modify]; omega)))))) (by (repeat first | with_reducible assumption | with_reducible refine bel_alloc ?_ _ | (with_reducible refine bel_set ?_ ?h9; case h9 => (first | (simp only; omega) | (simp <;> omega))) | with_reducible refine Below.drew ?_ | (with_reducible refine SBx.zero ?_ ?h9; case h9 => (first | rfl | simp)) | (with_reducible refine TBx.zero ?_ ?h9; case h9 => (first | rfl | simp)) | (with_reducible refine TBx.new ?_ ?h9; case h9 => (first | rfl | simp)) | with_reducible refine SBx.alloc ?_ _ | with_reducible refine TBx.alloc ?_ _ | with_reducible refine SBx.drew ?_ | with_reducible refine TBx.drew ?_ | with_reducible refine SBx.putS (u := .slice none 0 0) ?_ | with_reducible refine TBx.putS (x' := ⟨0, 0, 0, 0, 0, 0, 0⟩) (u' := .slice none 0 0) (v' := .slice none 0 0) ?_ | (with_reducible refine SBx.putO ?h9 ?_; case h9 => (first | (simp only; omega) | (simp <;> omega))) | (with_reducible refine TBx.putO ?h9 ?_; case h9 => (first | (simp only; omega) | (simp <;> omega))) | (with_reducible refine JO.joA ?_ ?h9 _; case h9 => (first | omega | (simp only [World.size_alloc, World.size_drew, World.setCell, Array.size_modify]; omega))) | (with_reducible refine JO.joD ?_ ?h9; case h9 => (first | omega | (simp only [World.size_alloc, World.size_drew, World.setCell, Array.size_modify]; omega))) | (with_reducible refine JO.joS ?h8 ?h9 ?_; (case h8 => (first | (simp only; omega) | (simp <;> omega))); (case h9 => (first | omega | (simp only [World.size_alloc, World.size_drew, World.setCell, Array.size_modify]; omega)))))) (by (repeat first | with_reducible assumption | with_reducible refine bel_alloc ?_ _ | (with_reducible refine bel_set ?_ ?h9; case h9 => (first | (simp only; omega) | (simp <;> omega))) | with_reducible refine Below.drew ?_ | (with_reducible refine SBx.zero ?_ ?h9; case h9 => (first | rfl | simp)) | (with_reducible refine TBx.zero ?_ ?h9; case h9 => (first | rfl | simp)) | (with_reducible refine TBx.new ?_ ?h9; case h9 => (first | rfl | simp)) | with_reducible refine SBx.alloc ?_ _ | with_reducible refine TBx.alloc ?_ _ | with_reducible refine SBx.drew ?_ | with_reducible refine TBx.drew ?_ | with_reducible refine SBx.putS (u := .slice none 0 0) ?_ | with_reducible refine TBx.putS (x' := ⟨0, 0, 0, 0, 0, 0, 0⟩) (u' := .slice none 0 0) (v' := .slice none 0 0) ?_ | (with_reducible refine SBx.putO ?h9 ?_; case h9 => (first | (simp only; omega) | (simp <;> omega))) | (with_reducible refine TBx.putO ?h9 ?_; case h9 => (first | (simp only; omega) | (simp <;> omega))) | (with_reducible refine JO.joA ?_ ?h9 _; case h9 => (first | omega | (simp only [World.size_alloc, World.size_drew, World.setCell, Array.size_modify]; omega))) | (with_reducible refine JO.joD ?_ ?h9; case h9 => (first | omega | (simp only [World.size_alloc, World.size_drew, World.setCell, Array.size_modify]; omega))) | (with_reducible refine JO.joS ?h8 ?h9 ?_; (case h8 => (first | (simp only; omega) | (simp <;> omega))); (case h9 => (first | omega | (simp only [World.size_alloc, World.size_drew, World.setCell, Array.size_modify]; omega)))))) (by first | omega | (simp only [World.size_alloc, World.size_drew, World.setCell, Array.size_modify]; omega)) (by first | omega | (simp only [World.size_alloc, World.size_drew, World.setCell, Array.size_modify]; omega)) (by first | omega | (simp only [World.size_alloc, World.size_drew, World.setCell, Array.size_modify]; omega)) (by first | omega | (simp only [World.size_alloc, World.size_drew, World.setCell, Array.size_modify]; omega))⟩
  case rest =>
    obtain ⟨sbs4, tbs4, los4, his4, As4, cs4, A2s4, c2s4, Bs4, ds4, rfl, rfl, rfl, hr⟩ := hcut
    obtain ⟨W4, hW⟩ : ∃ W, W = wc := ⟨_, rfl⟩
    subst hW
    have l1s4 := hr.l1
    have l2s4 := hr.l2
    have s1s4 := hr.s1
    have t1s4 := hr.t1
    have s2s4 := hr.sbx.lo
    have s3s4 := hr.sbx.lt
    have t2s4 := hr.tbx.lo
    have t3s4 := hr.tbx.bx.lt
    have hx0 := hr.sbx.cell
    have hx1 := hr.tbx.bx.tb
    have hjo := hr.jo
    have hb := hr.bel
    clear hr
    have HB4 : Hid (Below w.heap.size w W4) := Lib.hid (HB3.out.trans (hb.mono HB3.out.size))
    have HS4 : Hid (Below W3.heap.size W3 W4) := Lib.hid hb
    have HF4 : Hid (FR 0 0 W3 W4) := Lib.hid (FR.of_below hb)
    have hs4 : W3.heap.size ≤ W4.heap.size := hb.size
    clear hb
    have b0_4 := Lib.hid ((HF4.out.cell (p := ⟨w.heap.size, 0, none⟩) (by simp only; omega) (by simp only; omega)).trans b0_3.out)
    clear b0_3
    have b1_4 := Lib.hid (Go.Proofs.YthbbpfgjbidbhaaGreatDoor.tm.TB.fr b1_3.out HF4.out (by omega) (by omega))
    clear b1_3
    have s4_4 := Lib.hid hjo
    clear hjo
    have b2_4 := Lib.hid hx0
    clear hx0
    have b3_4 := Lib.hid hx1
    clear hx1
    have b0c0 := b0_4.out
    have b0L : w.heap.size < W4.heap.size := by omega
    go_wp2_with fail
    refine (Go.Proofs.YthbbpfgjbidbhaaGreatDoor.lw.own_store (by omega) (by omega) (HR0.out.below HB4.out) (HB4.out).size).mono ?_
    rintro e W5 ⟨Ns5, rfl, hv, hvp, hb⟩
    have HB5 : Hid (Below w.heap.size w W5) := Lib.hid (HB4.out.trans (hb.mono HB4.out.size))
    have HS5 : Hid (Below W4.heap.size W4 W5) := Lib.hid hb
    have HF5 : Hid (FR 0 0 W4 W5) := Lib.hid (FR.of_below hb)
    have hs5 : W4.heap.size ≤ W5.heap.size := hb.size
    clear hb
    have b0_5 := Lib.hid ((HF5.out.cell (p := ⟨w.heap.size, 0, none⟩) (by simp only; omega) (by simp only; omega)).trans b0_4.out)
    clear b0_4
    have b1_5 := Lib.hid (Go.Proofs.YthbbpfgjbidbhaaGreatDoor.tm.TB.fr b1_4.out HF5.out (by omega) (by omega))
    clear b1_4
    have b2_5 := Lib.hid ((HF5.out.cell (p := ⟨sbs4, 0, none⟩) (by simp only; omega) (by simp only; omega)).trans b2_4.out)
    clear b2_4
    have b3_5 := Lib.hid (Go.Proofs.YthbbpfgjbidbhaaGreatDoor.tm.TB.fr b3_4.out HF5.out (by omega) (by omega))
    clear b3_4
    have s4_5 := Lib.hid (s4_4.out.fr HF5.out (by omega) (by omega))
    clear s4_4
    have s5_5 := Lib.hid hv
    clear hv
    have s5p_5 := Lib.hid hvp
    clear hvp
    clear b0c0 b0L
    obtain ⟨b1c0, b1c1, b1c2, b1c3, b1c4, b1c5, b1c6, b1c7, b1c8⟩ := b1_5.out
    have b1L : w.heap.size + 1 < W5.heap.size := by omega
    go_wp2_with fail
    have hx0 := one_cell W5 (.slice (some ⟨Ns5, 0, none⟩) n0 n0) 33
    have hz : (W5.alloc (.cells #[.slice (some ⟨Ns5, 0, none⟩) n0 n0] 33)).heap.size = W5.heap.size + 1 := by simp
    have hb := Go.Proofs.YthbbpfgjbidbhaaGreatDoor.el2.new1 W5 (.cells #[.slice (some ⟨Ns5, 0, none⟩) n0 n0] 33)
    generalize (W5.alloc (.cells #[.slice (some ⟨Ns5, 0, none⟩) n0 n0] 33)) = W6 at hx0 hb hz ⊢
    have HB6 : Hid (Below w.heap.size w W6) := Lib.hid (HB5.out.trans (hb.mono HB5.out.size))
    have HS6 : Hid (Below W5.heap.size W5 W6) := Lib.hid hb
    have HF6 : Hid (FR 0 0 W5 W6) := Lib.hid (FR.of_below hb)
    have hs6 : W5.heap.size ≤ W6.heap.size := hb.size
    clear hb
    have b0_6 := Lib.hid ((HF6.out.cell (p := ⟨w.heap.size, 0, none⟩) (by simp only; omega) (by simp only; omega)).trans b0_5.out)
    clear b0_5
    have b1_6 := Lib.hid (Go.Proofs.YthbbpfgjbidbhaaGreatDoor.tm.TB.fr b1_5.out HF6.out (by omega) (by omega))
    clear b1_5
    have b2_6 := Lib.hid ((HF6.out.cell (p := ⟨sbs4, 0, none⟩) (by simp only; omega) (by simp only; omega)).trans b2_5.out)
    clear b2_5
    have b3_6 := Lib.hid (Go.Proofs.YthbbpfgjbidbhaaGreatDoor.tm.TB.fr b3_5.out HF6.out (by omega) (by omega))
    clear b3_5
    have s4_6 := Lib.hid (s4_5.out.fr HF6.out (by omega) (by omega))
    clear s4_5
    have s5_6 := Lib.hid (s5_5.out.fr HF6.out (by omega) (by omega))
    clear s5_5
    have s5p_6 := Lib.hid ((s5p_5.out.below HS6.out).more HS6.out.size)
    clear s5p_5
    have hz6 : W5.heap.size + 1 ≤ W6.heap.size := Nat.le_of_eq hz.symm
    clear hz
    have b4_6 := Lib.hid hx0
    clear hx0
    refine (Go.Proofs.YthbbpfgjbidbhaaGreatDoor.tm.own_tx x1 (by omega) (by omega) (H1.out.below HB6.out) (G1.out.below HB6.out) (HB6.out).size).mono ?_
    rintro e W7 ⟨Ns6, Ms6, rfl, hv, hb⟩
    have hvr := hv.1.vs (Nat.le_refl _)
    have hvw := hv.2.vs (Nat.le_refl _)
    have HB7 : Hid (Below w.heap.size w W7) := Lib.hid (HB6.out.trans (hb.mono HB6.out.size))
    have HS7 : Hid (Below W6.heap.size W6 W7) := Lib.hid hb
    have HF7 : Hid (FR 0 0 W6 W7) := Lib.hid (FR.of_below hb)
    have hs7 : W6.heap.size ≤ W7.heap.size := hb.size
    clear hb
    have b0_7 := Lib.hid ((HF7.out.cell (p := ⟨w.heap.size, 0, none⟩) (by simp only; omega) (by simp only; omega)).trans b0_6.out)
    clear b0_6
    have b1_7 := Lib.hid (Go.Proofs.YthbbpfgjbidbhaaGreatDoor.tm.TB.fr b1_6.out HF7.out (by omega) (by omega))
    clear b1_6
    have b2_7 := Lib.hid ((HF7.out.cell (p := ⟨sbs4, 0, none⟩) (by simp only; omega) (by simp only; omega)).trans b2_6.out)
    clear b2_6
    have b3_7 := Lib.hid (Go.Proofs.YthbbpfgjbidbhaaGreatDoor.tm.TB.fr b3_6.out HF7.out (by omega) (by omega))
    clear b3_6
    have b4_7 := Lib.hid ((HF7.out.cell (p := ⟨W5.heap.size, 0, none⟩) (by simp only; omega) (by simp only; omega)).trans b4_6.out)
    clear b4_6
    have s4_7 := Lib.hid (s4_6.out.fr HF7.out (by omega) (by omega))
    clear s4_6
    have s5_7 := Lib.hid (s5_6.out.fr HF7.out (by omega) (by omega))
    clear s5_6
    have s5p_7 := Lib.hid ((s5p_6.out.below HS7.out).more HS7.out.size)
    clear s5p_6
    have s6_7 := Lib.hid hv
    clear hv
    have s6r_7 := Lib.hid hvr
    clear hvr
    have s6w_7 := Lib.hid hvw
    clear hvw
    clear b1c0 b1c1 b1c2 b1c3 b1c4 b1c5 b1c6 b1c7 b1c8 b1L
    have b4c0 := b4_7.out
    have b4L : W5.heap.size < W7.heap.size := by omega
    go_wp2_with fail
    have hx0 := TB.new W7 x1 (some ⟨Ns6, 0, none⟩) n1 n1 (some ⟨Ms6, 0, none⟩) p1 p1 37
    have hz : (W7.alloc (.cells #[.int .i64 x1.i, .int .i64 x1.s, .int .i64 x1.t, .int .i64 x1.b, .int .i64 x1.l, .int .i64 x1.h, .int .i64 x1.c, .slice (some ⟨Ns6, 0, none⟩) n1 n1, .slice (some ⟨Ms6, 0, none⟩) p1 p1] 37)).heap.size = W7.heap.size + 1 := by simp
    have hb := Go.Proofs.YthbbpfgjbidbhaaGreatDoor.el2.new1 W7 (.cells #[.int .i64 x1.i, .int .i64 x1.s, .int .i64 x1.t, .int .i64 x1.b, .int .i64 x1.l, .int .i64 x1.h, .int .i64 x1.c, .slice (some ⟨Ns6, 0, none⟩) n1 n1, .slice (some ⟨Ms6, 0, none⟩) p1 p1] 37)
    generalize (W7.alloc (.cells #[.int .i64 x1.i, .int .i64 x1.s, .int .i64 x1.t, .int .i64 x1.b, .int .i64 x1.l, .int .i64 x1.h, .int .i64 x1.c, .slice (some ⟨Ns6, 0, none⟩) n1 n1, .slice (some ⟨Ms6, 0, none⟩) p1 p1] 37)) = W8 at hx0 hb hz ⊢
    have HB8 : Hid (Below w.heap.size w W8) := Lib.hid (HB7.out.trans (hb.mono HB7.out.size))
    have HS8 : Hid (Below W7.heap.size W7 W8) := Lib.hid hb
    have HF8 : Hid (FR 0 0 W7 W8) := Lib.hid (FR.of_below hb)
    have hs8 : W7.heap.size ≤ W8.heap.size := hb.size
    clear hb
    have b0_8 := Lib.hid ((HF8.out.cell (p := ⟨w.heap.size, 0, none⟩) (by simp only; omega) (by simp only; omega)).trans b0_7.out)
    clear b0_7
    have b1_8 := Lib.hid (Go.Proofs.YthbbpfgjbidbhaaGreatDoor.tm.TB.fr b1_7.out HF8.out (by omega) (by omega))
    clear b1_7
    have b2_8 := Lib.hid ((HF8.out.cell (p := ⟨sbs4, 0, none⟩) (by simp only; omega) (by simp only; omega)).trans b2_7.out)
    clear b2_7
    have b3_8 := Lib.hid (Go.Proofs.YthbbpfgjbidbhaaGreatDoor.tm.TB.fr b3_7.out HF8.out (by omega) (by omega))
    clear b3_7
    have b4_8 := Lib.hid ((HF8.out.cell (p := ⟨W5.heap.size, 0, none⟩) (by simp only; omega) (by simp only; omega)).trans b4_7.out)
    clear b4_7
    have s4_8 := Lib.hid (s4_7.out.fr HF8.out (by omega) (by omega))
    clear s4_7
    have s5_8 := Lib.hid (s5_7.out.fr HF8.out (by omega) (by omega))
    clear s5_7
    have s5p_8 := Lib.hid ((s5p_7.out.below HS8.out).more HS8.out.size)
    clear s5p_7
    have s6_8 := Lib.hid (s6_7.out.fr HF8.out (by omega) (by omega))
    clear s6_7
    have s6r_8 := Lib.hid ((s6r_7.out.below HS8.out).more HS8.out.size)
    clear s6r_7
    have s6w_8 := Lib.hid ((s6w_7.out.below HS8.out).more HS8.out.size)
    clear s6w_7
    have hz8 : W7.heap.size + 1 ≤ W8.heap.size := Nat.le_of_eq hz.symm
    clear hz
    have b5_8 := Lib.hid hx0
    clear hx0
    refine (Go.Proofs.YthbbpfgjbidbhaaGreatDoor.cmi.impl_commit x1 a2 (by omega) HC.out (by omega) (by omega) s6r_8.out s6w_8.out s5p_8.out (Nat.le_refl _) (HF.out.below (HB8.out))).mono ?_
    rintro e W9 ⟨As7, cs7, Es7, fs7, Bs7, ds7, he, ho, hot, hb⟩
    rw [HQX.out, HQB.out] at he
    rw [HQC.out] at ho
    subst he
    have hjo := Go.Proofs.YthbbpfgjbidbhaaGreatDoor.cml.JO.of ho hot hlen1 hlem1
    clear ho hot
    have HB9 : Hid (Below w.heap.size w W9) := Lib.hid (HB8.out.trans (hb.mono HB8.out.size))
    have HS9 : Hid (Below W8.heap.size W8 W9) := Lib.hid hb
    have HF9 : Hid (FR 0 0 W8 W9) := Lib.hid (FR.of_below hb)
    have hs9 : W8.heap.size ≤ W9.heap.size := hb.size
    clear hb
    have b0_9 := Lib.hid ((HF9.out.cell (p := ⟨w.heap.size, 0, none⟩) (by simp only; omega) (by simp only; omega)).trans b0_8.out)
    clear b0_8
    have b1_9 := Lib.hid (Go.Proofs.YthbbpfgjbidbhaaGreatDoor.tm.TB.fr b1_8.out HF9.out (by omega) (by omega))
    clear b1_8
    have b2_9 := Lib.hid ((HF9.out.cell (p := ⟨sbs4, 0, none⟩) (by simp only; omega) (by simp only; omega)).trans b2_8.out)
    clear b2_8
    have b3_9 := Lib.hid (Go.Proofs.YthbbpfgjbidbhaaGreatDoor.tm.TB.fr b3_8.out HF9.out (by omega) (by omega))
    clear b3_8
    have b4_9 := Lib.hid ((HF9.out.cell (p := ⟨W5.heap.size, 0, none⟩) (by simp only; omega) (by simp only; omega)).trans b4_8.out)
    clear b4_8
    have b5_9 := Lib.hid (Go.Proofs.YthbbpfgjbidbhaaGreatDoor.tm.TB.fr b5_8.out HF9.out (by omega) (by omega))
    clear b5_8
    have s4_9 := Lib.hid (s4_8.out.fr HF9.out (by omega) (by omega))
    clear s4_8
    have s5_9 := Lib.hid (s5_8.out.fr HF9.out (by omega) (by omega))
    clear s5_8
    have s5p_9 := Lib.hid ((s5p_8.out.below HS9.out).more HS9.out.size)
    clear s5p_8
    have s6_9 := Lib.hid (s6_8.out.fr HF9.out (by omega) (by omega))
    clear s6_8
    have s6r_9 := Lib.hid ((s6r_8.out.below HS9.out).more HS9.out.size)
    clear s6r_8
    have s6w_9 := Lib.hid ((s6w_8.out.below HS9.out).more HS9.out.size)
    clear s6w_8
    have s7_9 := Lib.hid hjo
    clear hjo
    clear b4c0 b4L
    have b2c0 := b2_9.out
    have b2L : sbs4 < W9.heap.size := by omega
    go_wp2_with fail
    have hx0 := one_cell W9 (.slice As7 n0 cs7) 33
    replace hx0 := ((new1 (W9.alloc (.cells #[.slice As7 n0 cs7] 33)) (.cells #[.int .i64 qx.i, .int .i64 qx.s, .int .i64 qx.t, .int .i64 qx.b, .int .i64 qx.l, .int .i64 qx.h, .int .i64 qx.c, .slice Es7 n1 fs7, .slice Bs7 p1 ds7] 37)).cell (p := ⟨W9.heap.size, 0, none⟩) (by simp; try omega)).trans hx0
    have hx1 := TB.new (W9.alloc (.cells #[.slice As7 n0 cs7] 33)) qx Es7 n1 fs7 Bs7 p1 ds7 37
    rw [show (W9.alloc (.cells #[.slice As7 n0 cs7] 33)).heap.size = W9.heap.size + 1 by simp] at hx1
    have hz : ((W9.alloc (.cells #[.slice As7 n0 cs7] 33)).alloc (.cells #[.int .i64 qx.i, .int .i64 qx.s, .int .i64 qx.t, .int .i64 qx.b, .int .i64 qx.l, .int .i64 qx.h, .int .i64 qx.c, .slice Es7 n1 fs7, .slice Bs7 p1 ds7] 37)).heap.size = W9.heap.size + 2 := by simp
    have hb := Go.Proofs.YthbbpfgjbidbhaaGreatDoor.vers.new2 W9 (.cells #[.slice As7 n0 cs7] 33) (.cells #[.int .i64 qx.i, .int .i64 qx.s, .int .i64 qx.t, .int .i64 qx.b, .int .i64 qx.l, .int .i64 qx.h, .int .i64 qx.c, .slice Es7 n1 fs7, .slice Bs7 p1 ds7] 37)
    generalize ((W9.alloc (.cells #[.slice As7 n0 cs7] 33)).alloc (.cells #[.int .i64 qx.i, .int .i64 qx.s, .int .i64 qx.t, .int .i64 qx.b, .int .i64 qx.l, .int .i64 qx.h, .int .i64 qx.c, .slice Es7 n1 fs7, .slice Bs7 p1 ds7] 37)) = W10 at hx0 hx1 hb hz ⊢
    have HB10 : Hid (Below w.heap.size w W10) := Lib.hid (HB9.out.trans (hb.mono HB9.out.size))
    have HS10 : Hid (Below W9.heap.size W9 W10) := Lib.hid hb
    have HF10 : Hid (FR 0 0 W9 W10) := Lib.hid (FR.of_below hb)
    have hs10 : W9.heap.size ≤ W10.heap.size := hb.size
    clear hb
    have b0_10 := Lib.hid ((HF10.out.cell (p := ⟨w.heap.size, 0, none⟩) (by simp only; omega) (by simp only; omega)).trans b0_9.out)
    clear b0_9
    have b1_10 := Lib.hid (Go.Proofs.YthbbpfgjbidbhaaGreatDoor.tm.TB.fr b1_9.out HF10.out (by omega) (by omega))
    clear b1_9
    have b2_10 := Lib.hid ((HF10.out.cell (p := ⟨sbs4, 0, none⟩) (by simp only; omega) (by simp only; omega)).trans b2_9.out)
    clear b2_9
    have b3_10 := Lib.hid (Go.Proofs.YthbbpfgjbidbhaaGreatDoor.tm.TB.fr b3_9.out HF10.out (by omega) (by omega))
    clear b3_9
    have b4_10 := Lib.hid ((HF10.out.cell (p := ⟨W5.heap.size, 0, none⟩) (by simp only; omega) (by simp only; omega)).trans b4_9.out)
    clear b4_9
    have b5_10 := Lib.hid (Go.Proofs.YthbbpfgjbidbhaaGreatDoor.tm.TB.fr b5_9.out HF10.out (by omega) (by omega))
    clear b5_9
    have s4_10 := Lib.hid (s4_9.out.fr HF10.out (by omega) (by omega))
    clear s4_9
    have s5_10 := Lib.hid (s5_9.out.fr HF10.out (by omega) (by omega))
    clear s5_9
    have s5p_10 := Lib.hid ((s5p_9.out.below HS10.out).more HS10.out.size)
    clear s5p_9
    have s6_10 := Lib.hid (s6_9.out.fr HF10.out (by omega) (by omega))
    clear s6_9
    have s6r_10 := Lib.hid ((s6r_9.out.below HS10.out).more HS10.out.size)
    clear s6r_9
    have s6w_10 := Lib.hid ((s6w_9.out.below HS10.out).more HS10.out.size)
    clear s6w_9
    have s7_10 := Lib.hid (s7_9.out.fr HF10.out (by omega) (by omega))
    clear s7_9
    have hz10 : W9.heap.size + 2 ≤ W10.heap.size := Nat.le_of_eq hz.symm
    clear hz
    have b6_10 := Lib.hid hx0
    clear hx0
    have b7_10 := Lib.hid hx1
    clear hx1
    refine (same_store (by omega) ((s7_10.out).rs HCL.out) ((s4_10.out).rs HCL.out) (Nat.le_refl _)).mono ?_
    rintro e W11 ⟨rfl, hb⟩
    have HB11 : Hid (Below w.heap.size w W11) := Lib.hid (HB10.out.trans (hb.mono HB10.out.size))
    have HS11 : Hid (Below W10.heap.size W10 W11) := Lib.hid hb
    have HF11 : Hid (FR 0 0 W10 W11) := Lib.hid (FR.of_below hb)
    have hs11 : W10.heap.size ≤ W11.heap.size := hb.size
    clear hb
    have b0_11 := Lib.hid ((HF11.out.cell (p := ⟨w.heap.size, 0, none⟩) (by simp only; omega) (by simp only; omega)).trans b0_10.out)
    clear b0_10
    have b1_11 := Lib.hid (Go.Proofs.YthbbpfgjbidbhaaGreatDoor.tm.TB.fr b1_10.out HF11.out (by omega) (by omega))
    clear b1_10
    have b2_11 := Lib.hid ((HF11.out.cell (p := ⟨sbs4, 0, none⟩) (by simp only; omega) (by simp only; omega)).trans b2_10.out)
    clear b2_10
    have b3_11 := Lib.hid (Go.Proofs.YthbbpfgjbidbhaaGreatDoor.tm.TB.fr b3_10.out HF11.out (by omega) (by omega))
    clear b3_10
    have b4_11 := Lib.hid ((HF11.out.cell (p := ⟨W5.heap.size, 0, none⟩) (by simp only; omega) (by simp only; omega)).trans b4_10.out)
    clear b4_10
    have b5_11 := Lib.hid (Go.Proofs.YthbbpfgjbidbhaaGreatDoor.tm.TB.fr b5_10.out HF11.out (by omega) (by omega))
    clear b5_10
    have b6_11 := Lib.hid ((HF11.out.cell (p := ⟨W9.heap.size, 0, none⟩) (by simp only; omega) (by simp only; omega)).trans b6_10.out)
    clear b6_10
    have b7_11 := Lib.hid (Go.Proofs.YthbbpfgjbidbhaaGreatDoor.tm.TB.fr b7_10.out HF11.out (by omega) (by omega))
    clear b7_10
    have s4_11 := Lib.hid (s4_10.out.fr HF11.out (by omega) (by omega))
    clear s4_10
    have s5_11 := Lib.hid (s5_10.out.fr HF11.out (by omega) (by omega))
    clear s5_10
    have s5p_11 := Lib.hid ((s5p_10.out.below HS11.out).more HS11.out.size)
    clear s5p_10
    have s6_11 := Lib.hid (s6_10.out.fr HF11.out (by omega) (by omega))
    clear s6_10
    have s6r_11 := Lib.hid ((s6r_10.out.below HS11.out).more HS11.out.size)
    clear s6r_10
    have s6w_11 := Lib.hid ((s6w_10.out.below HS11.out).more HS11.out.size)
    clear s6w_10
    have s7_11 := Lib.hid (s7_10.out.fr HF11.out (by omega) (by omega))
    clear s7_10
    clear b2c0 b2L
    obtain ⟨b3c0, b3c1, b3c2, b3c3, b3c4, b3c5, b3c6, b3c7, b3c8⟩ := b3_11.out
    have b3L : tbs4 < W11.heap.size := by omega
    obtain ⟨b7c0, b7c1, b7c2, b7c3, b7c4, b7c5, b7c6, b7c7, b7c8⟩ := b7_11.out
    have b7L : W9.heap.size + 1 < W11.heap.size := by omega
    go_wp2_with fail
    refine (same_tx qx (by omega) (by omega) ((s7_11.out).r (by omega)) ((s4_11.out).r (by omega)) ((s7_11.out).s (by omega)) ((s4_11.out).s (by omega)) (Nat.le_refl _)).mono ?_
    rintro e W12 ⟨rfl, hb⟩
    have HB12 : Hid (Below w.heap.size w W12) := Lib.hid (HB11.out.trans (hb.mono HB11.out.size))
    have HS12 : Hid (Below W11.heap.size W11 W12) := Lib.hid hb
    have HF12 : Hid (FR 0 0 W11 W12) := Lib.hid (FR.of_below hb)
    have hs12 : W11.heap.size ≤ W12.heap.size := hb.size
    clear hb
    have b0_12 := Lib.hid ((HF12.out.cell (p := ⟨w.heap.size, 0, none⟩) (by simp only; omega) (by simp only; omega)).trans b0_11.out)
    clear b0_11
    have b1_12 := Lib.hid (Go.Proofs.YthbbpfgjbidbhaaGreatDoor.tm.TB.fr b1_11.out HF12.out (by omega) (by omega))
    clear b1_11
    have b2_12 := Lib.hid ((HF12.out.cell (p := ⟨sbs4, 0, none⟩) (by simp only; omega) (by simp only; omega)).trans b2_11.out)
    clear b2_11
    have b3_12 := Lib.hid (Go.Proofs.YthbbpfgjbidbhaaGreatDoor.tm.TB.fr b3_11.out HF12.out (by omega) (by omega))
    clear b3_11
    have b4_12 := Lib.hid ((HF12.out.cell (p := ⟨W5.heap.size, 0, none⟩) (by simp only; omega) (by simp only; omega)).trans b4_11.out)
    clear b4_11
    have b5_12 := Lib.hid (Go.Proofs.YthbbpfgjbidbhaaGreatDoor.tm.TB.fr b5_11.out HF12.out (by omega) (by omega))
    clear b5_11
    have b6_12 := Lib.hid ((HF12.out.cell (p := ⟨W9.heap.size, 0, none⟩) (by simp only; omega) (by simp only; omega)).trans b6_11.out)
    clear b6_11
    have b7_12 := Lib.hid (Go.Proofs.YthbbpfgjbidbhaaGreatDoor.tm.TB.fr b7_11.out HF12.out (by omega) (by omega))
    clear b7_11
    have s4_12 := Lib.hid (s4_11.out.fr HF12.out (by omega) (by omega))
    clear s4_11
    have s5_12 := Lib.hid (s5_11.out.fr HF12.out (by omega) (by omega))
    clear s5_11
    have s5p_12 := Lib.hid ((s5p_11.out.below HS12.out).more HS12.out.size)
    clear s5p_11
    have s6_12 := Lib.hid (s6_11.out.fr HF12.out (by omega) (by omega))
    clear s6_11
    have s6r_12 := Lib.hid ((s6r_11.out.below HS12.out).more HS12.out.size)
    clear s6r_11
    have s6w_12 := Lib.hid ((s6w_11.out.below HS12.out).more HS12.out.size)
    clear s6w_11
    have s7_12 := Lib.hid (s7_11.out.fr HF12.out (by omega) (by omega))
    clear s7_11
    clear b3c0 b3c1 b3c2 b3c3 b3c4 b3c5 b3c6 b3c7 b3c8 b3L
    clear b7c0 b7c1 b7c2 b7c3 b7c4 b7c5 b7c6 b7c7 b7c8 b7L
    go_wp2_with fail
    have hbk0 : Below W12.heap.size W12 W12.drew := (Below.refl _ _).drew
    have hbw0 := HB12.out.trans (hbk0.mono HB12.out.size)
    have b4l_12 : W5.heap.size < W12.heap.size := by omega
    have b0l_12 : w.heap.size < W12.heap.size := by omega
    have b4c0 := b4_12.out
    have b0c0 := b0_12.out
    go_region_held3 (fun w' => w'.cell? ⟨W5.heap.size, 0, none⟩ = some (.slice (some ⟨Ns5, 0, none⟩) n0 n0) ∧ w'.cell? ⟨w.heap.size, 0, none⟩ = some (.slice A0 n0 c0)) (go_keep) (first | (go_at_call 10; (with_reducible refine (same_store (by omega) ((s5p_12.out.below hbk1).more hbk1.size) s8a1 (Nat.le_refl _)).mono ?_); rintro e W13 ⟨rfl, hb⟩; have hbk2 := hbk1.trans (hb.mono hbk1.size); have hbw2 := HB12.out.trans (hbk2.mono HB12.out.size); have s8a2 := (s8a1.below hb).more hb.size; clear hb ; have b4d20 := (((hbk2).cell (p := ⟨W5.heap.size, 0, none⟩) b4l_12).trans b4_12.out); have b0d20 := (((hbk2).cell (p := ⟨w.heap.size, 0, none⟩) b0l_12).trans b0_12.out)) | (go_at_call 7; (with_reducible refine (copy_store (by omega) (by omega) (HR0.out.below hbw0) (hbw0).size).mono ?_); rintro e Wa1 ⟨Ns8, rfl, hN, hv, hb⟩; clear hN; have hbk1 := hbk0.trans (hb.mono hbk0.size); have hbw1 := HB12.out.trans (hbk1.mono HB12.out.size); have s8a1 := hv; clear hb hv; have b4d10 := (((hbk1).cell (p := ⟨W5.heap.size, 0, none⟩) b4l_12).trans b4_12.out); have b0d10 := (((hbk1).cell (p := ⟨w.heap.size, 0, none⟩) b0l_12).trans b0_12.out)))
    have hb := hbk2
    clear hbk0 hbw0 s8a1 b4d10 b0d10 hbk1 hbw1 s8a2 b4d20 b0d20 hbk2 hbw2 b4c0 b0c0 b4l_12 b0l_12
    have HB13 : Hid (Below w.heap.size w W13) := Lib.hid (HB12.out.trans (hb.mono HB12.out.size))
    have HS13 : Hid (Below W12.heap.size W12 W13) := Lib.hid hb
    have HF13 : Hid (FR 0 0 W12 W13) := Lib.hid (FR.of_below hb)
    have hs13 : W12.heap.size ≤ W13.heap.size := hb.size
    clear hb
    have b0_13 := Lib.hid ((HF13.out.cell (p := ⟨w.heap.size, 0, none⟩) (by simp only; omega) (by simp only; omega)).trans b0_12.out)
    clear b0_12
    have b1_13 := Lib.hid (Go.Proofs.YthbbpfgjbidbhaaGreatDoor.tm.TB.fr b1_12.out HF13.out (by omega) (by omega))
    clear b1_12
    have b2_13 := Lib.hid ((HF13.out.cell (p := ⟨sbs4, 0, none⟩) (by simp only; omega) (by simp only; omega)).trans b2_12.out)
    clear b2_12
    have b3_13 := Lib.hid (Go.Proofs.YthbbpfgjbidbhaaGreatDoor.tm.TB.fr b3_12.out HF13.out (by omega) (by omega))
    clear b3_12
    have b4_13 := Lib.hid ((HF13.out.cell (p := ⟨W5.heap.size, 0, none⟩) (by simp only; omega) (by simp only; omega)).trans b4_12.out)
    clear b4_12
    have b5_13 := Lib.hid (Go.Proofs.YthbbpfgjbidbhaaGreatDoor.tm.TB.fr b5_12.out HF13.out (by omega) (by omega))
    clear b5_12
    have b6_13 := Lib.hid ((HF13.out.cell (p := ⟨W9.heap.size, 0, none⟩) (by simp only; omega) (by simp only; omega)).trans b6_12.out)
    clear b6_12
    have b7_13 := Lib.hid (Go.Proofs.YthbbpfgjbidbhaaGreatDoor.tm.TB.fr b7_12.out HF13.out (by omega) (by omega))
    clear b7_12
    have s4_13 := Lib.hid (s4_12.out.fr HF13.out (by omega) (by omega))
    clear s4_12
    have s5_13 := Lib.hid (s5_12.out.fr HF13.out (by omega) (by omega))
    clear s5_12
    have s5p_13 := Lib.hid ((s5p_12.out.below HS13.out).more HS13.out.size)
    clear s5p_12
    have s6_13 := Lib.hid (s6_12.out.fr HF13.out (by omega) (by omega))
    clear s6_12
    have s6r_13 := Lib.hid ((s6r_12.out.below HS13.out).more HS13.out.size)
    clear s6r_12
    have s6w_13 := Lib.hid ((s6w_12.out.below HS13.out).more HS13.out.size)
    clear s6w_12
    have s7_13 := Lib.hid (s7_12.out.fr HF13.out (by omega) (by omega))
    clear s7_12
    go_wp2_with fail
    have hbk0 : Below W13.heap.size W13 W13.drew := (Below.refl _ _).drew
    have hbw0 := HB13.out.trans (hbk0.mono HB13.out.size)
    have b5l_13 : W7.heap.size < W13.heap.size := by omega
    have b1l_13 : w.heap.size + 1 < W13.heap.size := by omega
    obtain ⟨b5c0, b5c1, b5c2, b5c3, b5c4, b5c5, b5c6, b5c7, b5c8⟩ := b5_13.out
    obtain ⟨b1c0, b1c1, b1c2, b1c3, b1c4, b1c5, b1c6, b1c7, b1c8⟩ := b1_13.out
    go_region_held3 (fun w' => w'.cell? ⟨W7.heap.size, 0, none⟩ = some (.int .i64 x1.i) ∧ w'.cell? ⟨W7.heap.size, 1, none⟩ = some (.int .i64 x1.s) ∧ w'.cell? ⟨W7.heap.size, 2, none⟩ = some (.int .i64 x1.t) ∧ w'.cell? ⟨W7.heap.size, 3, none⟩ = some (.int .i64 x1.b) ∧ w'.cell? ⟨W7.heap.size, 4, none⟩ = some (.int .i64 x1.l) ∧ w'.cell? ⟨W7.heap.size, 5, none⟩ = some (.int .i64 x1.h) ∧ w'.cell? ⟨W7.heap.size, 6, none⟩ = some (.int .i64 x1.c) ∧ w'.cell? ⟨W7.heap.size, 7, none⟩ = some (.slice (some ⟨Ns6, 0, none⟩) n1 n1) ∧ w'.cell? ⟨W7.heap.size, 8, none⟩ = some (.slice (some ⟨Ms6, 0, none⟩) p1 p1) ∧ w'.cell? ⟨w.heap.size + 1, 0, none⟩ = some (.int .i64 x1.i) ∧ w'.cell? ⟨w.heap.size + 1, 1, none⟩ = some (.int .i64 x1.s) ∧ w'.cell? ⟨w.heap.size + 1, 2, none⟩ = some (.int .i64 x1.t) ∧ w'.cell? ⟨w.heap.size + 1, 3, none⟩ = some (.int .i64 x1.b) ∧ w'.cell? ⟨w.heap.size + 1, 4, none⟩ = some (.int .i64 x1.l) ∧ w'.cell? ⟨w.heap.size + 1, 5, none⟩ = some (.int .i64 x1.h) ∧ w'.cell? ⟨w.heap.size + 1, 6, none⟩ = some (.int .i64 x1.c) ∧ w'.cell? ⟨w.heap.size + 1, 7, none⟩ = some (.slice A1 n1 c1) ∧ w'.cell? ⟨w.heap.size + 1, 8, none⟩ = some (.slice B1 p1 d1)) (go_keep) (first | (go_at_call 11; (with_reducible refine (same_tx x1 (by omega) (by omega) ((s6r_13.out.below hbk1).more hbk1.size) s9ra1 ((s6w_13.out.below hbk1).more hbk1.size) s9wa1 (Nat.le_refl _)).mono ?_); rintro e W14 ⟨rfl, hb⟩; have hbk2 := hbk1.trans (hb.mono hbk1.size); have hbw2 := HB13.out.trans (hbk2.mono HB13.out.size); have s9ra2 := (s9ra1.below hb).more hb.size; have s9wa2 := (s9wa1.below hb).more hb.size; clear hb ; obtain ⟨b5d20, b5d21, b5d22, b5d23, b5d24, b5d25, b5d26, b5d27, b5d28⟩ := ((b5_13.out).keep b5l_13 (hbk2)); obtain ⟨b1d20, b1d21, b1d22, b1d23, b1d24, b1d25, b1d26, b1d27, b1d28⟩ := ((b1_13.out).keep b1l_13 (hbk2))) | (go_at_call 8; (with_reducible refine (Go.Proofs.YthbbpfgjbidbhaaGreatDoor.tx.copied_tx x1 (by omega) (by omega) (H1.out.below hbw0) (G1.out.below hbw0) (hbw0).size).mono ?_); rintro e Wa1 ⟨Ns9, Ms9, rfl, hv, hu, hb⟩; have hbk1 := hbk0.trans (hb.mono hbk0.size); have hbw1 := HB13.out.trans (hbk1.mono HB13.out.size); have s9ra1 := hv; have s9wa1 := hu; clear hb hv hu; obtain ⟨b5d10, b5d11, b5d12, b5d13, b5d14, b5d15, b5d16, b5d17, b5d18⟩ := ((b5_13.out).keep b5l_13 (hbk1)); obtain ⟨b1d10, b1d11, b1d12, b1d13, b1d14, b1d15, b1d16, b1d17, b1d18⟩ := ((b1_13.out).keep b1l_13 (hbk1))))
    have hb := hbk2
    clear hbk0 hbw0 s9ra1 s9wa1 b5d10 b5d11 b5d12 b5d13 b5d14 b5d15 b5d16 b5d17 b5d18 b1d10 b1d11 b1d12 b1d13 b1d14 b1d15 b1d16 b1d17 b1d18 hbk1 hbw1 s9ra2 s9wa2 b5d20 b5d21 b5d22 b5d23 b5d24 b5d25 b5d26 b5d27 b5d28 b1d20 b1d21 b1d22 b1d23 b1d24 b1d25 b1d26 b1d27 b1d28 hbk2 hbw2 b5c0 b5c1 b5c2 b5c3 b5c4 b5c5 b5c6 b5c7 b5c8 b1c0 b1c1 b1c2 b1c3 b1c4 b1c5 b1c6 b1c7 b1c8 b5l_13 b1l_13
    have HB14 : Hid (Below w.heap.size w W14) := Lib.hid (HB13.out.trans (hb.mono HB13.out.size))
    have HS14 : Hid (Below W13.heap.size W13 W14) := Lib.hid hb
    have HF14 : Hid (FR 0 0 W13 W14) := Lib.hid (FR.of_below hb)
    have hs14 : W13.heap.size ≤ W14.heap.size := hb.size
    clear hb
    have b0_14 := Lib.hid ((HF14.out.cell (p := ⟨w.heap.size, 0, none⟩) (by simp only; omega) (by simp only; omega)).trans b0_13.out)
    clear b0_13
    have b1_14 := Lib.hid (Go.Proofs.YthbbpfgjbidbhaaGreatDoor.tm.TB.fr b1_13.out HF14.out (by omega) (by omega))
    clear b1_13
    have b2_14 := Lib.hid ((HF14.out.cell (p := ⟨sbs4, 0, none⟩) (by simp only; omega) (by simp only; omega)).trans b2_13.out)
    clear b2_13
    have b3_14 := Lib.hid (Go.Proofs.YthbbpfgjbidbhaaGreatDoor.tm.TB.fr b3_13.out HF14.out (by omega) (by omega))
    clear b3_13
    have b4_14 := Lib.hid ((HF14.out.cell (p := ⟨W5.heap.size, 0, none⟩) (by simp only; omega) (by simp only; omega)).trans b4_13.out)
    clear b4_13
    have b5_14 := Lib.hid (Go.Proofs.YthbbpfgjbidbhaaGreatDoor.tm.TB.fr b5_13.out HF14.out (by omega) (by omega))
    clear b5_13
    have b6_14 := Lib.hid ((HF14.out.cell (p := ⟨W9.heap.size, 0, none⟩) (by simp only; omega) (by simp only; omega)).trans b6_13.out)
    clear b6_13
    have b7_14 := Lib.hid (Go.Proofs.YthbbpfgjbidbhaaGreatDoor.tm.TB.fr b7_13.out HF14.out (by omega) (by omega))
    clear b7_13
    have s4_14 := Lib.hid (s4_13.out.fr HF14.out (by omega) (by omega))
    clear s4_13
    have s5_14 := Lib.hid (s5_13.out.fr HF14.out (by omega) (by omega))
    clear s5_13
    have s5p_14 := Lib.hid ((s5p_13.out.below HS14.out).more HS14.out.size)
    clear s5p_13
    have s6_14 := Lib.hid (s6_13.out.fr HF14.out (by omega) (by omega))
    clear s6_13
    have s6r_14 := Lib.hid ((s6r_13.out.below HS14.out).more HS14.out.size)
    clear s6r_13
    have s6w_14 := Lib.hid ((s6w_13.out.below HS14.out).more HS14.out.size)
    clear s6w_13
    have s7_14 := Lib.hid (s7_13.out.fr HF14.out (by omega) (by omega))
    clear s7_13
    have b4c0 := b4_14.out
    have b4L : W5.heap.size < W14.heap.size := by omega
    go_wp2_with fail
    refine (Go.Proofs.YthbbpfgjbidbhaaGreatDoor.lw.mark_st (by omega) (by omega) s5_14.out (by omega)).mono ?_
    rintro e W15 ⟨rfl, hf⟩
    have HF15 : Hid (FR W4.heap.size W5.heap.size W14 W15) := Lib.hid hf
    have HB15 : Hid (Below w.heap.size w W15) := Lib.hid (FR.chain HB14.out hf (by omega))
    have hs15 : W14.heap.size ≤ W15.heap.size := hf.size
    clear hf
    have b0_15 := Lib.hid ((HF15.out.cell (p := ⟨w.heap.size, 0, none⟩) (by simp only; omega) (by simp only; omega)).trans b0_14.out)
    clear b0_14
    have b1_15 := Lib.hid (Go.Proofs.YthbbpfgjbidbhaaGreatDoor.tm.TB.fr b1_14.out HF15.out (by omega) (by omega))
    clear b1_14
    have b2_15 := Lib.hid ((HF15.out.cell (p := ⟨sbs4, 0, none⟩) (by simp only; omega) (by simp only; omega)).trans b2_14.out)
    clear b2_14
    have b3_15 := Lib.hid (Go.Proofs.YthbbpfgjbidbhaaGreatDoor.tm.TB.fr b3_14.out HF15.out (by omega) (by omega))
    clear b3_14
    have b4_15 := Lib.hid ((HF15.out.cell (p := ⟨W5.heap.size, 0, none⟩) (by simp only; omega) (by simp only; omega)).trans b4_14.out)
    clear b4_14
    have b5_15 := Lib.hid (Go.Proofs.YthbbpfgjbidbhaaGreatDoor.tm.TB.fr b5_14.out HF15.out (by omega) (by omega))
    clear b5_14
    have b6_15 := Lib.hid ((HF15.out.cell (p := ⟨W9.heap.size, 0, none⟩) (by simp only; omega) (by simp only; omega)).trans b6_14.out)
    clear b6_14
    have b7_15 := Lib.hid (Go.Proofs.YthbbpfgjbidbhaaGreatDoor.tm.TB.fr b7_14.out HF15.out (by omega) (by omega))
    clear b7_14
    have s4_15 := Lib.hid (s4_14.out.fr HF15.out (by omega) (by omega))
    clear s4_14
    have s6_15 := Lib.hid (s6_14.out.fr HF15.out (by omega) (by omega))
    clear s6_14
    clear s6r_14
    clear s6w_14
    have s7_15 := Lib.hid (s7_14.out.fr HF15.out (by omega) (by omega))
    clear s7_14
    clear s5_14 s5p_14
    obtain ⟨s5c, hs5c⟩ : ∃ z : Int, z = 1 + ((Go.Proofs.YthbbpfgjbidbhaaGreatDoor.st.cnt L0 * 5 : Nat) : Int) := ⟨_, rfl⟩
    rw [← hs5c]
    have s5t : decide (s5c < 0) = false := decide_eq_false (by omega)
    have s5b0 : 0 ≤ s5c := by omega
    have s5b1 : s5c ≤ 1099511627776 := by omega
    have Hs5C := Lib.hid hs5c
    clear hs5c
    clear b4c0 b4L
    obtain ⟨b5c0, b5c1, b5c2, b5c3, b5c4, b5c5, b5c6, b5c7, b5c8⟩ := b5_15.out
    have b5L : W7.heap.size < W15.heap.size := by omega
    go_wp2_with fail
    refine (Go.Proofs.YthbbpfgjbidbhaaGreatDoor.lw.mark_txk (k0 := s5c) x1 (by omega) (by omega) (by omega) (by omega) s6_15.out (by omega)).mono ?_
    rintro e W16 ⟨rfl, hf⟩
    have HF16 : Hid (FR W6.heap.size W7.heap.size W15 W16) := Lib.hid hf
    have HB16 : Hid (Below w.heap.size w W16) := Lib.hid (FR.chain HB15.out hf (by omega))
    have hs16 : W15.heap.size ≤ W16.heap.size := hf.size
    clear hf
    have b0_16 := Lib.hid ((HF16.out.cell (p := ⟨w.heap.size, 0, none⟩) (by simp only; omega) (by simp only; omega)).trans b0_15.out)
    clear b0_15
    have b1_16 := Lib.hid (Go.Proofs.YthbbpfgjbidbhaaGreatDoor.tm.TB.fr b1_15.out HF16.out (by omega) (by omega))
    clear b1_15
    have b2_16 := Lib.hid ((HF16.out.cell (p := ⟨sbs4, 0, none⟩) (by simp only; omega) (by simp only; omega)).trans b2_15.out)
    clear b2_15
    have b3_16 := Lib.hid (Go.Proofs.YthbbpfgjbidbhaaGreatDoor.tm.TB.fr b3_15.out HF16.out (by omega) (by omega))
    clear b3_15
    have b4_16 := Lib.hid ((HF16.out.cell (p := ⟨W5.heap.size, 0, none⟩) (by simp only; omega) (by simp only; omega)).trans b4_15.out)
    clear b4_15
    have b5_16 := Lib.hid (Go.Proofs.YthbbpfgjbidbhaaGreatDoor.tm.TB.fr b5_15.out HF16.out (by omega) (by omega))
    clear b5_15
    have b6_16 := Lib.hid ((HF16.out.cell (p := ⟨W9.heap.size, 0, none⟩) (by simp only; omega) (by simp only; omega)).trans b6_15.out)
    clear b6_15
    have b7_16 := Lib.hid (Go.Proofs.YthbbpfgjbidbhaaGreatDoor.tm.TB.fr b7_15.out HF16.out (by omega) (by omega))
    clear b7_15
    have s4_16 := Lib.hid (s4_15.out.fr HF16.out (by omega) (by omega))
    clear s4_15
    have s7_16 := Lib.hid (s7_15.out.fr HF16.out (by omega) (by omega))
    clear s7_15
    clear s6_15 
    obtain ⟨s6c, hs6c⟩ : ∃ z : Int, z = s5c + ((n1 * 2 : Nat) : Int) + ((p1 * 2 : Nat) : Int) := ⟨_, rfl⟩
    rw [← hs6c]
    have s6t : decide (s6c < 0) = false := decide_eq_false (by omega)
    have s6b0 : 0 ≤ s6c := by omega
    have s6b1 : s6c ≤ 1125899906842624 := by omega
    have Hs6C := Lib.hid hs6c
    clear hs6c
    clear b5c0 b5c1 b5c2 b5c3 b5c4 b5c5 b5c6 b5c7 b5c8 b5L
    have b2c0 := b2_16.out
    have b2L : sbs4 < W16.heap.size := by omega
    have b6c0 := b6_16.out
    have b6L : W9.heap.size < W16.heap.size := by omega
    go_wp2_with fail
    refine (same_store (by omega) ((s7_16.out).rs HCL.out) ((s4_16.out).rs HCL.out) (Nat.le_refl _)).mono ?_
    rintro e W17 ⟨rfl, hb⟩
    have HB17 : Hid (Below w.heap.size w W17) := Lib.hid (HB16.out.trans (hb.mono HB16.out.size))
    have HS17 : Hid (Below W16.heap.size W16 W17) := Lib.hid hb
    have HF17 : Hid (FR 0 0 W16 W17) := Lib.hid (FR.of_below hb)
    have hs17 : W16.heap.size ≤ W17.heap.size := hb.size
    clear hb
    have b0_17 := Lib.hid ((HF17.out.cell (p := ⟨w.heap.size, 0, none⟩) (by simp only; omega) (by simp only; omega)).trans b0_16.out)
    clear b0_16
    have b1_17 := Lib.hid (Go.Proofs.YthbbpfgjbidbhaaGreatDoor.tm.TB.fr b1_16.out HF17.out (by omega) (by omega))
    clear b1_16
    have b2_17 := Lib.hid ((HF17.out.cell (p := ⟨sbs4, 0, none⟩) (by simp only; omega) (by simp only; omega)).trans b2_16.out)
    clear b2_16
    have b3_17 := Lib.hid (Go.Proofs.YthbbpfgjbidbhaaGreatDoor.tm.TB.fr b3_16.out HF17.out (by omega) (by omega))
    clear b3_16
    have b4_17 := Lib.hid ((HF17.out.cell (p := ⟨W5.heap.size, 0, none⟩) (by simp only; omega) (by simp only; omega)).trans b4_16.out)
    clear b4_16
    have b5_17 := Lib.hid (Go.Proofs.YthbbpfgjbidbhaaGreatDoor.tm.TB.fr b5_16.out HF17.out (by omega) (by omega))
    clear b5_16
    have b6_17 := Lib.hid ((HF17.out.cell (p := ⟨W9.heap.size, 0, none⟩) (by simp only; omega) (by simp only; omega)).trans b6_16.out)
    clear b6_16
    have b7_17 := Lib.hid (Go.Proofs.YthbbpfgjbidbhaaGreatDoor.tm.TB.fr b7_16.out HF17.out (by omega) (by omega))
    clear b7_16
    have s4_17 := Lib.hid (s4_16.out.fr HF17.out (by omega) (by omega))
    clear s4_16
    have s7_17 := Lib.hid (s7_16.out.fr HF17.out (by omega) (by omega))
    clear s7_16
    clear b2c0 b2L
    clear b6c0 b6L
    obtain ⟨b3c0, b3c1, b3c2, b3c3, b3c4, b3c5, b3c6, b3c7, b3c8⟩ := b3_17.out
    have b3L : tbs4 < W17.heap.size := by omega
    obtain ⟨b7c0, b7c1, b7c2, b7c3, b7c4, b7c5, b7c6, b7c7, b7c8⟩ := b7_17.out
    have b7L : W9.heap.size + 1 < W17.heap.size := by omega
    go_wp2_with fail
    refine (same_tx qx (by omega) (by omega) ((s7_17.out).r (by omega)) ((s4_17.out).r (by omega)) ((s7_17.out).s (by omega)) ((s4_17.out).s (by omega)) (Nat.le_refl _)).mono ?_
    rintro e W18 ⟨rfl, hb⟩
    have HB18 : Hid (Below w.heap.size w W18) := Lib.hid (HB17.out.trans (hb.mono HB17.out.size))
    have HS18 : Hid (Below W17.heap.size W17 W18) := Lib.hid hb
    have HF18 : Hid (FR 0 0 W17 W18) := Lib.hid (FR.of_below hb)
    have hs18 : W17.heap.size ≤ W18.heap.size := hb.size
    clear hb
    have b0_18 := Lib.hid ((HF18.out.cell (p := ⟨w.heap.size, 0, none⟩) (by simp only; omega) (by simp only; omega)).trans b0_17.out)
    clear b0_17
    have b1_18 := Lib.hid (Go.Proofs.YthbbpfgjbidbhaaGreatDoor.tm.TB.fr b1_17.out HF18.out (by omega) (by omega))
    clear b1_17
    have b2_18 := Lib.hid ((HF18.out.cell (p := ⟨sbs4, 0, none⟩) (by simp only; omega) (by simp only; omega)).trans b2_17.out)
    clear b2_17
    have b3_18 := Lib.hid (Go.Proofs.YthbbpfgjbidbhaaGreatDoor.tm.TB.fr b3_17.out HF18.out (by omega) (by omega))
    clear b3_17
    have b4_18 := Lib.hid ((HF18.out.cell (p := ⟨W5.heap.size, 0, none⟩) (by simp only; omega) (by simp only; omega)).trans b4_17.out)
    clear b4_17
    have b5_18 := Lib.hid (Go.Proofs.YthbbpfgjbidbhaaGreatDoor.tm.TB.fr b5_17.out HF18.out (by omega) (by omega))
    clear b5_17
    have b6_18 := Lib.hid ((HF18.out.cell (p := ⟨W9.heap.size, 0, none⟩) (by simp only; omega) (by simp only; omega)).trans b6_17.out)
    clear b6_17
    have b7_18 := Lib.hid (Go.Proofs.YthbbpfgjbidbhaaGreatDoor.tm.TB.fr b7_17.out HF18.out (by omega) (by omega))
    clear b7_17
    have s4_18 := Lib.hid (s4_17.out.fr HF18.out (by omega) (by omega))
    clear s4_17
    have s7_18 := Lib.hid (s7_17.out.fr HF18.out (by omega) (by omega))
    clear s7_17
    clear b3c0 b3c1 b3c2 b3c3 b3c4 b3c5 b3c6 b3c7 b3c8 b3L
    clear b7c0 b7c1 b7c2 b7c3 b7c4 b7c5 b7c6 b7c7 b7c8 b7L
    have b6c0 := b6_18.out
    have b6L : W9.heap.size < W18.heap.size := by omega
    go_wp2_with fail
    refine (Go.Proofs.YthbbpfgjbidbhaaGreatDoor.cml.mark_js (by omega) HCN.out s7_18.out (by omega)).mono ?_
    rintro e W19 ⟨rfl, hm, hf⟩
    have HF19 : Hid (FR W8.heap.size W9.heap.size W18 W19) := Lib.hid hf
    have HB19 : Hid (Below w.heap.size w W19) := Lib.hid (FR.chain HB18.out hf (by omega))
    have hs19 : W18.heap.size ≤ W19.heap.size := hf.size
    clear hf
    have b0_19 := Lib.hid ((HF19.out.cell (p := ⟨w.heap.size, 0, none⟩) (by simp only; omega) (by simp only; omega)).trans b0_18.out)
    clear b0_18
    have b1_19 := Lib.hid (Go.Proofs.YthbbpfgjbidbhaaGreatDoor.tm.TB.fr b1_18.out HF19.out (by omega) (by omega))
    clear b1_18
    have b2_19 := Lib.hid ((HF19.out.cell (p := ⟨sbs4, 0, none⟩) (by simp only; omega) (by simp only; omega)).trans b2_18.out)
    clear b2_18
    have b3_19 := Lib.hid (Go.Proofs.YthbbpfgjbidbhaaGreatDoor.tm.TB.fr b3_18.out HF19.out (by omega) (by omega))
    clear b3_18
    have b4_19 := Lib.hid ((HF19.out.cell (p := ⟨W5.heap.size, 0, none⟩) (by simp only; omega) (by simp only; omega)).trans b4_18.out)
    clear b4_18
    have b5_19 := Lib.hid (Go.Proofs.YthbbpfgjbidbhaaGreatDoor.tm.TB.fr b5_18.out HF19.out (by omega) (by omega))
    clear b5_18
    have b6_19 := Lib.hid ((HF19.out.cell (p := ⟨W9.heap.size, 0, none⟩) (by simp only; omega) (by simp only; omega)).trans b6_18.out)
    clear b6_18
    have b7_19 := Lib.hid (Go.Proofs.YthbbpfgjbidbhaaGreatDoor.tm.TB.fr b7_18.out HF19.out (by omega) (by omega))
    clear b7_18
    have s4_19 := Lib.hid (s4_18.out.fr HF19.out (by omega) (by omega))
    clear s4_18
    clear s7_18
    have s7a_19 := Lib.hid hm
    clear hm
    obtain ⟨s7ac, hs7ac⟩ : ∃ z : Int, z = 1 + ((cnt qc * 5 : Nat) : Int) := ⟨_, rfl⟩
    rw [← hs7ac]
    have s7at : decide (s7ac < 0) = false := decide_eq_false (by have := HCN.out; omega)
    have s7ab0 : 0 ≤ s7ac := by omega
    have s7ab1 : s7ac ≤ 1099511627776 := by have := HCN.out; omega
    have Hs7aC := Lib.hid hs7ac
    clear hs7ac
    clear b6c0 b6L
    obtain ⟨b7c0, b7c1, b7c2, b7c3, b7c4, b7c5, b7c6, b7c7, b7c8⟩ := b7_19.out
    have b7L : W9.heap.size + 1 < W19.heap.size := by omega
    go_wp2_with fail
    refine (Go.Proofs.YthbbpfgjbidbhaaGreatDoor.cml.mark_jt qx (k0 := s7ac) (by omega) (by omega) (by omega) (by omega) s7a_19.out (by omega)).mono ?_
    rintro e W20 ⟨rfl, hm, hf⟩
    have HF20 : Hid (FR W8.heap.size W9.heap.size W19 W20) := Lib.hid hf
    have HB20 : Hid (Below w.heap.size w W20) := Lib.hid (FR.chain HB19.out hf (by omega))
    have hs20 : W19.heap.size ≤ W20.heap.size := hf.size
    clear hf
    have b0_20 := Lib.hid ((HF20.out.cell (p := ⟨w.heap.size, 0, none⟩) (by simp only; omega) (by simp only; omega)).trans b0_19.out)
    clear b0_19
    have b1_20 := Lib.hid (Go.Proofs.YthbbpfgjbidbhaaGreatDoor.tm.TB.fr b1_19.out HF20.out (by omega) (by omega))
    clear b1_19
    have b2_20 := Lib.hid ((HF20.out.cell (p := ⟨sbs4, 0, none⟩) (by simp only; omega) (by simp only; omega)).trans b2_19.out)
    clear b2_19
    have b3_20 := Lib.hid (Go.Proofs.YthbbpfgjbidbhaaGreatDoor.tm.TB.fr b3_19.out HF20.out (by omega) (by omega))
    clear b3_19
    have b4_20 := Lib.hid ((HF20.out.cell (p := ⟨W5.heap.size, 0, none⟩) (by simp only; omega) (by simp only; omega)).trans b4_19.out)
    clear b4_19
    have b5_20 := Lib.hid (Go.Proofs.YthbbpfgjbidbhaaGreatDoor.tm.TB.fr b5_19.out HF20.out (by omega) (by omega))
    clear b5_19
    have b6_20 := Lib.hid ((HF20.out.cell (p := ⟨W9.heap.size, 0, none⟩) (by simp only; omega) (by simp only; omega)).trans b6_19.out)
    clear b6_19
    have b7_20 := Lib.hid (Go.Proofs.YthbbpfgjbidbhaaGreatDoor.tm.TB.fr b7_19.out HF20.out (by omega) (by omega))
    clear b7_19
    have s4_20 := Lib.hid (s4_19.out.fr HF20.out (by omega) (by omega))
    clear s4_19
    clear s7a_19
    have s7ab_20 := Lib.hid hm
    clear hm
    obtain ⟨s7abc, hs7abc⟩ : ∃ z : Int, z = s7ac + ((n1 * 2 : Nat) : Int) + ((p1 * 2 : Nat) : Int) := ⟨_, rfl⟩
    rw [← hs7abc]
    have s7abt : decide (s7abc < 0) = false := decide_eq_false (by have := HCN.out; omega)
    have s7abb0 : 0 ≤ s7abc := by omega
    have s7abb1 : s7abc ≤ 1125899906842624 := by have := HCN.out; omega
    have Hs7abC := Lib.hid hs7abc
    clear hs7abc
    clear b7c0 b7c1 b7c2 b7c3 b7c4 b7c5 b7c6 b7c7 b7c8 b7L
    have b6c0 := b6_20.out
    have b6L : W9.heap.size < W20.heap.size := by omega
    go_wp2_with fail
    refine (Go.Proofs.YthbbpfgjbidbhaaGreatDoor.cml.held_js (by omega) HCN.out s7ab_20.out (by omega)).mono ?_
    rintro e W21 ⟨rfl, hb⟩
    rw [← Hs7aC.out]
    have HB21 : Hid (Below w.heap.size w W21) := Lib.hid (HB20.out.trans (hb.mono HB20.out.size))
    have HS21 : Hid (Below W20.heap.size W20 W21) := Lib.hid hb
    have HF21 : Hid (FR 0 0 W20 W21) := Lib.hid (FR.of_below hb)
    have hs21 : W20.heap.size ≤ W21.heap.size := hb.size
    clear hb
    have b0_21 := Lib.hid ((HF21.out.cell (p := ⟨w.heap.size, 0, none⟩) (by simp only; omega) (by simp only; omega)).trans b0_20.out)
    clear b0_20
    have b1_21 := Lib.hid (Go.Proofs.YthbbpfgjbidbhaaGreatDoor.tm.TB.fr b1_20.out HF21.out (by omega) (by omega))
    clear b1_20
    have b2_21 := Lib.hid ((HF21.out.cell (p := ⟨sbs4, 0, none⟩) (by simp only; omega) (by simp only; omega)).trans b2_20.out)
    clear b2_20
    have b3_21 := Lib.hid (Go.Proofs.YthbbpfgjbidbhaaGreatDoor.tm.TB.fr b3_20.out HF21.out (by omega) (by omega))
    clear b3_20
    have b4_21 := Lib.hid ((HF21.out.cell (p := ⟨W5.heap.size, 0, none⟩) (by simp only; omega) (by simp only; omega)).trans b4_20.out)
    clear b4_20
    have b5_21 := Lib.hid (Go.Proofs.YthbbpfgjbidbhaaGreatDoor.tm.TB.fr b5_20.out HF21.out (by omega) (by omega))
    clear b5_20
    have b6_21 := Lib.hid ((HF21.out.cell (p := ⟨W9.heap.size, 0, none⟩) (by simp only; omega) (by simp only; omega)).trans b6_20.out)
    clear b6_20
    have b7_21 := Lib.hid (Go.Proofs.YthbbpfgjbidbhaaGreatDoor.tm.TB.fr b7_20.out HF21.out (by omega) (by omega))
    clear b7_20
    have s4_21 := Lib.hid (s4_20.out.fr HF21.out (by omega) (by omega))
    clear s4_20
    have s7ab_21 := Lib.hid (s7ab_20.out.fr HF21.out (by omega) (by omega))
    clear s7ab_20
    clear b6c0 b6L
    obtain ⟨b7c0, b7c1, b7c2, b7c3, b7c4, b7c5, b7c6, b7c7, b7c8⟩ := b7_21.out
    have b7L : W9.heap.size + 1 < W21.heap.size := by omega
    go_wp2_with fail
    refine (Go.Proofs.YthbbpfgjbidbhaaGreatDoor.cml.held_jt qx (k0 := s7ac) (by omega) (by omega) (by omega) (by omega) s7ab_21.out (by omega)).mono ?_
    rintro e W22 ⟨rfl, hb⟩
    rw [← Hs7abC.out]
    have HB22 : Hid (Below w.heap.size w W22) := Lib.hid (HB21.out.trans (hb.mono HB21.out.size))
    have HS22 : Hid (Below W21.heap.size W21 W22) := Lib.hid hb
    have HF22 : Hid (FR 0 0 W21 W22) := Lib.hid (FR.of_below hb)
    have hs22 : W21.heap.size ≤ W22.heap.size := hb.size
    clear hb
    have b0_22 := Lib.hid ((HF22.out.cell (p := ⟨w.heap.size, 0, none⟩) (by simp only; omega) (by simp only; omega)).trans b0_21.out)
    clear b0_21
    have b1_22 := Lib.hid (Go.Proofs.YthbbpfgjbidbhaaGreatDoor.tm.TB.fr b1_21.out HF22.out (by omega) (by omega))
    clear b1_21
    have b2_22 := Lib.hid ((HF22.out.cell (p := ⟨sbs4, 0, none⟩) (by simp only; omega) (by simp only; omega)).trans b2_21.out)
    clear b2_21
    have b3_22 := Lib.hid (Go.Proofs.YthbbpfgjbidbhaaGreatDoor.tm.TB.fr b3_21.out HF22.out (by omega) (by omega))
    clear b3_21
    have b4_22 := Lib.hid ((HF22.out.cell (p := ⟨W5.heap.size, 0, none⟩) (by simp only; omega) (by simp only; omega)).trans b4_21.out)
    clear b4_21
    have b5_22 := Lib.hid (Go.Proofs.YthbbpfgjbidbhaaGreatDoor.tm.TB.fr b5_21.out HF22.out (by omega) (by omega))
    clear b5_21
    have b6_22 := Lib.hid ((HF22.out.cell (p := ⟨W9.heap.size, 0, none⟩) (by simp only; omega) (by simp only; omega)).trans b6_21.out)
    clear b6_21
    have b7_22 := Lib.hid (Go.Proofs.YthbbpfgjbidbhaaGreatDoor.tm.TB.fr b7_21.out HF22.out (by omega) (by omega))
    clear b7_21
    have s4_22 := Lib.hid (s4_21.out.fr HF22.out (by omega) (by omega))
    clear s4_21
    have s7ab_22 := Lib.hid (s7ab_21.out.fr HF22.out (by omega) (by omega))
    clear s7ab_21
    clear b7c0 b7c1 b7c2 b7c3 b7c4 b7c5 b7c6 b7c7 b7c8 b7L
    go_wp2_with fail
    go_cut [19, 20, 21] from 123 to 132 (fun p q b wx => ∃ (sb tb lo hi : Nat) (A : Option Addr) (c : Nat) (A2 : Option Addr) (c2 : Nat) (B2 : Option Addr) (d2 : Nat), p = .pointer (some ⟨sb, 0, none⟩) ∧ q = .pointer (some ⟨tb, 0, none⟩) ∧ b = .bool qb ∧ RgL W22 wx sb tb lo hi A n0 c qc qx A2 n1 c2 R1 B2 p1 d2 Q1)
    case first =>
      have hB0 := Below.refl W22.heap.size W22
      have hbk0 : Below W22.heap.size W22 W22.drew := (Below.refl _ _).drew
      have hbw0 := HB22.out.trans (hbk0.mono HB22.out.size)
      have hS0 : SL w A0 n0 c0 x1 A1 n1 c1 B1 p1 d1 W22 := ⟨b0_22.out, b1_22.out⟩
      have hv0 : w.heap.size + 2 ≤ W22.heap.size := by omega
      have b0c0 := b0_22.out
      obtain ⟨b1c0, b1c1, b1c2, b1c3, b1c4, b1c5, b1c6, b1c7, b1c8⟩ := b1_22.out
      go_region_held3 (fun w' => w'.cell? ⟨w.heap.size, 0, none⟩ = some (.slice A0 n0 c0) ∧ w'.cell? ⟨w.heap.size + 1, 0, none⟩ = some (.int .i64 x1.i) ∧ w'.cell? ⟨w.heap.size + 1, 1, none⟩ = some (.int .i64 x1.s) ∧ w'.cell? ⟨w.heap.size + 1, 2, none⟩ = some (.int .i64 x1.t) ∧ w'.cell? ⟨w.heap.size + 1, 3, none⟩ = some (.int .i64 x1.b) ∧ w'.cell? ⟨w.heap.size + 1, 4, none⟩ = some (.int .i64 x1.l) ∧ w'.cell? ⟨w.heap.size + 1, 5, none⟩ = some (.int .i64 x1.h) ∧ w'.cell? ⟨w.heap.size + 1, 6, none⟩ = some (.int .i64 x1.c) ∧ w'.cell? ⟨w.heap.size + 1, 7, none⟩ = some (.slice A1 n1 c1) ∧ w'.cell? ⟨w.heap.size + 1, 8, none⟩ = some (.slice B1 p1 d1)) ((change SL w A0 n0 c0 x1 A1 n1 c1 B1 p1 d1 _; (repeat first | with_reducible assumption | with_reducible refine keepA (by first | omega | (simp; omega)) ?_ | with_reducible refine keepS (by first | (simp only; omega) | (simp; omega)) ?_ | with_reducible refine keepD ?_))) (first | (go_at_call 7; (with_reducible refine (copy_store (by omega) (by omega) (HR0.out.below hbw0) (hbw0).size).mono ?_); rintro e Wa1 ⟨Ns10, rfl, hN, hv, hb⟩; clear hN; have hbk1 := hbk0.trans (hb.mono hbk0.size); have hbw1 := HB22.out.trans (hbk1.mono HB22.out.size); have hv1 : w.heap.size + 2 ≤ Wa1.heap.size := Nat.le_trans hv0 hbk1.size; (try have zs1 := zs1.call hb); (try have zt1 := zt1.call hb); have hh1 := hb.size; (try simp only [World.size_alloc, World.size_drew] at hh1); have s10a1 := hv; have hS1 : SL w A0 n0 c0 x1 A1 n1 c1 B1 p1 d1 Wa1 := keepC hb (by first | omega | (simp <;> omega)) (keepD (hS0)); clear hb hv) | (go_at_call 7; have hbk0S : Below W22.heap.size W22 ((W22.alloc (.cells #[.slice none 0 0] 33)).drew) := (bel_alloc hB0 (.cells #[.slice none 0 0] 33)).drew; have hbw0S := HB22.out.trans (hbk0S.mono HB22.out.size); have zs1 := (SBx.zero (u := .slice none 0 0) (t := 33) hB0 rfl).drew; (with_reducible refine (copy_store (by omega) (by omega) (HR0.out.below hbw0S) (hbw0S).size).mono ?_); rintro e Wa1 ⟨Ns10, rfl, hN, hv, hb⟩; clear hN; have hbk1 := hbk0S.trans (hb.mono hbk0S.size); have hbw1 := HB22.out.trans (hbk1.mono HB22.out.size); have hv1 : w.heap.size + 2 ≤ Wa1.heap.size := Nat.le_trans hv0 hbk1.size; (try have zs1 := zs1.call hb); (try have zt1 := zt1.call hb); have hh1 := hb.size; (try simp only [World.size_alloc, World.size_drew] at hh1); have s10a1 := hv; have hS1 : SL w A0 n0 c0 x1 A1 n1 c1 B1 p1 d1 Wa1 := keepC hb (by first | omega | (simp <;> omega)) (keepD (keepA (by first | omega | (simp <;> omega)) (hS0))); clear hb hv) | (go_at_call 7; have hbk0T : Below W22.heap.size W22 ((W22.alloc (.cells #[.int .i64 0, .int .i64 0, .int .i64 0, .int .i64 0, .int .i64 0, .int .i64 0, .int .i64 0, .slice none 0 0, .slice none 0 0] 37)).drew) := (bel_alloc hB0 (.cells #[.int .i64 0, .int .i64 0, .int .i64 0, .int .i64 0, .int .i64 0, .int .i64 0, .int .i64 0, .slice none 0 0, .slice none 0 0] 37)).drew; have hbw0T := HB22.out.trans (hbk0T.mono HB22.out.size); have zt1 := (TBx.zero hB0 rfl).drew; (with_reducible refine (copy_store (by omega) (by omega) (HR0.out.below hbw0T) (hbw0T).size).mono ?_); rintro e Wa1 ⟨Ns10, rfl, hN, hv, hb⟩; clear hN; have hbk1 := hbk0T.trans (hb.mono hbk0T.size); have hbw1 := HB22.out.trans (hbk1.mono HB22.out.size); have hv1 : w.heap.size + 2 ≤ Wa1.heap.size := Nat.le_trans hv0 hbk1.size; (try have zs1 := zs1.call hb); (try have zt1 := zt1.call hb); have hh1 := hb.size; (try simp only [World.size_alloc, World.size_drew] at hh1); have s10a1 := hv; have hS1 : SL w A0 n0 c0 x1 A1 n1 c1 B1 p1 d1 Wa1 := keepC hb (by first | omega | (simp <;> omega)) (keepD (keepA (by first | omega | (simp <;> omega)) (hS0))); clear hb hv) | (go_at_call 7; have hbk0ST : Below W22.heap.size W22 (((W22.alloc (.cells #[.slice none 0 0] 33)).alloc (.cells #[.int .i64 0, .int .i64 0, .int .i64 0, .int .i64 0, .int .i64 0, .int .i64 0, .int .i64 0, .slice none 0 0, .slice none 0 0] 37)).drew) := (bel_alloc (bel_alloc hB0 (.cells #[.slice none 0 0] 33)) (.cells #[.int .i64 0, .int .i64 0, .int .i64 0, .int .i64 0, .int .i64 0, .int .i64 0, .int .i64 0, .slice none 0 0, .slice none 0 0] 37)).drew; have hbw0ST := HB22.out.trans (hbk0ST.mono HB22.out.size); have zs1 := ((SBx.zero (u := .slice none 0 0) (t := 33) hB0 rfl).alloc (.cells #[.int .i64 0, .int .i64 0, .int .i64 0, .int .i64 0, .int .i64 0, .int .i64 0, .int .i64 0, .slice none 0 0, .slice none 0 0] 37)).drew; have zt1 := (TBx.zero (b := W22.heap.size + 1) (bel_alloc hB0 (.cells #[.slice none 0 0] 33)) (by simp)).drew; (with_reducible refine (copy_store (by omega) (by omega) (HR0.out.below hbw0ST) (hbw0ST).size).mono ?_); rintro e Wa1 ⟨Ns10, rfl, hN, hv, hb⟩; clear hN; have hbk1 := hbk0ST.trans (hb.mono hbk0ST.size); have hbw1 := HB22.out.trans (hbk1.mono HB22.out.size); have hv1 : w.heap.size + 2 ≤ Wa1.heap.size := Nat.le_trans hv0 hbk1.size; (try have zs1 := zs1.call hb); (try have zt1 := zt1.call hb); have hh1 := hb.size; (try simp only [World.size_alloc, World.size_drew] at hh1); have s10a1 := hv; have hS1 : SL w A0 n0 c0 x1 A1 n1 c1 B1 p1 d1 Wa1 := keepC hb (by first | omega | (simp <;> omega)) (keepD (keepA (by first | omega | (simp <;> omega)) (keepA (by first | omega | (simp <;> omega)) (hS0)))); clear hb hv) | (go_at_call 7; have hbk0TS : Below W22.heap.size W22 (((W22.alloc (.cells #[.int .i64 0, .int .i64 0, .int .i64 0, .int .i64 0, .int .i64 0, .int .i64 0, .int .i64 0, .slice none 0 0, .slice none 0 0] 37)).alloc (.cells #[.slice none 0 0] 33)).drew) := (bel_alloc (bel_alloc hB0 (.cells #[.int .i64 0, .int .i64 0, .int .i64 0, .int .i64 0, .int .i64 0, .int .i64 0, .int .i64 0, .slice none 0 0, .slice none 0 0] 37)) (.cells #[.slice none 0 0] 33)).drew; have hbw0TS := HB22.out.trans (hbk0TS.mono HB22.out.size); have zt1 := ((TBx.zero hB0 rfl).alloc (.cells #[.slice none 0 0] 33)).drew; have zs1 := (SBx.zero (u := .slice none 0 0) (t := 33) (b := W22.heap.size + 1) (bel_alloc hB0 (.cells #[.int .i64 0, .int .i64 0, .int .i64 0, .int .i64 0, .int .i64 0, .int .i64 0, .int .i64 0, .slice none 0 0, .slice none 0 0] 37)) (by simp)).drew; (with_reducible refine (copy_store (by omega) (by omega) (HR0.out.below hbw0TS) (hbw0TS).size).mono ?_); rintro e Wa1 ⟨Ns10, rfl, hN, hv, hb⟩; clear hN; have hbk1 := hbk0TS.trans (hb.mono hbk0TS.size); have hbw1 := HB22.out.trans (hbk1.mono HB22.out.size); have hv1 : w.heap.size + 2 ≤ Wa1.heap.size := Nat.le_trans hv0 hbk1.size; (try have zs1 := zs1.call hb); (try have zt1 := zt1.call hb); have hh1 := hb.size; (try simp only [World.size_alloc, World.size_drew] at hh1); have s10a1 := hv; have hS1 : SL w A0 n0 c0 x1 A1 n1 c1 B1 p1 d1 Wa1 := keepC hb (by first | omega | (simp <;> omega)) (keepD (keepA (by first | omega | (simp <;> omega)) (keepA (by first | omega | (simp <;> omega)) (hS0)))); clear hb hv) | (go_at_call 8; (with_reducible refine (Go.Proofs.YthbbpfgjbidbhaaGreatDoor.tx.copied_tx x1 (by omega) (by omega) (H1.out.below hbw1) (G1.out.below hbw1) (hbw1).size).mono ?_); rintro e Wa2 ⟨Ns11, Ms11, rfl, hv, hu, hb⟩; have hbk2 := hbk1.trans (hb.mono hbk1.size); have hbw2 := HB22.out.trans (hbk2.mono HB22.out.size); have hv2 : w.heap.size + 2 ≤ Wa2.heap.size := Nat.le_trans hv0 hbk2.size; (try have zs1 := zs1.call hb); (try have zt1 := zt1.call hb); (try have zs2 := zs2.call hb); (try have zt2 := zt2.call hb); have hh2 := hb.size; (try simp only [World.size_alloc, World.size_drew] at hh2); have s10a2 := (s10a1.below hb).more hb.size; have s11ra2 := hv; have s11wa2 := hu; have hS2 : SL w A0 n0 c0 x1 A1 n1 c1 B1 p1 d1 Wa2 := keepC hb (by first | omega | (simp <;> omega)) (hS1); clear hb hv hu) | (go_at_call 8; have hbk1S : Below W22.heap.size W22 ((Wa1.alloc (.cells #[.slice none 0 0] 33))) := (bel_alloc hbk1 (.cells #[.slice none 0 0] 33)); have hbw1S := HB22.out.trans (hbk1S.mono HB22.out.size); have hnn : Below Wa1.heap.size Wa1 ((Wa1.alloc (.cells #[.slice none 0 0] 33))) := new1 Wa1 (.cells #[.slice none 0 0] 33); have s10a1S := (s10a1.below hnn).more hnn.size; (try have zs1 := zs1.call hnn); (try have zt1 := zt1.call hnn); have zs2 := (SBx.zero (u := .slice none 0 0) (t := 33) hbk1 rfl); (with_reducible refine (Go.Proofs.YthbbpfgjbidbhaaGreatDoor.tx.copied_tx x1 (by omega) (by omega) (H1.out.below hbw1S) (G1.out.below hbw1S) (hbw1S).size).mono ?_); rintro e Wa2 ⟨Ns11, Ms11, rfl, hv, hu, hb⟩; have hbk2 := hbk1S.trans (hb.mono hbk1S.size); have hbw2 := HB22.out.trans (hbk2.mono HB22.out.size); have hv2 : w.heap.size + 2 ≤ Wa2.heap.size := Nat.le_trans hv0 hbk2.size; (try have zs1 := zs1.call hb); (try have zt1 := zt1.call hb); (try have zs2 := zs2.call hb); (try have zt2 := zt2.call hb); have hh2 := hb.size; (try simp only [World.size_alloc, World.size_drew] at hh2); have s10a2 := (s10a1S.below hb).more hb.size; have s11ra2 := hv; have s11wa2 := hu; have hS2 : SL w A0 n0 c0 x1 A1 n1 c1 B1 p1 d1 Wa2 := keepC hb (by first | omega | (simp <;> omega)) (keepA (by first | omega | (simp <;> omega)) (hS1)); clear hb hv hu) | (go_at_call 8; have hbk1T : Below W22.heap.size W22 ((Wa1.alloc (.cells #[.int .i64 0, .int .i64 0, .int .i64 0, .int .i64 0, .int .i64 0, .int .i64 0, .int .i64 0, .slice none 0 0, .slice none 0 0] 37))) := (bel_alloc hbk1 (.cells #[.int .i64 0, .int .i64 0, .int .i64 0, .int .i64 0, .int .i64 0, .int .i64 0, .int .i64 0, .slice none 0 0, .slice none 0 0] 37)); have hbw1T := HB22.out.trans (hbk1T.mono HB22.out.size); have hnn : Below Wa1.heap.size Wa1 ((Wa1.alloc (.cells #[.int .i64 0, .int .i64 0, .int .i64 0, .int .i64 0, .int .i64 0, .int .i64 0, .int .i64 0, .slice none 0 0, .slice none 0 0] 37))) := new1 Wa1 (.cells #[.int .i64 0, .int .i64 0, .int .i64 0, .int .i64 0, .int .i64 0, .int .i64 0, .int .i64 0, .slice none 0 0, .slice none 0 0] 37); have s10a1T := (s10a1.below hnn).more hnn.size; (try have zs1 := zs1.call hnn); (try have zt1 := zt1.call hnn); have zt2 := (TBx.zero hbk1 rfl); (with_reducible refine (Go.Proofs.YthbbpfgjbidbhaaGreatDoor.tx.copied_tx x1 (by omega) (by omega) (H1.out.below hbw1T) (G1.out.below hbw1T) (hbw1T).size).mono ?_); rintro e Wa2 ⟨Ns11, Ms11, rfl, hv, hu, hb⟩; have hbk2 := hbk1T.trans (hb.mono hbk1T.size); have hbw2 := HB22.out.trans (hbk2.mono HB22.out.size); have hv2 : w.heap.size + 2 ≤ Wa2.heap.size := Nat.le_trans hv0 hbk2.size; (try have zs1 := zs1.call hb); (try have zt1 := zt1.call hb); (try have zs2 := zs2.call hb); (try have zt2 := zt2.call hb); have hh2 := hb.size; (try simp only [World.size_alloc, World.size_drew] at hh2); have s10a2 := (s10a1T.below hb).more hb.size; have s11ra2 := hv; have s11wa2 := hu; have hS2 : SL w A0 n0 c0 x1 A1 n1 c1 B1 p1 d1 Wa2 := keepC hb (by first | omega | (simp <;> omega)) (keepA (by first | omega | (simp <;> omega)) (hS1)); clear hb hv hu) | (go_at_call 8; have hbk1ST : Below W22.heap.size W22 (((Wa1.alloc (.cells #[.slice none 0 0] 33)).alloc (.cells #[.int .i64 0, .int .i64 0, .int .i64 0, .int .i64 0, .int .i64 0, .int .i64 0, .int .i64 0, .slice none 0 0, .slice none 0 0] 37))) := (bel_alloc (bel_alloc hbk1 (.cells #[.slice none 0 0] 33)) (.cells #[.int .i64 0, .int .i64 0, .int .i64 0, .int .i64 0, .int .i64 0, .int .i64 0, .int .i64 0, .slice none 0 0, .slice none 0 0] 37)); have hbw1ST := HB22.out.trans (hbk1ST.mono HB22.out.size); have hnn : Below Wa1.heap.size Wa1 (((Wa1.alloc (.cells #[.slice none 0 0] 33)).alloc (.cells #[.int .i64 0, .int .i64 0, .int .i64 0, .int .i64 0, .int .i64 0, .int .i64 0, .int .i64 0, .slice none 0 0, .slice none 0 0] 37))) := bel_alloc (new1 Wa1 (.cells #[.slice none 0 0] 33)) (.cells #[.int .i64 0, .int .i64 0, .int .i64 0, .int .i64 0, .int .i64 0, .int .i64 0, .int .i64 0, .slice none 0 0, .slice none 0 0] 37); have s10a1ST := (s10a1.below hnn).more hnn.size; (try have zs1 := zs1.call hnn); (try have zt1 := zt1.call hnn); have zs2 := ((SBx.zero (u := .slice none 0 0) (t := 33) hbk1 rfl).alloc (.cells #[.int .i64 0, .int .i64 0, .int .i64 0, .int .i64 0, .int .i64 0, .int .i64 0, .int .i64 0, .slice none 0 0, .slice none 0 0] 37)); have zt2 := (TBx.zero (b := Wa1.heap.size + 1) (bel_alloc hbk1 (.cells #[.slice none 0 0] 33)) (by simp)); (with_reducible refine (Go.Proofs.YthbbpfgjbidbhaaGreatDoor.tx.copied_tx x1 (by omega) (by omega) (H1.out.below hbw1ST) (G1.out.below hbw1ST) (hbw1ST).size).mono ?_); rintro e Wa2 ⟨Ns11, Ms11, rfl, hv, hu, hb⟩; have hbk2 := hbk1ST.trans (hb.mono hbk1ST.size); have hbw2 := HB22.out.trans (hbk2.mono HB22.out.size); have hv2 : w.heap.size + 2 ≤ Wa2.heap.size := Nat.le_trans hv0 hbk2.size; (try have zs1 := zs1.call hb); (try have zt1 := zt1.call hb); (try have zs2 := zs2.call hb); (try have zt2 := zt2.call hb); have hh2 := hb.size; (try simp only [World.size_alloc, World.size_drew] at hh2); have s10a2 := (s10a1ST.below hb).more hb.size; have s11ra2 := hv; have s11wa2 := hu; have hS2 : SL w A0 n0 c0 x1 A1 n1 c1 B1 p1 d1 Wa2 := keepC hb (by first | omega | (simp <;> omega)) (keepA (by first | omega | (simp <;> omega)) (keepA (by first | omega | (simp <;> omega)) (hS1))); clear hb hv hu) | (go_at_call 8; have hbk1TS : Below W22.heap.size W22 (((Wa1.alloc (.cells #[.int .i64 0, .int .i64 0, .int .i64 0, .int .i64 0, .int .i64 0, .int .i64 0, .int .i64 0, .slice none 0 0, .slice none 0 0] 37)).alloc (.cells #[.slice none 0 0] 33))) := (bel_alloc (bel_alloc hbk1 (.cells #[.int .i64 0, .int .i64 0, .int .i64 0, .int .i64 0, .int .i64 0, .int .i64 0, .int .i64 0, .slice none 0 0, .slice none 0 0] 37)) (.cells #[.slice none 0 0] 33)); have hbw1TS := HB22.out.trans (hbk1TS.mono HB22.out.size); have hnn : Below Wa1.heap.size Wa1 (((Wa1.alloc (.cells #[.int .i64 0, .int .i64 0, .int .i64 0, .int .i64 0, .int .i64 0, .int .i64 0, .int .i64 0, .slice none 0 0, .slice none 0 0] 37)).alloc (.cells #[.slice none 0 0] 33))) := bel_alloc (new1 Wa1 (.cells #[.int .i64 0, .int .i64 0, .int .i64 0, .int .i64 0, .int .i64 0, .int .i64 0, .int .i64 0, .slice none 0 0, .slice none 0 0] 37)) (.cells #[.slice none 0 0] 33); have s10a1TS := (s10a1.below hnn).more hnn.size; (try have zs1 := zs1.call hnn); (try have zt1 := zt1.call hnn); have zt2 := ((TBx.zero hbk1 rfl).alloc (.cells #[.slice none 0 0] 33)); have zs2 := (SBx.zero (u := .slice none 0 0) (t := 33) (b := Wa1.heap.size + 1) (bel_alloc hbk1 (.cells #[.int .i64 0, .int .i64 0, .int .i64 0, .int .i64 0, .int .i64 0, .int .i64 0, .int .i64 0, .slice none 0 0, .slice none 0 0] 37)) (by simp)); (with_reducible refine (Go.Proofs.YthbbpfgjbidbhaaGreatDoor.tx.copied_tx x1 (by omega) (by omega) (H1.out.below hbw1TS) (G1.out.below hbw1TS) (hbw1TS).size).mono ?_); rintro e Wa2 ⟨Ns11, Ms11, rfl, hv, hu, hb⟩; have hbk2 := hbk1TS.trans (hb.mono hbk1TS.size); have hbw2 := HB22.out.trans (hbk2.mono HB22.out.size); have hv2 : w.heap.size + 2 ≤ Wa2.heap.size := Nat.le_trans hv0 hbk2.size; (try have zs1 := zs1.call hb); (try have zt1 := zt1.call hb); (try have zs2 := zs2.call hb); (try have zt2 := zt2.call hb); have hh2 := hb.size; (try simp only [World.size_alloc, World.size_drew] at hh2); have s10a2 := (s10a1TS.below hb).more hb.size; have s11ra2 := hv; have s11wa2 := hu; have hS2 : SL w A0 n0 c0 x1 A1 n1 c1 B1 p1 d1 Wa2 := keepC hb (by first | omega | (simp <;> omega)) (keepA (by first | omega | (simp <;> omega)) (keepA (by first | omega | (simp <;> omega)) (hS1))); clear hb hv hu) | (go_at_call 9; (with_reducible refine (Go.Proofs.YthbbpfgjbidbhaaGreatDoor.cmi.impl_commit x1 a2 (by omega) HC.out (by omega) (by omega) s11ra2 s11wa2 s10a2 (Nat.le_refl _) (HF.out.below (hbw2))).mono ?_); rintro e Wa3 ⟨As12, cs12, Es12, fs12, Bs12, ds12, he, ho, hot, hb⟩; rw [HQX.out, HQB.out] at he; rw [HQC.out] at ho; subst he; have hjo := Go.Proofs.YthbbpfgjbidbhaaGreatDoor.cml.JO.of ho hot hlen1 hlem1; clear ho hot; have hbk3 := hbk2.trans (hb.mono hbk2.size); have hbw3 := HB22.out.trans (hbk3.mono HB22.out.size); have hv3 : w.heap.size + 2 ≤ Wa3.heap.size := Nat.le_trans hv0 hbk3.size; (try have zs1 := zs1.call hb); (try have zt1 := zt1.call hb); (try have zs2 := zs2.call hb); (try have zt2 := zt2.call hb); (try have zs3 := zs3.call hb); (try have zt3 := zt3.call hb); obtain ⟨lo3, hlo3⟩ : ∃ k, k = (Wa2).heap.size := ⟨_, rfl⟩; rw [← hlo3] at hjo; (try simp only [World.size_alloc, World.size_drew] at hlo3); have hlw := hbk2.size; (try simp only [World.size_alloc, World.size_drew] at hlw); have hh3 := hb.size; (try simp only [World.size_alloc, World.size_drew] at hh3); (try (have lts1 := zs1.lt; have los1 := zs1.lo; have cs1 := zs1.cell; have fs1 := zs1.free)); (try (have ltt1 := zt1.bx.lt; have lot1 := zt1.lo; obtain ⟨ct10, ct11, ct12, ct13, ct14, ct15, ct16, ct17, ct18⟩ := zt1.bx.tb; have ft10 := zt1.bx.fz 0; have ft11 := zt1.bx.fz 1; have ft12 := zt1.bx.fz 2; have ft13 := zt1.bx.fz 3; have ft14 := zt1.bx.fz 4; have ft15 := zt1.bx.fz 5; have ft16 := zt1.bx.fz 6; have ft17 := zt1.bx.fz 7; have ft18 := zt1.bx.fz 8)); (try (have lts2 := zs2.lt; have los2 := zs2.lo; have cs2 := zs2.cell; have fs2 := zs2.free)); (try (have ltt2 := zt2.bx.lt; have lot2 := zt2.lo; obtain ⟨ct20, ct21, ct22, ct23, ct24, ct25, ct26, ct27, ct28⟩ := zt2.bx.tb; have ft20 := zt2.bx.fz 0; have ft21 := zt2.bx.fz 1; have ft22 := zt2.bx.fz 2; have ft23 := zt2.bx.fz 3; have ft24 := zt2.bx.fz 4; have ft25 := zt2.bx.fz 5; have ft26 := zt2.bx.fz 6; have ft27 := zt2.bx.fz 7; have ft28 := zt2.bx.fz 8)); (try (have lts3 := zs3.lt; have los3 := zs3.lo; have cs3 := zs3.cell; have fs3 := zs3.free)); (try (have ltt3 := zt3.bx.lt; have lot3 := zt3.lo; obtain ⟨ct30, ct31, ct32, ct33, ct34, ct35, ct36, ct37, ct38⟩ := zt3.bx.tb; have ft30 := zt3.bx.fz 0; have ft31 := zt3.bx.fz 1; have ft32 := zt3.bx.fz 2; have ft33 := zt3.bx.fz 3; have ft34 := zt3.bx.fz 4; have ft35 := zt3.bx.fz 5; have ft36 := zt3.bx.fz 6; have ft37 := zt3.bx.fz 7; have ft38 := zt3.bx.fz 8)); have s10a3 := (s10a2.below hb).more hb.size; have s11ra3 := (s11ra2.below hb).more hb.size; have s11wa3 := (s11wa2.below hb).more hb.size; have hS3 : SL w A0 n0 c0 x1 A1 n1 c1 B1 p1 d1 Wa3 := keepC hb (by first | omega | (simp <;> omega)) (hS2); clear hb) | (go_at_call 9; have hbk2S : Below W22.heap.size W22 ((Wa2.alloc (.cells #[.slice none 0 0] 33))) := (bel_alloc hbk2 (.cells #[.slice none 0 0] 33)); have hbw2S := HB22.out.trans (hbk2S.mono HB22.out.size); have hnn : Below Wa2.heap.size Wa2 ((Wa2.alloc (.cells #[.slice none 0 0] 33))) := new1 Wa2 (.cells #[.slice none 0 0] 33); have s10a2S := (s10a2.below hnn).more hnn.size; have s11ra2S := (s11ra2.below hnn).more hnn.size; have s11wa2S := (s11wa2.below hnn).more hnn.size; (try have zs1 := zs1.call hnn); (try have zt1 := zt1.call hnn); (try have zs2 := zs2.call hnn); (try have zt2 := zt2.call hnn); have zs3 := (SBx.zero (u := .slice none 0 0) (t := 33) hbk2 rfl); (with_reducible refine (Go.Proofs.YthbbpfgjbidbhaaGreatDoor.cmi.impl_commit x1 a2 (by omega) HC.out (by omega) (by omega) s11ra2S s11wa2S s10a2S (Nat.le_refl _) (HF.out.below (hbw2S))).mono ?_); rintro e Wa3 ⟨As12, cs12, Es12, fs12, Bs12, ds12, he, ho, hot, hb⟩; rw [HQX.out, HQB.out] at he; rw [HQC.out] at ho; subst he; have hjo := Go.Proofs.YthbbpfgjbidbhaaGreatDoor.cml.JO.of ho hot hlen1 hlem1; clear ho hot; have hbk3 := hbk2S.trans (hb.mono hbk2S.size); have hbw3 := HB22.out.trans (hbk3.mono HB22.out.size); have hv3 : w.heap.size + 2 ≤ Wa3.heap.size := Nat.le_trans hv0 hbk3.size; (try have zs1 := zs1.call hb); (try have zt1 := zt1.call hb); (try have zs2 := zs2.call hb); (try have zt2 := zt2.call hb); (try have zs3 := zs3.call hb); (try have zt3 := zt3.call hb); obtain ⟨lo3, hlo3⟩ : ∃ k, k = ((Wa2.alloc (.cells #[.slice none 0 0] 33))).heap.size := ⟨_, rfl⟩; rw [← hlo3] at hjo; (try simp only [World.size_alloc, World.size_drew] at hlo3); have hlw := hbk2S.size; (try simp only [World.size_alloc, World.size_drew] at hlw); have hh3 := hb.size; (try simp only [World.size_alloc, World.size_drew] at hh3); (try (have lts1 := zs1.lt; have los1 := zs1.lo; have cs1 := zs1.cell; have fs1 := zs1.free)); (try (have ltt1 := zt1.bx.lt; have lot1 := zt1.lo; obtain ⟨ct10, ct11, ct12, ct13, ct14, ct15, ct16, ct17, ct18⟩ := zt1.bx.tb; have ft10 := zt1.bx.fz 0; have ft11 := zt1.bx.fz 1; have ft12 := zt1.bx.fz 2; have ft13 := zt1.bx.fz 3; have ft14 := zt1.bx.fz 4; have ft15 := zt1.bx.fz 5; have ft16 := zt1.bx.fz 6; have ft17 := zt1.bx.fz 7; have ft18 := zt1.bx.fz 8)); (try (have lts2 := zs2.lt; have los2 := zs2.lo; have cs2 := zs2.cell; have fs2 := zs2.free)); (try (have ltt2 := zt2.bx.lt; have lot2 := zt2.lo; obtain ⟨ct20, ct21, ct22, ct23, ct24, ct25, ct26, ct27, ct28⟩ := zt2.bx.tb; have ft20 := zt2.bx.fz 0; have ft21 := zt2.bx.fz 1; have ft22 := zt2.bx.fz 2; have ft23 := zt2.bx.fz 3; have ft24 := zt2.bx.fz 4; have ft25 := zt2.bx.fz 5; have ft26 := zt2.bx.fz 6; have ft27 := zt2.bx.fz 7; have ft28 := zt2.bx.fz 8)); (try (have lts3 := zs3.lt; have los3 := zs3.lo; have cs3 := zs3.cell; have fs3 := zs3.free)); (try (have ltt3 := zt3.bx.lt; have lot3 := zt3.lo; obtain ⟨ct30, ct31, ct32, ct33, ct34, ct35, ct36, ct37, ct38⟩ := zt3.bx.tb; have ft30 := zt3.bx.fz 0; have ft31 := zt3.bx.fz 1; have ft32 := zt3.bx.fz 2; have ft33 := zt3.bx.fz 3; have ft34 := zt3.bx.fz 4; have ft35 := zt3.bx.fz 5; have ft36 := zt3.bx.fz 6; have ft37 := zt3.bx.fz 7; have ft38 := zt3.bx.fz 8)); have s10a3 := (s10a2S.below hb).more hb.size; have s11ra3 := (s11ra2S.below hb).more hb.size; have s11wa3 := (s11wa2S.below hb).more hb.size; have hS3 : SL w A0 n0 c0 x1 A1 n1 c1 B1 p1 d1 Wa3 := keepC hb (by first | omega | (simp <;> omega)) (keepA (by first | omega | (simp <;> omega)) (hS2)); clear hb) | (go_at_call 9; have hbk2T : Below W22.heap.size W22 ((Wa2.alloc (.cells #[.int .i64 0, .int .i64 0, .int .i64 0, .int .i64 0, .int .i64 0, .int .i64 0, .int .i64 0, .slice none 0 0, .slice none 0 0] 37))) := (bel_alloc hbk2 (.cells #[.int .i64 0, .int .i64 0, .int .i64 0, .int .i64 0, .int .i64 0, .int .i64 0, .int .i64 0, .slice none 0 0, .slice none 0 0] 37)); have hbw2T := HB22.out.trans (hbk2T.mono HB22.out.size); have hnn : Below Wa2.heap.size Wa2 ((Wa2.alloc (.cells #[.int .i64 0, .int .i64 0, .int .i64 0, .int .i64 0, .int .i64 0, .int .i64 0, .int .i64 0, .slice none 0 0, .slice none 0 0] 37))) := new1 Wa2 (.cells #[.int .i64 0, .int .i64 0, .int .i64 0, .int .i64 0, .int .i64 0, .int .i64 0, .int .i64 0, .slice none 0 0, .slice none 0 0] 37); have s10a2T := (s10a2.below hnn).more hnn.size; have s11ra2T := (s11ra2.below hnn).more hnn.size; have s11wa2T := (s11wa2.below hnn).more hnn.size; (try have zs1 := zs1.call hnn); (try have zt1 := zt1.call hnn); (try have zs2 := zs2.call hnn); (try have zt2 := zt2.call hnn); have zt3 := (TBx.zero hbk2 rfl); (with_reducible refine (Go.Proofs.YthbbpfgjbidbhaaGreatDoor.cmi.impl_commit x1 a2 (by omega) HC.out (by omega) (by omega) s11ra2T s11wa2T s10a2T (Nat.le_refl _) (HF.out.below (hbw2T))).mono ?_); rintro e Wa3 ⟨As12, cs12, Es12, fs12, Bs12, ds12, he, ho, hot, hb⟩; rw [HQX.out, HQB.out] at he; rw [HQC.out] at ho; subst he; have hjo := Go.Proofs.YthbbpfgjbidbhaaGreatDoor.cml.JO.of ho hot hlen1 hlem1; clear ho hot; have hbk3 := hbk2T.trans (hb.mono hbk2T.size); have hbw3 := HB22.out.trans (hbk3.mono HB22.out.size); have hv3 : w.heap.size + 2 ≤ Wa3.heap.size := Nat.le_trans hv0 hbk3.size; (try have zs1 := zs1.call hb); (try have zt1 := zt1.call hb); (try have zs2 := zs2.call hb); (try have zt2 := zt2.call hb); (try have zs3 := zs3.call hb); (try have zt3 := zt3.call hb); obtain ⟨lo3, hlo3⟩ : ∃ k, k = ((Wa2.alloc (.cells #[.int .i64 0, .int .i64 0, .int .i64 0, .int .i64 0, .int .i64 0, .int .i64 0, .int .i64 0, .slice none 0 0, .slice none 0 0] 37))).heap.size := ⟨_, rfl⟩; rw [← hlo3] at hjo; (try simp only [World.size_alloc, World.size_drew] at hlo3); have hlw := hbk2T.size; (try simp only [World.size_alloc, World.size_drew] at hlw); have hh3 := hb.size; (try simp only [World.size_alloc, World.size_drew] at hh3); (try (have lts1 := zs1.lt; have los1 := zs1.lo; have cs1 := zs1.cell; have fs1 := zs1.free)); (try (have ltt1 := zt1.bx.lt; have lot1 := zt1.lo; obtain ⟨ct10, ct11, ct12, ct13, ct14, ct15, ct16, ct17, ct18⟩ := zt1.bx.tb; have ft10 := zt1.bx.fz 0; have ft11 := zt1.bx.fz 1; have ft12 := zt1.bx.fz 2; have ft13 := zt1.bx.fz 3; have ft14 := zt1.bx.fz 4; have ft15 := zt1.bx.fz 5; have ft16 := zt1.bx.fz 6; have ft17 := zt1.bx.fz 7; have ft18 := zt1.bx.fz 8)); (try (have lts2 := zs2.lt; have los2 := zs2.lo; have cs2 := zs2.cell; have fs2 := zs2.free)); (try (have ltt2 := zt2.bx.lt; have lot2 := zt2.lo; obtain ⟨ct20, ct21, ct22, ct23, ct24, ct25, ct26, ct27, ct28⟩ := zt2.bx.tb; have ft20 := zt2.bx.fz 0; have ft21 := zt2.bx.fz 1; have ft22 := zt2.bx.fz 2; have ft23 := zt2.bx.fz 3; have ft24 := zt2.bx.fz 4; have ft25 := zt2.bx.fz 5; have ft26 := zt2.bx.fz 6; have ft27 := zt2.bx.fz 7; have ft28 := zt2.bx.fz 8)); (try (have lts3 := zs3.lt; have los3 := zs3.lo; have cs3 := zs3.cell; have fs3 := zs3.free)); (try (have ltt3 := zt3.bx.lt; have lot3 := zt3.lo; obtain ⟨ct30, ct31, ct32, ct33, ct34, ct35, ct36, ct37, ct38⟩ := zt3.bx.tb; have ft30 := zt3.bx.fz 0; have ft31 := zt3.bx.fz 1; have ft32 := zt3.bx.fz 2; have ft33 := zt3.bx.fz 3; have ft34 := zt3.bx.fz 4; have ft35 := zt3.bx.fz 5; have ft36 := zt3.bx.fz 6; have ft37 := zt3.bx.fz 7; have ft38 := zt3.bx.fz 8)); have s10a3 := (s10a2T.below hb).more hb.size; have s11ra3 := (s11ra2T.below hb).more hb.size; have s11wa3 := (s11wa2T.below hb).more hb.size; have hS3 : SL w A0 n0 c0 x1 A1 n1 c1 B1 p1 d1 Wa3 := keepC hb (by first | omega | (simp <;> omega)) (keepA (by first | omega | (simp <;> omega)) (hS2)); clear hb) | (go_at_call 9; have hbk2ST : Below W22.heap.size W22 (((Wa2.alloc (.cells #[.slice none 0 0] 33)).alloc (.cells #[.int .i64 0, .int .i64 0, .int .i64 0, .int .i64 0, .int .i64 0, .int .i64 0, .int .i64 0, .slice none 0 0, .slice none 0 0] 37))) := (bel_alloc (bel_alloc hbk2 (.cells #[.slice none 0 0] 33)) (.cells #[.int .i64 0, .int .i64 0, .int .i64 0, .int .i64 0, .int .i64 0, .int .i64 0, .int .i64 0, .slice none 0 0, .slice none 0 0] 37)); have hbw2ST := HB22.out.trans (hbk2ST.mono HB22.out.size); have hnn : Below Wa2.heap.size Wa2 (((Wa2.alloc (.cells #[.slice none 0 0] 33)).alloc (.cells #[.int .i64 0, .int .i64 0, .int .i64 0, .int .i64 0, .int .i64 0, .int .i64 0, .int .i64 0, .slice none 0 0, .slice none 0 0] 37))) := bel_alloc (new1 Wa2 (.cells #[.slice none 0 0] 33)) (.cells #[.int .i64 0, .int .i64 0, .int .i64 0, .int .i64 0, .int .i64 0, .int .i64 0, .int .i64 0, .slice none 0 0, .slice none 0 0] 37); have s10a2ST := (s10a2.below hnn).more hnn.size; have s11ra2ST := (s11ra2.below hnn).more hnn.size; have s11wa2ST := (s11wa2.below hnn).more hnn.size; (try have zs1 := zs1.call hnn); (try have zt1 := zt1.call hnn); (try have zs2 := zs2.call hnn); (try have zt2 := zt2.call hnn); have zs3 := ((SBx.zero (u := .slice none 0 0) (t := 33) hbk2 rfl).alloc (.cells #[.int .i64 0, .int .i64 0, .int .i64 0, .int .i64 0, .int .i64 0, .int .i64 0, .int .i64 0, .slice none 0 0, .slice none 0 0] 37)); have zt3 := (TBx.zero (b := Wa2.heap.size + 1) (bel_alloc hbk2 (.cells #[.slice none 0 0] 33)) (by simp)); (with_reducible refine (Go.Proofs.YthbbpfgjbidbhaaGreatDoor.cmi.impl_commit x1 a2 (by omega) HC.out (by omega) (by omega) s11ra2ST s11wa2ST s10a2ST (Nat.le_refl _) (HF.out.below (hbw2ST))).mono ?_); rintro e Wa3 ⟨As12, cs12, Es12, fs12, Bs12, ds12, he, ho, hot, hb⟩; rw [HQX.out, HQB.out] at he; rw [HQC.out] at ho; subst he; have hjo := Go.Proofs.YthbbpfgjbidbhaaGreatDoor.cml.JO.of ho hot hlen1 hlem1; clear ho hot; have hbk3 := hbk2ST.trans (hb.mono hbk2ST.size); have hbw3 := HB22.out.trans (hbk3.mono HB22.out.size); have hv3 : w.heap.size + 2 ≤ Wa3.heap.size := Nat.le_trans hv0 hbk3.size; (try have zs1 := zs1.call hb); (try have zt1 := zt1.call hb); (try have zs2 := zs2.call hb); (try have zt2 := zt2.call hb); (try have zs3 := zs3.call hb); (try have zt3 := zt3.call hb); obtain ⟨lo3, hlo3⟩ : ∃ k, k = (((Wa2.alloc (.cells #[.slice none 0 0] 33)).alloc (.cells #[.int .i64 0, .int .i64 0, .int .i64 0, .int .i64 0, .int .i64 0, .int .i64 0, .int .i64 0, .slice none 0 0, .slice none 0 0] 37))).heap.size := ⟨_, rfl⟩; rw [← hlo3] at hjo; (try simp only [World.size_alloc, World.size_drew] at hlo3); have hlw := hbk2ST.size; (try simp only [World.size_alloc, World.size_drew] at hlw); have hh3 := hb.size; (try simp only [World.size_alloc, World.size_drew] at hh3); (try (have lts1 := zs1.lt; have los1 := zs1.lo; have cs1 := zs1.cell; have fs1 := zs1.free)); (try (have ltt1 := zt1.bx.lt; have lot1 := zt1.lo; obtain ⟨ct10, ct11, ct12, ct13, ct14, ct15, ct16, ct17, ct18⟩ := zt1.bx.tb; have ft10 := zt1.bx.fz 0; have ft11 := zt1.bx.fz 1; have ft12 := zt1.bx.fz 2; have ft13 := zt1.bx.fz 3; have ft14 := zt1.bx.fz 4; have ft15 := zt1.bx.fz 5; have ft16 := zt1.bx.fz 6; have ft17 := zt1.bx.fz 7; have ft18 := zt1.bx.fz 8)); (try (have lts2 := zs2.lt; have los2 := zs2.lo; have cs2 := zs2.cell; have fs2 := zs2.free)); (try (have ltt2 := zt2.bx.lt; have lot2 := zt2.lo; obtain ⟨ct20, ct21, ct22, ct23, ct24, ct25, ct26, ct27, ct28⟩ := zt2.bx.tb; have ft20 := zt2.bx.fz 0; have ft21 := zt2.bx.fz 1; have ft22 := zt2.bx.fz 2; have ft23 := zt2.bx.fz 3; have ft24 := zt2.bx.fz 4; have ft25 := zt2.bx.fz 5; have ft26 := zt2.bx.fz 6; have ft27 := zt2.bx.fz 7; have ft28 := zt2.bx.fz 8)); (try (have lts3 := zs3.lt; have los3 := zs3.lo; have cs3 := zs3.cell; have fs3 := zs3.free)); (try (have ltt3 := zt3.bx.lt; have lot3 := zt3.lo; obtain ⟨ct30, ct31, ct32, ct33, ct34, ct35, ct36, ct37, ct38⟩ := zt3.bx.tb; have ft30 := zt3.bx.fz 0; have ft31 := zt3.bx.fz 1; have ft32 := zt3.bx.fz 2; have ft33 := zt3.bx.fz 3; have ft34 := zt3.bx.fz 4; have ft35 := zt3.bx.fz 5; have ft36 := zt3.bx.fz 6; have ft37 := zt3.bx.fz 7; have ft38 := zt3.bx.fz 8)); have s10a3 := (s10a2ST.below hb).more hb.size; have s11ra3 := (s11ra2ST.below hb).more hb.size; have s11wa3 := (s11wa2ST.below hb).more hb.size; have hS3 : SL w A0 n0 c0 x1 A1 n1 c1 B1 p1 d1 Wa3 := keepC hb (by first | omega | (simp <;> omega)) (keepA (by first | omega | (simp <;> omega)) (keepA (by first | omega | (simp <;> omega)) (hS2))); clear hb) | (go_at_call 9; have hbk2TS : Below W22.heap.size W22 (((Wa2.alloc (.cells #[.int .i64 0, .int .i64 0, .int .i64 0, .int .i64 0, .int .i64 0, .int .i64 0, .int .i64 0, .slice none 0 0, .slice none 0 0] 37)).alloc (.cells #[.slice none 0 0] 33))) := (bel_alloc (bel_alloc hbk2 (.cells #[.int .i64 0, .int .i64 0, .int .i64 0, .int .i64 0, .int .i64 0, .int .i64 0, .int .i64 0, .slice none 0 0, .slice none 0 0] 37)) (.cells #[.slice none 0 0] 33)); have hbw2TS := HB22.out.trans (hbk2TS.mono HB22.out.size); have hnn : Below Wa2.heap.size Wa2 (((Wa2.alloc (.cells #[.int .i64 0, .int .i64 0, .int .i64 0, .int .i64 0, .int .i64 0, .int .i64 0, .int .i64 0, .slice none 0 0, .slice none 0 0] 37)).alloc (.cells #[.slice none 0 0] 33))) := bel_alloc (new1 Wa2 (.cells #[.int .i64 0, .int .i64 0, .int .i64 0, .int .i64 0, .int .i64 0, .int .i64 0, .int .i64 0, .slice none 0 0, .slice none 0 0] 37)) (.cells #[.slice none 0 0] 33); have s10a2TS := (s10a2.below hnn).more hnn.size; have s11ra2TS := (s11ra2.below hnn).more hnn.size; have s11wa2TS := (s11wa2.below hnn).more hnn.size; (try have zs1 := zs1.call hnn); (try have zt1 := zt1.call hnn); (try have zs2 := zs2.call hnn); (try have zt2 := zt2.call hnn); have zt3 := ((TBx.zero hbk2 rfl).alloc (.cells #[.slice none 0 0] 33)); have zs3 := (SBx.zero (u := .slice none 0 0) (t := 33) (b := Wa2.heap.size + 1) (bel_alloc hbk2 (.cells #[.int .i64 0, .int .i64 0, .int .i64 0, .int .i64 0, .int .i64 0, .int .i64 0, .int .i64 0, .slice none 0 0, .slice none 0 0] 37)) (by simp)); (with_reducible refine (Go.Proofs.YthbbpfgjbidbhaaGreatDoor.cmi.impl_commit x1 a2 (by omega) HC.out (by omega) (by omega) s11ra2TS s11wa2TS s10a2TS (Nat.le_refl _) (HF.out.below (hbw2TS))).mono ?_); rintro e Wa3 ⟨As12, cs12, Es12, fs12, Bs12, ds12, he, ho, hot, hb⟩; rw [HQX.out, HQB.out] at he; rw [HQC.out] at ho; subst he; have hjo := Go.Proofs.YthbbpfgjbidbhaaGreatDoor.cml.JO.of ho hot hlen1 hlem1; clear ho hot; have hbk3 := hbk2TS.trans (hb.mono hbk2TS.size); have hbw3 := HB22.out.trans (hbk3.mono HB22.out.size); have hv3 : w.heap.size + 2 ≤ Wa3.heap.size := Nat.le_trans hv0 hbk3.size; (try have zs1 := zs1.call hb); (try have zt1 := zt1.call hb); (try have zs2 := zs2.call hb); (try have zt2 := zt2.call hb); (try have zs3 := zs3.call hb); (try have zt3 := zt3.call hb); obtain ⟨lo3, hlo3⟩ : ∃ k, k = (((Wa2.alloc (.cells #[.int .i64 0, .int .i64 0, .int .i64 0, .int .i64 0, .int .i64 0, .int .i64 0, .int .i64 0, .slice none 0 0, .slice none 0 0] 37)).alloc (.cells #[.slice none 0 0] 33))).heap.size := ⟨_, rfl⟩; rw [← hlo3] at hjo; (try simp only [World.size_alloc, World.size_drew] at hlo3); have hlw := hbk2TS.size; (try simp only [World.size_alloc, World.size_drew] at hlw); have hh3 := hb.size; (try simp only [World.size_alloc, World.size_drew] at hh3); (try (have lts1 := zs1.lt; have los1 := zs1.lo; have cs1 := zs1.cell; have fs1 := zs1.free)); (try (have ltt1 := zt1.bx.lt; have lot1 := zt1.lo; obtain ⟨ct10, ct11, ct12, ct13, ct14, ct15, ct16, ct17, ct18⟩ := zt1.bx.tb; have ft10 := zt1.bx.fz 0; have ft11 := zt1.bx.fz 1; have ft12 := zt1.bx.fz 2; have ft13 := zt1.bx.fz 3; have ft14 := zt1.bx.fz 4; have ft15 := zt1.bx.fz 5; have ft16 := zt1.bx.fz 6; have ft17 := zt1.bx.fz 7; have ft18 := zt1.bx.fz 8)); (try (have lts2 := zs2.lt; have los2 := zs2.lo; have cs2 := zs2.cell; have fs2 := zs2.free)); (try (have ltt2 := zt2.bx.lt; have lot2 := zt2.lo; obtain ⟨ct20, ct21, ct22, ct23, ct24, ct25, ct26, ct27, ct28⟩ := zt2.bx.tb; have ft20 := zt2.bx.fz 0; have ft21 := zt2.bx.fz 1; have ft22 := zt2.bx.fz 2; have ft23 := zt2.bx.fz 3; have ft24 := zt2.bx.fz 4; have ft25 := zt2.bx.fz 5; have ft26 := zt2.bx.fz 6; have ft27 := zt2.bx.fz 7; have ft28 := zt2.bx.fz 8)); (try (have lts3 := zs3.lt; have los3 := zs3.lo; have cs3 := zs3.cell; have fs3 := zs3.free)); (try (have ltt3 := zt3.bx.lt; have lot3 := zt3.lo; obtain ⟨ct30, ct31, ct32, ct33, ct34, ct35, ct36, ct37, ct38⟩ := zt3.bx.tb; have ft30 := zt3.bx.fz 0; have ft31 := zt3.bx.fz 1; have ft32 := zt3.bx.fz 2; have ft33 := zt3.bx.fz 3; have ft34 := zt3.bx.fz 4; have ft35 := zt3.bx.fz 5; have ft36 := zt3.bx.fz 6; have ft37 := zt3.bx.fz 7; have ft38 := zt3.bx.fz 8)); have s10a3 := (s10a2TS.below hb).more hb.size; have s11ra3 := (s11ra2TS.below hb).more hb.size; have s11wa3 := (s11wa2TS.below hb).more hb.size; have hS3 : SL w A0 n0 c0 x1 A1 n1 c1 B1 p1 d1 Wa3 := keepC hb (by first | omega | (simp <;> omega)) (keepA (by first | omega | (simp <;> omega)) (keepA (by first | omega | (simp <;> omega)) (hS2))); clear hb))
      all_goals (try go_wp2_with fail)
      all_goals go_meet
      all_goals exact ⟨_, _, lo3, Wa3.heap.size, _, _, _, _, _, _, rfl, rfl, rfl, RgL.mk (by (repeat first | with_reducible assumption | with_reducible refine bel_alloc ?_ _ | (with_reducible refine bel_set ?_ ?h9; case h9 => (first | (simp only; omega) | (simp <;> omega))) | with_reducible refine Below.drew ?_ | (with_reducible refine SBx.zero ?_ ?h9; case h9 => (first | rfl | simp)) | (with_reducible refine TBx.zero ?_ ?h9; case h9 => (first | rfl | simp)) | (with_reducible refine TBx.new ?_ ?h9; case h9 => (first | rfl | simp)) | with_reducible refine SBx.alloc ?_ _ | with_reducible refine TBx.alloc ?_ _ | with_reducible refine SBx.drew ?_ | with_reducible refine TBx.drew ?_ | with_reducible refine SBx.putS (u := .slice none 0 0) ?_ | with_reducible refine TBx.putS (x' := ⟨0, 0, 0, 0, 0, 0, 0⟩) (u' := .slice none 0 0) (v' := .slice none 0 0) ?_ | (with_reducible refine SBx.putO ?h9 ?_; case h9 => (first | (simp only; omega) | (simp <;> omega))) | (with_reducible refine TBx.putO ?h9 ?_; case h9 => (first | (simp only; omega) | (simp <;> omega))) | (with_reducible refine JO.joA ?_ ?h9 _; case h9 => (first | omega | (simp only [World.size_alloc, World.size_drew, World.setCell, Array.size_modify]; omega))) | (with_reducible refine JO.joD ?_ ?h9; case h9 => (first | omega | (simp only [World.size_alloc, World.size_drew, World.setCell, Array.size_modify]; omega))) | (with_reducible refine JO.joS ?h8 ?h9 ?_; (case h8 => (first | (simp only; omega) | (simp <;> omega))); (case h9 => (first | omega | (simp only [World.size_alloc, World.size_drew, World.setCell, Array.size_modify]; omega)))))) (by (repeat first | with_reducible assumption | with_reducible refine bel_alloc ?_ _ | (with_reducible refine bel_set ?_ ?h9; case h9 => (first | (simp only; omega) | (simp <;> omega))) | with_reducible refine Below.drew ?_ | (with_reducible refine SBx.zero ?_ ?h9; case h9 => (first | rfl | simp)) | (with_reducible refine TBx.zero ?_ ?h9; case h9 => (first | rfl | simp)) | (with_reducible refine TBx.new ?_ ?h9; case h9 => (first | rfl | simp)) | with_reducible refine SBx.alloc ?_ _ | with_reducible refine TBx.alloc ?_ _ | with_reducible refine SBx.drew ?_ | with_reducible refine TBx.drew ?_ | with_reducible refine SBx.putS (u := .slice none 0 0) ?_ | with_reducible refine TBx.putS (x' := ⟨0, 0, 0, 0, 0, 0, 0⟩) (u' := .slice none 0 0) (v' := .slice none 0 0) ?_ | (with_reducible refine SBx.putO ?h9 ?_; case h9 => (first | (simp only; omega) | (simp <;> omega))) | (with_reducible refine TBx.putO ?h9 ?_; case h9 => (first | (simp only; omega) | (simp <;> omega))) | (with_reducible refine JO.joA ?_ ?h9 _; case h9 => (first | omega | (simp only [World.size_alloc, World.size_drew, World.setCell, Array.size_modify]; omega))) | (with_reducible refine JO.joD ?_ ?h9; case h9 => (first | omega | (simp only [World.size_alloc, World.size_drew, World.setCell, Array.size_modify]; omega))) | (with_reducible refine JO.joS ?h8 ?h9 ?_; (case h8 => (first | (simp only; omega) | (simp <;> omega))); (case h9 => (first | omega | (simp only [World.size_alloc, World.size_drew, World.setCell, Array.size_modify]; omega)))))) (by (repeat first | with_reducible assumption | with_reducible refine bel_alloc ?_ _ | (with_reducible refine bel_set ?_ ?h9; case h9 => (first | (simp only; omega) | (simp <;> omega))) | with_reducible refine Below.drew ?_ | (with_reducible refine SBx.zero ?_ ?h9; case h9 => (first | rfl | simp)) | (with_reducible refine TBx.zero ?_ ?h9; case h9 => (first | rfl | simp)) | (with_reducible refine TBx.new ?_ ?h9; case h9 => (first | rfl | simp)) | with_reducible refine SBx.alloc ?_ _ | with_reducible refine TBx.alloc ?_ _ | with_reducible refine SBx.drew ?_ | with_reducible refine TBx.drew ?_ | with_reducible refine SBx.putS (u := .slice none 0 0) ?_ | with_reducible refine TBx.putS (x' := ⟨0, 0, 0, 0, 0, 0, 0⟩) (u' := .slice none 0 0) (v' := .slice none 0 0) ?_ | (with_reducible refine SBx.putO ?h9 ?_; case h9 => (first | (simp only; omega) | (simp <;> omega))) | (with_reducible refine TBx.putO ?h9 ?_; case h9 => (first | (simp only; omega) | (simp <;> omega))) | (with_reducible refine JO.joA ?_ ?h9 _; case h9 => (first | omega | (simp only [World.size_alloc, World.size_drew, World.setCell, Array.size_modify]; omega))) | (with_reducible refine JO.joD ?_ ?h9; case h9 => (first | omega | (simp only [World.size_alloc, World.size_drew, World.setCell, Array.size_modify]; omega))) | (with_reducible refine JO.joS ?h8 ?h9 ?_; (case h8 => (first | (simp only; omega) | (simp <;> omega))); (case h9 => (first | omega | (simp only [World.size_alloc, World.size_drew, World.setCell, Array.size_modify]; omega)))))) (by (repeat first | with_reducible assumption | with_reducible refine bel_alloc ?_ _ | (with_reducible refine bel_set ?_ ?h9; case h9 => (first | (simp only; omega) | (simp <;> omega))) | with_reducible refine Below.drew ?_ | (with_reducible refine SBx.zero ?_ ?h9; case h9 => (first | rfl | simp)) | (with_reducible refine TBx.zero ?_ ?h9; case h9 => (first | rfl | simp)) | (with_reducible refine TBx.new ?_ ?h9; case h9 => (first | rfl | simp)) | with_reducible refine SBx.alloc ?_ _ | with_reducible refine TBx.alloc ?_ _ | with_reducible refine SBx.drew ?_ | with_reducible refine TBx.drew ?_ | with_reducible refine SBx.putS (u := .slice none 0 0) ?_ | with_reducible refine TBx.putS (x' := ⟨0, 0, 0, 0, 0, 0, 0⟩) (u' := .slice none 0 0) (v' := .slice none 0 0) ?_ | (with_reducible refine SBx.putO ?h9 ?_; case h9 => (first | (simp only; omega) | (simp <;> omega))) | (with_reducible refine TBx.putO ?h9 ?_; case h9 => (first | (simp only; omega) | (simp <;> omega))) | (with_reducible refine JO.joA ?_ ?h9 _; case h9 => (first | omega | (simp only [World.size_alloc, World.size_drew, World.setCell, Array.size_modify]; omega))) | (with_reducible refine JO.joD ?_ ?h9; case h9 => (first | omega | (simp only [World.size_alloc, World.size_drew, World.setCell, Array.size_modify]; omega))) | (with_reducible refine JO.joS ?h8 ?h9 ?_; (case h8 => (first | (simp only; omega) | (simp <;> omega))); (case h9 => (first | omega | (simp only [World.size_alloc, World.size_drew, World.setCell, Array.size_modify]; omega)))))) (by first | omega | (simp only [World.size_alloc, World.size_drew, World.setCell, Array.size_modify]; omega)) (by first | omega | (simp only [World.size_alloc, World.size_drew, World.setCell, Array.size_modify]; omega)) (by first | omega | (simp only [World.size_alloc, World.size_drew, World.setCell, Array.size_modify]; omega)) (by first | omega | (simp only [World.size_alloc, World.size_drew, World.setCell, Array.size_modify]; omega))⟩
    case rest =>
      obtain ⟨sbs13, tbs13, los13, his13, As13, cs13, A2s13, c2s13, Bs13, ds13, rfl, rfl, rfl, hr⟩ := hcut
      obtain ⟨W23, hW⟩ : ∃ W, W = wc := ⟨_, rfl⟩
      subst hW
      have l1s13 := hr.l1
      have l2s13 := hr.l2
      have s1s13 := hr.s1
      have t1s13 := hr.t1
      have s2s13 := hr.sbx.lo
      have s3s13 := hr.sbx.lt
      have t2s13 := hr.tbx.lo
      have t3s13 := hr.tbx.bx.lt
      have hx0 := hr.sbx.cell
      have hx1 := hr.tbx.bx.tb
      have hjo := hr.jo
      have hb := hr.bel
      clear hr
      have HB23 : Hid (Below w.heap.size w W23) := Lib.hid (HB22.out.trans (hb.mono HB22.out.size))
      have HS23 : Hid (Below W22.heap.size W22 W23) := Lib.hid hb
      have HF23 : Hid (FR 0 0 W22 W23) := Lib.hid (FR.of_below hb)
      have hs23 : W22.heap.size ≤ W23.heap.size := hb.size
      clear hb
      have b0_23 := Lib.hid ((HF23.out.cell (p := ⟨w.heap.size, 0, none⟩) (by simp only; omega) (by simp only; omega)).trans b0_22.out)
      clear b0_22
      have b1_23 := Lib.hid (Go.Proofs.YthbbpfgjbidbhaaGreatDoor.tm.TB.fr b1_22.out HF23.out (by omega) (by omega))
      clear b1_22
      have b2_23 := Lib.hid ((HF23.out.cell (p := ⟨sbs4, 0, none⟩) (by simp only; omega) (by simp only; omega)).trans b2_22.out)
      clear b2_22
      have b3_23 := Lib.hid (Go.Proofs.YthbbpfgjbidbhaaGreatDoor.tm.TB.fr b3_22.out HF23.out (by omega) (by omega))
      clear b3_22
      have b4_23 := Lib.hid ((HF23.out.cell (p := ⟨W5.heap.size, 0, none⟩) (by simp only; omega) (by simp only; omega)).trans b4_22.out)
      clear b4_22
      have b5_23 := Lib.hid (Go.Proofs.YthbbpfgjbidbhaaGreatDoor.tm.TB.fr b5_22.out HF23.out (by omega) (by omega))
      clear b5_22
      have b6_23 := Lib.hid ((HF23.out.cell (p := ⟨W9.heap.size, 0, none⟩) (by simp only; omega) (by simp only; omega)).trans b6_22.out)
      clear b6_22
      have b7_23 := Lib.hid (Go.Proofs.YthbbpfgjbidbhaaGreatDoor.tm.TB.fr b7_22.out HF23.out (by omega) (by omega))
      clear b7_22
      have s4_23 := Lib.hid (s4_22.out.fr HF23.out (by omega) (by omega))
      clear s4_22
      have s7ab_23 := Lib.hid (s7ab_22.out.fr HF23.out (by omega) (by omega))
      clear s7ab_22
      have s13_23 := Lib.hid hjo
      clear hjo
      have b8_23 := Lib.hid hx0
      clear hx0
      have b9_23 := Lib.hid hx1
      clear hx1
      have b2c0 := b2_23.out
      have b2L : sbs4 < W23.heap.size := by omega
      have b8c0 := b8_23.out
      have b8L : sbs13 < W23.heap.size := by omega
      go_wp2_with fail
      refine (same_store (by omega) ((s13_23.out).rs HCL.out) ((s4_23.out).rs HCL.out) (Nat.le_refl _)).mono ?_
      rintro e W24 ⟨rfl, hb⟩
      have HB24 : Hid (Below w.heap.size w W24) := Lib.hid (HB23.out.trans (hb.mono HB23.out.size))
      have HS24 : Hid (Below W23.heap.size W23 W24) := Lib.hid hb
      have HF24 : Hid (FR 0 0 W23 W24) := Lib.hid (FR.of_below hb)
      have hs24 : W23.heap.size ≤ W24.heap.size := hb.size
      clear hb
      have b0_24 := Lib.hid ((HF24.out.cell (p := ⟨w.heap.size, 0, none⟩) (by simp only; omega) (by simp only; omega)).trans b0_23.out)
      clear b0_23
      have b1_24 := Lib.hid (Go.Proofs.YthbbpfgjbidbhaaGreatDoor.tm.TB.fr b1_23.out HF24.out (by omega) (by omega))
      clear b1_23
      have b2_24 := Lib.hid ((HF24.out.cell (p := ⟨sbs4, 0, none⟩) (by simp only; omega) (by simp only; omega)).trans b2_23.out)
      clear b2_23
      have b3_24 := Lib.hid (Go.Proofs.YthbbpfgjbidbhaaGreatDoor.tm.TB.fr b3_23.out HF24.out (by omega) (by omega))
      clear b3_23
      have b4_24 := Lib.hid ((HF24.out.cell (p := ⟨W5.heap.size, 0, none⟩) (by simp only; omega) (by simp only; omega)).trans b4_23.out)
      clear b4_23
      have b5_24 := Lib.hid (Go.Proofs.YthbbpfgjbidbhaaGreatDoor.tm.TB.fr b5_23.out HF24.out (by omega) (by omega))
      clear b5_23
      have b6_24 := Lib.hid ((HF24.out.cell (p := ⟨W9.heap.size, 0, none⟩) (by simp only; omega) (by simp only; omega)).trans b6_23.out)
      clear b6_23
      have b7_24 := Lib.hid (Go.Proofs.YthbbpfgjbidbhaaGreatDoor.tm.TB.fr b7_23.out HF24.out (by omega) (by omega))
      clear b7_23
      have b8_24 := Lib.hid ((HF24.out.cell (p := ⟨sbs13, 0, none⟩) (by simp only; omega) (by simp only; omega)).trans b8_23.out)
      clear b8_23
      have b9_24 := Lib.hid (Go.Proofs.YthbbpfgjbidbhaaGreatDoor.tm.TB.fr b9_23.out HF24.out (by omega) (by omega))
      clear b9_23
      have s4_24 := Lib.hid (s4_23.out.fr HF24.out (by omega) (by omega))
      clear s4_23
      have s7ab_24 := Lib.hid (s7ab_23.out.fr HF24.out (by omega) (by omega))
      clear s7ab_23
      have s13_24 := Lib.hid (s13_23.out.fr HF24.out (by omega) (by omega))
      clear s13_23
      clear b2c0 b2L
      clear b8c0 b8L
      obtain ⟨b3c0, b3c1, b3c2, b3c3, b3c4, b3c5, b3c6, b3c7, b3c8⟩ := b3_24.out
      have b3L : tbs4 < W24.heap.size := by omega
      obtain ⟨b9c0, b9c1, b9c2, b9c3, b9c4, b9c5, b9c6, b9c7, b9c8⟩ := b9_24.out
      have b9L : tbs13 < W24.heap.size := by omega
      go_wp2_with fail
      refine (same_tx qx (by omega) (by omega) ((s13_24.out).r (by omega)) ((s4_24.out).r (by omega)) ((s13_24.out).s (by omega)) ((s4_24.out).s (by omega)) (Nat.le_refl _)).mono ?_
      rintro e W25 ⟨rfl, hb⟩
      have HB25 : Hid (Below w.heap.size w W25) := Lib.hid (HB24.out.trans (hb.mono HB24.out.size))
      have HS25 : Hid (Below W24.heap.size W24 W25) := Lib.hid hb
      have HF25 : Hid (FR 0 0 W24 W25) := Lib.hid (FR.of_below hb)
      have hs25 : W24.heap.size ≤ W25.heap.size := hb.size
      clear hb
      have b0_25 := Lib.hid ((HF25.out.cell (p := ⟨w.heap.size, 0, none⟩) (by simp only; omega) (by simp only; omega)).trans b0_24.out)
      clear b0_24
      have b1_25 := Lib.hid (Go.Proofs.YthbbpfgjbidbhaaGreatDoor.tm.TB.fr b1_24.out HF25.out (by omega) (by omega))
      clear b1_24
      have b2_25 := Lib.hid ((HF25.out.cell (p := ⟨sbs4, 0, none⟩) (by simp only; omega) (by simp only; omega)).trans b2_24.out)
      clear b2_24
      have b3_25 := Lib.hid (Go.Proofs.YthbbpfgjbidbhaaGreatDoor.tm.TB.fr b3_24.out HF25.out (by omega) (by omega))
      clear b3_24
      have b4_25 := Lib.hid ((HF25.out.cell (p := ⟨W5.heap.size, 0, none⟩) (by simp only; omega) (by simp only; omega)).trans b4_24.out)
      clear b4_24
      have b5_25 := Lib.hid (Go.Proofs.YthbbpfgjbidbhaaGreatDoor.tm.TB.fr b5_24.out HF25.out (by omega) (by omega))
      clear b5_24
      have b6_25 := Lib.hid ((HF25.out.cell (p := ⟨W9.heap.size, 0, none⟩) (by simp only; omega) (by simp only; omega)).trans b6_24.out)
      clear b6_24
      have b7_25 := Lib.hid (Go.Proofs.YthbbpfgjbidbhaaGreatDoor.tm.TB.fr b7_24.out HF25.out (by omega) (by omega))
      clear b7_24
      have b8_25 := Lib.hid ((HF25.out.cell (p := ⟨sbs13, 0, none⟩) (by simp only; omega) (by simp only; omega)).trans b8_24.out)
      clear b8_24
      have b9_25 := Lib.hid (Go.Proofs.YthbbpfgjbidbhaaGreatDoor.tm.TB.fr b9_24.out HF25.out (by omega) (by omega))
      clear b9_24
      have s4_25 := Lib.hid (s4_24.out.fr HF25.out (by omega) (by omega))
      clear s4_24
      have s7ab_25 := Lib.hid (s7ab_24.out.fr HF25.out (by omega) (by omega))
      clear s7ab_24
      have s13_25 := Lib.hid (s13_24.out.fr HF25.out (by omega) (by omega))
      clear s13_24
      clear b3c0 b3c1 b3c2 b3c3 b3c4 b3c5 b3c6 b3c7 b3c8 b3L
      clear b9c0 b9c1 b9c2 b9c3 b9c4 b9c5 b9c6 b9c7 b9c8 b9L
      have b6c0 := b6_25.out
      have b6L : W9.heap.size < W25.heap.size := by omega
      go_wp2_with fail
      refine (Go.Proofs.YthbbpfgjbidbhaaGreatDoor.cml.held_js (by omega) HCN.out s7ab_25.out (by omega)).mono ?_
      rintro e W26 ⟨rfl, hb⟩
      rw [← Hs7aC.out]
      have HB26 : Hid (Below w.heap.size w W26) := Lib.hid (HB25.out.trans (hb.mono HB25.out.size))
      have HS26 : Hid (Below W25.heap.size W25 W26) := Lib.hid hb
      have HF26 : Hid (FR 0 0 W25 W26) := Lib.hid (FR.of_below hb)
      have hs26 : W25.heap.size ≤ W26.heap.size := hb.size
      clear hb
      have b0_26 := Lib.hid ((HF26.out.cell (p := ⟨w.heap.size, 0, none⟩) (by simp only; omega) (by simp only; omega)).trans b0_25.out)
      clear b0_25
      have b1_26 := Lib.hid (Go.Proofs.YthbbpfgjbidbhaaGreatDoor.tm.TB.fr b1_25.out HF26.out (by omega) (by omega))
      clear b1_25
      have b2_26 := Lib.hid ((HF26.out.cell (p := ⟨sbs4, 0, none⟩) (by simp only; omega) (by simp only; omega)).trans b2_25.out)
      clear b2_25
      have b3_26 := Lib.hid (Go.Proofs.YthbbpfgjbidbhaaGreatDoor.tm.TB.fr b3_25.out HF26.out (by omega) (by omega))
      clear b3_25
      have b4_26 := Lib.hid ((HF26.out.cell (p := ⟨W5.heap.size, 0, none⟩) (by simp only; omega) (by simp only; omega)).trans b4_25.out)
      clear b4_25
      have b5_26 := Lib.hid (Go.Proofs.YthbbpfgjbidbhaaGreatDoor.tm.TB.fr b5_25.out HF26.out (by omega) (by omega))
      clear b5_25
      have b6_26 := Lib.hid ((HF26.out.cell (p := ⟨W9.heap.size, 0, none⟩) (by simp only; omega) (by simp only; omega)).trans b6_25.out)
      clear b6_25
      have b7_26 := Lib.hid (Go.Proofs.YthbbpfgjbidbhaaGreatDoor.tm.TB.fr b7_25.out HF26.out (by omega) (by omega))
      clear b7_25
      have b8_26 := Lib.hid ((HF26.out.cell (p := ⟨sbs13, 0, none⟩) (by simp only; omega) (by simp only; omega)).trans b8_25.out)
      clear b8_25
      have b9_26 := Lib.hid (Go.Proofs.YthbbpfgjbidbhaaGreatDoor.tm.TB.fr b9_25.out HF26.out (by omega) (by omega))
      clear b9_25
      have s4_26 := Lib.hid (s4_25.out.fr HF26.out (by omega) (by omega))
      clear s4_25
      have s7ab_26 := Lib.hid (s7ab_25.out.fr HF26.out (by omega) (by omega))
      clear s7ab_25
      have s13_26 := Lib.hid (s13_25.out.fr HF26.out (by omega) (by omega))
      clear s13_25
      clear b6c0 b6L
      obtain ⟨b7c0, b7c1, b7c2, b7c3, b7c4, b7c5, b7c6, b7c7, b7c8⟩ := b7_26.out
      have b7L : W9.heap.size + 1 < W26.heap.size := by omega
      go_wp2_with fail
      refine (Go.Proofs.YthbbpfgjbidbhaaGreatDoor.cml.held_jt qx (k0 := s7ac) (by omega) (by omega) (by omega) (by omega) s7ab_26.out (by omega)).mono ?_
      rintro e W27 ⟨rfl, hb⟩
      rw [← Hs7abC.out]
      have HB27 : Hid (Below w.heap.size w W27) := Lib.hid (HB26.out.trans (hb.mono HB26.out.size))
      have HS27 : Hid (Below W26.heap.size W26 W27) := Lib.hid hb
      have HF27 : Hid (FR 0 0 W26 W27) := Lib.hid (FR.of_below hb)
      have hs27 : W26.heap.size ≤ W27.heap.size := hb.size
      clear hb
      have b0_27 := Lib.hid ((HF27.out.cell (p := ⟨w.heap.size, 0, none⟩) (by simp only; omega) (by simp only; omega)).trans b0_26.out)
      clear b0_26
      have b1_27 := Lib.hid (Go.Proofs.YthbbpfgjbidbhaaGreatDoor.tm.TB.fr b1_26.out HF27.out (by omega) (by omega))
      clear b1_26
      have b2_27 := Lib.hid ((HF27.out.cell (p := ⟨sbs4, 0, none⟩) (by simp only; omega) (by simp only; omega)).trans b2_26.out)
      clear b2_26
      have b3_27 := Lib.hid (Go.Proofs.YthbbpfgjbidbhaaGreatDoor.tm.TB.fr b3_26.out HF27.out (by omega) (by omega))
      clear b3_26
      have b4_27 := Lib.hid ((HF27.out.cell (p := ⟨W5.heap.size, 0, none⟩) (by simp only; omega) (by simp only; omega)).trans b4_26.out)
      clear b4_26
      have b5_27 := Lib.hid (Go.Proofs.YthbbpfgjbidbhaaGreatDoor.tm.TB.fr b5_26.out HF27.out (by omega) (by omega))
      clear b5_26
      have b6_27 := Lib.hid ((HF27.out.cell (p := ⟨W9.heap.size, 0, none⟩) (by simp only; omega) (by simp only; omega)).trans b6_26.out)
      clear b6_26
      have b7_27 := Lib.hid (Go.Proofs.YthbbpfgjbidbhaaGreatDoor.tm.TB.fr b7_26.out HF27.out (by omega) (by omega))
      clear b7_26
      have b8_27 := Lib.hid ((HF27.out.cell (p := ⟨sbs13, 0, none⟩) (by simp only; omega) (by simp only; omega)).trans b8_26.out)
      clear b8_26
      have b9_27 := Lib.hid (Go.Proofs.YthbbpfgjbidbhaaGreatDoor.tm.TB.fr b9_26.out HF27.out (by omega) (by omega))
      clear b9_26
      have s4_27 := Lib.hid (s4_26.out.fr HF27.out (by omega) (by omega))
      clear s4_26
      have s7ab_27 := Lib.hid (s7ab_26.out.fr HF27.out (by omega) (by omega))
      clear s7ab_26
      have s13_27 := Lib.hid (s13_26.out.fr HF27.out (by omega) (by omega))
      clear s13_26
      clear b7c0 b7c1 b7c2 b7c3 b7c4 b7c5 b7c6 b7c7 b7c8 b7L
      go_wp2_with fail
      go_ret
      exact ⟨rfl, HB27.out⟩
def readArgs (H : Type) : List (DataW H) := [.agg [.nil], .agg [.lit (.int .i64 0), .lit (.int .i64 0), .lit (.int .i64 0), .lit (.int .i64 0), .lit (.int .i64 0), .lit (.int .i64 0), .lit (.int .i64 0), .nil, .nil], .lit (.int .i64 0)]
theorem facts {W : World} (h : laidMetH Tryz.prog Rows.fnExactCommitTransactionRow.laid W) : Facts W := Go.Proofs.YthbbpfgjbidbhaaGreatDoor.erv.ev_of (r := []) h
/-! ### THE ROW -/
set_option maxRecDepth 100000 in
theorem contract (H : Type) (enc : TypeId × Value → H) (W : World) (base : Nat) (args : Array Value) (ds gs : List (DataW H)) (before : List MemPlace)
    (hval0 : ∀ (j : Nat) t v, Tryz.f3.params[j]? = some t → args[j]? = some v → Value.okWide Tryz.prog W .any base t v)
    (hW : DataW.Whole enc Tryz.prog Tryz.f3.params.toList Rows.fnExactCommitTransactionSpec.vars false W args.toList ds gs before) (hL : laidMetH Tryz.prog Rows.fnExactCommitTransactionRow.laid W) :
    Calls Tryz.prog 3 args W fun e W' => ∃ v, e = .returned v ∧ Rows.fnExactCommitTransactionSpec.post enc Tryz.prog Tryz.f3 false true false false W args v W' := by
  have hval := hval0
  have hW' := hW
  obtain ⟨pp, qq, hA0, hV, rfl, hfz, hnd⟩ := hW
  have hA : DataW.TrodAll enc Tryz.prog W 0 (fun _ => true) true Tryz.f3.params.toList args.toList ds pp := hA0
  rw [Tryz.params3] at hA hval
  obtain ⟨v0, vs0, dd0, ds0, pp0, qq0, hargs, rfl, rfl, h0, r0⟩ := trodAll_cons hA
  obtain ⟨v1, vs1, dd1, ds1, pp1, qq1, rfl, rfl, rfl, h1, r1⟩ := trodAll_cons r0
  obtain ⟨v2, vs2, dd2, ds2, pp2, qq2, rfl, rfl, rfl, h2, r2⟩ := trodAll_cons r1
  obtain ⟨rfl, rfl, rfl⟩ := trodAll_nil r2
  obtain rfl : args = #[v0, v1, v2] := by cases args; simp_all
  have hV2 := hV
  obtain ⟨_, _, _, _, _, _, _, _, _, _, _, _, rfl, -⟩ := trodVars_two hV2
  have k0 := h0
  have lt0 : ∀ x ∈ pp0, x.block < W.heap.size := by obtain ⟨m, hm⟩ := k0; exact DataW.trod_lt m _ _ _ hm
  obtain ⟨A0, n0, c0, L0, rfl, w0, m0⟩ := open_store (hval 0 24 v0 rfl rfl) h0
  have k1 := h1
  have lt1 : ∀ x ∈ pp1, x.block < W.heap.size := by obtain ⟨m, hm⟩ := k1; exact DataW.trod_lt m _ _ _ hm
  obtain ⟨x1, A1, n1, c1, R1, B1, p1, d1, Q1, rfl, w1, m1, u1, o1⟩ := open_tx (hval 1 28 v1 rfl rfl) h1
  obtain ⟨a2, rfl, rfl, rfl, w2⟩ := open_int Tryz.underlying3 (hval 2 3 v2 rfl rfl) h2
  clear hA0 hval0
  refine (walk A0 n0 c0 L0 x1 A1 n1 c1 R1 B1 p1 d1 Q1 a2 W w0 m0 w1 m1 u1 o1 w2 (facts hL)).mono fun e W' ⟨he, bel⟩ => ?_
  subst he
  exact ⟨_, rfl, _, _, _, [], _, _, hW', trodAll_mk1 (shut_bool Tryz.underlying4 _), (trodAll_cons_mk (Below.trod laidOut (by kernel_rfl) (of_decide_eq_true (by kernel_rfl)) k0 bel lt0) (trodAll_cons_mk (Below.trod laidOut (by kernel_rfl) (of_decide_eq_true (by kernel_rfl)) k1 bel lt1) (trodAll_cons_mk (shut_int Tryz.underlying3 w2) trodAll_mk0))), bel.trodVars laidOut (by kernel_rfl) hV, bel.frame _, fun h => by cases h⟩

set_option maxRecDepth 100000 in
theorem laid_met (os : Os) : laidMetH Tryz.prog Rows.fnExactCommitTransactionRow.laid ((laidWorld os).forCall (fun _ _ => 0) ⟨#[], #[.agg #[.slice none 0 0], .agg #[.int .i64 0, .int .i64 0, .int .i64 0, .int .i64 0, .int .i64 0, .int .i64 0, .int .i64 0, .slice none 0 0, .slice none 0 0], .int .i64 0], []⟩).memory :=
  laidMet_of_run' 8 (by kernel_rfl) (by kernel_rfl)
set_option maxRecDepth 100000 in
theorem reads (os : Os) {H : Type} (enc : TypeId × Value → H) : ∃ gs places, DataW.whole enc Tryz.prog ((laidWorld os).forCall (fun _ _ => 0) ⟨#[], #[.agg #[.slice none 0 0], .agg #[.int .i64 0, .int .i64 0, .int .i64 0, .int .i64 0, .int .i64 0, .int .i64 0, .int .i64 0, .slice none 0 0, .slice none 0 0], .int .i64 0], []⟩).memory Tryz.f3.params.toList Rows.fnExactCommitTransactionSpec.vars false (#[.agg #[.slice none 0 0], .agg #[.int .i64 0, .int .i64 0, .int .i64 0, .int .i64 0, .int .i64 0, .int .i64 0, .int .i64 0, .slice none 0 0, .slice none 0 0], .int .i64 0] : Array Value).toList 8 = some (readArgs H, gs, places) := by
  have h : (DataW.whole enc Tryz.prog ((laidWorld os).forCall (fun _ _ => 0) ⟨#[], #[.agg #[.slice none 0 0], .agg #[.int .i64 0, .int .i64 0, .int .i64 0, .int .i64 0, .int .i64 0, .int .i64 0, .int .i64 0, .slice none 0 0, .slice none 0 0], .int .i64 0], []⟩).memory Tryz.f3.params.toList Rows.fnExactCommitTransactionSpec.vars false (#[.agg #[.slice none 0 0], .agg #[.int .i64 0, .int .i64 0, .int .i64 0, .int .i64 0, .int .i64 0, .int .i64 0, .int .i64 0, .slice none 0 0, .slice none 0 0], .int .i64 0] : Array Value).toList 8).map (fun x => x.1) = some (readArgs H) := by kernel_rfl
  rcases hw : DataW.whole enc Tryz.prog ((laidWorld os).forCall (fun _ _ => 0) ⟨#[], #[.agg #[.slice none 0 0], .agg #[.int .i64 0, .int .i64 0, .int .i64 0, .int .i64 0, .int .i64 0, .int .i64 0, .int .i64 0, .slice none 0 0, .slice none 0 0], .int .i64 0], []⟩).memory Tryz.f3.params.toList Rows.fnExactCommitTransactionSpec.vars false (#[.agg #[.slice none 0 0], .agg #[.int .i64 0, .int .i64 0, .int .i64 0, .int .i64 0, .int .i64 0, .int .i64 0, .int .i64 0, .slice none 0 0, .slice none 0 0], .int .i64 0] : Array Value).toList 8 with _ | ⟨a, b, c⟩
  · rw [hw] at h; cases h
  · rw [hw] at h
    simp only [Option.map_some, Option.some.injEq] at h
    subst h
    exact ⟨b, c, rfl⟩
set_option maxRecDepth 100000 in
theorem lifted (os : Os) (started : os.Started) (H : Type) (enc : TypeId × Value → H) (F : Stop.Interp) :
    ReturnsInHanded {} Tryz.checked os 3 .any ((OpenSpec.ofChange Rows.fnExactCommitTransactionSpec).preRow enc Tryz.prog Tryz.f3 Rows.fnExactCommitTransactionRow.domain false Rows.fnExactCommitTransactionRow.laid) (((OpenSpec.ofChange Rows.fnExactCommitTransactionSpec).at F).post enc Tryz.prog Tryz.f3 false true false false) := by
  obtain ⟨gs0, places, hx⟩ := reads os enc
  refine returnsInHanded_of_row (C := Tryz.checked) (s := OpenSpec.ofChange Rows.fnExactCommitTransactionSpec) own started (by kernel_rfl) Tryz.func3
    (witness_row_at (enc := enc) (C := Tryz.checked) false (laidWorld os) #[.agg #[.slice none 0 0], .agg #[.int .i64 0, .int .i64 0, .int .i64 0, .int .i64 0, .int .i64 0, .int .i64 0, .int .i64 0, .slice none 0 0, .slice none 0 0], .int .i64 0] rfl (by kernel_rfl) (by kernel_rfl) (by kernel_rfl)
      (OpenSpec.preRow_of_cond 8 hx (by kernel_rfl) (fun k hk => by cases hk) (by kernel_rfl) (laid_met os))) ?_
  intro W base args ds gs before hval hW _ _ _ hL _ _
  exact contract H enc W base args ds gs before hval hW hL

theorem said : Rows.FnExactCommitTransactionSaid :=
  OpenClaim.holds_of_cond 3 Tryz.f3 rfl rfl rfl rfl rfl rfl rfl ⟨rfl, rfl, rfl, rfl, rfl⟩ rfl rfl rfl rfl rfl (by kernel_rfl) Tryz.func3 (by kernel_rfl)
    (of_decide_eq_true (by kernel_rfl)) (by unfold Func.isWrapper; first | (rw [if_pos (by decide +kernel)]; kernel_rfl) | (rw [if_neg (by decide +kernel)]; exact ⟨rfl, rfl⟩))
    (fun os started H enc _ F => by rw [OpenClaim.pre_eq_preRow]; exact lifted os started H enc F)
theorem plain (f : FuncId) (fn : Func) (hf : Tryz.pinned.checked.prog.funcNamed "loop.example/g01924/laws.FnExactCommitTransaction" = some f) (hfn : Tryz.pinned.checked.prog.funcs[f]? = some fn) :
    false = Tryz.pinned.checked.prog.looks [] ∧ ∀ (j : Nat) t, fn.params[j]? = some t → Tryz.pinned.checked.prog.wantsStandIn t = false := by
  obtain rfl : f = 3 := Option.some.inj ((show Tryz.prog.funcNamed "loop.example/g01924/laws.FnExactCommitTransaction" = some 3 by kernel_rfl).symm.trans hf) |>.symm
  obtain rfl : fn = Tryz.f3 := (Option.some.inj (Tryz.func3.symm.trans hfn)).symm
  refine ⟨by kernel_rfl, fun j t ht => ?_⟩
  rw [Tryz.params3] at ht
  have hm : t ∈ [24, 28, 3] := by simpa using Array.mem_of_getElem? ht
  have hall : ([24, 28, 3].all fun u => !Tryz.prog.wantsStandIn u) = true := by kernel_rfl
  exact (show Tryz.prog.wantsStandIn t = false by simpa using List.all_eq_true.1 hall t hm)

/-- THE CARD -/
theorem card : Rows.FnExactCommitTransactionCardSaid :=
  Claim7.holds_tied_plain_at .later [] _ _ _ _ said (fun _ h => by cases h) (by kernel_rfl) (fun _ h => by cases h) fnExactCommitTransaction_row_tie rfl ⟨rfl, rfl⟩ (by kernel_rfl) rfl plain (by kernel_rfl)
#print axioms card
end Go.Proofs.YthbbpfgjbidbhaaGreatDoor.fnExactCommitTransaction
