/- CommittedStamp of the program answers as its model at every transaction: the law returns true and writes nothing that was there. No condition. -/
import Derived.Test.YtigbknmiidhblaaCst
import Derived.WalkKit
import Derived.ProofKit
import Derived.OpenShut
import Derived.ShutString
import Derived.ChangeOld
import Derived.Below
import Derived.Carry
import Derived.Lib.Hide
import Derived.StillTailTactics
import Derived.Deep.RegionHeld3
import Derived.Deep.DeepHandedRow
namespace Go.Proofs.Ytigbknmiidhblaa.fnExactCommittedStamp
open Go.ChangeShapes Go.WideShapes Go.ChangeAt Go.RowKit
open Go.ChangeMaps (open_string shut_string)
open Go.Proofs.Ytigbknmiidhblaa.el2
open Go.Proofs.Ytigbknmiidhblaa.tx
open Go.Proofs.Ytigbknmiidhblaa.vers (new2 new3)
set_option linter.unusedVariables false
theorem own : ownKnob Try.prog.godebug = none := by kernel_rfl
theorem laidOut : laidOutB Try.prog = true := by kernel_rfl
theorem walk (x0 : Hd) (A0 : Option Addr) (n0 c0 : Nat) (R0 : List E2) (B0 : Option Addr) (p0 d0 : Nat) (Q0 : List E2) (w : World) (h0 : Go.Proofs.Ytigbknmiidhblaa.el2.Vs w w.heap.size A0 n0 R0) (m0 : n0 ≤ maxLen) (g0 : Go.Proofs.Ytigbknmiidhblaa.el2.Vs w w.heap.size B0 p0 Q0) (o0 : p0 ≤ maxLen) :
    Calls Try.prog 4 #[.agg #[.int .i64 x0.i, .int .i64 x0.s, .int .i64 x0.t, .int .i64 x0.b, .int .i64 x0.l, .int .i64 x0.h, .int .i64 x0.c, .slice A0 n0 c0, .slice B0 p0 d0]] w fun e w' => e = .returned (.bool true) ∧ Below w.heap.size w w' := by
  unfold maxLen at m0 o0
  have H0 := Lib.hid h0
  have G0 := Lib.hid g0
  have hlen0 := h0.1
  have hlem0 := g0.1
  clear h0 g0
  by_cases hbig0 : (1048576 : Int) < n0 + p0
  · have hz := szT_no (left := (1048576 : Int)) (n := n0) (n2 := p0) (by omega)
    have HZ0 := Lib.hid hz
    clear hz
    go_enter Try.func4, Try.ntmps4
    go_wp2_with fail
    have hx0 := TB.new w x0 A0 n0 c0 B0 p0 d0 25
    have hl0 : w.heap.size < (w.alloc (.cells #[.int .i64 x0.i, .int .i64 x0.s, .int .i64 x0.t, .int .i64 x0.b, .int .i64 x0.l, .int .i64 x0.h, .int .i64 x0.c, .slice A0 n0 c0, .slice B0 p0 d0] 25)).heap.size := by simp; try omega
    have hb := Go.Proofs.Ytigbknmiidhblaa.el2.new1 w (.cells #[.int .i64 x0.i, .int .i64 x0.s, .int .i64 x0.t, .int .i64 x0.b, .int .i64 x0.l, .int .i64 x0.h, .int .i64 x0.c, .slice A0 n0 c0, .slice B0 p0 d0] 25)
    generalize (w.alloc (.cells #[.int .i64 x0.i, .int .i64 x0.s, .int .i64 x0.t, .int .i64 x0.b, .int .i64 x0.l, .int .i64 x0.h, .int .i64 x0.c, .slice A0 n0 c0, .slice B0 p0 d0] 25)) = W1 at hx0 hl0 hb ⊢
    have HB1 : Hid (Below w.heap.size w W1) := Lib.hid hb
    have HS1 : Hid (Below w.heap.size w W1) := Lib.hid hb
    clear hb
    have b0_1 := Lib.hid hx0
    have b0l_1 := hl0
    clear hx0 hl0
    refine (count_tx x0 A0 n0 c0 B0 p0 d0 _ _ (by omega) (by omega) (by omega) (by omega)).mono ?_
    rintro e W2 ⟨rfl, hb⟩
    rw [HZ0.out]
    have HB2 : Hid (Below w.heap.size w W2) := Lib.hid (HB1.out.trans (hb.mono HB1.out.size))
    have HS2 : Hid (Below W1.heap.size W1 W2) := Lib.hid hb
    clear hb
    have b0_2 := Lib.hid ((b0_1.out).keep b0l_1 (HS2.out))
    have b0l_2 := Nat.lt_of_lt_of_le b0l_1 HS2.out.size
    clear b0_1 b0l_1
    go_wp2_with fail
    go_ret
    exact ⟨rfl, HB2.out⟩
  have hz := szT_yes (left := (1048576 : Int)) (n := n0) (n2 := p0) (by omega)
  have HZ0 := Lib.hid hz
  clear hz
  obtain ⟨lf0, hlf⟩ : ∃ lf : Int, lf = (1048576 : Int) - (n0 : Int) - (p0 : Int) := ⟨_, rfl⟩
  have hz := HZ0.out
  clear HZ0
  rw [← hlf] at hz
  have HZ0 := Lib.hid hz
  have tz0 : decide (lf0 < 0) = false := decide_eq_false (by omega)
  have lf00 : 0 ≤ lf0 := by omega
  have lf10 : lf0 ≤ 1048576 := by omega
  clear hlf hz
  obtain ⟨q0, hq0⟩ : ∃ q, Go.Proofs.Ytigbknmiidhblaa.cq.cstI x0 R0 Q0 = q := ⟨_, rfl⟩
  have HQ0 := Lib.hid hq0
  clear hq0
  go_enter Try.func4, Try.ntmps4
  go_wp2_with fail
  have hx0 := TB.new w x0 A0 n0 c0 B0 p0 d0 25
  have hl0 : w.heap.size < (w.alloc (.cells #[.int .i64 x0.i, .int .i64 x0.s, .int .i64 x0.t, .int .i64 x0.b, .int .i64 x0.l, .int .i64 x0.h, .int .i64 x0.c, .slice A0 n0 c0, .slice B0 p0 d0] 25)).heap.size := by simp; try omega
  have hb := Go.Proofs.Ytigbknmiidhblaa.el2.new1 w (.cells #[.int .i64 x0.i, .int .i64 x0.s, .int .i64 x0.t, .int .i64 x0.b, .int .i64 x0.l, .int .i64 x0.h, .int .i64 x0.c, .slice A0 n0 c0, .slice B0 p0 d0] 25)
  generalize (w.alloc (.cells #[.int .i64 x0.i, .int .i64 x0.s, .int .i64 x0.t, .int .i64 x0.b, .int .i64 x0.l, .int .i64 x0.h, .int .i64 x0.c, .slice A0 n0 c0, .slice B0 p0 d0] 25)) = W1 at hx0 hl0 hb ⊢
  have HB1 : Hid (Below w.heap.size w W1) := Lib.hid hb
  have HS1 : Hid (Below w.heap.size w W1) := Lib.hid hb
  clear hb
  have b0_1 := Lib.hid hx0
  have b0l_1 := hl0
  clear hx0 hl0
  refine (count_tx x0 A0 n0 c0 B0 p0 d0 _ _ (by omega) (by omega) (by omega) (by omega)).mono ?_
  rintro e W2 ⟨rfl, hb⟩
  rw [HZ0.out]
  have HB2 : Hid (Below w.heap.size w W2) := Lib.hid (HB1.out.trans (hb.mono HB1.out.size))
  have HS2 : Hid (Below W1.heap.size W1 W2) := Lib.hid hb
  clear hb
  have b0_2 := Lib.hid ((b0_1.out).keep b0l_1 (HS2.out))
  have b0l_2 := Nat.lt_of_lt_of_le b0l_1 HS2.out.size
  clear b0_1 b0l_1
  obtain ⟨b0c0, b0c1, b0c2, b0c3, b0c4, b0c5, b0c6, b0c7, b0c8⟩ := b0_2.out
  go_wp2_with fail
  refine (Go.Proofs.Ytigbknmiidhblaa.tx.copied_tx x0 (by omega) (by omega) (H0.out.below HB2.out) (G0.out.below HB2.out) (HB2.out).size).mono ?_
  rintro e W3 ⟨Ns1, Ms1, rfl, hv, hu, hb⟩
  have HB3 : Hid (Below w.heap.size w W3) := Lib.hid (HB2.out.trans (hb.mono HB2.out.size))
  have HS3 : Hid (Below W2.heap.size W2 W3) := Lib.hid hb
  clear hb
  have b0_3 := Lib.hid ((b0_2.out).keep b0l_2 (HS3.out))
  have b0l_3 := Nat.lt_of_lt_of_le b0l_2 HS3.out.size
  clear b0_2 b0l_2
  have s1r_3 := Lib.hid hv
  clear hv
  have s1w_3 := Lib.hid hu
  clear hu
  clear b0c0 b0c1 b0c2 b0c3 b0c4 b0c5 b0c6 b0c7 b0c8
  go_wp2_with fail
  refine (Go.Proofs.Ytigbknmiidhblaa.cst.spec_cst x0 (by omega) (by omega) s1r_3.out s1w_3.out (Nat.le_refl _)).mono ?_
  rintro e W4 ⟨he, hb⟩
  rw [HQ0.out] at he
  subst he
  have HB4 : Hid (Below w.heap.size w W4) := Lib.hid (HB3.out.trans (hb.mono HB3.out.size))
  have HS4 : Hid (Below W3.heap.size W3 W4) := Lib.hid hb
  clear hb
  have b0_4 := Lib.hid ((b0_3.out).keep b0l_3 (HS4.out))
  have b0l_4 := Nat.lt_of_lt_of_le b0l_3 HS4.out.size
  clear b0_3 b0l_3
  have s1r_4 := Lib.hid ((s1r_3.out.below HS4.out).more HS4.out.size)
  clear s1r_3
  have s1w_4 := Lib.hid ((s1w_3.out.below HS4.out).more HS4.out.size)
  clear s1w_3
  obtain ⟨b0c0, b0c1, b0c2, b0c3, b0c4, b0c5, b0c6, b0c7, b0c8⟩ := b0_4.out
  go_wp2_with fail
  refine (Go.Proofs.Ytigbknmiidhblaa.tx.copied_tx x0 (by omega) (by omega) (H0.out.below HB4.out) (G0.out.below HB4.out) (HB4.out).size).mono ?_
  rintro e W5 ⟨Ns2, Ms2, rfl, hv, hu, hb⟩
  have HB5 : Hid (Below w.heap.size w W5) := Lib.hid (HB4.out.trans (hb.mono HB4.out.size))
  have HS5 : Hid (Below W4.heap.size W4 W5) := Lib.hid hb
  clear hb
  have b0_5 := Lib.hid ((b0_4.out).keep b0l_4 (HS5.out))
  have b0l_5 := Nat.lt_of_lt_of_le b0l_4 HS5.out.size
  clear b0_4 b0l_4
  have s1r_5 := Lib.hid ((s1r_4.out.below HS5.out).more HS5.out.size)
  clear s1r_4
  have s1w_5 := Lib.hid ((s1w_4.out.below HS5.out).more HS5.out.size)
  clear s1w_4
  have s2r_5 := Lib.hid hv
  clear hv
  have s2w_5 := Lib.hid hu
  clear hu
  clear b0c0 b0c1 b0c2 b0c3 b0c4 b0c5 b0c6 b0c7 b0c8
  go_wp2_with fail
  have hx0 := TB.new W5 x0 (some ⟨Ns2, 0, none⟩) n0 n0 (some ⟨Ms2, 0, none⟩) p0 p0 30
  have hl0 : W5.heap.size < (W5.alloc (.cells #[.int .i64 x0.i, .int .i64 x0.s, .int .i64 x0.t, .int .i64 x0.b, .int .i64 x0.l, .int .i64 x0.h, .int .i64 x0.c, .slice (some ⟨Ns2, 0, none⟩) n0 n0, .slice (some ⟨Ms2, 0, none⟩) p0 p0] 30)).heap.size := by simp; try omega
  have hb := Go.Proofs.Ytigbknmiidhblaa.el2.new1 W5 (.cells #[.int .i64 x0.i, .int .i64 x0.s, .int .i64 x0.t, .int .i64 x0.b, .int .i64 x0.l, .int .i64 x0.h, .int .i64 x0.c, .slice (some ⟨Ns2, 0, none⟩) n0 n0, .slice (some ⟨Ms2, 0, none⟩) p0 p0] 30)
  generalize (W5.alloc (.cells #[.int .i64 x0.i, .int .i64 x0.s, .int .i64 x0.t, .int .i64 x0.b, .int .i64 x0.l, .int .i64 x0.h, .int .i64 x0.c, .slice (some ⟨Ns2, 0, none⟩) n0 n0, .slice (some ⟨Ms2, 0, none⟩) p0 p0] 30)) = W6 at hx0 hl0 hb ⊢
  have HB6 : Hid (Below w.heap.size w W6) := Lib.hid (HB5.out.trans (hb.mono HB5.out.size))
  have HS6 : Hid (Below W5.heap.size W5 W6) := Lib.hid hb
  clear hb
  have b0_6 := Lib.hid ((b0_5.out).keep b0l_5 (HS6.out))
  have b0l_6 := Nat.lt_of_lt_of_le b0l_5 HS6.out.size
  clear b0_5 b0l_5
  have s1r_6 := Lib.hid ((s1r_5.out.below HS6.out).more HS6.out.size)
  clear s1r_5
  have s1w_6 := Lib.hid ((s1w_5.out.below HS6.out).more HS6.out.size)
  clear s1w_5
  have s2r_6 := Lib.hid ((s2r_5.out.below HS6.out).more HS6.out.size)
  clear s2r_5
  have s2w_6 := Lib.hid ((s2w_5.out.below HS6.out).more HS6.out.size)
  clear s2w_5
  have b1_6 := Lib.hid hx0
  have b1l_6 := hl0
  clear hx0 hl0
  refine (Go.Proofs.Ytigbknmiidhblaa.cst.impl_cst x0 (by omega) (by omega) s2r_6.out s2w_6.out (Nat.le_refl _)).mono ?_
  rintro e W7 ⟨he, hb⟩
  rw [HQ0.out] at he
  subst he
  have HB7 : Hid (Below w.heap.size w W7) := Lib.hid (HB6.out.trans (hb.mono HB6.out.size))
  have HS7 : Hid (Below W6.heap.size W6 W7) := Lib.hid hb
  clear hb
  have b0_7 := Lib.hid ((b0_6.out).keep b0l_6 (HS7.out))
  have b0l_7 := Nat.lt_of_lt_of_le b0l_6 HS7.out.size
  clear b0_6 b0l_6
  have b1_7 := Lib.hid ((b1_6.out).keep b1l_6 (HS7.out))
  have b1l_7 := Nat.lt_of_lt_of_le b1l_6 HS7.out.size
  clear b1_6 b1l_6
  have s1r_7 := Lib.hid ((s1r_6.out.below HS7.out).more HS7.out.size)
  clear s1r_6
  have s1w_7 := Lib.hid ((s1w_6.out.below HS7.out).more HS7.out.size)
  clear s1w_6
  have s2r_7 := Lib.hid ((s2r_6.out.below HS7.out).more HS7.out.size)
  clear s2r_6
  have s2w_7 := Lib.hid ((s2w_6.out.below HS7.out).more HS7.out.size)
  clear s2w_6
  go_wp2_with fail
  have hbk0 : Below W7.heap.size W7 W7.drew := (Below.refl _ _).drew
  have hbw0 := HB7.out.trans (hbk0.mono HB7.out.size)
  obtain ⟨b1c0, b1c1, b1c2, b1c3, b1c4, b1c5, b1c6, b1c7, b1c8⟩ := b1_7.out
  obtain ⟨b0c0, b0c1, b0c2, b0c3, b0c4, b0c5, b0c6, b0c7, b0c8⟩ := b0_7.out
  go_region_held3 (fun w' => w'.cell? ⟨W5.heap.size, 0, none⟩ = some (.int .i64 x0.i) ∧ w'.cell? ⟨W5.heap.size, 1, none⟩ = some (.int .i64 x0.s) ∧ w'.cell? ⟨W5.heap.size, 2, none⟩ = some (.int .i64 x0.t) ∧ w'.cell? ⟨W5.heap.size, 3, none⟩ = some (.int .i64 x0.b) ∧ w'.cell? ⟨W5.heap.size, 4, none⟩ = some (.int .i64 x0.l) ∧ w'.cell? ⟨W5.heap.size, 5, none⟩ = some (.int .i64 x0.h) ∧ w'.cell? ⟨W5.heap.size, 6, none⟩ = some (.int .i64 x0.c) ∧ w'.cell? ⟨W5.heap.size, 7, none⟩ = some (.slice (some ⟨Ns2, 0, none⟩) n0 n0) ∧ w'.cell? ⟨W5.heap.size, 8, none⟩ = some (.slice (some ⟨Ms2, 0, none⟩) p0 p0) ∧ w'.cell? ⟨w.heap.size, 0, none⟩ = some (.int .i64 x0.i) ∧ w'.cell? ⟨w.heap.size, 1, none⟩ = some (.int .i64 x0.s) ∧ w'.cell? ⟨w.heap.size, 2, none⟩ = some (.int .i64 x0.t) ∧ w'.cell? ⟨w.heap.size, 3, none⟩ = some (.int .i64 x0.b) ∧ w'.cell? ⟨w.heap.size, 4, none⟩ = some (.int .i64 x0.l) ∧ w'.cell? ⟨w.heap.size, 5, none⟩ = some (.int .i64 x0.h) ∧ w'.cell? ⟨w.heap.size, 6, none⟩ = some (.int .i64 x0.c) ∧ w'.cell? ⟨w.heap.size, 7, none⟩ = some (.slice A0 n0 c0) ∧ w'.cell? ⟨w.heap.size, 8, none⟩ = some (.slice B0 p0 d0)) (go_keep) (first | (go_at_call 10; (with_reducible refine (same_tx x0 (by omega) (by omega) ((s2r_7.out.below hbk1).more hbk1.size) s3ra1 ((s2w_7.out.below hbk1).more hbk1.size) s3wa1 (Nat.le_refl _)).mono ?_); rintro e W8 ⟨rfl, hb⟩; have hbk2 := hbk1.trans (hb.mono hbk1.size); have hbw2 := HB7.out.trans (hbk2.mono HB7.out.size); have s3ra2 := (s3ra1.below hb).more hb.size; have s3wa2 := (s3wa1.below hb).more hb.size; clear hb ; obtain ⟨b1d20, b1d21, b1d22, b1d23, b1d24, b1d25, b1d26, b1d27, b1d28⟩ := ((b1_7.out).keep b1l_7 (hbk2)); obtain ⟨b0d20, b0d21, b0d22, b0d23, b0d24, b0d25, b0d26, b0d27, b0d28⟩ := ((b0_7.out).keep b0l_7 (hbk2))) | (go_at_call 8; (with_reducible refine (Go.Proofs.Ytigbknmiidhblaa.tx.copied_tx x0 (by omega) (by omega) (H0.out.below hbw0) (G0.out.below hbw0) (hbw0).size).mono ?_); rintro e Wa1 ⟨Ns3, Ms3, rfl, hv, hu, hb⟩; have hbk1 := hbk0.trans (hb.mono hbk0.size); have hbw1 := HB7.out.trans (hbk1.mono HB7.out.size); have s3ra1 := hv; have s3wa1 := hu; clear hb hv hu; obtain ⟨b1d10, b1d11, b1d12, b1d13, b1d14, b1d15, b1d16, b1d17, b1d18⟩ := ((b1_7.out).keep b1l_7 (hbk1)); obtain ⟨b0d10, b0d11, b0d12, b0d13, b0d14, b0d15, b0d16, b0d17, b0d18⟩ := ((b0_7.out).keep b0l_7 (hbk1))))
  have hb := hbk2
  clear hbk0 hbw0 s3ra1 s3wa1 b1d10 b1d11 b1d12 b1d13 b1d14 b1d15 b1d16 b1d17 b1d18 b0d10 b0d11 b0d12 b0d13 b0d14 b0d15 b0d16 b0d17 b0d18 hbk1 hbw1 s3ra2 s3wa2 b1d20 b1d21 b1d22 b1d23 b1d24 b1d25 b1d26 b1d27 b1d28 b0d20 b0d21 b0d22 b0d23 b0d24 b0d25 b0d26 b0d27 b0d28 hbk2 hbw2 b1c0 b1c1 b1c2 b1c3 b1c4 b1c5 b1c6 b1c7 b1c8 b0c0 b0c1 b0c2 b0c3 b0c4 b0c5 b0c6 b0c7 b0c8
  have HB8 : Hid (Below w.heap.size w W8) := Lib.hid (HB7.out.trans (hb.mono HB7.out.size))
  have HS8 : Hid (Below W7.heap.size W7 W8) := Lib.hid hb
  clear hb
  have b0_8 := Lib.hid ((b0_7.out).keep b0l_7 (HS8.out))
  have b0l_8 := Nat.lt_of_lt_of_le b0l_7 HS8.out.size
  clear b0_7 b0l_7
  have b1_8 := Lib.hid ((b1_7.out).keep b1l_7 (HS8.out))
  have b1l_8 := Nat.lt_of_lt_of_le b1l_7 HS8.out.size
  clear b1_7 b1l_7
  have s1r_8 := Lib.hid ((s1r_7.out.below HS8.out).more HS8.out.size)
  clear s1r_7
  have s1w_8 := Lib.hid ((s1w_7.out.below HS8.out).more HS8.out.size)
  clear s1w_7
  have s2r_8 := Lib.hid ((s2r_7.out.below HS8.out).more HS8.out.size)
  clear s2r_7
  have s2w_8 := Lib.hid ((s2w_7.out.below HS8.out).more HS8.out.size)
  clear s2w_7
  go_wp2_with fail
  go_ret
  exact ⟨rfl, HB8.out⟩
/-! ### THE ROW's STEP -/
set_option maxRecDepth 100000 in
theorem lifted (os : Os) (started : os.Started) (H : Type) (enc : TypeId × Value → H) :
    ReturnsInHanded {} Try.checked os 4 .any (Rows.fnExactCommittedStampSpec.pre6 enc Try.prog Try.f4 Rows.fnExactCommittedStampRow.domain false) (Rows.fnExactCommittedStampSpec.post enc Try.prog Try.f4 false true false false) := by
  refine returnsInHanded_of_change (C := Try.checked) own started (by kernel_rfl) Try.func4
    (ChangeSpec.witness6 (enc := enc) (C := Try.checked) false ⟨#[], #[.agg #[.int .i64 0, .int .i64 0, .int .i64 0, .int .i64 0, .int .i64 0, .int .i64 0, .int .i64 0, .slice none 0 0, .slice none 0 0]], []⟩ 8 (by kernel_rfl) (by kernel_rfl) (by kernel_rfl) (by kernel_rfl)) ?_
  intro W base args ds gs before hval0 hW hcnd _
  have hval : ∀ (j : Nat) t v, Try.f4.params[j]? = some t → args[j]? = some v → Value.okWide Try.prog W .any base t v := hval0
  have hW' := hW
  obtain ⟨pp, qq, hA0, hV, rfl, hfz, hnd⟩ := hW
  have hA : DataW.TrodAll enc Try.prog W 0 (fun _ => true) true Try.f4.params.toList args.toList ds pp := hA0
  rw [Try.params4] at hA hval
  obtain ⟨v0, vs0, dd0, ds0, pp0, qq0, hargs, rfl, rfl, h0, r0⟩ := trodAll_cons hA
  obtain ⟨rfl, rfl, rfl⟩ := trodAll_nil r0
  obtain rfl : args = #[v0] := by cases args; simp_all
  obtain ⟨rfl, rfl⟩ := trodVars_none hV
  have k0 := h0
  have lt0 : ∀ x ∈ pp0, x.block < W.heap.size := by obtain ⟨m, hm⟩ := k0; exact DataW.trod_lt m _ _ _ hm
  obtain ⟨x0, A0, n0, c0, R0, B0, p0, d0, Q0, rfl, w0, m0, u0, o0⟩ := open_tx (hval 0 25 v0 rfl rfl) h0
  clear hA0 hval0
  refine (walk x0 A0 n0 c0 R0 B0 p0 d0 Q0 W w0 m0 u0 o0).mono fun e W' ⟨he, bel⟩ => ?_
  subst he
  exact ⟨_, rfl, _, _, _, [], _, [], hW', trodAll_mk1 (shut_bool Try.underlying4 _), (trodAll_cons_mk (Below.trod laidOut (by kernel_rfl) (of_decide_eq_true (by kernel_rfl)) k0 bel lt0) trodAll_mk0), rfl, bel.frame _, fun h => by cases h⟩

theorem over : Rows.fnExactCommittedStampRow.holds Try.pinned (OpenSpec.ofChange Rows.fnExactCommittedStampSpec) :=
  OpenClaim.holds_of_wide 4 Try.f4 rfl rfl rfl rfl rfl rfl rfl ⟨rfl, rfl, rfl, rfl, rfl⟩ rfl rfl rfl rfl rfl (by kernel_rfl) Try.func4 (by kernel_rfl)
    (of_decide_eq_true (by kernel_rfl)) (by unfold Func.isWrapper; first | (rw [if_pos (by decide +kernel)]; kernel_rfl) | (rw [if_neg (by decide +kernel)]; exact ⟨rfl, rfl⟩))
    (fun os started H enc _ => lifted os started H enc)

/-- THE STATEMENT -/
theorem proved : Rows.FnExactCommittedStampSaid := over
#print axioms proved
end Go.Proofs.Ytigbknmiidhblaa.fnExactCommittedStamp
