/- AbortTransaction of the program answers as its model at every transaction, in memory of its own: the law returns true and writes nothing that was there. No condition. -/
import Derived.Test.YtigbknmiidhblaaAbt
import Derived.Test.YtigbknmiidhblaaLt
import Derived.Test.YtigbknmiidhblaaLw
import Derived.Test.YtigbknmiidhblaaOpen
import Derived.WalkKit
import Derived.ProofKit
import Derived.OpenShut
import Derived.ShutString
import Derived.ChangeOld
import Derived.Below
import Derived.Carry
import Derived.Lib.Hide
import Derived.StillTailTactics
import Derived.Deep.RegionHeld3
import Derived.Deep.DeepHandedRow
namespace Go.Proofs.Ytigbknmiidhblaa.fnExactAbortTransaction
open Go.ChangeShapes Go.WideShapes Go.ChangeAt Go.RowKit
open Go.ChangeMaps (open_string shut_string)
open Go.Proofs.Ytigbknmiidhblaa.el2
open Go.Proofs.Ytigbknmiidhblaa.tx
open Go.Proofs.Ytigbknmiidhblaa.bx
open Go.Proofs.Ytigbknmiidhblaa.opn
open Go.Proofs.Ytigbknmiidhblaa.fr (FR)
open Go.Proofs.Ytigbknmiidhblaa.vers (new2 new3)
set_option linter.unusedVariables false
theorem own : ownKnob Try.prog.godebug = none := by kernel_rfl
theorem laidOut : laidOutB Try.prog = true := by kernel_rfl
set_option maxHeartbeats 6400000 in
theorem walk (x0 : Hd) (A0 : Option Addr) (n0 c0 : Nat) (R0 : List E2) (B0 : Option Addr) (p0 d0 : Nat) (Q0 : List E2) (w : World) (h0 : Go.Proofs.Ytigbknmiidhblaa.el2.Vs w w.heap.size A0 n0 R0) (m0 : n0 ≤ maxLen) (g0 : Go.Proofs.Ytigbknmiidhblaa.el2.Vs w w.heap.size B0 p0 Q0) (o0 : p0 ≤ maxLen) :
    Calls Try.prog 3 #[.agg #[.int .i64 x0.i, .int .i64 x0.s, .int .i64 x0.t, .int .i64 x0.b, .int .i64 x0.l, .int .i64 x0.h, .int .i64 x0.c, .slice A0 n0 c0, .slice B0 p0 d0]] w fun e w' => e = .returned (.bool true) ∧ Below w.heap.size w w' := by
  unfold maxLen at m0 o0
  have H0 := Lib.hid h0
  have G0 := Lib.hid g0
  have hlen0 := h0.1
  have hlem0 := g0.1
  clear h0 g0
  by_cases hbig0 : (1048576 : Int) < n0 + p0
  · have hz := szT_no (left := (1048576 : Int)) (n := n0) (n2 := p0) (by omega)
    have HZ0 := Lib.hid hz
    clear hz
    go_enter Try.func3, Try.ntmps3
    go_wp2_with fail
    have hx0 := TB.new w x0 A0 n0 c0 B0 p0 d0 25
    have hz : (w.alloc (.cells #[.int .i64 x0.i, .int .i64 x0.s, .int .i64 x0.t, .int .i64 x0.b, .int .i64 x0.l, .int .i64 x0.h, .int .i64 x0.c, .slice A0 n0 c0, .slice B0 p0 d0] 25)).heap.size = w.heap.size + 1 := by simp
    have hb := Go.Proofs.Ytigbknmiidhblaa.el2.new1 w (.cells #[.int .i64 x0.i, .int .i64 x0.s, .int .i64 x0.t, .int .i64 x0.b, .int .i64 x0.l, .int .i64 x0.h, .int .i64 x0.c, .slice A0 n0 c0, .slice B0 p0 d0] 25)
    generalize (w.alloc (.cells #[.int .i64 x0.i, .int .i64 x0.s, .int .i64 x0.t, .int .i64 x0.b, .int .i64 x0.l, .int .i64 x0.h, .int .i64 x0.c, .slice A0 n0 c0, .slice B0 p0 d0] 25)) = W1 at hx0 hb hz ⊢
    have HB1 : Hid (Below w.heap.size w W1) := Lib.hid hb
    have HS1 : Hid (Below w.heap.size w W1) := Lib.hid hb
    have HF1 : Hid (FR 0 0 w W1) := Lib.hid (FR.of_below hb)
    have hs1 : w.heap.size ≤ W1.heap.size := hb.size
    clear hb
    have hz1 : w.heap.size + 1 ≤ W1.heap.size := Nat.le_of_eq hz.symm
    clear hz
    have b0_1 := Lib.hid hx0
    clear hx0
    refine (count_tx x0 A0 n0 c0 B0 p0 d0 _ _ (by omega) (by omega) (by omega) (by omega)).mono ?_
    rintro e W2 ⟨rfl, hb⟩
    rw [HZ0.out]
    have HB2 : Hid (Below w.heap.size w W2) := Lib.hid (HB1.out.trans (hb.mono HB1.out.size))
    have HS2 : Hid (Below W1.heap.size W1 W2) := Lib.hid hb
    have HF2 : Hid (FR 0 0 W1 W2) := Lib.hid (FR.of_below hb)
    have hs2 : W1.heap.size ≤ W2.heap.size := hb.size
    clear hb
    have b0_2 := Lib.hid (Go.Proofs.Ytigbknmiidhblaa.tm.TB.fr b0_1.out HF2.out (by omega) (by omega))
    clear b0_1
    go_wp2_with fail
    go_ret
    exact ⟨rfl, HB2.out⟩
  have hz := szT_yes (left := (1048576 : Int)) (n := n0) (n2 := p0) (by omega)
  have HZ0 := Lib.hid hz
  clear hz
  obtain ⟨lf0, hlf⟩ : ∃ lf : Int, lf = (1048576 : Int) - (n0 : Int) - (p0 : Int) := ⟨_, rfl⟩
  have hz := HZ0.out
  clear HZ0
  rw [← hlf] at hz
  have HZ0 := Lib.hid hz
  have tz0 : decide (lf0 < 0) = false := decide_eq_false (by omega)
  have lf00 : 0 ≤ lf0 := by omega
  have lf10 : lf0 ≤ 1048576 := by omega
  clear hlf hz
  obtain ⟨q1, hq1⟩ : ∃ q, Go.Proofs.Ytigbknmiidhblaa.abt.abX x0 R0 Q0 = q := ⟨_, rfl⟩
  obtain ⟨q2, hq2⟩ : ∃ q, Go.Proofs.Ytigbknmiidhblaa.ia.actB x0 R0 Q0 = q := ⟨_, rfl⟩
  have HQ1 := Lib.hid hq1
  have HQ2 := Lib.hid hq2
  clear hq1 hq2
  go_enter Try.func3, Try.ntmps3
  go_wp2_with fail
  have hx0 := TB.new w x0 A0 n0 c0 B0 p0 d0 25
  have hz : (w.alloc (.cells #[.int .i64 x0.i, .int .i64 x0.s, .int .i64 x0.t, .int .i64 x0.b, .int .i64 x0.l, .int .i64 x0.h, .int .i64 x0.c, .slice A0 n0 c0, .slice B0 p0 d0] 25)).heap.size = w.heap.size + 1 := by simp
  have hb := Go.Proofs.Ytigbknmiidhblaa.el2.new1 w (.cells #[.int .i64 x0.i, .int .i64 x0.s, .int .i64 x0.t, .int .i64 x0.b, .int .i64 x0.l, .int .i64 x0.h, .int .i64 x0.c, .slice A0 n0 c0, .slice B0 p0 d0] 25)
  generalize (w.alloc (.cells #[.int .i64 x0.i, .int .i64 x0.s, .int .i64 x0.t, .int .i64 x0.b, .int .i64 x0.l, .int .i64 x0.h, .int .i64 x0.c, .slice A0 n0 c0, .slice B0 p0 d0] 25)) = W1 at hx0 hb hz ⊢
  have HB1 : Hid (Below w.heap.size w W1) := Lib.hid hb
  have HS1 : Hid (Below w.heap.size w W1) := Lib.hid hb
  have HF1 : Hid (FR 0 0 w W1) := Lib.hid (FR.of_below hb)
  have hs1 : w.heap.size ≤ W1.heap.size := hb.size
  clear hb
  have hz1 : w.heap.size + 1 ≤ W1.heap.size := Nat.le_of_eq hz.symm
  clear hz
  have b0_1 := Lib.hid hx0
  clear hx0
  refine (count_tx x0 A0 n0 c0 B0 p0 d0 _ _ (by omega) (by omega) (by omega) (by omega)).mono ?_
  rintro e W2 ⟨rfl, hb⟩
  rw [HZ0.out]
  have HB2 : Hid (Below w.heap.size w W2) := Lib.hid (HB1.out.trans (hb.mono HB1.out.size))
  have HS2 : Hid (Below W1.heap.size W1 W2) := Lib.hid hb
  have HF2 : Hid (FR 0 0 W1 W2) := Lib.hid (FR.of_below hb)
  have hs2 : W1.heap.size ≤ W2.heap.size := hb.size
  clear hb
  have b0_2 := Lib.hid (Go.Proofs.Ytigbknmiidhblaa.tm.TB.fr b0_1.out HF2.out (by omega) (by omega))
  clear b0_1
  obtain ⟨b0c0, b0c1, b0c2, b0c3, b0c4, b0c5, b0c6, b0c7, b0c8⟩ := b0_2.out
  have b0L : w.heap.size < W2.heap.size := by omega
  go_wp2_with fail
  refine (Go.Proofs.Ytigbknmiidhblaa.tm.own_tx x0 (by omega) (by omega) (H0.out.below HB2.out) (G0.out.below HB2.out) (HB2.out).size).mono ?_
  rintro e W3 ⟨Ns1, Ms1, rfl, hv, hb⟩
  have hvr := hv.1.vs (Nat.le_refl _)
  have hvw := hv.2.vs (Nat.le_refl _)
  have HB3 : Hid (Below w.heap.size w W3) := Lib.hid (HB2.out.trans (hb.mono HB2.out.size))
  have HS3 : Hid (Below W2.heap.size W2 W3) := Lib.hid hb
  have HF3 : Hid (FR 0 0 W2 W3) := Lib.hid (FR.of_below hb)
  have hs3 : W2.heap.size ≤ W3.heap.size := hb.size
  clear hb
  have b0_3 := Lib.hid (Go.Proofs.Ytigbknmiidhblaa.tm.TB.fr b0_2.out HF3.out (by omega) (by omega))
  clear b0_2
  have s1_3 := Lib.hid hv
  clear hv
  have s1r_3 := Lib.hid hvr
  clear hvr
  have s1w_3 := Lib.hid hvw
  clear hvw
  clear b0c0 b0c1 b0c2 b0c3 b0c4 b0c5 b0c6 b0c7 b0c8 b0L
  go_wp2_with fail
  refine (Go.Proofs.Ytigbknmiidhblaa.abt.spec_abort x0 (by omega) (by omega) s1r_3.out s1w_3.out (Nat.le_refl _)).mono ?_
  rintro e W4 ⟨As2, cs2, Bs2, ds2, he, ho, hb⟩
  rw [HQ1.out, HQ2.out] at he
  subst he
  have hv := Go.Proofs.Ytigbknmiidhblaa.lt.own_of ho (Nat.le_refl _) hlen0 hlem0
  have hvr := hv.1.vs (Nat.le_refl _)
  have hvw := hv.2.vs (Nat.le_refl _)
  clear ho
  have HB4 : Hid (Below w.heap.size w W4) := Lib.hid (HB3.out.trans (hb.mono HB3.out.size))
  have HS4 : Hid (Below W3.heap.size W3 W4) := Lib.hid hb
  have HF4 : Hid (FR 0 0 W3 W4) := Lib.hid (FR.of_below hb)
  have hs4 : W3.heap.size ≤ W4.heap.size := hb.size
  clear hb
  have b0_4 := Lib.hid (Go.Proofs.Ytigbknmiidhblaa.tm.TB.fr b0_3.out HF4.out (by omega) (by omega))
  clear b0_3
  have s1_4 := Lib.hid (s1_3.out.fr HF4.out (by omega) (by omega))
  clear s1_3
  have s1r_4 := Lib.hid ((s1r_3.out.below HS4.out).more HS4.out.size)
  clear s1r_3
  have s1w_4 := Lib.hid ((s1w_3.out.below HS4.out).more HS4.out.size)
  clear s1w_3
  have s2_4 := Lib.hid hv
  clear hv
  have s2r_4 := Lib.hid hvr
  clear hvr
  have s2w_4 := Lib.hid hvw
  clear hvw
  obtain ⟨b0c0, b0c1, b0c2, b0c3, b0c4, b0c5, b0c6, b0c7, b0c8⟩ := b0_4.out
  have b0L : w.heap.size < W4.heap.size := by omega
  go_wp2_with fail
  have hx0 := TB.new W4 q1 As2 n0 cs2 Bs2 p0 ds2 30
  have hz : (W4.alloc (.cells #[.int .i64 q1.i, .int .i64 q1.s, .int .i64 q1.t, .int .i64 q1.b, .int .i64 q1.l, .int .i64 q1.h, .int .i64 q1.c, .slice As2 n0 cs2, .slice Bs2 p0 ds2] 30)).heap.size = W4.heap.size + 1 := by simp
  have hb := Go.Proofs.Ytigbknmiidhblaa.el2.new1 W4 (.cells #[.int .i64 q1.i, .int .i64 q1.s, .int .i64 q1.t, .int .i64 q1.b, .int .i64 q1.l, .int .i64 q1.h, .int .i64 q1.c, .slice As2 n0 cs2, .slice Bs2 p0 ds2] 30)
  generalize (W4.alloc (.cells #[.int .i64 q1.i, .int .i64 q1.s, .int .i64 q1.t, .int .i64 q1.b, .int .i64 q1.l, .int .i64 q1.h, .int .i64 q1.c, .slice As2 n0 cs2, .slice Bs2 p0 ds2] 30)) = W5 at hx0 hb hz ⊢
  have HB5 : Hid (Below w.heap.size w W5) := Lib.hid (HB4.out.trans (hb.mono HB4.out.size))
  have HS5 : Hid (Below W4.heap.size W4 W5) := Lib.hid hb
  have HF5 : Hid (FR 0 0 W4 W5) := Lib.hid (FR.of_below hb)
  have hs5 : W4.heap.size ≤ W5.heap.size := hb.size
  clear hb
  have b0_5 := Lib.hid (Go.Proofs.Ytigbknmiidhblaa.tm.TB.fr b0_4.out HF5.out (by omega) (by omega))
  clear b0_4
  have s1_5 := Lib.hid (s1_4.out.fr HF5.out (by omega) (by omega))
  clear s1_4
  have s1r_5 := Lib.hid ((s1r_4.out.below HS5.out).more HS5.out.size)
  clear s1r_4
  have s1w_5 := Lib.hid ((s1w_4.out.below HS5.out).more HS5.out.size)
  clear s1w_4
  have s2_5 := Lib.hid (s2_4.out.fr HF5.out (by omega) (by omega))
  clear s2_4
  have s2r_5 := Lib.hid ((s2r_4.out.below HS5.out).more HS5.out.size)
  clear s2r_4
  have s2w_5 := Lib.hid ((s2w_4.out.below HS5.out).more HS5.out.size)
  clear s2w_4
  have hz5 : W4.heap.size + 1 ≤ W5.heap.size := Nat.le_of_eq hz.symm
  clear hz
  have b1_5 := Lib.hid hx0
  clear hx0
  refine (Go.Proofs.Ytigbknmiidhblaa.tm.own_tx x0 (by omega) (by omega) (H0.out.below HB5.out) (G0.out.below HB5.out) (HB5.out).size).mono ?_
  rintro e W6 ⟨Ns3, Ms3, rfl, hv, hb⟩
  have hvr := hv.1.vs (Nat.le_refl _)
  have hvw := hv.2.vs (Nat.le_refl _)
  have HB6 : Hid (Below w.heap.size w W6) := Lib.hid (HB5.out.trans (hb.mono HB5.out.size))
  have HS6 : Hid (Below W5.heap.size W5 W6) := Lib.hid hb
  have HF6 : Hid (FR 0 0 W5 W6) := Lib.hid (FR.of_below hb)
  have hs6 : W5.heap.size ≤ W6.heap.size := hb.size
  clear hb
  have b0_6 := Lib.hid (Go.Proofs.Ytigbknmiidhblaa.tm.TB.fr b0_5.out HF6.out (by omega) (by omega))
  clear b0_5
  have b1_6 := Lib.hid (Go.Proofs.Ytigbknmiidhblaa.tm.TB.fr b1_5.out HF6.out (by omega) (by omega))
  clear b1_5
  have s1_6 := Lib.hid (s1_5.out.fr HF6.out (by omega) (by omega))
  clear s1_5
  have s1r_6 := Lib.hid ((s1r_5.out.below HS6.out).more HS6.out.size)
  clear s1r_5
  have s1w_6 := Lib.hid ((s1w_5.out.below HS6.out).more HS6.out.size)
  clear s1w_5
  have s2_6 := Lib.hid (s2_5.out.fr HF6.out (by omega) (by omega))
  clear s2_5
  have s2r_6 := Lib.hid ((s2r_5.out.below HS6.out).more HS6.out.size)
  clear s2r_5
  have s2w_6 := Lib.hid ((s2w_5.out.below HS6.out).more HS6.out.size)
  clear s2w_5
  have s3_6 := Lib.hid hv
  clear hv
  have s3r_6 := Lib.hid hvr
  clear hvr
  have s3w_6 := Lib.hid hvw
  clear hvw
  clear b0c0 b0c1 b0c2 b0c3 b0c4 b0c5 b0c6 b0c7 b0c8 b0L
  go_wp2_with fail
  have hx0 := TB.new W6 x0 (some ⟨Ns3, 0, none⟩) n0 n0 (some ⟨Ms3, 0, none⟩) p0 p0 30
  have hz : (W6.alloc (.cells #[.int .i64 x0.i, .int .i64 x0.s, .int .i64 x0.t, .int .i64 x0.b, .int .i64 x0.l, .int .i64 x0.h, .int .i64 x0.c, .slice (some ⟨Ns3, 0, none⟩) n0 n0, .slice (some ⟨Ms3, 0, none⟩) p0 p0] 30)).heap.size = W6.heap.size + 1 := by simp
  have hb := Go.Proofs.Ytigbknmiidhblaa.el2.new1 W6 (.cells #[.int .i64 x0.i, .int .i64 x0.s, .int .i64 x0.t, .int .i64 x0.b, .int .i64 x0.l, .int .i64 x0.h, .int .i64 x0.c, .slice (some ⟨Ns3, 0, none⟩) n0 n0, .slice (some ⟨Ms3, 0, none⟩) p0 p0] 30)
  generalize (W6.alloc (.cells #[.int .i64 x0.i, .int .i64 x0.s, .int .i64 x0.t, .int .i64 x0.b, .int .i64 x0.l, .int .i64 x0.h, .int .i64 x0.c, .slice (some ⟨Ns3, 0, none⟩) n0 n0, .slice (some ⟨Ms3, 0, none⟩) p0 p0] 30)) = W7 at hx0 hb hz ⊢
  have HB7 : Hid (Below w.heap.size w W7) := Lib.hid (HB6.out.trans (hb.mono HB6.out.size))
  have HS7 : Hid (Below W6.heap.size W6 W7) := Lib.hid hb
  have HF7 : Hid (FR 0 0 W6 W7) := Lib.hid (FR.of_below hb)
  have hs7 : W6.heap.size ≤ W7.heap.size := hb.size
  clear hb
  have b0_7 := Lib.hid (Go.Proofs.Ytigbknmiidhblaa.tm.TB.fr b0_6.out HF7.out (by omega) (by omega))
  clear b0_6
  have b1_7 := Lib.hid (Go.Proofs.Ytigbknmiidhblaa.tm.TB.fr b1_6.out HF7.out (by omega) (by omega))
  clear b1_6
  have s1_7 := Lib.hid (s1_6.out.fr HF7.out (by omega) (by omega))
  clear s1_6
  have s1r_7 := Lib.hid ((s1r_6.out.below HS7.out).more HS7.out.size)
  clear s1r_6
  have s1w_7 := Lib.hid ((s1w_6.out.below HS7.out).more HS7.out.size)
  clear s1w_6
  have s2_7 := Lib.hid (s2_6.out.fr HF7.out (by omega) (by omega))
  clear s2_6
  have s2r_7 := Lib.hid ((s2r_6.out.below HS7.out).more HS7.out.size)
  clear s2r_6
  have s2w_7 := Lib.hid ((s2w_6.out.below HS7.out).more HS7.out.size)
  clear s2w_6
  have s3_7 := Lib.hid (s3_6.out.fr HF7.out (by omega) (by omega))
  clear s3_6
  have s3r_7 := Lib.hid ((s3r_6.out.below HS7.out).more HS7.out.size)
  clear s3r_6
  have s3w_7 := Lib.hid ((s3w_6.out.below HS7.out).more HS7.out.size)
  clear s3w_6
  have hz7 : W6.heap.size + 1 ≤ W7.heap.size := Nat.le_of_eq hz.symm
  clear hz
  have b2_7 := Lib.hid hx0
  clear hx0
  refine (Go.Proofs.Ytigbknmiidhblaa.abt.impl_abort x0 (by omega) (by omega) s3r_7.out s3w_7.out (Nat.le_refl _)).mono ?_
  rintro e W8 ⟨As4, cs4, Bs4, ds4, he, ho, hb⟩
  rw [HQ1.out, HQ2.out] at he
  subst he
  have hv := Go.Proofs.Ytigbknmiidhblaa.lt.own_of ho (Nat.le_refl _) hlen0 hlem0
  have hvr := hv.1.vs (Nat.le_refl _)
  have hvw := hv.2.vs (Nat.le_refl _)
  clear ho
  have HB8 : Hid (Below w.heap.size w W8) := Lib.hid (HB7.out.trans (hb.mono HB7.out.size))
  have HS8 : Hid (Below W7.heap.size W7 W8) := Lib.hid hb
  have HF8 : Hid (FR 0 0 W7 W8) := Lib.hid (FR.of_below hb)
  have hs8 : W7.heap.size ≤ W8.heap.size := hb.size
  clear hb
  have b0_8 := Lib.hid (Go.Proofs.Ytigbknmiidhblaa.tm.TB.fr b0_7.out HF8.out (by omega) (by omega))
  clear b0_7
  have b1_8 := Lib.hid (Go.Proofs.Ytigbknmiidhblaa.tm.TB.fr b1_7.out HF8.out (by omega) (by omega))
  clear b1_7
  have b2_8 := Lib.hid (Go.Proofs.Ytigbknmiidhblaa.tm.TB.fr b2_7.out HF8.out (by omega) (by omega))
  clear b2_7
  have s1_8 := Lib.hid (s1_7.out.fr HF8.out (by omega) (by omega))
  clear s1_7
  have s1r_8 := Lib.hid ((s1r_7.out.below HS8.out).more HS8.out.size)
  clear s1r_7
  have s1w_8 := Lib.hid ((s1w_7.out.below HS8.out).more HS8.out.size)
  clear s1w_7
  have s2_8 := Lib.hid (s2_7.out.fr HF8.out (by omega) (by omega))
  clear s2_7
  have s2r_8 := Lib.hid ((s2r_7.out.below HS8.out).more HS8.out.size)
  clear s2r_7
  have s2w_8 := Lib.hid ((s2w_7.out.below HS8.out).more HS8.out.size)
  clear s2w_7
  have s3_8 := Lib.hid (s3_7.out.fr HF8.out (by omega) (by omega))
  clear s3_7
  have s3r_8 := Lib.hid ((s3r_7.out.below HS8.out).more HS8.out.size)
  clear s3r_7
  have s3w_8 := Lib.hid ((s3w_7.out.below HS8.out).more HS8.out.size)
  clear s3w_7
  have s4_8 := Lib.hid hv
  clear hv
  have s4r_8 := Lib.hid hvr
  clear hvr
  have s4w_8 := Lib.hid hvw
  clear hvw
  obtain ⟨b1c0, b1c1, b1c2, b1c3, b1c4, b1c5, b1c6, b1c7, b1c8⟩ := b1_8.out
  have b1L : W4.heap.size < W8.heap.size := by omega
  go_wp2_with fail
  have hx0 := TB.new W8 q1 As4 n0 cs4 Bs4 p0 ds4 30
  have hz : (W8.alloc (.cells #[.int .i64 q1.i, .int .i64 q1.s, .int .i64 q1.t, .int .i64 q1.b, .int .i64 q1.l, .int .i64 q1.h, .int .i64 q1.c, .slice As4 n0 cs4, .slice Bs4 p0 ds4] 30)).heap.size = W8.heap.size + 1 := by simp
  have hb := Go.Proofs.Ytigbknmiidhblaa.el2.new1 W8 (.cells #[.int .i64 q1.i, .int .i64 q1.s, .int .i64 q1.t, .int .i64 q1.b, .int .i64 q1.l, .int .i64 q1.h, .int .i64 q1.c, .slice As4 n0 cs4, .slice Bs4 p0 ds4] 30)
  generalize (W8.alloc (.cells #[.int .i64 q1.i, .int .i64 q1.s, .int .i64 q1.t, .int .i64 q1.b, .int .i64 q1.l, .int .i64 q1.h, .int .i64 q1.c, .slice As4 n0 cs4, .slice Bs4 p0 ds4] 30)) = W9 at hx0 hb hz ⊢
  have HB9 : Hid (Below w.heap.size w W9) := Lib.hid (HB8.out.trans (hb.mono HB8.out.size))
  have HS9 : Hid (Below W8.heap.size W8 W9) := Lib.hid hb
  have HF9 : Hid (FR 0 0 W8 W9) := Lib.hid (FR.of_below hb)
  have hs9 : W8.heap.size ≤ W9.heap.size := hb.size
  clear hb
  have b0_9 := Lib.hid (Go.Proofs.Ytigbknmiidhblaa.tm.TB.fr b0_8.out HF9.out (by omega) (by omega))
  clear b0_8
  have b1_9 := Lib.hid (Go.Proofs.Ytigbknmiidhblaa.tm.TB.fr b1_8.out HF9.out (by omega) (by omega))
  clear b1_8
  have b2_9 := Lib.hid (Go.Proofs.Ytigbknmiidhblaa.tm.TB.fr b2_8.out HF9.out (by omega) (by omega))
  clear b2_8
  have s1_9 := Lib.hid (s1_8.out.fr HF9.out (by omega) (by omega))
  clear s1_8
  have s1r_9 := Lib.hid ((s1r_8.out.below HS9.out).more HS9.out.size)
  clear s1r_8
  have s1w_9 := Lib.hid ((s1w_8.out.below HS9.out).more HS9.out.size)
  clear s1w_8
  have s2_9 := Lib.hid (s2_8.out.fr HF9.out (by omega) (by omega))
  clear s2_8
  have s2r_9 := Lib.hid ((s2r_8.out.below HS9.out).more HS9.out.size)
  clear s2r_8
  have s2w_9 := Lib.hid ((s2w_8.out.below HS9.out).more HS9.out.size)
  clear s2w_8
  have s3_9 := Lib.hid (s3_8.out.fr HF9.out (by omega) (by omega))
  clear s3_8
  have s3r_9 := Lib.hid ((s3r_8.out.below HS9.out).more HS9.out.size)
  clear s3r_8
  have s3w_9 := Lib.hid ((s3w_8.out.below HS9.out).more HS9.out.size)
  clear s3w_8
  have s4_9 := Lib.hid (s4_8.out.fr HF9.out (by omega) (by omega))
  clear s4_8
  have s4r_9 := Lib.hid ((s4r_8.out.below HS9.out).more HS9.out.size)
  clear s4r_8
  have s4w_9 := Lib.hid ((s4w_8.out.below HS9.out).more HS9.out.size)
  clear s4w_8
  have hz9 : W8.heap.size + 1 ≤ W9.heap.size := Nat.le_of_eq hz.symm
  clear hz
  have b3_9 := Lib.hid hx0
  clear hx0
  refine (same_tx q1 (by omega) (by omega) s4r_9.out s2r_9.out s4w_9.out s2w_9.out (Nat.le_refl _)).mono ?_
  rintro e W10 ⟨rfl, hb⟩
  have HB10 : Hid (Below w.heap.size w W10) := Lib.hid (HB9.out.trans (hb.mono HB9.out.size))
  have HS10 : Hid (Below W9.heap.size W9 W10) := Lib.hid hb
  have HF10 : Hid (FR 0 0 W9 W10) := Lib.hid (FR.of_below hb)
  have hs10 : W9.heap.size ≤ W10.heap.size := hb.size
  clear hb
  have b0_10 := Lib.hid (Go.Proofs.Ytigbknmiidhblaa.tm.TB.fr b0_9.out HF10.out (by omega) (by omega))
  clear b0_9
  have b1_10 := Lib.hid (Go.Proofs.Ytigbknmiidhblaa.tm.TB.fr b1_9.out HF10.out (by omega) (by omega))
  clear b1_9
  have b2_10 := Lib.hid (Go.Proofs.Ytigbknmiidhblaa.tm.TB.fr b2_9.out HF10.out (by omega) (by omega))
  clear b2_9
  have b3_10 := Lib.hid (Go.Proofs.Ytigbknmiidhblaa.tm.TB.fr b3_9.out HF10.out (by omega) (by omega))
  clear b3_9
  have s1_10 := Lib.hid (s1_9.out.fr HF10.out (by omega) (by omega))
  clear s1_9
  have s1r_10 := Lib.hid ((s1r_9.out.below HS10.out).more HS10.out.size)
  clear s1r_9
  have s1w_10 := Lib.hid ((s1w_9.out.below HS10.out).more HS10.out.size)
  clear s1w_9
  have s2_10 := Lib.hid (s2_9.out.fr HF10.out (by omega) (by omega))
  clear s2_9
  have s2r_10 := Lib.hid ((s2r_9.out.below HS10.out).more HS10.out.size)
  clear s2r_9
  have s2w_10 := Lib.hid ((s2w_9.out.below HS10.out).more HS10.out.size)
  clear s2w_9
  have s3_10 := Lib.hid (s3_9.out.fr HF10.out (by omega) (by omega))
  clear s3_9
  have s3r_10 := Lib.hid ((s3r_9.out.below HS10.out).more HS10.out.size)
  clear s3r_9
  have s3w_10 := Lib.hid ((s3w_9.out.below HS10.out).more HS10.out.size)
  clear s3w_9
  have s4_10 := Lib.hid (s4_9.out.fr HF10.out (by omega) (by omega))
  clear s4_9
  have s4r_10 := Lib.hid ((s4r_9.out.below HS10.out).more HS10.out.size)
  clear s4r_9
  have s4w_10 := Lib.hid ((s4w_9.out.below HS10.out).more HS10.out.size)
  clear s4w_9
  clear b1c0 b1c1 b1c2 b1c3 b1c4 b1c5 b1c6 b1c7 b1c8 b1L
  go_wp2_with fail
  have hbk0 : Below W10.heap.size W10 W10.drew := (Below.refl _ _).drew
  have hbw0 := HB10.out.trans (hbk0.mono HB10.out.size)
  have b2l_10 : W6.heap.size < W10.heap.size := by omega
  have b0l_10 : w.heap.size < W10.heap.size := by omega
  obtain ⟨b2c0, b2c1, b2c2, b2c3, b2c4, b2c5, b2c6, b2c7, b2c8⟩ := b2_10.out
  obtain ⟨b0c0, b0c1, b0c2, b0c3, b0c4, b0c5, b0c6, b0c7, b0c8⟩ := b0_10.out
  go_region_held3 (fun w' => w'.cell? ⟨W6.heap.size, 0, none⟩ = some (.int .i64 x0.i) ∧ w'.cell? ⟨W6.heap.size, 1, none⟩ = some (.int .i64 x0.s) ∧ w'.cell? ⟨W6.heap.size, 2, none⟩ = some (.int .i64 x0.t) ∧ w'.cell? ⟨W6.heap.size, 3, none⟩ = some (.int .i64 x0.b) ∧ w'.cell? ⟨W6.heap.size, 4, none⟩ = some (.int .i64 x0.l) ∧ w'.cell? ⟨W6.heap.size, 5, none⟩ = some (.int .i64 x0.h) ∧ w'.cell? ⟨W6.heap.size, 6, none⟩ = some (.int .i64 x0.c) ∧ w'.cell? ⟨W6.heap.size, 7, none⟩ = some (.slice (some ⟨Ns3, 0, none⟩) n0 n0) ∧ w'.cell? ⟨W6.heap.size, 8, none⟩ = some (.slice (some ⟨Ms3, 0, none⟩) p0 p0) ∧ w'.cell? ⟨w.heap.size, 0, none⟩ = some (.int .i64 x0.i) ∧ w'.cell? ⟨w.heap.size, 1, none⟩ = some (.int .i64 x0.s) ∧ w'.cell? ⟨w.heap.size, 2, none⟩ = some (.int .i64 x0.t) ∧ w'.cell? ⟨w.heap.size, 3, none⟩ = some (.int .i64 x0.b) ∧ w'.cell? ⟨w.heap.size, 4, none⟩ = some (.int .i64 x0.l) ∧ w'.cell? ⟨w.heap.size, 5, none⟩ = some (.int .i64 x0.h) ∧ w'.cell? ⟨w.heap.size, 6, none⟩ = some (.int .i64 x0.c) ∧ w'.cell? ⟨w.heap.size, 7, none⟩ = some (.slice A0 n0 c0) ∧ w'.cell? ⟨w.heap.size, 8, none⟩ = some (.slice B0 p0 d0)) (go_keep) (first | (go_at_call 10; (with_reducible refine (same_tx x0 (by omega) (by omega) ((s3r_10.out.below hbk1).more hbk1.size) s5ra1 ((s3w_10.out.below hbk1).more hbk1.size) s5wa1 (Nat.le_refl _)).mono ?_); rintro e W11 ⟨rfl, hb⟩; have hbk2 := hbk1.trans (hb.mono hbk1.size); have hbw2 := HB10.out.trans (hbk2.mono HB10.out.size); have s5ra2 := (s5ra1.below hb).more hb.size; have s5wa2 := (s5wa1.below hb).more hb.size; clear hb ; obtain ⟨b2d20, b2d21, b2d22, b2d23, b2d24, b2d25, b2d26, b2d27, b2d28⟩ := ((b2_10.out).keep b2l_10 (hbk2)); obtain ⟨b0d20, b0d21, b0d22, b0d23, b0d24, b0d25, b0d26, b0d27, b0d28⟩ := ((b0_10.out).keep b0l_10 (hbk2))) | (go_at_call 8; (with_reducible refine (Go.Proofs.Ytigbknmiidhblaa.tx.copied_tx x0 (by omega) (by omega) (H0.out.below hbw0) (G0.out.below hbw0) (hbw0).size).mono ?_); rintro e Wa1 ⟨Ns5, Ms5, rfl, hv, hu, hb⟩; have hbk1 := hbk0.trans (hb.mono hbk0.size); have hbw1 := HB10.out.trans (hbk1.mono HB10.out.size); have s5ra1 := hv; have s5wa1 := hu; clear hb hv hu; obtain ⟨b2d10, b2d11, b2d12, b2d13, b2d14, b2d15, b2d16, b2d17, b2d18⟩ := ((b2_10.out).keep b2l_10 (hbk1)); obtain ⟨b0d10, b0d11, b0d12, b0d13, b0d14, b0d15, b0d16, b0d17, b0d18⟩ := ((b0_10.out).keep b0l_10 (hbk1))))
  have hb := hbk2
  clear hbk0 hbw0 s5ra1 s5wa1 b2d10 b2d11 b2d12 b2d13 b2d14 b2d15 b2d16 b2d17 b2d18 b0d10 b0d11 b0d12 b0d13 b0d14 b0d15 b0d16 b0d17 b0d18 hbk1 hbw1 s5ra2 s5wa2 b2d20 b2d21 b2d22 b2d23 b2d24 b2d25 b2d26 b2d27 b2d28 b0d20 b0d21 b0d22 b0d23 b0d24 b0d25 b0d26 b0d27 b0d28 hbk2 hbw2 b2c0 b2c1 b2c2 b2c3 b2c4 b2c5 b2c6 b2c7 b2c8 b0c0 b0c1 b0c2 b0c3 b0c4 b0c5 b0c6 b0c7 b0c8 b2l_10 b0l_10
  have HB11 : Hid (Below w.heap.size w W11) := Lib.hid (HB10.out.trans (hb.mono HB10.out.size))
  have HS11 : Hid (Below W10.heap.size W10 W11) := Lib.hid hb
  have HF11 : Hid (FR 0 0 W10 W11) := Lib.hid (FR.of_below hb)
  have hs11 : W10.heap.size ≤ W11.heap.size := hb.size
  clear hb
  have b0_11 := Lib.hid (Go.Proofs.Ytigbknmiidhblaa.tm.TB.fr b0_10.out HF11.out (by omega) (by omega))
  clear b0_10
  have b1_11 := Lib.hid (Go.Proofs.Ytigbknmiidhblaa.tm.TB.fr b1_10.out HF11.out (by omega) (by omega))
  clear b1_10
  have b2_11 := Lib.hid (Go.Proofs.Ytigbknmiidhblaa.tm.TB.fr b2_10.out HF11.out (by omega) (by omega))
  clear b2_10
  have b3_11 := Lib.hid (Go.Proofs.Ytigbknmiidhblaa.tm.TB.fr b3_10.out HF11.out (by omega) (by omega))
  clear b3_10
  have s1_11 := Lib.hid (s1_10.out.fr HF11.out (by omega) (by omega))
  clear s1_10
  have s1r_11 := Lib.hid ((s1r_10.out.below HS11.out).more HS11.out.size)
  clear s1r_10
  have s1w_11 := Lib.hid ((s1w_10.out.below HS11.out).more HS11.out.size)
  clear s1w_10
  have s2_11 := Lib.hid (s2_10.out.fr HF11.out (by omega) (by omega))
  clear s2_10
  have s2r_11 := Lib.hid ((s2r_10.out.below HS11.out).more HS11.out.size)
  clear s2r_10
  have s2w_11 := Lib.hid ((s2w_10.out.below HS11.out).more HS11.out.size)
  clear s2w_10
  have s3_11 := Lib.hid (s3_10.out.fr HF11.out (by omega) (by omega))
  clear s3_10
  have s3r_11 := Lib.hid ((s3r_10.out.below HS11.out).more HS11.out.size)
  clear s3r_10
  have s3w_11 := Lib.hid ((s3w_10.out.below HS11.out).more HS11.out.size)
  clear s3w_10
  have s4_11 := Lib.hid (s4_10.out.fr HF11.out (by omega) (by omega))
  clear s4_10
  have s4r_11 := Lib.hid ((s4r_10.out.below HS11.out).more HS11.out.size)
  clear s4r_10
  have s4w_11 := Lib.hid ((s4w_10.out.below HS11.out).more HS11.out.size)
  clear s4w_10
  obtain ⟨b2c0, b2c1, b2c2, b2c3, b2c4, b2c5, b2c6, b2c7, b2c8⟩ := b2_11.out
  have b2L : W6.heap.size < W11.heap.size := by omega
  go_wp2_with fail
  refine (Go.Proofs.Ytigbknmiidhblaa.lw.mark_txk (k0 := 1) x0 (by omega) (by omega) (by omega) (by omega) s3_11.out (by omega)).mono ?_
  rintro e W12 ⟨rfl, hf⟩
  have HF12 : Hid (FR W5.heap.size W6.heap.size W11 W12) := Lib.hid hf
  have HB12 : Hid (Below w.heap.size w W12) := Lib.hid (FR.chain HB11.out hf (by omega))
  have hs12 : W11.heap.size ≤ W12.heap.size := hf.size
  clear hf
  have b0_12 := Lib.hid (Go.Proofs.Ytigbknmiidhblaa.tm.TB.fr b0_11.out HF12.out (by omega) (by omega))
  clear b0_11
  have b1_12 := Lib.hid (Go.Proofs.Ytigbknmiidhblaa.tm.TB.fr b1_11.out HF12.out (by omega) (by omega))
  clear b1_11
  have b2_12 := Lib.hid (Go.Proofs.Ytigbknmiidhblaa.tm.TB.fr b2_11.out HF12.out (by omega) (by omega))
  clear b2_11
  have b3_12 := Lib.hid (Go.Proofs.Ytigbknmiidhblaa.tm.TB.fr b3_11.out HF12.out (by omega) (by omega))
  clear b3_11
  have s1_12 := Lib.hid (s1_11.out.fr HF12.out (by omega) (by omega))
  clear s1_11
  clear s1r_11
  clear s1w_11
  have s2_12 := Lib.hid (s2_11.out.fr HF12.out (by omega) (by omega))
  clear s2_11
  clear s2r_11
  clear s2w_11
  have s4_12 := Lib.hid (s4_11.out.fr HF12.out (by omega) (by omega))
  clear s4_11
  clear s4r_11
  clear s4w_11
  clear s3_11 s3r_11 s3w_11
  obtain ⟨s3c, hs3c⟩ : ∃ z : Int, z = 1 + ((n0 * 2 : Nat) : Int) + ((p0 * 2 : Nat) : Int) := ⟨_, rfl⟩
  rw [← hs3c]
  have s3t : decide (s3c < 0) = false := decide_eq_false (by omega)
  have s3b0 : 0 ≤ s3c := by omega
  have s3b1 : s3c ≤ 1099511627776 := by omega
  have Hs3C := Lib.hid hs3c
  clear hs3c
  clear b2c0 b2c1 b2c2 b2c3 b2c4 b2c5 b2c6 b2c7 b2c8 b2L
  obtain ⟨b1c0, b1c1, b1c2, b1c3, b1c4, b1c5, b1c6, b1c7, b1c8⟩ := b1_12.out
  have b1L : W4.heap.size < W12.heap.size := by omega
  obtain ⟨b3c0, b3c1, b3c2, b3c3, b3c4, b3c5, b3c6, b3c7, b3c8⟩ := b3_12.out
  have b3L : W8.heap.size < W12.heap.size := by omega
  go_wp2_with fail
  refine (same_tx q1 (by omega) (by omega) (s4_12.out.1.vs (by omega)) (s2_12.out.1.vs (by omega)) (s4_12.out.2.vs (by omega)) (s2_12.out.2.vs (by omega)) (Nat.le_refl _)).mono ?_
  rintro e W13 ⟨rfl, hb⟩
  have HB13 : Hid (Below w.heap.size w W13) := Lib.hid (HB12.out.trans (hb.mono HB12.out.size))
  have HS13 : Hid (Below W12.heap.size W12 W13) := Lib.hid hb
  have HF13 : Hid (FR 0 0 W12 W13) := Lib.hid (FR.of_below hb)
  have hs13 : W12.heap.size ≤ W13.heap.size := hb.size
  clear hb
  have b0_13 := Lib.hid (Go.Proofs.Ytigbknmiidhblaa.tm.TB.fr b0_12.out HF13.out (by omega) (by omega))
  clear b0_12
  have b1_13 := Lib.hid (Go.Proofs.Ytigbknmiidhblaa.tm.TB.fr b1_12.out HF13.out (by omega) (by omega))
  clear b1_12
  have b2_13 := Lib.hid (Go.Proofs.Ytigbknmiidhblaa.tm.TB.fr b2_12.out HF13.out (by omega) (by omega))
  clear b2_12
  have b3_13 := Lib.hid (Go.Proofs.Ytigbknmiidhblaa.tm.TB.fr b3_12.out HF13.out (by omega) (by omega))
  clear b3_12
  have s1_13 := Lib.hid (s1_12.out.fr HF13.out (by omega) (by omega))
  clear s1_12
  have s2_13 := Lib.hid (s2_12.out.fr HF13.out (by omega) (by omega))
  clear s2_12
  have s4_13 := Lib.hid (s4_12.out.fr HF13.out (by omega) (by omega))
  clear s4_12
  clear b1c0 b1c1 b1c2 b1c3 b1c4 b1c5 b1c6 b1c7 b1c8 b1L
  clear b3c0 b3c1 b3c2 b3c3 b3c4 b3c5 b3c6 b3c7 b3c8 b3L
  obtain ⟨b3c0, b3c1, b3c2, b3c3, b3c4, b3c5, b3c6, b3c7, b3c8⟩ := b3_13.out
  have b3L : W8.heap.size < W13.heap.size := by omega
  go_wp2_with fail
  refine (Go.Proofs.Ytigbknmiidhblaa.tm.mark_tx q1 (by omega) (by omega) s4_13.out (by omega)).mono ?_
  rintro e W14 ⟨rfl, hm, hf⟩
  have HF14 : Hid (FR W7.heap.size W8.heap.size W13 W14) := Lib.hid hf
  have HB14 : Hid (Below w.heap.size w W14) := Lib.hid (FR.chain HB13.out hf (by omega))
  have hs14 : W13.heap.size ≤ W14.heap.size := hf.size
  clear hf
  have b0_14 := Lib.hid (Go.Proofs.Ytigbknmiidhblaa.tm.TB.fr b0_13.out HF14.out (by omega) (by omega))
  clear b0_13
  have b1_14 := Lib.hid (Go.Proofs.Ytigbknmiidhblaa.tm.TB.fr b1_13.out HF14.out (by omega) (by omega))
  clear b1_13
  have b2_14 := Lib.hid (Go.Proofs.Ytigbknmiidhblaa.tm.TB.fr b2_13.out HF14.out (by omega) (by omega))
  clear b2_13
  have b3_14 := Lib.hid (Go.Proofs.Ytigbknmiidhblaa.tm.TB.fr b3_13.out HF14.out (by omega) (by omega))
  clear b3_13
  have s1_14 := Lib.hid (s1_13.out.fr HF14.out (by omega) (by omega))
  clear s1_13
  have s2_14 := Lib.hid (s2_13.out.fr HF14.out (by omega) (by omega))
  clear s2_13
  clear s4_13 
  obtain ⟨s4c, hs4c⟩ : ∃ z : Int, z = 1 + ((n0 * 2 : Nat) : Int) + ((p0 * 2 : Nat) : Int) := ⟨_, rfl⟩
  rw [← hs4c]
  have s4t : decide (s4c < 0) = false := decide_eq_false (by omega)
  have s4b0 : 0 ≤ s4c := by omega
  have s4b1 : s4c ≤ 1099511627776 := by omega
  have Hs4C := Lib.hid hs4c
  clear hs4c
  have s4m_14 := Lib.hid hm
  clear hm
  clear b3c0 b3c1 b3c2 b3c3 b3c4 b3c5 b3c6 b3c7 b3c8 b3L
  obtain ⟨b3c0, b3c1, b3c2, b3c3, b3c4, b3c5, b3c6, b3c7, b3c8⟩ := b3_14.out
  have b3L : W8.heap.size < W14.heap.size := by omega
  go_wp2_with fail
  refine (Go.Proofs.Ytigbknmiidhblaa.tm.held_tx q1 (by omega) (by omega) s4m_14.out (by omega)).mono ?_
  rintro e W15 ⟨rfl, hb⟩
  rw [← Hs4C.out]
  have HB15 : Hid (Below w.heap.size w W15) := Lib.hid (HB14.out.trans (hb.mono HB14.out.size))
  have HS15 : Hid (Below W14.heap.size W14 W15) := Lib.hid hb
  have HF15 : Hid (FR 0 0 W14 W15) := Lib.hid (FR.of_below hb)
  have hs15 : W14.heap.size ≤ W15.heap.size := hb.size
  clear hb
  have b0_15 := Lib.hid (Go.Proofs.Ytigbknmiidhblaa.tm.TB.fr b0_14.out HF15.out (by omega) (by omega))
  clear b0_14
  have b1_15 := Lib.hid (Go.Proofs.Ytigbknmiidhblaa.tm.TB.fr b1_14.out HF15.out (by omega) (by omega))
  clear b1_14
  have b2_15 := Lib.hid (Go.Proofs.Ytigbknmiidhblaa.tm.TB.fr b2_14.out HF15.out (by omega) (by omega))
  clear b2_14
  have b3_15 := Lib.hid (Go.Proofs.Ytigbknmiidhblaa.tm.TB.fr b3_14.out HF15.out (by omega) (by omega))
  clear b3_14
  have s1_15 := Lib.hid (s1_14.out.fr HF15.out (by omega) (by omega))
  clear s1_14
  have s2_15 := Lib.hid (s2_14.out.fr HF15.out (by omega) (by omega))
  clear s2_14
  have s4m_15 := Lib.hid (s4m_14.out.fr HF15.out (by omega) (by omega))
  clear s4m_14
  clear b3c0 b3c1 b3c2 b3c3 b3c4 b3c5 b3c6 b3c7 b3c8 b3L
  obtain ⟨b0c0, b0c1, b0c2, b0c3, b0c4, b0c5, b0c6, b0c7, b0c8⟩ := b0_15.out
  have b0L : w.heap.size < W15.heap.size := by omega
  go_wp2_with fail
  refine (Go.Proofs.Ytigbknmiidhblaa.tm.own_tx x0 (by omega) (by omega) (H0.out.below HB15.out) (G0.out.below HB15.out) (HB15.out).size).mono ?_
  rintro e W16 ⟨Ns6, Ms6, rfl, hv, hb⟩
  have hvr := hv.1.vs (Nat.le_refl _)
  have hvw := hv.2.vs (Nat.le_refl _)
  have HB16 : Hid (Below w.heap.size w W16) := Lib.hid (HB15.out.trans (hb.mono HB15.out.size))
  have HS16 : Hid (Below W15.heap.size W15 W16) := Lib.hid hb
  have HF16 : Hid (FR 0 0 W15 W16) := Lib.hid (FR.of_below hb)
  have hs16 : W15.heap.size ≤ W16.heap.size := hb.size
  clear hb
  have b0_16 := Lib.hid (Go.Proofs.Ytigbknmiidhblaa.tm.TB.fr b0_15.out HF16.out (by omega) (by omega))
  clear b0_15
  have b1_16 := Lib.hid (Go.Proofs.Ytigbknmiidhblaa.tm.TB.fr b1_15.out HF16.out (by omega) (by omega))
  clear b1_15
  have b2_16 := Lib.hid (Go.Proofs.Ytigbknmiidhblaa.tm.TB.fr b2_15.out HF16.out (by omega) (by omega))
  clear b2_15
  have b3_16 := Lib.hid (Go.Proofs.Ytigbknmiidhblaa.tm.TB.fr b3_15.out HF16.out (by omega) (by omega))
  clear b3_15
  have s1_16 := Lib.hid (s1_15.out.fr HF16.out (by omega) (by omega))
  clear s1_15
  have s2_16 := Lib.hid (s2_15.out.fr HF16.out (by omega) (by omega))
  clear s2_15
  have s4m_16 := Lib.hid (s4m_15.out.fr HF16.out (by omega) (by omega))
  clear s4m_15
  have s6_16 := Lib.hid hv
  clear hv
  have s6r_16 := Lib.hid hvr
  clear hvr
  have s6w_16 := Lib.hid hvw
  clear hvw
  clear b0c0 b0c1 b0c2 b0c3 b0c4 b0c5 b0c6 b0c7 b0c8 b0L
  go_wp2_with fail
  refine (Go.Proofs.Ytigbknmiidhblaa.abt.impl_abort x0 (by omega) (by omega) s6r_16.out s6w_16.out (Nat.le_refl _)).mono ?_
  rintro e W17 ⟨As7, cs7, Bs7, ds7, he, ho, hb⟩
  rw [HQ1.out, HQ2.out] at he
  subst he
  have hv := Go.Proofs.Ytigbknmiidhblaa.lt.own_of ho (Nat.le_refl _) hlen0 hlem0
  have hvr := hv.1.vs (Nat.le_refl _)
  have hvw := hv.2.vs (Nat.le_refl _)
  clear ho
  have HB17 : Hid (Below w.heap.size w W17) := Lib.hid (HB16.out.trans (hb.mono HB16.out.size))
  have HS17 : Hid (Below W16.heap.size W16 W17) := Lib.hid hb
  have HF17 : Hid (FR 0 0 W16 W17) := Lib.hid (FR.of_below hb)
  have hs17 : W16.heap.size ≤ W17.heap.size := hb.size
  clear hb
  have b0_17 := Lib.hid (Go.Proofs.Ytigbknmiidhblaa.tm.TB.fr b0_16.out HF17.out (by omega) (by omega))
  clear b0_16
  have b1_17 := Lib.hid (Go.Proofs.Ytigbknmiidhblaa.tm.TB.fr b1_16.out HF17.out (by omega) (by omega))
  clear b1_16
  have b2_17 := Lib.hid (Go.Proofs.Ytigbknmiidhblaa.tm.TB.fr b2_16.out HF17.out (by omega) (by omega))
  clear b2_16
  have b3_17 := Lib.hid (Go.Proofs.Ytigbknmiidhblaa.tm.TB.fr b3_16.out HF17.out (by omega) (by omega))
  clear b3_16
  have s1_17 := Lib.hid (s1_16.out.fr HF17.out (by omega) (by omega))
  clear s1_16
  have s2_17 := Lib.hid (s2_16.out.fr HF17.out (by omega) (by omega))
  clear s2_16
  have s4m_17 := Lib.hid (s4m_16.out.fr HF17.out (by omega) (by omega))
  clear s4m_16
  have s6_17 := Lib.hid (s6_16.out.fr HF17.out (by omega) (by omega))
  clear s6_16
  have s6r_17 := Lib.hid ((s6r_16.out.below HS17.out).more HS17.out.size)
  clear s6r_16
  have s6w_17 := Lib.hid ((s6w_16.out.below HS17.out).more HS17.out.size)
  clear s6w_16
  have s7_17 := Lib.hid hv
  clear hv
  have s7r_17 := Lib.hid hvr
  clear hvr
  have s7w_17 := Lib.hid hvw
  clear hvw
  obtain ⟨b1c0, b1c1, b1c2, b1c3, b1c4, b1c5, b1c6, b1c7, b1c8⟩ := b1_17.out
  have b1L : W4.heap.size < W17.heap.size := by omega
  go_wp2_with fail
  have hx0 := TB.new W17 q1 As7 n0 cs7 Bs7 p0 ds7 30
  have hz : (W17.alloc (.cells #[.int .i64 q1.i, .int .i64 q1.s, .int .i64 q1.t, .int .i64 q1.b, .int .i64 q1.l, .int .i64 q1.h, .int .i64 q1.c, .slice As7 n0 cs7, .slice Bs7 p0 ds7] 30)).heap.size = W17.heap.size + 1 := by simp
  have hb := Go.Proofs.Ytigbknmiidhblaa.el2.new1 W17 (.cells #[.int .i64 q1.i, .int .i64 q1.s, .int .i64 q1.t, .int .i64 q1.b, .int .i64 q1.l, .int .i64 q1.h, .int .i64 q1.c, .slice As7 n0 cs7, .slice Bs7 p0 ds7] 30)
  generalize (W17.alloc (.cells #[.int .i64 q1.i, .int .i64 q1.s, .int .i64 q1.t, .int .i64 q1.b, .int .i64 q1.l, .int .i64 q1.h, .int .i64 q1.c, .slice As7 n0 cs7, .slice Bs7 p0 ds7] 30)) = W18 at hx0 hb hz ⊢
  have HB18 : Hid (Below w.heap.size w W18) := Lib.hid (HB17.out.trans (hb.mono HB17.out.size))
  have HS18 : Hid (Below W17.heap.size W17 W18) := Lib.hid hb
  have HF18 : Hid (FR 0 0 W17 W18) := Lib.hid (FR.of_below hb)
  have hs18 : W17.heap.size ≤ W18.heap.size := hb.size
  clear hb
  have b0_18 := Lib.hid (Go.Proofs.Ytigbknmiidhblaa.tm.TB.fr b0_17.out HF18.out (by omega) (by omega))
  clear b0_17
  have b1_18 := Lib.hid (Go.Proofs.Ytigbknmiidhblaa.tm.TB.fr b1_17.out HF18.out (by omega) (by omega))
  clear b1_17
  have b2_18 := Lib.hid (Go.Proofs.Ytigbknmiidhblaa.tm.TB.fr b2_17.out HF18.out (by omega) (by omega))
  clear b2_17
  have b3_18 := Lib.hid (Go.Proofs.Ytigbknmiidhblaa.tm.TB.fr b3_17.out HF18.out (by omega) (by omega))
  clear b3_17
  have s1_18 := Lib.hid (s1_17.out.fr HF18.out (by omega) (by omega))
  clear s1_17
  have s2_18 := Lib.hid (s2_17.out.fr HF18.out (by omega) (by omega))
  clear s2_17
  have s4m_18 := Lib.hid (s4m_17.out.fr HF18.out (by omega) (by omega))
  clear s4m_17
  have s6_18 := Lib.hid (s6_17.out.fr HF18.out (by omega) (by omega))
  clear s6_17
  have s6r_18 := Lib.hid ((s6r_17.out.below HS18.out).more HS18.out.size)
  clear s6r_17
  have s6w_18 := Lib.hid ((s6w_17.out.below HS18.out).more HS18.out.size)
  clear s6w_17
  have s7_18 := Lib.hid (s7_17.out.fr HF18.out (by omega) (by omega))
  clear s7_17
  have s7r_18 := Lib.hid ((s7r_17.out.below HS18.out).more HS18.out.size)
  clear s7r_17
  have s7w_18 := Lib.hid ((s7w_17.out.below HS18.out).more HS18.out.size)
  clear s7w_17
  have hz18 : W17.heap.size + 1 ≤ W18.heap.size := Nat.le_of_eq hz.symm
  clear hz
  have b4_18 := Lib.hid hx0
  clear hx0
  refine (same_tx q1 (by omega) (by omega) s7r_18.out (s2_18.out.1.vs (by omega)) s7w_18.out (s2_18.out.2.vs (by omega)) (Nat.le_refl _)).mono ?_
  rintro e W19 ⟨rfl, hb⟩
  have HB19 : Hid (Below w.heap.size w W19) := Lib.hid (HB18.out.trans (hb.mono HB18.out.size))
  have HS19 : Hid (Below W18.heap.size W18 W19) := Lib.hid hb
  have HF19 : Hid (FR 0 0 W18 W19) := Lib.hid (FR.of_below hb)
  have hs19 : W18.heap.size ≤ W19.heap.size := hb.size
  clear hb
  have b0_19 := Lib.hid (Go.Proofs.Ytigbknmiidhblaa.tm.TB.fr b0_18.out HF19.out (by omega) (by omega))
  clear b0_18
  have b1_19 := Lib.hid (Go.Proofs.Ytigbknmiidhblaa.tm.TB.fr b1_18.out HF19.out (by omega) (by omega))
  clear b1_18
  have b2_19 := Lib.hid (Go.Proofs.Ytigbknmiidhblaa.tm.TB.fr b2_18.out HF19.out (by omega) (by omega))
  clear b2_18
  have b3_19 := Lib.hid (Go.Proofs.Ytigbknmiidhblaa.tm.TB.fr b3_18.out HF19.out (by omega) (by omega))
  clear b3_18
  have b4_19 := Lib.hid (Go.Proofs.Ytigbknmiidhblaa.tm.TB.fr b4_18.out HF19.out (by omega) (by omega))
  clear b4_18
  have s1_19 := Lib.hid (s1_18.out.fr HF19.out (by omega) (by omega))
  clear s1_18
  have s2_19 := Lib.hid (s2_18.out.fr HF19.out (by omega) (by omega))
  clear s2_18
  have s4m_19 := Lib.hid (s4m_18.out.fr HF19.out (by omega) (by omega))
  clear s4m_18
  have s6_19 := Lib.hid (s6_18.out.fr HF19.out (by omega) (by omega))
  clear s6_18
  have s6r_19 := Lib.hid ((s6r_18.out.below HS19.out).more HS19.out.size)
  clear s6r_18
  have s6w_19 := Lib.hid ((s6w_18.out.below HS19.out).more HS19.out.size)
  clear s6w_18
  have s7_19 := Lib.hid (s7_18.out.fr HF19.out (by omega) (by omega))
  clear s7_18
  have s7r_19 := Lib.hid ((s7r_18.out.below HS19.out).more HS19.out.size)
  clear s7r_18
  have s7w_19 := Lib.hid ((s7w_18.out.below HS19.out).more HS19.out.size)
  clear s7w_18
  clear b1c0 b1c1 b1c2 b1c3 b1c4 b1c5 b1c6 b1c7 b1c8 b1L
  obtain ⟨b3c0, b3c1, b3c2, b3c3, b3c4, b3c5, b3c6, b3c7, b3c8⟩ := b3_19.out
  have b3L : W8.heap.size < W19.heap.size := by omega
  go_wp2_with fail
  refine (Go.Proofs.Ytigbknmiidhblaa.tm.held_tx q1 (by omega) (by omega) s4m_19.out (by omega)).mono ?_
  rintro e W20 ⟨rfl, hb⟩
  rw [← Hs4C.out]
  have HB20 : Hid (Below w.heap.size w W20) := Lib.hid (HB19.out.trans (hb.mono HB19.out.size))
  have HS20 : Hid (Below W19.heap.size W19 W20) := Lib.hid hb
  have HF20 : Hid (FR 0 0 W19 W20) := Lib.hid (FR.of_below hb)
  have hs20 : W19.heap.size ≤ W20.heap.size := hb.size
  clear hb
  have b0_20 := Lib.hid (Go.Proofs.Ytigbknmiidhblaa.tm.TB.fr b0_19.out HF20.out (by omega) (by omega))
  clear b0_19
  have b1_20 := Lib.hid (Go.Proofs.Ytigbknmiidhblaa.tm.TB.fr b1_19.out HF20.out (by omega) (by omega))
  clear b1_19
  have b2_20 := Lib.hid (Go.Proofs.Ytigbknmiidhblaa.tm.TB.fr b2_19.out HF20.out (by omega) (by omega))
  clear b2_19
  have b3_20 := Lib.hid (Go.Proofs.Ytigbknmiidhblaa.tm.TB.fr b3_19.out HF20.out (by omega) (by omega))
  clear b3_19
  have b4_20 := Lib.hid (Go.Proofs.Ytigbknmiidhblaa.tm.TB.fr b4_19.out HF20.out (by omega) (by omega))
  clear b4_19
  have s1_20 := Lib.hid (s1_19.out.fr HF20.out (by omega) (by omega))
  clear s1_19
  have s2_20 := Lib.hid (s2_19.out.fr HF20.out (by omega) (by omega))
  clear s2_19
  have s4m_20 := Lib.hid (s4m_19.out.fr HF20.out (by omega) (by omega))
  clear s4m_19
  have s6_20 := Lib.hid (s6_19.out.fr HF20.out (by omega) (by omega))
  clear s6_19
  have s6r_20 := Lib.hid ((s6r_19.out.below HS20.out).more HS20.out.size)
  clear s6r_19
  have s6w_20 := Lib.hid ((s6w_19.out.below HS20.out).more HS20.out.size)
  clear s6w_19
  have s7_20 := Lib.hid (s7_19.out.fr HF20.out (by omega) (by omega))
  clear s7_19
  have s7r_20 := Lib.hid ((s7r_19.out.below HS20.out).more HS20.out.size)
  clear s7r_19
  have s7w_20 := Lib.hid ((s7w_19.out.below HS20.out).more HS20.out.size)
  clear s7w_19
  clear b3c0 b3c1 b3c2 b3c3 b3c4 b3c5 b3c6 b3c7 b3c8 b3L
  go_wp2_with fail
  go_ret
  exact ⟨rfl, HB20.out⟩
/-! ### THE ROW's STEP -/
set_option maxRecDepth 100000 in
theorem lifted (os : Os) (started : os.Started) (H : Type) (enc : TypeId × Value → H) :
    ReturnsInHanded {} Try.checked os 3 .any (Rows.fnExactAbortTransactionSpec.pre6 enc Try.prog Try.f3 Rows.fnExactAbortTransactionRow.domain false) (Rows.fnExactAbortTransactionSpec.post enc Try.prog Try.f3 false true false false) := by
  refine returnsInHanded_of_change (C := Try.checked) own started (by kernel_rfl) Try.func3
    (ChangeSpec.witness6 (enc := enc) (C := Try.checked) false ⟨#[], #[.agg #[.int .i64 0, .int .i64 0, .int .i64 0, .int .i64 0, .int .i64 0, .int .i64 0, .int .i64 0, .slice none 0 0, .slice none 0 0]], []⟩ 8 (by kernel_rfl) (by kernel_rfl) (by kernel_rfl) (by kernel_rfl)) ?_
  intro W base args ds gs before hval0 hW hcnd _
  have hval : ∀ (j : Nat) t v, Try.f3.params[j]? = some t → args[j]? = some v → Value.okWide Try.prog W .any base t v := hval0
  have hW' := hW
  obtain ⟨pp, qq, hA0, hV, rfl, hfz, hnd⟩ := hW
  have hA : DataW.TrodAll enc Try.prog W 0 (fun _ => true) true Try.f3.params.toList args.toList ds pp := hA0
  rw [Try.params3] at hA hval
  obtain ⟨v0, vs0, dd0, ds0, pp0, qq0, hargs, rfl, rfl, h0, r0⟩ := trodAll_cons hA
  obtain ⟨rfl, rfl, rfl⟩ := trodAll_nil r0
  obtain rfl : args = #[v0] := by cases args; simp_all
  obtain ⟨rfl, rfl⟩ := trodVars_none hV
  have k0 := h0
  have lt0 : ∀ x ∈ pp0, x.block < W.heap.size := by obtain ⟨m, hm⟩ := k0; exact DataW.trod_lt m _ _ _ hm
  obtain ⟨x0, A0, n0, c0, R0, B0, p0, d0, Q0, rfl, w0, m0, u0, o0⟩ := open_tx (hval 0 25 v0 rfl rfl) h0
  clear hA0 hval0
  refine (walk x0 A0 n0 c0 R0 B0 p0 d0 Q0 W w0 m0 u0 o0).mono fun e W' ⟨he, bel⟩ => ?_
  subst he
  exact ⟨_, rfl, _, _, _, [], _, [], hW', trodAll_mk1 (shut_bool Try.underlying4 _), (trodAll_cons_mk (Below.trod laidOut (by kernel_rfl) (of_decide_eq_true (by kernel_rfl)) k0 bel lt0) trodAll_mk0), rfl, bel.frame _, fun h => by cases h⟩

theorem over : Rows.fnExactAbortTransactionRow.holds Try.pinned (OpenSpec.ofChange Rows.fnExactAbortTransactionSpec) :=
  OpenClaim.holds_of_wide 3 Try.f3 rfl rfl rfl rfl rfl rfl rfl ⟨rfl, rfl, rfl, rfl, rfl⟩ rfl rfl rfl rfl rfl (by kernel_rfl) Try.func3 (by kernel_rfl)
    (of_decide_eq_true (by kernel_rfl)) (by unfold Func.isWrapper; first | (rw [if_pos (by decide +kernel)]; kernel_rfl) | (rw [if_neg (by decide +kernel)]; exact ⟨rfl, rfl⟩))
    (fun os started H enc _ => lifted os started H enc)

/-- THE STATEMENT -/
theorem proved : Rows.FnExactAbortTransactionSaid := over
#print axioms proved
end Go.Proofs.Ytigbknmiidhblaa.fnExactAbortTransaction
