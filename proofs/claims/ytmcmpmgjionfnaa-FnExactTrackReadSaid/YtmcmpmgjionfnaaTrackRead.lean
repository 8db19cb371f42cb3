/- TrackRead of the program answers as its model at every transaction, key and version, in memory of its own: the law returns true and writes nothing that was there. No condition. -/
import Derived.Test.YtmcmpmgjionfnaaTk
import Derived.Test.YtmcmpmgjionfnaaLt
import Derived.Test.YtmcmpmgjionfnaaOpen
import Derived.WalkKit
import Derived.ProofKit
import Derived.OpenShut
import Derived.ShutString
import Derived.ChangeOld
import Derived.Below
import Derived.Carry
import Derived.Lib.Hide
import Derived.StillTailTactics
import Derived.Deep.RegionHeld3
import Derived.Deep.DeepHandedRow
namespace Go.Proofs.Ytmcmpmgjionfnaa.fnExactTrackRead
open Go.ChangeShapes Go.WideShapes Go.ChangeAt Go.RowKit
open Go.ChangeMaps (open_string shut_string)
open Go.Proofs.Ytmcmpmgjionfnaa.el2
open Go.Proofs.Ytmcmpmgjionfnaa.tx
open Go.Proofs.Ytmcmpmgjionfnaa.bx
open Go.Proofs.Ytmcmpmgjionfnaa.opn
open Go.Proofs.Ytmcmpmgjionfnaa.sl (Ver)
open Go.Proofs.Ytmcmpmgjionfnaa.fr (FR)
open Go.Proofs.Ytmcmpmgjionfnaa.vers (new2 new3)
set_option linter.unusedVariables false
theorem own : ownKnob Try.prog.godebug = none := by kernel_rfl
theorem laidOut : laidOutB Try.prog = true := by kernel_rfl
set_option maxHeartbeats 6400000 in
theorem walk (x0 : Hd) (A0 : Option Addr) (n0 c0 : Nat) (R0 : List E2) (B0 : Option Addr) (p0 d0 : Nat) (Q0 : List E2) (a1 : Int) (x2 : Ver) (w : World) (h0 : Go.Proofs.Ytmcmpmgjionfnaa.el2.Vs w w.heap.size A0 n0 R0) (m0 : n0 ≤ maxLen) (g0 : Go.Proofs.Ytmcmpmgjionfnaa.el2.Vs w w.heap.size B0 p0 Q0) (o0 : p0 ≤ maxLen) (b1 : (Lit.int .i64 a1).wf = true) :
    Calls Try.prog 4 #[.agg #[.int .i64 x0.i, .int .i64 x0.s, .int .i64 x0.t, .int .i64 x0.b, .int .i64 x0.l, .int .i64 x0.h, .int .i64 x0.c, .slice A0 n0 c0, .slice B0 p0 d0], .int .i64 a1, .agg #[.int .i64 x2.a, .int .i64 x2.b, .int .i64 x2.c, .int .i64 x2.d, .int .i64 x2.e]] w fun e w' => e = .returned (.bool true) ∧ Below w.heap.size w w' := by
  unfold maxLen at m0 o0
  have H0 := Lib.hid h0
  have G0 := Lib.hid g0
  have hlen0 := h0.1
  have hlem0 := g0.1
  clear h0 g0
  clear b1
  by_cases hbig0 : (1048576 : Int) < n0 + p0
  · have hz := szT_no (left := (1048576 : Int)) (n := n0) (n2 := p0) (by omega)
    have HZ0 := Lib.hid hz
    clear hz
    go_enter Try.func4, Try.ntmps4
    go_wp2_with fail
    have hx0 := TB.new w x0 A0 n0 c0 B0 p0 d0 49
    replace hx0 := (hx0).keep (by simp; try omega) (new1 (w.alloc (.cells #[.int .i64 x0.i, .int .i64 x0.s, .int .i64 x0.t, .int .i64 x0.b, .int .i64 x0.l, .int .i64 x0.h, .int .i64 x0.c, .slice A0 n0 c0, .slice B0 p0 d0] 49)) (.cells #[.int .i64 x2.a, .int .i64 x2.b, .int .i64 x2.c, .int .i64 x2.d, .int .i64 x2.e] 50))
    have hx1 := Go.Proofs.Ytmcmpmgjionfnaa.ch.boxed (w.alloc (.cells #[.int .i64 x0.i, .int .i64 x0.s, .int .i64 x0.t, .int .i64 x0.b, .int .i64 x0.l, .int .i64 x0.h, .int .i64 x0.c, .slice A0 n0 c0, .slice B0 p0 d0] 49)) x2 50
    rw [show (w.alloc (.cells #[.int .i64 x0.i, .int .i64 x0.s, .int .i64 x0.t, .int .i64 x0.b, .int .i64 x0.l, .int .i64 x0.h, .int .i64 x0.c, .slice A0 n0 c0, .slice B0 p0 d0] 49)).heap.size = w.heap.size + 1 by simp] at hx1
    have hz : ((w.alloc (.cells #[.int .i64 x0.i, .int .i64 x0.s, .int .i64 x0.t, .int .i64 x0.b, .int .i64 x0.l, .int .i64 x0.h, .int .i64 x0.c, .slice A0 n0 c0, .slice B0 p0 d0] 49)).alloc (.cells #[.int .i64 x2.a, .int .i64 x2.b, .int .i64 x2.c, .int .i64 x2.d, .int .i64 x2.e] 50)).heap.size = w.heap.size + 2 := by simp
    have hb := Go.Proofs.Ytmcmpmgjionfnaa.vers.new2 w (.cells #[.int .i64 x0.i, .int .i64 x0.s, .int .i64 x0.t, .int .i64 x0.b, .int .i64 x0.l, .int .i64 x0.h, .int .i64 x0.c, .slice A0 n0 c0, .slice B0 p0 d0] 49) (.cells #[.int .i64 x2.a, .int .i64 x2.b, .int .i64 x2.c, .int .i64 x2.d, .int .i64 x2.e] 50)
    generalize ((w.alloc (.cells #[.int .i64 x0.i, .int .i64 x0.s, .int .i64 x0.t, .int .i64 x0.b, .int .i64 x0.l, .int .i64 x0.h, .int .i64 x0.c, .slice A0 n0 c0, .slice B0 p0 d0] 49)).alloc (.cells #[.int .i64 x2.a, .int .i64 x2.b, .int .i64 x2.c, .int .i64 x2.d, .int .i64 x2.e] 50)) = W1 at hx0 hx1 hb hz ⊢
    have HB1 : Hid (Below w.heap.size w W1) := Lib.hid hb
    have HS1 : Hid (Below w.heap.size w W1) := Lib.hid hb
    have HF1 : Hid (FR 0 0 w W1) := Lib.hid (FR.of_below hb)
    have hs1 : w.heap.size ≤ W1.heap.size := hb.size
    clear hb
    have hz1 : w.heap.size + 2 ≤ W1.heap.size := Nat.le_of_eq hz.symm
    clear hz
    have b0_1 := Lib.hid hx0
    clear hx0
    have b1_1 := Lib.hid hx1
    clear hx1
    refine (count_tx x0 A0 n0 c0 B0 p0 d0 _ _ (by omega) (by omega) (by omega) (by omega)).mono ?_
    rintro e W2 ⟨rfl, hb⟩
    rw [HZ0.out]
    have HB2 : Hid (Below w.heap.size w W2) := Lib.hid (HB1.out.trans (hb.mono HB1.out.size))
    have HS2 : Hid (Below W1.heap.size W1 W2) := Lib.hid hb
    have HF2 : Hid (FR 0 0 W1 W2) := Lib.hid (FR.of_below hb)
    have hs2 : W1.heap.size ≤ W2.heap.size := hb.size
    clear hb
    have b0_2 := Lib.hid (Go.Proofs.Ytmcmpmgjionfnaa.tm.TB.fr b0_1.out HF2.out (by omega) (by omega))
    clear b0_1
    have b1_2 := Lib.hid (Go.Proofs.Ytmcmpmgjionfnaa.tk.ver_off b1_1.out (HF2.out.block (w.heap.size + 1) (by omega) (by omega)))
    clear b1_1
    go_wp2_with fail
    go_ret
    exact ⟨rfl, HB2.out⟩
  have hz := szT_yes (left := (1048576 : Int)) (n := n0) (n2 := p0) (by omega)
  have HZ0 := Lib.hid hz
  clear hz
  obtain ⟨lf0, hlf⟩ : ∃ lf : Int, lf = (1048576 : Int) - (n0 : Int) - (p0 : Int) := ⟨_, rfl⟩
  have hz := HZ0.out
  clear HZ0
  rw [← hlf] at hz
  have HZ0 := Lib.hid hz
  have tz0 : decide (lf0 < 0) = false := decide_eq_false (by omega)
  have lf00 : 0 ≤ lf0 := by omega
  have lf10 : lf0 ≤ 1048576 := by omega
  clear hlf hz
  obtain ⟨q1, hq1⟩ : ∃ q, Go.Proofs.Ytmcmpmgjionfnaa.tk.trX x0 R0 Q0 a1 x2 = q := ⟨_, rfl⟩
  obtain ⟨qR, hqR⟩ : ∃ q, Go.Proofs.Ytmcmpmgjionfnaa.tk.trR x0 R0 Q0 a1 x2 = q := ⟨_, rfl⟩
  obtain ⟨q2, hq2⟩ : ∃ q, Go.Proofs.Ytmcmpmgjionfnaa.tk.trB x0 R0 Q0 a1 x2 = q := ⟨_, rfl⟩
  obtain ⟨nq, hnq⟩ : ∃ k, qR.length = k := ⟨_, rfl⟩
  have bq : nq ≤ n0 ∨ nq ≤ 61 := by have := Go.Proofs.Ytmcmpmgjionfnaa.tk.trR_max x0 R0 Q0 a1 x2; rw [hqR] at this; omega
  have HQ1 := Lib.hid hq1
  have HQR := Lib.hid hqR
  have HQ2 := Lib.hid hq2
  have HNQ := Lib.hid hnq
  clear hq1 hqR hq2 hnq
  go_enter Try.func4, Try.ntmps4
  go_wp2_with fail
  have hx0 := TB.new w x0 A0 n0 c0 B0 p0 d0 49
  replace hx0 := (hx0).keep (by simp; try omega) (new1 (w.alloc (.cells #[.int .i64 x0.i, .int .i64 x0.s, .int .i64 x0.t, .int .i64 x0.b, .int .i64 x0.l, .int .i64 x0.h, .int .i64 x0.c, .slice A0 n0 c0, .slice B0 p0 d0] 49)) (.cells #[.int .i64 x2.a, .int .i64 x2.b, .int .i64 x2.c, .int .i64 x2.d, .int .i64 x2.e] 50))
  have hx1 := Go.Proofs.Ytmcmpmgjionfnaa.ch.boxed (w.alloc (.cells #[.int .i64 x0.i, .int .i64 x0.s, .int .i64 x0.t, .int .i64 x0.b, .int .i64 x0.l, .int .i64 x0.h, .int .i64 x0.c, .slice A0 n0 c0, .slice B0 p0 d0] 49)) x2 50
  rw [show (w.alloc (.cells #[.int .i64 x0.i, .int .i64 x0.s, .int .i64 x0.t, .int .i64 x0.b, .int .i64 x0.l, .int .i64 x0.h, .int .i64 x0.c, .slice A0 n0 c0, .slice B0 p0 d0] 49)).heap.size = w.heap.size + 1 by simp] at hx1
  have hz : ((w.alloc (.cells #[.int .i64 x0.i, .int .i64 x0.s, .int .i64 x0.t, .int .i64 x0.b, .int .i64 x0.l, .int .i64 x0.h, .int .i64 x0.c, .slice A0 n0 c0, .slice B0 p0 d0] 49)).alloc (.cells #[.int .i64 x2.a, .int .i64 x2.b, .int .i64 x2.c, .int .i64 x2.d, .int .i64 x2.e] 50)).heap.size = w.heap.size + 2 := by simp
  have hb := Go.Proofs.Ytmcmpmgjionfnaa.vers.new2 w (.cells #[.int .i64 x0.i, .int .i64 x0.s, .int .i64 x0.t, .int .i64 x0.b, .int .i64 x0.l, .int .i64 x0.h, .int .i64 x0.c, .slice A0 n0 c0, .slice B0 p0 d0] 49) (.cells #[.int .i64 x2.a, .int .i64 x2.b, .int .i64 x2.c, .int .i64 x2.d, .int .i64 x2.e] 50)
  generalize ((w.alloc (.cells #[.int .i64 x0.i, .int .i64 x0.s, .int .i64 x0.t, .int .i64 x0.b, .int .i64 x0.l, .int .i64 x0.h, .int .i64 x0.c, .slice A0 n0 c0, .slice B0 p0 d0] 49)).alloc (.cells #[.int .i64 x2.a, .int .i64 x2.b, .int .i64 x2.c, .int .i64 x2.d, .int .i64 x2.e] 50)) = W1 at hx0 hx1 hb hz ⊢
  have HB1 : Hid (Below w.heap.size w W1) := Lib.hid hb
  have HS1 : Hid (Below w.heap.size w W1) := Lib.hid hb
  have HF1 : Hid (FR 0 0 w W1) := Lib.hid (FR.of_below hb)
  have hs1 : w.heap.size ≤ W1.heap.size := hb.size
  clear hb
  have hz1 : w.heap.size + 2 ≤ W1.heap.size := Nat.le_of_eq hz.symm
  clear hz
  have b0_1 := Lib.hid hx0
  clear hx0
  have b1_1 := Lib.hid hx1
  clear hx1
  refine (count_tx x0 A0 n0 c0 B0 p0 d0 _ _ (by omega) (by omega) (by omega) (by omega)).mono ?_
  rintro e W2 ⟨rfl, hb⟩
  rw [HZ0.out]
  have HB2 : Hid (Below w.heap.size w W2) := Lib.hid (HB1.out.trans (hb.mono HB1.out.size))
  have HS2 : Hid (Below W1.heap.size W1 W2) := Lib.hid hb
  have HF2 : Hid (FR 0 0 W1 W2) := Lib.hid (FR.of_below hb)
  have hs2 : W1.heap.size ≤ W2.heap.size := hb.size
  clear hb
  have b0_2 := Lib.hid (Go.Proofs.Ytmcmpmgjionfnaa.tm.TB.fr b0_1.out HF2.out (by omega) (by omega))
  clear b0_1
  have b1_2 := Lib.hid (Go.Proofs.Ytmcmpmgjionfnaa.tk.ver_off b1_1.out (HF2.out.block (w.heap.size + 1) (by omega) (by omega)))
  clear b1_1
  go_wp2_with fail
  go_cut [8, 9] from 23 to 31 (fun p b wx => ∃ (bb lo hi : Nat) (A : Option Addr) (c : Nat) (A2 : Option Addr) (c2 : Nat), p = .pointer (some ⟨bb, 0, none⟩) ∧ b = .bool q2 ∧ Go.Proofs.Ytmcmpmgjionfnaa.lt.Reg W2 wx bb lo hi q1 A nq c qR A2 p0 c2 Q0)
  case first =>
    have hbk0 : Below W2.heap.size W2 W2.drew := (Below.refl _ _).drew
    have hbw0 := HB2.out.trans (hbk0.mono HB2.out.size)
    have b0l_2 : w.heap.size < W2.heap.size := by omega
    have b1l_2 : w.heap.size + 1 < W2.heap.size := by omega
    obtain ⟨b0c0, b0c1, b0c2, b0c3, b0c4, b0c5, b0c6, b0c7, b0c8⟩ := b0_2.out
    obtain ⟨b1c0, b1c1, b1c2, b1c3, b1c4⟩ := Go.Proofs.Ytmcmpmgjionfnaa.ch.atFlat (b1_2.out)
    go_region_held3 (fun w' => w'.cell? ⟨w.heap.size, 0, none⟩ = some (.int .i64 x0.i) ∧ w'.cell? ⟨w.heap.size, 1, none⟩ = some (.int .i64 x0.s) ∧ w'.cell? ⟨w.heap.size, 2, none⟩ = some (.int .i64 x0.t) ∧ w'.cell? ⟨w.heap.size, 3, none⟩ = some (.int .i64 x0.b) ∧ w'.cell? ⟨w.heap.size, 4, none⟩ = some (.int .i64 x0.l) ∧ w'.cell? ⟨w.heap.size, 5, none⟩ = some (.int .i64 x0.h) ∧ w'.cell? ⟨w.heap.size, 6, none⟩ = some (.int .i64 x0.c) ∧ w'.cell? ⟨w.heap.size, 7, none⟩ = some (.slice A0 n0 c0) ∧ w'.cell? ⟨w.heap.size, 8, none⟩ = some (.slice B0 p0 d0) ∧ w'.cell? ⟨w.heap.size + 1, 0, none⟩ = some (.int .i64 x2.a) ∧ w'.cell? ⟨w.heap.size + 1, 1, none⟩ = some (.int .i64 x2.b) ∧ w'.cell? ⟨w.heap.size + 1, 2, none⟩ = some (.int .i64 x2.c) ∧ w'.cell? ⟨w.heap.size + 1, 3, none⟩ = some (.int .i64 x2.d) ∧ w'.cell? ⟨w.heap.size + 1, 4, none⟩ = some (.int .i64 x2.e)) (first | go_keep | (repeat' apply And.intro) <;> exact (Go.Proofs.Ytmcmpmgjionfnaa.lt.put_cell (by simp only; omega)).trans (by assumption)) (first | (go_at_call 29; (with_reducible refine (Go.Proofs.Ytmcmpmgjionfnaa.tx.copied_tx x0 (by omega) (by omega) (H0.out.below hbw0) (G0.out.below hbw0) (hbw0).size).mono ?_); rintro e Wa1 ⟨Ns1, Ms1, rfl, hv, hu, hb⟩; have hbk1 := hbk0.trans (hb.mono hbk0.size); have hbw1 := HB2.out.trans (hbk1.mono HB2.out.size); have hzs1 := hbk1.size; have s1ra1 := hv; have s1wa1 := hu; clear hb hv hu; obtain ⟨b0d10, b0d11, b0d12, b0d13, b0d14, b0d15, b0d16, b0d17, b0d18⟩ := ((b0_2.out).keep b0l_2 (hbk1)); obtain ⟨b1d10, b1d11, b1d12, b1d13, b1d14⟩ := Go.Proofs.Ytmcmpmgjionfnaa.ch.atFlat (((Go.Proofs.Ytmcmpmgjionfnaa.sl.At.keep b1_2.out b1l_2 (hbk1))))) | (go_at_call 29; have hbk0Z := (Go.Proofs.Ytmcmpmgjionfnaa.el2.new1 W2 (.cells #[.int .i64 0, .int .i64 0, .int .i64 0, .int .i64 0, .int .i64 0, .int .i64 0, .int .i64 0, .slice none 0 0, .slice none 0 0] 27)).drew; have hbw0Z := HB2.out.trans (hbk0Z.mono HB2.out.size); have zbZ : Bx ((W2.alloc (.cells #[.int .i64 0, .int .i64 0, .int .i64 0, .int .i64 0, .int .i64 0, .int .i64 0, .int .i64 0, .slice none 0 0, .slice none 0 0] 27)).drew) W2.heap.size ⟨0, 0, 0, 0, 0, 0, 0⟩ (.slice none 0 0) (.slice none 0 0) := Bx.zero W2; have zpF := Nat.le_refl W2.heap.size; (with_reducible refine (Go.Proofs.Ytmcmpmgjionfnaa.tx.copied_tx x0 (by omega) (by omega) (H0.out.below hbw0Z) (G0.out.below hbw0Z) (hbw0Z).size).mono ?_); rintro e Wa1 ⟨Ns1, Ms1, rfl, hv, hu, hb⟩; have hbk1 := hbk0Z.trans (hb.mono hbk0Z.size); have hbw1 := HB2.out.trans (hbk1.mono HB2.out.size); have hzs1 := hbk1.size; have zltF := zbZ.lt; have zb1 := zbZ.keep hb zltF; have s1ra1 := hv; have s1wa1 := hu; clear hb hv hu; obtain ⟨b0d10, b0d11, b0d12, b0d13, b0d14, b0d15, b0d16, b0d17, b0d18⟩ := ((b0_2.out).keep b0l_2 (hbk1)); obtain ⟨b1d10, b1d11, b1d12, b1d13, b1d14⟩ := Go.Proofs.Ytmcmpmgjionfnaa.ch.atFlat (((Go.Proofs.Ytmcmpmgjionfnaa.sl.At.keep b1_2.out b1l_2 (hbk1))))) | (go_at_call 30; (with_reducible refine (Go.Proofs.Ytmcmpmgjionfnaa.vers.to_version x2.a x2.b x2.c x2.d x2.e _).mono ?_); rintro e Wa2 ⟨rfl, hb⟩; have hbk2 := hbk1.trans (hb.mono hbk1.size); have hbw2 := HB2.out.trans (hbk2.mono HB2.out.size); have hzs2 := hbk2.size; (try (have zltF := zb1.lt; have zb2 := zb1.keep hb zltF)); have s1ra2 := (s1ra1.below hb).more hb.size; have s1wa2 := (s1wa1.below hb).more hb.size; clear hb; obtain ⟨b0d20, b0d21, b0d22, b0d23, b0d24, b0d25, b0d26, b0d27, b0d28⟩ := ((b0_2.out).keep b0l_2 (hbk2)); obtain ⟨b1d20, b1d21, b1d22, b1d23, b1d24⟩ := Go.Proofs.Ytmcmpmgjionfnaa.ch.atFlat (((Go.Proofs.Ytmcmpmgjionfnaa.sl.At.keep b1_2.out b1l_2 (hbk2))))) | (go_at_call 30; have hn := Go.Proofs.Ytmcmpmgjionfnaa.el2.new1 (Wa1) (.cells #[.int .i64 0, .int .i64 0, .int .i64 0, .int .i64 0, .int .i64 0, .int .i64 0, .int .i64 0, .slice none 0 0, .slice none 0 0] 27); have hbk1Z := hbk1.trans (hn.mono hbk1.size); have hbw1Z := HB2.out.trans (hbk1Z.mono HB2.out.size); have zbZ := Bx.zero (Wa1); have zpF := hbk1.size; have s1ra1Z := (s1ra1.below hn).more hn.size; have s1wa1Z := (s1wa1.below hn).more hn.size; (with_reducible refine (Go.Proofs.Ytmcmpmgjionfnaa.vers.to_version x2.a x2.b x2.c x2.d x2.e _).mono ?_); rintro e Wa2 ⟨rfl, hb⟩; have hbk2 := hbk1Z.trans (hb.mono hbk1Z.size); have hbw2 := HB2.out.trans (hbk2.mono HB2.out.size); have hzs2 := hbk2.size; have zltF := zbZ.lt; have zb2 := zbZ.keep hb zltF; have s1ra2 := (s1ra1Z.below hb).more hb.size; have s1wa2 := (s1wa1Z.below hb).more hb.size; clear hb; obtain ⟨b0d20, b0d21, b0d22, b0d23, b0d24, b0d25, b0d26, b0d27, b0d28⟩ := ((b0_2.out).keep b0l_2 (hbk2)); obtain ⟨b1d20, b1d21, b1d22, b1d23, b1d24⟩ := Go.Proofs.Ytmcmpmgjionfnaa.ch.atFlat (((Go.Proofs.Ytmcmpmgjionfnaa.sl.At.keep b1_2.out b1l_2 (hbk2))))) | (go_at_call 17; (with_reducible refine (Go.Proofs.Ytmcmpmgjionfnaa.tk.spec_track x0 a1 x2 (by omega) (by omega) s1ra2 s1wa2 (Nat.le_refl _) (Nat.le_refl _) (.inr ⟨_, _, rfl⟩)).mono ?_); rintro e Wa3 ⟨As3, cs3, Bs3, ds3, he, ho, hb⟩; rw [HQ1.out, HQR.out, HNQ.out, HQ2.out] at he; rw [HQR.out, HNQ.out] at ho; subst he; have hvF := Go.Proofs.Ytmcmpmgjionfnaa.lt.own_of ho (Nat.le_refl _) HNQ.out hlem0; clear ho; have hbk3 := hbk2.trans (hb.mono hbk2.size); have hbw3 := HB2.out.trans (hbk3.mono HB2.out.size); have hzs3 := hbk3.size; (try (have zltF := zb2.lt; have zb3 := zb2.keep hb zltF)); have hloF := hbk2.size; have hl2F := hb.size; (try (obtain ⟨y0, y1, y2, y3, y4, y5, y6, y7, y8⟩ := zb3.tb; have f0 := zb3.fz 0; have f1 := zb3.fz 1; have f2 := zb3.fz 2; have f3 := zb3.fz 3; have f4 := zb3.fz 4; have f5 := zb3.fz 5; have f6 := zb3.fz 6; have f7 := zb3.fz 7; have f8 := zb3.fz 8)); have s1ra3 := (s1ra2.below hb).more hb.size; have s1wa3 := (s1wa2.below hb).more hb.size; clear hb; obtain ⟨b0d30, b0d31, b0d32, b0d33, b0d34, b0d35, b0d36, b0d37, b0d38⟩ := ((b0_2.out).keep b0l_2 (hbk3)); obtain ⟨b1d30, b1d31, b1d32, b1d33, b1d34⟩ := Go.Proofs.Ytmcmpmgjionfnaa.ch.atFlat (((Go.Proofs.Ytmcmpmgjionfnaa.sl.At.keep b1_2.out b1l_2 (hbk3))))) | (go_at_call 17; have hn := Go.Proofs.Ytmcmpmgjionfnaa.el2.new1 (Wa2) (.cells #[.int .i64 0, .int .i64 0, .int .i64 0, .int .i64 0, .int .i64 0, .int .i64 0, .int .i64 0, .slice none 0 0, .slice none 0 0] 27); have hbk2Z := hbk2.trans (hn.mono hbk2.size); have hbw2Z := HB2.out.trans (hbk2Z.mono HB2.out.size); have zbZ := Bx.zero (Wa2); have zpF := hbk2.size; have s1ra2Z := (s1ra2.below hn).more hn.size; have s1wa2Z := (s1wa2.below hn).more hn.size; (with_reducible refine (Go.Proofs.Ytmcmpmgjionfnaa.tk.spec_track x0 a1 x2 (by omega) (by omega) s1ra2Z s1wa2Z (Nat.le_refl _) (Nat.le_refl _) (.inr ⟨_, _, rfl⟩)).mono ?_); rintro e Wa3 ⟨As3, cs3, Bs3, ds3, he, ho, hb⟩; rw [HQ1.out, HQR.out, HNQ.out, HQ2.out] at he; rw [HQR.out, HNQ.out] at ho; subst he; have hvF := Go.Proofs.Ytmcmpmgjionfnaa.lt.own_of ho (Nat.le_refl _) HNQ.out hlem0; clear ho; have hbk3 := hbk2Z.trans (hb.mono hbk2Z.size); have hbw3 := HB2.out.trans (hbk3.mono HB2.out.size); have hzs3 := hbk3.size; have zltF := zbZ.lt; have zb3 := zbZ.keep hb zltF; have hloF := hbk2Z.size; have hl2F := hb.size; (try (obtain ⟨y0, y1, y2, y3, y4, y5, y6, y7, y8⟩ := zb3.tb; have f0 := zb3.fz 0; have f1 := zb3.fz 1; have f2 := zb3.fz 2; have f3 := zb3.fz 3; have f4 := zb3.fz 4; have f5 := zb3.fz 5; have f6 := zb3.fz 6; have f7 := zb3.fz 7; have f8 := zb3.fz 8)); have s1ra3 := (s1ra2Z.below hb).more hb.size; have s1wa3 := (s1wa2Z.below hb).more hb.size; clear hb; obtain ⟨b0d30, b0d31, b0d32, b0d33, b0d34, b0d35, b0d36, b0d37, b0d38⟩ := ((b0_2.out).keep b0l_2 (hbk3)); obtain ⟨b1d30, b1d31, b1d32, b1d33, b1d34⟩ := Go.Proofs.Ytmcmpmgjionfnaa.ch.atFlat (((Go.Proofs.Ytmcmpmgjionfnaa.sl.At.keep b1_2.out b1l_2 (hbk3))))))
    all_goals go_wp2_with fail
    all_goals go_meet
    all_goals (first | (have zz := zb3; exact ⟨_, _, _, _, _, _, _, rfl, rfl, Go.Proofs.Ytmcmpmgjionfnaa.lt.Reg.early hbk3 zb3 zpF zltF hl2F hvF⟩) | exact ⟨_, _, _, _, _, _, _, rfl, rfl, Go.Proofs.Ytmcmpmgjionfnaa.lt.Reg.late hbk3 hloF hl2F hvF⟩)
  case rest =>
    obtain ⟨bbs3, los3, his3, As3, cs3, Bs3, ds3, rfl, rfl, hreg⟩ := hcut
    obtain ⟨W3, hW⟩ : ∃ W, W = wc := ⟨_, rfl⟩
    subst hW
    have hb1s3 := hreg.b1
    have hb2s3 := hreg.b2
    have hl1s3 := hreg.l1
    have hl2s3 := hreg.l2
    have hl3s3 := hreg.l3
    have hnes3 := hreg.ne
    have hT := hreg.tb
    have hv := hreg.own
    have hb := hreg.bel
    clear hreg
    have HB3 : Hid (Below w.heap.size w W3) := Lib.hid (HB2.out.trans (hb.mono HB2.out.size))
    have HS3 : Hid (Below W2.heap.size W2 W3) := Lib.hid hb
    have HF3 : Hid (FR 0 0 W2 W3) := Lib.hid (FR.of_below hb)
    have hs3 : W2.heap.size ≤ W3.heap.size := hb.size
    clear hb
    have b0_3 := Lib.hid (Go.Proofs.Ytmcmpmgjionfnaa.tm.TB.fr b0_2.out HF3.out (by omega) (by omega))
    clear b0_2
    have b1_3 := Lib.hid (Go.Proofs.Ytmcmpmgjionfnaa.tk.ver_off b1_2.out (HF3.out.block (w.heap.size + 1) (by omega) (by omega)))
    clear b1_2
    have s3_3 := Lib.hid hv
    have s3r_3 := Lib.hid (hv.1.vs hl3s3)
    have s3w_3 := Lib.hid (hv.2.vs hl3s3)
    clear hv
    have b2_3 := Lib.hid hT
    clear hT
    obtain ⟨b0c0, b0c1, b0c2, b0c3, b0c4, b0c5, b0c6, b0c7, b0c8⟩ := b0_3.out
    have b0L : w.heap.size < W3.heap.size := by omega
    go_wp2_with fail
    refine (Go.Proofs.Ytmcmpmgjionfnaa.tm.own_tx x0 (by omega) (by omega) (H0.out.below HB3.out) (G0.out.below HB3.out) (HB3.out).size).mono ?_
    rintro e W4 ⟨Ns4, Ms4, rfl, hv, hb⟩
    have hvr := hv.1.vs (Nat.le_refl _)
    have hvw := hv.2.vs (Nat.le_refl _)
    have HB4 : Hid (Below w.heap.size w W4) := Lib.hid (HB3.out.trans (hb.mono HB3.out.size))
    have HS4 : Hid (Below W3.heap.size W3 W4) := Lib.hid hb
    have HF4 : Hid (FR 0 0 W3 W4) := Lib.hid (FR.of_below hb)
    have hs4 : W3.heap.size ≤ W4.heap.size := hb.size
    clear hb
    have b0_4 := Lib.hid (Go.Proofs.Ytmcmpmgjionfnaa.tm.TB.fr b0_3.out HF4.out (by omega) (by omega))
    clear b0_3
    have b1_4 := Lib.hid (Go.Proofs.Ytmcmpmgjionfnaa.tk.ver_off b1_3.out (HF4.out.block (w.heap.size + 1) (by omega) (by omega)))
    clear b1_3
    have b2_4 := Lib.hid (Go.Proofs.Ytmcmpmgjionfnaa.tm.TB.fr b2_3.out HF4.out (by omega) (by omega))
    clear b2_3
    have s3_4 := Lib.hid (s3_3.out.fr HF4.out (by omega) (by omega))
    clear s3_3
    have s3r_4 := Lib.hid ((s3r_3.out.below HS4.out).more HS4.out.size)
    clear s3r_3
    have s3w_4 := Lib.hid ((s3w_3.out.below HS4.out).more HS4.out.size)
    clear s3w_3
    have s4_4 := Lib.hid hv
    clear hv
    have s4r_4 := Lib.hid hvr
    clear hvr
    have s4w_4 := Lib.hid hvw
    clear hvw
    clear b0c0 b0c1 b0c2 b0c3 b0c4 b0c5 b0c6 b0c7 b0c8 b0L
    go_wp2_with fail
    have hx0 := TB.new W4 x0 (some ⟨Ns4, 0, none⟩) n0 n0 (some ⟨Ms4, 0, none⟩) p0 p0 27
    have hz : (W4.alloc (.cells #[.int .i64 x0.i, .int .i64 x0.s, .int .i64 x0.t, .int .i64 x0.b, .int .i64 x0.l, .int .i64 x0.h, .int .i64 x0.c, .slice (some ⟨Ns4, 0, none⟩) n0 n0, .slice (some ⟨Ms4, 0, none⟩) p0 p0] 27)).heap.size = W4.heap.size + 1 := by simp
    have hb := Go.Proofs.Ytmcmpmgjionfnaa.el2.new1 W4 (.cells #[.int .i64 x0.i, .int .i64 x0.s, .int .i64 x0.t, .int .i64 x0.b, .int .i64 x0.l, .int .i64 x0.h, .int .i64 x0.c, .slice (some ⟨Ns4, 0, none⟩) n0 n0, .slice (some ⟨Ms4, 0, none⟩) p0 p0] 27)
    generalize (W4.alloc (.cells #[.int .i64 x0.i, .int .i64 x0.s, .int .i64 x0.t, .int .i64 x0.b, .int .i64 x0.l, .int .i64 x0.h, .int .i64 x0.c, .slice (some ⟨Ns4, 0, none⟩) n0 n0, .slice (some ⟨Ms4, 0, none⟩) p0 p0] 27)) = W5 at hx0 hb hz ⊢
    have HB5 : Hid (Below w.heap.size w W5) := Lib.hid (HB4.out.trans (hb.mono HB4.out.size))
    have HS5 : Hid (Below W4.heap.size W4 W5) := Lib.hid hb
    have HF5 : Hid (FR 0 0 W4 W5) := Lib.hid (FR.of_below hb)
    have hs5 : W4.heap.size ≤ W5.heap.size := hb.size
    clear hb
    have b0_5 := Lib.hid (Go.Proofs.Ytmcmpmgjionfnaa.tm.TB.fr b0_4.out HF5.out (by omega) (by omega))
    clear b0_4
    have b1_5 := Lib.hid (Go.Proofs.Ytmcmpmgjionfnaa.tk.ver_off b1_4.out (HF5.out.block (w.heap.size + 1) (by omega) (by omega)))
    clear b1_4
    have b2_5 := Lib.hid (Go.Proofs.Ytmcmpmgjionfnaa.tm.TB.fr b2_4.out HF5.out (by omega) (by omega))
    clear b2_4
    have s3_5 := Lib.hid (s3_4.out.fr HF5.out (by omega) (by omega))
    clear s3_4
    have s3r_5 := Lib.hid ((s3r_4.out.below HS5.out).more HS5.out.size)
    clear s3r_4
    have s3w_5 := Lib.hid ((s3w_4.out.below HS5.out).more HS5.out.size)
    clear s3w_4
    have s4_5 := Lib.hid (s4_4.out.fr HF5.out (by omega) (by omega))
    clear s4_4
    have s4r_5 := Lib.hid ((s4r_4.out.below HS5.out).more HS5.out.size)
    clear s4r_4
    have s4w_5 := Lib.hid ((s4w_4.out.below HS5.out).more HS5.out.size)
    clear s4w_4
    have hz5 : W4.heap.size + 1 ≤ W5.heap.size := Nat.le_of_eq hz.symm
    clear hz
    have b3_5 := Lib.hid hx0
    clear hx0
    go_cut [11, 12] from 34 to 41 (fun p b wx => ∃ (bb lo hi : Nat) (A : Option Addr) (c : Nat) (A2 : Option Addr) (c2 : Nat), p = .pointer (some ⟨bb, 0, none⟩) ∧ b = .bool q2 ∧ Go.Proofs.Ytmcmpmgjionfnaa.lt.Reg W5 wx bb lo hi q1 A nq c qR A2 p0 c2 Q0)
    case first =>
      have hbk0 : Below W5.heap.size W5 W5.drew := (Below.refl _ _).drew
      have hbw0 := HB5.out.trans (hbk0.mono HB5.out.size)
      have b3l_5 : W4.heap.size < W5.heap.size := by omega
      have b1l_5 : w.heap.size + 1 < W5.heap.size := by omega
      obtain ⟨b3c0, b3c1, b3c2, b3c3, b3c4, b3c5, b3c6, b3c7, b3c8⟩ := b3_5.out
      obtain ⟨b1c0, b1c1, b1c2, b1c3, b1c4⟩ := Go.Proofs.Ytmcmpmgjionfnaa.ch.atFlat (b1_5.out)
      go_region_held3 (fun w' => w'.cell? ⟨W4.heap.size, 0, none⟩ = some (.int .i64 x0.i) ∧ w'.cell? ⟨W4.heap.size, 1, none⟩ = some (.int .i64 x0.s) ∧ w'.cell? ⟨W4.heap.size, 2, none⟩ = some (.int .i64 x0.t) ∧ w'.cell? ⟨W4.heap.size, 3, none⟩ = some (.int .i64 x0.b) ∧ w'.cell? ⟨W4.heap.size, 4, none⟩ = some (.int .i64 x0.l) ∧ w'.cell? ⟨W4.heap.size, 5, none⟩ = some (.int .i64 x0.h) ∧ w'.cell? ⟨W4.heap.size, 6, none⟩ = some (.int .i64 x0.c) ∧ w'.cell? ⟨W4.heap.size, 7, none⟩ = some (.slice (some ⟨Ns4, 0, none⟩) n0 n0) ∧ w'.cell? ⟨W4.heap.size, 8, none⟩ = some (.slice (some ⟨Ms4, 0, none⟩) p0 p0) ∧ w'.cell? ⟨w.heap.size + 1, 0, none⟩ = some (.int .i64 x2.a) ∧ w'.cell? ⟨w.heap.size + 1, 1, none⟩ = some (.int .i64 x2.b) ∧ w'.cell? ⟨w.heap.size + 1, 2, none⟩ = some (.int .i64 x2.c) ∧ w'.cell? ⟨w.heap.size + 1, 3, none⟩ = some (.int .i64 x2.d) ∧ w'.cell? ⟨w.heap.size + 1, 4, none⟩ = some (.int .i64 x2.e)) (first | go_keep | (repeat' apply And.intro) <;> exact (Go.Proofs.Ytmcmpmgjionfnaa.lt.put_cell (by simp only; omega)).trans (by assumption)) (first | (go_at_call 30; (with_reducible refine (Go.Proofs.Ytmcmpmgjionfnaa.vers.to_version x2.a x2.b x2.c x2.d x2.e _).mono ?_); rintro e Wa1 ⟨rfl, hb⟩; have hbk1 := hbk0.trans (hb.mono hbk0.size); have hbw1 := HB5.out.trans (hbk1.mono HB5.out.size); have hzs1 := hbk1.size; clear hb; obtain ⟨b3d10, b3d11, b3d12, b3d13, b3d14, b3d15, b3d16, b3d17, b3d18⟩ := ((b3_5.out).keep b3l_5 (hbk1)); obtain ⟨b1d10, b1d11, b1d12, b1d13, b1d14⟩ := Go.Proofs.Ytmcmpmgjionfnaa.ch.atFlat (((Go.Proofs.Ytmcmpmgjionfnaa.sl.At.keep b1_5.out b1l_5 (hbk1))))) | (go_at_call 30; have hbk0Z := (Go.Proofs.Ytmcmpmgjionfnaa.el2.new1 W5 (.cells #[.int .i64 0, .int .i64 0, .int .i64 0, .int .i64 0, .int .i64 0, .int .i64 0, .int .i64 0, .slice none 0 0, .slice none 0 0] 27)).drew; have hbw0Z := HB5.out.trans (hbk0Z.mono HB5.out.size); have zbZ : Bx ((W5.alloc (.cells #[.int .i64 0, .int .i64 0, .int .i64 0, .int .i64 0, .int .i64 0, .int .i64 0, .int .i64 0, .slice none 0 0, .slice none 0 0] 27)).drew) W5.heap.size ⟨0, 0, 0, 0, 0, 0, 0⟩ (.slice none 0 0) (.slice none 0 0) := Bx.zero W5; have zpF := Nat.le_refl W5.heap.size; (with_reducible refine (Go.Proofs.Ytmcmpmgjionfnaa.vers.to_version x2.a x2.b x2.c x2.d x2.e _).mono ?_); rintro e Wa1 ⟨rfl, hb⟩; have hbk1 := hbk0Z.trans (hb.mono hbk0Z.size); have hbw1 := HB5.out.trans (hbk1.mono HB5.out.size); have hzs1 := hbk1.size; have zltF := zbZ.lt; have zb1 := zbZ.keep hb zltF; clear hb; obtain ⟨b3d10, b3d11, b3d12, b3d13, b3d14, b3d15, b3d16, b3d17, b3d18⟩ := ((b3_5.out).keep b3l_5 (hbk1)); obtain ⟨b1d10, b1d11, b1d12, b1d13, b1d14⟩ := Go.Proofs.Ytmcmpmgjionfnaa.ch.atFlat (((Go.Proofs.Ytmcmpmgjionfnaa.sl.At.keep b1_5.out b1l_5 (hbk1))))) | (go_at_call 16; (with_reducible refine (Go.Proofs.Ytmcmpmgjionfnaa.tk.impl_track x0 a1 x2 (by omega) (by omega) ((s4r_5.out.below hbk1).more hbk1.size) ((s4w_5.out.below hbk1).more hbk1.size) (Nat.le_refl _)).mono ?_); rintro e Wa2 ⟨As6, cs6, Bs6, ds6, he, ho, hb⟩; rw [HQ1.out, HQR.out, HNQ.out, HQ2.out] at he; rw [HQR.out, HNQ.out] at ho; subst he; have hvF := Go.Proofs.Ytmcmpmgjionfnaa.lt.own_of ho (Nat.le_refl _) HNQ.out hlem0; clear ho; have hbk2 := hbk1.trans (hb.mono hbk1.size); have hbw2 := HB5.out.trans (hbk2.mono HB5.out.size); have hzs2 := hbk2.size; (try (have zltF := zb1.lt; have zb2 := zb1.keep hb zltF)); have hloF := hbk1.size; have hl2F := hb.size; (try (obtain ⟨y0, y1, y2, y3, y4, y5, y6, y7, y8⟩ := zb2.tb; have f0 := zb2.fz 0; have f1 := zb2.fz 1; have f2 := zb2.fz 2; have f3 := zb2.fz 3; have f4 := zb2.fz 4; have f5 := zb2.fz 5; have f6 := zb2.fz 6; have f7 := zb2.fz 7; have f8 := zb2.fz 8)); clear hb; obtain ⟨b3d20, b3d21, b3d22, b3d23, b3d24, b3d25, b3d26, b3d27, b3d28⟩ := ((b3_5.out).keep b3l_5 (hbk2)); obtain ⟨b1d20, b1d21, b1d22, b1d23, b1d24⟩ := Go.Proofs.Ytmcmpmgjionfnaa.ch.atFlat (((Go.Proofs.Ytmcmpmgjionfnaa.sl.At.keep b1_5.out b1l_5 (hbk2))))) | (go_at_call 16; have hn := Go.Proofs.Ytmcmpmgjionfnaa.el2.new1 (Wa1) (.cells #[.int .i64 0, .int .i64 0, .int .i64 0, .int .i64 0, .int .i64 0, .int .i64 0, .int .i64 0, .slice none 0 0, .slice none 0 0] 27); have hbk1Z := hbk1.trans (hn.mono hbk1.size); have hbw1Z := HB5.out.trans (hbk1Z.mono HB5.out.size); have zbZ := Bx.zero (Wa1); have zpF := hbk1.size; (with_reducible refine (Go.Proofs.Ytmcmpmgjionfnaa.tk.impl_track x0 a1 x2 (by omega) (by omega) ((s4r_5.out.below hbk1Z).more hbk1Z.size) ((s4w_5.out.below hbk1Z).more hbk1Z.size) (Nat.le_refl _)).mono ?_); rintro e Wa2 ⟨As6, cs6, Bs6, ds6, he, ho, hb⟩; rw [HQ1.out, HQR.out, HNQ.out, HQ2.out] at he; rw [HQR.out, HNQ.out] at ho; subst he; have hvF := Go.Proofs.Ytmcmpmgjionfnaa.lt.own_of ho (Nat.le_refl _) HNQ.out hlem0; clear ho; have hbk2 := hbk1Z.trans (hb.mono hbk1Z.size); have hbw2 := HB5.out.trans (hbk2.mono HB5.out.size); have hzs2 := hbk2.size; have zltF := zbZ.lt; have zb2 := zbZ.keep hb zltF; have hloF := hbk1Z.size; have hl2F := hb.size; (try (obtain ⟨y0, y1, y2, y3, y4, y5, y6, y7, y8⟩ := zb2.tb; have f0 := zb2.fz 0; have f1 := zb2.fz 1; have f2 := zb2.fz 2; have f3 := zb2.fz 3; have f4 := zb2.fz 4; have f5 := zb2.fz 5; have f6 := zb2.fz 6; have f7 := zb2.fz 7; have f8 := zb2.fz 8)); clear hb; obtain ⟨b3d20, b3d21, b3d22, b3d23, b3d24, b3d25, b3d26, b3d27, b3d28⟩ := ((b3_5.out).keep b3l_5 (hbk2)); obtain ⟨b1d20, b1d21, b1d22, b1d23, b1d24⟩ := Go.Proofs.Ytmcmpmgjionfnaa.ch.atFlat (((Go.Proofs.Ytmcmpmgjionfnaa.sl.At.keep b1_5.out b1l_5 (hbk2))))))
      all_goals go_wp2_with fail
      all_goals go_meet
      all_goals (first | (have zz := zb2; exact ⟨_, _, _, _, _, _, _, rfl, rfl, Go.Proofs.Ytmcmpmgjionfnaa.lt.Reg.early hbk2 zb2 zpF zltF hl2F hvF⟩) | exact ⟨_, _, _, _, _, _, _, rfl, rfl, Go.Proofs.Ytmcmpmgjionfnaa.lt.Reg.late hbk2 hloF hl2F hvF⟩)
    case rest =>
      obtain ⟨bbs6, los6, his6, As6, cs6, Bs6, ds6, rfl, rfl, hreg⟩ := hcut
      obtain ⟨W6, hW⟩ : ∃ W, W = wc := ⟨_, rfl⟩
      subst hW
      have hb1s6 := hreg.b1
      have hb2s6 := hreg.b2
      have hl1s6 := hreg.l1
      have hl2s6 := hreg.l2
      have hl3s6 := hreg.l3
      have hnes6 := hreg.ne
      have hT := hreg.tb
      have hv := hreg.own
      have hb := hreg.bel
      clear hreg
      have HB6 : Hid (Below w.heap.size w W6) := Lib.hid (HB5.out.trans (hb.mono HB5.out.size))
      have HS6 : Hid (Below W5.heap.size W5 W6) := Lib.hid hb
      have HF6 : Hid (FR 0 0 W5 W6) := Lib.hid (FR.of_below hb)
      have hs6 : W5.heap.size ≤ W6.heap.size := hb.size
      clear hb
      have b0_6 := Lib.hid (Go.Proofs.Ytmcmpmgjionfnaa.tm.TB.fr b0_5.out HF6.out (by omega) (by omega))
      clear b0_5
      have b1_6 := Lib.hid (Go.Proofs.Ytmcmpmgjionfnaa.tk.ver_off b1_5.out (HF6.out.block (w.heap.size + 1) (by omega) (by omega)))
      clear b1_5
      have b2_6 := Lib.hid (Go.Proofs.Ytmcmpmgjionfnaa.tm.TB.fr b2_5.out HF6.out (by omega) (by omega))
      clear b2_5
      have b3_6 := Lib.hid (Go.Proofs.Ytmcmpmgjionfnaa.tm.TB.fr b3_5.out HF6.out (by omega) (by omega))
      clear b3_5
      have s3_6 := Lib.hid (s3_5.out.fr HF6.out (by omega) (by omega))
      clear s3_5
      have s3r_6 := Lib.hid ((s3r_5.out.below HS6.out).more HS6.out.size)
      clear s3r_5
      have s3w_6 := Lib.hid ((s3w_5.out.below HS6.out).more HS6.out.size)
      clear s3w_5
      have s4_6 := Lib.hid (s4_5.out.fr HF6.out (by omega) (by omega))
      clear s4_5
      have s4r_6 := Lib.hid ((s4r_5.out.below HS6.out).more HS6.out.size)
      clear s4r_5
      have s4w_6 := Lib.hid ((s4w_5.out.below HS6.out).more HS6.out.size)
      clear s4w_5
      have s6_6 := Lib.hid hv
      have s6r_6 := Lib.hid (hv.1.vs hl3s6)
      have s6w_6 := Lib.hid (hv.2.vs hl3s6)
      clear hv
      have b4_6 := Lib.hid hT
      clear hT
      obtain ⟨b2c0, b2c1, b2c2, b2c3, b2c4, b2c5, b2c6, b2c7, b2c8⟩ := b2_6.out
      have b2L : bbs3 < W6.heap.size := by omega
      obtain ⟨b4c0, b4c1, b4c2, b4c3, b4c4, b4c5, b4c6, b4c7, b4c8⟩ := b4_6.out
      have b4L : bbs6 < W6.heap.size := by omega
      go_wp2_with fail
      refine (same_tx q1 (by omega) (by omega) s6r_6.out s3r_6.out s6w_6.out s3w_6.out (Nat.le_refl _)).mono ?_
      rintro e W7 ⟨rfl, hb⟩
      have HB7 : Hid (Below w.heap.size w W7) := Lib.hid (HB6.out.trans (hb.mono HB6.out.size))
      have HS7 : Hid (Below W6.heap.size W6 W7) := Lib.hid hb
      have HF7 : Hid (FR 0 0 W6 W7) := Lib.hid (FR.of_below hb)
      have hs7 : W6.heap.size ≤ W7.heap.size := hb.size
      clear hb
      have b0_7 := Lib.hid (Go.Proofs.Ytmcmpmgjionfnaa.tm.TB.fr b0_6.out HF7.out (by omega) (by omega))
      clear b0_6
      have b1_7 := Lib.hid (Go.Proofs.Ytmcmpmgjionfnaa.tk.ver_off b1_6.out (HF7.out.block (w.heap.size + 1) (by omega) (by omega)))
      clear b1_6
      have b2_7 := Lib.hid (Go.Proofs.Ytmcmpmgjionfnaa.tm.TB.fr b2_6.out HF7.out (by omega) (by omega))
      clear b2_6
      have b3_7 := Lib.hid (Go.Proofs.Ytmcmpmgjionfnaa.tm.TB.fr b3_6.out HF7.out (by omega) (by omega))
      clear b3_6
      have b4_7 := Lib.hid (Go.Proofs.Ytmcmpmgjionfnaa.tm.TB.fr b4_6.out HF7.out (by omega) (by omega))
      clear b4_6
      have s3_7 := Lib.hid (s3_6.out.fr HF7.out (by omega) (by omega))
      clear s3_6
      have s3r_7 := Lib.hid ((s3r_6.out.below HS7.out).more HS7.out.size)
      clear s3r_6
      have s3w_7 := Lib.hid ((s3w_6.out.below HS7.out).more HS7.out.size)
      clear s3w_6
      have s4_7 := Lib.hid (s4_6.out.fr HF7.out (by omega) (by omega))
      clear s4_6
      have s4r_7 := Lib.hid ((s4r_6.out.below HS7.out).more HS7.out.size)
      clear s4r_6
      have s4w_7 := Lib.hid ((s4w_6.out.below HS7.out).more HS7.out.size)
      clear s4w_6
      have s6_7 := Lib.hid (s6_6.out.fr HF7.out (by omega) (by omega))
      clear s6_6
      have s6r_7 := Lib.hid ((s6r_6.out.below HS7.out).more HS7.out.size)
      clear s6r_6
      have s6w_7 := Lib.hid ((s6w_6.out.below HS7.out).more HS7.out.size)
      clear s6w_6
      clear b2c0 b2c1 b2c2 b2c3 b2c4 b2c5 b2c6 b2c7 b2c8 b2L
      clear b4c0 b4c1 b4c2 b4c3 b4c4 b4c5 b4c6 b4c7 b4c8 b4L
      go_wp2_with fail
      have hbk0 : Below W7.heap.size W7 W7.drew := (Below.refl _ _).drew
      have hbw0 := HB7.out.trans (hbk0.mono HB7.out.size)
      have b3l_7 : W4.heap.size < W7.heap.size := by omega
      have b0l_7 : w.heap.size < W7.heap.size := by omega
      obtain ⟨b3c0, b3c1, b3c2, b3c3, b3c4, b3c5, b3c6, b3c7, b3c8⟩ := b3_7.out
      obtain ⟨b0c0, b0c1, b0c2, b0c3, b0c4, b0c5, b0c6, b0c7, b0c8⟩ := b0_7.out
      go_region_held3 (fun w' => w'.cell? ⟨W4.heap.size, 0, none⟩ = some (.int .i64 x0.i) ∧ w'.cell? ⟨W4.heap.size, 1, none⟩ = some (.int .i64 x0.s) ∧ w'.cell? ⟨W4.heap.size, 2, none⟩ = some (.int .i64 x0.t) ∧ w'.cell? ⟨W4.heap.size, 3, none⟩ = some (.int .i64 x0.b) ∧ w'.cell? ⟨W4.heap.size, 4, none⟩ = some (.int .i64 x0.l) ∧ w'.cell? ⟨W4.heap.size, 5, none⟩ = some (.int .i64 x0.h) ∧ w'.cell? ⟨W4.heap.size, 6, none⟩ = some (.int .i64 x0.c) ∧ w'.cell? ⟨W4.heap.size, 7, none⟩ = some (.slice (some ⟨Ns4, 0, none⟩) n0 n0) ∧ w'.cell? ⟨W4.heap.size, 8, none⟩ = some (.slice (some ⟨Ms4, 0, none⟩) p0 p0) ∧ w'.cell? ⟨w.heap.size, 0, none⟩ = some (.int .i64 x0.i) ∧ w'.cell? ⟨w.heap.size, 1, none⟩ = some (.int .i64 x0.s) ∧ w'.cell? ⟨w.heap.size, 2, none⟩ = some (.int .i64 x0.t) ∧ w'.cell? ⟨w.heap.size, 3, none⟩ = some (.int .i64 x0.b) ∧ w'.cell? ⟨w.heap.size, 4, none⟩ = some (.int .i64 x0.l) ∧ w'.cell? ⟨w.heap.size, 5, none⟩ = some (.int .i64 x0.h) ∧ w'.cell? ⟨w.heap.size, 6, none⟩ = some (.int .i64 x0.c) ∧ w'.cell? ⟨w.heap.size, 7, none⟩ = some (.slice A0 n0 c0) ∧ w'.cell? ⟨w.heap.size, 8, none⟩ = some (.slice B0 p0 d0)) (go_keep) (first | (go_at_call 31; (with_reducible refine (same_tx x0 (by omega) (by omega) ((s4r_7.out.below hbk1).more hbk1.size) s7ra1 ((s4w_7.out.below hbk1).more hbk1.size) s7wa1 (Nat.le_refl _)).mono ?_); rintro e W8 ⟨rfl, hb⟩; have hbk2 := hbk1.trans (hb.mono hbk1.size); have hbw2 := HB7.out.trans (hbk2.mono HB7.out.size); have s7ra2 := (s7ra1.below hb).more hb.size; have s7wa2 := (s7wa1.below hb).more hb.size; clear hb ; obtain ⟨b3d20, b3d21, b3d22, b3d23, b3d24, b3d25, b3d26, b3d27, b3d28⟩ := ((b3_7.out).keep b3l_7 (hbk2)); obtain ⟨b0d20, b0d21, b0d22, b0d23, b0d24, b0d25, b0d26, b0d27, b0d28⟩ := ((b0_7.out).keep b0l_7 (hbk2))) | (go_at_call 29; (with_reducible refine (Go.Proofs.Ytmcmpmgjionfnaa.tx.copied_tx x0 (by omega) (by omega) (H0.out.below hbw0) (G0.out.below hbw0) (hbw0).size).mono ?_); rintro e Wa1 ⟨Ns7, Ms7, rfl, hv, hu, hb⟩; have hbk1 := hbk0.trans (hb.mono hbk0.size); have hbw1 := HB7.out.trans (hbk1.mono HB7.out.size); have s7ra1 := hv; have s7wa1 := hu; clear hb hv hu; obtain ⟨b3d10, b3d11, b3d12, b3d13, b3d14, b3d15, b3d16, b3d17, b3d18⟩ := ((b3_7.out).keep b3l_7 (hbk1)); obtain ⟨b0d10, b0d11, b0d12, b0d13, b0d14, b0d15, b0d16, b0d17, b0d18⟩ := ((b0_7.out).keep b0l_7 (hbk1))))
      have hb := hbk2
      clear hbk0 hbw0 s7ra1 s7wa1 b3d10 b3d11 b3d12 b3d13 b3d14 b3d15 b3d16 b3d17 b3d18 b0d10 b0d11 b0d12 b0d13 b0d14 b0d15 b0d16 b0d17 b0d18 hbk1 hbw1 s7ra2 s7wa2 b3d20 b3d21 b3d22 b3d23 b3d24 b3d25 b3d26 b3d27 b3d28 b0d20 b0d21 b0d22 b0d23 b0d24 b0d25 b0d26 b0d27 b0d28 hbk2 hbw2 b3c0 b3c1 b3c2 b3c3 b3c4 b3c5 b3c6 b3c7 b3c8 b0c0 b0c1 b0c2 b0c3 b0c4 b0c5 b0c6 b0c7 b0c8 b3l_7 b0l_7
      have HB8 : Hid (Below w.heap.size w W8) := Lib.hid (HB7.out.trans (hb.mono HB7.out.size))
      have HS8 : Hid (Below W7.heap.size W7 W8) := Lib.hid hb
      have HF8 : Hid (FR 0 0 W7 W8) := Lib.hid (FR.of_below hb)
      have hs8 : W7.heap.size ≤ W8.heap.size := hb.size
      clear hb
      have b0_8 := Lib.hid (Go.Proofs.Ytmcmpmgjionfnaa.tm.TB.fr b0_7.out HF8.out (by omega) (by omega))
      clear b0_7
      have b1_8 := Lib.hid (Go.Proofs.Ytmcmpmgjionfnaa.tk.ver_off b1_7.out (HF8.out.block (w.heap.size + 1) (by omega) (by omega)))
      clear b1_7
      have b2_8 := Lib.hid (Go.Proofs.Ytmcmpmgjionfnaa.tm.TB.fr b2_7.out HF8.out (by omega) (by omega))
      clear b2_7
      have b3_8 := Lib.hid (Go.Proofs.Ytmcmpmgjionfnaa.tm.TB.fr b3_7.out HF8.out (by omega) (by omega))
      clear b3_7
      have b4_8 := Lib.hid (Go.Proofs.Ytmcmpmgjionfnaa.tm.TB.fr b4_7.out HF8.out (by omega) (by omega))
      clear b4_7
      have s3_8 := Lib.hid (s3_7.out.fr HF8.out (by omega) (by omega))
      clear s3_7
      have s3r_8 := Lib.hid ((s3r_7.out.below HS8.out).more HS8.out.size)
      clear s3r_7
      have s3w_8 := Lib.hid ((s3w_7.out.below HS8.out).more HS8.out.size)
      clear s3w_7
      have s4_8 := Lib.hid (s4_7.out.fr HF8.out (by omega) (by omega))
      clear s4_7
      have s4r_8 := Lib.hid ((s4r_7.out.below HS8.out).more HS8.out.size)
      clear s4r_7
      have s4w_8 := Lib.hid ((s4w_7.out.below HS8.out).more HS8.out.size)
      clear s4w_7
      have s6_8 := Lib.hid (s6_7.out.fr HF8.out (by omega) (by omega))
      clear s6_7
      have s6r_8 := Lib.hid ((s6r_7.out.below HS8.out).more HS8.out.size)
      clear s6r_7
      have s6w_8 := Lib.hid ((s6w_7.out.below HS8.out).more HS8.out.size)
      clear s6w_7
      obtain ⟨b3c0, b3c1, b3c2, b3c3, b3c4, b3c5, b3c6, b3c7, b3c8⟩ := b3_8.out
      have b3L : W4.heap.size < W8.heap.size := by omega
      go_wp2_with fail
      refine (Go.Proofs.Ytmcmpmgjionfnaa.lw.mark_txk (k0 := 1) x0 (by omega) (by omega) (by omega) (by omega) s4_8.out (by omega)).mono ?_
      rintro e W9 ⟨rfl, hf⟩
      have HF9 : Hid (FR W3.heap.size W4.heap.size W8 W9) := Lib.hid hf
      have HB9 : Hid (Below w.heap.size w W9) := Lib.hid (FR.chain HB8.out hf (by omega))
      have hs9 : W8.heap.size ≤ W9.heap.size := hf.size
      clear hf
      have b0_9 := Lib.hid (Go.Proofs.Ytmcmpmgjionfnaa.tm.TB.fr b0_8.out HF9.out (by omega) (by omega))
      clear b0_8
      have b1_9 := Lib.hid (Go.Proofs.Ytmcmpmgjionfnaa.tk.ver_off b1_8.out (HF9.out.block (w.heap.size + 1) (by omega) (by omega)))
      clear b1_8
      have b2_9 := Lib.hid (Go.Proofs.Ytmcmpmgjionfnaa.tm.TB.fr b2_8.out HF9.out (by omega) (by omega))
      clear b2_8
      have b3_9 := Lib.hid (Go.Proofs.Ytmcmpmgjionfnaa.tm.TB.fr b3_8.out HF9.out (by omega) (by omega))
      clear b3_8
      have b4_9 := Lib.hid (Go.Proofs.Ytmcmpmgjionfnaa.tm.TB.fr b4_8.out HF9.out (by omega) (by omega))
      clear b4_8
      have s3_9 := Lib.hid (s3_8.out.fr HF9.out (by omega) (by omega))
      clear s3_8
      clear s3r_8
      clear s3w_8
      have s6_9 := Lib.hid (s6_8.out.fr HF9.out (by omega) (by omega))
      clear s6_8
      clear s6r_8
      clear s6w_8
      clear s4_8 s4r_8 s4w_8
      obtain ⟨s4c, hs4c⟩ : ∃ z : Int, z = 1 + ((n0 * 2 : Nat) : Int) + ((p0 * 2 : Nat) : Int) := ⟨_, rfl⟩
      rw [← hs4c]
      have s4t : decide (s4c < 0) = false := decide_eq_false (by omega)
      have s4b0 : 0 ≤ s4c := by omega
      have s4b1 : s4c ≤ 1099511627776 := by omega
      have Hs4C := Lib.hid hs4c
      clear hs4c
      clear b3c0 b3c1 b3c2 b3c3 b3c4 b3c5 b3c6 b3c7 b3c8 b3L
      obtain ⟨b2c0, b2c1, b2c2, b2c3, b2c4, b2c5, b2c6, b2c7, b2c8⟩ := b2_9.out
      have b2L : bbs3 < W9.heap.size := by omega
      obtain ⟨b4c0, b4c1, b4c2, b4c3, b4c4, b4c5, b4c6, b4c7, b4c8⟩ := b4_9.out
      have b4L : bbs6 < W9.heap.size := by omega
      go_wp2_with fail
      refine (same_tx q1 (by omega) (by omega) (s6_9.out.1.vs (by omega)) (s3_9.out.1.vs (by omega)) (s6_9.out.2.vs (by omega)) (s3_9.out.2.vs (by omega)) (Nat.le_refl _)).mono ?_
      rintro e W10 ⟨rfl, hb⟩
      have HB10 : Hid (Below w.heap.size w W10) := Lib.hid (HB9.out.trans (hb.mono HB9.out.size))
      have HS10 : Hid (Below W9.heap.size W9 W10) := Lib.hid hb
      have HF10 : Hid (FR 0 0 W9 W10) := Lib.hid (FR.of_below hb)
      have hs10 : W9.heap.size ≤ W10.heap.size := hb.size
      clear hb
      have b0_10 := Lib.hid (Go.Proofs.Ytmcmpmgjionfnaa.tm.TB.fr b0_9.out HF10.out (by omega) (by omega))
      clear b0_9
      have b1_10 := Lib.hid (Go.Proofs.Ytmcmpmgjionfnaa.tk.ver_off b1_9.out (HF10.out.block (w.heap.size + 1) (by omega) (by omega)))
      clear b1_9
      have b2_10 := Lib.hid (Go.Proofs.Ytmcmpmgjionfnaa.tm.TB.fr b2_9.out HF10.out (by omega) (by omega))
      clear b2_9
      have b3_10 := Lib.hid (Go.Proofs.Ytmcmpmgjionfnaa.tm.TB.fr b3_9.out HF10.out (by omega) (by omega))
      clear b3_9
      have b4_10 := Lib.hid (Go.Proofs.Ytmcmpmgjionfnaa.tm.TB.fr b4_9.out HF10.out (by omega) (by omega))
      clear b4_9
      have s3_10 := Lib.hid (s3_9.out.fr HF10.out (by omega) (by omega))
      clear s3_9
      have s6_10 := Lib.hid (s6_9.out.fr HF10.out (by omega) (by omega))
      clear s6_9
      clear b2c0 b2c1 b2c2 b2c3 b2c4 b2c5 b2c6 b2c7 b2c8 b2L
      clear b4c0 b4c1 b4c2 b4c3 b4c4 b4c5 b4c6 b4c7 b4c8 b4L
      obtain ⟨b4c0, b4c1, b4c2, b4c3, b4c4, b4c5, b4c6, b4c7, b4c8⟩ := b4_10.out
      have b4L : bbs6 < W10.heap.size := by omega
      go_wp2_with fail
      refine (Go.Proofs.Ytmcmpmgjionfnaa.tm.mark_tx q1 (by omega) (by omega) s6_10.out (by omega)).mono ?_
      rintro e W11 ⟨rfl, hm, hf⟩
      have HF11 : Hid (FR los6 his6 W10 W11) := Lib.hid hf
      have HB11 : Hid (Below w.heap.size w W11) := Lib.hid (FR.chain HB10.out hf (by omega))
      have hs11 : W10.heap.size ≤ W11.heap.size := hf.size
      clear hf
      have b0_11 := Lib.hid (Go.Proofs.Ytmcmpmgjionfnaa.tm.TB.fr b0_10.out HF11.out (by omega) (by omega))
      clear b0_10
      have b1_11 := Lib.hid (Go.Proofs.Ytmcmpmgjionfnaa.tk.ver_off b1_10.out (HF11.out.block (w.heap.size + 1) (by omega) (by omega)))
      clear b1_10
      have b2_11 := Lib.hid (Go.Proofs.Ytmcmpmgjionfnaa.tm.TB.fr b2_10.out HF11.out (by omega) (by omega))
      clear b2_10
      have b3_11 := Lib.hid (Go.Proofs.Ytmcmpmgjionfnaa.tm.TB.fr b3_10.out HF11.out (by omega) (by omega))
      clear b3_10
      have b4_11 := Lib.hid (Go.Proofs.Ytmcmpmgjionfnaa.tm.TB.fr b4_10.out HF11.out (by omega) (by omega))
      clear b4_10
      have s3_11 := Lib.hid (s3_10.out.fr HF11.out (by omega) (by omega))
      clear s3_10
      clear s6_10 
      obtain ⟨s6c, hs6c⟩ : ∃ z : Int, z = 1 + ((nq * 2 : Nat) : Int) + ((p0 * 2 : Nat) : Int) := ⟨_, rfl⟩
      rw [← hs6c]
      have s6t : decide (s6c < 0) = false := decide_eq_false (by omega)
      have s6b0 : 0 ≤ s6c := by omega
      have s6b1 : s6c ≤ 1099511627776 := by omega
      have Hs6C := Lib.hid hs6c
      clear hs6c
      have s6m_11 := Lib.hid hm
      clear hm
      clear b4c0 b4c1 b4c2 b4c3 b4c4 b4c5 b4c6 b4c7 b4c8 b4L
      obtain ⟨b4c0, b4c1, b4c2, b4c3, b4c4, b4c5, b4c6, b4c7, b4c8⟩ := b4_11.out
      have b4L : bbs6 < W11.heap.size := by omega
      go_wp2_with fail
      refine (Go.Proofs.Ytmcmpmgjionfnaa.tm.held_tx q1 (by omega) (by omega) s6m_11.out (by omega)).mono ?_
      rintro e W12 ⟨rfl, hb⟩
      rw [← Hs6C.out]
      have HB12 : Hid (Below w.heap.size w W12) := Lib.hid (HB11.out.trans (hb.mono HB11.out.size))
      have HS12 : Hid (Below W11.heap.size W11 W12) := Lib.hid hb
      have HF12 : Hid (FR 0 0 W11 W12) := Lib.hid (FR.of_below hb)
      have hs12 : W11.heap.size ≤ W12.heap.size := hb.size
      clear hb
      have b0_12 := Lib.hid (Go.Proofs.Ytmcmpmgjionfnaa.tm.TB.fr b0_11.out HF12.out (by omega) (by omega))
      clear b0_11
      have b1_12 := Lib.hid (Go.Proofs.Ytmcmpmgjionfnaa.tk.ver_off b1_11.out (HF12.out.block (w.heap.size + 1) (by omega) (by omega)))
      clear b1_11
      have b2_12 := Lib.hid (Go.Proofs.Ytmcmpmgjionfnaa.tm.TB.fr b2_11.out HF12.out (by omega) (by omega))
      clear b2_11
      have b3_12 := Lib.hid (Go.Proofs.Ytmcmpmgjionfnaa.tm.TB.fr b3_11.out HF12.out (by omega) (by omega))
      clear b3_11
      have b4_12 := Lib.hid (Go.Proofs.Ytmcmpmgjionfnaa.tm.TB.fr b4_11.out HF12.out (by omega) (by omega))
      clear b4_11
      have s3_12 := Lib.hid (s3_11.out.fr HF12.out (by omega) (by omega))
      clear s3_11
      have s6m_12 := Lib.hid (s6m_11.out.fr HF12.out (by omega) (by omega))
      clear s6m_11
      clear b4c0 b4c1 b4c2 b4c3 b4c4 b4c5 b4c6 b4c7 b4c8 b4L
      go_wp2_with fail
      go_cut [16, 17] from 83 to 91 (fun p b wx => ∃ (bb lo hi : Nat) (A : Option Addr) (c : Nat) (A2 : Option Addr) (c2 : Nat), p = .pointer (some ⟨bb, 0, none⟩) ∧ b = .bool q2 ∧ Go.Proofs.Ytmcmpmgjionfnaa.lt.Reg W12 wx bb lo hi q1 A nq c qR A2 p0 c2 Q0)
      case first =>
        have hbk0 : Below W12.heap.size W12 W12.drew := (Below.refl _ _).drew
        have hbw0 := HB12.out.trans (hbk0.mono HB12.out.size)
        have b0l_12 : w.heap.size < W12.heap.size := by omega
        have b1l_12 : w.heap.size + 1 < W12.heap.size := by omega
        obtain ⟨b0c0, b0c1, b0c2, b0c3, b0c4, b0c5, b0c6, b0c7, b0c8⟩ := b0_12.out
        obtain ⟨b1c0, b1c1, b1c2, b1c3, b1c4⟩ := Go.Proofs.Ytmcmpmgjionfnaa.ch.atFlat (b1_12.out)
        go_region_held3 (fun w' => w'.cell? ⟨w.heap.size, 0, none⟩ = some (.int .i64 x0.i) ∧ w'.cell? ⟨w.heap.size, 1, none⟩ = some (.int .i64 x0.s) ∧ w'.cell? ⟨w.heap.size, 2, none⟩ = some (.int .i64 x0.t) ∧ w'.cell? ⟨w.heap.size, 3, none⟩ = some (.int .i64 x0.b) ∧ w'.cell? ⟨w.heap.size, 4, none⟩ = some (.int .i64 x0.l) ∧ w'.cell? ⟨w.heap.size, 5, none⟩ = some (.int .i64 x0.h) ∧ w'.cell? ⟨w.heap.size, 6, none⟩ = some (.int .i64 x0.c) ∧ w'.cell? ⟨w.heap.size, 7, none⟩ = some (.slice A0 n0 c0) ∧ w'.cell? ⟨w.heap.size, 8, none⟩ = some (.slice B0 p0 d0) ∧ w'.cell? ⟨w.heap.size + 1, 0, none⟩ = some (.int .i64 x2.a) ∧ w'.cell? ⟨w.heap.size + 1, 1, none⟩ = some (.int .i64 x2.b) ∧ w'.cell? ⟨w.heap.size + 1, 2, none⟩ = some (.int .i64 x2.c) ∧ w'.cell? ⟨w.heap.size + 1, 3, none⟩ = some (.int .i64 x2.d) ∧ w'.cell? ⟨w.heap.size + 1, 4, none⟩ = some (.int .i64 x2.e)) (first | go_keep | (repeat' apply And.intro) <;> exact (Go.Proofs.Ytmcmpmgjionfnaa.lt.put_cell (by simp only; omega)).trans (by assumption)) (first | (go_at_call 29; (with_reducible refine (Go.Proofs.Ytmcmpmgjionfnaa.tx.copied_tx x0 (by omega) (by omega) (H0.out.below hbw0) (G0.out.below hbw0) (hbw0).size).mono ?_); rintro e Wa1 ⟨Ns8, Ms8, rfl, hv, hu, hb⟩; have hbk1 := hbk0.trans (hb.mono hbk0.size); have hbw1 := HB12.out.trans (hbk1.mono HB12.out.size); have hzs1 := hbk1.size; have s8ra1 := hv; have s8wa1 := hu; clear hb hv hu; obtain ⟨b0d10, b0d11, b0d12, b0d13, b0d14, b0d15, b0d16, b0d17, b0d18⟩ := ((b0_12.out).keep b0l_12 (hbk1)); obtain ⟨b1d10, b1d11, b1d12, b1d13, b1d14⟩ := Go.Proofs.Ytmcmpmgjionfnaa.ch.atFlat (((Go.Proofs.Ytmcmpmgjionfnaa.sl.At.keep b1_12.out b1l_12 (hbk1))))) | (go_at_call 29; have hbk0Z := (Go.Proofs.Ytmcmpmgjionfnaa.el2.new1 W12 (.cells #[.int .i64 0, .int .i64 0, .int .i64 0, .int .i64 0, .int .i64 0, .int .i64 0, .int .i64 0, .slice none 0 0, .slice none 0 0] 27)).drew; have hbw0Z := HB12.out.trans (hbk0Z.mono HB12.out.size); have zbZ : Bx ((W12.alloc (.cells #[.int .i64 0, .int .i64 0, .int .i64 0, .int .i64 0, .int .i64 0, .int .i64 0, .int .i64 0, .slice none 0 0, .slice none 0 0] 27)).drew) W12.heap.size ⟨0, 0, 0, 0, 0, 0, 0⟩ (.slice none 0 0) (.slice none 0 0) := Bx.zero W12; have zpF := Nat.le_refl W12.heap.size; (with_reducible refine (Go.Proofs.Ytmcmpmgjionfnaa.tx.copied_tx x0 (by omega) (by omega) (H0.out.below hbw0Z) (G0.out.below hbw0Z) (hbw0Z).size).mono ?_); rintro e Wa1 ⟨Ns8, Ms8, rfl, hv, hu, hb⟩; have hbk1 := hbk0Z.trans (hb.mono hbk0Z.size); have hbw1 := HB12.out.trans (hbk1.mono HB12.out.size); have hzs1 := hbk1.size; have zltF := zbZ.lt; have zb1 := zbZ.keep hb zltF; have s8ra1 := hv; have s8wa1 := hu; clear hb hv hu; obtain ⟨b0d10, b0d11, b0d12, b0d13, b0d14, b0d15, b0d16, b0d17, b0d18⟩ := ((b0_12.out).keep b0l_12 (hbk1)); obtain ⟨b1d10, b1d11, b1d12, b1d13, b1d14⟩ := Go.Proofs.Ytmcmpmgjionfnaa.ch.atFlat (((Go.Proofs.Ytmcmpmgjionfnaa.sl.At.keep b1_12.out b1l_12 (hbk1))))) | (go_at_call 30; (with_reducible refine (Go.Proofs.Ytmcmpmgjionfnaa.vers.to_version x2.a x2.b x2.c x2.d x2.e _).mono ?_); rintro e Wa2 ⟨rfl, hb⟩; have hbk2 := hbk1.trans (hb.mono hbk1.size); have hbw2 := HB12.out.trans (hbk2.mono HB12.out.size); have hzs2 := hbk2.size; (try (have zltF := zb1.lt; have zb2 := zb1.keep hb zltF)); have s8ra2 := (s8ra1.below hb).more hb.size; have s8wa2 := (s8wa1.below hb).more hb.size; clear hb; obtain ⟨b0d20, b0d21, b0d22, b0d23, b0d24, b0d25, b0d26, b0d27, b0d28⟩ := ((b0_12.out).keep b0l_12 (hbk2)); obtain ⟨b1d20, b1d21, b1d22, b1d23, b1d24⟩ := Go.Proofs.Ytmcmpmgjionfnaa.ch.atFlat (((Go.Proofs.Ytmcmpmgjionfnaa.sl.At.keep b1_12.out b1l_12 (hbk2))))) | (go_at_call 30; have hn := Go.Proofs.Ytmcmpmgjionfnaa.el2.new1 (Wa1) (.cells #[.int .i64 0, .int .i64 0, .int .i64 0, .int .i64 0, .int .i64 0, .int .i64 0, .int .i64 0, .slice none 0 0, .slice none 0 0] 27); have hbk1Z := hbk1.trans (hn.mono hbk1.size); have hbw1Z := HB12.out.trans (hbk1Z.mono HB12.out.size); have zbZ := Bx.zero (Wa1); have zpF := hbk1.size; have s8ra1Z := (s8ra1.below hn).more hn.size; have s8wa1Z := (s8wa1.below hn).more hn.size; (with_reducible refine (Go.Proofs.Ytmcmpmgjionfnaa.vers.to_version x2.a x2.b x2.c x2.d x2.e _).mono ?_); rintro e Wa2 ⟨rfl, hb⟩; have hbk2 := hbk1Z.trans (hb.mono hbk1Z.size); have hbw2 := HB12.out.trans (hbk2.mono HB12.out.size); have hzs2 := hbk2.size; have zltF := zbZ.lt; have zb2 := zbZ.keep hb zltF; have s8ra2 := (s8ra1Z.below hb).more hb.size; have s8wa2 := (s8wa1Z.below hb).more hb.size; clear hb; obtain ⟨b0d20, b0d21, b0d22, b0d23, b0d24, b0d25, b0d26, b0d27, b0d28⟩ := ((b0_12.out).keep b0l_12 (hbk2)); obtain ⟨b1d20, b1d21, b1d22, b1d23, b1d24⟩ := Go.Proofs.Ytmcmpmgjionfnaa.ch.atFlat (((Go.Proofs.Ytmcmpmgjionfnaa.sl.At.keep b1_12.out b1l_12 (hbk2))))) | (go_at_call 16; (with_reducible refine (Go.Proofs.Ytmcmpmgjionfnaa.tk.impl_track x0 a1 x2 (by omega) (by omega) s8ra2 s8wa2 (Nat.le_refl _)).mono ?_); rintro e Wa3 ⟨As10, cs10, Bs10, ds10, he, ho, hb⟩; rw [HQ1.out, HQR.out, HNQ.out, HQ2.out] at he; rw [HQR.out, HNQ.out] at ho; subst he; have hvF := Go.Proofs.Ytmcmpmgjionfnaa.lt.own_of ho (Nat.le_refl _) HNQ.out hlem0; clear ho; have hbk3 := hbk2.trans (hb.mono hbk2.size); have hbw3 := HB12.out.trans (hbk3.mono HB12.out.size); have hzs3 := hbk3.size; (try (have zltF := zb2.lt; have zb3 := zb2.keep hb zltF)); have hloF := hbk2.size; have hl2F := hb.size; (try (obtain ⟨y0, y1, y2, y3, y4, y5, y6, y7, y8⟩ := zb3.tb; have f0 := zb3.fz 0; have f1 := zb3.fz 1; have f2 := zb3.fz 2; have f3 := zb3.fz 3; have f4 := zb3.fz 4; have f5 := zb3.fz 5; have f6 := zb3.fz 6; have f7 := zb3.fz 7; have f8 := zb3.fz 8)); have s8ra3 := (s8ra2.below hb).more hb.size; have s8wa3 := (s8wa2.below hb).more hb.size; clear hb; obtain ⟨b0d30, b0d31, b0d32, b0d33, b0d34, b0d35, b0d36, b0d37, b0d38⟩ := ((b0_12.out).keep b0l_12 (hbk3)); obtain ⟨b1d30, b1d31, b1d32, b1d33, b1d34⟩ := Go.Proofs.Ytmcmpmgjionfnaa.ch.atFlat (((Go.Proofs.Ytmcmpmgjionfnaa.sl.At.keep b1_12.out b1l_12 (hbk3))))) | (go_at_call 16; have hn := Go.Proofs.Ytmcmpmgjionfnaa.el2.new1 (Wa2) (.cells #[.int .i64 0, .int .i64 0, .int .i64 0, .int .i64 0, .int .i64 0, .int .i64 0, .int .i64 0, .slice none 0 0, .slice none 0 0] 27); have hbk2Z := hbk2.trans (hn.mono hbk2.size); have hbw2Z := HB12.out.trans (hbk2Z.mono HB12.out.size); have zbZ := Bx.zero (Wa2); have zpF := hbk2.size; have s8ra2Z := (s8ra2.below hn).more hn.size; have s8wa2Z := (s8wa2.below hn).more hn.size; (with_reducible refine (Go.Proofs.Ytmcmpmgjionfnaa.tk.impl_track x0 a1 x2 (by omega) (by omega) s8ra2Z s8wa2Z (Nat.le_refl _)).mono ?_); rintro e Wa3 ⟨As10, cs10, Bs10, ds10, he, ho, hb⟩; rw [HQ1.out, HQR.out, HNQ.out, HQ2.out] at he; rw [HQR.out, HNQ.out] at ho; subst he; have hvF := Go.Proofs.Ytmcmpmgjionfnaa.lt.own_of ho (Nat.le_refl _) HNQ.out hlem0; clear ho; have hbk3 := hbk2Z.trans (hb.mono hbk2Z.size); have hbw3 := HB12.out.trans (hbk3.mono HB12.out.size); have hzs3 := hbk3.size; have zltF := zbZ.lt; have zb3 := zbZ.keep hb zltF; have hloF := hbk2Z.size; have hl2F := hb.size; (try (obtain ⟨y0, y1, y2, y3, y4, y5, y6, y7, y8⟩ := zb3.tb; have f0 := zb3.fz 0; have f1 := zb3.fz 1; have f2 := zb3.fz 2; have f3 := zb3.fz 3; have f4 := zb3.fz 4; have f5 := zb3.fz 5; have f6 := zb3.fz 6; have f7 := zb3.fz 7; have f8 := zb3.fz 8)); have s8ra3 := (s8ra2Z.below hb).more hb.size; have s8wa3 := (s8wa2Z.below hb).more hb.size; clear hb; obtain ⟨b0d30, b0d31, b0d32, b0d33, b0d34, b0d35, b0d36, b0d37, b0d38⟩ := ((b0_12.out).keep b0l_12 (hbk3)); obtain ⟨b1d30, b1d31, b1d32, b1d33, b1d34⟩ := Go.Proofs.Ytmcmpmgjionfnaa.ch.atFlat (((Go.Proofs.Ytmcmpmgjionfnaa.sl.At.keep b1_12.out b1l_12 (hbk3))))))
        all_goals go_wp2_with fail
        all_goals go_meet
        all_goals (first | (have zz := zb3; exact ⟨_, _, _, _, _, _, _, rfl, rfl, Go.Proofs.Ytmcmpmgjionfnaa.lt.Reg.early hbk3 zb3 zpF zltF hl2F hvF⟩) | exact ⟨_, _, _, _, _, _, _, rfl, rfl, Go.Proofs.Ytmcmpmgjionfnaa.lt.Reg.late hbk3 hloF hl2F hvF⟩)
      case rest =>
        obtain ⟨bbs10, los10, his10, As10, cs10, Bs10, ds10, rfl, rfl, hreg⟩ := hcut
        obtain ⟨W13, hW⟩ : ∃ W, W = wc := ⟨_, rfl⟩
        subst hW
        have hb1s10 := hreg.b1
        have hb2s10 := hreg.b2
        have hl1s10 := hreg.l1
        have hl2s10 := hreg.l2
        have hl3s10 := hreg.l3
        have hnes10 := hreg.ne
        have hT := hreg.tb
        have hv := hreg.own
        have hb := hreg.bel
        clear hreg
        have HB13 : Hid (Below w.heap.size w W13) := Lib.hid (HB12.out.trans (hb.mono HB12.out.size))
        have HS13 : Hid (Below W12.heap.size W12 W13) := Lib.hid hb
        have HF13 : Hid (FR 0 0 W12 W13) := Lib.hid (FR.of_below hb)
        have hs13 : W12.heap.size ≤ W13.heap.size := hb.size
        clear hb
        have b0_13 := Lib.hid (Go.Proofs.Ytmcmpmgjionfnaa.tm.TB.fr b0_12.out HF13.out (by omega) (by omega))
        clear b0_12
        have b1_13 := Lib.hid (Go.Proofs.Ytmcmpmgjionfnaa.tk.ver_off b1_12.out (HF13.out.block (w.heap.size + 1) (by omega) (by omega)))
        clear b1_12
        have b2_13 := Lib.hid (Go.Proofs.Ytmcmpmgjionfnaa.tm.TB.fr b2_12.out HF13.out (by omega) (by omega))
        clear b2_12
        have b3_13 := Lib.hid (Go.Proofs.Ytmcmpmgjionfnaa.tm.TB.fr b3_12.out HF13.out (by omega) (by omega))
        clear b3_12
        have b4_13 := Lib.hid (Go.Proofs.Ytmcmpmgjionfnaa.tm.TB.fr b4_12.out HF13.out (by omega) (by omega))
        clear b4_12
        have s3_13 := Lib.hid (s3_12.out.fr HF13.out (by omega) (by omega))
        clear s3_12
        have s6m_13 := Lib.hid (s6m_12.out.fr HF13.out (by omega) (by omega))
        clear s6m_12
        have s10_13 := Lib.hid hv
        have s10r_13 := Lib.hid (hv.1.vs hl3s10)
        have s10w_13 := Lib.hid (hv.2.vs hl3s10)
        clear hv
        have b5_13 := Lib.hid hT
        clear hT
        obtain ⟨b2c0, b2c1, b2c2, b2c3, b2c4, b2c5, b2c6, b2c7, b2c8⟩ := b2_13.out
        have b2L : bbs3 < W13.heap.size := by omega
        obtain ⟨b5c0, b5c1, b5c2, b5c3, b5c4, b5c5, b5c6, b5c7, b5c8⟩ := b5_13.out
        have b5L : bbs10 < W13.heap.size := by omega
        go_wp2_with fail
        refine (same_tx q1 (by omega) (by omega) s10r_13.out (s3_13.out.1.vs (by omega)) s10w_13.out (s3_13.out.2.vs (by omega)) (Nat.le_refl _)).mono ?_
        rintro e W14 ⟨rfl, hb⟩
        have HB14 : Hid (Below w.heap.size w W14) := Lib.hid (HB13.out.trans (hb.mono HB13.out.size))
        have HS14 : Hid (Below W13.heap.size W13 W14) := Lib.hid hb
        have HF14 : Hid (FR 0 0 W13 W14) := Lib.hid (FR.of_below hb)
        have hs14 : W13.heap.size ≤ W14.heap.size := hb.size
        clear hb
        have b0_14 := Lib.hid (Go.Proofs.Ytmcmpmgjionfnaa.tm.TB.fr b0_13.out HF14.out (by omega) (by omega))
        clear b0_13
        have b1_14 := Lib.hid (Go.Proofs.Ytmcmpmgjionfnaa.tk.ver_off b1_13.out (HF14.out.block (w.heap.size + 1) (by omega) (by omega)))
        clear b1_13
        have b2_14 := Lib.hid (Go.Proofs.Ytmcmpmgjionfnaa.tm.TB.fr b2_13.out HF14.out (by omega) (by omega))
        clear b2_13
        have b3_14 := Lib.hid (Go.Proofs.Ytmcmpmgjionfnaa.tm.TB.fr b3_13.out HF14.out (by omega) (by omega))
        clear b3_13
        have b4_14 := Lib.hid (Go.Proofs.Ytmcmpmgjionfnaa.tm.TB.fr b4_13.out HF14.out (by omega) (by omega))
        clear b4_13
        have b5_14 := Lib.hid (Go.Proofs.Ytmcmpmgjionfnaa.tm.TB.fr b5_13.out HF14.out (by omega) (by omega))
        clear b5_13
        have s3_14 := Lib.hid (s3_13.out.fr HF14.out (by omega) (by omega))
        clear s3_13
        have s6m_14 := Lib.hid (s6m_13.out.fr HF14.out (by omega) (by omega))
        clear s6m_13
        have s10_14 := Lib.hid (s10_13.out.fr HF14.out (by omega) (by omega))
        clear s10_13
        have s10r_14 := Lib.hid ((s10r_13.out.below HS14.out).more HS14.out.size)
        clear s10r_13
        have s10w_14 := Lib.hid ((s10w_13.out.below HS14.out).more HS14.out.size)
        clear s10w_13
        clear b2c0 b2c1 b2c2 b2c3 b2c4 b2c5 b2c6 b2c7 b2c8 b2L
        clear b5c0 b5c1 b5c2 b5c3 b5c4 b5c5 b5c6 b5c7 b5c8 b5L
        obtain ⟨b4c0, b4c1, b4c2, b4c3, b4c4, b4c5, b4c6, b4c7, b4c8⟩ := b4_14.out
        have b4L : bbs6 < W14.heap.size := by omega
        go_wp2_with fail
        refine (Go.Proofs.Ytmcmpmgjionfnaa.tm.held_tx q1 (by omega) (by omega) s6m_14.out (by omega)).mono ?_
        rintro e W15 ⟨rfl, hb⟩
        rw [← Hs6C.out]
        have HB15 : Hid (Below w.heap.size w W15) := Lib.hid (HB14.out.trans (hb.mono HB14.out.size))
        have HS15 : Hid (Below W14.heap.size W14 W15) := Lib.hid hb
        have HF15 : Hid (FR 0 0 W14 W15) := Lib.hid (FR.of_below hb)
        have hs15 : W14.heap.size ≤ W15.heap.size := hb.size
        clear hb
        have b0_15 := Lib.hid (Go.Proofs.Ytmcmpmgjionfnaa.tm.TB.fr b0_14.out HF15.out (by omega) (by omega))
        clear b0_14
        have b1_15 := Lib.hid (Go.Proofs.Ytmcmpmgjionfnaa.tk.ver_off b1_14.out (HF15.out.block (w.heap.size + 1) (by omega) (by omega)))
        clear b1_14
        have b2_15 := Lib.hid (Go.Proofs.Ytmcmpmgjionfnaa.tm.TB.fr b2_14.out HF15.out (by omega) (by omega))
        clear b2_14
        have b3_15 := Lib.hid (Go.Proofs.Ytmcmpmgjionfnaa.tm.TB.fr b3_14.out HF15.out (by omega) (by omega))
        clear b3_14
        have b4_15 := Lib.hid (Go.Proofs.Ytmcmpmgjionfnaa.tm.TB.fr b4_14.out HF15.out (by omega) (by omega))
        clear b4_14
        have b5_15 := Lib.hid (Go.Proofs.Ytmcmpmgjionfnaa.tm.TB.fr b5_14.out HF15.out (by omega) (by omega))
        clear b5_14
        have s3_15 := Lib.hid (s3_14.out.fr HF15.out (by omega) (by omega))
        clear s3_14
        have s6m_15 := Lib.hid (s6m_14.out.fr HF15.out (by omega) (by omega))
        clear s6m_14
        have s10_15 := Lib.hid (s10_14.out.fr HF15.out (by omega) (by omega))
        clear s10_14
        have s10r_15 := Lib.hid ((s10r_14.out.below HS15.out).more HS15.out.size)
        clear s10r_14
        have s10w_15 := Lib.hid ((s10w_14.out.below HS15.out).more HS15.out.size)
        clear s10w_14
        clear b4c0 b4c1 b4c2 b4c3 b4c4 b4c5 b4c6 b4c7 b4c8 b4L
        go_wp2_with fail
        go_ret
        exact ⟨rfl, HB15.out⟩
/-! ### THE ROW's STEP -/
set_option maxRecDepth 100000 in
theorem lifted (os : Os) (started : os.Started) (H : Type) (enc : TypeId × Value → H) :
    ReturnsInHanded {} Try.checked os 4 .any (Rows.fnExactTrackReadSpec.pre6 enc Try.prog Try.f4 Rows.fnExactTrackReadRow.domain false) (Rows.fnExactTrackReadSpec.post enc Try.prog Try.f4 false true false false) := by
  refine returnsInHanded_of_change (C := Try.checked) own started (by kernel_rfl) Try.func4
    (ChangeSpec.witness6 (enc := enc) (C := Try.checked) false ⟨#[], #[.agg #[.int .i64 0, .int .i64 0, .int .i64 0, .int .i64 0, .int .i64 0, .int .i64 0, .int .i64 0, .slice none 0 0, .slice none 0 0], .int .i64 0, .agg #[.int .i64 0, .int .i64 0, .int .i64 0, .int .i64 0, .int .i64 0]], []⟩ 8 (by kernel_rfl) (by kernel_rfl) (by kernel_rfl) (by kernel_rfl)) ?_
  intro W base args ds gs before hval0 hW hcnd _
  have hval : ∀ (j : Nat) t v, Try.f4.params[j]? = some t → args[j]? = some v → Value.okWide Try.prog W .any base t v := hval0
  have hW' := hW
  obtain ⟨pp, qq, hA0, hV, rfl, hfz, hnd⟩ := hW
  have hA : DataW.TrodAll enc Try.prog W 0 (fun _ => true) true Try.f4.params.toList args.toList ds pp := hA0
  rw [Try.params4] at hA hval
  obtain ⟨v0, vs0, dd0, ds0, pp0, qq0, hargs, rfl, rfl, h0, r0⟩ := trodAll_cons hA
  obtain ⟨v1, vs1, dd1, ds1, pp1, qq1, rfl, rfl, rfl, h1, r1⟩ := trodAll_cons r0
  obtain ⟨v2, vs2, dd2, ds2, pp2, qq2, rfl, rfl, rfl, h2, r2⟩ := trodAll_cons r1
  obtain ⟨rfl, rfl, rfl⟩ := trodAll_nil r2
  obtain rfl : args = #[v0, v1, v2] := by cases args; simp_all
  obtain ⟨rfl, rfl⟩ := trodVars_none hV
  have k0 := h0
  have lt0 : ∀ x ∈ pp0, x.block < W.heap.size := by obtain ⟨m, hm⟩ := k0; exact DataW.trod_lt m _ _ _ hm
  obtain ⟨x0, A0, n0, c0, R0, B0, p0, d0, Q0, rfl, w0, m0, u0, o0⟩ := open_tx (hval 0 49 v0 rfl rfl) h0
  obtain ⟨a1, rfl, rfl, rfl, w1⟩ := open_int Try.underlying3 (hval 1 3 v1 rfl rfl) h1
  have k2 := h2
  have lt2 : ∀ x ∈ pp2, x.block < W.heap.size := by obtain ⟨m, hm⟩ := k2; exact DataW.trod_lt m _ _ _ hm
  obtain ⟨x2, rfl⟩ := open_version (hval 2 50 v2 rfl rfl) h2
  clear hA0 hval0
  refine (walk x0 A0 n0 c0 R0 B0 p0 d0 Q0 a1 x2 W w0 m0 u0 o0 w1).mono fun e W' ⟨he, bel⟩ => ?_
  subst he
  exact ⟨_, rfl, _, _, _, [], _, [], hW', trodAll_mk1 (shut_bool Try.underlying4 _), (trodAll_cons_mk (Below.trod laidOut (by kernel_rfl) (of_decide_eq_true (by kernel_rfl)) k0 bel lt0) (trodAll_cons_mk (shut_int Try.underlying3 w1) (trodAll_cons_mk (Below.trod laidOut (by kernel_rfl) (of_decide_eq_true (by kernel_rfl)) k2 bel lt2) trodAll_mk0))), rfl, bel.frame _, fun h => by cases h⟩

theorem over : Rows.fnExactTrackReadRow.holds Try.pinned (OpenSpec.ofChange Rows.fnExactTrackReadSpec) :=
  OpenClaim.holds_of_wide 4 Try.f4 rfl rfl rfl rfl rfl rfl rfl ⟨rfl, rfl, rfl, rfl, rfl⟩ rfl rfl rfl rfl rfl (by kernel_rfl) Try.func4 (by kernel_rfl)
    (of_decide_eq_true (by kernel_rfl)) (by unfold Func.isWrapper; first | (rw [if_pos (by decide +kernel)]; kernel_rfl) | (rw [if_neg (by decide +kernel)]; exact ⟨rfl, rfl⟩))
    (fun os started H enc _ => lifted os started H enc)

/-- THE STATEMENT -/
theorem proved : Rows.FnExactTrackReadSaid := over
#print axioms proved
end Go.Proofs.Ytmcmpmgjionfnaa.fnExactTrackRead
