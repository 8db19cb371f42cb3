/- IsValidEngine of the program answers as its model at every engine: the law returns true and writes nothing that was there. No condition. -/
import Derived.Test.YtjnlbhmddhpmaaaGreatMgb
import Derived.WalkKit
import Derived.ProofKit
import Derived.OpenShut
import Derived.ShutString
import Derived.ChangeOld
import Derived.Below
import Derived.Carry
import Derived.Lib.Hide
import Derived.StillTailTactics
import Derived.Deep.RegionHeld3
import Derived.Deep.DeepHandedRow
namespace Go.Proofs.YtjnlbhmddhpmaaaGreat.fnExactIsValidEngine
open Go.ChangeShapes Go.WideShapes Go.ChangeAt Go.RowKit
open Go.ChangeMaps (open_string shut_string)
open Go.Proofs.YtjnlbhmddhpmaaaGreat.el2
open Go.Proofs.YtjnlbhmddhpmaaaGreat.fr (FR)
open Go.Proofs.YtjnlbhmddhpmaaaGreat.vers (new2 new3)
open Go.Proofs.YtjnlbhmddhpmaaaGreat.mkr (Tr)
open Go.Proofs.YtjnlbhmddhpmaaaGreat.sl (Ver)
set_option linter.unusedVariables false
theorem own : ownKnob Tryz.prog.godebug = none := by kernel_rfl
theorem laidOut : laidOutB Tryz.prog = true := by kernel_rfl
set_option maxHeartbeats 1600000 in
theorem walk (q0 : Bool) (A0a : Option Addr) (n0a c0a : Nat) (C0 : List (List Ver)) (A0b : Option Addr) (n0b c0b : Nat) (L0 : List Tr) (A0c : Option Addr) (n0c c0c : Nat) (K0 : List E2) (A0d : Option Addr) (n0d c0d : Nat) (X0 : List E2) (z0 : Int) (w : World) (h0s : Go.Proofs.YtjnlbhmddhpmaaaGreat.st.R0 w w.heap.size A0a n0a C0) (m0a : n0a ≤ maxLen) (h0t : Go.Proofs.YtjnlbhmddhpmaaaGreat.ts.Ts maxLen w w.heap.size A0b n0b L0) (m0b : n0b ≤ maxLen) (h0k : Go.Proofs.YtjnlbhmddhpmaaaGreat.el2.Vs w w.heap.size A0c n0c K0) (m0c : n0c ≤ maxLen) (h0x : Go.Proofs.YtjnlbhmddhpmaaaGreat.el2.Vs w w.heap.size A0d n0d X0) (m0d : n0d ≤ maxLen) (b0 : (Lit.int .i64 z0).wf = true) :
    Calls Tryz.prog 3 #[.agg #[.bool q0, .slice A0a n0a c0a, .slice A0b n0b c0b, .slice A0c n0c c0c, .slice A0d n0d c0d, .int .i64 z0]] w fun e w' => e = .returned (.bool true) ∧ Below w.heap.size w w' := by
  have HTx0 := Lib.hid (Go.Proofs.YtjnlbhmddhpmaaaGreat.eg.ts_wide (M' := 9223372036854775807) h0t (by unfold maxLen; omega))
  unfold maxLen at m0a m0b m0c m0d
  have HCs0 := Lib.hid h0s
  have HLk0 := Lib.hid h0k
  have HWt0 := Lib.hid h0x
  have l0a := h0s.1
  have l0b := h0t.1
  have l0c := h0k.1
  have l0d := h0x.1
  clear h0s h0t h0k h0x b0
  by_cases hbig0 : (1048576 : Int) < Go.Proofs.YtjnlbhmddhpmaaaGreat.eg.totE C0 L0 n0c n0d
  · have hz := Go.Proofs.YtjnlbhmddhpmaaaGreat.eg.szE_no (left := (1048576 : Int)) (C := C0) (L := L0) (n3 := n0c) (n4 := n0d) (by omega)
    have HZ0 := Lib.hid hz
    clear hz
    go_enter Tryz.func3, Tryz.ntmps3
    go_wp2_with fail
    have hx0 := Go.Proofs.YtjnlbhmddhpmaaaGreat.eg.EB.new w q0 (.slice A0a n0a c0a) (.slice A0b n0b c0b) (.slice A0c n0c c0c) (.slice A0d n0d c0d) z0 29
    have hl0 : w.heap.size < (w.alloc (.cells #[.bool q0, .slice A0a n0a c0a, .slice A0b n0b c0b, .slice A0c n0c c0c, .slice A0d n0d c0d, .int .i64 z0] 29)).heap.size := by simp; try omega
    have hb := Go.Proofs.YtjnlbhmddhpmaaaGreat.el2.new1 w (.cells #[.bool q0, .slice A0a n0a c0a, .slice A0b n0b c0b, .slice A0c n0c c0c, .slice A0d n0d c0d, .int .i64 z0] 29)
    generalize (w.alloc (.cells #[.bool q0, .slice A0a n0a c0a, .slice A0b n0b c0b, .slice A0c n0c c0c, .slice A0d n0d c0d, .int .i64 z0] 29)) = W1 at hx0 hl0 hb ⊢
    have HB1 : Hid (Below w.heap.size w W1) := Lib.hid hb
    have HS1 : Hid (Below w.heap.size w W1) := Lib.hid hb
    clear hb
    have b0_1 := Lib.hid hx0
    have b0l_1 := hl0
    clear hx0 hl0
    refine (Go.Proofs.YtjnlbhmddhpmaaaGreat.eg.count_eg q0 z0 (by omega) (by omega) (by omega) (by omega) (HCs0.out.below HB1.out) (HTx0.out.below HB1.out) HB1.out.size (by omega) (by omega)).mono ?_
    rintro e W2 ⟨rfl, hb⟩
    rw [HZ0.out]
    have HB2 : Hid (Below w.heap.size w W2) := Lib.hid (HB1.out.trans (hb.mono HB1.out.size))
    have HS2 : Hid (Below W1.heap.size W1 W2) := Lib.hid hb
    clear hb
    have b0_2 := Lib.hid ((b0_1.out).keep b0l_1 (HS2.out))
    have b0l_2 := Nat.lt_of_lt_of_le b0l_1 HS2.out.size
    clear b0_1 b0l_1
    go_wp2_with fail
    go_ret
    exact ⟨rfl, HB2.out⟩
  have hz := Go.Proofs.YtjnlbhmddhpmaaaGreat.eg.szE_yes (left := (1048576 : Int)) (C := C0) (L := L0) (n3 := n0c) (n4 := n0d) (by omega)
  have HZ0 := Lib.hid hz
  clear hz
  have htot0 := Go.Proofs.YtjnlbhmddhpmaaaGreat.eg.totE_eq C0 L0 n0c n0d
  have HR0 : Hid (Go.Proofs.YtjnlbhmddhpmaaaGreat.ego.ER w w.heap.size A0a n0a C0 A0b n0b L0 A0c n0c K0 A0d n0d X0) := Lib.hid ⟨HCs0.out.tight (by omega), Go.Proofs.YtjnlbhmddhpmaaaGreat.ts.Ts.tight HTx0.out (by omega), HLk0.out, HWt0.out⟩
  obtain ⟨lf0, hlf⟩ : ∃ lf : Int, lf = (1048576 : Int) - (Go.Proofs.YtjnlbhmddhpmaaaGreat.eg.totE C0 L0 n0c n0d : Int) := ⟨_, rfl⟩
  have hz := HZ0.out
  clear HZ0
  rw [← hlf] at hz
  have HZ0 := Lib.hid hz
  have tz0 : decide (lf0 < 0) = false := decide_eq_false (by omega)
  have lf00 : 0 ≤ lf0 := by omega
  have lf10 : lf0 ≤ 1048576 := by omega
  clear hlf hz
  obtain ⟨q0z, hq0⟩ : ∃ q, Go.Proofs.YtjnlbhmddhpmaaaGreat.en.enB ⟨q0, C0, L0, K0, X0, z0⟩ = q := ⟨_, rfl⟩
  have HQ0 := Lib.hid hq0
  clear hq0
  go_enter Tryz.func3, Tryz.ntmps3
  go_wp2_with fail
  have hx0 := Go.Proofs.YtjnlbhmddhpmaaaGreat.eg.EB.new w q0 (.slice A0a n0a c0a) (.slice A0b n0b c0b) (.slice A0c n0c c0c) (.slice A0d n0d c0d) z0 29
  have hl0 : w.heap.size < (w.alloc (.cells #[.bool q0, .slice A0a n0a c0a, .slice A0b n0b c0b, .slice A0c n0c c0c, .slice A0d n0d c0d, .int .i64 z0] 29)).heap.size := by simp; try omega
  have hb := Go.Proofs.YtjnlbhmddhpmaaaGreat.el2.new1 w (.cells #[.bool q0, .slice A0a n0a c0a, .slice A0b n0b c0b, .slice A0c n0c c0c, .slice A0d n0d c0d, .int .i64 z0] 29)
  generalize (w.alloc (.cells #[.bool q0, .slice A0a n0a c0a, .slice A0b n0b c0b, .slice A0c n0c c0c, .slice A0d n0d c0d, .int .i64 z0] 29)) = W1 at hx0 hl0 hb ⊢
  have HB1 : Hid (Below w.heap.size w W1) := Lib.hid hb
  have HS1 : Hid (Below w.heap.size w W1) := Lib.hid hb
  clear hb
  have b0_1 := Lib.hid hx0
  have b0l_1 := hl0
  clear hx0 hl0
  refine (Go.Proofs.YtjnlbhmddhpmaaaGreat.eg.count_eg q0 z0 (by omega) (by omega) (by omega) (by omega) (HCs0.out.below HB1.out) (HTx0.out.below HB1.out) HB1.out.size (by omega) (by omega)).mono ?_
  rintro e W2 ⟨rfl, hb⟩
  rw [HZ0.out]
  have HB2 : Hid (Below w.heap.size w W2) := Lib.hid (HB1.out.trans (hb.mono HB1.out.size))
  have HS2 : Hid (Below W1.heap.size W1 W2) := Lib.hid hb
  clear hb
  have b0_2 := Lib.hid ((b0_1.out).keep b0l_1 (HS2.out))
  have b0l_2 := Nat.lt_of_lt_of_le b0l_1 HS2.out.size
  clear b0_1 b0l_1
  obtain ⟨b0c0, b0c1, b0c2, b0c3, b0c4, b0c5⟩ := b0_2.out
  go_wp2_with fail
  refine (Go.Proofs.YtjnlbhmddhpmaaaGreat.eg.copied_eg q0 z0 (by omega) (by omega) (by omega) (by omega) (by omega) (by omega) (HR0.out.below HB2.out) (HB2.out).size).mono ?_
  rintro e W3 ⟨Ns1a, Ns1b, Ns1c, Ns1d, rfl, hv, hb⟩
  have HB3 : Hid (Below w.heap.size w W3) := Lib.hid (HB2.out.trans (hb.mono HB2.out.size))
  have HS3 : Hid (Below W2.heap.size W2 W3) := Lib.hid hb
  clear hb
  have b0_3 := Lib.hid ((b0_2.out).keep b0l_2 (HS3.out))
  have b0l_3 := Nat.lt_of_lt_of_le b0l_2 HS3.out.size
  clear b0_2 b0l_2
  have s1_3 := Lib.hid hv
  clear hv
  clear b0c0 b0c1 b0c2 b0c3 b0c4 b0c5
  go_wp2_with fail
  refine (Go.Proofs.YtjnlbhmddhpmaaaGreat.ive.spec_ive q0 z0 (by omega) (by omega) (by omega) (by omega) s1_3.out (Nat.le_refl _)).mono ?_
  rintro e W4 ⟨he, hb⟩
  rw [HQ0.out] at he
  subst he
  have HB4 : Hid (Below w.heap.size w W4) := Lib.hid (HB3.out.trans (hb.mono HB3.out.size))
  have HS4 : Hid (Below W3.heap.size W3 W4) := Lib.hid hb
  clear hb
  have b0_4 := Lib.hid ((b0_3.out).keep b0l_3 (HS4.out))
  have b0l_4 := Nat.lt_of_lt_of_le b0l_3 HS4.out.size
  clear b0_3 b0l_3
  have s1_4 := Lib.hid ((s1_3.out.below HS4.out).more HS4.out.size)
  clear s1_3
  obtain ⟨b0c0, b0c1, b0c2, b0c3, b0c4, b0c5⟩ := b0_4.out
  go_wp2_with fail
  refine (Go.Proofs.YtjnlbhmddhpmaaaGreat.eg.copied_eg q0 z0 (by omega) (by omega) (by omega) (by omega) (by omega) (by omega) (HR0.out.below HB4.out) (HB4.out).size).mono ?_
  rintro e W5 ⟨Ns2a, Ns2b, Ns2c, Ns2d, rfl, hv, hb⟩
  have HB5 : Hid (Below w.heap.size w W5) := Lib.hid (HB4.out.trans (hb.mono HB4.out.size))
  have HS5 : Hid (Below W4.heap.size W4 W5) := Lib.hid hb
  clear hb
  have b0_5 := Lib.hid ((b0_4.out).keep b0l_4 (HS5.out))
  have b0l_5 := Nat.lt_of_lt_of_le b0l_4 HS5.out.size
  clear b0_4 b0l_4
  have s1_5 := Lib.hid ((s1_4.out.below HS5.out).more HS5.out.size)
  clear s1_4
  have s2_5 := Lib.hid hv
  clear hv
  clear b0c0 b0c1 b0c2 b0c3 b0c4 b0c5
  go_wp2_with fail
  have hx0 := Go.Proofs.YtjnlbhmddhpmaaaGreat.eg.EB.new W5 q0 (.slice (some ⟨Ns2a, 0, none⟩) n0a n0a) (.slice (some ⟨Ns2b, 0, none⟩) n0b n0b) (.slice (some ⟨Ns2c, 0, none⟩) n0c n0c) (.slice (some ⟨Ns2d, 0, none⟩) n0d n0d) z0 39
  have hl0 : W5.heap.size < (W5.alloc (.cells #[.bool q0, .slice (some ⟨Ns2a, 0, none⟩) n0a n0a, .slice (some ⟨Ns2b, 0, none⟩) n0b n0b, .slice (some ⟨Ns2c, 0, none⟩) n0c n0c, .slice (some ⟨Ns2d, 0, none⟩) n0d n0d, .int .i64 z0] 39)).heap.size := by simp; try omega
  have hb := Go.Proofs.YtjnlbhmddhpmaaaGreat.el2.new1 W5 (.cells #[.bool q0, .slice (some ⟨Ns2a, 0, none⟩) n0a n0a, .slice (some ⟨Ns2b, 0, none⟩) n0b n0b, .slice (some ⟨Ns2c, 0, none⟩) n0c n0c, .slice (some ⟨Ns2d, 0, none⟩) n0d n0d, .int .i64 z0] 39)
  generalize (W5.alloc (.cells #[.bool q0, .slice (some ⟨Ns2a, 0, none⟩) n0a n0a, .slice (some ⟨Ns2b, 0, none⟩) n0b n0b, .slice (some ⟨Ns2c, 0, none⟩) n0c n0c, .slice (some ⟨Ns2d, 0, none⟩) n0d n0d, .int .i64 z0] 39)) = W6 at hx0 hl0 hb ⊢
  have HB6 : Hid (Below w.heap.size w W6) := Lib.hid (HB5.out.trans (hb.mono HB5.out.size))
  have HS6 : Hid (Below W5.heap.size W5 W6) := Lib.hid hb
  clear hb
  have b0_6 := Lib.hid ((b0_5.out).keep b0l_5 (HS6.out))
  have b0l_6 := Nat.lt_of_lt_of_le b0l_5 HS6.out.size
  clear b0_5 b0l_5
  have s1_6 := Lib.hid ((s1_5.out.below HS6.out).more HS6.out.size)
  clear s1_5
  have s2_6 := Lib.hid ((s2_5.out.below HS6.out).more HS6.out.size)
  clear s2_5
  have b1_6 := Lib.hid hx0
  have b1l_6 := hl0
  clear hx0 hl0
  refine (Go.Proofs.YtjnlbhmddhpmaaaGreat.ive.impl_ive q0 z0 (by omega) (by omega) (by omega) (by omega) s2_6.out (Nat.le_refl _)).mono ?_
  rintro e W7 ⟨he, hb⟩
  rw [HQ0.out] at he
  subst he
  have HB7 : Hid (Below w.heap.size w W7) := Lib.hid (HB6.out.trans (hb.mono HB6.out.size))
  have HS7 : Hid (Below W6.heap.size W6 W7) := Lib.hid hb
  clear hb
  have b0_7 := Lib.hid ((b0_6.out).keep b0l_6 (HS7.out))
  have b0l_7 := Nat.lt_of_lt_of_le b0l_6 HS7.out.size
  clear b0_6 b0l_6
  have b1_7 := Lib.hid ((b1_6.out).keep b1l_6 (HS7.out))
  have b1l_7 := Nat.lt_of_lt_of_le b1l_6 HS7.out.size
  clear b1_6 b1l_6
  have s1_7 := Lib.hid ((s1_6.out.below HS7.out).more HS7.out.size)
  clear s1_6
  have s2_7 := Lib.hid ((s2_6.out.below HS7.out).more HS7.out.size)
  clear s2_6
  go_wp2_with fail
  have hbk0 : Below W7.heap.size W7 W7.drew := (Below.refl _ _).drew
  have hbw0 := HB7.out.trans (hbk0.mono HB7.out.size)
  obtain ⟨b1c0, b1c1, b1c2, b1c3, b1c4, b1c5⟩ := b1_7.out
  obtain ⟨b0c0, b0c1, b0c2, b0c3, b0c4, b0c5⟩ := b0_7.out
  go_region_held3 (fun w' => w'.cell? ⟨W5.heap.size, 0, none⟩ = some (.bool q0) ∧ w'.cell? ⟨W5.heap.size, 1, none⟩ = some (.slice (some ⟨Ns2a, 0, none⟩) n0a n0a) ∧ w'.cell? ⟨W5.heap.size, 2, none⟩ = some (.slice (some ⟨Ns2b, 0, none⟩) n0b n0b) ∧ w'.cell? ⟨W5.heap.size, 3, none⟩ = some (.slice (some ⟨Ns2c, 0, none⟩) n0c n0c) ∧ w'.cell? ⟨W5.heap.size, 4, none⟩ = some (.slice (some ⟨Ns2d, 0, none⟩) n0d n0d) ∧ w'.cell? ⟨W5.heap.size, 5, none⟩ = some (.int .i64 z0) ∧ w'.cell? ⟨w.heap.size, 0, none⟩ = some (.bool q0) ∧ w'.cell? ⟨w.heap.size, 1, none⟩ = some (.slice A0a n0a c0a) ∧ w'.cell? ⟨w.heap.size, 2, none⟩ = some (.slice A0b n0b c0b) ∧ w'.cell? ⟨w.heap.size, 3, none⟩ = some (.slice A0c n0c c0c) ∧ w'.cell? ⟨w.heap.size, 4, none⟩ = some (.slice A0d n0d c0d) ∧ w'.cell? ⟨w.heap.size, 5, none⟩ = some (.int .i64 z0)) (go_keep) (first | (go_at_call 8; (with_reducible refine (Go.Proofs.YtjnlbhmddhpmaaaGreat.eg.same_eg q0 z0 (by omega) (by omega) (by omega) (by omega) ((s2_7.out.below hbk1).more hbk1.size) s3a1 (Nat.le_refl _)).mono ?_); rintro e W8 ⟨rfl, hb⟩; have hbk2 := hbk1.trans (hb.mono hbk1.size); have hbw2 := HB7.out.trans (hbk2.mono HB7.out.size); have s3a2 := (s3a1.below hb).more hb.size; clear hb ; obtain ⟨b1d20, b1d21, b1d22, b1d23, b1d24, b1d25⟩ := ((b1_7.out).keep b1l_7 (hbk2)); obtain ⟨b0d20, b0d21, b0d22, b0d23, b0d24, b0d25⟩ := ((b0_7.out).keep b0l_7 (hbk2))) | (go_at_call 6; (with_reducible refine (Go.Proofs.YtjnlbhmddhpmaaaGreat.eg.copied_eg q0 z0 (by omega) (by omega) (by omega) (by omega) (by omega) (by omega) (HR0.out.below hbw0) (hbw0).size).mono ?_); rintro e Wa1 ⟨Ns3a, Ns3b, Ns3c, Ns3d, rfl, hv, hb⟩; have hbk1 := hbk0.trans (hb.mono hbk0.size); have hbw1 := HB7.out.trans (hbk1.mono HB7.out.size); have s3a1 := hv; clear hb hv; obtain ⟨b1d10, b1d11, b1d12, b1d13, b1d14, b1d15⟩ := ((b1_7.out).keep b1l_7 (hbk1)); obtain ⟨b0d10, b0d11, b0d12, b0d13, b0d14, b0d15⟩ := ((b0_7.out).keep b0l_7 (hbk1))))
  have hb := hbk2
  clear hbk0 hbw0 s3a1 b1d10 b1d11 b1d12 b1d13 b1d14 b1d15 b0d10 b0d11 b0d12 b0d13 b0d14 b0d15 hbk1 hbw1 s3a2 b1d20 b1d21 b1d22 b1d23 b1d24 b1d25 b0d20 b0d21 b0d22 b0d23 b0d24 b0d25 hbk2 hbw2 b1c0 b1c1 b1c2 b1c3 b1c4 b1c5 b0c0 b0c1 b0c2 b0c3 b0c4 b0c5
  have HB8 : Hid (Below w.heap.size w W8) := Lib.hid (HB7.out.trans (hb.mono HB7.out.size))
  have HS8 : Hid (Below W7.heap.size W7 W8) := Lib.hid hb
  clear hb
  have b0_8 := Lib.hid ((b0_7.out).keep b0l_7 (HS8.out))
  have b0l_8 := Nat.lt_of_lt_of_le b0l_7 HS8.out.size
  clear b0_7 b0l_7
  have b1_8 := Lib.hid ((b1_7.out).keep b1l_7 (HS8.out))
  have b1l_8 := Nat.lt_of_lt_of_le b1l_7 HS8.out.size
  clear b1_7 b1l_7
  have s1_8 := Lib.hid ((s1_7.out.below HS8.out).more HS8.out.size)
  clear s1_7
  have s2_8 := Lib.hid ((s2_7.out.below HS8.out).more HS8.out.size)
  clear s2_7
  go_wp2_with fail
  go_ret
  exact ⟨rfl, HB8.out⟩
/-! ### THE ROW's STEP -/
set_option maxRecDepth 100000 in
theorem lifted (os : Os) (started : os.Started) (H : Type) (enc : TypeId × Value → H) :
    ReturnsInHanded {} Tryz.checked os 3 .any (Rows.fnExactIsValidEngineSpec.pre6 enc Tryz.prog Tryz.f3 Rows.fnExactIsValidEngineRow.domain false) (Rows.fnExactIsValidEngineSpec.post enc Tryz.prog Tryz.f3 false true false false) := by
  refine returnsInHanded_of_change (C := Tryz.checked) own started (by kernel_rfl) Tryz.func3
    (ChangeSpec.witness6 (enc := enc) (C := Tryz.checked) false ⟨#[], #[.agg #[.bool false, .slice none 0 0, .slice none 0 0, .slice none 0 0, .slice none 0 0, .int .i64 0]], []⟩ 8 (by kernel_rfl) (by kernel_rfl) (by kernel_rfl) (by kernel_rfl)) ?_
  intro W base args ds gs before hval0 hW hcnd _
  have hval : ∀ (j : Nat) t v, Tryz.f3.params[j]? = some t → args[j]? = some v → Value.okWide Tryz.prog W .any base t v := hval0
  have hW' := hW
  obtain ⟨pp, qq, hA0, hV, rfl, hfz, hnd⟩ := hW
  have hA : DataW.TrodAll enc Tryz.prog W 0 (fun _ => true) true Tryz.f3.params.toList args.toList ds pp := hA0
  rw [Tryz.params3] at hA hval
  obtain ⟨v0, vs0, dd0, ds0, pp0, qq0, hargs, rfl, rfl, h0, r0⟩ := trodAll_cons hA
  obtain ⟨rfl, rfl, rfl⟩ := trodAll_nil r0
  obtain rfl : args = #[v0] := by cases args; simp_all
  obtain ⟨rfl, rfl⟩ := trodVars_none hV
  have k0 := h0
  have lt0 : ∀ x ∈ pp0, x.block < W.heap.size := by obtain ⟨m, hm⟩ := k0; exact DataW.trod_lt m _ _ _ hm
  obtain ⟨q0, A0a, n0a, c0a, C0, A0b, n0b, c0b, L0, A0c, n0c, c0c, K0, A0d, n0d, c0d, X0, z0, rfl, u0a, m0a, u0b, m0b, u0c, m0c, u0d, m0d, b0⟩ := Go.Proofs.YtjnlbhmddhpmaaaGreat.opt.open_engine (hval 0 29 v0 rfl rfl) h0
  clear hA0 hval0
  refine (walk q0 A0a n0a c0a C0 A0b n0b c0b L0 A0c n0c c0c K0 A0d n0d c0d X0 z0 W u0a m0a u0b m0b u0c m0c u0d m0d b0).mono fun e W' ⟨he, bel⟩ => ?_
  subst he
  exact ⟨_, rfl, _, _, _, [], _, [], hW', trodAll_mk1 (shut_bool Tryz.underlying4 _), (trodAll_cons_mk (Below.trod laidOut (by kernel_rfl) (of_decide_eq_true (by kernel_rfl)) k0 bel lt0) trodAll_mk0), rfl, bel.frame _, fun h => by cases h⟩

theorem over : Rows.fnExactIsValidEngineRow.holds Tryz.pinned (OpenSpec.ofChange Rows.fnExactIsValidEngineSpec) :=
  OpenClaim.holds_of_wide 3 Tryz.f3 rfl rfl rfl rfl rfl rfl rfl ⟨rfl, rfl, rfl, rfl, rfl⟩ rfl rfl rfl rfl rfl (by kernel_rfl) Tryz.func3 (by kernel_rfl)
    (of_decide_eq_true (by kernel_rfl)) (by unfold Func.isWrapper; first | (rw [if_pos (by decide +kernel)]; kernel_rfl) | (rw [if_neg (by decide +kernel)]; exact ⟨rfl, rfl⟩))
    (fun os started H enc _ => lifted os started H enc)

/-- THE STATEMENT -/
theorem proved : Rows.FnExactIsValidEngineSaid := over
#print axioms proved
end Go.Proofs.YtjnlbhmddhpmaaaGreat.fnExactIsValidEngine
