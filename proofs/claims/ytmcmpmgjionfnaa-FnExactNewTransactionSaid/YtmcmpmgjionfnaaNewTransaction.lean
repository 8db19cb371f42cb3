/- NewTransaction of the program answers as its model at every three integers: the law returns true and writes nothing that was there; its answer shares no memory. No condition. -/
import Derived.Test.YtmcmpmgjionfnaaTn
import Derived.Test.YtmcmpmgjionfnaaTm
import Derived.WalkKit
import Derived.ProofKit
import Derived.OpenShut
import Derived.ShutString
import Derived.ChangeOld
import Derived.Below
import Derived.Carry
import Derived.Lib.Hide
import Derived.StillTailTactics
import Derived.Deep.RegionHeld3
import Derived.Deep.DeepHandedRow
namespace Go.Proofs.Ytmcmpmgjionfnaa.fnExactNewTransaction
open Go.ChangeShapes Go.WideShapes Go.ChangeAt Go.RowKit
open Go.ChangeMaps (open_string shut_string)
open Go.Proofs.Ytmcmpmgjionfnaa.el2
open Go.Proofs.Ytmcmpmgjionfnaa.tx
open Go.Proofs.Ytmcmpmgjionfnaa.fr (FR)
set_option linter.unusedVariables false
theorem own : ownKnob Try.prog.godebug = none := by kernel_rfl
theorem laidOut : laidOutB Try.prog = true := by kernel_rfl
set_option maxHeartbeats 1600000 in
theorem walk (a0 : Int) (a1 : Int) (a2 : Int) (w : World) (b0 : (Lit.int .i64 a0).wf = true) (b1 : (Lit.int .i64 a1).wf = true) (b2 : (Lit.int .i64 a2).wf = true) :
    Calls Try.prog 10 #[.int .i64 a0, .int .i64 a1, .int .i64 a2] w fun e w' => e = .returned (.bool true) ∧ Below w.heap.size w w' := by
  clear b0
  clear b1
  clear b2
  obtain ⟨q1, hq1⟩ : ∃ q, Go.Proofs.Ytmcmpmgjionfnaa.tn.nwT a0 a1 a2 = q := ⟨_, rfl⟩
  obtain ⟨q2, hq2⟩ : ∃ q, Go.Proofs.Ytmcmpmgjionfnaa.tn.nwB a0 a1 a2 = q := ⟨_, rfl⟩
  have HQ1 := Lib.hid hq1
  have HQ2 := Lib.hid hq2
  clear hq1 hq2
  go_enter Try.func10, Try.ntmps10
  go_wp2_with fail
  refine (Go.Proofs.Ytmcmpmgjionfnaa.tn.spec_new a0 a1 a2 _).mono ?_
  rintro e W1 ⟨he, hb⟩
  rw [HQ1.out, HQ2.out] at he
  subst he
  have hv : Go.Proofs.Ytmcmpmgjionfnaa.tm.OwT W1 w.heap.size W1.heap.size none 0 [] none 0 [] := ⟨Go.Proofs.Ytmcmpmgjionfnaa.ow2.OwS.nil_ _ _ _ _ _, Go.Proofs.Ytmcmpmgjionfnaa.ow2.OwS.nil_ _ _ _ _ _⟩
  have HB1 : Hid (Below w.heap.size w W1) := Lib.hid hb
  have HF1 : Hid (FR 0 0 w W1) := Lib.hid (FR.of_below hb)
  have hs1 : w.heap.size ≤ W1.heap.size := hb.size
  clear hb
  have s1_1 := Lib.hid hv
  clear hv
  go_wp2_with fail
  have hx0 := TB.new W1 q1 none 0 0 none 0 0 27
  have hz : (W1.alloc (.cells #[.int .i64 q1.i, .int .i64 q1.s, .int .i64 q1.t, .int .i64 q1.b, .int .i64 q1.l, .int .i64 q1.h, .int .i64 q1.c, .slice none 0 0, .slice none 0 0] 27)).heap.size = W1.heap.size + 1 := by simp
  have hb := Go.Proofs.Ytmcmpmgjionfnaa.el2.new1 W1 (.cells #[.int .i64 q1.i, .int .i64 q1.s, .int .i64 q1.t, .int .i64 q1.b, .int .i64 q1.l, .int .i64 q1.h, .int .i64 q1.c, .slice none 0 0, .slice none 0 0] 27)
  generalize (W1.alloc (.cells #[.int .i64 q1.i, .int .i64 q1.s, .int .i64 q1.t, .int .i64 q1.b, .int .i64 q1.l, .int .i64 q1.h, .int .i64 q1.c, .slice none 0 0, .slice none 0 0] 27)) = W2 at hx0 hb hz ⊢
  have HB2 : Hid (Below w.heap.size w W2) := Lib.hid (HB1.out.trans (hb.mono HB1.out.size))
  have HF2 : Hid (FR 0 0 W1 W2) := Lib.hid (FR.of_below hb)
  have hs2 : W1.heap.size ≤ W2.heap.size := hb.size
  clear hb
  have s1_2 := Lib.hid (s1_1.out.fr HF2.out (by omega) (by omega))
  clear s1_1
  have hz2 : W1.heap.size + 1 ≤ W2.heap.size := Nat.le_of_eq hz.symm
  clear hz
  have b0_2 := Lib.hid hx0
  clear hx0
  refine (Go.Proofs.Ytmcmpmgjionfnaa.tn.impl_new a0 a1 a2 _).mono ?_
  rintro e W3 ⟨he, hb⟩
  rw [HQ1.out, HQ2.out] at he
  subst he
  have hv : Go.Proofs.Ytmcmpmgjionfnaa.tm.OwT W3 W2.heap.size W3.heap.size none 0 [] none 0 [] := ⟨Go.Proofs.Ytmcmpmgjionfnaa.ow2.OwS.nil_ _ _ _ _ _, Go.Proofs.Ytmcmpmgjionfnaa.ow2.OwS.nil_ _ _ _ _ _⟩
  have HB3 : Hid (Below w.heap.size w W3) := Lib.hid (HB2.out.trans (hb.mono HB2.out.size))
  have HF3 : Hid (FR 0 0 W2 W3) := Lib.hid (FR.of_below hb)
  have hs3 : W2.heap.size ≤ W3.heap.size := hb.size
  clear hb
  have b0_3 := Lib.hid (Go.Proofs.Ytmcmpmgjionfnaa.tm.TB.fr b0_2.out HF3.out (by omega) (by omega))
  clear b0_2
  have s1_3 := Lib.hid (s1_2.out.fr HF3.out (by omega) (by omega))
  clear s1_2
  have s2_3 := Lib.hid hv
  clear hv
  obtain ⟨b0c0, b0c1, b0c2, b0c3, b0c4, b0c5, b0c6, b0c7, b0c8⟩ := b0_3.out
  have b0L : W1.heap.size < W3.heap.size := by omega
  go_wp2_with fail
  have hx0 := TB.new W3 q1 none 0 0 none 0 0 27
  have hz : (W3.alloc (.cells #[.int .i64 q1.i, .int .i64 q1.s, .int .i64 q1.t, .int .i64 q1.b, .int .i64 q1.l, .int .i64 q1.h, .int .i64 q1.c, .slice none 0 0, .slice none 0 0] 27)).heap.size = W3.heap.size + 1 := by simp
  have hb := Go.Proofs.Ytmcmpmgjionfnaa.el2.new1 W3 (.cells #[.int .i64 q1.i, .int .i64 q1.s, .int .i64 q1.t, .int .i64 q1.b, .int .i64 q1.l, .int .i64 q1.h, .int .i64 q1.c, .slice none 0 0, .slice none 0 0] 27)
  generalize (W3.alloc (.cells #[.int .i64 q1.i, .int .i64 q1.s, .int .i64 q1.t, .int .i64 q1.b, .int .i64 q1.l, .int .i64 q1.h, .int .i64 q1.c, .slice none 0 0, .slice none 0 0] 27)) = W4 at hx0 hb hz ⊢
  have HB4 : Hid (Below w.heap.size w W4) := Lib.hid (HB3.out.trans (hb.mono HB3.out.size))
  have HF4 : Hid (FR 0 0 W3 W4) := Lib.hid (FR.of_below hb)
  have hs4 : W3.heap.size ≤ W4.heap.size := hb.size
  clear hb
  have b0_4 := Lib.hid (Go.Proofs.Ytmcmpmgjionfnaa.tm.TB.fr b0_3.out HF4.out (by omega) (by omega))
  clear b0_3
  have s1_4 := Lib.hid (s1_3.out.fr HF4.out (by omega) (by omega))
  clear s1_3
  have s2_4 := Lib.hid (s2_3.out.fr HF4.out (by omega) (by omega))
  clear s2_3
  have hz4 : W3.heap.size + 1 ≤ W4.heap.size := Nat.le_of_eq hz.symm
  clear hz
  have b1_4 := Lib.hid hx0
  clear hx0
  refine (same_tx q1 (by omega) (by omega) (s2_4.out.1.vs (by omega)) (s1_4.out.1.vs (by omega)) (s2_4.out.2.vs (by omega)) (s1_4.out.2.vs (by omega)) (Nat.le_refl _)).mono ?_
  rintro e W5 ⟨rfl, hb⟩
  have HB5 : Hid (Below w.heap.size w W5) := Lib.hid (HB4.out.trans (hb.mono HB4.out.size))
  have HF5 : Hid (FR 0 0 W4 W5) := Lib.hid (FR.of_below hb)
  have hs5 : W4.heap.size ≤ W5.heap.size := hb.size
  clear hb
  have b0_5 := Lib.hid (Go.Proofs.Ytmcmpmgjionfnaa.tm.TB.fr b0_4.out HF5.out (by omega) (by omega))
  clear b0_4
  have b1_5 := Lib.hid (Go.Proofs.Ytmcmpmgjionfnaa.tm.TB.fr b1_4.out HF5.out (by omega) (by omega))
  clear b1_4
  have s1_5 := Lib.hid (s1_4.out.fr HF5.out (by omega) (by omega))
  clear s1_4
  have s2_5 := Lib.hid (s2_4.out.fr HF5.out (by omega) (by omega))
  clear s2_4
  clear b0c0 b0c1 b0c2 b0c3 b0c4 b0c5 b0c6 b0c7 b0c8 b0L
  obtain ⟨b1c0, b1c1, b1c2, b1c3, b1c4, b1c5, b1c6, b1c7, b1c8⟩ := b1_5.out
  have b1L : W3.heap.size < W5.heap.size := by omega
  go_wp2_with fail
  refine (Go.Proofs.Ytmcmpmgjionfnaa.tm.mark_tx q1 (by omega) (by omega) s2_5.out (by omega)).mono ?_
  rintro e W6 ⟨rfl, hm, hf⟩
  have HF6 : Hid (FR W2.heap.size W3.heap.size W5 W6) := Lib.hid hf
  have HB6 : Hid (Below w.heap.size w W6) := Lib.hid (FR.chain HB5.out hf (by omega))
  have hs6 : W5.heap.size ≤ W6.heap.size := hf.size
  clear hf
  have b0_6 := Lib.hid (Go.Proofs.Ytmcmpmgjionfnaa.tm.TB.fr b0_5.out HF6.out (by omega) (by omega))
  clear b0_5
  have b1_6 := Lib.hid (Go.Proofs.Ytmcmpmgjionfnaa.tm.TB.fr b1_5.out HF6.out (by omega) (by omega))
  clear b1_5
  have s1_6 := Lib.hid (s1_5.out.fr HF6.out (by omega) (by omega))
  clear s1_5
  have s2m_6 := Lib.hid hm
  clear hm s2_5
  obtain ⟨s2c, hs2c⟩ : ∃ z : Int, z = 1 + ((0 * 2 : Nat) : Int) + ((0 * 2 : Nat) : Int) := ⟨_, rfl⟩
  rw [← hs2c]
  have s2t : decide (s2c < 0) = false := decide_eq_false (by omega)
  have Hs2C := Lib.hid hs2c
  clear hs2c
  clear b1c0 b1c1 b1c2 b1c3 b1c4 b1c5 b1c6 b1c7 b1c8 b1L
  obtain ⟨b1c0, b1c1, b1c2, b1c3, b1c4, b1c5, b1c6, b1c7, b1c8⟩ := b1_6.out
  have b1L : W3.heap.size < W6.heap.size := by omega
  go_wp2_with fail
  refine (Go.Proofs.Ytmcmpmgjionfnaa.tm.held_tx q1 (by omega) (by omega) s2m_6.out (by omega)).mono ?_
  rintro e W7 ⟨rfl, hb⟩
  rw [← Hs2C.out]
  have HB7 : Hid (Below w.heap.size w W7) := Lib.hid (HB6.out.trans (hb.mono HB6.out.size))
  have HF7 : Hid (FR 0 0 W6 W7) := Lib.hid (FR.of_below hb)
  have hs7 : W6.heap.size ≤ W7.heap.size := hb.size
  clear hb
  have b0_7 := Lib.hid (Go.Proofs.Ytmcmpmgjionfnaa.tm.TB.fr b0_6.out HF7.out (by omega) (by omega))
  clear b0_6
  have b1_7 := Lib.hid (Go.Proofs.Ytmcmpmgjionfnaa.tm.TB.fr b1_6.out HF7.out (by omega) (by omega))
  clear b1_6
  have s1_7 := Lib.hid (s1_6.out.fr HF7.out (by omega) (by omega))
  clear s1_6
  have s2m_7 := Lib.hid (s2m_6.out.fr HF7.out (by omega) (by omega))
  clear s2m_6
  clear b1c0 b1c1 b1c2 b1c3 b1c4 b1c5 b1c6 b1c7 b1c8 b1L
  go_wp2_with fail
  refine (Go.Proofs.Ytmcmpmgjionfnaa.tn.impl_new a0 a1 a2 _).mono ?_
  rintro e W8 ⟨he, hb⟩
  rw [HQ1.out, HQ2.out] at he
  subst he
  have hv : Go.Proofs.Ytmcmpmgjionfnaa.tm.OwT W8 W7.heap.size W8.heap.size none 0 [] none 0 [] := ⟨Go.Proofs.Ytmcmpmgjionfnaa.ow2.OwS.nil_ _ _ _ _ _, Go.Proofs.Ytmcmpmgjionfnaa.ow2.OwS.nil_ _ _ _ _ _⟩
  have HB8 : Hid (Below w.heap.size w W8) := Lib.hid (HB7.out.trans (hb.mono HB7.out.size))
  have HF8 : Hid (FR 0 0 W7 W8) := Lib.hid (FR.of_below hb)
  have hs8 : W7.heap.size ≤ W8.heap.size := hb.size
  clear hb
  have b0_8 := Lib.hid (Go.Proofs.Ytmcmpmgjionfnaa.tm.TB.fr b0_7.out HF8.out (by omega) (by omega))
  clear b0_7
  have b1_8 := Lib.hid (Go.Proofs.Ytmcmpmgjionfnaa.tm.TB.fr b1_7.out HF8.out (by omega) (by omega))
  clear b1_7
  have s1_8 := Lib.hid (s1_7.out.fr HF8.out (by omega) (by omega))
  clear s1_7
  have s2m_8 := Lib.hid (s2m_7.out.fr HF8.out (by omega) (by omega))
  clear s2m_7
  have s3_8 := Lib.hid hv
  clear hv
  obtain ⟨b0c0, b0c1, b0c2, b0c3, b0c4, b0c5, b0c6, b0c7, b0c8⟩ := b0_8.out
  have b0L : W1.heap.size < W8.heap.size := by omega
  go_wp2_with fail
  have hx0 := TB.new W8 q1 none 0 0 none 0 0 27
  have hz : (W8.alloc (.cells #[.int .i64 q1.i, .int .i64 q1.s, .int .i64 q1.t, .int .i64 q1.b, .int .i64 q1.l, .int .i64 q1.h, .int .i64 q1.c, .slice none 0 0, .slice none 0 0] 27)).heap.size = W8.heap.size + 1 := by simp
  have hb := Go.Proofs.Ytmcmpmgjionfnaa.el2.new1 W8 (.cells #[.int .i64 q1.i, .int .i64 q1.s, .int .i64 q1.t, .int .i64 q1.b, .int .i64 q1.l, .int .i64 q1.h, .int .i64 q1.c, .slice none 0 0, .slice none 0 0] 27)
  generalize (W8.alloc (.cells #[.int .i64 q1.i, .int .i64 q1.s, .int .i64 q1.t, .int .i64 q1.b, .int .i64 q1.l, .int .i64 q1.h, .int .i64 q1.c, .slice none 0 0, .slice none 0 0] 27)) = W9 at hx0 hb hz ⊢
  have HB9 : Hid (Below w.heap.size w W9) := Lib.hid (HB8.out.trans (hb.mono HB8.out.size))
  have HF9 : Hid (FR 0 0 W8 W9) := Lib.hid (FR.of_below hb)
  have hs9 : W8.heap.size ≤ W9.heap.size := hb.size
  clear hb
  have b0_9 := Lib.hid (Go.Proofs.Ytmcmpmgjionfnaa.tm.TB.fr b0_8.out HF9.out (by omega) (by omega))
  clear b0_8
  have b1_9 := Lib.hid (Go.Proofs.Ytmcmpmgjionfnaa.tm.TB.fr b1_8.out HF9.out (by omega) (by omega))
  clear b1_8
  have s1_9 := Lib.hid (s1_8.out.fr HF9.out (by omega) (by omega))
  clear s1_8
  have s2m_9 := Lib.hid (s2m_8.out.fr HF9.out (by omega) (by omega))
  clear s2m_8
  have s3_9 := Lib.hid (s3_8.out.fr HF9.out (by omega) (by omega))
  clear s3_8
  have hz9 : W8.heap.size + 1 ≤ W9.heap.size := Nat.le_of_eq hz.symm
  clear hz
  have b2_9 := Lib.hid hx0
  clear hx0
  refine (same_tx q1 (by omega) (by omega) (s3_9.out.1.vs (by omega)) (s1_9.out.1.vs (by omega)) (s3_9.out.2.vs (by omega)) (s1_9.out.2.vs (by omega)) (Nat.le_refl _)).mono ?_
  rintro e W10 ⟨rfl, hb⟩
  have HB10 : Hid (Below w.heap.size w W10) := Lib.hid (HB9.out.trans (hb.mono HB9.out.size))
  have HF10 : Hid (FR 0 0 W9 W10) := Lib.hid (FR.of_below hb)
  have hs10 : W9.heap.size ≤ W10.heap.size := hb.size
  clear hb
  have b0_10 := Lib.hid (Go.Proofs.Ytmcmpmgjionfnaa.tm.TB.fr b0_9.out HF10.out (by omega) (by omega))
  clear b0_9
  have b1_10 := Lib.hid (Go.Proofs.Ytmcmpmgjionfnaa.tm.TB.fr b1_9.out HF10.out (by omega) (by omega))
  clear b1_9
  have b2_10 := Lib.hid (Go.Proofs.Ytmcmpmgjionfnaa.tm.TB.fr b2_9.out HF10.out (by omega) (by omega))
  clear b2_9
  have s1_10 := Lib.hid (s1_9.out.fr HF10.out (by omega) (by omega))
  clear s1_9
  have s2m_10 := Lib.hid (s2m_9.out.fr HF10.out (by omega) (by omega))
  clear s2m_9
  have s3_10 := Lib.hid (s3_9.out.fr HF10.out (by omega) (by omega))
  clear s3_9
  clear b0c0 b0c1 b0c2 b0c3 b0c4 b0c5 b0c6 b0c7 b0c8 b0L
  obtain ⟨b1c0, b1c1, b1c2, b1c3, b1c4, b1c5, b1c6, b1c7, b1c8⟩ := b1_10.out
  have b1L : W3.heap.size < W10.heap.size := by omega
  go_wp2_with fail
  refine (Go.Proofs.Ytmcmpmgjionfnaa.tm.held_tx q1 (by omega) (by omega) s2m_10.out (by omega)).mono ?_
  rintro e W11 ⟨rfl, hb⟩
  rw [← Hs2C.out]
  have HB11 : Hid (Below w.heap.size w W11) := Lib.hid (HB10.out.trans (hb.mono HB10.out.size))
  have HF11 : Hid (FR 0 0 W10 W11) := Lib.hid (FR.of_below hb)
  have hs11 : W10.heap.size ≤ W11.heap.size := hb.size
  clear hb
  have b0_11 := Lib.hid (Go.Proofs.Ytmcmpmgjionfnaa.tm.TB.fr b0_10.out HF11.out (by omega) (by omega))
  clear b0_10
  have b1_11 := Lib.hid (Go.Proofs.Ytmcmpmgjionfnaa.tm.TB.fr b1_10.out HF11.out (by omega) (by omega))
  clear b1_10
  have b2_11 := Lib.hid (Go.Proofs.Ytmcmpmgjionfnaa.tm.TB.fr b2_10.out HF11.out (by omega) (by omega))
  clear b2_10
  have s1_11 := Lib.hid (s1_10.out.fr HF11.out (by omega) (by omega))
  clear s1_10
  have s2m_11 := Lib.hid (s2m_10.out.fr HF11.out (by omega) (by omega))
  clear s2m_10
  have s3_11 := Lib.hid (s3_10.out.fr HF11.out (by omega) (by omega))
  clear s3_10
  clear b1c0 b1c1 b1c2 b1c3 b1c4 b1c5 b1c6 b1c7 b1c8 b1L
  go_wp2_with fail
  go_ret
  exact ⟨rfl, HB11.out⟩
/-! ### THE ROW's STEP -/
set_option maxRecDepth 100000 in
theorem lifted (os : Os) (started : os.Started) (H : Type) (enc : TypeId × Value → H) :
    ReturnsInHanded {} Try.checked os 10 .any (Rows.fnExactNewTransactionSpec.pre6 enc Try.prog Try.f10 Rows.fnExactNewTransactionRow.domain false) (Rows.fnExactNewTransactionSpec.post enc Try.prog Try.f10 false true false false) := by
  refine returnsInHanded_of_change (C := Try.checked) own started (by kernel_rfl) Try.func10
    (ChangeSpec.witness6 (enc := enc) (C := Try.checked) false ⟨#[], #[.int .i64 0, .int .i64 0, .int .i64 0], []⟩ 8 (by kernel_rfl) (by kernel_rfl) (by kernel_rfl) (by kernel_rfl)) ?_
  intro W base args ds gs before hval0 hW hcnd _
  have hval : ∀ (j : Nat) t v, Try.f10.params[j]? = some t → args[j]? = some v → Value.okWide Try.prog W .any base t v := hval0
  have hW' := hW
  obtain ⟨pp, qq, hA0, hV, rfl, hfz, hnd⟩ := hW
  have hA : DataW.TrodAll enc Try.prog W 0 (fun _ => true) true Try.f10.params.toList args.toList ds pp := hA0
  rw [Try.params10] at hA hval
  obtain ⟨v0, vs0, dd0, ds0, pp0, qq0, hargs, rfl, rfl, h0, r0⟩ := trodAll_cons hA
  obtain ⟨v1, vs1, dd1, ds1, pp1, qq1, rfl, rfl, rfl, h1, r1⟩ := trodAll_cons r0
  obtain ⟨v2, vs2, dd2, ds2, pp2, qq2, rfl, rfl, rfl, h2, r2⟩ := trodAll_cons r1
  obtain ⟨rfl, rfl, rfl⟩ := trodAll_nil r2
  obtain rfl : args = #[v0, v1, v2] := by cases args; simp_all
  obtain ⟨rfl, rfl⟩ := trodVars_none hV
  obtain ⟨a0, rfl, rfl, rfl, w0⟩ := open_int Try.underlying3 (hval 0 3 v0 rfl rfl) h0
  obtain ⟨a1, rfl, rfl, rfl, w1⟩ := open_int Try.underlying3 (hval 1 3 v1 rfl rfl) h1
  obtain ⟨a2, rfl, rfl, rfl, w2⟩ := open_int Try.underlying3 (hval 2 3 v2 rfl rfl) h2
  clear hA0 hval0
  refine (walk a0 a1 a2 W w0 w1 w2).mono fun e W' ⟨he, bel⟩ => ?_
  subst he
  exact ⟨_, rfl, _, _, _, [], _, [], hW', trodAll_mk1 (shut_bool Try.underlying4 _), (trodAll_cons_mk (shut_int Try.underlying3 w0) (trodAll_cons_mk (shut_int Try.underlying3 w1) (trodAll_cons_mk (shut_int Try.underlying3 w2) trodAll_mk0))), rfl, bel.frame _, fun h => by cases h⟩

theorem over : Rows.fnExactNewTransactionRow.holds Try.pinned (OpenSpec.ofChange Rows.fnExactNewTransactionSpec) :=
  OpenClaim.holds_of_wide 10 Try.f10 rfl rfl rfl rfl rfl rfl rfl ⟨rfl, rfl, rfl, rfl, rfl⟩ rfl rfl rfl rfl rfl (by kernel_rfl) Try.func10 (by kernel_rfl)
    (of_decide_eq_true (by kernel_rfl)) (by unfold Func.isWrapper; first | (rw [if_pos (by decide +kernel)]; kernel_rfl) | (rw [if_neg (by decide +kernel)]; exact ⟨rfl, rfl⟩))
    (fun os started H enc _ => lifted os started H enc)

/-- THE STATEMENT -/
theorem proved : Rows.FnExactNewTransactionSaid := over
#print axioms proved
end Go.Proofs.Ytmcmpmgjionfnaa.fnExactNewTransaction
