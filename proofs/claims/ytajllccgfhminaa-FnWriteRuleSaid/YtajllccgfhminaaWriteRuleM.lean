/- The law on writes answers true at every code that a slice of bytes can hold, and writes nothing that was there. No condition. -/
import Derived.Test.YtajllccgfhminaaDrwM
import Derived.Test.YtajllccgfhminaaWrqM
import Derived.Test.YtajllccgfhminaaTe
import Derived.WalkKit
import Derived.ProofKit
import Derived.OpenShut
import Derived.ShutString
import Derived.ChangeOld
import Derived.Below
import Derived.Carry
import Derived.Lib.Hide
import Derived.StillTailTactics
import Derived.Deep.RegionHeld3
import Derived.Deep.DeepHandedRow
/- FnWriteRule's walk: it answers true at every code, and writes nothing that was there. -/
namespace Go.Proofs.Ytajllccgfhminaa.wr
open Go.ChangeShapes Go.WideShapes Go.ChangeAt Go.RowKit
open Go.Proofs.Ytajllccgfhminaa.el2 Go.Proofs.Ytajllccgfhminaa.tx Go.Proofs.Ytajllccgfhminaa.ap Go.Proofs.Ytajllccgfhminaa.bx Go.Proofs.Ytajllccgfhminaa.ad Go.Proofs.Ytajllccgfhminaa.sf Go.Proofs.Ytajllccgfhminaa.tf Go.Proofs.Ytajllccgfhminaa.te Go.Proofs.Ytajllccgfhminaa.rl
open Go.Proofs.Ytajllccgfhminaa.tv (txB)
open Go.Proofs.Ytajllccgfhminaa.cur (CurAt CodeAt big_no)
open Go.Proofs.Ytajllccgfhminaa.vers (new2)
open Go.Proofs.Ytajllccgfhminaa.sl (Ver)
open Go.Proofs.Ytajllccgfhminaa.st (Rs)
set_option linter.unusedVariables false
set_option linter.unusedSimpArgs false
set_option maxRecDepth 100000 in
set_option maxHeartbeats 12800000 in
theorem core (a : Option Addr) (len cap : Nat) (w : World) (hl : len ≤ 1048576) (hcode : CodeAt w w.heap.size a len) :
    Calls Try.prog 4 #[.slice a len cap] w fun e w' => e = .returned (.bool true) ∧ Below w.heap.size w w' := by
  have BIG := Lib.hid (big_no a len cap w (by omega))
  have HT := Lib.hid (Go.Proofs.Ytajllccgfhminaa.dtw.draw_tw a len cap w hl hcode)
  clear hcode
  go_enter Try.func4, Try.ntmps4
  go_wp2_with fail
  refine BIG.out.mono ?_
  rintro e w' ⟨rfl, rfl⟩
  clear BIG
  go_wp2_with fail
  refine HT.out.mono ?_
  rintro e W1 ⟨D, N, cN, C, x, A, n, c, R, A2, n2, c2, S, k, v, rfl, hN, hn, hn2, hrs, hown, hb1⟩
  have hof := own_form hown.2
  clear HT
  have hnn := new2 W1 (.cells #[.slice D N cN] 40) (.cells #[.int .i64 x.i, .int .i64 x.s, .int .i64 x.t, .int .i64 x.b, .int .i64 x.l, .int .i64 x.h, .int .i64 x.c, .slice A n c, .slice A2 n2 c2] 27)
  have b4 : Bo ((W1.alloc (.cells #[.slice D N cN] 40)).alloc (.cells #[.int .i64 x.i, .int .i64 x.s, .int .i64 x.t, .int .i64 x.b, .int .i64 x.l, .int .i64 x.h, .int .i64 x.c, .slice A n c, .slice A2 n2 c2] 27)) w.heap.size (W1.heap.size + 1) x A n c R A2 n2 c2 S := ⟨by have := Bx.new (W1.alloc (.cells #[.slice D N cN] 40)) x (.slice A n c) (.slice A2 n2 c2); rw [show (W1.alloc (.cells #[.slice D N cN] 40)).heap.size = W1.heap.size + 1 by simp] at this; exact this, hown.keep hnn, by have := hb1.size; omega⟩
  have st := Go.Proofs.Ytajllccgfhminaa.st.up (.cells #[.int .i64 x.i, .int .i64 x.s, .int .i64 x.t, .int .i64 x.b, .int .i64 x.l, .int .i64 x.h, .int .i64 x.c, .slice A n c, .slice A2 n2 c2] 27) (Go.Proofs.Ytajllccgfhminaa.st.one_cell W1 (.slice D N cN) 40) (by simp)
  have rs := hrs.below hnn
  have hb2 := hb1.trans (hnn.mono hb1.size)
  have hlb : W1.heap.size + 2 ≤ ((W1.alloc (.cells #[.slice D N cN] 40)).alloc (.cells #[.int .i64 x.i, .int .i64 x.s, .int .i64 x.t, .int .i64 x.b, .int .i64 x.l, .int .i64 x.h, .int .i64 x.c, .slice A n c, .slice A2 n2 c2] 27)).heap.size := by simp
  clear hown hnn hrs hb1
  obtain ⟨t0, t1, t2, t3, t4, t5, t6, t7, t8⟩ := b4.bx.tb
  go_wp2_with fail
  clear t0 t1 t2 t3 t4 t5 t6 t7 t8
  generalize hsb : W1.heap.size = sb at b4 st rs hlb ⊢
  generalize (W1.alloc _).alloc _ = W2 at b4 st rs hb2 hlb ⊢
  have B4 := Lib.hid b4
  have STT := Lib.hid st
  have RS := Lib.hid (rs.more (show sb ≤ W2.heap.size by omega))
  have HB2 := Lib.hid hb2
  have HF := Lib.hid b4.vs
  have HG := Lib.hid (Bo.vs2 b4)
  have hSl : S.length = n2 := Bo.len2 b4
  clear b4 st rs hb2 hsb
  obtain ⟨q1, hq1⟩ : ∃ q, Go.Proofs.Ytajllccgfhminaa.tw.twX C x R S k v = q := ⟨_, rfl⟩
  obtain ⟨qS, hqS⟩ : ∃ q, Go.Proofs.Ytajllccgfhminaa.tw.twS C x R S k v = q := ⟨_, rfl⟩
  obtain ⟨q2, hq2⟩ : ∃ q, Go.Proofs.Ytajllccgfhminaa.tw.twB C x R S k v = q := ⟨_, rfl⟩
  obtain ⟨nq, hnq⟩ : ∃ j, qS.length = j := ⟨_, rfl⟩
  have bq : nq ≤ n2 ∨ nq ≤ 7 := by have := Go.Proofs.Ytajllccgfhminaa.twm.twS_max C x R S k v; rw [hqS] at this; omega
  have HQ1 := Lib.hid hq1
  have HQS := Lib.hid hqS
  have HQ2 := Lib.hid hq2
  have HNQ := Lib.hid hnq
  clear hq1 hqS hq2 hnq hSl
  refine (Go.Proofs.Ytajllccgfhminaa.tw.impl_tw x k v (by omega) (by omega) (by omega) (HF.out) (HG.out) (RS.out) (Nat.le_refl _)).mono ?_
  rintro e W3 ⟨A7, c7, E7, f7, he, ho, hb⟩
  rw [HQ1.out, HQS.out, HNQ.out, HQ2.out] at he
  rw [HQS.out, HNQ.out] at ho
  subst he
  have hnn := new1 W3 (.cells #[.int .i64 q1.i, .int .i64 q1.s, .int .i64 q1.t, .int .i64 q1.b, .int .i64 q1.l, .int .i64 q1.h, .int .i64 q1.c, .slice A7 n c7, .slice E7 nq f7] 27)
  have hbn := hb.trans (hnn.mono hb.size)
  have b7 : Bo (W3.alloc (.cells #[.int .i64 q1.i, .int .i64 q1.s, .int .i64 q1.t, .int .i64 q1.b, .int .i64 q1.l, .int .i64 q1.h, .int .i64 q1.c, .slice A7 n c7, .slice E7 nq f7] 27)) W2.heap.size W3.heap.size q1 A7 n c7 R E7 nq f7 qS := ⟨Bx.new W3 q1 _ _, ho.keep hnn, hb.size⟩
  have hbw : Below W2.heap.size W2 (W3.alloc (.cells #[.int .i64 q1.i, .int .i64 q1.s, .int .i64 q1.t, .int .i64 q1.b, .int .i64 q1.l, .int .i64 q1.h, .int .i64 q1.c, .slice A7 n c7, .slice E7 nq f7] 27)) := hbn
  have hzz := hb.size
  have st := (hbw.cell (p := ⟨sb, 0, none⟩) (by simp only; omega)).trans STT.out
  obtain ⟨t0, t1, t2, t3, t4, t5, t6, t7, t8⟩ := B4.out.bx.tb.keep B4.out.lt hbw
  have hlz : W3.heap.size < (W3.alloc (.cells #[.int .i64 q1.i, .int .i64 q1.s, .int .i64 q1.t, .int .i64 q1.b, .int .i64 q1.l, .int .i64 q1.h, .int .i64 q1.c, .slice A7 n c7, .slice E7 nq f7] 27)).heap.size := by simp
  clear ho hb hnn hbn
  try go_wp2_with fail
  clear t0 t1 t2 t3 t4 t5 t6 t7 t8
  clear st
  generalize hbb : W3.heap.size = b7n at b7 hzz hlz ⊢
  generalize W3.alloc _ = W4 at b7 hbw hlz ⊢
  clear hbb
  have HBW := Lib.hid hbw
  have B7 := Lib.hid b7
  clear hbw b7
  refine (Go.Proofs.Ytajllccgfhminaa.tw.spec_tw x k v (by omega) (by omega) (by omega) (HF.out.below HBW.out) (HG.out.below HBW.out) (RS.out.below HBW.out) HBW.out.size hof.1 hof.2).mono ?_
  rintro e W5 ⟨A9, c9, E9, f9, he, ho, hb⟩
  rw [HQ1.out, HQS.out, HNQ.out, HQ2.out] at he
  rw [HQS.out, HNQ.out] at ho
  subst he
  have hnn := new1 W5 (.cells #[.int .i64 q1.i, .int .i64 q1.s, .int .i64 q1.t, .int .i64 q1.b, .int .i64 q1.l, .int .i64 q1.h, .int .i64 q1.c, .slice A9 n c9, .slice E9 nq f9] 27)
  have hbn := hb.trans (hnn.mono hb.size)
  have b9 : Bo (W5.alloc (.cells #[.int .i64 q1.i, .int .i64 q1.s, .int .i64 q1.t, .int .i64 q1.b, .int .i64 q1.l, .int .i64 q1.h, .int .i64 q1.c, .slice A9 n c9, .slice E9 nq f9] 27)) W4.heap.size W5.heap.size q1 A9 n c9 R E9 nq f9 qS := ⟨Bx.new W5 q1 _ _, ho.keep hnn, hb.size⟩
  have hbw : Below W2.heap.size W2 (W5.alloc (.cells #[.int .i64 q1.i, .int .i64 q1.s, .int .i64 q1.t, .int .i64 q1.b, .int .i64 q1.l, .int .i64 q1.h, .int .i64 q1.c, .slice A9 n c9, .slice E9 nq f9] 27)) := HBW.out.trans (hbn.mono HBW.out.size)
  have hzz := hb.size
  have b7 := B7.out.keep hbn
  have st := (hbw.cell (p := ⟨sb, 0, none⟩) (by simp only; omega)).trans STT.out
  obtain ⟨t0, t1, t2, t3, t4, t5, t6, t7, t8⟩ := B4.out.bx.tb.keep B4.out.lt hbw
  have hlz : W5.heap.size < (W5.alloc (.cells #[.int .i64 q1.i, .int .i64 q1.s, .int .i64 q1.t, .int .i64 q1.b, .int .i64 q1.l, .int .i64 q1.h, .int .i64 q1.c, .slice A9 n c9, .slice E9 nq f9] 27)).heap.size := by simp
  obtain ⟨r0, r1, r2, r3, r4, r5, r6, r7, r8⟩ := b7.bx.tb
  obtain ⟨s0, s1, s2, s3, s4, s5, s6, s7, s8⟩ := b9.bx.tb
  clear ho hb hnn hbn
  try go_wp2_with fail
  generalize hbb : W5.heap.size = b9n at b9 hzz hlz s0 s1 s2 s3 s4 s5 s6 s7 s8 ⊢
  generalize W5.alloc _ = W6 at b9 hbw hlz b7 st t0 t1 t2 t3 t4 t5 t6 t7 t8 r0 r1 r2 r3 r4 r5 r6 r7 r8 s0 s1 s2 s3 s4 s5 s6 s7 s8 ⊢
  clear hbb HBW B7
  have HBW := Lib.hid hbw
  have B9 := Lib.hid b9
  have B7 := Lib.hid b7
  clear hbw b9 b7
  have HEQ : Hid (eqT q1 R qS q1 R qS = true) := Lib.hid (eqT_yes ⟨rfl, rfl, rfl⟩)
  obtain ⟨ql, hql⟩ : ∃ q, Go.Proofs.Ytajllccgfhminaa.rl.rlI C x R S = q := ⟨_, rfl⟩
  obtain ⟨qk, hqk⟩ : ∃ q, Go.Proofs.Ytajllccgfhminaa.wk.wkL x R S = q := ⟨_, rfl⟩
  obtain ⟨nk, hnk⟩ : ∃ j, qk.length = j := ⟨_, rfl⟩
  have hSl : S.length = n2 := Bo.len2 B4.out
  have bk : nk ≤ n2 := by have := Go.Proofs.Ytajllccgfhminaa.wk.wkL_len x R S; rw [hqk] at this; omega
  have HQL := Lib.hid hql
  have HQK := Lib.hid hqk
  have HNK := Lib.hid hnk
  clear hql hqk hnk hSl
  have hbk0 : Below W2.heap.size W2 W6.drew := HBW.out.drew
  have hbr0 : Below W6.heap.size W6 W6.drew := (Below.refl _ _).drew
  have hb4 := B4.out.lt
  have hb7 := B7.out.lt
  have hb9 := B9.out.lt
  have hsw := HBW.out.size
  go_region_held3 (fun w' => w'.cell? ⟨sb, 0, none⟩ = some (.slice D N cN) ∧ w'.cell? ⟨sb + 1, 0, none⟩ = some (.int .i64 x.i) ∧ w'.cell? ⟨sb + 1, 1, none⟩ = some (.int .i64 x.s) ∧ w'.cell? ⟨sb + 1, 2, none⟩ = some (.int .i64 x.t) ∧ w'.cell? ⟨sb + 1, 3, none⟩ = some (.int .i64 x.b) ∧ w'.cell? ⟨sb + 1, 4, none⟩ = some (.int .i64 x.l) ∧ w'.cell? ⟨sb + 1, 5, none⟩ = some (.int .i64 x.h) ∧ w'.cell? ⟨sb + 1, 6, none⟩ = some (.int .i64 x.c) ∧ w'.cell? ⟨sb + 1, 7, none⟩ = some (.slice A n c) ∧ w'.cell? ⟨sb + 1, 8, none⟩ = some (.slice A2 n2 c2) ∧ w'.cell? ⟨b7n, 0, none⟩ = some (.int .i64 q1.i) ∧ w'.cell? ⟨b7n, 1, none⟩ = some (.int .i64 q1.s) ∧ w'.cell? ⟨b7n, 2, none⟩ = some (.int .i64 q1.t) ∧ w'.cell? ⟨b7n, 3, none⟩ = some (.int .i64 q1.b) ∧ w'.cell? ⟨b7n, 4, none⟩ = some (.int .i64 q1.l) ∧ w'.cell? ⟨b7n, 5, none⟩ = some (.int .i64 q1.h) ∧ w'.cell? ⟨b7n, 6, none⟩ = some (.int .i64 q1.c) ∧ w'.cell? ⟨b7n, 7, none⟩ = some (.slice A7 n c7) ∧ w'.cell? ⟨b7n, 8, none⟩ = some (.slice E7 nq f7) ∧ w'.cell? ⟨b9n, 0, none⟩ = some (.int .i64 q1.i) ∧ w'.cell? ⟨b9n, 1, none⟩ = some (.int .i64 q1.s) ∧ w'.cell? ⟨b9n, 2, none⟩ = some (.int .i64 q1.t) ∧ w'.cell? ⟨b9n, 3, none⟩ = some (.int .i64 q1.b) ∧ w'.cell? ⟨b9n, 4, none⟩ = some (.int .i64 q1.l) ∧ w'.cell? ⟨b9n, 5, none⟩ = some (.int .i64 q1.h) ∧ w'.cell? ⟨b9n, 6, none⟩ = some (.int .i64 q1.c) ∧ w'.cell? ⟨b9n, 7, none⟩ = some (.slice A9 n c9) ∧ w'.cell? ⟨b9n, 8, none⟩ = some (.slice E9 nq f9)) (go_keep) (first | (go_at_call 13; (with_reducible refine (Go.Proofs.Ytajllccgfhminaa.te.impl_eqtx q1 q1 (by omega) (by omega) (by omega) (by omega) (B7.out.vs.below hbr0) ((Bo.vs2 B7.out).below hbr0) (B9.out.vs.below hbr0) ((Bo.vs2 B9.out).below hbr0) hbr0.size).mono ?_); rintro e X1 ⟨he, hb'⟩; rw [HEQ.out] at he; subst he; have hbk1 := hbk0.trans (hb'.mono hbk0.size); have hbr1 := hbr0.trans (hb'.mono hbr0.size); have uu1 := (hbk1.cell (p := ⟨sb, 0, none⟩) (by simp only; omega)).trans STT.out; obtain ⟨ta1x0, ta1x1, ta1x2, ta1x3, ta1x4, ta1x5, ta1x6, ta1x7, ta1x8⟩ := B4.out.bx.tb.keep hb4 hbk1; obtain ⟨tb1x0, tb1x1, tb1x2, tb1x3, tb1x4, tb1x5, tb1x6, tb1x7, tb1x8⟩ := B7.out.bx.tb.keep hb7 hbr1; obtain ⟨tc1x0, tc1x1, tc1x2, tc1x3, tc1x4, tc1x5, tc1x6, tc1x7, tc1x8⟩ := B9.out.bx.tb.keep hb9 hbr1) | (go_at_call 26; (with_reducible refine (Go.Proofs.Ytajllccgfhminaa.rl.impl_rl x (by omega) (by omega) (by omega) (HF.out.below hbk1) (HG.out.below hbk1) (RS.out.below hbk1) hbk1.size).mono ?_); rintro e X2 ⟨he, hb'⟩; rw [HQL.out] at he; subst he; have hbk2 := hbk1.trans (hb'.mono hbk1.size); have hbr2 := hbr1.trans (hb'.mono hbr1.size); have uu2 := (hbk2.cell (p := ⟨sb, 0, none⟩) (by simp only; omega)).trans STT.out; obtain ⟨ta2x0, ta2x1, ta2x2, ta2x3, ta2x4, ta2x5, ta2x6, ta2x7, ta2x8⟩ := B4.out.bx.tb.keep hb4 hbk2; obtain ⟨tb2x0, tb2x1, tb2x2, tb2x3, tb2x4, tb2x5, tb2x6, tb2x7, tb2x8⟩ := B7.out.bx.tb.keep hb7 hbr2; obtain ⟨tc2x0, tc2x1, tc2x2, tc2x3, tc2x4, tc2x5, tc2x6, tc2x7, tc2x8⟩ := B9.out.bx.tb.keep hb9 hbr2) | (go_at_call 27; (with_reducible refine (Go.Proofs.Ytajllccgfhminaa.rl.spec_rl x (by omega) (by omega) (by omega) (HF.out.below hbk2) (HG.out.below hbk2) (RS.out.below hbk2) hbk2.size).mono ?_); rintro e X3 ⟨he, hb'⟩; rw [HQL.out] at he; subst he; have hbk3 := hbk2.trans (hb'.mono hbk2.size); have hbr3 := hbr2.trans (hb'.mono hbr2.size); have uu3 := (hbk3.cell (p := ⟨sb, 0, none⟩) (by simp only; omega)).trans STT.out; obtain ⟨ta3x0, ta3x1, ta3x2, ta3x3, ta3x4, ta3x5, ta3x6, ta3x7, ta3x8⟩ := B4.out.bx.tb.keep hb4 hbk3; obtain ⟨tb3x0, tb3x1, tb3x2, tb3x3, tb3x4, tb3x5, tb3x6, tb3x7, tb3x8⟩ := B7.out.bx.tb.keep hb7 hbr3; obtain ⟨tc3x0, tc3x1, tc3x2, tc3x3, tc3x4, tc3x5, tc3x6, tc3x7, tc3x8⟩ := B9.out.bx.tb.keep hb9 hbr3) | (go_at_call 29; (with_reducible refine (Go.Proofs.Ytajllccgfhminaa.wk.impl_wk x (by omega) (by omega) (HF.out.below hbk3) (HG.out.below hbk3) hbk3.size).mono ?_); rintro e X4 ⟨K4, kc4, he, hko4, hb'⟩; rw [HQK.out, HNK.out] at he hko4; subst he; have is4 := (Go.Proofs.Ytajllccgfhminaa.owi.OwI.of_own (lo := 0) hko4 HNK.out (Nat.zero_le _) (Nat.le_refl _)).is (Nat.le_refl _); have hbk4 := hbk3.trans (hb'.mono hbk3.size); have hbr4 := hbr3.trans (hb'.mono hbr3.size); have uu4 := (hbk4.cell (p := ⟨sb, 0, none⟩) (by simp only; omega)).trans STT.out; obtain ⟨ta4x0, ta4x1, ta4x2, ta4x3, ta4x4, ta4x5, ta4x6, ta4x7, ta4x8⟩ := B4.out.bx.tb.keep hb4 hbk4; obtain ⟨tb4x0, tb4x1, tb4x2, tb4x3, tb4x4, tb4x5, tb4x6, tb4x7, tb4x8⟩ := B7.out.bx.tb.keep hb7 hbr4; obtain ⟨tc4x0, tc4x1, tc4x2, tc4x3, tc4x4, tc4x5, tc4x6, tc4x7, tc4x8⟩ := B9.out.bx.tb.keep hb9 hbr4) | (go_at_call 30; (with_reducible refine (Go.Proofs.Ytajllccgfhminaa.wk.spec_wk x (by omega) (by omega) (HF.out.below hbk4) (HG.out.below hbk4) hbk4.size).mono ?_); rintro e X5 ⟨K5, kc5, he, hko5, hb'⟩; rw [HQK.out, HNK.out] at he hko5; subst he; have is5 := (Go.Proofs.Ytajllccgfhminaa.owi.OwI.of_own (lo := 0) hko5 HNK.out (Nat.zero_le _) (Nat.le_refl _)).is (Nat.le_refl _); have is4b := (is4.below hb').more hb'.size; have hbk5 := hbk4.trans (hb'.mono hbk4.size); have hbr5 := hbr4.trans (hb'.mono hbr4.size); have uu5 := (hbk5.cell (p := ⟨sb, 0, none⟩) (by simp only; omega)).trans STT.out; obtain ⟨ta5x0, ta5x1, ta5x2, ta5x3, ta5x4, ta5x5, ta5x6, ta5x7, ta5x8⟩ := B4.out.bx.tb.keep hb4 hbk5; obtain ⟨tb5x0, tb5x1, tb5x2, tb5x3, tb5x4, tb5x5, tb5x6, tb5x7, tb5x8⟩ := B7.out.bx.tb.keep hb7 hbr5; obtain ⟨tc5x0, tc5x1, tc5x2, tc5x3, tc5x4, tc5x5, tc5x6, tc5x7, tc5x8⟩ := B9.out.bx.tb.keep hb9 hbr5) | (go_at_call 28; (with_reducible refine (Go.Proofs.Ytajllccgfhminaa.wrm.same_ints (by omega) is4b is5 (Nat.le_refl _)).mono ?_); rintro e X6 ⟨he, hb'⟩; subst he; have hbk6 := hbk5.trans (hb'.mono hbk5.size); have hbr6 := hbr5.trans (hb'.mono hbr5.size); have uu6 := (hbk6.cell (p := ⟨sb, 0, none⟩) (by simp only; omega)).trans STT.out; obtain ⟨ta6x0, ta6x1, ta6x2, ta6x3, ta6x4, ta6x5, ta6x6, ta6x7, ta6x8⟩ := B4.out.bx.tb.keep hb4 hbk6; obtain ⟨tb6x0, tb6x1, tb6x2, tb6x3, tb6x4, tb6x5, tb6x6, tb6x7, tb6x8⟩ := B7.out.bx.tb.keep hb7 hbr6; obtain ⟨tc6x0, tc6x1, tc6x2, tc6x3, tc6x4, tc6x5, tc6x6, tc6x7, tc6x8⟩ := B9.out.bx.tb.keep hb9 hbr6))
  have HBR := Lib.hid hbr6
  have HBK := Lib.hid hbk6
  have hz6 : W6.heap.size ≤ X6.heap.size := hbr6.size
  clear t0 t1 t2 t3 t4 t5 t6 t7 t8 r0 r1 r2 r3 r4 r5 r6 r7 r8 s0 s1 s2 s3 s4 s5 s6 s7 s8 ta1x0 ta1x1 ta1x2 ta1x3 ta1x4 ta1x5 ta1x6 ta1x7 ta1x8 ta2x0 ta2x1 ta2x2 ta2x3 ta2x4 ta2x5 ta2x6 ta2x7 ta2x8 ta3x0 ta3x1 ta3x2 ta3x3 ta3x4 ta3x5 ta3x6 ta3x7 ta3x8 ta4x0 ta4x1 ta4x2 ta4x3 ta4x4 ta4x5 ta4x6 ta4x7 ta4x8 ta5x0 ta5x1 ta5x2 ta5x3 ta5x4 ta5x5 ta5x6 ta5x7 ta5x8 ta6x0 ta6x1 ta6x2 ta6x3 ta6x4 ta6x5 ta6x6 ta6x7 ta6x8 tb1x0 tb1x1 tb1x2 tb1x3 tb1x4 tb1x5 tb1x6 tb1x7 tb1x8 tb2x0 tb2x1 tb2x2 tb2x3 tb2x4 tb2x5 tb2x6 tb2x7 tb2x8 tb3x0 tb3x1 tb3x2 tb3x3 tb3x4 tb3x5 tb3x6 tb3x7 tb3x8 tb4x0 tb4x1 tb4x2 tb4x3 tb4x4 tb4x5 tb4x6 tb4x7 tb4x8 tb5x0 tb5x1 tb5x2 tb5x3 tb5x4 tb5x5 tb5x6 tb5x7 tb5x8 tb6x0 tb6x1 tb6x2 tb6x3 tb6x4 tb6x5 tb6x6 tb6x7 tb6x8 tc1x0 tc1x1 tc1x2 tc1x3 tc1x4 tc1x5 tc1x6 tc1x7 tc1x8 tc2x0 tc2x1 tc2x2 tc2x3 tc2x4 tc2x5 tc2x6 tc2x7 tc2x8 tc3x0 tc3x1 tc3x2 tc3x3 tc3x4 tc3x5 tc3x6 tc3x7 tc3x8 tc4x0 tc4x1 tc4x2 tc4x3 tc4x4 tc4x5 tc4x6 tc4x7 tc4x8 tc5x0 tc5x1 tc5x2 tc5x3 tc5x4 tc5x5 tc5x6 tc5x7 tc5x8 tc6x0 tc6x1 tc6x2 tc6x3 tc6x4 tc6x5 tc6x6 tc6x7 tc6x8
  clear st uu1 hbk1 hbr1 uu2 hbk2 hbr2 uu3 hbk3 hbr3 uu4 hbk4 hbr4 uu5 hbk5 hbr5 uu6 hbk6 hbr6 hbk0 hbr0 hko4 hko5 is4 is5 is4b
  have HEND := Lib.hid (HB2.out.trans (HBK.out.mono HB2.out.size))
  cases q2
  · try go_wp2_with fail
    go_ret
    exact ⟨rfl, HEND.out⟩
  have HRV := Lib.hid (Go.Proofs.Ytajllccgfhminaa.wrm.tw_read HQ2.out)
  have HVAL := Lib.hid (Go.Proofs.Ytajllccgfhminaa.wrm.tw_valid HQ2.out)
  have hrl := Go.Proofs.Ytajllccgfhminaa.wrm.rl_parts (Go.Proofs.Ytajllccgfhminaa.wrm.tw_parts HQ2.out).1
  have HST := Lib.hid hrl.1
  have hk0 := hrl.2.1
  have hk5 := hrl.2.2
  have H6 : Hid (N = 6) := Lib.hid (by have h6 := Go.Proofs.Ytajllccgfhminaa.val.st_six hrl.1; rw [RS.out.1] at h6; exact h6)
  clear hrl
  have HRV2 := Lib.hid (show _ ∧ _ from (by have h := HRV.out; rw [HQ1.out, HQS.out] at h; exact h))
  have HVAL2 := Lib.hid (by have h := HVAL.out; rw [HQ1.out, HQS.out] at h; exact h : txB q1 R qS = true)
  clear HRV HVAL
  have st := (HBK.out.cell (p := ⟨sb, 0, none⟩) (by simp only; omega)).trans STT.out
  obtain ⟨r0, r1, r2, r3, r4, r5, r6, r7, r8⟩ := B7.out.bx.tb.keep hb7 HBR.out
  try go_wp2_with fail
  refine (Go.Proofs.Ytajllccgfhminaa.rv.impl_rv q1 k 0 (by omega) (by omega) (by omega) (B7.out.vs.below HBR.out) ((Bo.vs2 B7.out).below HBR.out) ((RS.out.below HBK.out).more (show W2.heap.size ≤ W6.heap.size by omega)) HBR.out.size).mono ?_
  rintro e X7 ⟨he, hb⟩
  rw [HRV2.out.1, HRV2.out.2] at he
  subst he
  have HBR7 := Lib.hid (HBR.out.trans (hb.mono HBR.out.size))
  have HBK7 := Lib.hid (HBK.out.trans (hb.mono HBK.out.size))
  clear hb st
  clear r0 r1 r2 r3 r4 r5 r6 r7 r8
  have st := (HBK7.out.cell (p := ⟨sb, 0, none⟩) (by simp only; omega)).trans STT.out
  obtain ⟨r0, r1, r2, r3, r4, r5, r6, r7, r8⟩ := B7.out.bx.tb.keep hb7 HBR7.out
  go_wp2_with fail
  obtain ⟨qo, hqo⟩ : ∃ q, Go.Proofs.Ytajllccgfhminaa.ov.ovL C q1 R qS = q := ⟨_, rfl⟩
  have hqm : qo = qS.map (Go.Proofs.Ytajllccgfhminaa.ov.ovM C) := by rw [← hqo]; have h := Go.Proofs.Ytajllccgfhminaa.wrm.tw_both HQ2.out; rw [HQ1.out, HQS.out] at h; exact h
  have hno : qo.length = nq := by rw [hqm, List.length_map]; exact HNQ.out
  have HQO := Lib.hid hqo
  have HQM := Lib.hid hqm
  have HNO := Lib.hid hno
  clear hqo hqm hno
  refine (Go.Proofs.Ytajllccgfhminaa.ov.impl_ov q1 (by omega) (by omega) (by omega) (B7.out.vs.below HBR7.out) ((Bo.vs2 B7.out).below HBR7.out) ((RS.out.below HBK7.out).more (show W2.heap.size ≤ W6.heap.size by omega)) HBR7.out.size).mono ?_
  rintro e X8 ⟨L8, lc8, he, ho8, hb⟩
  rw [HQO.out, HNO.out] at he ho8
  subst he
  obtain ⟨L8x, lc8x, e8, v8l, _⟩ := own_vs ho8 HNO.out
  injection e8 with e8 _ e8c
  subst e8 e8c
  have VL := Lib.hid v8l
  have HBR8 := Lib.hid (HBR7.out.trans (hb.mono HBR7.out.size))
  have HBK8 := Lib.hid (HBK7.out.trans (hb.mono HBK7.out.size))
  clear v8l ho8 hb st
  clear r0 r1 r2 r3 r4 r5 r6 r7 r8
  have HE8 := Lib.hid (HB2.out.trans (HBK8.out.mono HB2.out.size))
  have VW := Lib.hid ((Bo.vs2 B7.out).below HBR8.out)
  obtain ⟨r0, r1, r2, r3, r4, r5, r6, r7, r8⟩ := B7.out.bx.tb.keep hb7 HBR8.out
  have hz8 : W6.heap.size ≤ X8.heap.size := HBR8.out.size
  go_wp2_with fail
  clear r0 r1 r2 r3 r4 r5 r6 r7 r8
  go_loopw [14] (fun i wr => ∃ j : Nat, j ≤ nq ∧ i = .int .i64 j ∧ Below X8.heap.size X8 wr) (fun i _ => nq - (intOf i).toNat)
  case atStart => exact ⟨0, by omega, rfl, Below.refl _ _⟩
  case round =>
    obtain ⟨j, hj, rfl, hbr⟩ := hrel
    have HBX := Lib.hid hbr
    have HBRW := Lib.hid (HBR8.out.trans (hbr.mono (show W6.heap.size ≤ X8.heap.size by omega)))
    have HBKW := Lib.hid (HBK8.out.trans (hbr.mono (show W2.heap.size ≤ X8.heap.size by omega)))
    have hzw := hbr.size
    clear hbr
    by_cases hlt : j < nq
    · have tj : decide ((j : Int) < (nq : Int)) = true := decide_eq_true (by omega)
      obtain ⟨r0, r1, r2, r3, r4, r5, r6, r7, r8⟩ := B7.out.bx.tb.keep hb7 HBRW.out
      obtain ⟨g1, o1, y1, rfl, hg1, hy1, a0, a1⟩ := (VL.out.below HBX.out).at_ hlt
      obtain ⟨g2, o2, y, rfl, hg2, hy, b0, b1⟩ := (VW.out.below (show Below W6.heap.size X8 wr from below_le HBX.out hz8)).at_ hlt
      obtain rfl : y1 = Go.Proofs.Ytajllccgfhminaa.ov.ovM C y := by rw [HQM.out, List.getElem?_map, hy] at hy1; exact (Option.some.inj hy1).symm
      have hyk := Go.Proofs.Ytajllccgfhminaa.rl.wkey_of HVAL2.out hy
      have s1 : 0 ≤ y.a := hyk.1
      have s3 : y.a < (N : Int) := by have := hyk.2; have := H6.out; omega
      have s4 : y.a.toNat < N := by omega
      obtain ⟨b2, p2, l, F9, m9, d9, rfl, hb2, hl, d0, hm9, hv⟩ := (RS.out.below HBKW.out).at_ s4
      have HL := Lib.hid hl
      have HV := Lib.hid hv
      obtain ⟨z, hz⟩ : ∃ z, Go.Proofs.Ytajllccgfhminaa.rl.latOf C y = z := ⟨_, rfl⟩
      have HLV : Hid (Go.Proofs.Ytajllccgfhminaa.find.lastV l = z) := Lib.hid (by rw [Go.Proofs.Ytajllccgfhminaa.rl.lat_at HL.out, hz])
      have hm1 : (Go.Proofs.Ytajllccgfhminaa.ov.ovM C y).a = y.a := rfl
      have hm2 : (Go.Proofs.Ytajllccgfhminaa.ov.ovM C y).b = z.c := by rw [← hz]; rfl
      rw [hm1] at a0
      rw [hm2] at a1
      clear hy hy1 hl hv hz hm1 hm2 hyk
      have st := (HBKW.out.cell (p := ⟨sb, 0, none⟩) (by simp only; omega)).trans STT.out
      have hjn : (j : Int) < (nq : Int) := by omega
      have hj0 : (0 : Int) ≤ (j : Int) := by omega
      have tg : (y.a != y.a) = false := by simp
      have tc : (z.c != z.c) = false := by simp
      have A0 := Lib.hid a0
      have A1 := Lib.hid a1
      have C0 := Lib.hid b0
      have D0 := Lib.hid d0
      have R8 := Lib.hid r8
      have SS := Lib.hid st
      have hgr1 : g1 < wr.heap.size := by omega
      have hgr2 : g2 < wr.heap.size := by omega
      have hgb2 : b2 < wr.heap.size := by omega
      have hgs : sb < wr.heap.size := by omega
      have hg7 : b7n < wr.heap.size := by omega
      have hbkr : Below wr.heap.size wr wr.drew := (Below.refl _ _).drew
      have hf := fld2 (.int .i64 z.a) (.int .i64 z.b) (.int .i64 z.c) (.int .i64 z.d) (.int .i64 z.e)
      clear r0 r1 r2 r3 r4 r5 r6 r7 b1
      go_wp2_with fail
      go_region_held3 (fun w' => w'.cell? ⟨sb, 0, none⟩ = some (.slice (some ⟨b2, p2, none⟩) N cN) ∧ w'.cell? ⟨b7n, 8, none⟩ = some (.slice (some ⟨g2, o2, none⟩) nq f7) ∧ w'.cell? ⟨g1, o1 + j * 2, none⟩ = some (.int .i64 y.a) ∧ w'.cell? ⟨g1, o1 + j * 2 + 1, none⟩ = some (.int .i64 z.c) ∧ w'.cell? ⟨g2, o2 + j * 2, none⟩ = some (.int .i64 y.a) ∧ w'.cell? ⟨b2, p2 + y.a.toNat, none⟩ = some (.slice F9 m9 d9)) (go_keep) (first | (go_at_call 33; (with_reducible refine (Go.Proofs.Ytajllccgfhminaa.find.latest_spec HLV.out hm9 ((HV.out.below (below_le hbkr (show W2.heap.size ≤ wr.heap.size by omega))).more (show W2.heap.size ≤ wr.heap.size by omega)) (Nat.le_refl _)).mono ?_); rintro e Wr ⟨he, hb'⟩; subst he; have hbr1 := hbkr.trans (hb'.mono hbkr.size); have k0 := (hbr1.cell (p := ⟨sb, 0, none⟩) hgs).trans SS.out; have k1 := (hbr1.cell (p := ⟨b7n, 8, none⟩) hg7).trans R8.out; have k2 := (hbr1.cell (p := ⟨g1, o1 + j * 2, none⟩) hgr1).trans A0.out; have k3 := (hbr1.cell (p := ⟨g1, o1 + j * 2 + 1, none⟩) hgr1).trans A1.out; have k4 := (hbr1.cell (p := ⟨g2, o2 + j * 2, none⟩) hgr2).trans C0.out; have k5 := (hbr1.cell (p := ⟨b2, p2 + y.a.toNat, none⟩) hgb2).trans D0.out))
      have HBN := Lib.hid (HBX.out.trans (hbr1.mono hzw))
      clear k0 k1 k2 k3 k4 k5 hbkr hbr1 hb' hf a0 a1 b0 d0 r8 st
      try go_wp2_with fail
      go_roundw
      case rel => exact ⟨j + 1, by omega, by go_num, HBN.out⟩
      case measure => simp [intOf]; omega
    · obtain rfl : nq = j := by omega
      have tj : decide ((nq : Int) < (nq : Int)) = false := decide_eq_false (by omega)
      have s3 : k < (N : Int) := by have := H6.out; omega
      have s4 : k.toNat < N := by omega
      obtain ⟨b2, p2, l, F9, m9, d9, rfl, hb2, hl, d0, hm9, hv⟩ := (RS.out.below HBKW.out).at_ s4
      have HV := Lib.hid hv
      obtain ⟨z, hz⟩ : ∃ z, Go.Proofs.Ytajllccgfhminaa.rd.rlV C k = z := ⟨_, rfl⟩
      have HLV : Hid (Go.Proofs.Ytajllccgfhminaa.find.lastV l = z) := Lib.hid (by rw [← hz]; exact (Go.Proofs.Ytajllccgfhminaa.rd.rlV_yes (Go.Proofs.Ytajllccgfhminaa.wrm.tw_parts HQ2.out).1 hl).symm)
      have tl : decide (z.d ≤ q1.l) = true := decide_eq_true (by have h := Go.Proofs.Ytajllccgfhminaa.wrm.tw_low HQ2.out; rw [HQ1.out, hz] at h; exact h)
      have HKEY : Hid (k ∈ Go.Proofs.Ytajllccgfhminaa.wk.wkL q1 R qS) := Lib.hid (by have h := Go.Proofs.Ytajllccgfhminaa.wrm.tw_keys HQ2.out; rw [HQ1.out, HQS.out] at h; exact h)
      obtain ⟨qw, hqw⟩ : ∃ q, Go.Proofs.Ytajllccgfhminaa.wk.wkL q1 R qS = q := ⟨_, rfl⟩
      obtain ⟨nw, hnw⟩ : ∃ j, qw.length = j := ⟨_, rfl⟩
      have bw : nw ≤ nq := by have := Go.Proofs.Ytajllccgfhminaa.wk.wkL_len q1 R qS; rw [hqw] at this; have := HNQ.out; omega
      have HQW := Lib.hid hqw
      have HNW := Lib.hid hnw
      clear hl hv hz hqw hnw
      have st := (HBKW.out.cell (p := ⟨sb, 0, none⟩) (by simp only; omega)).trans STT.out
      obtain ⟨r0, r1, r2, r3, r4, r5, r6, r7, r8⟩ := B7.out.bx.tb.keep hb7 HBRW.out
      have D0 := Lib.hid d0
      have SS := Lib.hid st
      have hgb2 : b2 < wr.heap.size := by omega
      have hgs : sb < wr.heap.size := by omega
      have hbkr : Below wr.heap.size wr wr.drew := (Below.refl _ _).drew
      have hf := fld3 (.int .i64 z.a) (.int .i64 z.b) (.int .i64 z.c) (.int .i64 z.d) (.int .i64 z.e)
      have B7W := Lib.hid (B7.out.keep HBRW.out)
      have hb7w := B7W.out.lt
      go_wp2_with fail
      go_region_held3 (fun w' => w'.cell? ⟨sb, 0, none⟩ = some (.slice (some ⟨b2, p2, none⟩) N cN) ∧ w'.cell? ⟨b2, p2 + k.toNat, none⟩ = some (.slice F9 m9 d9) ∧ w'.cell? ⟨b7n, 0, none⟩ = some (.int .i64 q1.i) ∧ w'.cell? ⟨b7n, 1, none⟩ = some (.int .i64 q1.s) ∧ w'.cell? ⟨b7n, 2, none⟩ = some (.int .i64 q1.t) ∧ w'.cell? ⟨b7n, 3, none⟩ = some (.int .i64 q1.b) ∧ w'.cell? ⟨b7n, 4, none⟩ = some (.int .i64 q1.l) ∧ w'.cell? ⟨b7n, 5, none⟩ = some (.int .i64 q1.h) ∧ w'.cell? ⟨b7n, 6, none⟩ = some (.int .i64 q1.c) ∧ w'.cell? ⟨b7n, 7, none⟩ = some (.slice A7 n c7) ∧ w'.cell? ⟨b7n, 8, none⟩ = some (.slice E7 nq f7)) (go_keep) (first | (go_at_call 33; (with_reducible refine (Go.Proofs.Ytajllccgfhminaa.find.latest_spec HLV.out hm9 ((HV.out.below (below_le hbkr (show W2.heap.size ≤ wr.heap.size by omega))).more (show W2.heap.size ≤ wr.heap.size by omega)) (Nat.le_refl _)).mono ?_); rintro e Y1 ⟨he, hb'⟩; subst he; have hbr1 := hbkr.trans (hb'.mono hbkr.size); have v10x := (hbr1.cell (p := ⟨sb, 0, none⟩) hgs).trans SS.out; have v11x := (hbr1.cell (p := ⟨b2, p2 + k.toNat, none⟩) hgb2).trans D0.out; obtain ⟨td1x0, td1x1, td1x2, td1x3, td1x4, td1x5, td1x6, td1x7, td1x8⟩ := B7W.out.bx.tb.keep hb7w hbr1) | (go_at_call 29; (with_reducible refine (Go.Proofs.Ytajllccgfhminaa.wk.impl_wk q1 (by omega) (by omega) (B7W.out.vs.below hbr1) ((Bo.vs2 B7W.out).below hbr1) hbr1.size).mono ?_); rintro e Y2 ⟨K5, kc5, he, hko5, hb'⟩; rw [HQW.out, HNW.out] at he hko5; subst he; have is5 := (Go.Proofs.Ytajllccgfhminaa.owi.OwI.of_own (lo := 0) hko5 HNW.out (Nat.zero_le _) (Nat.le_refl _)).is (Nat.le_refl _); have hbr2 := hbr1.trans (hb'.mono hbr1.size); have v20x := (hbr2.cell (p := ⟨sb, 0, none⟩) hgs).trans SS.out; have v21x := (hbr2.cell (p := ⟨b2, p2 + k.toNat, none⟩) hgb2).trans D0.out; obtain ⟨td2x0, td2x1, td2x2, td2x3, td2x4, td2x5, td2x6, td2x7, td2x8⟩ := B7W.out.bx.tb.keep hb7w hbr2) | (go_at_call 34; (with_reducible refine (Go.Proofs.Ytajllccgfhminaa.wrm.has_int (by omega) is5 (show k ∈ qw by rw [← HQW.out]; exact HKEY.out) (Nat.le_refl _)).mono ?_); rintro e Y3 ⟨rfl, rfl⟩))
      have HFIN := Lib.hid ((HE8.out.trans (HBX.out.mono HE8.out.size)).trans (hbr2.mono (show w.heap.size ≤ wr.heap.size by have := HE8.out.size; omega)))
      clear r0 r1 r2 r3 r4 r5 r6 r7 r8 td1x0 td1x1 td1x2 td1x3 td1x4 td1x5 td1x6 td1x7 td1x8 td2x0 td2x1 td2x2 td2x3 td2x4 td2x5 td2x6 td2x7 td2x8
      clear v10x v11x v20x v21x hbr1 hbr2 hbkr hf d0 st hko5 is5
      try go_wp2_with fail
      go_ret
      exact ⟨rfl, HFIN.out⟩
end Go.Proofs.Ytajllccgfhminaa.wr
namespace Go.Proofs.Ytajllccgfhminaa.fnWriteRule
open Go.ChangeShapes Go.WideShapes Go.ChangeAt Go.RowKit
open Go.ChangeMaps (open_string shut_string)
open Go.Proofs.Ytajllccgfhminaa.cur
set_option linter.unusedVariables false
theorem own : ownKnob Try.prog.godebug = none := by kernel_rfl
theorem laidOut : laidOutB Try.prog = true := by kernel_rfl
def IsRow (k : IntKind) (w : World) (a : Option Addr) (len cap : Nat) (zs : List Int) : Prop :=
  (a = none ∧ len = 0 ∧ cap = 0 ∧ zs = []) ∨
  ∃ x, a = some x ∧ len ≤ cap ∧ cap ≤ maxLen ∧ zs.length = cap ∧ (∀ i, i < zs.length → w.cell? (x.add i) = some (.int k (zs.getD i 0))) ∧ ∀ n ∈ zs, (Lit.int k n).wf = true
theorem code_of {w : World} {a : Option Addr} {len cap : Nat} {zs : List Int} (h : IsRow .u8 w a len cap zs) : CodeAt w w.heap.size a len := by
  intro j hj
  rcases h with ⟨rfl, rfl, rfl, rfl⟩ | ⟨x, rfl, hl, hm, hz, hcell, hwz⟩
  · omega
  · obtain ⟨cb, off, spot⟩ := x
    have hc := hcell j (by omega)
    have hspot : spot = none := by
      have h0 := hcell 0 (by omega)
      simpa [Addr.add] using World.cell?_spot h0
    subst hspot
    rw [Addr.add_lit] at hc
    have hmem : zs.getD j 0 ∈ zs := by
      rw [List.getD_eq_getElem?_getD, List.getElem?_eq_getElem (show j < zs.length by omega)]
      exact List.getElem_mem _
    have hb := bounds_u8 (hwz _ hmem)
    exact ⟨cb, off, _, rfl, World.block_lt_of_cell? w _ hc, hb.1, hb.2, hc⟩
theorem walk (a : Option Addr) (len cap : Nat) (zs : List Int) (w : World) (h : IsRow .u8 w a len cap zs) :
    Calls Try.prog 4 #[.slice a len cap] w fun e w' => e = .returned (.bool true) ∧ Below w.heap.size w w' := by
  by_cases hbig : 1048576 < len
  · have BIG := Lib.hid (big_yes a len cap w hbig)
    clear h
    go_enter Try.func4, Try.ntmps4
    go_wp2_with fail
    refine BIG.out.mono ?_
    rintro e w' ⟨rfl, rfl⟩
    go_wp2_with fail
    go_ret
    exact ⟨rfl, Below.refl _ _⟩
  · exact Go.Proofs.Ytajllccgfhminaa.wr.core a len cap w (by omega) (code_of h)
/-! ### THE ROW's STEP -/
set_option maxRecDepth 100000 in
theorem lifted (os : Os) (started : os.Started) (H : Type) (enc : TypeId × Value → H) :
    ReturnsInHanded {} Try.checked os 4 .any (Rows.fnWriteRuleSpec.pre6 enc Try.prog Try.f4 Rows.fnWriteRuleRow.domain false) (Rows.fnWriteRuleSpec.post enc Try.prog Try.f4 false true false false) := by
  refine returnsInHanded_of_change (C := Try.checked) own started (by kernel_rfl) Try.func4
    (ChangeSpec.witness6 (enc := enc) (C := Try.checked) false ⟨#[], #[.slice none 0 0], []⟩ 8 (by kernel_rfl) (by kernel_rfl) (by kernel_rfl) (by kernel_rfl)) ?_
  intro W base args ds gs before hval0 hW hcnd _
  have hval : ∀ (j : Nat) t v, Try.f4.params[j]? = some t → args[j]? = some v → Value.okWide Try.prog W .any base t v := hval0
  have hW' := hW
  obtain ⟨p, q, hA0, hV, rfl, hfz, hnd⟩ := hW
  have hA : DataW.TrodAll enc Try.prog W 0 (fun _ => true) true Try.f4.params.toList args.toList ds p := hA0
  rw [Try.params4] at hA hval
  obtain ⟨v0, vs0, d0, ds0, p0, q0, hargs, rfl, rfl, h0, r0⟩ := trodAll_cons hA
  obtain ⟨rfl, rfl, rfl⟩ := trodAll_nil r0
  obtain rfl : args = #[v0] := by cases args; simp_all
  obtain ⟨rfl, rfl⟩ := trodVars_none hV
  obtain ⟨a0, len0, cap0, rfl⟩ := okWide_slice Try.underlying22 (hval 0 22 v0 rfl rfl)
  have k0 := h0
  have lt0 : ∀ x ∈ p0, x.block < W.heap.size := by obtain ⟨m, hm⟩ := k0; exact DataW.trod_lt m _ _ _ hm
  obtain ⟨z0, w0⟩ : ∃ zs, IsRow .u8 W a0 len0 cap0 zs := by
    obtain ⟨fuel, hf⟩ := h0
    rcases open_ints Try.underlying22 Try.underlying5 (by kernel_rfl) hf with ⟨hcs, _⟩ | ⟨x, l, c, zs, hcs, _, hl, hm, hz, _, hcell, hwz⟩
    · simp [Value.cells] at hcs
      obtain ⟨rfl, rfl, rfl⟩ := hcs
      exact ⟨[], .inl ⟨rfl, rfl, rfl, rfl⟩⟩
    · simp [Value.cells] at hcs
      obtain ⟨rfl, rfl, rfl⟩ := hcs
      exact ⟨zs, .inr ⟨_, rfl, hl, hm, by simpa using hz, hcell, hwz⟩⟩
  clear hA0 hval0
  refine (walk a0 len0 cap0 z0 W w0).mono fun e W' ⟨he, bel⟩ => ?_
  subst he
  exact ⟨_, rfl, _, _, _, [], _, [], hW', trodAll_mk1 (shut_bool Try.underlying4 _), (trodAll_cons_mk (Below.trod laidOut (by kernel_rfl) (of_decide_eq_true (by kernel_rfl)) k0 bel lt0) trodAll_mk0), rfl, bel.frame _, fun h => by cases h⟩

theorem over : Rows.fnWriteRuleRow.holds Try.pinned (OpenSpec.ofChange Rows.fnWriteRuleSpec) :=
  OpenClaim.holds_of_wide 4 Try.f4 rfl rfl rfl rfl rfl rfl rfl ⟨rfl, rfl, rfl, rfl, rfl⟩ rfl rfl rfl rfl rfl (by kernel_rfl) Try.func4 (by kernel_rfl)
    (of_decide_eq_true (by kernel_rfl)) (by unfold Func.isWrapper; first | (rw [if_pos (by decide +kernel)]; kernel_rfl) | (rw [if_neg (by decide +kernel)]; exact ⟨rfl, rfl⟩))
    (fun os started H enc _ => lifted os started H enc)

/-- THE STATEMENT -/
theorem proved : Rows.FnWriteRuleSaid := over
#print axioms proved
end Go.Proofs.Ytajllccgfhminaa.fnWriteRule
