/- mayAccess of the program, l12Good of the model, ChooseVersion of both: what each answers; nothing that was there is written. -/
import Derived.Test.YtdfhnngcddaccaaRuc
import Derived.Test.YtdfhnngcddaccaaIa
import Derived.Test.YtdfhnngcddaccaaLka
namespace Go.Proofs.Ytdfhnngcddaccaa.cho
open Go.ChangeShapes Go.WideShapes Go.ChangeAt Go.RowKit
open Go.Proofs.Ytdfhnngcddaccaa.el2 Go.Proofs.Ytdfhnngcddaccaa.tx Go.Proofs.Ytdfhnngcddaccaa.seq Go.Proofs.Ytdfhnngcddaccaa.tv Go.Proofs.Ytdfhnngcddaccaa.rx Go.Proofs.Ytdfhnngcddaccaa.ru Go.Proofs.Ytdfhnngcddaccaa.ruc Go.Proofs.Ytdfhnngcddaccaa.sc
open Go.Proofs.Ytdfhnngcddaccaa.vers (In in_yes in_no in_of in_off ret_b new2 new3)
open Go.Proofs.Ytdfhnngcddaccaa.sl (Ver)
open Go.Proofs.Ytdfhnngcddaccaa.st (Rs)
open Go.Proofs.Ytdfhnngcddaccaa.val (stB)
open Go.Proofs.Ytdfhnngcddaccaa.ia (actB impl_active)
open Go.Proofs.Ytdfhnngcddaccaa.lka (in_q key_q)
open Go.Proofs.Ytdfhnngcddaccaa.find (lastV vAt store5 below5 latest_spec latest_impl)
open Go.Proofs.Ytdfhnngcddaccaa.rd (rlB rlV raB raV ra_yes ra_at raV_yes rlV_yes)
set_option linter.unusedVariables false
set_option linter.unusedSimpArgs false
theorem gd_a {C : List (List Ver)} {x : Hd} {R S : List E2} {k : Int} {q : Bool} (hs : stB C = true) (ha : actB x R S = true) (hk : In 0 5 k = q) : q = gdB C x R S k := by
  simp only [actB, Bool.and_eq_true, decide_eq_true_eq] at ha
  simp [gdB, hs, ha.1, ha.2, hk]
theorem gd_na {C : List (List Ver)} {x : Hd} {R S : List E2} {k : Int} (ha : actB x R S = false) : false = gdB C x R S k := by
  simp only [actB] at ha
  unfold gdB
  rw [Bool.and_assoc (stB C), ha]
  simp
set_option maxRecDepth 100000 in
set_option maxHeartbeats 3200000 in
theorem impl_may {w : World} {B n c n2 c2 N cN : Nat} {A A2 D : Option Addr} {R S : List E2} {C : List (List Ver)} (x : Hd) (k : Int) (hn : n ≤ 1048576) (hn2 : n2 ≤ 1048576) (hN : N ≤ 1048576) (h1 : Vs w B A n R) (h2 : Vs w B A2 n2 S) (h3 : Rs w B D N C) (hB : B ≤ w.heap.size) :
    Calls Try.prog 35 #[.agg #[.slice D N cN], .agg #[.int .i64 x.i, .int .i64 x.s, .int .i64 x.t, .int .i64 x.b, .int .i64 x.l, .int .i64 x.h, .int .i64 x.c, .slice A n c, .slice A2 n2 c2], .int .i64 k] w fun e w' => e = .returned (.bool (gdB C x R S k)) ∧ Below w.heap.size w w' := by
  have H1 := Lib.hid h1
  have H2 := Lib.hid h2
  have H3 := Lib.hid h3
  have hln := h1.1
  have hln2 := h2.1
  have hln3 := h3.1
  clear h1 h2 h3
  go_enter Try.func35, Try.ntmps35
  go_wp2_with fail
  have hL := LS.mk2 w (.slice D N cN) 26 30 x A n c A2 n2 c2
  generalize ((w.alloc _).alloc _) = W0 at hL ⊢
  have L0 := Lib.hid hL
  have c0 := hL.st
  obtain ⟨t0, t1, t2, t3, t4, t5, t6, t7, t8⟩ := hL.tb
  clear hL
  go_wp2_with fail
  refine (val.impl_store (by omega) (H3.out.below (below_le L0.out.bel hB)) (by have := L0.out.size; omega)).mono ?_
  rintro e W1 ⟨rfl, hb⟩
  have L1 := Lib.hid (L0.out.call hb)
  clear hb c0 t0 t1 t2 t3 t4 t5 t6 t7 t8
  obtain ⟨t0, t1, t2, t3, t4, t5, t6, t7, t8⟩ := L1.out.tb
  rcases hst : stB C with _ | _
  · have HE : Hid (false = gdB C x R S k) := Lib.hid (gd_st hst).symm
    clear hst
    go_wp2_with fail
    go_ret
    exact ⟨ret_b HE.out, L1.out.bel⟩
  have HST := Lib.hid hst
  clear hst
  go_wp2_with fail
  refine (impl_active x (by omega) (by omega) (H1.out.below (below_le L1.out.bel hB)) (H2.out.below (below_le L1.out.bel hB)) (by have := L1.out.size; omega)).mono ?_
  rintro e W2 ⟨rfl, hb⟩
  have L2 := Lib.hid (L1.out.call hb)
  clear hb t0 t1 t2 t3 t4 t5 t6 t7 t8
  rcases ha : actB x R S with _ | _
  · have HE : Hid (false = gdB C x R S k) := Lib.hid (gd_na ha)
    clear ha
    go_wp2_with fail
    go_ret
    exact ⟨ret_b HE.out, L2.out.bel⟩
  obtain ⟨q, hq⟩ : ∃ q, In 0 5 k = q := ⟨_, rfl⟩
  have HE : Hid (q = gdB C x R S k) := Lib.hid (gd_a HST.out ha hq)
  have HQ := Lib.hid hq
  clear ha hq
  go_wp2_with fail
  refine (key_q HQ.out _).mono ?_
  rintro e W3 ⟨rfl, rfl⟩
  go_wp2_with fail
  go_ret
  exact ⟨ret_b HE.out, L2.out.bel⟩
set_option maxRecDepth 100000 in
set_option maxHeartbeats 3200000 in
theorem spec_good {w : World} {B n c n2 c2 N cN : Nat} {A A2 D : Option Addr} {R S : List E2} {C : List (List Ver)} (x : Hd) (k : Int) (hn : n ≤ 1048576) (hn2 : n2 ≤ 1048576) (hN : N ≤ 1048576) (h1 : Vs w B A n R) (h2 : Vs w B A2 n2 S) (h3 : Rs w B D N C) (hB : B ≤ w.heap.size) :
    Calls Try.prog 37 #[.agg #[.slice D N cN], .agg #[.int .i64 x.i, .int .i64 x.s, .int .i64 x.t, .int .i64 x.b, .int .i64 x.l, .int .i64 x.h, .int .i64 x.c, .slice A n c, .slice A2 n2 c2], .int .i64 k] w fun e w' => e = .returned (.bool (gdB C x R S k)) ∧ Below w.heap.size w w' := by
  have H1 := Lib.hid h1
  have H2 := Lib.hid h2
  have H3 := Lib.hid h3
  have hln := h1.1
  have hln2 := h2.1
  have hln3 := h3.1
  clear h1 h2 h3
  go_enter Try.func37, Try.ntmps37
  go_wp2_with fail
  have hL := LS.mk2 w (.slice D N cN) 26 30 x A n c A2 n2 c2
  generalize ((w.alloc _).alloc _) = W0 at hL ⊢
  have L0 := Lib.hid hL
  have c0 := hL.st
  obtain ⟨t0, t1, t2, t3, t4, t5, t6, t7, t8⟩ := hL.tb
  clear hL
  go_wp2_with fail
  refine (val.spec_store (by omega) (H3.out.below (below_le L0.out.bel hB)) (by have := L0.out.size; omega)).mono ?_
  rintro e W1 ⟨rfl, hb⟩
  have L1 := Lib.hid (L0.out.call hb)
  clear hb c0 t0 t1 t2 t3 t4 t5 t6 t7 t8
  obtain ⟨t0, t1, t2, t3, t4, t5, t6, t7, t8⟩ := L1.out.tb
  rcases hst : stB C with _ | _
  · have HE : Hid (false = gdB C x R S k) := Lib.hid (gd_st hst).symm
    clear hst
    go_wp2_with fail
    go_ret
    exact ⟨ret_b HE.out, L1.out.bel⟩
  have HST := Lib.hid hst
  clear hst
  go_wp2_with fail
  refine (tvs.spec_tx x (by omega) (by omega) (H1.out.below (below_le L1.out.bel hB)) (H2.out.below (below_le L1.out.bel hB)) (by have := L1.out.size; omega)).mono ?_
  rintro e W2 ⟨rfl, hb⟩
  have L2 := Lib.hid (L1.out.call hb)
  clear hb t0 t1 t2 t3 t4 t5 t6 t7 t8
  obtain ⟨t0, t1, t2, t3, t4, t5, t6, t7, t8⟩ := L2.out.tb
  rcases ha : txB x R S with _ | _
  · have HE : Hid (false = gdB C x R S k) := Lib.hid (gd_tx ha).symm
    clear ha
    go_wp2_with fail
    go_ret
    exact ⟨ret_b HE.out, L2.out.bel⟩
  have HA := Lib.hid ha
  clear ha
  by_cases ht : x.t = 1
  · have t : (x.t == 1) = true := by simpa using ht
    obtain ⟨q, hq⟩ : ∃ q, In 0 5 k = q := ⟨_, rfl⟩
    have HE : Hid (q = gdB C x R S k) := Lib.hid (by simp [gdB, HST.out, HA.out, ht, hq])
    have HQ := Lib.hid hq
    clear hq ht
    go_wp2_with fail
    refine (in_q HQ.out _).mono ?_
    rintro e W3 ⟨rfl, rfl⟩
    go_wp2_with fail
    go_ret
    exact ⟨ret_b HE.out, L2.out.bel⟩
  · have t : (x.t == 1) = false := by simpa using ht
    have HE : Hid (false = gdB C x R S k) := Lib.hid (gd_t ht).symm
    clear ht
    go_wp2_with fail
    go_ret
    exact ⟨ret_b HE.out, L2.out.bel⟩
theorem cv_ch {C : List (List Ver)} {x : Hd} {R S : List E2} {k : Int} {l : List Ver} (h : gdB C x R S k = true) (hl : C[k.toNat]? = some l) : cvI C x R S k = chI x.s l x.b ∧ cvV C x R S k = chV x.s l x.b := by
  have hr := gd_rl h
  by_cases h2 : x.s = 2
  · by_cases hv : 0 ≤ vAt l x.b
    · have ra := ra_yes hr hl hv
      obtain ⟨e1, e2⟩ := cv_snap h h2 ra
      rw [e1, e2]
      unfold chI chV
      rw [if_pos h2, if_pos hv, if_pos h2, if_pos hv]
      refine ⟨rfl, ?_⟩
      simp [raV, ra, List.getD, hl]
    · obtain ⟨e1, e2⟩ := cv_late h h2 (ra_at hl (by omega))
      obtain ⟨e3, e4⟩ := ch_none (l := l) h2 hv
      rw [e1, e2, e3, e4]
      exact ⟨rfl, rfl⟩
  · have hv := rlV_yes hr hl
    by_cases h4 : x.s = 4 ∧ x.b < (lastV l).c
    · obtain ⟨e1, e2⟩ := cv_ord h h4.1 (by rw [hv]; exact h4.2)
      obtain ⟨e3, e4⟩ := ch_late (l := l) h4.1 h4.2
      rw [e1, e2, e3, e4]
      exact ⟨rfl, rfl⟩
    · obtain ⟨e1, e2⟩ := cv_last h h2 (by rw [hv]; exact h4)
      obtain ⟨e3, e4⟩ := ch_last (l := l) h2 h4
      rw [e1, e2, e3, e4, hv]
      exact ⟨rfl, rfl⟩
theorem rules_q {s : Int} {v : Value} (h : ruV s = v) (w : World) : Calls Try.prog 36 #[.int .i64 s] w fun e w' => e = .returned v ∧ w = w' := by
  subst h
  exact rules_of _ _
theorem five_other {W : World} {z b' o' : Nat} {v0 v1 v2 v3 v4 : Value} (h : b' ≠ z) : (((((W.setCell ⟨z, 0, none⟩ v0).setCell ⟨z, 1, none⟩ v1).setCell ⟨z, 2, none⟩ v2).setCell ⟨z, 3, none⟩ v3).setCell ⟨z, 4, none⟩ v4).cell? ⟨b', o', none⟩ = W.cell? ⟨b', o', none⟩ := by
  have q : ∀ j, (⟨z, j, none⟩ : Addr) ≠ ⟨b', o', none⟩ := fun j e => h (by injection e with e _ _; exact e.symm)
  rw [World.cell?_setCell_other _ _ _ _ (q 4), World.cell?_setCell_other _ _ _ _ (q 3), World.cell?_setCell_other _ _ _ _ (q 2), World.cell?_setCell_other _ _ _ _ (q 1), World.cell?_setCell_other _ _ _ _ (q 0)]
/-- the boxes of a store and a transaction, and a zero version behind them -/
structure LZ (w : World) (sv : Value) (x : Hd) (u v : Value) (W : World) : Prop where
  ls : LS w sv x u v W
  size : w.heap.size + 3 ≤ W.heap.size
  zer : sl.At W (w.heap.size + 2) 0 ⟨0, 0, 0, 0, 0⟩
  free : ∀ i, W.frozen? ⟨w.heap.size + 2, i, none⟩ = false
theorem LZ.mk3 (w : World) (sv : Value) (s t t3 : TypeId) (x : Hd) (A : Option Addr) (n c : Nat) (A2 : Option Addr) (n2 c2 : Nat) : LZ w sv x (.slice A n c) (.slice A2 n2 c2) (((w.alloc (.cells #[sv] s)).alloc (.cells #[.int .i64 x.i, .int .i64 x.s, .int .i64 x.t, .int .i64 x.b, .int .i64 x.l, .int .i64 x.h, .int .i64 x.c, .slice A n c, .slice A2 n2 c2] t)).alloc (.cells #[.int .i64 0, .int .i64 0, .int .i64 0, .int .i64 0, .int .i64 0] t3)) where
  ls := (LS.mk2 w sv s t x A n c A2 n2 c2).call (new1 _ _)
  size := by simp
  zer := by have := ch.boxed ((w.alloc (.cells #[sv] s)).alloc (.cells #[.int .i64 x.i, .int .i64 x.s, .int .i64 x.t, .int .i64 x.b, .int .i64 x.l, .int .i64 x.h, .int .i64 x.c, .slice A n c, .slice A2 n2 c2] t)) ⟨0, 0, 0, 0, 0⟩ t3; simpa using this
  free := fun i => World.frozen?_alloc_at _ _ _ _ (by simp)
theorem LZ.call {w W W' : World} {sv u v : Value} {x : Hd} (h : LZ w sv x u v W) (hb : Below W.heap.size W W') : LZ w sv x u v W' where
  ls := h.ls.call hb
  size := Nat.le_trans h.size hb.size
  zer := sl.At.keep h.zer (B := W.heap.size) (by have := h.size; omega) hb
  free := fun i => (hb.frozen (p := ⟨w.heap.size + 2, i, none⟩) (by have := h.size; simp; omega)).trans (h.free i)
set_option maxRecDepth 100000 in
set_option maxHeartbeats 12800000 in
theorem impl_cv {w : World} {B n c n2 c2 N cN : Nat} {A A2 D : Option Addr} {R S : List E2} {C : List (List Ver)} (x : Hd) (k : Int) (hn : n ≤ 1048576) (hn2 : n2 ≤ 1048576) (hN : N ≤ 1048576) (h1 : Vs w B A n R) (h2 : Vs w B A2 n2 S) (h3 : Rs w B D N C) (hB : B ≤ w.heap.size) :
    Calls Try.prog 11 #[.agg #[.slice D N cN], .agg #[.int .i64 x.i, .int .i64 x.s, .int .i64 x.t, .int .i64 x.b, .int .i64 x.l, .int .i64 x.h, .int .i64 x.c, .slice A n c, .slice A2 n2 c2], .int .i64 k] w fun e w' => e = .returned (.tuple #[.agg #[.int .i64 (cvV C x R S k).a, .int .i64 (cvV C x R S k).b, .int .i64 (cvV C x R S k).c, .int .i64 (cvV C x R S k).d, .int .i64 (cvV C x R S k).e], .int .i64 (cvI C x R S k)]) ∧ Below w.heap.size w w' := by
  have H1 := Lib.hid h1
  have H2 := Lib.hid h2
  have H3 := Lib.hid h3
  have hln := h1.1
  have hln2 := h2.1
  have hln3 := h3.1
  clear h1 h2 h3
  obtain ⟨i, hi⟩ : ∃ i, cvI C x R S k = i := ⟨_, rfl⟩
  obtain ⟨y, hy⟩ : ∃ y, cvV C x R S k = y := ⟨_, rfl⟩
  rw [hi, hy]
  have HI := Lib.hid hi
  have HY := Lib.hid hy
  clear hi hy
  obtain ⟨gq, hgq⟩ : ∃ q, gdB C x R S k = q := ⟨_, rfl⟩
  have HG := Lib.hid hgq
  clear hgq
  rcases gq with _ | _
  · have HE : Hid ((6 : Int) = i ∧ (⟨0, 0, 0, 0, 0⟩ : Ver) = y) := Lib.hid (by
      obtain ⟨e1, e2⟩ := cv_no HG.out
      rw [← HI.out, ← HY.out, e1, e2]; exact ⟨rfl, rfl⟩)
    clear HI HY
    go_enter Try.func11, Try.ntmps11
    go_wp2_with fail
    have hL := LZ.mk3 w (.slice D N cN) 26 30 34 x A n c A2 n2 c2
    generalize (((w.alloc _).alloc _).alloc _) = W0 at hL ⊢
    have L0 := Lib.hid hL
    have c0 := hL.ls.st
    obtain ⟨t0, t1, t2, t3, t4, t5, t6, t7, t8⟩ := hL.ls.tb
    clear hL
    go_wp2_with fail
    refine (impl_may x k (by omega) (by omega) (by omega) (H1.out.below (below_le L0.out.ls.bel hB)) (H2.out.below (below_le L0.out.ls.bel hB)) (H3.out.below (below_le L0.out.ls.bel hB)) (by have := L0.out.size; omega)).mono ?_
    rintro e W1 ⟨rfl, hb⟩
    rw [HG.out]
    have L1 := Lib.hid (L0.out.call hb)
    clear hb c0 t0 t1 t2 t3 t4 t5 t6 t7 t8
    obtain ⟨z0, z1, z2, z3, z4⟩ := ch.atFlat L1.out.zer
    have g0 := L1.out.free 0
    have g1 := L1.out.free 1
    have g2 := L1.out.free 2
    have g3 := L1.out.free 3
    have g4 := L1.out.free 4
    have hsz : w.heap.size + 2 < W1.heap.size := by have := L1.out.size; omega
    have hsz1 : w.heap.size + 1 < W1.heap.size := by have := L1.out.size; omega
    have hsz0 : w.heap.size < W1.heap.size := by have := L1.out.size; omega
    simp only at z0 z1 z2 z3 z4
    go_wp2_with fail
    have hs := store5 L1.out.zer ⟨0, 0, 0, 0, 0⟩
    have hl := below5 (b := w.heap.size + 2) L1.out.ls.bel (by omega) ⟨0, 0, 0, 0, 0⟩
    generalize hW : (((((World.setCell _ _ _).setCell _ _).setCell _ _).setCell _ _).setCell _ _) = Wf at hs hl ⊢
    clear hW
    obtain ⟨s0, s1, s2, s3, s4⟩ := ch.atFlat hs
    try simp only at s0 s1 s2 s3 s4
    exact bodyPost_ret (v := .tuple #[.agg #[.int .i64 (⟨0, 0, 0, 0, 0⟩ : Ver).a, .int .i64 (⟨0, 0, 0, 0, 0⟩ : Ver).b, .int .i64 (⟨0, 0, 0, 0, 0⟩ : Ver).c, .int .i64 (⟨0, 0, 0, 0, 0⟩ : Ver).d, .int .i64 (⟨0, 0, 0, 0, 0⟩ : Ver).e], .int .i64 6]) (by simp [results, Try.results11, go_sem, s0, s1, s2, s3, s4]) rfl ⟨pair_eq HE.out, hl⟩
  obtain ⟨hst, htx, hxt, hin⟩ := gd_parts HG.out
  have hk := in_yes hin
  have hsix := val.st_six hst
  obtain ⟨b, o, l, A9, n9, c9, rfl, hbB, hl, hcell, hn9, hv⟩ := H3.out.at_ (k := k.toNat) (by omega)
  have HOK := Lib.hid (val.okL_ch_of (val.st_ok hst hl))
  have HC := Lib.hid hcell
  have HV := Lib.hid hv
  have HLL := Lib.hid hl
  have t0k : (k.toNat : Int) = k := by omega
  have t1k : (0 : Int) ≤ k := by omega
  have t2k : k < (N : Int) := by omega
  have HCV : Hid (chI x.s l x.b = i ∧ chV x.s l x.b = y) := Lib.hid (by
    obtain ⟨e1, e2⟩ := cv_ch HG.out hl
    rw [← e1, ← e2]; exact ⟨HI.out, HY.out⟩)
  clear hst htx hxt hin hsix hl hcell hv HI HY
  rcases ru_cases x.s with ⟨q1, hr⟩ | ⟨q1, hr⟩ | ⟨q1, hr⟩ | ⟨q1, hr⟩
  · have HR := Lib.hid hr
    have Q1 := Lib.hid q1
    have N2 : Hid (x.s ≠ 2) := Lib.hid (by omega)
    have N4 : Hid (x.s ≠ 4) := Lib.hid (by omega)
    have m1 := mt_ch1
    have m2 := na_ch1
    clear hr q1
    go_enter Try.func11, Try.ntmps11
    go_wp2_with fail
    have hL := LZ.mk3 w (.slice (some ⟨b, o, none⟩) N cN) 26 30 34 x A n c A2 n2 c2
    generalize (((w.alloc _).alloc _).alloc _) = W0 at hL ⊢
    have L0 := Lib.hid hL
    have c0 := hL.ls.st
    obtain ⟨t0, t1, t2, t3, t4, t5, t6, t7, t8⟩ := hL.ls.tb
    clear hL
    go_wp2_with fail
    refine (impl_may x k (by omega) (by omega) (by omega) (H1.out.below (below_le L0.out.ls.bel hB)) (H2.out.below (below_le L0.out.ls.bel hB)) (H3.out.below (below_le L0.out.ls.bel hB)) (by have := L0.out.size; omega)).mono ?_
    rintro e W1 ⟨rfl, hb⟩
    rw [HG.out]
    have L1 := Lib.hid (L0.out.call hb)
    clear hb c0 t0 t1 t2 t3 t4 t5 t6 t7 t8
    have hsz : w.heap.size + 2 < W1.heap.size := by have := L1.out.size; omega
    have hlb : b < W1.heap.size := by omega
    have c0 := L1.out.ls.st
    obtain ⟨t0, t1, t2, t3, t4, t5, t6, t7, t8⟩ := L1.out.ls.tb
    clear t0 t2 t4 t5 t6 t7 t8
    have d0 := (L1.out.ls.bel.cell (p := ⟨b, o + k.toNat, none⟩) (by simp only; omega)).trans HC.out
    go_wp2_with fail
    have hbk0 : Below W1.heap.size W1 W1.drew := (Below.refl _ _).drew
    have LD := Lib.hid (L1.out.call hbk0)
    have hne0 : w.heap.size ≠ w.heap.size + 1 + 1 := by omega
    have hne1 : w.heap.size + 1 ≠ w.heap.size + 1 + 1 := by omega
    have hne2 : b ≠ w.heap.size + 1 + 1 := by omega
    have hlbd : b < W1.drew.heap.size := by have := LD.out.size; omega
    have hBd : B ≤ W1.drew.heap.size := by have := LD.out.size; omega
    go_region_held3 (fun w' => w'.cell? ⟨w.heap.size, 0, none⟩ = some (.slice (some ⟨b, o, none⟩) N cN) ∧ w'.cell? ⟨w.heap.size + 1, 1, none⟩ = some (.int .i64 x.s) ∧ w'.cell? ⟨w.heap.size + 1, 3, none⟩ = some (.int .i64 x.b) ∧ w'.cell? ⟨b, o + k.toNat, none⟩ = some (.slice A9 n9 c9)) (first | (have zz := z0; with_reducible exact ⟨(five_other hne0).trans c1, (five_other hne1).trans t1b, (five_other hne1).trans t3b, (five_other hne2).trans d1⟩) | go_keep) (first | (go_at_call 36; (with_reducible refine (rules_q HR.out _).mono ?_); rintro e W2 ⟨he, hw⟩; subst he; subst hw) | (go_at_call 124; (with_reducible refine (cv_0 x.b N2.out N4.out HOK.out hn9 ((HV.out.below (below_le LD.out.ls.bel hB)).more hBd) (Nat.le_refl _)).mono ?_); rintro e W3 ⟨he, hb'⟩; rw [HCV.out.1, HCV.out.2] at he; subst he; have L3 := Lib.hid (LD.out.call hb'); have c1 := L3.out.ls.st; obtain ⟨_, t1b, _, t3b, _, _, _, _, _⟩ := L3.out.ls.tb; have d1 := (hb'.cell (p := ⟨b, o + k.toNat, none⟩) hlbd).trans ((hbk0.cell (p := ⟨b, o + k.toNat, none⟩) hlb).trans d0); obtain ⟨z0, z1, z2, z3, z4⟩ := ch.atFlat L3.out.zer; have g0 := L3.out.free 0; have g1 := L3.out.free 1; have g2 := L3.out.free 2; have g3 := L3.out.free 3; have g4 := L3.out.free 4; simp only at z0 z1 z2 z3 z4))
    go_wp2_with fail
    have hs := store5 L3.out.zer y
    have hl := below5 (b := w.heap.size + 2) L3.out.ls.bel (by omega) y
    generalize hW : (((((World.setCell _ _ _).setCell _ _).setCell _ _).setCell _ _).setCell _ _) = Wf at hs hl ⊢
    clear hW
    obtain ⟨s0, s1, s2, s3, s4⟩ := ch.atFlat hs
    try simp only at s0 s1 s2 s3 s4
    exact bodyPost_ret (v := .tuple #[.agg #[.int .i64 (y : Ver).a, .int .i64 (y : Ver).b, .int .i64 (y : Ver).c, .int .i64 (y : Ver).d, .int .i64 (y : Ver).e], .int .i64 i]) (by simp [results, Try.results11, go_sem, s0, s1, s2, s3, s4]) rfl ⟨pair_eq ⟨rfl, rfl⟩, hl⟩
  · have HR := Lib.hid hr
    have Q1 := Lib.hid q1
    have m1 := mt_ch2
    have m2 := na_ch2
    clear hr q1
    go_enter Try.func11, Try.ntmps11
    go_wp2_with fail
    have hL := LZ.mk3 w (.slice (some ⟨b, o, none⟩) N cN) 26 30 34 x A n c A2 n2 c2
    generalize (((w.alloc _).alloc _).alloc _) = W0 at hL ⊢
    have L0 := Lib.hid hL
    have c0 := hL.ls.st
    obtain ⟨t0, t1, t2, t3, t4, t5, t6, t7, t8⟩ := hL.ls.tb
    clear hL
    go_wp2_with fail
    refine (impl_may x k (by omega) (by omega) (by omega) (H1.out.below (below_le L0.out.ls.bel hB)) (H2.out.below (below_le L0.out.ls.bel hB)) (H3.out.below (below_le L0.out.ls.bel hB)) (by have := L0.out.size; omega)).mono ?_
    rintro e W1 ⟨rfl, hb⟩
    rw [HG.out]
    have L1 := Lib.hid (L0.out.call hb)
    clear hb c0 t0 t1 t2 t3 t4 t5 t6 t7 t8
    have hsz : w.heap.size + 2 < W1.heap.size := by have := L1.out.size; omega
    have hlb : b < W1.heap.size := by omega
    have c0 := L1.out.ls.st
    obtain ⟨t0, t1, t2, t3, t4, t5, t6, t7, t8⟩ := L1.out.ls.tb
    clear t0 t2 t4 t5 t6 t7 t8
    have d0 := (L1.out.ls.bel.cell (p := ⟨b, o + k.toNat, none⟩) (by simp only; omega)).trans HC.out
    go_wp2_with fail
    have hbk0 : Below W1.heap.size W1 W1.drew := (Below.refl _ _).drew
    have LD := Lib.hid (L1.out.call hbk0)
    have hne0 : w.heap.size ≠ w.heap.size + 1 + 1 := by omega
    have hne1 : w.heap.size + 1 ≠ w.heap.size + 1 + 1 := by omega
    have hne2 : b ≠ w.heap.size + 1 + 1 := by omega
    have hlbd : b < W1.drew.heap.size := by have := LD.out.size; omega
    have hBd : B ≤ W1.drew.heap.size := by have := LD.out.size; omega
    go_region_held3 (fun w' => w'.cell? ⟨w.heap.size, 0, none⟩ = some (.slice (some ⟨b, o, none⟩) N cN) ∧ w'.cell? ⟨w.heap.size + 1, 1, none⟩ = some (.int .i64 x.s) ∧ w'.cell? ⟨w.heap.size + 1, 3, none⟩ = some (.int .i64 x.b) ∧ w'.cell? ⟨b, o + k.toNat, none⟩ = some (.slice A9 n9 c9)) (first | (have zz := z0; with_reducible exact ⟨(five_other hne0).trans c1, (five_other hne1).trans t1b, (five_other hne1).trans t3b, (five_other hne2).trans d1⟩) | go_keep) (first | (go_at_call 36; (with_reducible refine (rules_q HR.out _).mono ?_); rintro e W2 ⟨he, hw⟩; subst he; subst hw) | (go_at_call 130; (with_reducible refine (cv_2 x.b Q1.out HOK.out hn9 ((HV.out.below (below_le LD.out.ls.bel hB)).more hBd) (Nat.le_refl _)).mono ?_); rintro e W3 ⟨he, hb'⟩; rw [HCV.out.1, HCV.out.2] at he; subst he; have L3 := Lib.hid (LD.out.call hb'); have c1 := L3.out.ls.st; obtain ⟨_, t1b, _, t3b, _, _, _, _, _⟩ := L3.out.ls.tb; have d1 := (hb'.cell (p := ⟨b, o + k.toNat, none⟩) hlbd).trans ((hbk0.cell (p := ⟨b, o + k.toNat, none⟩) hlb).trans d0); obtain ⟨z0, z1, z2, z3, z4⟩ := ch.atFlat L3.out.zer; have g0 := L3.out.free 0; have g1 := L3.out.free 1; have g2 := L3.out.free 2; have g3 := L3.out.free 3; have g4 := L3.out.free 4; simp only at z0 z1 z2 z3 z4))
    go_wp2_with fail
    have hs := store5 L3.out.zer y
    have hl := below5 (b := w.heap.size + 2) L3.out.ls.bel (by omega) y
    generalize hW : (((((World.setCell _ _ _).setCell _ _).setCell _ _).setCell _ _).setCell _ _) = Wf at hs hl ⊢
    clear hW
    obtain ⟨s0, s1, s2, s3, s4⟩ := ch.atFlat hs
    try simp only at s0 s1 s2 s3 s4
    exact bodyPost_ret (v := .tuple #[.agg #[.int .i64 (y : Ver).a, .int .i64 (y : Ver).b, .int .i64 (y : Ver).c, .int .i64 (y : Ver).d, .int .i64 (y : Ver).e], .int .i64 i]) (by simp [results, Try.results11, go_sem, s0, s1, s2, s3, s4]) rfl ⟨pair_eq ⟨rfl, rfl⟩, hl⟩
  · have HR := Lib.hid hr
    have Q1 := Lib.hid q1
    have m1 := mt_ch4
    have m2 := na_ch4
    clear hr q1
    go_enter Try.func11, Try.ntmps11
    go_wp2_with fail
    have hL := LZ.mk3 w (.slice (some ⟨b, o, none⟩) N cN) 26 30 34 x A n c A2 n2 c2
    generalize (((w.alloc _).alloc _).alloc _) = W0 at hL ⊢
    have L0 := Lib.hid hL
    have c0 := hL.ls.st
    obtain ⟨t0, t1, t2, t3, t4, t5, t6, t7, t8⟩ := hL.ls.tb
    clear hL
    go_wp2_with fail
    refine (impl_may x k (by omega) (by omega) (by omega) (H1.out.below (below_le L0.out.ls.bel hB)) (H2.out.below (below_le L0.out.ls.bel hB)) (H3.out.below (below_le L0.out.ls.bel hB)) (by have := L0.out.size; omega)).mono ?_
    rintro e W1 ⟨rfl, hb⟩
    rw [HG.out]
    have L1 := Lib.hid (L0.out.call hb)
    clear hb c0 t0 t1 t2 t3 t4 t5 t6 t7 t8
    have hsz : w.heap.size + 2 < W1.heap.size := by have := L1.out.size; omega
    have hlb : b < W1.heap.size := by omega
    have c0 := L1.out.ls.st
    obtain ⟨t0, t1, t2, t3, t4, t5, t6, t7, t8⟩ := L1.out.ls.tb
    clear t0 t2 t4 t5 t6 t7 t8
    have d0 := (L1.out.ls.bel.cell (p := ⟨b, o + k.toNat, none⟩) (by simp only; omega)).trans HC.out
    go_wp2_with fail
    have hbk0 : Below W1.heap.size W1 W1.drew := (Below.refl _ _).drew
    have LD := Lib.hid (L1.out.call hbk0)
    have hne0 : w.heap.size ≠ w.heap.size + 1 + 1 := by omega
    have hne1 : w.heap.size + 1 ≠ w.heap.size + 1 + 1 := by omega
    have hne2 : b ≠ w.heap.size + 1 + 1 := by omega
    have hlbd : b < W1.drew.heap.size := by have := LD.out.size; omega
    have hBd : B ≤ W1.drew.heap.size := by have := LD.out.size; omega
    go_region_held3 (fun w' => w'.cell? ⟨w.heap.size, 0, none⟩ = some (.slice (some ⟨b, o, none⟩) N cN) ∧ w'.cell? ⟨w.heap.size + 1, 1, none⟩ = some (.int .i64 x.s) ∧ w'.cell? ⟨w.heap.size + 1, 3, none⟩ = some (.int .i64 x.b) ∧ w'.cell? ⟨b, o + k.toNat, none⟩ = some (.slice A9 n9 c9)) (first | (have zz := z0; with_reducible exact ⟨(five_other hne0).trans c1, (five_other hne1).trans t1b, (five_other hne1).trans t3b, (five_other hne2).trans d1⟩) | go_keep) (first | (go_at_call 36; (with_reducible refine (rules_q HR.out _).mono ?_); rintro e W2 ⟨he, hw⟩; subst he; subst hw) | (go_at_call 135; (with_reducible refine (cv_4 x.b Q1.out HOK.out hn9 ((HV.out.below (below_le LD.out.ls.bel hB)).more hBd) (Nat.le_refl _)).mono ?_); rintro e W3 ⟨he, hb'⟩; rw [HCV.out.1, HCV.out.2] at he; subst he; have L3 := Lib.hid (LD.out.call hb'); have c1 := L3.out.ls.st; obtain ⟨_, t1b, _, t3b, _, _, _, _, _⟩ := L3.out.ls.tb; have d1 := (hb'.cell (p := ⟨b, o + k.toNat, none⟩) hlbd).trans ((hbk0.cell (p := ⟨b, o + k.toNat, none⟩) hlb).trans d0); obtain ⟨z0, z1, z2, z3, z4⟩ := ch.atFlat L3.out.zer; have g0 := L3.out.free 0; have g1 := L3.out.free 1; have g2 := L3.out.free 2; have g3 := L3.out.free 3; have g4 := L3.out.free 4; simp only at z0 z1 z2 z3 z4))
    go_wp2_with fail
    have hs := store5 L3.out.zer y
    have hl := below5 (b := w.heap.size + 2) L3.out.ls.bel (by omega) y
    generalize hW : (((((World.setCell _ _ _).setCell _ _).setCell _ _).setCell _ _).setCell _ _) = Wf at hs hl ⊢
    clear hW
    obtain ⟨s0, s1, s2, s3, s4⟩ := ch.atFlat hs
    try simp only at s0 s1 s2 s3 s4
    exact bodyPost_ret (v := .tuple #[.agg #[.int .i64 (y : Ver).a, .int .i64 (y : Ver).b, .int .i64 (y : Ver).c, .int .i64 (y : Ver).d, .int .i64 (y : Ver).e], .int .i64 i]) (by simp [results, Try.results11, go_sem, s0, s1, s2, s3, s4]) rfl ⟨pair_eq ⟨rfl, rfl⟩, hl⟩
  · have HR := Lib.hid hr
    have Q1 := Lib.hid q1
    have m1 := mt_ch0
    have m2 := na_ch0
    clear hr q1
    go_enter Try.func11, Try.ntmps11
    go_wp2_with fail
    have hL := LZ.mk3 w (.slice (some ⟨b, o, none⟩) N cN) 26 30 34 x A n c A2 n2 c2
    generalize (((w.alloc _).alloc _).alloc _) = W0 at hL ⊢
    have L0 := Lib.hid hL
    have c0 := hL.ls.st
    obtain ⟨t0, t1, t2, t3, t4, t5, t6, t7, t8⟩ := hL.ls.tb
    clear hL
    go_wp2_with fail
    refine (impl_may x k (by omega) (by omega) (by omega) (H1.out.below (below_le L0.out.ls.bel hB)) (H2.out.below (below_le L0.out.ls.bel hB)) (H3.out.below (below_le L0.out.ls.bel hB)) (by have := L0.out.size; omega)).mono ?_
    rintro e W1 ⟨rfl, hb⟩
    rw [HG.out]
    have L1 := Lib.hid (L0.out.call hb)
    clear hb c0 t0 t1 t2 t3 t4 t5 t6 t7 t8
    have hsz : w.heap.size + 2 < W1.heap.size := by have := L1.out.size; omega
    have hlb : b < W1.heap.size := by omega
    have c0 := L1.out.ls.st
    obtain ⟨t0, t1, t2, t3, t4, t5, t6, t7, t8⟩ := L1.out.ls.tb
    clear t0 t2 t4 t5 t6 t7 t8
    have d0 := (L1.out.ls.bel.cell (p := ⟨b, o + k.toNat, none⟩) (by simp only; omega)).trans HC.out
    go_wp2_with fail
    have hbk0 : Below W1.heap.size W1 W1.drew := (Below.refl _ _).drew
    have LD := Lib.hid (L1.out.call hbk0)
    have hne0 : w.heap.size ≠ w.heap.size + 1 + 1 := by omega
    have hne1 : w.heap.size + 1 ≠ w.heap.size + 1 + 1 := by omega
    have hne2 : b ≠ w.heap.size + 1 + 1 := by omega
    have hlbd : b < W1.drew.heap.size := by have := LD.out.size; omega
    have hBd : B ≤ W1.drew.heap.size := by have := LD.out.size; omega
    go_region_held3 (fun w' => w'.cell? ⟨w.heap.size, 0, none⟩ = some (.slice (some ⟨b, o, none⟩) N cN) ∧ w'.cell? ⟨w.heap.size + 1, 1, none⟩ = some (.int .i64 x.s) ∧ w'.cell? ⟨w.heap.size + 1, 3, none⟩ = some (.int .i64 x.b) ∧ w'.cell? ⟨b, o + k.toNat, none⟩ = some (.slice A9 n9 c9)) (first | (have zz := z0; with_reducible exact ⟨(five_other hne0).trans c1, (five_other hne1).trans t1b, (five_other hne1).trans t3b, (five_other hne2).trans d1⟩) | go_keep) (first | (go_at_call 36; (with_reducible refine (rules_q HR.out _).mono ?_); rintro e W2 ⟨he, hw⟩; subst he; subst hw) | (go_at_call 124; (with_reducible refine (cv_0 x.b Q1.out.2.1 Q1.out.2.2 HOK.out hn9 ((HV.out.below (below_le LD.out.ls.bel hB)).more hBd) (Nat.le_refl _)).mono ?_); rintro e W3 ⟨he, hb'⟩; rw [HCV.out.1, HCV.out.2] at he; subst he; have L3 := Lib.hid (LD.out.call hb'); have c1 := L3.out.ls.st; obtain ⟨_, t1b, _, t3b, _, _, _, _, _⟩ := L3.out.ls.tb; have d1 := (hb'.cell (p := ⟨b, o + k.toNat, none⟩) hlbd).trans ((hbk0.cell (p := ⟨b, o + k.toNat, none⟩) hlb).trans d0); obtain ⟨z0, z1, z2, z3, z4⟩ := ch.atFlat L3.out.zer; have g0 := L3.out.free 0; have g1 := L3.out.free 1; have g2 := L3.out.free 2; have g3 := L3.out.free 3; have g4 := L3.out.free 4; simp only at z0 z1 z2 z3 z4))
    go_wp2_with fail
    have hs := store5 L3.out.zer y
    have hl := below5 (b := w.heap.size + 2) L3.out.ls.bel (by omega) y
    generalize hW : (((((World.setCell _ _ _).setCell _ _).setCell _ _).setCell _ _).setCell _ _) = Wf at hs hl ⊢
    clear hW
    obtain ⟨s0, s1, s2, s3, s4⟩ := ch.atFlat hs
    try simp only at s0 s1 s2 s3 s4
    exact bodyPost_ret (v := .tuple #[.agg #[.int .i64 (y : Ver).a, .int .i64 (y : Ver).b, .int .i64 (y : Ver).c, .int .i64 (y : Ver).d, .int .i64 (y : Ver).e], .int .i64 i]) (by simp [results, Try.results11, go_sem, s0, s1, s2, s3, s4]) rfl ⟨pair_eq ⟨rfl, rfl⟩, hl⟩
set_option maxRecDepth 100000 in
set_option maxHeartbeats 12800000 in
theorem spec_cv {w : World} {B n c n2 c2 N cN : Nat} {A A2 D : Option Addr} {R S : List E2} {C : List (List Ver)} (x : Hd) (k : Int) (hn : n ≤ 1048576) (hn2 : n2 ≤ 1048576) (hN : N ≤ 1048576) (h1 : Vs w B A n R) (h2 : Vs w B A2 n2 S) (h3 : Rs w B D N C) (hB : B ≤ w.heap.size) :
    Calls Try.prog 12 #[.agg #[.slice D N cN], .agg #[.int .i64 x.i, .int .i64 x.s, .int .i64 x.t, .int .i64 x.b, .int .i64 x.l, .int .i64 x.h, .int .i64 x.c, .slice A n c, .slice A2 n2 c2], .int .i64 k] w fun e w' => e = .returned (.tuple #[.agg #[.int .i64 (cvV C x R S k).a, .int .i64 (cvV C x R S k).b, .int .i64 (cvV C x R S k).c, .int .i64 (cvV C x R S k).d, .int .i64 (cvV C x R S k).e], .int .i64 (cvI C x R S k)]) ∧ Below w.heap.size w w' := by
  have H1 := Lib.hid h1
  have H2 := Lib.hid h2
  have H3 := Lib.hid h3
  have hln := h1.1
  have hln2 := h2.1
  have hln3 := h3.1
  clear h1 h2 h3
  obtain ⟨i, hi⟩ : ∃ i, cvI C x R S k = i := ⟨_, rfl⟩
  obtain ⟨y, hy⟩ : ∃ y, cvV C x R S k = y := ⟨_, rfl⟩
  rw [hi, hy]
  have HI := Lib.hid hi
  have HY := Lib.hid hy
  clear hi hy
  obtain ⟨gq, hgq⟩ : ∃ q, gdB C x R S k = q := ⟨_, rfl⟩
  have HG := Lib.hid hgq
  clear hgq
  rcases gq with _ | _
  · have HE : Hid ((6 : Int) = i ∧ (⟨0, 0, 0, 0, 0⟩ : Ver) = y) := Lib.hid (by
      obtain ⟨e1, e2⟩ := cv_no HG.out
      rw [← HI.out, ← HY.out, e1, e2]; exact ⟨rfl, rfl⟩)
    clear HI HY
    go_enter Try.func12, Try.ntmps12
    go_wp2_with fail
    have hL := LZ.mk3 w (.slice D N cN) 26 30 34 x A n c A2 n2 c2
    generalize (((w.alloc _).alloc _).alloc _) = W0 at hL ⊢
    have L0 := Lib.hid hL
    have c0 := hL.ls.st
    obtain ⟨t0, t1, t2, t3, t4, t5, t6, t7, t8⟩ := hL.ls.tb
    clear hL
    go_wp2_with fail
    refine (spec_good x k (by omega) (by omega) (by omega) (H1.out.below (below_le L0.out.ls.bel hB)) (H2.out.below (below_le L0.out.ls.bel hB)) (H3.out.below (below_le L0.out.ls.bel hB)) (by have := L0.out.size; omega)).mono ?_
    rintro e W1 ⟨rfl, hb⟩
    rw [HG.out]
    have L1 := Lib.hid (L0.out.call hb)
    clear hb c0 t0 t1 t2 t3 t4 t5 t6 t7 t8
    obtain ⟨z0, z1, z2, z3, z4⟩ := ch.atFlat L1.out.zer
    have g0 := L1.out.free 0
    have g1 := L1.out.free 1
    have g2 := L1.out.free 2
    have g3 := L1.out.free 3
    have g4 := L1.out.free 4
    have hsz : w.heap.size + 2 < W1.heap.size := by have := L1.out.size; omega
    have hsz1 : w.heap.size + 1 < W1.heap.size := by have := L1.out.size; omega
    have hsz0 : w.heap.size < W1.heap.size := by have := L1.out.size; omega
    simp only at z0 z1 z2 z3 z4
    go_wp2_with fail
    have hs := store5 L1.out.zer ⟨0, 0, 0, 0, 0⟩
    have hl := below5 (b := w.heap.size + 2) L1.out.ls.bel (by omega) ⟨0, 0, 0, 0, 0⟩
    generalize hW : (((((World.setCell _ _ _).setCell _ _).setCell _ _).setCell _ _).setCell _ _) = Wf at hs hl ⊢
    clear hW
    obtain ⟨s0, s1, s2, s3, s4⟩ := ch.atFlat hs
    try simp only at s0 s1 s2 s3 s4
    exact bodyPost_ret (v := .tuple #[.agg #[.int .i64 (⟨0, 0, 0, 0, 0⟩ : Ver).a, .int .i64 (⟨0, 0, 0, 0, 0⟩ : Ver).b, .int .i64 (⟨0, 0, 0, 0, 0⟩ : Ver).c, .int .i64 (⟨0, 0, 0, 0, 0⟩ : Ver).d, .int .i64 (⟨0, 0, 0, 0, 0⟩ : Ver).e], .int .i64 6]) (by simp [results, Try.results12, go_sem, s0, s1, s2, s3, s4]) rfl ⟨pair_eq HE.out, hl⟩
  obtain ⟨hst, htx, hxt, hin⟩ := gd_parts HG.out
  have hk := in_yes hin
  have hsix := val.st_six hst
  obtain ⟨b, o, l, A9, n9, c9, rfl, hbB, hl, hcell, hn9, hv⟩ := H3.out.at_ (k := k.toNat) (by omega)
  have HOK := Lib.hid (val.okL_ch_of (val.st_ok hst hl))
  have HC := Lib.hid hcell
  have HV := Lib.hid hv
  have HLL := Lib.hid hl
  have t0k : (k.toNat : Int) = k := by omega
  have t1k : (0 : Int) ≤ k := by omega
  have t2k : k < (N : Int) := by omega
  have HCV : Hid (chI x.s l x.b = i ∧ chV x.s l x.b = y) := Lib.hid (by
    obtain ⟨e1, e2⟩ := cv_ch HG.out hl
    rw [← e1, ← e2]; exact ⟨HI.out, HY.out⟩)
  clear hst htx hxt hin hsix hl hcell hv HI HY
  obtain ⟨v, hv⟩ : ∃ v, lastV l = v := ⟨_, rfl⟩
  have HX := Lib.hid hv
  clear hv
  by_cases q1 : x.s = 2
  · have t : (x.s == 2) = true := by simpa using q1
    have Q1 := Lib.hid q1
    obtain ⟨rv, hrv⟩ : ∃ r, raV C k x.b = r := ⟨_, rfl⟩
    obtain ⟨rq, hrq⟩ : ∃ r, raB C k x.b = r := ⟨_, rfl⟩
    have HRV := Lib.hid hrv
    have HRQ := Lib.hid hrq
    clear q1 hrv hrq
    go_enter Try.func12, Try.ntmps12
    go_wp2_with fail
    have hL := LZ.mk3 w (.slice (some ⟨b, o, none⟩) N cN) 26 30 34 x A n c A2 n2 c2
    generalize (((w.alloc _).alloc _).alloc _) = W0 at hL ⊢
    have L0 := Lib.hid hL
    have c0 := hL.ls.st
    obtain ⟨t0, t1, t2, t3, t4, t5, t6, t7, t8⟩ := hL.ls.tb
    clear hL
    go_wp2_with fail
    refine (spec_good x k (by omega) (by omega) (by omega) (H1.out.below (below_le L0.out.ls.bel hB)) (H2.out.below (below_le L0.out.ls.bel hB)) (H3.out.below (below_le L0.out.ls.bel hB)) (by have := L0.out.size; omega)).mono ?_
    rintro e W1 ⟨rfl, hb⟩
    rw [HG.out]
    have L1 := Lib.hid (L0.out.call hb)
    clear hb c0 t0 t1 t2 t3 t4 t5 t6 t7 t8
    have c0 := L1.out.ls.st
    have d0 := (L1.out.ls.bel.cell (p := ⟨b, o + k.toNat, none⟩) (by simp only; omega)).trans HC.out
    go_wp2_with fail
    refine (latest_spec HX.out hn9 (HV.out.below (below_le L1.out.ls.bel hB)) (by have := L1.out.size; omega)).mono ?_
    rintro e W2 ⟨rfl, hb⟩
    have L2 := Lib.hid (L1.out.call hb)
    clear hb c0 d0
    have c0 := L2.out.ls.st
    obtain ⟨t0, t1, t2, t3, t4, t5, t6, t7, t8⟩ := L2.out.ls.tb
    clear t0 t2 t4 t5 t6 t7 t8
    obtain ⟨z0, z1, z2, z3, z4⟩ := ch.atFlat L2.out.zer
    have g0 := L2.out.free 0
    have g1 := L2.out.free 1
    have g2 := L2.out.free 2
    have g3 := L2.out.free 3
    have g4 := L2.out.free 4
    have hsz : w.heap.size + 2 < W2.heap.size := by have := L2.out.size; omega
    have hsz1 : w.heap.size + 1 < W2.heap.size := by have := L2.out.size; omega
    have hsz0 : w.heap.size < W2.heap.size := by have := L2.out.size; omega
    simp only at z0 z1 z2 z3 z4
    go_wp2_with fail
    have L3 := Lib.hid (L2.out.call (new1 W2 (.cells #[.int .i64 v.a, .int .i64 v.b, .int .i64 v.c, .int .i64 v.d, .int .i64 v.e] 34)))
    generalize hW3 : W2.alloc _ = W3 at L3 ⊢
    clear hW3
    refine (rd.spec_readat k x.b HRV.out HRQ.out (by omega) (H3.out.below (below_le L3.out.ls.bel hB)) (by have := L3.out.size; omega)).mono ?_
    rintro e W4 ⟨rfl, hb⟩
    have L4 := Lib.hid (L3.out.call hb)
    clear hb c0 t1 t3 z0 z1 z2 z3 z4 g0 g1 g2 g3 g4 hsz hsz0 hsz1
    obtain ⟨z0, z1, z2, z3, z4⟩ := ch.atFlat L4.out.zer
    have g0 := L4.out.free 0
    have g1 := L4.out.free 1
    have g2 := L4.out.free 2
    have g3 := L4.out.free 3
    have g4 := L4.out.free 4
    have hsz : w.heap.size + 2 < W4.heap.size := by have := L4.out.size; omega
    have hsz1 : w.heap.size + 1 < W4.heap.size := by have := L4.out.size; omega
    have hsz0 : w.heap.size < W4.heap.size := by have := L4.out.size; omega
    simp only at z0 z1 z2 z3 z4
    rcases rq with _ | _
    · have HE : Hid ((3 : Int) = i ∧ (⟨0, 0, 0, 0, 0⟩ : Ver) = y) := Lib.hid (by
        obtain ⟨e1, e2⟩ := cv_late HG.out Q1.out HRQ.out
        obtain ⟨e3, e4⟩ := cv_ch HG.out HLL.out
        rw [← HCV.out.1, ← HCV.out.2, ← e3, ← e4, e1, e2]; exact ⟨rfl, rfl⟩)
      go_wp2_with fail
      have hs := store5 L4.out.zer ⟨0, 0, 0, 0, 0⟩
      have hl := below5 (b := w.heap.size + 2) L4.out.ls.bel (by omega) ⟨0, 0, 0, 0, 0⟩
      generalize hW : (((((World.setCell _ _ _).setCell _ _).setCell _ _).setCell _ _).setCell _ _) = Wf at hs hl ⊢
      have hz : w.heap.size + 2 < Wf.heap.size := by rw [← hW]; simp; omega
      clear hW
      have hs2 := sl.At.keep hs hz (new1 Wf (.cells #[.int .i64 rv.a, .int .i64 rv.b, .int .i64 rv.c, .int .i64 rv.d, .int .i64 rv.e] 34))
      obtain ⟨s0, s1, s2, s3, s4⟩ := ch.atFlat hs2
      try simp only at s0 s1 s2 s3 s4
      exact bodyPost_ret (v := .tuple #[.agg #[.int .i64 (⟨0, 0, 0, 0, 0⟩ : Ver).a, .int .i64 (⟨0, 0, 0, 0, 0⟩ : Ver).b, .int .i64 (⟨0, 0, 0, 0, 0⟩ : Ver).c, .int .i64 (⟨0, 0, 0, 0, 0⟩ : Ver).d, .int .i64 (⟨0, 0, 0, 0, 0⟩ : Ver).e], .int .i64 3]) (by simp [results, Try.results12, go_sem, s0, s1, s2, s3, s4]) rfl ⟨pair_eq HE.out, hl.alloc hl.size _⟩
    · have HE : Hid ((0 : Int) = i ∧ rv = y) := Lib.hid (by
        obtain ⟨e1, e2⟩ := cv_snap HG.out Q1.out HRQ.out
        obtain ⟨e3, e4⟩ := cv_ch HG.out HLL.out
        rw [← HCV.out.1, ← HCV.out.2, ← e3, ← e4, e1, e2, HRV.out]; exact ⟨rfl, rfl⟩)
      go_wp2_with fail
      have hs := store5 L4.out.zer rv
      have hl := below5 (b := w.heap.size + 2) L4.out.ls.bel (by omega) rv
      generalize hW : (((((World.setCell _ _ _).setCell _ _).setCell _ _).setCell _ _).setCell _ _) = Wf at hs hl ⊢
      have hz : w.heap.size + 2 < Wf.heap.size := by rw [← hW]; simp; omega
      clear hW
      have hs2 := sl.At.keep hs hz (new1 Wf (.cells #[.int .i64 rv.a, .int .i64 rv.b, .int .i64 rv.c, .int .i64 rv.d, .int .i64 rv.e] 34))
      obtain ⟨s0, s1, s2, s3, s4⟩ := ch.atFlat hs2
      try simp only at s0 s1 s2 s3 s4
      exact bodyPost_ret (v := .tuple #[.agg #[.int .i64 (rv : Ver).a, .int .i64 (rv : Ver).b, .int .i64 (rv : Ver).c, .int .i64 (rv : Ver).d, .int .i64 (rv : Ver).e], .int .i64 0]) (by simp [results, Try.results12, go_sem, s0, s1, s2, s3, s4]) rfl ⟨pair_eq HE.out, hl.alloc hl.size _⟩
  have u2 : (x.s == 2) = false := by simpa using q1
  have Q1 := Lib.hid q1
  clear q1
  by_cases q4 : x.s = 4
  · have t4 : (x.s == 4) = true := by simpa using q4
    by_cases hlt : x.b < v.c
    · have tt : decide (x.b < v.c) = true := decide_eq_true hlt
      have HE : Hid ((3 : Int) = i ∧ (⟨0, 0, 0, 0, 0⟩ : Ver) = y) := Lib.hid (by obtain ⟨e1, e2⟩ := ch_late (l := l) q4 (by rw [HX.out]; exact hlt); rw [← HCV.out.1, ← HCV.out.2, e1, e2]; exact ⟨rfl, rfl⟩)
      clear q4 hlt
      go_enter Try.func12, Try.ntmps12
      go_wp2_with fail
      have hL := LZ.mk3 w (.slice (some ⟨b, o, none⟩) N cN) 26 30 34 x A n c A2 n2 c2
      generalize (((w.alloc _).alloc _).alloc _) = W0 at hL ⊢
      have L0 := Lib.hid hL
      have c0 := hL.ls.st
      obtain ⟨t0, t1, t2, t3, t4, t5, t6, t7, t8⟩ := hL.ls.tb
      clear hL
      go_wp2_with fail
      refine (spec_good x k (by omega) (by omega) (by omega) (H1.out.below (below_le L0.out.ls.bel hB)) (H2.out.below (below_le L0.out.ls.bel hB)) (H3.out.below (below_le L0.out.ls.bel hB)) (by have := L0.out.size; omega)).mono ?_
      rintro e W1 ⟨rfl, hb⟩
      rw [HG.out]
      have L1 := Lib.hid (L0.out.call hb)
      clear hb c0 t0 t1 t2 t3 t4 t5 t6 t7 t8
      have c0 := L1.out.ls.st
      have d0 := (L1.out.ls.bel.cell (p := ⟨b, o + k.toNat, none⟩) (by simp only; omega)).trans HC.out
      go_wp2_with fail
      refine (latest_spec HX.out hn9 (HV.out.below (below_le L1.out.ls.bel hB)) (by have := L1.out.size; omega)).mono ?_
      rintro e W2 ⟨rfl, hb⟩
      have L2 := Lib.hid (L1.out.call hb)
      clear hb c0 d0
      have c0 := L2.out.ls.st
      obtain ⟨t0, t1, t2, t3, t4, t5, t6, t7, t8⟩ := L2.out.ls.tb
      clear t0 t2 t4 t5 t6 t7 t8
      obtain ⟨z0, z1, z2, z3, z4⟩ := ch.atFlat L2.out.zer
      have g0 := L2.out.free 0
      have g1 := L2.out.free 1
      have g2 := L2.out.free 2
      have g3 := L2.out.free 3
      have g4 := L2.out.free 4
      have hsz : w.heap.size + 2 < W2.heap.size := by have := L2.out.size; omega
      have hsz1 : w.heap.size + 1 < W2.heap.size := by have := L2.out.size; omega
      have hsz0 : w.heap.size < W2.heap.size := by have := L2.out.size; omega
      simp only at z0 z1 z2 z3 z4
      go_wp2_with fail
      have hs := store5 L2.out.zer ⟨0, 0, 0, 0, 0⟩
      have hl := below5 (b := w.heap.size + 2) L2.out.ls.bel (by omega) ⟨0, 0, 0, 0, 0⟩
      generalize hW : (((((World.setCell _ _ _).setCell _ _).setCell _ _).setCell _ _).setCell _ _) = Wf at hs hl ⊢
      have hz : w.heap.size + 2 < Wf.heap.size := by rw [← hW]; simp; omega
      clear hW
      have hs2 := sl.At.keep hs hz (new1 Wf (.cells #[.int .i64 v.a, .int .i64 v.b, .int .i64 v.c, .int .i64 v.d, .int .i64 v.e] 34))
      obtain ⟨s0, s1, s2, s3, s4⟩ := ch.atFlat hs2
      try simp only at s0 s1 s2 s3 s4
      exact bodyPost_ret (v := .tuple #[.agg #[.int .i64 (⟨0, 0, 0, 0, 0⟩ : Ver).a, .int .i64 (⟨0, 0, 0, 0, 0⟩ : Ver).b, .int .i64 (⟨0, 0, 0, 0, 0⟩ : Ver).c, .int .i64 (⟨0, 0, 0, 0, 0⟩ : Ver).d, .int .i64 (⟨0, 0, 0, 0, 0⟩ : Ver).e], .int .i64 3]) (by simp [results, Try.results12, go_sem, s0, s1, s2, s3, s4]) rfl ⟨pair_eq HE.out, hl.alloc hl.size _⟩
    · have tt : decide (x.b < v.c) = false := decide_eq_false hlt
      have HE : Hid ((0 : Int) = i ∧ v = y) := Lib.hid (by obtain ⟨e1, e2⟩ := ch_last (l := l) Q1.out (fun h => hlt (by rw [← HX.out]; exact h.2)); rw [← HCV.out.1, ← HCV.out.2, e1, e2, HX.out]; exact ⟨rfl, rfl⟩)
      clear q4 hlt
      go_enter Try.func12, Try.ntmps12
      go_wp2_with fail
      have hL := LZ.mk3 w (.slice (some ⟨b, o, none⟩) N cN) 26 30 34 x A n c A2 n2 c2
      generalize (((w.alloc _).alloc _).alloc _) = W0 at hL ⊢
      have L0 := Lib.hid hL
      have c0 := hL.ls.st
      obtain ⟨t0, t1, t2, t3, t4, t5, t6, t7, t8⟩ := hL.ls.tb
      clear hL
      go_wp2_with fail
      refine (spec_good x k (by omega) (by omega) (by omega) (H1.out.below (below_le L0.out.ls.bel hB)) (H2.out.below (below_le L0.out.ls.bel hB)) (H3.out.below (below_le L0.out.ls.bel hB)) (by have := L0.out.size; omega)).mono ?_
      rintro e W1 ⟨rfl, hb⟩
      rw [HG.out]
      have L1 := Lib.hid (L0.out.call hb)
      clear hb c0 t0 t1 t2 t3 t4 t5 t6 t7 t8
      have c0 := L1.out.ls.st
      have d0 := (L1.out.ls.bel.cell (p := ⟨b, o + k.toNat, none⟩) (by simp only; omega)).trans HC.out
      go_wp2_with fail
      refine (latest_spec HX.out hn9 (HV.out.below (below_le L1.out.ls.bel hB)) (by have := L1.out.size; omega)).mono ?_
      rintro e W2 ⟨rfl, hb⟩
      have L2 := Lib.hid (L1.out.call hb)
      clear hb c0 d0
      have c0 := L2.out.ls.st
      obtain ⟨t0, t1, t2, t3, t4, t5, t6, t7, t8⟩ := L2.out.ls.tb
      clear t0 t2 t4 t5 t6 t7 t8
      obtain ⟨z0, z1, z2, z3, z4⟩ := ch.atFlat L2.out.zer
      have g0 := L2.out.free 0
      have g1 := L2.out.free 1
      have g2 := L2.out.free 2
      have g3 := L2.out.free 3
      have g4 := L2.out.free 4
      have hsz : w.heap.size + 2 < W2.heap.size := by have := L2.out.size; omega
      have hsz1 : w.heap.size + 1 < W2.heap.size := by have := L2.out.size; omega
      have hsz0 : w.heap.size < W2.heap.size := by have := L2.out.size; omega
      simp only at z0 z1 z2 z3 z4
      go_wp2_with fail
      have hs := store5 L2.out.zer v
      have hl := below5 (b := w.heap.size + 2) L2.out.ls.bel (by omega) v
      generalize hW : (((((World.setCell _ _ _).setCell _ _).setCell _ _).setCell _ _).setCell _ _) = Wf at hs hl ⊢
      have hz : w.heap.size + 2 < Wf.heap.size := by rw [← hW]; simp; omega
      clear hW
      have hs2 := sl.At.keep hs hz (new1 Wf (.cells #[.int .i64 v.a, .int .i64 v.b, .int .i64 v.c, .int .i64 v.d, .int .i64 v.e] 34))
      obtain ⟨s0, s1, s2, s3, s4⟩ := ch.atFlat hs2
      try simp only at s0 s1 s2 s3 s4
      exact bodyPost_ret (v := .tuple #[.agg #[.int .i64 (v : Ver).a, .int .i64 (v : Ver).b, .int .i64 (v : Ver).c, .int .i64 (v : Ver).d, .int .i64 (v : Ver).e], .int .i64 0]) (by simp [results, Try.results12, go_sem, s0, s1, s2, s3, s4]) rfl ⟨pair_eq HE.out, hl.alloc hl.size _⟩
  · have t4 : (x.s == 4) = false := by simpa using q4
    have HE : Hid ((0 : Int) = i ∧ v = y) := Lib.hid (by obtain ⟨e1, e2⟩ := ch_last (l := l) (b := x.b) Q1.out (fun h => q4 h.1); rw [← HCV.out.1, ← HCV.out.2, e1, e2, HX.out]; exact ⟨rfl, rfl⟩)
    clear q4
    go_enter Try.func12, Try.ntmps12
    go_wp2_with fail
    have hL := LZ.mk3 w (.slice (some ⟨b, o, none⟩) N cN) 26 30 34 x A n c A2 n2 c2
    generalize (((w.alloc _).alloc _).alloc _) = W0 at hL ⊢
    have L0 := Lib.hid hL
    have c0 := hL.ls.st
    obtain ⟨t0, t1, t2, t3, t4, t5, t6, t7, t8⟩ := hL.ls.tb
    clear hL
    go_wp2_with fail
    refine (spec_good x k (by omega) (by omega) (by omega) (H1.out.below (below_le L0.out.ls.bel hB)) (H2.out.below (below_le L0.out.ls.bel hB)) (H3.out.below (below_le L0.out.ls.bel hB)) (by have := L0.out.size; omega)).mono ?_
    rintro e W1 ⟨rfl, hb⟩
    rw [HG.out]
    have L1 := Lib.hid (L0.out.call hb)
    clear hb c0 t0 t1 t2 t3 t4 t5 t6 t7 t8
    have c0 := L1.out.ls.st
    have d0 := (L1.out.ls.bel.cell (p := ⟨b, o + k.toNat, none⟩) (by simp only; omega)).trans HC.out
    go_wp2_with fail
    refine (latest_spec HX.out hn9 (HV.out.below (below_le L1.out.ls.bel hB)) (by have := L1.out.size; omega)).mono ?_
    rintro e W2 ⟨rfl, hb⟩
    have L2 := Lib.hid (L1.out.call hb)
    clear hb c0 d0
    have c0 := L2.out.ls.st
    obtain ⟨t0, t1, t2, t3, t4, t5, t6, t7, t8⟩ := L2.out.ls.tb
    clear t0 t2 t4 t5 t6 t7 t8
    obtain ⟨z0, z1, z2, z3, z4⟩ := ch.atFlat L2.out.zer
    have g0 := L2.out.free 0
    have g1 := L2.out.free 1
    have g2 := L2.out.free 2
    have g3 := L2.out.free 3
    have g4 := L2.out.free 4
    have hsz : w.heap.size + 2 < W2.heap.size := by have := L2.out.size; omega
    have hsz1 : w.heap.size + 1 < W2.heap.size := by have := L2.out.size; omega
    have hsz0 : w.heap.size < W2.heap.size := by have := L2.out.size; omega
    simp only at z0 z1 z2 z3 z4
    go_wp2_with fail
    have hs := store5 L2.out.zer v
    have hl := below5 (b := w.heap.size + 2) L2.out.ls.bel (by omega) v
    generalize hW : (((((World.setCell _ _ _).setCell _ _).setCell _ _).setCell _ _).setCell _ _) = Wf at hs hl ⊢
    have hz : w.heap.size + 2 < Wf.heap.size := by rw [← hW]; simp; omega
    clear hW
    have hs2 := sl.At.keep hs hz (new1 Wf (.cells #[.int .i64 v.a, .int .i64 v.b, .int .i64 v.c, .int .i64 v.d, .int .i64 v.e] 34))
    obtain ⟨s0, s1, s2, s3, s4⟩ := ch.atFlat hs2
    try simp only at s0 s1 s2 s3 s4
    exact bodyPost_ret (v := .tuple #[.agg #[.int .i64 (v : Ver).a, .int .i64 (v : Ver).b, .int .i64 (v : Ver).c, .int .i64 (v : Ver).d, .int .i64 (v : Ver).e], .int .i64 0]) (by simp [results, Try.results12, go_sem, s0, s1, s2, s3, s4]) rfl ⟨pair_eq HE.out, hl.alloc hl.size _⟩
end Go.Proofs.Ytdfhnngcddaccaa.cho
