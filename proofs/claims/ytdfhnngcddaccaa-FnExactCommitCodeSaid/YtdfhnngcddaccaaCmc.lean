/- CommitCode of the program and of the model: what each answers; nothing that was there is written. -/
import Derived.Test.YtdfhnngcddaccaaCho
namespace Go.Proofs.Ytdfhnngcddaccaa.cmc
open Go.ChangeShapes Go.WideShapes Go.ChangeAt Go.RowKit
open Go.Proofs.Ytdfhnngcddaccaa.el2 Go.Proofs.Ytdfhnngcddaccaa.tx Go.Proofs.Ytdfhnngcddaccaa.seq Go.Proofs.Ytdfhnngcddaccaa.tv Go.Proofs.Ytdfhnngcddaccaa.rx Go.Proofs.Ytdfhnngcddaccaa.ru Go.Proofs.Ytdfhnngcddaccaa.ruc Go.Proofs.Ytdfhnngcddaccaa.sc Go.Proofs.Ytdfhnngcddaccaa.cho Go.Proofs.Ytdfhnngcddaccaa.rl
open Go.Proofs.Ytdfhnngcddaccaa.vers (In in_yes in_no in_of in_off ret_b new2 new3)
open Go.Proofs.Ytdfhnngcddaccaa.sl (Ver)
open Go.Proofs.Ytdfhnngcddaccaa.st (Rs)
open Go.Proofs.Ytdfhnngcddaccaa.val (stB)
open Go.Proofs.Ytdfhnngcddaccaa.ia (actB impl_active)
open Go.Proofs.Ytdfhnngcddaccaa.find (lastV vAt store5 below5 latest_spec latest_impl)
set_option linter.unusedVariables false
set_option linter.unusedSimpArgs false
theorem ret_j {a b : Int} (h : a = b) : Ending.returned (.int .i64 a) = .returned (.int .i64 b) := by rw [h]
/-- none of the first k written keys refuses -/
def Pass (C : List (List Ver)) (x : Hd) (S : List E2) (k : Nat) : Prop := ∀ j m, j < k → S[j]? = some m → ccM x.s (latOf C m).c x.b = 0
theorem pass_0 (C : List (List Ver)) (x : Hd) (S : List E2) : Pass C x S 0 := fun j m h => absurd h (by omega)
theorem pass_step {C : List (List Ver)} {x : Hd} {S : List E2} {k : Nat} {y : E2} {v : Ver} (h : Pass C x S k) (hy : S[k]? = some y) (hv : latOf C y = v) (hz : ccM x.s v.c x.b = 0) : Pass C x S (k + 1) := by
  intro j m hj hm
  by_cases e : j = k
  · subst e
    rw [hy] at hm
    injection hm with hm
    subst hm
    rw [hv]
    exact hz
  · exact h j m (by omega) hm
theorem cm_val {s c b z : Int} (h : ccM s c b = z) (hz : z ≠ 0) : b < c ∧ z = (if s = 2 then 2 else if s = 4 then 3 else 0) := by
  unfold ccM at h
  by_cases hb : b < c
  · rw [if_pos hb] at h
    exact ⟨hb, h.symm⟩
  · rw [if_neg hb] at h
    exact absurd h.symm hz
theorem cc_hit {C : List (List Ver)} {x : Hd} {R S : List E2} {k : Nat} {y : E2} {v : Ver} {z : Int} (hg : gdB C x R S 0 = true) (hy : S[k]? = some y) (hv : latOf C y = v) (hz : ccM x.s v.c x.b = z) (h0 : z ≠ 0) : z = ccI C x R S := by
  obtain ⟨hb, he⟩ := cm_val hz h0
  have hl : ltB C x S = true := by
    unfold ltB
    rw [List.any_eq_true]
    exact ⟨y, List.mem_of_getElem? hy, by rw [hv]; exact decide_eq_true hb⟩
  unfold ccI
  rw [if_pos hg, if_pos hl]
  exact he
theorem cc_end {C : List (List Ver)} {x : Hd} {R S : List E2} {n : Nat} (hg : gdB C x R S 0 = true) (hn : S.length = n) (h : Pass C x S n) : (0 : Int) = ccI C x R S := by
  unfold ccI
  rw [if_pos hg]
  rcases hl : ltB C x S with _ | _
  · rfl
  · unfold ltB at hl
    rw [List.any_eq_true] at hl
    obtain ⟨m, hm, hb⟩ := hl
    obtain ⟨j, hj, hjm⟩ := List.getElem_of_mem hm
    have := h j m (by omega) (by rw [List.getElem?_eq_getElem hj, hjm])
    unfold ccM at this
    rw [if_pos (of_decide_eq_true hb)] at this
    exact this.symm
theorem gd0_a {C : List (List Ver)} {x : Hd} {R S : List E2} (hs : stB C = true) (ha : actB x R S = true) : gdB C x R S 0 = true := (gd_a hs ha (by decide)).symm
set_option maxRecDepth 100000 in
set_option maxHeartbeats 6400000 in
theorem impl_cc1 {w : World} {B n c n2 c2 N cN : Nat} {A A2 D : Option Addr} {R S : List E2} {C : List (List Ver)} (x : Hd) (hn : n ≤ 1048576) (hn2 : n2 ≤ 1048576) (hN : N ≤ 1048576) (h1 : Vs w B A n R) (h2 : Vs w B A2 n2 S) (h3 : Rs w B D N C) (hB : B ≤ w.heap.size) (q1 : x.s = 1) (hr : ruV x.s = .iface 114 (.agg #[])) (hst : stB C = true) (hac : actB x R S = true) :
    Calls Try.prog 13 #[.agg #[.slice D N cN], .agg #[.int .i64 x.i, .int .i64 x.s, .int .i64 x.t, .int .i64 x.b, .int .i64 x.l, .int .i64 x.h, .int .i64 x.c, .slice A n c, .slice A2 n2 c2]] w fun e w' => e = .returned (.int .i64 (ccI C x R S)) ∧ Below w.heap.size w w' := by
  have H1 := Lib.hid h1
  have H2 := Lib.hid h2
  have H3 := Lib.hid h3
  have hln := h1.1
  have hln2 := h2.1
  have hln3 := h3.1
  clear h1 h2 h3
  obtain ⟨i, hi⟩ : ∃ i, ccI C x R S = i := ⟨_, rfl⟩
  rw [hi]
  have HI := Lib.hid hi
  clear hi
  have HR := Lib.hid hr
  have Q1 := Lib.hid q1
  have N2 : Hid (x.s ≠ 2) := Lib.hid (by omega)
  have N4 : Hid (x.s ≠ 4) := Lib.hid (by omega)
  have m1f := mt_cm1
  have m2f := na_cm1
  have HST := Lib.hid hst
  have HAC := Lib.hid hac
  have HGD : Hid (gdB C x R S 0 = true) := Lib.hid (gd0_a hst hac)
  have HTX : Hid (txB x R S = true) := Lib.hid (gd_parts HGD.out).2.1
  clear hr q1 hst hac
  go_enter Try.func13, Try.ntmps13
  go_wp2_with fail
  have hL := LS.mk2 w (.slice D N cN) 26 30 x A n c A2 n2 c2
  generalize ((w.alloc _).alloc _) = W0 at hL ⊢
  have L0 := Lib.hid hL
  have c0 := hL.st
  obtain ⟨t0, t1, t2, t3, t4, t5, t6, t7, t8⟩ := hL.tb
  clear hL
  go_wp2_with fail
  refine (val.impl_store (by omega) (H3.out.below (below_le L0.out.bel hB)) (by have := L0.out.size; omega)).mono ?_
  rintro e W1 ⟨rfl, hb⟩
  rw [HST.out]
  have L1 := Lib.hid (L0.out.call hb)
  clear hb c0 t0 t1 t2 t3 t4 t5 t6 t7 t8
  obtain ⟨t0, t1, t2, t3, t4, t5, t6, t7, t8⟩ := L1.out.tb
  go_wp2_with fail
  refine (impl_active x (by omega) (by omega) (H1.out.below (below_le L1.out.bel hB)) (H2.out.below (below_le L1.out.bel hB)) (by have := L1.out.size; omega)).mono ?_
  rintro e W2 ⟨rfl, hb⟩
  rw [HAC.out]
  have L2 := Lib.hid (L1.out.call hb)
  clear hb t0 t1 t2 t3 t4 t5 t6 t7 t8
  obtain ⟨t0, t1, t2, t3, t4, t5, t6, t7, t8⟩ := L2.out.tb
  clear t0 t2 t3 t4 t5 t6 t7
  go_wp2_with fail
  refine (rules_q HR.out _).mono ?_
  rintro e W3 ⟨he, hw⟩
  subst he
  subst hw
  go_wp2_with fail
  clear t1 t8
  go_loopw [7, 8, 23] (fun _ _ i wr => ∃ k : Nat, k ≤ n2 ∧ i = .int .i64 k ∧ Pass C x S k ∧ LS w (.slice D N cN) x (.slice A n c) (.slice A2 n2 c2) wr) (fun _ _ i _ => n2 - (intOf i).toNat)
  case atStart => exact ⟨0, by omega, rfl, pass_0 C x S, L2.out⟩
  case round =>
    obtain ⟨k, hk, rfl, hp, hL⟩ := hrel
    have HP := Lib.hid hp
    have LW := Lib.hid hL
    clear hp hL
    by_cases hlt : k < n2
    · obtain ⟨b, o, y, rfl, hbB, hx, a0, a1⟩ := (H2.out.below (below_le LW.out.bel hB)).at_ hlt
      have HX := Lib.hid hx
      clear hx
      have hb := new1 wr (.cells #[.int .i64 y.a, .int .i64 y.b] 81)
      have hwx : wr.heap.size < (wr.alloc (.cells #[.int .i64 y.a, .int .i64 y.b] 81)).heap.size := by simp
      obtain ⟨m0, m0b⟩ := atFlat (boxed wr y 81)
      clear m0b
      have LX := Lib.hid (LW.out.call hb)
      have c0 := LX.out.st
      obtain ⟨_, _, _, t3, _, _, _, _, _⟩ := LX.out.tb
      have hsz := LW.out.size
      have h6 := val.st_six HST.out
      rw [H3.out.1] at h6
      obtain ⟨s1, s2⟩ := wkey_of HTX.out HX.out
      have s3 : y.a < (N : Int) := by omega
      have s4 : y.a.toNat < N := by omega
      clear h6
      obtain ⟨b2, o2, l, A9, n9, c9, rfl, hb2, hl, d0, hn9, hv⟩ := (H3.out.below (below_le LX.out.bel hB)).at_ s4
      have HV := Lib.hid hv
      obtain ⟨z0, hz0⟩ : ∃ z, latOf C y = z := ⟨_, rfl⟩
      have HZ0 := Lib.hid hz0
      have HLV : Hid (lastV l = z0) := Lib.hid (by rw [lat_at hl, hz0])
      clear hv hz0 hl
      obtain ⟨z, hz⟩ : ∃ z, ccM x.s z0.c x.b = z := ⟨_, rfl⟩
      have HZ := Lib.hid hz
      clear hz
      by_cases e0 : z = 0
      · have tz : (z != 0) = false := by simp [e0]
        have HE0 := Lib.hid e0
        clear e0
        go_wp2_with fail
        generalize hW : wr.alloc _ = W2 at c0 d0 t3 m0 hb LX HV hwx ⊢
        clear hW a0 a1
        have hbk0 : Below W2.heap.size W2 W2.drew := (Below.refl _ _).drew
        have LD := Lib.hid (LX.out.call hbk0)
        have hlb2 : b2 < W2.heap.size := by have := hb.size; omega
        have hlbd : b2 < W2.drew.heap.size := Nat.lt_of_lt_of_le hlb2 hbk0.size
        have hlwd : wr.heap.size < W2.drew.heap.size := Nat.lt_of_lt_of_le hwx hbk0.size
        have hBw : B ≤ W2.heap.size := by have := hb.size; omega
        have hBd : B ≤ W2.drew.heap.size := Nat.le_trans hBw hbk0.size
        go_region_held3 (fun w' => w'.cell? ⟨w.heap.size, 0, none⟩ = some (.slice (some ⟨b2, o2, none⟩) N cN) ∧ w'.cell? ⟨w.heap.size + 1, 3, none⟩ = some (.int .i64 x.b) ∧ w'.cell? ⟨wr.heap.size, 0, none⟩ = some (.int .i64 y.a) ∧ w'.cell? ⟨b2, o2 + y.a.toNat, none⟩ = some (.slice A9 n9 c9)) (go_keep) (first | (go_at_call 41; (with_reducible refine (latest_impl HLV.out hn9 ((HV.out.below (below_le hbk0 hBw)).more hBd) (Nat.le_refl _)).mono ?_); rintro e W5 ⟨he, hb'⟩; subst he; have L5 := Lib.hid (LD.out.call hb'); have c1 := L5.out.st; obtain ⟨_, _, _, t3b, _, _, _, _, _⟩ := L5.out.tb; have m1 := (hb'.cell (p := ⟨wr.heap.size, 0, none⟩) hlwd).trans ((hbk0.cell (p := ⟨wr.heap.size, 0, none⟩) hwx).trans m0); have d1 := (hb'.cell (p := ⟨b2, o2 + y.a.toNat, none⟩) hlbd).trans ((hbk0.cell (p := ⟨b2, o2 + y.a.toNat, none⟩) hlb2).trans d0); have hlb5 := Nat.lt_of_lt_of_le hlbd hb'.size; have hlw5 := Nat.lt_of_lt_of_le hlwd hb'.size) | (go_at_call 125; (with_reducible refine (cm_0 z0 x.b _ N2.out N4.out).mono ?_); rintro e W6 ⟨he, hb6⟩; rw [HZ.out] at he; subst he; have L6 := Lib.hid (L5.out.call hb6); have c2 := L6.out.st; obtain ⟨_, _, _, t3c, _, _, _, _, _⟩ := L6.out.tb; have m2 := (hb6.cell (p := ⟨wr.heap.size, 0, none⟩) hlw5).trans m1; have d2 := (hb6.cell (p := ⟨b2, o2 + y.a.toNat, none⟩) hlb5).trans d1))
        all_goals
          clear c1 t3b m1 d1 c2 t3c m2 d2 c0 d0 t3 m0 hb hbk0 hb' hb6
          go_wp2_with fail
          go_roundw
          case rel => exact ⟨k + 1, by omega, by go_num, pass_step HP.out HX.out HZ0.out (by rw [HZ.out]; exact HE0.out), L6.out⟩
          case measure => simp [intOf]; omega
      · have tz : (z != 0) = true := by simpa using e0
        have HE : Hid (z = i) := Lib.hid (by rw [cc_hit HGD.out HX.out HZ0.out HZ.out e0]; exact HI.out)
        clear e0
        go_wp2_with fail
        generalize hW : wr.alloc _ = W2 at c0 d0 t3 m0 hb LX HV hwx ⊢
        clear hW a0 a1
        have hbk0 : Below W2.heap.size W2 W2.drew := (Below.refl _ _).drew
        have LD := Lib.hid (LX.out.call hbk0)
        have hlb2 : b2 < W2.heap.size := by have := hb.size; omega
        have hlbd : b2 < W2.drew.heap.size := Nat.lt_of_lt_of_le hlb2 hbk0.size
        have hlwd : wr.heap.size < W2.drew.heap.size := Nat.lt_of_lt_of_le hwx hbk0.size
        have hBw : B ≤ W2.heap.size := by have := hb.size; omega
        have hBd : B ≤ W2.drew.heap.size := Nat.le_trans hBw hbk0.size
        go_region_held3 (fun w' => w'.cell? ⟨w.heap.size, 0, none⟩ = some (.slice (some ⟨b2, o2, none⟩) N cN) ∧ w'.cell? ⟨w.heap.size + 1, 3, none⟩ = some (.int .i64 x.b) ∧ w'.cell? ⟨wr.heap.size, 0, none⟩ = some (.int .i64 y.a) ∧ w'.cell? ⟨b2, o2 + y.a.toNat, none⟩ = some (.slice A9 n9 c9)) (go_keep) (first | (go_at_call 41; (with_reducible refine (latest_impl HLV.out hn9 ((HV.out.below (below_le hbk0 hBw)).more hBd) (Nat.le_refl _)).mono ?_); rintro e W5 ⟨he, hb'⟩; subst he; have L5 := Lib.hid (LD.out.call hb'); have c1 := L5.out.st; obtain ⟨_, _, _, t3b, _, _, _, _, _⟩ := L5.out.tb; have m1 := (hb'.cell (p := ⟨wr.heap.size, 0, none⟩) hlwd).trans ((hbk0.cell (p := ⟨wr.heap.size, 0, none⟩) hwx).trans m0); have d1 := (hb'.cell (p := ⟨b2, o2 + y.a.toNat, none⟩) hlbd).trans ((hbk0.cell (p := ⟨b2, o2 + y.a.toNat, none⟩) hlb2).trans d0); have hlb5 := Nat.lt_of_lt_of_le hlbd hb'.size; have hlw5 := Nat.lt_of_lt_of_le hlwd hb'.size) | (go_at_call 125; (with_reducible refine (cm_0 z0 x.b _ N2.out N4.out).mono ?_); rintro e W6 ⟨he, hb6⟩; rw [HZ.out] at he; subst he; have L6 := Lib.hid (L5.out.call hb6); have c2 := L6.out.st; obtain ⟨_, _, _, t3c, _, _, _, _, _⟩ := L6.out.tb; have m2 := (hb6.cell (p := ⟨wr.heap.size, 0, none⟩) hlw5).trans m1; have d2 := (hb6.cell (p := ⟨b2, o2 + y.a.toNat, none⟩) hlb5).trans d1))
        all_goals
          clear c1 t3b m1 d1 c2 t3c m2 d2 c0 d0 t3 m0 hb hbk0 hb' hb6
          go_wp2_with fail
          go_ret
          exact ⟨ret_j HE.out, L6.out.bel⟩
    · obtain rfl : n2 = k := by omega
      go_wp2_with fail
      go_ret
      exact ⟨ret_j (by rw [cc_end HGD.out hln2 HP.out]; exact HI.out), LW.out.bel⟩
set_option maxRecDepth 100000 in
set_option maxHeartbeats 6400000 in
theorem impl_cc2 {w : World} {B n c n2 c2 N cN : Nat} {A A2 D : Option Addr} {R S : List E2} {C : List (List Ver)} (x : Hd) (hn : n ≤ 1048576) (hn2 : n2 ≤ 1048576) (hN : N ≤ 1048576) (h1 : Vs w B A n R) (h2 : Vs w B A2 n2 S) (h3 : Rs w B D N C) (hB : B ≤ w.heap.size) (q1 : x.s = 2) (hr : ruV x.s = .iface 115 (.agg #[])) (hst : stB C = true) (hac : actB x R S = true) :
    Calls Try.prog 13 #[.agg #[.slice D N cN], .agg #[.int .i64 x.i, .int .i64 x.s, .int .i64 x.t, .int .i64 x.b, .int .i64 x.l, .int .i64 x.h, .int .i64 x.c, .slice A n c, .slice A2 n2 c2]] w fun e w' => e = .returned (.int .i64 (ccI C x R S)) ∧ Below w.heap.size w w' := by
  have H1 := Lib.hid h1
  have H2 := Lib.hid h2
  have H3 := Lib.hid h3
  have hln := h1.1
  have hln2 := h2.1
  have hln3 := h3.1
  clear h1 h2 h3
  obtain ⟨i, hi⟩ : ∃ i, ccI C x R S = i := ⟨_, rfl⟩
  rw [hi]
  have HI := Lib.hid hi
  clear hi
  have HR := Lib.hid hr
  have Q1 := Lib.hid q1
  have m1f := mt_cm2
  have m2f := na_cm2
  have HST := Lib.hid hst
  have HAC := Lib.hid hac
  have HGD : Hid (gdB C x R S 0 = true) := Lib.hid (gd0_a hst hac)
  have HTX : Hid (txB x R S = true) := Lib.hid (gd_parts HGD.out).2.1
  clear hr q1 hst hac
  go_enter Try.func13, Try.ntmps13
  go_wp2_with fail
  have hL := LS.mk2 w (.slice D N cN) 26 30 x A n c A2 n2 c2
  generalize ((w.alloc _).alloc _) = W0 at hL ⊢
  have L0 := Lib.hid hL
  have c0 := hL.st
  obtain ⟨t0, t1, t2, t3, t4, t5, t6, t7, t8⟩ := hL.tb
  clear hL
  go_wp2_with fail
  refine (val.impl_store (by omega) (H3.out.below (below_le L0.out.bel hB)) (by have := L0.out.size; omega)).mono ?_
  rintro e W1 ⟨rfl, hb⟩
  rw [HST.out]
  have L1 := Lib.hid (L0.out.call hb)
  clear hb c0 t0 t1 t2 t3 t4 t5 t6 t7 t8
  obtain ⟨t0, t1, t2, t3, t4, t5, t6, t7, t8⟩ := L1.out.tb
  go_wp2_with fail
  refine (impl_active x (by omega) (by omega) (H1.out.below (below_le L1.out.bel hB)) (H2.out.below (below_le L1.out.bel hB)) (by have := L1.out.size; omega)).mono ?_
  rintro e W2 ⟨rfl, hb⟩
  rw [HAC.out]
  have L2 := Lib.hid (L1.out.call hb)
  clear hb t0 t1 t2 t3 t4 t5 t6 t7 t8
  obtain ⟨t0, t1, t2, t3, t4, t5, t6, t7, t8⟩ := L2.out.tb
  clear t0 t2 t3 t4 t5 t6 t7
  go_wp2_with fail
  refine (rules_q HR.out _).mono ?_
  rintro e W3 ⟨he, hw⟩
  subst he
  subst hw
  go_wp2_with fail
  clear t1 t8
  go_loopw [7, 8, 23] (fun _ _ i wr => ∃ k : Nat, k ≤ n2 ∧ i = .int .i64 k ∧ Pass C x S k ∧ LS w (.slice D N cN) x (.slice A n c) (.slice A2 n2 c2) wr) (fun _ _ i _ => n2 - (intOf i).toNat)
  case atStart => exact ⟨0, by omega, rfl, pass_0 C x S, L2.out⟩
  case round =>
    obtain ⟨k, hk, rfl, hp, hL⟩ := hrel
    have HP := Lib.hid hp
    have LW := Lib.hid hL
    clear hp hL
    by_cases hlt : k < n2
    · obtain ⟨b, o, y, rfl, hbB, hx, a0, a1⟩ := (H2.out.below (below_le LW.out.bel hB)).at_ hlt
      have HX := Lib.hid hx
      clear hx
      have hb := new1 wr (.cells #[.int .i64 y.a, .int .i64 y.b] 81)
      have hwx : wr.heap.size < (wr.alloc (.cells #[.int .i64 y.a, .int .i64 y.b] 81)).heap.size := by simp
      obtain ⟨m0, m0b⟩ := atFlat (boxed wr y 81)
      clear m0b
      have LX := Lib.hid (LW.out.call hb)
      have c0 := LX.out.st
      obtain ⟨_, _, _, t3, _, _, _, _, _⟩ := LX.out.tb
      have hsz := LW.out.size
      have h6 := val.st_six HST.out
      rw [H3.out.1] at h6
      obtain ⟨s1, s2⟩ := wkey_of HTX.out HX.out
      have s3 : y.a < (N : Int) := by omega
      have s4 : y.a.toNat < N := by omega
      clear h6
      obtain ⟨b2, o2, l, A9, n9, c9, rfl, hb2, hl, d0, hn9, hv⟩ := (H3.out.below (below_le LX.out.bel hB)).at_ s4
      have HV := Lib.hid hv
      obtain ⟨z0, hz0⟩ : ∃ z, latOf C y = z := ⟨_, rfl⟩
      have HZ0 := Lib.hid hz0
      have HLV : Hid (lastV l = z0) := Lib.hid (by rw [lat_at hl, hz0])
      clear hv hz0 hl
      obtain ⟨z, hz⟩ : ∃ z, ccM x.s z0.c x.b = z := ⟨_, rfl⟩
      have HZ := Lib.hid hz
      clear hz
      by_cases e0 : z = 0
      · have tz : (z != 0) = false := by simp [e0]
        have HE0 := Lib.hid e0
        clear e0
        go_wp2_with fail
        generalize hW : wr.alloc _ = W2 at c0 d0 t3 m0 hb LX HV hwx ⊢
        clear hW a0 a1
        have hbk0 : Below W2.heap.size W2 W2.drew := (Below.refl _ _).drew
        have LD := Lib.hid (LX.out.call hbk0)
        have hlb2 : b2 < W2.heap.size := by have := hb.size; omega
        have hlbd : b2 < W2.drew.heap.size := Nat.lt_of_lt_of_le hlb2 hbk0.size
        have hlwd : wr.heap.size < W2.drew.heap.size := Nat.lt_of_lt_of_le hwx hbk0.size
        have hBw : B ≤ W2.heap.size := by have := hb.size; omega
        have hBd : B ≤ W2.drew.heap.size := Nat.le_trans hBw hbk0.size
        go_region_held3 (fun w' => w'.cell? ⟨w.heap.size, 0, none⟩ = some (.slice (some ⟨b2, o2, none⟩) N cN) ∧ w'.cell? ⟨w.heap.size + 1, 3, none⟩ = some (.int .i64 x.b) ∧ w'.cell? ⟨wr.heap.size, 0, none⟩ = some (.int .i64 y.a) ∧ w'.cell? ⟨b2, o2 + y.a.toNat, none⟩ = some (.slice A9 n9 c9)) (go_keep) (first | (go_at_call 41; (with_reducible refine (latest_impl HLV.out hn9 ((HV.out.below (below_le hbk0 hBw)).more hBd) (Nat.le_refl _)).mono ?_); rintro e W5 ⟨he, hb'⟩; subst he; have L5 := Lib.hid (LD.out.call hb'); have c1 := L5.out.st; obtain ⟨_, _, _, t3b, _, _, _, _, _⟩ := L5.out.tb; have m1 := (hb'.cell (p := ⟨wr.heap.size, 0, none⟩) hlwd).trans ((hbk0.cell (p := ⟨wr.heap.size, 0, none⟩) hwx).trans m0); have d1 := (hb'.cell (p := ⟨b2, o2 + y.a.toNat, none⟩) hlbd).trans ((hbk0.cell (p := ⟨b2, o2 + y.a.toNat, none⟩) hlb2).trans d0); have hlb5 := Nat.lt_of_lt_of_le hlbd hb'.size; have hlw5 := Nat.lt_of_lt_of_le hlwd hb'.size) | (go_at_call 131; (with_reducible refine (cm_2 z0 x.b _ Q1.out).mono ?_); rintro e W6 ⟨he, hb6⟩; rw [HZ.out] at he; subst he; have L6 := Lib.hid (L5.out.call hb6); have c2 := L6.out.st; obtain ⟨_, _, _, t3c, _, _, _, _, _⟩ := L6.out.tb; have m2 := (hb6.cell (p := ⟨wr.heap.size, 0, none⟩) hlw5).trans m1; have d2 := (hb6.cell (p := ⟨b2, o2 + y.a.toNat, none⟩) hlb5).trans d1))
        all_goals
          clear c1 t3b m1 d1 c2 t3c m2 d2 c0 d0 t3 m0 hb hbk0 hb' hb6
          go_wp2_with fail
          go_roundw
          case rel => exact ⟨k + 1, by omega, by go_num, pass_step HP.out HX.out HZ0.out (by rw [HZ.out]; exact HE0.out), L6.out⟩
          case measure => simp [intOf]; omega
      · have tz : (z != 0) = true := by simpa using e0
        have HE : Hid (z = i) := Lib.hid (by rw [cc_hit HGD.out HX.out HZ0.out HZ.out e0]; exact HI.out)
        clear e0
        go_wp2_with fail
        generalize hW : wr.alloc _ = W2 at c0 d0 t3 m0 hb LX HV hwx ⊢
        clear hW a0 a1
        have hbk0 : Below W2.heap.size W2 W2.drew := (Below.refl _ _).drew
        have LD := Lib.hid (LX.out.call hbk0)
        have hlb2 : b2 < W2.heap.size := by have := hb.size; omega
        have hlbd : b2 < W2.drew.heap.size := Nat.lt_of_lt_of_le hlb2 hbk0.size
        have hlwd : wr.heap.size < W2.drew.heap.size := Nat.lt_of_lt_of_le hwx hbk0.size
        have hBw : B ≤ W2.heap.size := by have := hb.size; omega
        have hBd : B ≤ W2.drew.heap.size := Nat.le_trans hBw hbk0.size
        go_region_held3 (fun w' => w'.cell? ⟨w.heap.size, 0, none⟩ = some (.slice (some ⟨b2, o2, none⟩) N cN) ∧ w'.cell? ⟨w.heap.size + 1, 3, none⟩ = some (.int .i64 x.b) ∧ w'.cell? ⟨wr.heap.size, 0, none⟩ = some (.int .i64 y.a) ∧ w'.cell? ⟨b2, o2 + y.a.toNat, none⟩ = some (.slice A9 n9 c9)) (go_keep) (first | (go_at_call 41; (with_reducible refine (latest_impl HLV.out hn9 ((HV.out.below (below_le hbk0 hBw)).more hBd) (Nat.le_refl _)).mono ?_); rintro e W5 ⟨he, hb'⟩; subst he; have L5 := Lib.hid (LD.out.call hb'); have c1 := L5.out.st; obtain ⟨_, _, _, t3b, _, _, _, _, _⟩ := L5.out.tb; have m1 := (hb'.cell (p := ⟨wr.heap.size, 0, none⟩) hlwd).trans ((hbk0.cell (p := ⟨wr.heap.size, 0, none⟩) hwx).trans m0); have d1 := (hb'.cell (p := ⟨b2, o2 + y.a.toNat, none⟩) hlbd).trans ((hbk0.cell (p := ⟨b2, o2 + y.a.toNat, none⟩) hlb2).trans d0); have hlb5 := Nat.lt_of_lt_of_le hlbd hb'.size; have hlw5 := Nat.lt_of_lt_of_le hlwd hb'.size) | (go_at_call 131; (with_reducible refine (cm_2 z0 x.b _ Q1.out).mono ?_); rintro e W6 ⟨he, hb6⟩; rw [HZ.out] at he; subst he; have L6 := Lib.hid (L5.out.call hb6); have c2 := L6.out.st; obtain ⟨_, _, _, t3c, _, _, _, _, _⟩ := L6.out.tb; have m2 := (hb6.cell (p := ⟨wr.heap.size, 0, none⟩) hlw5).trans m1; have d2 := (hb6.cell (p := ⟨b2, o2 + y.a.toNat, none⟩) hlb5).trans d1))
        all_goals
          clear c1 t3b m1 d1 c2 t3c m2 d2 c0 d0 t3 m0 hb hbk0 hb' hb6
          go_wp2_with fail
          go_ret
          exact ⟨ret_j HE.out, L6.out.bel⟩
    · obtain rfl : n2 = k := by omega
      go_wp2_with fail
      go_ret
      exact ⟨ret_j (by rw [cc_end HGD.out hln2 HP.out]; exact HI.out), LW.out.bel⟩
set_option maxRecDepth 100000 in
set_option maxHeartbeats 6400000 in
theorem impl_cc4 {w : World} {B n c n2 c2 N cN : Nat} {A A2 D : Option Addr} {R S : List E2} {C : List (List Ver)} (x : Hd) (hn : n ≤ 1048576) (hn2 : n2 ≤ 1048576) (hN : N ≤ 1048576) (h1 : Vs w B A n R) (h2 : Vs w B A2 n2 S) (h3 : Rs w B D N C) (hB : B ≤ w.heap.size) (q1 : x.s = 4) (hr : ruV x.s = .iface 116 (.agg #[])) (hst : stB C = true) (hac : actB x R S = true) :
    Calls Try.prog 13 #[.agg #[.slice D N cN], .agg #[.int .i64 x.i, .int .i64 x.s, .int .i64 x.t, .int .i64 x.b, .int .i64 x.l, .int .i64 x.h, .int .i64 x.c, .slice A n c, .slice A2 n2 c2]] w fun e w' => e = .returned (.int .i64 (ccI C x R S)) ∧ Below w.heap.size w w' := by
  have H1 := Lib.hid h1
  have H2 := Lib.hid h2
  have H3 := Lib.hid h3
  have hln := h1.1
  have hln2 := h2.1
  have hln3 := h3.1
  clear h1 h2 h3
  obtain ⟨i, hi⟩ : ∃ i, ccI C x R S = i := ⟨_, rfl⟩
  rw [hi]
  have HI := Lib.hid hi
  clear hi
  have HR := Lib.hid hr
  have Q1 := Lib.hid q1
  have m1f := mt_cm4
  have m2f := na_cm4
  have HST := Lib.hid hst
  have HAC := Lib.hid hac
  have HGD : Hid (gdB C x R S 0 = true) := Lib.hid (gd0_a hst hac)
  have HTX : Hid (txB x R S = true) := Lib.hid (gd_parts HGD.out).2.1
  clear hr q1 hst hac
  go_enter Try.func13, Try.ntmps13
  go_wp2_with fail
  have hL := LS.mk2 w (.slice D N cN) 26 30 x A n c A2 n2 c2
  generalize ((w.alloc _).alloc _) = W0 at hL ⊢
  have L0 := Lib.hid hL
  have c0 := hL.st
  obtain ⟨t0, t1, t2, t3, t4, t5, t6, t7, t8⟩ := hL.tb
  clear hL
  go_wp2_with fail
  refine (val.impl_store (by omega) (H3.out.below (below_le L0.out.bel hB)) (by have := L0.out.size; omega)).mono ?_
  rintro e W1 ⟨rfl, hb⟩
  rw [HST.out]
  have L1 := Lib.hid (L0.out.call hb)
  clear hb c0 t0 t1 t2 t3 t4 t5 t6 t7 t8
  obtain ⟨t0, t1, t2, t3, t4, t5, t6, t7, t8⟩ := L1.out.tb
  go_wp2_with fail
  refine (impl_active x (by omega) (by omega) (H1.out.below (below_le L1.out.bel hB)) (H2.out.below (below_le L1.out.bel hB)) (by have := L1.out.size; omega)).mono ?_
  rintro e W2 ⟨rfl, hb⟩
  rw [HAC.out]
  have L2 := Lib.hid (L1.out.call hb)
  clear hb t0 t1 t2 t3 t4 t5 t6 t7 t8
  obtain ⟨t0, t1, t2, t3, t4, t5, t6, t7, t8⟩ := L2.out.tb
  clear t0 t2 t3 t4 t5 t6 t7
  go_wp2_with fail
  refine (rules_q HR.out _).mono ?_
  rintro e W3 ⟨he, hw⟩
  subst he
  subst hw
  go_wp2_with fail
  clear t1 t8
  go_loopw [7, 8, 23] (fun _ _ i wr => ∃ k : Nat, k ≤ n2 ∧ i = .int .i64 k ∧ Pass C x S k ∧ LS w (.slice D N cN) x (.slice A n c) (.slice A2 n2 c2) wr) (fun _ _ i _ => n2 - (intOf i).toNat)
  case atStart => exact ⟨0, by omega, rfl, pass_0 C x S, L2.out⟩
  case round =>
    obtain ⟨k, hk, rfl, hp, hL⟩ := hrel
    have HP := Lib.hid hp
    have LW := Lib.hid hL
    clear hp hL
    by_cases hlt : k < n2
    · obtain ⟨b, o, y, rfl, hbB, hx, a0, a1⟩ := (H2.out.below (below_le LW.out.bel hB)).at_ hlt
      have HX := Lib.hid hx
      clear hx
      have hb := new1 wr (.cells #[.int .i64 y.a, .int .i64 y.b] 81)
      have hwx : wr.heap.size < (wr.alloc (.cells #[.int .i64 y.a, .int .i64 y.b] 81)).heap.size := by simp
      obtain ⟨m0, m0b⟩ := atFlat (boxed wr y 81)
      clear m0b
      have LX := Lib.hid (LW.out.call hb)
      have c0 := LX.out.st
      obtain ⟨_, _, _, t3, _, _, _, _, _⟩ := LX.out.tb
      have hsz := LW.out.size
      have h6 := val.st_six HST.out
      rw [H3.out.1] at h6
      obtain ⟨s1, s2⟩ := wkey_of HTX.out HX.out
      have s3 : y.a < (N : Int) := by omega
      have s4 : y.a.toNat < N := by omega
      clear h6
      obtain ⟨b2, o2, l, A9, n9, c9, rfl, hb2, hl, d0, hn9, hv⟩ := (H3.out.below (below_le LX.out.bel hB)).at_ s4
      have HV := Lib.hid hv
      obtain ⟨z0, hz0⟩ : ∃ z, latOf C y = z := ⟨_, rfl⟩
      have HZ0 := Lib.hid hz0
      have HLV : Hid (lastV l = z0) := Lib.hid (by rw [lat_at hl, hz0])
      clear hv hz0 hl
      obtain ⟨z, hz⟩ : ∃ z, ccM x.s z0.c x.b = z := ⟨_, rfl⟩
      have HZ := Lib.hid hz
      clear hz
      by_cases e0 : z = 0
      · have tz : (z != 0) = false := by simp [e0]
        have HE0 := Lib.hid e0
        clear e0
        go_wp2_with fail
        generalize hW : wr.alloc _ = W2 at c0 d0 t3 m0 hb LX HV hwx ⊢
        clear hW a0 a1
        have hbk0 : Below W2.heap.size W2 W2.drew := (Below.refl _ _).drew
        have LD := Lib.hid (LX.out.call hbk0)
        have hlb2 : b2 < W2.heap.size := by have := hb.size; omega
        have hlbd : b2 < W2.drew.heap.size := Nat.lt_of_lt_of_le hlb2 hbk0.size
        have hlwd : wr.heap.size < W2.drew.heap.size := Nat.lt_of_lt_of_le hwx hbk0.size
        have hBw : B ≤ W2.heap.size := by have := hb.size; omega
        have hBd : B ≤ W2.drew.heap.size := Nat.le_trans hBw hbk0.size
        go_region_held3 (fun w' => w'.cell? ⟨w.heap.size, 0, none⟩ = some (.slice (some ⟨b2, o2, none⟩) N cN) ∧ w'.cell? ⟨w.heap.size + 1, 3, none⟩ = some (.int .i64 x.b) ∧ w'.cell? ⟨wr.heap.size, 0, none⟩ = some (.int .i64 y.a) ∧ w'.cell? ⟨b2, o2 + y.a.toNat, none⟩ = some (.slice A9 n9 c9)) (go_keep) (first | (go_at_call 41; (with_reducible refine (latest_impl HLV.out hn9 ((HV.out.below (below_le hbk0 hBw)).more hBd) (Nat.le_refl _)).mono ?_); rintro e W5 ⟨he, hb'⟩; subst he; have L5 := Lib.hid (LD.out.call hb'); have c1 := L5.out.st; obtain ⟨_, _, _, t3b, _, _, _, _, _⟩ := L5.out.tb; have m1 := (hb'.cell (p := ⟨wr.heap.size, 0, none⟩) hlwd).trans ((hbk0.cell (p := ⟨wr.heap.size, 0, none⟩) hwx).trans m0); have d1 := (hb'.cell (p := ⟨b2, o2 + y.a.toNat, none⟩) hlbd).trans ((hbk0.cell (p := ⟨b2, o2 + y.a.toNat, none⟩) hlb2).trans d0); have hlb5 := Nat.lt_of_lt_of_le hlbd hb'.size; have hlw5 := Nat.lt_of_lt_of_le hlwd hb'.size) | (go_at_call 136; (with_reducible refine (cm_4 z0 x.b _ Q1.out).mono ?_); rintro e W6 ⟨he, hb6⟩; rw [HZ.out] at he; subst he; have L6 := Lib.hid (L5.out.call hb6); have c2 := L6.out.st; obtain ⟨_, _, _, t3c, _, _, _, _, _⟩ := L6.out.tb; have m2 := (hb6.cell (p := ⟨wr.heap.size, 0, none⟩) hlw5).trans m1; have d2 := (hb6.cell (p := ⟨b2, o2 + y.a.toNat, none⟩) hlb5).trans d1))
        all_goals
          clear c1 t3b m1 d1 c2 t3c m2 d2 c0 d0 t3 m0 hb hbk0 hb' hb6
          go_wp2_with fail
          go_roundw
          case rel => exact ⟨k + 1, by omega, by go_num, pass_step HP.out HX.out HZ0.out (by rw [HZ.out]; exact HE0.out), L6.out⟩
          case measure => simp [intOf]; omega
      · have tz : (z != 0) = true := by simpa using e0
        have HE : Hid (z = i) := Lib.hid (by rw [cc_hit HGD.out HX.out HZ0.out HZ.out e0]; exact HI.out)
        clear e0
        go_wp2_with fail
        generalize hW : wr.alloc _ = W2 at c0 d0 t3 m0 hb LX HV hwx ⊢
        clear hW a0 a1
        have hbk0 : Below W2.heap.size W2 W2.drew := (Below.refl _ _).drew
        have LD := Lib.hid (LX.out.call hbk0)
        have hlb2 : b2 < W2.heap.size := by have := hb.size; omega
        have hlbd : b2 < W2.drew.heap.size := Nat.lt_of_lt_of_le hlb2 hbk0.size
        have hlwd : wr.heap.size < W2.drew.heap.size := Nat.lt_of_lt_of_le hwx hbk0.size
        have hBw : B ≤ W2.heap.size := by have := hb.size; omega
        have hBd : B ≤ W2.drew.heap.size := Nat.le_trans hBw hbk0.size
        go_region_held3 (fun w' => w'.cell? ⟨w.heap.size, 0, none⟩ = some (.slice (some ⟨b2, o2, none⟩) N cN) ∧ w'.cell? ⟨w.heap.size + 1, 3, none⟩ = some (.int .i64 x.b) ∧ w'.cell? ⟨wr.heap.size, 0, none⟩ = some (.int .i64 y.a) ∧ w'.cell? ⟨b2, o2 + y.a.toNat, none⟩ = some (.slice A9 n9 c9)) (go_keep) (first | (go_at_call 41; (with_reducible refine (latest_impl HLV.out hn9 ((HV.out.below (below_le hbk0 hBw)).more hBd) (Nat.le_refl _)).mono ?_); rintro e W5 ⟨he, hb'⟩; subst he; have L5 := Lib.hid (LD.out.call hb'); have c1 := L5.out.st; obtain ⟨_, _, _, t3b, _, _, _, _, _⟩ := L5.out.tb; have m1 := (hb'.cell (p := ⟨wr.heap.size, 0, none⟩) hlwd).trans ((hbk0.cell (p := ⟨wr.heap.size, 0, none⟩) hwx).trans m0); have d1 := (hb'.cell (p := ⟨b2, o2 + y.a.toNat, none⟩) hlbd).trans ((hbk0.cell (p := ⟨b2, o2 + y.a.toNat, none⟩) hlb2).trans d0); have hlb5 := Nat.lt_of_lt_of_le hlbd hb'.size; have hlw5 := Nat.lt_of_lt_of_le hlwd hb'.size) | (go_at_call 136; (with_reducible refine (cm_4 z0 x.b _ Q1.out).mono ?_); rintro e W6 ⟨he, hb6⟩; rw [HZ.out] at he; subst he; have L6 := Lib.hid (L5.out.call hb6); have c2 := L6.out.st; obtain ⟨_, _, _, t3c, _, _, _, _, _⟩ := L6.out.tb; have m2 := (hb6.cell (p := ⟨wr.heap.size, 0, none⟩) hlw5).trans m1; have d2 := (hb6.cell (p := ⟨b2, o2 + y.a.toNat, none⟩) hlb5).trans d1))
        all_goals
          clear c1 t3b m1 d1 c2 t3c m2 d2 c0 d0 t3 m0 hb hbk0 hb' hb6
          go_wp2_with fail
          go_ret
          exact ⟨ret_j HE.out, L6.out.bel⟩
    · obtain rfl : n2 = k := by omega
      go_wp2_with fail
      go_ret
      exact ⟨ret_j (by rw [cc_end HGD.out hln2 HP.out]; exact HI.out), LW.out.bel⟩
set_option maxRecDepth 100000 in
set_option maxHeartbeats 6400000 in
theorem impl_cc0 {w : World} {B n c n2 c2 N cN : Nat} {A A2 D : Option Addr} {R S : List E2} {C : List (List Ver)} (x : Hd) (hn : n ≤ 1048576) (hn2 : n2 ≤ 1048576) (hN : N ≤ 1048576) (h1 : Vs w B A n R) (h2 : Vs w B A2 n2 S) (h3 : Rs w B D N C) (hB : B ≤ w.heap.size) (q1 : x.s ≠ 1 ∧ x.s ≠ 2 ∧ x.s ≠ 4) (hr : ruV x.s = .iface 112 (.agg #[])) (hst : stB C = true) (hac : actB x R S = true) :
    Calls Try.prog 13 #[.agg #[.slice D N cN], .agg #[.int .i64 x.i, .int .i64 x.s, .int .i64 x.t, .int .i64 x.b, .int .i64 x.l, .int .i64 x.h, .int .i64 x.c, .slice A n c, .slice A2 n2 c2]] w fun e w' => e = .returned (.int .i64 (ccI C x R S)) ∧ Below w.heap.size w w' := by
  have H1 := Lib.hid h1
  have H2 := Lib.hid h2
  have H3 := Lib.hid h3
  have hln := h1.1
  have hln2 := h2.1
  have hln3 := h3.1
  clear h1 h2 h3
  obtain ⟨i, hi⟩ : ∃ i, ccI C x R S = i := ⟨_, rfl⟩
  rw [hi]
  have HI := Lib.hid hi
  clear hi
  have HR := Lib.hid hr
  have Q1 := Lib.hid q1
  have m1f := mt_cm0
  have m2f := na_cm0
  have HST := Lib.hid hst
  have HAC := Lib.hid hac
  have HGD : Hid (gdB C x R S 0 = true) := Lib.hid (gd0_a hst hac)
  have HTX : Hid (txB x R S = true) := Lib.hid (gd_parts HGD.out).2.1
  clear hr q1 hst hac
  go_enter Try.func13, Try.ntmps13
  go_wp2_with fail
  have hL := LS.mk2 w (.slice D N cN) 26 30 x A n c A2 n2 c2
  generalize ((w.alloc _).alloc _) = W0 at hL ⊢
  have L0 := Lib.hid hL
  have c0 := hL.st
  obtain ⟨t0, t1, t2, t3, t4, t5, t6, t7, t8⟩ := hL.tb
  clear hL
  go_wp2_with fail
  refine (val.impl_store (by omega) (H3.out.below (below_le L0.out.bel hB)) (by have := L0.out.size; omega)).mono ?_
  rintro e W1 ⟨rfl, hb⟩
  rw [HST.out]
  have L1 := Lib.hid (L0.out.call hb)
  clear hb c0 t0 t1 t2 t3 t4 t5 t6 t7 t8
  obtain ⟨t0, t1, t2, t3, t4, t5, t6, t7, t8⟩ := L1.out.tb
  go_wp2_with fail
  refine (impl_active x (by omega) (by omega) (H1.out.below (below_le L1.out.bel hB)) (H2.out.below (below_le L1.out.bel hB)) (by have := L1.out.size; omega)).mono ?_
  rintro e W2 ⟨rfl, hb⟩
  rw [HAC.out]
  have L2 := Lib.hid (L1.out.call hb)
  clear hb t0 t1 t2 t3 t4 t5 t6 t7 t8
  obtain ⟨t0, t1, t2, t3, t4, t5, t6, t7, t8⟩ := L2.out.tb
  clear t0 t2 t3 t4 t5 t6 t7
  go_wp2_with fail
  refine (rules_q HR.out _).mono ?_
  rintro e W3 ⟨he, hw⟩
  subst he
  subst hw
  go_wp2_with fail
  clear t1 t8
  go_loopw [7, 8, 23] (fun _ _ i wr => ∃ k : Nat, k ≤ n2 ∧ i = .int .i64 k ∧ Pass C x S k ∧ LS w (.slice D N cN) x (.slice A n c) (.slice A2 n2 c2) wr) (fun _ _ i _ => n2 - (intOf i).toNat)
  case atStart => exact ⟨0, by omega, rfl, pass_0 C x S, L2.out⟩
  case round =>
    obtain ⟨k, hk, rfl, hp, hL⟩ := hrel
    have HP := Lib.hid hp
    have LW := Lib.hid hL
    clear hp hL
    by_cases hlt : k < n2
    · obtain ⟨b, o, y, rfl, hbB, hx, a0, a1⟩ := (H2.out.below (below_le LW.out.bel hB)).at_ hlt
      have HX := Lib.hid hx
      clear hx
      have hb := new1 wr (.cells #[.int .i64 y.a, .int .i64 y.b] 81)
      have hwx : wr.heap.size < (wr.alloc (.cells #[.int .i64 y.a, .int .i64 y.b] 81)).heap.size := by simp
      obtain ⟨m0, m0b⟩ := atFlat (boxed wr y 81)
      clear m0b
      have LX := Lib.hid (LW.out.call hb)
      have c0 := LX.out.st
      obtain ⟨_, _, _, t3, _, _, _, _, _⟩ := LX.out.tb
      have hsz := LW.out.size
      have h6 := val.st_six HST.out
      rw [H3.out.1] at h6
      obtain ⟨s1, s2⟩ := wkey_of HTX.out HX.out
      have s3 : y.a < (N : Int) := by omega
      have s4 : y.a.toNat < N := by omega
      clear h6
      obtain ⟨b2, o2, l, A9, n9, c9, rfl, hb2, hl, d0, hn9, hv⟩ := (H3.out.below (below_le LX.out.bel hB)).at_ s4
      have HV := Lib.hid hv
      obtain ⟨z0, hz0⟩ : ∃ z, latOf C y = z := ⟨_, rfl⟩
      have HZ0 := Lib.hid hz0
      have HLV : Hid (lastV l = z0) := Lib.hid (by rw [lat_at hl, hz0])
      clear hv hz0 hl
      obtain ⟨z, hz⟩ : ∃ z, ccM x.s z0.c x.b = z := ⟨_, rfl⟩
      have HZ := Lib.hid hz
      clear hz
      by_cases e0 : z = 0
      · have tz : (z != 0) = false := by simp [e0]
        have HE0 := Lib.hid e0
        clear e0
        go_wp2_with fail
        generalize hW : wr.alloc _ = W2 at c0 d0 t3 m0 hb LX HV hwx ⊢
        clear hW a0 a1
        have hbk0 : Below W2.heap.size W2 W2.drew := (Below.refl _ _).drew
        have LD := Lib.hid (LX.out.call hbk0)
        have hlb2 : b2 < W2.heap.size := by have := hb.size; omega
        have hlbd : b2 < W2.drew.heap.size := Nat.lt_of_lt_of_le hlb2 hbk0.size
        have hlwd : wr.heap.size < W2.drew.heap.size := Nat.lt_of_lt_of_le hwx hbk0.size
        have hBw : B ≤ W2.heap.size := by have := hb.size; omega
        have hBd : B ≤ W2.drew.heap.size := Nat.le_trans hBw hbk0.size
        go_region_held3 (fun w' => w'.cell? ⟨w.heap.size, 0, none⟩ = some (.slice (some ⟨b2, o2, none⟩) N cN) ∧ w'.cell? ⟨w.heap.size + 1, 3, none⟩ = some (.int .i64 x.b) ∧ w'.cell? ⟨wr.heap.size, 0, none⟩ = some (.int .i64 y.a) ∧ w'.cell? ⟨b2, o2 + y.a.toNat, none⟩ = some (.slice A9 n9 c9)) (go_keep) (first | (go_at_call 41; (with_reducible refine (latest_impl HLV.out hn9 ((HV.out.below (below_le hbk0 hBw)).more hBd) (Nat.le_refl _)).mono ?_); rintro e W5 ⟨he, hb'⟩; subst he; have L5 := Lib.hid (LD.out.call hb'); have c1 := L5.out.st; obtain ⟨_, _, _, t3b, _, _, _, _, _⟩ := L5.out.tb; have m1 := (hb'.cell (p := ⟨wr.heap.size, 0, none⟩) hlwd).trans ((hbk0.cell (p := ⟨wr.heap.size, 0, none⟩) hwx).trans m0); have d1 := (hb'.cell (p := ⟨b2, o2 + y.a.toNat, none⟩) hlbd).trans ((hbk0.cell (p := ⟨b2, o2 + y.a.toNat, none⟩) hlb2).trans d0); have hlb5 := Nat.lt_of_lt_of_le hlbd hb'.size; have hlw5 := Nat.lt_of_lt_of_le hlwd hb'.size) | (go_at_call 125; (with_reducible refine (cm_0 z0 x.b _ Q1.out.2.1 Q1.out.2.2).mono ?_); rintro e W6 ⟨he, hb6⟩; rw [HZ.out] at he; subst he; have L6 := Lib.hid (L5.out.call hb6); have c2 := L6.out.st; obtain ⟨_, _, _, t3c, _, _, _, _, _⟩ := L6.out.tb; have m2 := (hb6.cell (p := ⟨wr.heap.size, 0, none⟩) hlw5).trans m1; have d2 := (hb6.cell (p := ⟨b2, o2 + y.a.toNat, none⟩) hlb5).trans d1))
        all_goals
          clear c1 t3b m1 d1 c2 t3c m2 d2 c0 d0 t3 m0 hb hbk0 hb' hb6
          go_wp2_with fail
          go_roundw
          case rel => exact ⟨k + 1, by omega, by go_num, pass_step HP.out HX.out HZ0.out (by rw [HZ.out]; exact HE0.out), L6.out⟩
          case measure => simp [intOf]; omega
      · have tz : (z != 0) = true := by simpa using e0
        have HE : Hid (z = i) := Lib.hid (by rw [cc_hit HGD.out HX.out HZ0.out HZ.out e0]; exact HI.out)
        clear e0
        go_wp2_with fail
        generalize hW : wr.alloc _ = W2 at c0 d0 t3 m0 hb LX HV hwx ⊢
        clear hW a0 a1
        have hbk0 : Below W2.heap.size W2 W2.drew := (Below.refl _ _).drew
        have LD := Lib.hid (LX.out.call hbk0)
        have hlb2 : b2 < W2.heap.size := by have := hb.size; omega
        have hlbd : b2 < W2.drew.heap.size := Nat.lt_of_lt_of_le hlb2 hbk0.size
        have hlwd : wr.heap.size < W2.drew.heap.size := Nat.lt_of_lt_of_le hwx hbk0.size
        have hBw : B ≤ W2.heap.size := by have := hb.size; omega
        have hBd : B ≤ W2.drew.heap.size := Nat.le_trans hBw hbk0.size
        go_region_held3 (fun w' => w'.cell? ⟨w.heap.size, 0, none⟩ = some (.slice (some ⟨b2, o2, none⟩) N cN) ∧ w'.cell? ⟨w.heap.size + 1, 3, none⟩ = some (.int .i64 x.b) ∧ w'.cell? ⟨wr.heap.size, 0, none⟩ = some (.int .i64 y.a) ∧ w'.cell? ⟨b2, o2 + y.a.toNat, none⟩ = some (.slice A9 n9 c9)) (go_keep) (first | (go_at_call 41; (with_reducible refine (latest_impl HLV.out hn9 ((HV.out.below (below_le hbk0 hBw)).more hBd) (Nat.le_refl _)).mono ?_); rintro e W5 ⟨he, hb'⟩; subst he; have L5 := Lib.hid (LD.out.call hb'); have c1 := L5.out.st; obtain ⟨_, _, _, t3b, _, _, _, _, _⟩ := L5.out.tb; have m1 := (hb'.cell (p := ⟨wr.heap.size, 0, none⟩) hlwd).trans ((hbk0.cell (p := ⟨wr.heap.size, 0, none⟩) hwx).trans m0); have d1 := (hb'.cell (p := ⟨b2, o2 + y.a.toNat, none⟩) hlbd).trans ((hbk0.cell (p := ⟨b2, o2 + y.a.toNat, none⟩) hlb2).trans d0); have hlb5 := Nat.lt_of_lt_of_le hlbd hb'.size; have hlw5 := Nat.lt_of_lt_of_le hlwd hb'.size) | (go_at_call 125; (with_reducible refine (cm_0 z0 x.b _ Q1.out.2.1 Q1.out.2.2).mono ?_); rintro e W6 ⟨he, hb6⟩; rw [HZ.out] at he; subst he; have L6 := Lib.hid (L5.out.call hb6); have c2 := L6.out.st; obtain ⟨_, _, _, t3c, _, _, _, _, _⟩ := L6.out.tb; have m2 := (hb6.cell (p := ⟨wr.heap.size, 0, none⟩) hlw5).trans m1; have d2 := (hb6.cell (p := ⟨b2, o2 + y.a.toNat, none⟩) hlb5).trans d1))
        all_goals
          clear c1 t3b m1 d1 c2 t3c m2 d2 c0 d0 t3 m0 hb hbk0 hb' hb6
          go_wp2_with fail
          go_ret
          exact ⟨ret_j HE.out, L6.out.bel⟩
    · obtain rfl : n2 = k := by omega
      go_wp2_with fail
      go_ret
      exact ⟨ret_j (by rw [cc_end HGD.out hln2 HP.out]; exact HI.out), LW.out.bel⟩
set_option maxRecDepth 100000 in
set_option maxHeartbeats 3200000 in
theorem impl_cc {w : World} {B n c n2 c2 N cN : Nat} {A A2 D : Option Addr} {R S : List E2} {C : List (List Ver)} (x : Hd) (hn : n ≤ 1048576) (hn2 : n2 ≤ 1048576) (hN : N ≤ 1048576) (h1 : Vs w B A n R) (h2 : Vs w B A2 n2 S) (h3 : Rs w B D N C) (hB : B ≤ w.heap.size) :
    Calls Try.prog 13 #[.agg #[.slice D N cN], .agg #[.int .i64 x.i, .int .i64 x.s, .int .i64 x.t, .int .i64 x.b, .int .i64 x.l, .int .i64 x.h, .int .i64 x.c, .slice A n c, .slice A2 n2 c2]] w fun e w' => e = .returned (.int .i64 (ccI C x R S)) ∧ Below w.heap.size w w' := by
  have H1 := Lib.hid h1
  have H2 := Lib.hid h2
  have H3 := Lib.hid h3
  have hln := h1.1
  have hln2 := h2.1
  have hln3 := h3.1
  clear h1 h2 h3
  obtain ⟨i, hi⟩ : ∃ i, ccI C x R S = i := ⟨_, rfl⟩
  have HI := Lib.hid hi
  clear hi
  rcases hst : stB C with _ | _
  · have HE : Hid ((6 : Int) = i) := Lib.hid (by rw [← HI.out, cc_no (gd_st hst)])
    rw [HI.out]
    have HST := Lib.hid hst
    clear hst
    go_enter Try.func13, Try.ntmps13
    go_wp2_with fail
    have hL := LS.mk2 w (.slice D N cN) 26 30 x A n c A2 n2 c2
    generalize ((w.alloc _).alloc _) = W0 at hL ⊢
    have L0 := Lib.hid hL
    have c0 := hL.st
    obtain ⟨t0, t1, t2, t3, t4, t5, t6, t7, t8⟩ := hL.tb
    clear hL
    go_wp2_with fail
    refine (val.impl_store (by omega) (H3.out.below (below_le L0.out.bel hB)) (by have := L0.out.size; omega)).mono ?_
    rintro e W1 ⟨rfl, hb⟩
    rw [HST.out]
    have L1 := Lib.hid (L0.out.call hb)
    clear hb
    go_wp2_with fail
    go_ret
    exact ⟨ret_j HE.out, L1.out.bel⟩
  rcases hac : actB x R S with _ | _
  · have HE : Hid ((6 : Int) = i) := Lib.hid (by rw [← HI.out, cc_no (gd_na hac).symm])
    rw [HI.out]
    have HST := Lib.hid hst
    have HAC := Lib.hid hac
    clear hst hac
    go_enter Try.func13, Try.ntmps13
    go_wp2_with fail
    have hL := LS.mk2 w (.slice D N cN) 26 30 x A n c A2 n2 c2
    generalize ((w.alloc _).alloc _) = W0 at hL ⊢
    have L0 := Lib.hid hL
    have c0 := hL.st
    obtain ⟨t0, t1, t2, t3, t4, t5, t6, t7, t8⟩ := hL.tb
    clear hL
    go_wp2_with fail
    refine (val.impl_store (by omega) (H3.out.below (below_le L0.out.bel hB)) (by have := L0.out.size; omega)).mono ?_
    rintro e W1 ⟨rfl, hb⟩
    rw [HST.out]
    have L1 := Lib.hid (L0.out.call hb)
    clear hb c0 t0 t1 t2 t3 t4 t5 t6 t7 t8
    obtain ⟨t0, t1, t2, t3, t4, t5, t6, t7, t8⟩ := L1.out.tb
    go_wp2_with fail
    refine (impl_active x (by omega) (by omega) (H1.out.below (below_le L1.out.bel hB)) (H2.out.below (below_le L1.out.bel hB)) (by have := L1.out.size; omega)).mono ?_
    rintro e W2 ⟨rfl, hb⟩
    rw [HAC.out]
    have L2 := Lib.hid (L1.out.call hb)
    clear hb
    go_wp2_with fail
    go_ret
    exact ⟨ret_j HE.out, L2.out.bel⟩
  rcases ru_cases x.s with ⟨q1, hr⟩ | ⟨q1, hr⟩ | ⟨q1, hr⟩ | ⟨q1, hr⟩
  · exact impl_cc1 x hn hn2 hN H1.out H2.out H3.out hB q1 hr hst hac
  · exact impl_cc2 x hn hn2 hN H1.out H2.out H3.out hB q1 hr hst hac
  · exact impl_cc4 x hn hn2 hN H1.out H2.out H3.out hB q1 hr hst hac
  · exact impl_cc0 x hn hn2 hN H1.out H2.out H3.out hB q1 hr hst hac
end Go.Proofs.Ytdfhnngcddaccaa.cmc
