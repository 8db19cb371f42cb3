/- WriteCode of the program and of the model: what each answers; nothing that was there is written. -/
import Derived.Test.YtdfhnngcddaccaaCho
import Derived.Test.YtdfhnngcddaccaaLkr
namespace Go.Proofs.Ytdfhnngcddaccaa.wrc
open Go.ChangeShapes Go.WideShapes Go.ChangeAt Go.RowKit
open Go.Proofs.Ytdfhnngcddaccaa.el2 Go.Proofs.Ytdfhnngcddaccaa.tx Go.Proofs.Ytdfhnngcddaccaa.seq Go.Proofs.Ytdfhnngcddaccaa.tv Go.Proofs.Ytdfhnngcddaccaa.rx Go.Proofs.Ytdfhnngcddaccaa.ru Go.Proofs.Ytdfhnngcddaccaa.ruc Go.Proofs.Ytdfhnngcddaccaa.sc Go.Proofs.Ytdfhnngcddaccaa.cho Go.Proofs.Ytdfhnngcddaccaa.lk
open Go.Proofs.Ytdfhnngcddaccaa.vers (In in_yes in_no in_of in_off ret_b new2 new3)
open Go.Proofs.Ytdfhnngcddaccaa.sl (Ver)
open Go.Proofs.Ytdfhnngcddaccaa.st (Rs)
open Go.Proofs.Ytdfhnngcddaccaa.val (stB)
open Go.Proofs.Ytdfhnngcddaccaa.find (lastV vAt store5 below5 latest_spec latest_impl)
open Go.Proofs.Ytdfhnngcddaccaa.rd (rlB rlV rlV_yes)
set_option linter.unusedVariables false
set_option linter.unusedSimpArgs false
theorem tn_0 {L : List E2} {x : Hd} {k : Int} {n : Int} (h : ownI k L = n) (h0 : n = 0) : tnB L x k = false := by simp [tnB, h, h0]
theorem tn_own {L : List E2} {x : Hd} {k : Int} {n : Int} (h : ownI k L = n) (h1 : n = x.i) : tnB L x k = false := by simp [tnB, h, h1]
theorem tn_yes {L : List E2} {x : Hd} {k : Int} {n : Int} (h : ownI k L = n) (h0 : n ≠ 0) (h1 : n ≠ x.i) : tnB L x k = true := by simp [tnB, h, h0, h1]
theorem wc_m {C : List (List Ver)} {L : List E2} {x : Hd} {R S : List E2} {k : Int} {l : List Ver} {v : Ver} {q : Bool} (h : gdB C x R S k = true) (h2 : lkB L = true) (hl : C[k.toNat]? = some l) (hv : lastV l = v) (hq : tnB L x k = q) : wcM x.s v.c v.d x.b q = wcI C L x R S k := by
  have hr := rlV_yes (gd_rl h) hl
  rw [wc_yes h h2, hr, hv, hq]
  unfold wcM
  by_cases h1 : x.s = 1
  · have : x.s ≠ 2 := by omega
    have : x.s ≠ 4 := by omega
    cases q <;> simp [*]
  by_cases h3 : x.s = 2
  · have : x.s ≠ 4 := by omega
    cases q <;> by_cases hc : x.b < v.c <;> simp [*]
  by_cases h4 : x.s = 4
  · by_cases hc : x.b < v.c <;> by_cases hd : x.b < v.d <;> simp [*]
  · simp [*]
theorem own_q {w : World} {B n c : Nat} {A : Option Addr} {l : List E2} {key v : Int} (hv : ownI key l = v) (hn : n ≤ 140737488355328) (h1 : Vs w B A n l) (hB : B ≤ w.heap.size) :
    Calls Try.prog 44 #[.slice A n c, .int .i64 key] w fun e w' => e = .returned (.int .i64 v) ∧ Below w.heap.size w w' := by
  subst hv
  exact lkr.impl_owner key hn h1 hB
theorem own_s {w : World} {B n c : Nat} {A : Option Addr} {l : List E2} {key v : Int} (hv : ownI key l = v) (hn : n ≤ 140737488355328) (h1 : Vs w B A n l) (hB : B ≤ w.heap.size) :
    Calls Try.prog 46 #[.slice A n c, .int .i64 key] w fun e w' => e = .returned (.int .i64 v) ∧ w = w' := by
  subst hv
  exact lkr.spec_owner key hn h1 hB
set_option maxRecDepth 100000 in
set_option maxHeartbeats 6400000 in
theorem impl_wc1 {w : World} {B n c n2 c2 N cN n3 c3 : Nat} {A A2 D A3 : Option Addr} {R S L : List E2} {C : List (List Ver)} (x : Hd) (k : Int) (hn : n ≤ 1048576) (hn2 : n2 ≤ 1048576) (hN : N ≤ 1048576) (hn3 : n3 ≤ 1048576) (h1 : Vs w B A n R) (h2 : Vs w B A2 n2 S) (h3 : Rs w B D N C) (h4 : Vs w B A3 n3 L) (hB : B ≤ w.heap.size) (q1 : x.s = 1) (hr : ruV x.s = .iface 114 (.agg #[])) (HG : Hid (gdB C x R S k = true)) (HLK : Hid (lkB L = true)) :
    Calls Try.prog 17 #[.agg #[.slice D N cN], .slice A3 n3 c3, .agg #[.int .i64 x.i, .int .i64 x.s, .int .i64 x.t, .int .i64 x.b, .int .i64 x.l, .int .i64 x.h, .int .i64 x.c, .slice A n c, .slice A2 n2 c2], .int .i64 k] w fun e w' => e = .returned (.int .i64 (wcI C L x R S k)) ∧ Below w.heap.size w w' := by
  have H1 := Lib.hid h1
  have H2 := Lib.hid h2
  have H3 := Lib.hid h3
  have H4 := Lib.hid h4
  have hln := h1.1
  have hln2 := h2.1
  have hln3 := h3.1
  have hln4 := h4.1
  clear h1 h2 h3 h4
  obtain ⟨i, hi⟩ : ∃ i, wcI C L x R S k = i := ⟨_, rfl⟩
  rw [hi]
  have HI := Lib.hid hi
  clear hi
  have HR := Lib.hid hr
  have Q1 := Lib.hid q1
  have m1 := mt_wc1
  have m2 := na_wc1
  clear hr q1
  obtain ⟨hst, htx, hxt, hin⟩ := gd_parts HG.out
  have hk := in_yes hin
  have hsix := val.st_six hst
  obtain ⟨b, o, l, A9, n9, c9, rfl, hbB, hl, hcell, hn9, hv⟩ := H3.out.at_ (k := k.toNat) (by omega)
  have HC := Lib.hid hcell
  have HV := Lib.hid hv
  obtain ⟨v, hlv⟩ : ∃ v, lastV l = v := ⟨_, rfl⟩
  have HX := Lib.hid hlv
  obtain ⟨q, hq⟩ : ∃ q, tnB L x k = q := ⟨_, rfl⟩
  have HM : Hid (wcM x.s v.c v.d x.b q = i) := Lib.hid (by rw [wc_m HG.out HLK.out hl hlv hq]; exact HI.out)
  have HQ := Lib.hid hq
  have t0k : (k.toNat : Int) = k := by omega
  have t1k : (0 : Int) ≤ k := by omega
  have t2k : k < (N : Int) := by omega
  obtain ⟨g, hg⟩ : ∃ g, ownI k L = g := ⟨_, rfl⟩
  have HGO := Lib.hid hg
  clear hst htx hxt hin hsix hl hcell hv HI hlv hq hg
  by_cases o0 : g = 0
  · have nf0 : (g != 0) = false := by simp [o0]
    have e0 : q = false := by rw [← HQ.out]; exact tn_0 HGO.out o0
    subst e0
    clear o0
    go_enter Try.func17, Try.ntmps17
    go_wp2_with fail
    have hL := LS.mk2 w (.slice (some ⟨b, o, none⟩) N cN) 26 30 x A n c A2 n2 c2
    generalize ((w.alloc _).alloc _) = W0 at hL ⊢
    have L0 := Lib.hid hL
    have c0 := hL.st
    obtain ⟨t0, t1, t2, t3, t4, t5, t6, t7, t8⟩ := hL.tb
    clear hL
    go_wp2_with fail
    refine (impl_may x k (by omega) (by omega) (by omega) (H1.out.below (below_le L0.out.bel hB)) (H2.out.below (below_le L0.out.bel hB)) (H3.out.below (below_le L0.out.bel hB)) (by have := L0.out.size; omega)).mono ?_
    rintro e W1 ⟨rfl, hb⟩
    rw [HG.out]
    have L1 := Lib.hid (L0.out.call hb)
    clear hb c0 t0 t1 t2 t3 t4 t5 t6 t7 t8
    go_wp2_with fail
    refine (lka.impl_are (by omega) (H4.out.below (below_le L1.out.bel hB)) (by have := L1.out.size; omega)).mono ?_
    rintro e W2 ⟨rfl, hb⟩
    rw [HLK.out]
    have L2 := Lib.hid (L1.out.call hb)
    clear hb
    go_wp2_with fail
    refine (own_q HGO.out (by omega) (H4.out.below (below_le L2.out.bel hB)) (by have := L2.out.size; omega)).mono ?_
    rintro e W3 ⟨rfl, hb⟩
    have L3 := Lib.hid (L2.out.call hb)
    clear hb
    have hsz : w.heap.size + 1 < W3.heap.size := by have := L3.out.size; omega
    have hlb : b < W3.heap.size := by omega
    have c0 := L3.out.st
    obtain ⟨t0, t1, t2, t3, t4, t5, t6, t7, t8⟩ := L3.out.tb
    clear t2 t4 t5 t6 t7 t8
    have d0 := (L3.out.bel.cell (p := ⟨b, o + k.toNat, none⟩) (by simp only; omega)).trans HC.out
    go_wp2_with fail
    have hbk0 : Below W3.heap.size W3 W3.drew := (Below.refl _ _).drew
    have LD := Lib.hid (L3.out.call hbk0)
    have hlbd : b < W3.drew.heap.size := by have := LD.out.size; omega
    have hBd : B ≤ W3.drew.heap.size := by have := LD.out.size; omega
    clear t0
    go_region_held3 (fun w' => w'.cell? ⟨w.heap.size, 0, none⟩ = some (.slice (some ⟨b, o, none⟩) N cN) ∧ w'.cell? ⟨w.heap.size + 1, 1, none⟩ = some (.int .i64 x.s) ∧ w'.cell? ⟨w.heap.size + 1, 3, none⟩ = some (.int .i64 x.b) ∧ w'.cell? ⟨b, o + k.toNat, none⟩ = some (.slice A9 n9 c9)) (go_keep) (first | (go_at_call 36; (with_reducible refine (rules_q HR.out _).mono ?_); rintro e W4 ⟨he, hw⟩; subst he; subst hw) | (go_at_call 41; (with_reducible refine (latest_impl HX.out hn9 ((HV.out.below (below_le LD.out.bel hB)).more hBd) (Nat.le_refl _)).mono ?_); rintro e W5 ⟨he, hb'⟩; subst he; have L5 := Lib.hid (LD.out.call hb'); have c1 := L5.out.st; obtain ⟨_, t1b, _, t3b, _, _, _, _, _⟩ := L5.out.tb; have d1 := (hb'.cell (p := ⟨b, o + k.toNat, none⟩) hlbd).trans ((hbk0.cell (p := ⟨b, o + k.toNat, none⟩) hlb).trans d0); have hlb5 := Nat.lt_of_lt_of_le hlbd hb'.size) | (go_at_call 129; (with_reducible refine (wm_1 v x.b false _ Q1.out).mono ?_); rintro e W6 ⟨he, hb6⟩; rw [HM.out] at he; subst he; have L6 := Lib.hid (L5.out.call hb6); have c2 := L6.out.st; obtain ⟨_, t1c, _, t3c, _, _, _, _, _⟩ := L6.out.tb; have d2 := (hb6.cell (p := ⟨b, o + k.toNat, none⟩) hlb5).trans d1))
    all_goals
      clear c1 t1b t3b d1 c2 t1c t3c d2 c0 t1 t3 d0 hb' hb6 hbk0
      go_wp2_with fail
      go_ret
      exact ⟨rfl, L6.out.bel⟩
  by_cases o1 : g = x.i
  · have nf0 : (g != 0) = true := by simpa using o0
    have nf1 : (g != x.i) = false := by simp [o1]
    have e0 : q = false := by rw [← HQ.out]; exact tn_own HGO.out o1
    subst e0
    clear o0 o1
    go_enter Try.func17, Try.ntmps17
    go_wp2_with fail
    have hL := LS.mk2 w (.slice (some ⟨b, o, none⟩) N cN) 26 30 x A n c A2 n2 c2
    generalize ((w.alloc _).alloc _) = W0 at hL ⊢
    have L0 := Lib.hid hL
    have c0 := hL.st
    obtain ⟨t0, t1, t2, t3, t4, t5, t6, t7, t8⟩ := hL.tb
    clear hL
    go_wp2_with fail
    refine (impl_may x k (by omega) (by omega) (by omega) (H1.out.below (below_le L0.out.bel hB)) (H2.out.below (below_le L0.out.bel hB)) (H3.out.below (below_le L0.out.bel hB)) (by have := L0.out.size; omega)).mono ?_
    rintro e W1 ⟨rfl, hb⟩
    rw [HG.out]
    have L1 := Lib.hid (L0.out.call hb)
    clear hb c0 t0 t1 t2 t3 t4 t5 t6 t7 t8
    go_wp2_with fail
    refine (lka.impl_are (by omega) (H4.out.below (below_le L1.out.bel hB)) (by have := L1.out.size; omega)).mono ?_
    rintro e W2 ⟨rfl, hb⟩
    rw [HLK.out]
    have L2 := Lib.hid (L1.out.call hb)
    clear hb
    go_wp2_with fail
    refine (own_q HGO.out (by omega) (H4.out.below (below_le L2.out.bel hB)) (by have := L2.out.size; omega)).mono ?_
    rintro e W3 ⟨rfl, hb⟩
    have L3 := Lib.hid (L2.out.call hb)
    clear hb
    have hsz : w.heap.size + 1 < W3.heap.size := by have := L3.out.size; omega
    have hlb : b < W3.heap.size := by omega
    have c0 := L3.out.st
    obtain ⟨t0, t1, t2, t3, t4, t5, t6, t7, t8⟩ := L3.out.tb
    clear t2 t4 t5 t6 t7 t8
    have d0 := (L3.out.bel.cell (p := ⟨b, o + k.toNat, none⟩) (by simp only; omega)).trans HC.out
    go_wp2_with fail
    have hbk0 : Below W3.heap.size W3 W3.drew := (Below.refl _ _).drew
    have LD := Lib.hid (L3.out.call hbk0)
    have hlbd : b < W3.drew.heap.size := by have := LD.out.size; omega
    have hBd : B ≤ W3.drew.heap.size := by have := LD.out.size; omega
    clear t0
    go_region_held3 (fun w' => w'.cell? ⟨w.heap.size, 0, none⟩ = some (.slice (some ⟨b, o, none⟩) N cN) ∧ w'.cell? ⟨w.heap.size + 1, 1, none⟩ = some (.int .i64 x.s) ∧ w'.cell? ⟨w.heap.size + 1, 3, none⟩ = some (.int .i64 x.b) ∧ w'.cell? ⟨b, o + k.toNat, none⟩ = some (.slice A9 n9 c9)) (go_keep) (first | (go_at_call 36; (with_reducible refine (rules_q HR.out _).mono ?_); rintro e W4 ⟨he, hw⟩; subst he; subst hw) | (go_at_call 41; (with_reducible refine (latest_impl HX.out hn9 ((HV.out.below (below_le LD.out.bel hB)).more hBd) (Nat.le_refl _)).mono ?_); rintro e W5 ⟨he, hb'⟩; subst he; have L5 := Lib.hid (LD.out.call hb'); have c1 := L5.out.st; obtain ⟨_, t1b, _, t3b, _, _, _, _, _⟩ := L5.out.tb; have d1 := (hb'.cell (p := ⟨b, o + k.toNat, none⟩) hlbd).trans ((hbk0.cell (p := ⟨b, o + k.toNat, none⟩) hlb).trans d0); have hlb5 := Nat.lt_of_lt_of_le hlbd hb'.size) | (go_at_call 129; (with_reducible refine (wm_1 v x.b false _ Q1.out).mono ?_); rintro e W6 ⟨he, hb6⟩; rw [HM.out] at he; subst he; have L6 := Lib.hid (L5.out.call hb6); have c2 := L6.out.st; obtain ⟨_, t1c, _, t3c, _, _, _, _, _⟩ := L6.out.tb; have d2 := (hb6.cell (p := ⟨b, o + k.toNat, none⟩) hlb5).trans d1))
    all_goals
      clear c1 t1b t3b d1 c2 t1c t3c d2 c0 t1 t3 d0 hb' hb6 hbk0
      go_wp2_with fail
      go_ret
      exact ⟨rfl, L6.out.bel⟩
  have nf0 : (g != 0) = true := by simpa using o0
  have nf1 : (g != x.i) = true := by simpa using o1
  have e0 : q = true := by rw [← HQ.out]; exact tn_yes HGO.out o0 o1
  subst e0
  clear o0 o1
  go_enter Try.func17, Try.ntmps17
  go_wp2_with fail
  have hL := LS.mk2 w (.slice (some ⟨b, o, none⟩) N cN) 26 30 x A n c A2 n2 c2
  generalize ((w.alloc _).alloc _) = W0 at hL ⊢
  have L0 := Lib.hid hL
  have c0 := hL.st
  obtain ⟨t0, t1, t2, t3, t4, t5, t6, t7, t8⟩ := hL.tb
  clear hL
  go_wp2_with fail
  refine (impl_may x k (by omega) (by omega) (by omega) (H1.out.below (below_le L0.out.bel hB)) (H2.out.below (below_le L0.out.bel hB)) (H3.out.below (below_le L0.out.bel hB)) (by have := L0.out.size; omega)).mono ?_
  rintro e W1 ⟨rfl, hb⟩
  rw [HG.out]
  have L1 := Lib.hid (L0.out.call hb)
  clear hb c0 t0 t1 t2 t3 t4 t5 t6 t7 t8
  go_wp2_with fail
  refine (lka.impl_are (by omega) (H4.out.below (below_le L1.out.bel hB)) (by have := L1.out.size; omega)).mono ?_
  rintro e W2 ⟨rfl, hb⟩
  rw [HLK.out]
  have L2 := Lib.hid (L1.out.call hb)
  clear hb
  go_wp2_with fail
  refine (own_q HGO.out (by omega) (H4.out.below (below_le L2.out.bel hB)) (by have := L2.out.size; omega)).mono ?_
  rintro e W3 ⟨rfl, hb⟩
  have L3 := Lib.hid (L2.out.call hb)
  clear hb
  have hsz : w.heap.size + 1 < W3.heap.size := by have := L3.out.size; omega
  have hlb : b < W3.heap.size := by omega
  have c0 := L3.out.st
  obtain ⟨t0, t1, t2, t3, t4, t5, t6, t7, t8⟩ := L3.out.tb
  clear t2 t4 t5 t6 t7 t8
  have d0 := (L3.out.bel.cell (p := ⟨b, o + k.toNat, none⟩) (by simp only; omega)).trans HC.out
  go_wp2_with fail
  have hbk0 : Below W3.heap.size W3 W3.drew := (Below.refl _ _).drew
  have LD := Lib.hid (L3.out.call hbk0)
  have hlbd : b < W3.drew.heap.size := by have := LD.out.size; omega
  have hBd : B ≤ W3.drew.heap.size := by have := LD.out.size; omega
  clear t0
  go_region_held3 (fun w' => w'.cell? ⟨w.heap.size, 0, none⟩ = some (.slice (some ⟨b, o, none⟩) N cN) ∧ w'.cell? ⟨w.heap.size + 1, 1, none⟩ = some (.int .i64 x.s) ∧ w'.cell? ⟨w.heap.size + 1, 3, none⟩ = some (.int .i64 x.b) ∧ w'.cell? ⟨b, o + k.toNat, none⟩ = some (.slice A9 n9 c9)) (go_keep) (first | (go_at_call 36; (with_reducible refine (rules_q HR.out _).mono ?_); rintro e W4 ⟨he, hw⟩; subst he; subst hw) | (go_at_call 41; (with_reducible refine (latest_impl HX.out hn9 ((HV.out.below (below_le LD.out.bel hB)).more hBd) (Nat.le_refl _)).mono ?_); rintro e W5 ⟨he, hb'⟩; subst he; have L5 := Lib.hid (LD.out.call hb'); have c1 := L5.out.st; obtain ⟨_, t1b, _, t3b, _, _, _, _, _⟩ := L5.out.tb; have d1 := (hb'.cell (p := ⟨b, o + k.toNat, none⟩) hlbd).trans ((hbk0.cell (p := ⟨b, o + k.toNat, none⟩) hlb).trans d0); have hlb5 := Nat.lt_of_lt_of_le hlbd hb'.size) | (go_at_call 129; (with_reducible refine (wm_1 v x.b true _ Q1.out).mono ?_); rintro e W6 ⟨he, hb6⟩; rw [HM.out] at he; subst he; have L6 := Lib.hid (L5.out.call hb6); have c2 := L6.out.st; obtain ⟨_, t1c, _, t3c, _, _, _, _, _⟩ := L6.out.tb; have d2 := (hb6.cell (p := ⟨b, o + k.toNat, none⟩) hlb5).trans d1))
  all_goals
    clear c1 t1b t3b d1 c2 t1c t3c d2 c0 t1 t3 d0 hb' hb6 hbk0
    go_wp2_with fail
    go_ret
    exact ⟨rfl, L6.out.bel⟩
set_option maxRecDepth 100000 in
set_option maxHeartbeats 6400000 in
theorem impl_wc2 {w : World} {B n c n2 c2 N cN n3 c3 : Nat} {A A2 D A3 : Option Addr} {R S L : List E2} {C : List (List Ver)} (x : Hd) (k : Int) (hn : n ≤ 1048576) (hn2 : n2 ≤ 1048576) (hN : N ≤ 1048576) (hn3 : n3 ≤ 1048576) (h1 : Vs w B A n R) (h2 : Vs w B A2 n2 S) (h3 : Rs w B D N C) (h4 : Vs w B A3 n3 L) (hB : B ≤ w.heap.size) (q1 : x.s = 2) (hr : ruV x.s = .iface 115 (.agg #[])) (HG : Hid (gdB C x R S k = true)) (HLK : Hid (lkB L = true)) :
    Calls Try.prog 17 #[.agg #[.slice D N cN], .slice A3 n3 c3, .agg #[.int .i64 x.i, .int .i64 x.s, .int .i64 x.t, .int .i64 x.b, .int .i64 x.l, .int .i64 x.h, .int .i64 x.c, .slice A n c, .slice A2 n2 c2], .int .i64 k] w fun e w' => e = .returned (.int .i64 (wcI C L x R S k)) ∧ Below w.heap.size w w' := by
  have H1 := Lib.hid h1
  have H2 := Lib.hid h2
  have H3 := Lib.hid h3
  have H4 := Lib.hid h4
  have hln := h1.1
  have hln2 := h2.1
  have hln3 := h3.1
  have hln4 := h4.1
  clear h1 h2 h3 h4
  obtain ⟨i, hi⟩ : ∃ i, wcI C L x R S k = i := ⟨_, rfl⟩
  rw [hi]
  have HI := Lib.hid hi
  clear hi
  have HR := Lib.hid hr
  have Q1 := Lib.hid q1
  have m1 := mt_wc2
  have m2 := na_wc2
  clear hr q1
  obtain ⟨hst, htx, hxt, hin⟩ := gd_parts HG.out
  have hk := in_yes hin
  have hsix := val.st_six hst
  obtain ⟨b, o, l, A9, n9, c9, rfl, hbB, hl, hcell, hn9, hv⟩ := H3.out.at_ (k := k.toNat) (by omega)
  have HC := Lib.hid hcell
  have HV := Lib.hid hv
  obtain ⟨v, hlv⟩ : ∃ v, lastV l = v := ⟨_, rfl⟩
  have HX := Lib.hid hlv
  obtain ⟨q, hq⟩ : ∃ q, tnB L x k = q := ⟨_, rfl⟩
  have HM : Hid (wcM x.s v.c v.d x.b q = i) := Lib.hid (by rw [wc_m HG.out HLK.out hl hlv hq]; exact HI.out)
  have HQ := Lib.hid hq
  have t0k : (k.toNat : Int) = k := by omega
  have t1k : (0 : Int) ≤ k := by omega
  have t2k : k < (N : Int) := by omega
  obtain ⟨g, hg⟩ : ∃ g, ownI k L = g := ⟨_, rfl⟩
  have HGO := Lib.hid hg
  clear hst htx hxt hin hsix hl hcell hv HI hlv hq hg
  by_cases o0 : g = 0
  · have nf0 : (g != 0) = false := by simp [o0]
    have e0 : q = false := by rw [← HQ.out]; exact tn_0 HGO.out o0
    subst e0
    clear o0
    go_enter Try.func17, Try.ntmps17
    go_wp2_with fail
    have hL := LS.mk2 w (.slice (some ⟨b, o, none⟩) N cN) 26 30 x A n c A2 n2 c2
    generalize ((w.alloc _).alloc _) = W0 at hL ⊢
    have L0 := Lib.hid hL
    have c0 := hL.st
    obtain ⟨t0, t1, t2, t3, t4, t5, t6, t7, t8⟩ := hL.tb
    clear hL
    go_wp2_with fail
    refine (impl_may x k (by omega) (by omega) (by omega) (H1.out.below (below_le L0.out.bel hB)) (H2.out.below (below_le L0.out.bel hB)) (H3.out.below (below_le L0.out.bel hB)) (by have := L0.out.size; omega)).mono ?_
    rintro e W1 ⟨rfl, hb⟩
    rw [HG.out]
    have L1 := Lib.hid (L0.out.call hb)
    clear hb c0 t0 t1 t2 t3 t4 t5 t6 t7 t8
    go_wp2_with fail
    refine (lka.impl_are (by omega) (H4.out.below (below_le L1.out.bel hB)) (by have := L1.out.size; omega)).mono ?_
    rintro e W2 ⟨rfl, hb⟩
    rw [HLK.out]
    have L2 := Lib.hid (L1.out.call hb)
    clear hb
    go_wp2_with fail
    refine (own_q HGO.out (by omega) (H4.out.below (below_le L2.out.bel hB)) (by have := L2.out.size; omega)).mono ?_
    rintro e W3 ⟨rfl, hb⟩
    have L3 := Lib.hid (L2.out.call hb)
    clear hb
    have hsz : w.heap.size + 1 < W3.heap.size := by have := L3.out.size; omega
    have hlb : b < W3.heap.size := by omega
    have c0 := L3.out.st
    obtain ⟨t0, t1, t2, t3, t4, t5, t6, t7, t8⟩ := L3.out.tb
    clear t2 t4 t5 t6 t7 t8
    have d0 := (L3.out.bel.cell (p := ⟨b, o + k.toNat, none⟩) (by simp only; omega)).trans HC.out
    go_wp2_with fail
    have hbk0 : Below W3.heap.size W3 W3.drew := (Below.refl _ _).drew
    have LD := Lib.hid (L3.out.call hbk0)
    have hlbd : b < W3.drew.heap.size := by have := LD.out.size; omega
    have hBd : B ≤ W3.drew.heap.size := by have := LD.out.size; omega
    clear t0
    go_region_held3 (fun w' => w'.cell? ⟨w.heap.size, 0, none⟩ = some (.slice (some ⟨b, o, none⟩) N cN) ∧ w'.cell? ⟨w.heap.size + 1, 1, none⟩ = some (.int .i64 x.s) ∧ w'.cell? ⟨w.heap.size + 1, 3, none⟩ = some (.int .i64 x.b) ∧ w'.cell? ⟨b, o + k.toNat, none⟩ = some (.slice A9 n9 c9)) (go_keep) (first | (go_at_call 36; (with_reducible refine (rules_q HR.out _).mono ?_); rintro e W4 ⟨he, hw⟩; subst he; subst hw) | (go_at_call 41; (with_reducible refine (latest_impl HX.out hn9 ((HV.out.below (below_le LD.out.bel hB)).more hBd) (Nat.le_refl _)).mono ?_); rintro e W5 ⟨he, hb'⟩; subst he; have L5 := Lib.hid (LD.out.call hb'); have c1 := L5.out.st; obtain ⟨_, t1b, _, t3b, _, _, _, _, _⟩ := L5.out.tb; have d1 := (hb'.cell (p := ⟨b, o + k.toNat, none⟩) hlbd).trans ((hbk0.cell (p := ⟨b, o + k.toNat, none⟩) hlb).trans d0); have hlb5 := Nat.lt_of_lt_of_le hlbd hb'.size) | (go_at_call 133; (with_reducible refine (wm_2 v x.b false _ Q1.out).mono ?_); rintro e W6 ⟨he, hb6⟩; rw [HM.out] at he; subst he; have L6 := Lib.hid (L5.out.call hb6); have c2 := L6.out.st; obtain ⟨_, t1c, _, t3c, _, _, _, _, _⟩ := L6.out.tb; have d2 := (hb6.cell (p := ⟨b, o + k.toNat, none⟩) hlb5).trans d1))
    all_goals
      clear c1 t1b t3b d1 c2 t1c t3c d2 c0 t1 t3 d0 hb' hb6 hbk0
      go_wp2_with fail
      go_ret
      exact ⟨rfl, L6.out.bel⟩
  by_cases o1 : g = x.i
  · have nf0 : (g != 0) = true := by simpa using o0
    have nf1 : (g != x.i) = false := by simp [o1]
    have e0 : q = false := by rw [← HQ.out]; exact tn_own HGO.out o1
    subst e0
    clear o0 o1
    go_enter Try.func17, Try.ntmps17
    go_wp2_with fail
    have hL := LS.mk2 w (.slice (some ⟨b, o, none⟩) N cN) 26 30 x A n c A2 n2 c2
    generalize ((w.alloc _).alloc _) = W0 at hL ⊢
    have L0 := Lib.hid hL
    have c0 := hL.st
    obtain ⟨t0, t1, t2, t3, t4, t5, t6, t7, t8⟩ := hL.tb
    clear hL
    go_wp2_with fail
    refine (impl_may x k (by omega) (by omega) (by omega) (H1.out.below (below_le L0.out.bel hB)) (H2.out.below (below_le L0.out.bel hB)) (H3.out.below (below_le L0.out.bel hB)) (by have := L0.out.size; omega)).mono ?_
    rintro e W1 ⟨rfl, hb⟩
    rw [HG.out]
    have L1 := Lib.hid (L0.out.call hb)
    clear hb c0 t0 t1 t2 t3 t4 t5 t6 t7 t8
    go_wp2_with fail
    refine (lka.impl_are (by omega) (H4.out.below (below_le L1.out.bel hB)) (by have := L1.out.size; omega)).mono ?_
    rintro e W2 ⟨rfl, hb⟩
    rw [HLK.out]
    have L2 := Lib.hid (L1.out.call hb)
    clear hb
    go_wp2_with fail
    refine (own_q HGO.out (by omega) (H4.out.below (below_le L2.out.bel hB)) (by have := L2.out.size; omega)).mono ?_
    rintro e W3 ⟨rfl, hb⟩
    have L3 := Lib.hid (L2.out.call hb)
    clear hb
    have hsz : w.heap.size + 1 < W3.heap.size := by have := L3.out.size; omega
    have hlb : b < W3.heap.size := by omega
    have c0 := L3.out.st
    obtain ⟨t0, t1, t2, t3, t4, t5, t6, t7, t8⟩ := L3.out.tb
    clear t2 t4 t5 t6 t7 t8
    have d0 := (L3.out.bel.cell (p := ⟨b, o + k.toNat, none⟩) (by simp only; omega)).trans HC.out
    go_wp2_with fail
    have hbk0 : Below W3.heap.size W3 W3.drew := (Below.refl _ _).drew
    have LD := Lib.hid (L3.out.call hbk0)
    have hlbd : b < W3.drew.heap.size := by have := LD.out.size; omega
    have hBd : B ≤ W3.drew.heap.size := by have := LD.out.size; omega
    clear t0
    go_region_held3 (fun w' => w'.cell? ⟨w.heap.size, 0, none⟩ = some (.slice (some ⟨b, o, none⟩) N cN) ∧ w'.cell? ⟨w.heap.size + 1, 1, none⟩ = some (.int .i64 x.s) ∧ w'.cell? ⟨w.heap.size + 1, 3, none⟩ = some (.int .i64 x.b) ∧ w'.cell? ⟨b, o + k.toNat, none⟩ = some (.slice A9 n9 c9)) (go_keep) (first | (go_at_call 36; (with_reducible refine (rules_q HR.out _).mono ?_); rintro e W4 ⟨he, hw⟩; subst he; subst hw) | (go_at_call 41; (with_reducible refine (latest_impl HX.out hn9 ((HV.out.below (below_le LD.out.bel hB)).more hBd) (Nat.le_refl _)).mono ?_); rintro e W5 ⟨he, hb'⟩; subst he; have L5 := Lib.hid (LD.out.call hb'); have c1 := L5.out.st; obtain ⟨_, t1b, _, t3b, _, _, _, _, _⟩ := L5.out.tb; have d1 := (hb'.cell (p := ⟨b, o + k.toNat, none⟩) hlbd).trans ((hbk0.cell (p := ⟨b, o + k.toNat, none⟩) hlb).trans d0); have hlb5 := Nat.lt_of_lt_of_le hlbd hb'.size) | (go_at_call 133; (with_reducible refine (wm_2 v x.b false _ Q1.out).mono ?_); rintro e W6 ⟨he, hb6⟩; rw [HM.out] at he; subst he; have L6 := Lib.hid (L5.out.call hb6); have c2 := L6.out.st; obtain ⟨_, t1c, _, t3c, _, _, _, _, _⟩ := L6.out.tb; have d2 := (hb6.cell (p := ⟨b, o + k.toNat, none⟩) hlb5).trans d1))
    all_goals
      clear c1 t1b t3b d1 c2 t1c t3c d2 c0 t1 t3 d0 hb' hb6 hbk0
      go_wp2_with fail
      go_ret
      exact ⟨rfl, L6.out.bel⟩
  have nf0 : (g != 0) = true := by simpa using o0
  have nf1 : (g != x.i) = true := by simpa using o1
  have e0 : q = true := by rw [← HQ.out]; exact tn_yes HGO.out o0 o1
  subst e0
  clear o0 o1
  go_enter Try.func17, Try.ntmps17
  go_wp2_with fail
  have hL := LS.mk2 w (.slice (some ⟨b, o, none⟩) N cN) 26 30 x A n c A2 n2 c2
  generalize ((w.alloc _).alloc _) = W0 at hL ⊢
  have L0 := Lib.hid hL
  have c0 := hL.st
  obtain ⟨t0, t1, t2, t3, t4, t5, t6, t7, t8⟩ := hL.tb
  clear hL
  go_wp2_with fail
  refine (impl_may x k (by omega) (by omega) (by omega) (H1.out.below (below_le L0.out.bel hB)) (H2.out.below (below_le L0.out.bel hB)) (H3.out.below (below_le L0.out.bel hB)) (by have := L0.out.size; omega)).mono ?_
  rintro e W1 ⟨rfl, hb⟩
  rw [HG.out]
  have L1 := Lib.hid (L0.out.call hb)
  clear hb c0 t0 t1 t2 t3 t4 t5 t6 t7 t8
  go_wp2_with fail
  refine (lka.impl_are (by omega) (H4.out.below (below_le L1.out.bel hB)) (by have := L1.out.size; omega)).mono ?_
  rintro e W2 ⟨rfl, hb⟩
  rw [HLK.out]
  have L2 := Lib.hid (L1.out.call hb)
  clear hb
  go_wp2_with fail
  refine (own_q HGO.out (by omega) (H4.out.below (below_le L2.out.bel hB)) (by have := L2.out.size; omega)).mono ?_
  rintro e W3 ⟨rfl, hb⟩
  have L3 := Lib.hid (L2.out.call hb)
  clear hb
  have hsz : w.heap.size + 1 < W3.heap.size := by have := L3.out.size; omega
  have hlb : b < W3.heap.size := by omega
  have c0 := L3.out.st
  obtain ⟨t0, t1, t2, t3, t4, t5, t6, t7, t8⟩ := L3.out.tb
  clear t2 t4 t5 t6 t7 t8
  have d0 := (L3.out.bel.cell (p := ⟨b, o + k.toNat, none⟩) (by simp only; omega)).trans HC.out
  go_wp2_with fail
  have hbk0 : Below W3.heap.size W3 W3.drew := (Below.refl _ _).drew
  have LD := Lib.hid (L3.out.call hbk0)
  have hlbd : b < W3.drew.heap.size := by have := LD.out.size; omega
  have hBd : B ≤ W3.drew.heap.size := by have := LD.out.size; omega
  clear t0
  go_region_held3 (fun w' => w'.cell? ⟨w.heap.size, 0, none⟩ = some (.slice (some ⟨b, o, none⟩) N cN) ∧ w'.cell? ⟨w.heap.size + 1, 1, none⟩ = some (.int .i64 x.s) ∧ w'.cell? ⟨w.heap.size + 1, 3, none⟩ = some (.int .i64 x.b) ∧ w'.cell? ⟨b, o + k.toNat, none⟩ = some (.slice A9 n9 c9)) (go_keep) (first | (go_at_call 36; (with_reducible refine (rules_q HR.out _).mono ?_); rintro e W4 ⟨he, hw⟩; subst he; subst hw) | (go_at_call 41; (with_reducible refine (latest_impl HX.out hn9 ((HV.out.below (below_le LD.out.bel hB)).more hBd) (Nat.le_refl _)).mono ?_); rintro e W5 ⟨he, hb'⟩; subst he; have L5 := Lib.hid (LD.out.call hb'); have c1 := L5.out.st; obtain ⟨_, t1b, _, t3b, _, _, _, _, _⟩ := L5.out.tb; have d1 := (hb'.cell (p := ⟨b, o + k.toNat, none⟩) hlbd).trans ((hbk0.cell (p := ⟨b, o + k.toNat, none⟩) hlb).trans d0); have hlb5 := Nat.lt_of_lt_of_le hlbd hb'.size) | (go_at_call 133; (with_reducible refine (wm_2 v x.b true _ Q1.out).mono ?_); rintro e W6 ⟨he, hb6⟩; rw [HM.out] at he; subst he; have L6 := Lib.hid (L5.out.call hb6); have c2 := L6.out.st; obtain ⟨_, t1c, _, t3c, _, _, _, _, _⟩ := L6.out.tb; have d2 := (hb6.cell (p := ⟨b, o + k.toNat, none⟩) hlb5).trans d1))
  all_goals
    clear c1 t1b t3b d1 c2 t1c t3c d2 c0 t1 t3 d0 hb' hb6 hbk0
    go_wp2_with fail
    go_ret
    exact ⟨rfl, L6.out.bel⟩
set_option maxRecDepth 100000 in
set_option maxHeartbeats 6400000 in
theorem impl_wc4 {w : World} {B n c n2 c2 N cN n3 c3 : Nat} {A A2 D A3 : Option Addr} {R S L : List E2} {C : List (List Ver)} (x : Hd) (k : Int) (hn : n ≤ 1048576) (hn2 : n2 ≤ 1048576) (hN : N ≤ 1048576) (hn3 : n3 ≤ 1048576) (h1 : Vs w B A n R) (h2 : Vs w B A2 n2 S) (h3 : Rs w B D N C) (h4 : Vs w B A3 n3 L) (hB : B ≤ w.heap.size) (q1 : x.s = 4) (hr : ruV x.s = .iface 116 (.agg #[])) (HG : Hid (gdB C x R S k = true)) (HLK : Hid (lkB L = true)) :
    Calls Try.prog 17 #[.agg #[.slice D N cN], .slice A3 n3 c3, .agg #[.int .i64 x.i, .int .i64 x.s, .int .i64 x.t, .int .i64 x.b, .int .i64 x.l, .int .i64 x.h, .int .i64 x.c, .slice A n c, .slice A2 n2 c2], .int .i64 k] w fun e w' => e = .returned (.int .i64 (wcI C L x R S k)) ∧ Below w.heap.size w w' := by
  have H1 := Lib.hid h1
  have H2 := Lib.hid h2
  have H3 := Lib.hid h3
  have H4 := Lib.hid h4
  have hln := h1.1
  have hln2 := h2.1
  have hln3 := h3.1
  have hln4 := h4.1
  clear h1 h2 h3 h4
  obtain ⟨i, hi⟩ : ∃ i, wcI C L x R S k = i := ⟨_, rfl⟩
  rw [hi]
  have HI := Lib.hid hi
  clear hi
  have HR := Lib.hid hr
  have Q1 := Lib.hid q1
  have m1 := mt_wc4
  have m2 := na_wc4
  clear hr q1
  obtain ⟨hst, htx, hxt, hin⟩ := gd_parts HG.out
  have hk := in_yes hin
  have hsix := val.st_six hst
  obtain ⟨b, o, l, A9, n9, c9, rfl, hbB, hl, hcell, hn9, hv⟩ := H3.out.at_ (k := k.toNat) (by omega)
  have HC := Lib.hid hcell
  have HV := Lib.hid hv
  obtain ⟨v, hlv⟩ : ∃ v, lastV l = v := ⟨_, rfl⟩
  have HX := Lib.hid hlv
  obtain ⟨q, hq⟩ : ∃ q, tnB L x k = q := ⟨_, rfl⟩
  have HM : Hid (wcM x.s v.c v.d x.b q = i) := Lib.hid (by rw [wc_m HG.out HLK.out hl hlv hq]; exact HI.out)
  have HQ := Lib.hid hq
  have t0k : (k.toNat : Int) = k := by omega
  have t1k : (0 : Int) ≤ k := by omega
  have t2k : k < (N : Int) := by omega
  obtain ⟨g, hg⟩ : ∃ g, ownI k L = g := ⟨_, rfl⟩
  have HGO := Lib.hid hg
  clear hst htx hxt hin hsix hl hcell hv HI hlv hq hg
  by_cases o0 : g = 0
  · have nf0 : (g != 0) = false := by simp [o0]
    have e0 : q = false := by rw [← HQ.out]; exact tn_0 HGO.out o0
    subst e0
    clear o0
    go_enter Try.func17, Try.ntmps17
    go_wp2_with fail
    have hL := LS.mk2 w (.slice (some ⟨b, o, none⟩) N cN) 26 30 x A n c A2 n2 c2
    generalize ((w.alloc _).alloc _) = W0 at hL ⊢
    have L0 := Lib.hid hL
    have c0 := hL.st
    obtain ⟨t0, t1, t2, t3, t4, t5, t6, t7, t8⟩ := hL.tb
    clear hL
    go_wp2_with fail
    refine (impl_may x k (by omega) (by omega) (by omega) (H1.out.below (below_le L0.out.bel hB)) (H2.out.below (below_le L0.out.bel hB)) (H3.out.below (below_le L0.out.bel hB)) (by have := L0.out.size; omega)).mono ?_
    rintro e W1 ⟨rfl, hb⟩
    rw [HG.out]
    have L1 := Lib.hid (L0.out.call hb)
    clear hb c0 t0 t1 t2 t3 t4 t5 t6 t7 t8
    go_wp2_with fail
    refine (lka.impl_are (by omega) (H4.out.below (below_le L1.out.bel hB)) (by have := L1.out.size; omega)).mono ?_
    rintro e W2 ⟨rfl, hb⟩
    rw [HLK.out]
    have L2 := Lib.hid (L1.out.call hb)
    clear hb
    go_wp2_with fail
    refine (own_q HGO.out (by omega) (H4.out.below (below_le L2.out.bel hB)) (by have := L2.out.size; omega)).mono ?_
    rintro e W3 ⟨rfl, hb⟩
    have L3 := Lib.hid (L2.out.call hb)
    clear hb
    have hsz : w.heap.size + 1 < W3.heap.size := by have := L3.out.size; omega
    have hlb : b < W3.heap.size := by omega
    have c0 := L3.out.st
    obtain ⟨t0, t1, t2, t3, t4, t5, t6, t7, t8⟩ := L3.out.tb
    clear t2 t4 t5 t6 t7 t8
    have d0 := (L3.out.bel.cell (p := ⟨b, o + k.toNat, none⟩) (by simp only; omega)).trans HC.out
    go_wp2_with fail
    have hbk0 : Below W3.heap.size W3 W3.drew := (Below.refl _ _).drew
    have LD := Lib.hid (L3.out.call hbk0)
    have hlbd : b < W3.drew.heap.size := by have := LD.out.size; omega
    have hBd : B ≤ W3.drew.heap.size := by have := LD.out.size; omega
    clear t0
    go_region_held3 (fun w' => w'.cell? ⟨w.heap.size, 0, none⟩ = some (.slice (some ⟨b, o, none⟩) N cN) ∧ w'.cell? ⟨w.heap.size + 1, 1, none⟩ = some (.int .i64 x.s) ∧ w'.cell? ⟨w.heap.size + 1, 3, none⟩ = some (.int .i64 x.b) ∧ w'.cell? ⟨b, o + k.toNat, none⟩ = some (.slice A9 n9 c9)) (go_keep) (first | (go_at_call 36; (with_reducible refine (rules_q HR.out _).mono ?_); rintro e W4 ⟨he, hw⟩; subst he; subst hw) | (go_at_call 41; (with_reducible refine (latest_impl HX.out hn9 ((HV.out.below (below_le LD.out.bel hB)).more hBd) (Nat.le_refl _)).mono ?_); rintro e W5 ⟨he, hb'⟩; subst he; have L5 := Lib.hid (LD.out.call hb'); have c1 := L5.out.st; obtain ⟨_, t1b, _, t3b, _, _, _, _, _⟩ := L5.out.tb; have d1 := (hb'.cell (p := ⟨b, o + k.toNat, none⟩) hlbd).trans ((hbk0.cell (p := ⟨b, o + k.toNat, none⟩) hlb).trans d0); have hlb5 := Nat.lt_of_lt_of_le hlbd hb'.size) | (go_at_call 137; (with_reducible refine (wm_4 v x.b false _ Q1.out).mono ?_); rintro e W6 ⟨he, hb6⟩; rw [HM.out] at he; subst he; have L6 := Lib.hid (L5.out.call hb6); have c2 := L6.out.st; obtain ⟨_, t1c, _, t3c, _, _, _, _, _⟩ := L6.out.tb; have d2 := (hb6.cell (p := ⟨b, o + k.toNat, none⟩) hlb5).trans d1))
    all_goals
      clear c1 t1b t3b d1 c2 t1c t3c d2 c0 t1 t3 d0 hb' hb6 hbk0
      go_wp2_with fail
      go_ret
      exact ⟨rfl, L6.out.bel⟩
  by_cases o1 : g = x.i
  · have nf0 : (g != 0) = true := by simpa using o0
    have nf1 : (g != x.i) = false := by simp [o1]
    have e0 : q = false := by rw [← HQ.out]; exact tn_own HGO.out o1
    subst e0
    clear o0 o1
    go_enter Try.func17, Try.ntmps17
    go_wp2_with fail
    have hL := LS.mk2 w (.slice (some ⟨b, o, none⟩) N cN) 26 30 x A n c A2 n2 c2
    generalize ((w.alloc _).alloc _) = W0 at hL ⊢
    have L0 := Lib.hid hL
    have c0 := hL.st
    obtain ⟨t0, t1, t2, t3, t4, t5, t6, t7, t8⟩ := hL.tb
    clear hL
    go_wp2_with fail
    refine (impl_may x k (by omega) (by omega) (by omega) (H1.out.below (below_le L0.out.bel hB)) (H2.out.below (below_le L0.out.bel hB)) (H3.out.below (below_le L0.out.bel hB)) (by have := L0.out.size; omega)).mono ?_
    rintro e W1 ⟨rfl, hb⟩
    rw [HG.out]
    have L1 := Lib.hid (L0.out.call hb)
    clear hb c0 t0 t1 t2 t3 t4 t5 t6 t7 t8
    go_wp2_with fail
    refine (lka.impl_are (by omega) (H4.out.below (below_le L1.out.bel hB)) (by have := L1.out.size; omega)).mono ?_
    rintro e W2 ⟨rfl, hb⟩
    rw [HLK.out]
    have L2 := Lib.hid (L1.out.call hb)
    clear hb
    go_wp2_with fail
    refine (own_q HGO.out (by omega) (H4.out.below (below_le L2.out.bel hB)) (by have := L2.out.size; omega)).mono ?_
    rintro e W3 ⟨rfl, hb⟩
    have L3 := Lib.hid (L2.out.call hb)
    clear hb
    have hsz : w.heap.size + 1 < W3.heap.size := by have := L3.out.size; omega
    have hlb : b < W3.heap.size := by omega
    have c0 := L3.out.st
    obtain ⟨t0, t1, t2, t3, t4, t5, t6, t7, t8⟩ := L3.out.tb
    clear t2 t4 t5 t6 t7 t8
    have d0 := (L3.out.bel.cell (p := ⟨b, o + k.toNat, none⟩) (by simp only; omega)).trans HC.out
    go_wp2_with fail
    have hbk0 : Below W3.heap.size W3 W3.drew := (Below.refl _ _).drew
    have LD := Lib.hid (L3.out.call hbk0)
    have hlbd : b < W3.drew.heap.size := by have := LD.out.size; omega
    have hBd : B ≤ W3.drew.heap.size := by have := LD.out.size; omega
    clear t0
    go_region_held3 (fun w' => w'.cell? ⟨w.heap.size, 0, none⟩ = some (.slice (some ⟨b, o, none⟩) N cN) ∧ w'.cell? ⟨w.heap.size + 1, 1, none⟩ = some (.int .i64 x.s) ∧ w'.cell? ⟨w.heap.size + 1, 3, none⟩ = some (.int .i64 x.b) ∧ w'.cell? ⟨b, o + k.toNat, none⟩ = some (.slice A9 n9 c9)) (go_keep) (first | (go_at_call 36; (with_reducible refine (rules_q HR.out _).mono ?_); rintro e W4 ⟨he, hw⟩; subst he; subst hw) | (go_at_call 41; (with_reducible refine (latest_impl HX.out hn9 ((HV.out.below (below_le LD.out.bel hB)).more hBd) (Nat.le_refl _)).mono ?_); rintro e W5 ⟨he, hb'⟩; subst he; have L5 := Lib.hid (LD.out.call hb'); have c1 := L5.out.st; obtain ⟨_, t1b, _, t3b, _, _, _, _, _⟩ := L5.out.tb; have d1 := (hb'.cell (p := ⟨b, o + k.toNat, none⟩) hlbd).trans ((hbk0.cell (p := ⟨b, o + k.toNat, none⟩) hlb).trans d0); have hlb5 := Nat.lt_of_lt_of_le hlbd hb'.size) | (go_at_call 137; (with_reducible refine (wm_4 v x.b false _ Q1.out).mono ?_); rintro e W6 ⟨he, hb6⟩; rw [HM.out] at he; subst he; have L6 := Lib.hid (L5.out.call hb6); have c2 := L6.out.st; obtain ⟨_, t1c, _, t3c, _, _, _, _, _⟩ := L6.out.tb; have d2 := (hb6.cell (p := ⟨b, o + k.toNat, none⟩) hlb5).trans d1))
    all_goals
      clear c1 t1b t3b d1 c2 t1c t3c d2 c0 t1 t3 d0 hb' hb6 hbk0
      go_wp2_with fail
      go_ret
      exact ⟨rfl, L6.out.bel⟩
  have nf0 : (g != 0) = true := by simpa using o0
  have nf1 : (g != x.i) = true := by simpa using o1
  have e0 : q = true := by rw [← HQ.out]; exact tn_yes HGO.out o0 o1
  subst e0
  clear o0 o1
  go_enter Try.func17, Try.ntmps17
  go_wp2_with fail
  have hL := LS.mk2 w (.slice (some ⟨b, o, none⟩) N cN) 26 30 x A n c A2 n2 c2
  generalize ((w.alloc _).alloc _) = W0 at hL ⊢
  have L0 := Lib.hid hL
  have c0 := hL.st
  obtain ⟨t0, t1, t2, t3, t4, t5, t6, t7, t8⟩ := hL.tb
  clear hL
  go_wp2_with fail
  refine (impl_may x k (by omega) (by omega) (by omega) (H1.out.below (below_le L0.out.bel hB)) (H2.out.below (below_le L0.out.bel hB)) (H3.out.below (below_le L0.out.bel hB)) (by have := L0.out.size; omega)).mono ?_
  rintro e W1 ⟨rfl, hb⟩
  rw [HG.out]
  have L1 := Lib.hid (L0.out.call hb)
  clear hb c0 t0 t1 t2 t3 t4 t5 t6 t7 t8
  go_wp2_with fail
  refine (lka.impl_are (by omega) (H4.out.below (below_le L1.out.bel hB)) (by have := L1.out.size; omega)).mono ?_
  rintro e W2 ⟨rfl, hb⟩
  rw [HLK.out]
  have L2 := Lib.hid (L1.out.call hb)
  clear hb
  go_wp2_with fail
  refine (own_q HGO.out (by omega) (H4.out.below (below_le L2.out.bel hB)) (by have := L2.out.size; omega)).mono ?_
  rintro e W3 ⟨rfl, hb⟩
  have L3 := Lib.hid (L2.out.call hb)
  clear hb
  have hsz : w.heap.size + 1 < W3.heap.size := by have := L3.out.size; omega
  have hlb : b < W3.heap.size := by omega
  have c0 := L3.out.st
  obtain ⟨t0, t1, t2, t3, t4, t5, t6, t7, t8⟩ := L3.out.tb
  clear t2 t4 t5 t6 t7 t8
  have d0 := (L3.out.bel.cell (p := ⟨b, o + k.toNat, none⟩) (by simp only; omega)).trans HC.out
  go_wp2_with fail
  have hbk0 : Below W3.heap.size W3 W3.drew := (Below.refl _ _).drew
  have LD := Lib.hid (L3.out.call hbk0)
  have hlbd : b < W3.drew.heap.size := by have := LD.out.size; omega
  have hBd : B ≤ W3.drew.heap.size := by have := LD.out.size; omega
  clear t0
  go_region_held3 (fun w' => w'.cell? ⟨w.heap.size, 0, none⟩ = some (.slice (some ⟨b, o, none⟩) N cN) ∧ w'.cell? ⟨w.heap.size + 1, 1, none⟩ = some (.int .i64 x.s) ∧ w'.cell? ⟨w.heap.size + 1, 3, none⟩ = some (.int .i64 x.b) ∧ w'.cell? ⟨b, o + k.toNat, none⟩ = some (.slice A9 n9 c9)) (go_keep) (first | (go_at_call 36; (with_reducible refine (rules_q HR.out _).mono ?_); rintro e W4 ⟨he, hw⟩; subst he; subst hw) | (go_at_call 41; (with_reducible refine (latest_impl HX.out hn9 ((HV.out.below (below_le LD.out.bel hB)).more hBd) (Nat.le_refl _)).mono ?_); rintro e W5 ⟨he, hb'⟩; subst he; have L5 := Lib.hid (LD.out.call hb'); have c1 := L5.out.st; obtain ⟨_, t1b, _, t3b, _, _, _, _, _⟩ := L5.out.tb; have d1 := (hb'.cell (p := ⟨b, o + k.toNat, none⟩) hlbd).trans ((hbk0.cell (p := ⟨b, o + k.toNat, none⟩) hlb).trans d0); have hlb5 := Nat.lt_of_lt_of_le hlbd hb'.size) | (go_at_call 137; (with_reducible refine (wm_4 v x.b true _ Q1.out).mono ?_); rintro e W6 ⟨he, hb6⟩; rw [HM.out] at he; subst he; have L6 := Lib.hid (L5.out.call hb6); have c2 := L6.out.st; obtain ⟨_, t1c, _, t3c, _, _, _, _, _⟩ := L6.out.tb; have d2 := (hb6.cell (p := ⟨b, o + k.toNat, none⟩) hlb5).trans d1))
  all_goals
    clear c1 t1b t3b d1 c2 t1c t3c d2 c0 t1 t3 d0 hb' hb6 hbk0
    go_wp2_with fail
    go_ret
    exact ⟨rfl, L6.out.bel⟩
set_option maxRecDepth 100000 in
set_option maxHeartbeats 6400000 in
theorem impl_wc0 {w : World} {B n c n2 c2 N cN n3 c3 : Nat} {A A2 D A3 : Option Addr} {R S L : List E2} {C : List (List Ver)} (x : Hd) (k : Int) (hn : n ≤ 1048576) (hn2 : n2 ≤ 1048576) (hN : N ≤ 1048576) (hn3 : n3 ≤ 1048576) (h1 : Vs w B A n R) (h2 : Vs w B A2 n2 S) (h3 : Rs w B D N C) (h4 : Vs w B A3 n3 L) (hB : B ≤ w.heap.size) (q1 : x.s ≠ 1 ∧ x.s ≠ 2 ∧ x.s ≠ 4) (hr : ruV x.s = .iface 112 (.agg #[])) (HG : Hid (gdB C x R S k = true)) (HLK : Hid (lkB L = true)) :
    Calls Try.prog 17 #[.agg #[.slice D N cN], .slice A3 n3 c3, .agg #[.int .i64 x.i, .int .i64 x.s, .int .i64 x.t, .int .i64 x.b, .int .i64 x.l, .int .i64 x.h, .int .i64 x.c, .slice A n c, .slice A2 n2 c2], .int .i64 k] w fun e w' => e = .returned (.int .i64 (wcI C L x R S k)) ∧ Below w.heap.size w w' := by
  have H1 := Lib.hid h1
  have H2 := Lib.hid h2
  have H3 := Lib.hid h3
  have H4 := Lib.hid h4
  have hln := h1.1
  have hln2 := h2.1
  have hln3 := h3.1
  have hln4 := h4.1
  clear h1 h2 h3 h4
  obtain ⟨i, hi⟩ : ∃ i, wcI C L x R S k = i := ⟨_, rfl⟩
  rw [hi]
  have HI := Lib.hid hi
  clear hi
  have HR := Lib.hid hr
  have Q1 := Lib.hid q1
  have m1 := mt_wc0
  have m2 := na_wc0
  clear hr q1
  obtain ⟨hst, htx, hxt, hin⟩ := gd_parts HG.out
  have hk := in_yes hin
  have hsix := val.st_six hst
  obtain ⟨b, o, l, A9, n9, c9, rfl, hbB, hl, hcell, hn9, hv⟩ := H3.out.at_ (k := k.toNat) (by omega)
  have HC := Lib.hid hcell
  have HV := Lib.hid hv
  obtain ⟨v, hlv⟩ : ∃ v, lastV l = v := ⟨_, rfl⟩
  have HX := Lib.hid hlv
  obtain ⟨q, hq⟩ : ∃ q, tnB L x k = q := ⟨_, rfl⟩
  have HM : Hid (wcM x.s v.c v.d x.b q = i) := Lib.hid (by rw [wc_m HG.out HLK.out hl hlv hq]; exact HI.out)
  have HQ := Lib.hid hq
  have t0k : (k.toNat : Int) = k := by omega
  have t1k : (0 : Int) ≤ k := by omega
  have t2k : k < (N : Int) := by omega
  obtain ⟨g, hg⟩ : ∃ g, ownI k L = g := ⟨_, rfl⟩
  have HGO := Lib.hid hg
  clear hst htx hxt hin hsix hl hcell hv HI hlv hq hg
  by_cases o0 : g = 0
  · have nf0 : (g != 0) = false := by simp [o0]
    have e0 : q = false := by rw [← HQ.out]; exact tn_0 HGO.out o0
    subst e0
    clear o0
    go_enter Try.func17, Try.ntmps17
    go_wp2_with fail
    have hL := LS.mk2 w (.slice (some ⟨b, o, none⟩) N cN) 26 30 x A n c A2 n2 c2
    generalize ((w.alloc _).alloc _) = W0 at hL ⊢
    have L0 := Lib.hid hL
    have c0 := hL.st
    obtain ⟨t0, t1, t2, t3, t4, t5, t6, t7, t8⟩ := hL.tb
    clear hL
    go_wp2_with fail
    refine (impl_may x k (by omega) (by omega) (by omega) (H1.out.below (below_le L0.out.bel hB)) (H2.out.below (below_le L0.out.bel hB)) (H3.out.below (below_le L0.out.bel hB)) (by have := L0.out.size; omega)).mono ?_
    rintro e W1 ⟨rfl, hb⟩
    rw [HG.out]
    have L1 := Lib.hid (L0.out.call hb)
    clear hb c0 t0 t1 t2 t3 t4 t5 t6 t7 t8
    go_wp2_with fail
    refine (lka.impl_are (by omega) (H4.out.below (below_le L1.out.bel hB)) (by have := L1.out.size; omega)).mono ?_
    rintro e W2 ⟨rfl, hb⟩
    rw [HLK.out]
    have L2 := Lib.hid (L1.out.call hb)
    clear hb
    go_wp2_with fail
    refine (own_q HGO.out (by omega) (H4.out.below (below_le L2.out.bel hB)) (by have := L2.out.size; omega)).mono ?_
    rintro e W3 ⟨rfl, hb⟩
    have L3 := Lib.hid (L2.out.call hb)
    clear hb
    have hsz : w.heap.size + 1 < W3.heap.size := by have := L3.out.size; omega
    have hlb : b < W3.heap.size := by omega
    have c0 := L3.out.st
    obtain ⟨t0, t1, t2, t3, t4, t5, t6, t7, t8⟩ := L3.out.tb
    clear t2 t4 t5 t6 t7 t8
    have d0 := (L3.out.bel.cell (p := ⟨b, o + k.toNat, none⟩) (by simp only; omega)).trans HC.out
    go_wp2_with fail
    have hbk0 : Below W3.heap.size W3 W3.drew := (Below.refl _ _).drew
    have LD := Lib.hid (L3.out.call hbk0)
    have hlbd : b < W3.drew.heap.size := by have := LD.out.size; omega
    have hBd : B ≤ W3.drew.heap.size := by have := LD.out.size; omega
    clear t0
    go_region_held3 (fun w' => w'.cell? ⟨w.heap.size, 0, none⟩ = some (.slice (some ⟨b, o, none⟩) N cN) ∧ w'.cell? ⟨w.heap.size + 1, 1, none⟩ = some (.int .i64 x.s) ∧ w'.cell? ⟨w.heap.size + 1, 3, none⟩ = some (.int .i64 x.b) ∧ w'.cell? ⟨b, o + k.toNat, none⟩ = some (.slice A9 n9 c9)) (go_keep) (first | (go_at_call 36; (with_reducible refine (rules_q HR.out _).mono ?_); rintro e W4 ⟨he, hw⟩; subst he; subst hw) | (go_at_call 41; (with_reducible refine (latest_impl HX.out hn9 ((HV.out.below (below_le LD.out.bel hB)).more hBd) (Nat.le_refl _)).mono ?_); rintro e W5 ⟨he, hb'⟩; subst he; have L5 := Lib.hid (LD.out.call hb'); have c1 := L5.out.st; obtain ⟨_, t1b, _, t3b, _, _, _, _, _⟩ := L5.out.tb; have d1 := (hb'.cell (p := ⟨b, o + k.toNat, none⟩) hlbd).trans ((hbk0.cell (p := ⟨b, o + k.toNat, none⟩) hlb).trans d0); have hlb5 := Nat.lt_of_lt_of_le hlbd hb'.size) | (go_at_call 127; (with_reducible refine (wm_0 v x.b false _ Q1.out.1 Q1.out.2.1 Q1.out.2.2).mono ?_); rintro e W6 ⟨he, hb6⟩; rw [HM.out] at he; subst he; have L6 := Lib.hid (L5.out.call hb6); have c2 := L6.out.st; obtain ⟨_, t1c, _, t3c, _, _, _, _, _⟩ := L6.out.tb; have d2 := (hb6.cell (p := ⟨b, o + k.toNat, none⟩) hlb5).trans d1))
    all_goals
      clear c1 t1b t3b d1 c2 t1c t3c d2 c0 t1 t3 d0 hb' hb6 hbk0
      go_wp2_with fail
      go_ret
      exact ⟨rfl, L6.out.bel⟩
  by_cases o1 : g = x.i
  · have nf0 : (g != 0) = true := by simpa using o0
    have nf1 : (g != x.i) = false := by simp [o1]
    have e0 : q = false := by rw [← HQ.out]; exact tn_own HGO.out o1
    subst e0
    clear o0 o1
    go_enter Try.func17, Try.ntmps17
    go_wp2_with fail
    have hL := LS.mk2 w (.slice (some ⟨b, o, none⟩) N cN) 26 30 x A n c A2 n2 c2
    generalize ((w.alloc _).alloc _) = W0 at hL ⊢
    have L0 := Lib.hid hL
    have c0 := hL.st
    obtain ⟨t0, t1, t2, t3, t4, t5, t6, t7, t8⟩ := hL.tb
    clear hL
    go_wp2_with fail
    refine (impl_may x k (by omega) (by omega) (by omega) (H1.out.below (below_le L0.out.bel hB)) (H2.out.below (below_le L0.out.bel hB)) (H3.out.below (below_le L0.out.bel hB)) (by have := L0.out.size; omega)).mono ?_
    rintro e W1 ⟨rfl, hb⟩
    rw [HG.out]
    have L1 := Lib.hid (L0.out.call hb)
    clear hb c0 t0 t1 t2 t3 t4 t5 t6 t7 t8
    go_wp2_with fail
    refine (lka.impl_are (by omega) (H4.out.below (below_le L1.out.bel hB)) (by have := L1.out.size; omega)).mono ?_
    rintro e W2 ⟨rfl, hb⟩
    rw [HLK.out]
    have L2 := Lib.hid (L1.out.call hb)
    clear hb
    go_wp2_with fail
    refine (own_q HGO.out (by omega) (H4.out.below (below_le L2.out.bel hB)) (by have := L2.out.size; omega)).mono ?_
    rintro e W3 ⟨rfl, hb⟩
    have L3 := Lib.hid (L2.out.call hb)
    clear hb
    have hsz : w.heap.size + 1 < W3.heap.size := by have := L3.out.size; omega
    have hlb : b < W3.heap.size := by omega
    have c0 := L3.out.st
    obtain ⟨t0, t1, t2, t3, t4, t5, t6, t7, t8⟩ := L3.out.tb
    clear t2 t4 t5 t6 t7 t8
    have d0 := (L3.out.bel.cell (p := ⟨b, o + k.toNat, none⟩) (by simp only; omega)).trans HC.out
    go_wp2_with fail
    have hbk0 : Below W3.heap.size W3 W3.drew := (Below.refl _ _).drew
    have LD := Lib.hid (L3.out.call hbk0)
    have hlbd : b < W3.drew.heap.size := by have := LD.out.size; omega
    have hBd : B ≤ W3.drew.heap.size := by have := LD.out.size; omega
    clear t0
    go_region_held3 (fun w' => w'.cell? ⟨w.heap.size, 0, none⟩ = some (.slice (some ⟨b, o, none⟩) N cN) ∧ w'.cell? ⟨w.heap.size + 1, 1, none⟩ = some (.int .i64 x.s) ∧ w'.cell? ⟨w.heap.size + 1, 3, none⟩ = some (.int .i64 x.b) ∧ w'.cell? ⟨b, o + k.toNat, none⟩ = some (.slice A9 n9 c9)) (go_keep) (first | (go_at_call 36; (with_reducible refine (rules_q HR.out _).mono ?_); rintro e W4 ⟨he, hw⟩; subst he; subst hw) | (go_at_call 41; (with_reducible refine (latest_impl HX.out hn9 ((HV.out.below (below_le LD.out.bel hB)).more hBd) (Nat.le_refl _)).mono ?_); rintro e W5 ⟨he, hb'⟩; subst he; have L5 := Lib.hid (LD.out.call hb'); have c1 := L5.out.st; obtain ⟨_, t1b, _, t3b, _, _, _, _, _⟩ := L5.out.tb; have d1 := (hb'.cell (p := ⟨b, o + k.toNat, none⟩) hlbd).trans ((hbk0.cell (p := ⟨b, o + k.toNat, none⟩) hlb).trans d0); have hlb5 := Nat.lt_of_lt_of_le hlbd hb'.size) | (go_at_call 127; (with_reducible refine (wm_0 v x.b false _ Q1.out.1 Q1.out.2.1 Q1.out.2.2).mono ?_); rintro e W6 ⟨he, hb6⟩; rw [HM.out] at he; subst he; have L6 := Lib.hid (L5.out.call hb6); have c2 := L6.out.st; obtain ⟨_, t1c, _, t3c, _, _, _, _, _⟩ := L6.out.tb; have d2 := (hb6.cell (p := ⟨b, o + k.toNat, none⟩) hlb5).trans d1))
    all_goals
      clear c1 t1b t3b d1 c2 t1c t3c d2 c0 t1 t3 d0 hb' hb6 hbk0
      go_wp2_with fail
      go_ret
      exact ⟨rfl, L6.out.bel⟩
  have nf0 : (g != 0) = true := by simpa using o0
  have nf1 : (g != x.i) = true := by simpa using o1
  have e0 : q = true := by rw [← HQ.out]; exact tn_yes HGO.out o0 o1
  subst e0
  clear o0 o1
  go_enter Try.func17, Try.ntmps17
  go_wp2_with fail
  have hL := LS.mk2 w (.slice (some ⟨b, o, none⟩) N cN) 26 30 x A n c A2 n2 c2
  generalize ((w.alloc _).alloc _) = W0 at hL ⊢
  have L0 := Lib.hid hL
  have c0 := hL.st
  obtain ⟨t0, t1, t2, t3, t4, t5, t6, t7, t8⟩ := hL.tb
  clear hL
  go_wp2_with fail
  refine (impl_may x k (by omega) (by omega) (by omega) (H1.out.below (below_le L0.out.bel hB)) (H2.out.below (below_le L0.out.bel hB)) (H3.out.below (below_le L0.out.bel hB)) (by have := L0.out.size; omega)).mono ?_
  rintro e W1 ⟨rfl, hb⟩
  rw [HG.out]
  have L1 := Lib.hid (L0.out.call hb)
  clear hb c0 t0 t1 t2 t3 t4 t5 t6 t7 t8
  go_wp2_with fail
  refine (lka.impl_are (by omega) (H4.out.below (below_le L1.out.bel hB)) (by have := L1.out.size; omega)).mono ?_
  rintro e W2 ⟨rfl, hb⟩
  rw [HLK.out]
  have L2 := Lib.hid (L1.out.call hb)
  clear hb
  go_wp2_with fail
  refine (own_q HGO.out (by omega) (H4.out.below (below_le L2.out.bel hB)) (by have := L2.out.size; omega)).mono ?_
  rintro e W3 ⟨rfl, hb⟩
  have L3 := Lib.hid (L2.out.call hb)
  clear hb
  have hsz : w.heap.size + 1 < W3.heap.size := by have := L3.out.size; omega
  have hlb : b < W3.heap.size := by omega
  have c0 := L3.out.st
  obtain ⟨t0, t1, t2, t3, t4, t5, t6, t7, t8⟩ := L3.out.tb
  clear t2 t4 t5 t6 t7 t8
  have d0 := (L3.out.bel.cell (p := ⟨b, o + k.toNat, none⟩) (by simp only; omega)).trans HC.out
  go_wp2_with fail
  have hbk0 : Below W3.heap.size W3 W3.drew := (Below.refl _ _).drew
  have LD := Lib.hid (L3.out.call hbk0)
  have hlbd : b < W3.drew.heap.size := by have := LD.out.size; omega
  have hBd : B ≤ W3.drew.heap.size := by have := LD.out.size; omega
  clear t0
  go_region_held3 (fun w' => w'.cell? ⟨w.heap.size, 0, none⟩ = some (.slice (some ⟨b, o, none⟩) N cN) ∧ w'.cell? ⟨w.heap.size + 1, 1, none⟩ = some (.int .i64 x.s) ∧ w'.cell? ⟨w.heap.size + 1, 3, none⟩ = some (.int .i64 x.b) ∧ w'.cell? ⟨b, o + k.toNat, none⟩ = some (.slice A9 n9 c9)) (go_keep) (first | (go_at_call 36; (with_reducible refine (rules_q HR.out _).mono ?_); rintro e W4 ⟨he, hw⟩; subst he; subst hw) | (go_at_call 41; (with_reducible refine (latest_impl HX.out hn9 ((HV.out.below (below_le LD.out.bel hB)).more hBd) (Nat.le_refl _)).mono ?_); rintro e W5 ⟨he, hb'⟩; subst he; have L5 := Lib.hid (LD.out.call hb'); have c1 := L5.out.st; obtain ⟨_, t1b, _, t3b, _, _, _, _, _⟩ := L5.out.tb; have d1 := (hb'.cell (p := ⟨b, o + k.toNat, none⟩) hlbd).trans ((hbk0.cell (p := ⟨b, o + k.toNat, none⟩) hlb).trans d0); have hlb5 := Nat.lt_of_lt_of_le hlbd hb'.size) | (go_at_call 127; (with_reducible refine (wm_0 v x.b true _ Q1.out.1 Q1.out.2.1 Q1.out.2.2).mono ?_); rintro e W6 ⟨he, hb6⟩; rw [HM.out] at he; subst he; have L6 := Lib.hid (L5.out.call hb6); have c2 := L6.out.st; obtain ⟨_, t1c, _, t3c, _, _, _, _, _⟩ := L6.out.tb; have d2 := (hb6.cell (p := ⟨b, o + k.toNat, none⟩) hlb5).trans d1))
  all_goals
    clear c1 t1b t3b d1 c2 t1c t3c d2 c0 t1 t3 d0 hb' hb6 hbk0
    go_wp2_with fail
    go_ret
    exact ⟨rfl, L6.out.bel⟩
set_option maxRecDepth 100000 in
set_option maxHeartbeats 3200000 in
theorem impl_wc {w : World} {B n c n2 c2 N cN n3 c3 : Nat} {A A2 D A3 : Option Addr} {R S L : List E2} {C : List (List Ver)} (x : Hd) (k : Int) (hn : n ≤ 1048576) (hn2 : n2 ≤ 1048576) (hN : N ≤ 1048576) (hn3 : n3 ≤ 1048576) (h1 : Vs w B A n R) (h2 : Vs w B A2 n2 S) (h3 : Rs w B D N C) (h4 : Vs w B A3 n3 L) (hB : B ≤ w.heap.size) :
    Calls Try.prog 17 #[.agg #[.slice D N cN], .slice A3 n3 c3, .agg #[.int .i64 x.i, .int .i64 x.s, .int .i64 x.t, .int .i64 x.b, .int .i64 x.l, .int .i64 x.h, .int .i64 x.c, .slice A n c, .slice A2 n2 c2], .int .i64 k] w fun e w' => e = .returned (.int .i64 (wcI C L x R S k)) ∧ Below w.heap.size w w' := by
  have H1 := Lib.hid h1
  have H2 := Lib.hid h2
  have H3 := Lib.hid h3
  have H4 := Lib.hid h4
  have hln := h1.1
  have hln2 := h2.1
  have hln3 := h3.1
  have hln4 := h4.1
  clear h1 h2 h3 h4
  obtain ⟨i, hi⟩ : ∃ i, wcI C L x R S k = i := ⟨_, rfl⟩
  have HI := Lib.hid hi
  clear hi
  obtain ⟨gq, hgq⟩ : ∃ q, gdB C x R S k = q := ⟨_, rfl⟩
  have HG := Lib.hid hgq
  clear hgq
  obtain ⟨lq, hlq⟩ : ∃ q, lkB L = q := ⟨_, rfl⟩
  have HLK := Lib.hid hlq
  clear hlq
  rw [HI.out]
  rcases gq with _ | _
  · have HE : Hid ((6 : Int) = i) := Lib.hid (by rw [← HI.out, wc_no (.inl HG.out)])
    go_enter Try.func17, Try.ntmps17
    go_wp2_with fail
    have hL := LS.mk2 w (.slice D N cN) 26 30 x A n c A2 n2 c2
    generalize ((w.alloc _).alloc _) = W0 at hL ⊢
    have L0 := Lib.hid hL
    have c0 := hL.st
    obtain ⟨t0, t1, t2, t3, t4, t5, t6, t7, t8⟩ := hL.tb
    clear hL
    go_wp2_with fail
    refine (impl_may x k (by omega) (by omega) (by omega) (H1.out.below (below_le L0.out.bel hB)) (H2.out.below (below_le L0.out.bel hB)) (H3.out.below (below_le L0.out.bel hB)) (by have := L0.out.size; omega)).mono ?_
    rintro e W1 ⟨rfl, hb⟩
    rw [HG.out]
    have L1 := Lib.hid (L0.out.call hb)
    clear hb c0 t0 t1 t2 t3 t4 t5 t6 t7 t8
    go_wp2_with fail
    go_ret
    exact ⟨ru.ret_i HE.out, L1.out.bel⟩
  rcases lq with _ | _
  · have HE : Hid ((6 : Int) = i) := Lib.hid (by rw [← HI.out, wc_no (.inr HLK.out)])
    go_enter Try.func17, Try.ntmps17
    go_wp2_with fail
    have hL := LS.mk2 w (.slice D N cN) 26 30 x A n c A2 n2 c2
    generalize ((w.alloc _).alloc _) = W0 at hL ⊢
    have L0 := Lib.hid hL
    have c0 := hL.st
    obtain ⟨t0, t1, t2, t3, t4, t5, t6, t7, t8⟩ := hL.tb
    clear hL
    go_wp2_with fail
    refine (impl_may x k (by omega) (by omega) (by omega) (H1.out.below (below_le L0.out.bel hB)) (H2.out.below (below_le L0.out.bel hB)) (H3.out.below (below_le L0.out.bel hB)) (by have := L0.out.size; omega)).mono ?_
    rintro e W1 ⟨rfl, hb⟩
    rw [HG.out]
    have L1 := Lib.hid (L0.out.call hb)
    clear hb c0 t0 t1 t2 t3 t4 t5 t6 t7 t8
    go_wp2_with fail
    refine (lka.impl_are (by omega) (H4.out.below (below_le L1.out.bel hB)) (by have := L1.out.size; omega)).mono ?_
    rintro e W2 ⟨rfl, hb⟩
    rw [HLK.out]
    have L2 := Lib.hid (L1.out.call hb)
    clear hb
    go_wp2_with fail
    go_ret
    exact ⟨ru.ret_i HE.out, L2.out.bel⟩
  rw [← HI.out]
  rcases ru_cases x.s with ⟨q1, hr⟩ | ⟨q1, hr⟩ | ⟨q1, hr⟩ | ⟨q1, hr⟩
  · exact impl_wc1 x k hn hn2 hN hn3 H1.out H2.out H3.out H4.out hB q1 hr HG HLK
  · exact impl_wc2 x k hn hn2 hN hn3 H1.out H2.out H3.out H4.out hB q1 hr HG HLK
  · exact impl_wc4 x k hn hn2 hN hn3 H1.out H2.out H3.out H4.out hB q1 hr HG HLK
  · exact impl_wc0 x k hn hn2 hN hn3 H1.out H2.out H3.out H4.out hB q1 hr HG HLK
end Go.Proofs.Ytdfhnngcddaccaa.wrc
