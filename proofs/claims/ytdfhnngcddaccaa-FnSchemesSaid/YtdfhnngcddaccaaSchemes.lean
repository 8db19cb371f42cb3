/- FnSchemes returns true at every code and writes nothing that was there. No condition. -/
import Derived.Test.YtdfhnngcddaccaaMga
import Derived.Test.YtdfhnngcddaccaaTvs
import Derived.WalkKit
import Derived.ProofKit
import Derived.Below
import Derived.Lib.Hide
import Derived.LoopTactic
import Derived.Deep.QuietTactic
import Derived.BigQuiet
import Derived.StillTailTactics
import Derived.Outline
import Derived.IntWalk
import Derived.Deep.RegionHeld3
import Derived.Deep.OwnRows
import Derived.Laws.Entries
import Derived.Test.YtdfhnngcddaccaaBx
import Derived.Test.YtdfhnngcddaccaaRx
import Derived.Test.YtdfhnngcddaccaaVers
import Derived.Deep.CutRange
import Derived.Laws.StructEq
import Derived.OpenShut
import Derived.ShutString
import Derived.ChangeOld
import Derived.Carry
import Derived.Deep.DeepHandedRow
/- WriteCode of the program and of the model: what each answers; nothing that was there is written. -/
namespace Go.Proofs.Ytdfhnngcddaccaa.wrc
open Go.ChangeShapes Go.WideShapes Go.ChangeAt Go.RowKit
open Go.Proofs.Ytdfhnngcddaccaa.el2 Go.Proofs.Ytdfhnngcddaccaa.tx Go.Proofs.Ytdfhnngcddaccaa.seq Go.Proofs.Ytdfhnngcddaccaa.tv Go.Proofs.Ytdfhnngcddaccaa.rx Go.Proofs.Ytdfhnngcddaccaa.ru Go.Proofs.Ytdfhnngcddaccaa.ruc Go.Proofs.Ytdfhnngcddaccaa.sc Go.Proofs.Ytdfhnngcddaccaa.cho Go.Proofs.Ytdfhnngcddaccaa.lk
open Go.Proofs.Ytdfhnngcddaccaa.vers (In in_yes in_no in_of in_off ret_b new2 new3)
open Go.Proofs.Ytdfhnngcddaccaa.sl (Ver)
open Go.Proofs.Ytdfhnngcddaccaa.st (Rs)
open Go.Proofs.Ytdfhnngcddaccaa.val (stB)
open Go.Proofs.Ytdfhnngcddaccaa.find (lastV vAt store5 below5 latest_spec latest_impl)
open Go.Proofs.Ytdfhnngcddaccaa.rd (rlB rlV rlV_yes)
set_option linter.unusedVariables false
set_option linter.unusedSimpArgs false
theorem tn_0 {L : List E2} {x : Hd} {k : Int} {n : Int} (h : ownI k L = n) (h0 : n = 0) : tnB L x k = false := by simp [tnB, h, h0]
theorem tn_own {L : List E2} {x : Hd} {k : Int} {n : Int} (h : ownI k L = n) (h1 : n = x.i) : tnB L x k = false := by simp [tnB, h, h1]
theorem tn_yes {L : List E2} {x : Hd} {k : Int} {n : Int} (h : ownI k L = n) (h0 : n ≠ 0) (h1 : n ≠ x.i) : tnB L x k = true := by simp [tnB, h, h0, h1]
theorem wc_m {C : List (List Ver)} {L : List E2} {x : Hd} {R S : List E2} {k : Int} {l : List Ver} {v : Ver} {q : Bool} (h : gdB C x R S k = true) (h2 : lkB L = true) (hl : C[k.toNat]? = some l) (hv : lastV l = v) (hq : tnB L x k = q) : wcM x.s v.c v.d x.b q = wcI C L x R S k := by
  have hr := rlV_yes (gd_rl h) hl
  rw [wc_yes h h2, hr, hv, hq]
  unfold wcM
  by_cases h1 : x.s = 1
  · have : x.s ≠ 2 := by omega
    have : x.s ≠ 4 := by omega
    cases q <;> simp [*]
  by_cases h3 : x.s = 2
  · have : x.s ≠ 4 := by omega
    cases q <;> by_cases hc : x.b < v.c <;> simp [*]
  by_cases h4 : x.s = 4
  · by_cases hc : x.b < v.c <;> by_cases hd : x.b < v.d <;> simp [*]
  · simp [*]
theorem own_q {w : World} {B n c : Nat} {A : Option Addr} {l : List E2} {key v : Int} (hv : ownI key l = v) (hn : n ≤ 140737488355328) (h1 : Vs w B A n l) (hB : B ≤ w.heap.size) :
    Calls Try.prog 44 #[.slice A n c, .int .i64 key] w fun e w' => e = .returned (.int .i64 v) ∧ Below w.heap.size w w' := by
  subst hv
  exact lkr.impl_owner key hn h1 hB
theorem own_s {w : World} {B n c : Nat} {A : Option Addr} {l : List E2} {key v : Int} (hv : ownI key l = v) (hn : n ≤ 140737488355328) (h1 : Vs w B A n l) (hB : B ≤ w.heap.size) :
    Calls Try.prog 46 #[.slice A n c, .int .i64 key] w fun e w' => e = .returned (.int .i64 v) ∧ w = w' := by
  subst hv
  exact lkr.spec_owner key hn h1 hB
set_option maxRecDepth 100000 in
set_option maxHeartbeats 6400000 in
theorem impl_wc1 {w : World} {B n c n2 c2 N cN n3 c3 : Nat} {A A2 D A3 : Option Addr} {R S L : List E2} {C : List (List Ver)} (x : Hd) (k : Int) (hn : n ≤ 1048576) (hn2 : n2 ≤ 1048576) (hN : N ≤ 1048576) (hn3 : n3 ≤ 1048576) (h1 : Vs w B A n R) (h2 : Vs w B A2 n2 S) (h3 : Rs w B D N C) (h4 : Vs w B A3 n3 L) (hB : B ≤ w.heap.size) (q1 : x.s = 1) (hr : ruV x.s = .iface 114 (.agg #[])) (HG : Hid (gdB C x R S k = true)) (HLK : Hid (lkB L = true)) :
    Calls Try.prog 17 #[.agg #[.slice D N cN], .slice A3 n3 c3, .agg #[.int .i64 x.i, .int .i64 x.s, .int .i64 x.t, .int .i64 x.b, .int .i64 x.l, .int .i64 x.h, .int .i64 x.c, .slice A n c, .slice A2 n2 c2], .int .i64 k] w fun e w' => e = .returned (.int .i64 (wcI C L x R S k)) ∧ Below w.heap.size w w' := by
  have H1 := Lib.hid h1
  have H2 := Lib.hid h2
  have H3 := Lib.hid h3
  have H4 := Lib.hid h4
  have hln := h1.1
  have hln2 := h2.1
  have hln3 := h3.1
  have hln4 := h4.1
  clear h1 h2 h3 h4
  obtain ⟨i, hi⟩ : ∃ i, wcI C L x R S k = i := ⟨_, rfl⟩
  rw [hi]
  have HI := Lib.hid hi
  clear hi
  have HR := Lib.hid hr
  have Q1 := Lib.hid q1
  have m1 := mt_wc1
  have m2 := na_wc1
  clear hr q1
  obtain ⟨hst, htx, hxt, hin⟩ := gd_parts HG.out
  have hk := in_yes hin
  have hsix := val.st_six hst
  obtain ⟨b, o, l, A9, n9, c9, rfl, hbB, hl, hcell, hn9, hv⟩ := H3.out.at_ (k := k.toNat) (by omega)
  have HC := Lib.hid hcell
  have HV := Lib.hid hv
  obtain ⟨v, hlv⟩ : ∃ v, lastV l = v := ⟨_, rfl⟩
  have HX := Lib.hid hlv
  obtain ⟨q, hq⟩ : ∃ q, tnB L x k = q := ⟨_, rfl⟩
  have HM : Hid (wcM x.s v.c v.d x.b q = i) := Lib.hid (by rw [wc_m HG.out HLK.out hl hlv hq]; exact HI.out)
  have HQ := Lib.hid hq
  have t0k : (k.toNat : Int) = k := by omega
  have t1k : (0 : Int) ≤ k := by omega
  have t2k : k < (N : Int) := by omega
  obtain ⟨g, hg⟩ : ∃ g, ownI k L = g := ⟨_, rfl⟩
  have HGO := Lib.hid hg
  clear hst htx hxt hin hsix hl hcell hv HI hlv hq hg
  by_cases o0 : g = 0
  · have nf0 : (g != 0) = false := by simp [o0]
    have e0 : q = false := by rw [← HQ.out]; exact tn_0 HGO.out o0
    subst e0
    clear o0
    go_enter Try.func17, Try.ntmps17
    go_wp2_with fail
    have hL := LS.mk2 w (.slice (some ⟨b, o, none⟩) N cN) 26 30 x A n c A2 n2 c2
    generalize ((w.alloc _).alloc _) = W0 at hL ⊢
    have L0 := Lib.hid hL
    have c0 := hL.st
    obtain ⟨t0, t1, t2, t3, t4, t5, t6, t7, t8⟩ := hL.tb
    clear hL
    go_wp2_with fail
    refine (impl_may x k (by omega) (by omega) (by omega) (H1.out.below (below_le L0.out.bel hB)) (H2.out.below (below_le L0.out.bel hB)) (H3.out.below (below_le L0.out.bel hB)) (by have := L0.out.size; omega)).mono ?_
    rintro e W1 ⟨rfl, hb⟩
    rw [HG.out]
    have L1 := Lib.hid (L0.out.call hb)
    clear hb c0 t0 t1 t2 t3 t4 t5 t6 t7 t8
    go_wp2_with fail
    refine (lka.impl_are (by omega) (H4.out.below (below_le L1.out.bel hB)) (by have := L1.out.size; omega)).mono ?_
    rintro e W2 ⟨rfl, hb⟩
    rw [HLK.out]
    have L2 := Lib.hid (L1.out.call hb)
    clear hb
    go_wp2_with fail
    refine (own_q HGO.out (by omega) (H4.out.below (below_le L2.out.bel hB)) (by have := L2.out.size; omega)).mono ?_
    rintro e W3 ⟨rfl, hb⟩
    have L3 := Lib.hid (L2.out.call hb)
    clear hb
    have hsz : w.heap.size + 1 < W3.heap.size := by have := L3.out.size; omega
    have hlb : b < W3.heap.size := by omega
    have c0 := L3.out.st
    obtain ⟨t0, t1, t2, t3, t4, t5, t6, t7, t8⟩ := L3.out.tb
    clear t2 t4 t5 t6 t7 t8
    have d0 := (L3.out.bel.cell (p := ⟨b, o + k.toNat, none⟩) (by simp only; omega)).trans HC.out
    go_wp2_with fail
    have hbk0 : Below W3.heap.size W3 W3.drew := (Below.refl _ _).drew
    have LD := Lib.hid (L3.out.call hbk0)
    have hlbd : b < W3.drew.heap.size := by have := LD.out.size; omega
    have hBd : B ≤ W3.drew.heap.size := by have := LD.out.size; omega
    clear t0
    go_region_held3 (fun w' => w'.cell? ⟨w.heap.size, 0, none⟩ = some (.slice (some ⟨b, o, none⟩) N cN) ∧ w'.cell? ⟨w.heap.size + 1, 1, none⟩ = some (.int .i64 x.s) ∧ w'.cell? ⟨w.heap.size + 1, 3, none⟩ = some (.int .i64 x.b) ∧ w'.cell? ⟨b, o + k.toNat, none⟩ = some (.slice A9 n9 c9)) (go_keep) (first | (go_at_call 36; (with_reducible refine (rules_q HR.out _).mono ?_); rintro e W4 ⟨he, hw⟩; subst he; subst hw) | (go_at_call 41; (with_reducible refine (latest_impl HX.out hn9 ((HV.out.below (below_le LD.out.bel hB)).more hBd) (Nat.le_refl _)).mono ?_); rintro e W5 ⟨he, hb'⟩; subst he; have L5 := Lib.hid (LD.out.call hb'); have c1 := L5.out.st; obtain ⟨_, t1b, _, t3b, _, _, _, _, _⟩ := L5.out.tb; have d1 := (hb'.cell (p := ⟨b, o + k.toNat, none⟩) hlbd).trans ((hbk0.cell (p := ⟨b, o + k.toNat, none⟩) hlb).trans d0); have hlb5 := Nat.lt_of_lt_of_le hlbd hb'.size) | (go_at_call 129; (with_reducible refine (wm_1 v x.b false _ Q1.out).mono ?_); rintro e W6 ⟨he, hb6⟩; rw [HM.out] at he; subst he; have L6 := Lib.hid (L5.out.call hb6); have c2 := L6.out.st; obtain ⟨_, t1c, _, t3c, _, _, _, _, _⟩ := L6.out.tb; have d2 := (hb6.cell (p := ⟨b, o + k.toNat, none⟩) hlb5).trans d1))
    all_goals
      clear c1 t1b t3b d1 c2 t1c t3c d2 c0 t1 t3 d0 hb' hb6 hbk0
      go_wp2_with fail
      go_ret
      exact ⟨rfl, L6.out.bel⟩
  by_cases o1 : g = x.i
  · have nf0 : (g != 0) = true := by simpa using o0
    have nf1 : (g != x.i) = false := by simp [o1]
    have e0 : q = false := by rw [← HQ.out]; exact tn_own HGO.out o1
    subst e0
    clear o0 o1
    go_enter Try.func17, Try.ntmps17
    go_wp2_with fail
    have hL := LS.mk2 w (.slice (some ⟨b, o, none⟩) N cN) 26 30 x A n c A2 n2 c2
    generalize ((w.alloc _).alloc _) = W0 at hL ⊢
    have L0 := Lib.hid hL
    have c0 := hL.st
    obtain ⟨t0, t1, t2, t3, t4, t5, t6, t7, t8⟩ := hL.tb
    clear hL
    go_wp2_with fail
    refine (impl_may x k (by omega) (by omega) (by omega) (H1.out.below (below_le L0.out.bel hB)) (H2.out.below (below_le L0.out.bel hB)) (H3.out.below (below_le L0.out.bel hB)) (by have := L0.out.size; omega)).mono ?_
    rintro e W1 ⟨rfl, hb⟩
    rw [HG.out]
    have L1 := Lib.hid (L0.out.call hb)
    clear hb c0 t0 t1 t2 t3 t4 t5 t6 t7 t8
    go_wp2_with fail
    refine (lka.impl_are (by omega) (H4.out.below (below_le L1.out.bel hB)) (by have := L1.out.size; omega)).mono ?_
    rintro e W2 ⟨rfl, hb⟩
    rw [HLK.out]
    have L2 := Lib.hid (L1.out.call hb)
    clear hb
    go_wp2_with fail
    refine (own_q HGO.out (by omega) (H4.out.below (below_le L2.out.bel hB)) (by have := L2.out.size; omega)).mono ?_
    rintro e W3 ⟨rfl, hb⟩
    have L3 := Lib.hid (L2.out.call hb)
    clear hb
    have hsz : w.heap.size + 1 < W3.heap.size := by have := L3.out.size; omega
    have hlb : b < W3.heap.size := by omega
    have c0 := L3.out.st
    obtain ⟨t0, t1, t2, t3, t4, t5, t6, t7, t8⟩ := L3.out.tb
    clear t2 t4 t5 t6 t7 t8
    have d0 := (L3.out.bel.cell (p := ⟨b, o + k.toNat, none⟩) (by simp only; omega)).trans HC.out
    go_wp2_with fail
    have hbk0 : Below W3.heap.size W3 W3.drew := (Below.refl _ _).drew
    have LD := Lib.hid (L3.out.call hbk0)
    have hlbd : b < W3.drew.heap.size := by have := LD.out.size; omega
    have hBd : B ≤ W3.drew.heap.size := by have := LD.out.size; omega
    clear t0
    go_region_held3 (fun w' => w'.cell? ⟨w.heap.size, 0, none⟩ = some (.slice (some ⟨b, o, none⟩) N cN) ∧ w'.cell? ⟨w.heap.size + 1, 1, none⟩ = some (.int .i64 x.s) ∧ w'.cell? ⟨w.heap.size + 1, 3, none⟩ = some (.int .i64 x.b) ∧ w'.cell? ⟨b, o + k.toNat, none⟩ = some (.slice A9 n9 c9)) (go_keep) (first | (go_at_call 36; (with_reducible refine (rules_q HR.out _).mono ?_); rintro e W4 ⟨he, hw⟩; subst he; subst hw) | (go_at_call 41; (with_reducible refine (latest_impl HX.out hn9 ((HV.out.below (below_le LD.out.bel hB)).more hBd) (Nat.le_refl _)).mono ?_); rintro e W5 ⟨he, hb'⟩; subst he; have L5 := Lib.hid (LD.out.call hb'); have c1 := L5.out.st; obtain ⟨_, t1b, _, t3b, _, _, _, _, _⟩ := L5.out.tb; have d1 := (hb'.cell (p := ⟨b, o + k.toNat, none⟩) hlbd).trans ((hbk0.cell (p := ⟨b, o + k.toNat, none⟩) hlb).trans d0); have hlb5 := Nat.lt_of_lt_of_le hlbd hb'.size) | (go_at_call 129; (with_reducible refine (wm_1 v x.b false _ Q1.out).mono ?_); rintro e W6 ⟨he, hb6⟩; rw [HM.out] at he; subst he; have L6 := Lib.hid (L5.out.call hb6); have c2 := L6.out.st; obtain ⟨_, t1c, _, t3c, _, _, _, _, _⟩ := L6.out.tb; have d2 := (hb6.cell (p := ⟨b, o + k.toNat, none⟩) hlb5).trans d1))
    all_goals
      clear c1 t1b t3b d1 c2 t1c t3c d2 c0 t1 t3 d0 hb' hb6 hbk0
      go_wp2_with fail
      go_ret
      exact ⟨rfl, L6.out.bel⟩
  have nf0 : (g != 0) = true := by simpa using o0
  have nf1 : (g != x.i) = true := by simpa using o1
  have e0 : q = true := by rw [← HQ.out]; exact tn_yes HGO.out o0 o1
  subst e0
  clear o0 o1
  go_enter Try.func17, Try.ntmps17
  go_wp2_with fail
  have hL := LS.mk2 w (.slice (some ⟨b, o, none⟩) N cN) 26 30 x A n c A2 n2 c2
  generalize ((w.alloc _).alloc _) = W0 at hL ⊢
  have L0 := Lib.hid hL
  have c0 := hL.st
  obtain ⟨t0, t1, t2, t3, t4, t5, t6, t7, t8⟩ := hL.tb
  clear hL
  go_wp2_with fail
  refine (impl_may x k (by omega) (by omega) (by omega) (H1.out.below (below_le L0.out.bel hB)) (H2.out.below (below_le L0.out.bel hB)) (H3.out.below (below_le L0.out.bel hB)) (by have := L0.out.size; omega)).mono ?_
  rintro e W1 ⟨rfl, hb⟩
  rw [HG.out]
  have L1 := Lib.hid (L0.out.call hb)
  clear hb c0 t0 t1 t2 t3 t4 t5 t6 t7 t8
  go_wp2_with fail
  refine (lka.impl_are (by omega) (H4.out.below (below_le L1.out.bel hB)) (by have := L1.out.size; omega)).mono ?_
  rintro e W2 ⟨rfl, hb⟩
  rw [HLK.out]
  have L2 := Lib.hid (L1.out.call hb)
  clear hb
  go_wp2_with fail
  refine (own_q HGO.out (by omega) (H4.out.below (below_le L2.out.bel hB)) (by have := L2.out.size; omega)).mono ?_
  rintro e W3 ⟨rfl, hb⟩
  have L3 := Lib.hid (L2.out.call hb)
  clear hb
  have hsz : w.heap.size + 1 < W3.heap.size := by have := L3.out.size; omega
  have hlb : b < W3.heap.size := by omega
  have c0 := L3.out.st
  obtain ⟨t0, t1, t2, t3, t4, t5, t6, t7, t8⟩ := L3.out.tb
  clear t2 t4 t5 t6 t7 t8
  have d0 := (L3.out.bel.cell (p := ⟨b, o + k.toNat, none⟩) (by simp only; omega)).trans HC.out
  go_wp2_with fail
  have hbk0 : Below W3.heap.size W3 W3.drew := (Below.refl _ _).drew
  have LD := Lib.hid (L3.out.call hbk0)
  have hlbd : b < W3.drew.heap.size := by have := LD.out.size; omega
  have hBd : B ≤ W3.drew.heap.size := by have := LD.out.size; omega
  clear t0
  go_region_held3 (fun w' => w'.cell? ⟨w.heap.size, 0, none⟩ = some (.slice (some ⟨b, o, none⟩) N cN) ∧ w'.cell? ⟨w.heap.size + 1, 1, none⟩ = some (.int .i64 x.s) ∧ w'.cell? ⟨w.heap.size + 1, 3, none⟩ = some (.int .i64 x.b) ∧ w'.cell? ⟨b, o + k.toNat, none⟩ = some (.slice A9 n9 c9)) (go_keep) (first | (go_at_call 36; (with_reducible refine (rules_q HR.out _).mono ?_); rintro e W4 ⟨he, hw⟩; subst he; subst hw) | (go_at_call 41; (with_reducible refine (latest_impl HX.out hn9 ((HV.out.below (below_le LD.out.bel hB)).more hBd) (Nat.le_refl _)).mono ?_); rintro e W5 ⟨he, hb'⟩; subst he; have L5 := Lib.hid (LD.out.call hb'); have c1 := L5.out.st; obtain ⟨_, t1b, _, t3b, _, _, _, _, _⟩ := L5.out.tb; have d1 := (hb'.cell (p := ⟨b, o + k.toNat, none⟩) hlbd).trans ((hbk0.cell (p := ⟨b, o + k.toNat, none⟩) hlb).trans d0); have hlb5 := Nat.lt_of_lt_of_le hlbd hb'.size) | (go_at_call 129; (with_reducible refine (wm_1 v x.b true _ Q1.out).mono ?_); rintro e W6 ⟨he, hb6⟩; rw [HM.out] at he; subst he; have L6 := Lib.hid (L5.out.call hb6); have c2 := L6.out.st; obtain ⟨_, t1c, _, t3c, _, _, _, _, _⟩ := L6.out.tb; have d2 := (hb6.cell (p := ⟨b, o + k.toNat, none⟩) hlb5).trans d1))
  all_goals
    clear c1 t1b t3b d1 c2 t1c t3c d2 c0 t1 t3 d0 hb' hb6 hbk0
    go_wp2_with fail
    go_ret
    exact ⟨rfl, L6.out.bel⟩
set_option maxRecDepth 100000 in
set_option maxHeartbeats 6400000 in
theorem impl_wc2 {w : World} {B n c n2 c2 N cN n3 c3 : Nat} {A A2 D A3 : Option Addr} {R S L : List E2} {C : List (List Ver)} (x : Hd) (k : Int) (hn : n ≤ 1048576) (hn2 : n2 ≤ 1048576) (hN : N ≤ 1048576) (hn3 : n3 ≤ 1048576) (h1 : Vs w B A n R) (h2 : Vs w B A2 n2 S) (h3 : Rs w B D N C) (h4 : Vs w B A3 n3 L) (hB : B ≤ w.heap.size) (q1 : x.s = 2) (hr : ruV x.s = .iface 115 (.agg #[])) (HG : Hid (gdB C x R S k = true)) (HLK : Hid (lkB L = true)) :
    Calls Try.prog 17 #[.agg #[.slice D N cN], .slice A3 n3 c3, .agg #[.int .i64 x.i, .int .i64 x.s, .int .i64 x.t, .int .i64 x.b, .int .i64 x.l, .int .i64 x.h, .int .i64 x.c, .slice A n c, .slice A2 n2 c2], .int .i64 k] w fun e w' => e = .returned (.int .i64 (wcI C L x R S k)) ∧ Below w.heap.size w w' := by
  have H1 := Lib.hid h1
  have H2 := Lib.hid h2
  have H3 := Lib.hid h3
  have H4 := Lib.hid h4
  have hln := h1.1
  have hln2 := h2.1
  have hln3 := h3.1
  have hln4 := h4.1
  clear h1 h2 h3 h4
  obtain ⟨i, hi⟩ : ∃ i, wcI C L x R S k = i := ⟨_, rfl⟩
  rw [hi]
  have HI := Lib.hid hi
  clear hi
  have HR := Lib.hid hr
  have Q1 := Lib.hid q1
  have m1 := mt_wc2
  have m2 := na_wc2
  clear hr q1
  obtain ⟨hst, htx, hxt, hin⟩ := gd_parts HG.out
  have hk := in_yes hin
  have hsix := val.st_six hst
  obtain ⟨b, o, l, A9, n9, c9, rfl, hbB, hl, hcell, hn9, hv⟩ := H3.out.at_ (k := k.toNat) (by omega)
  have HC := Lib.hid hcell
  have HV := Lib.hid hv
  obtain ⟨v, hlv⟩ : ∃ v, lastV l = v := ⟨_, rfl⟩
  have HX := Lib.hid hlv
  obtain ⟨q, hq⟩ : ∃ q, tnB L x k = q := ⟨_, rfl⟩
  have HM : Hid (wcM x.s v.c v.d x.b q = i) := Lib.hid (by rw [wc_m HG.out HLK.out hl hlv hq]; exact HI.out)
  have HQ := Lib.hid hq
  have t0k : (k.toNat : Int) = k := by omega
  have t1k : (0 : Int) ≤ k := by omega
  have t2k : k < (N : Int) := by omega
  obtain ⟨g, hg⟩ : ∃ g, ownI k L = g := ⟨_, rfl⟩
  have HGO := Lib.hid hg
  clear hst htx hxt hin hsix hl hcell hv HI hlv hq hg
  by_cases o0 : g = 0
  · have nf0 : (g != 0) = false := by simp [o0]
    have e0 : q = false := by rw [← HQ.out]; exact tn_0 HGO.out o0
    subst e0
    clear o0
    go_enter Try.func17, Try.ntmps17
    go_wp2_with fail
    have hL := LS.mk2 w (.slice (some ⟨b, o, none⟩) N cN) 26 30 x A n c A2 n2 c2
    generalize ((w.alloc _).alloc _) = W0 at hL ⊢
    have L0 := Lib.hid hL
    have c0 := hL.st
    obtain ⟨t0, t1, t2, t3, t4, t5, t6, t7, t8⟩ := hL.tb
    clear hL
    go_wp2_with fail
    refine (impl_may x k (by omega) (by omega) (by omega) (H1.out.below (below_le L0.out.bel hB)) (H2.out.below (below_le L0.out.bel hB)) (H3.out.below (below_le L0.out.bel hB)) (by have := L0.out.size; omega)).mono ?_
    rintro e W1 ⟨rfl, hb⟩
    rw [HG.out]
    have L1 := Lib.hid (L0.out.call hb)
    clear hb c0 t0 t1 t2 t3 t4 t5 t6 t7 t8
    go_wp2_with fail
    refine (lka.impl_are (by omega) (H4.out.below (below_le L1.out.bel hB)) (by have := L1.out.size; omega)).mono ?_
    rintro e W2 ⟨rfl, hb⟩
    rw [HLK.out]
    have L2 := Lib.hid (L1.out.call hb)
    clear hb
    go_wp2_with fail
    refine (own_q HGO.out (by omega) (H4.out.below (below_le L2.out.bel hB)) (by have := L2.out.size; omega)).mono ?_
    rintro e W3 ⟨rfl, hb⟩
    have L3 := Lib.hid (L2.out.call hb)
    clear hb
    have hsz : w.heap.size + 1 < W3.heap.size := by have := L3.out.size; omega
    have hlb : b < W3.heap.size := by omega
    have c0 := L3.out.st
    obtain ⟨t0, t1, t2, t3, t4, t5, t6, t7, t8⟩ := L3.out.tb
    clear t2 t4 t5 t6 t7 t8
    have d0 := (L3.out.bel.cell (p := ⟨b, o + k.toNat, none⟩) (by simp only; omega)).trans HC.out
    go_wp2_with fail
    have hbk0 : Below W3.heap.size W3 W3.drew := (Below.refl _ _).drew
    have LD := Lib.hid (L3.out.call hbk0)
    have hlbd : b < W3.drew.heap.size := by have := LD.out.size; omega
    have hBd : B ≤ W3.drew.heap.size := by have := LD.out.size; omega
    clear t0
    go_region_held3 (fun w' => w'.cell? ⟨w.heap.size, 0, none⟩ = some (.slice (some ⟨b, o, none⟩) N cN) ∧ w'.cell? ⟨w.heap.size + 1, 1, none⟩ = some (.int .i64 x.s) ∧ w'.cell? ⟨w.heap.size + 1, 3, none⟩ = some (.int .i64 x.b) ∧ w'.cell? ⟨b, o + k.toNat, none⟩ = some (.slice A9 n9 c9)) (go_keep) (first | (go_at_call 36; (with_reducible refine (rules_q HR.out _).mono ?_); rintro e W4 ⟨he, hw⟩; subst he; subst hw) | (go_at_call 41; (with_reducible refine (latest_impl HX.out hn9 ((HV.out.below (below_le LD.out.bel hB)).more hBd) (Nat.le_refl _)).mono ?_); rintro e W5 ⟨he, hb'⟩; subst he; have L5 := Lib.hid (LD.out.call hb'); have c1 := L5.out.st; obtain ⟨_, t1b, _, t3b, _, _, _, _, _⟩ := L5.out.tb; have d1 := (hb'.cell (p := ⟨b, o + k.toNat, none⟩) hlbd).trans ((hbk0.cell (p := ⟨b, o + k.toNat, none⟩) hlb).trans d0); have hlb5 := Nat.lt_of_lt_of_le hlbd hb'.size) | (go_at_call 133; (with_reducible refine (wm_2 v x.b false _ Q1.out).mono ?_); rintro e W6 ⟨he, hb6⟩; rw [HM.out] at he; subst he; have L6 := Lib.hid (L5.out.call hb6); have c2 := L6.out.st; obtain ⟨_, t1c, _, t3c, _, _, _, _, _⟩ := L6.out.tb; have d2 := (hb6.cell (p := ⟨b, o + k.toNat, none⟩) hlb5).trans d1))
    all_goals
      clear c1 t1b t3b d1 c2 t1c t3c d2 c0 t1 t3 d0 hb' hb6 hbk0
      go_wp2_with fail
      go_ret
      exact ⟨rfl, L6.out.bel⟩
  by_cases o1 : g = x.i
  · have nf0 : (g != 0) = true := by simpa using o0
    have nf1 : (g != x.i) = false := by simp [o1]
    have e0 : q = false := by rw [← HQ.out]; exact tn_own HGO.out o1
    subst e0
    clear o0 o1
    go_enter Try.func17, Try.ntmps17
    go_wp2_with fail
    have hL := LS.mk2 w (.slice (some ⟨b, o, none⟩) N cN) 26 30 x A n c A2 n2 c2
    generalize ((w.alloc _).alloc _) = W0 at hL ⊢
    have L0 := Lib.hid hL
    have c0 := hL.st
    obtain ⟨t0, t1, t2, t3, t4, t5, t6, t7, t8⟩ := hL.tb
    clear hL
    go_wp2_with fail
    refine (impl_may x k (by omega) (by omega) (by omega) (H1.out.below (below_le L0.out.bel hB)) (H2.out.below (below_le L0.out.bel hB)) (H3.out.below (below_le L0.out.bel hB)) (by have := L0.out.size; omega)).mono ?_
    rintro e W1 ⟨rfl, hb⟩
    rw [HG.out]
    have L1 := Lib.hid (L0.out.call hb)
    clear hb c0 t0 t1 t2 t3 t4 t5 t6 t7 t8
    go_wp2_with fail
    refine (lka.impl_are (by omega) (H4.out.below (below_le L1.out.bel hB)) (by have := L1.out.size; omega)).mono ?_
    rintro e W2 ⟨rfl, hb⟩
    rw [HLK.out]
    have L2 := Lib.hid (L1.out.call hb)
    clear hb
    go_wp2_with fail
    refine (own_q HGO.out (by omega) (H4.out.below (below_le L2.out.bel hB)) (by have := L2.out.size; omega)).mono ?_
    rintro e W3 ⟨rfl, hb⟩
    have L3 := Lib.hid (L2.out.call hb)
    clear hb
    have hsz : w.heap.size + 1 < W3.heap.size := by have := L3.out.size; omega
    have hlb : b < W3.heap.size := by omega
    have c0 := L3.out.st
    obtain ⟨t0, t1, t2, t3, t4, t5, t6, t7, t8⟩ := L3.out.tb
    clear t2 t4 t5 t6 t7 t8
    have d0 := (L3.out.bel.cell (p := ⟨b, o + k.toNat, none⟩) (by simp only; omega)).trans HC.out
    go_wp2_with fail
    have hbk0 : Below W3.heap.size W3 W3.drew := (Below.refl _ _).drew
    have LD := Lib.hid (L3.out.call hbk0)
    have hlbd : b < W3.drew.heap.size := by have := LD.out.size; omega
    have hBd : B ≤ W3.drew.heap.size := by have := LD.out.size; omega
    clear t0
    go_region_held3 (fun w' => w'.cell? ⟨w.heap.size, 0, none⟩ = some (.slice (some ⟨b, o, none⟩) N cN) ∧ w'.cell? ⟨w.heap.size + 1, 1, none⟩ = some (.int .i64 x.s) ∧ w'.cell? ⟨w.heap.size + 1, 3, none⟩ = some (.int .i64 x.b) ∧ w'.cell? ⟨b, o + k.toNat, none⟩ = some (.slice A9 n9 c9)) (go_keep) (first | (go_at_call 36; (with_reducible refine (rules_q HR.out _).mono ?_); rintro e W4 ⟨he, hw⟩; subst he; subst hw) | (go_at_call 41; (with_reducible refine (latest_impl HX.out hn9 ((HV.out.below (below_le LD.out.bel hB)).more hBd) (Nat.le_refl _)).mono ?_); rintro e W5 ⟨he, hb'⟩; subst he; have L5 := Lib.hid (LD.out.call hb'); have c1 := L5.out.st; obtain ⟨_, t1b, _, t3b, _, _, _, _, _⟩ := L5.out.tb; have d1 := (hb'.cell (p := ⟨b, o + k.toNat, none⟩) hlbd).trans ((hbk0.cell (p := ⟨b, o + k.toNat, none⟩) hlb).trans d0); have hlb5 := Nat.lt_of_lt_of_le hlbd hb'.size) | (go_at_call 133; (with_reducible refine (wm_2 v x.b false _ Q1.out).mono ?_); rintro e W6 ⟨he, hb6⟩; rw [HM.out] at he; subst he; have L6 := Lib.hid (L5.out.call hb6); have c2 := L6.out.st; obtain ⟨_, t1c, _, t3c, _, _, _, _, _⟩ := L6.out.tb; have d2 := (hb6.cell (p := ⟨b, o + k.toNat, none⟩) hlb5).trans d1))
    all_goals
      clear c1 t1b t3b d1 c2 t1c t3c d2 c0 t1 t3 d0 hb' hb6 hbk0
      go_wp2_with fail
      go_ret
      exact ⟨rfl, L6.out.bel⟩
  have nf0 : (g != 0) = true := by simpa using o0
  have nf1 : (g != x.i) = true := by simpa using o1
  have e0 : q = true := by rw [← HQ.out]; exact tn_yes HGO.out o0 o1
  subst e0
  clear o0 o1
  go_enter Try.func17, Try.ntmps17
  go_wp2_with fail
  have hL := LS.mk2 w (.slice (some ⟨b, o, none⟩) N cN) 26 30 x A n c A2 n2 c2
  generalize ((w.alloc _).alloc _) = W0 at hL ⊢
  have L0 := Lib.hid hL
  have c0 := hL.st
  obtain ⟨t0, t1, t2, t3, t4, t5, t6, t7, t8⟩ := hL.tb
  clear hL
  go_wp2_with fail
  refine (impl_may x k (by omega) (by omega) (by omega) (H1.out.below (below_le L0.out.bel hB)) (H2.out.below (below_le L0.out.bel hB)) (H3.out.below (below_le L0.out.bel hB)) (by have := L0.out.size; omega)).mono ?_
  rintro e W1 ⟨rfl, hb⟩
  rw [HG.out]
  have L1 := Lib.hid (L0.out.call hb)
  clear hb c0 t0 t1 t2 t3 t4 t5 t6 t7 t8
  go_wp2_with fail
  refine (lka.impl_are (by omega) (H4.out.below (below_le L1.out.bel hB)) (by have := L1.out.size; omega)).mono ?_
  rintro e W2 ⟨rfl, hb⟩
  rw [HLK.out]
  have L2 := Lib.hid (L1.out.call hb)
  clear hb
  go_wp2_with fail
  refine (own_q HGO.out (by omega) (H4.out.below (below_le L2.out.bel hB)) (by have := L2.out.size; omega)).mono ?_
  rintro e W3 ⟨rfl, hb⟩
  have L3 := Lib.hid (L2.out.call hb)
  clear hb
  have hsz : w.heap.size + 1 < W3.heap.size := by have := L3.out.size; omega
  have hlb : b < W3.heap.size := by omega
  have c0 := L3.out.st
  obtain ⟨t0, t1, t2, t3, t4, t5, t6, t7, t8⟩ := L3.out.tb
  clear t2 t4 t5 t6 t7 t8
  have d0 := (L3.out.bel.cell (p := ⟨b, o + k.toNat, none⟩) (by simp only; omega)).trans HC.out
  go_wp2_with fail
  have hbk0 : Below W3.heap.size W3 W3.drew := (Below.refl _ _).drew
  have LD := Lib.hid (L3.out.call hbk0)
  have hlbd : b < W3.drew.heap.size := by have := LD.out.size; omega
  have hBd : B ≤ W3.drew.heap.size := by have := LD.out.size; omega
  clear t0
  go_region_held3 (fun w' => w'.cell? ⟨w.heap.size, 0, none⟩ = some (.slice (some ⟨b, o, none⟩) N cN) ∧ w'.cell? ⟨w.heap.size + 1, 1, none⟩ = some (.int .i64 x.s) ∧ w'.cell? ⟨w.heap.size + 1, 3, none⟩ = some (.int .i64 x.b) ∧ w'.cell? ⟨b, o + k.toNat, none⟩ = some (.slice A9 n9 c9)) (go_keep) (first | (go_at_call 36; (with_reducible refine (rules_q HR.out _).mono ?_); rintro e W4 ⟨he, hw⟩; subst he; subst hw) | (go_at_call 41; (with_reducible refine (latest_impl HX.out hn9 ((HV.out.below (below_le LD.out.bel hB)).more hBd) (Nat.le_refl _)).mono ?_); rintro e W5 ⟨he, hb'⟩; subst he; have L5 := Lib.hid (LD.out.call hb'); have c1 := L5.out.st; obtain ⟨_, t1b, _, t3b, _, _, _, _, _⟩ := L5.out.tb; have d1 := (hb'.cell (p := ⟨b, o + k.toNat, none⟩) hlbd).trans ((hbk0.cell (p := ⟨b, o + k.toNat, none⟩) hlb).trans d0); have hlb5 := Nat.lt_of_lt_of_le hlbd hb'.size) | (go_at_call 133; (with_reducible refine (wm_2 v x.b true _ Q1.out).mono ?_); rintro e W6 ⟨he, hb6⟩; rw [HM.out] at he; subst he; have L6 := Lib.hid (L5.out.call hb6); have c2 := L6.out.st; obtain ⟨_, t1c, _, t3c, _, _, _, _, _⟩ := L6.out.tb; have d2 := (hb6.cell (p := ⟨b, o + k.toNat, none⟩) hlb5).trans d1))
  all_goals
    clear c1 t1b t3b d1 c2 t1c t3c d2 c0 t1 t3 d0 hb' hb6 hbk0
    go_wp2_with fail
    go_ret
    exact ⟨rfl, L6.out.bel⟩
set_option maxRecDepth 100000 in
set_option maxHeartbeats 6400000 in
theorem impl_wc4 {w : World} {B n c n2 c2 N cN n3 c3 : Nat} {A A2 D A3 : Option Addr} {R S L : List E2} {C : List (List Ver)} (x : Hd) (k : Int) (hn : n ≤ 1048576) (hn2 : n2 ≤ 1048576) (hN : N ≤ 1048576) (hn3 : n3 ≤ 1048576) (h1 : Vs w B A n R) (h2 : Vs w B A2 n2 S) (h3 : Rs w B D N C) (h4 : Vs w B A3 n3 L) (hB : B ≤ w.heap.size) (q1 : x.s = 4) (hr : ruV x.s = .iface 116 (.agg #[])) (HG : Hid (gdB C x R S k = true)) (HLK : Hid (lkB L = true)) :
    Calls Try.prog 17 #[.agg #[.slice D N cN], .slice A3 n3 c3, .agg #[.int .i64 x.i, .int .i64 x.s, .int .i64 x.t, .int .i64 x.b, .int .i64 x.l, .int .i64 x.h, .int .i64 x.c, .slice A n c, .slice A2 n2 c2], .int .i64 k] w fun e w' => e = .returned (.int .i64 (wcI C L x R S k)) ∧ Below w.heap.size w w' := by
  have H1 := Lib.hid h1
  have H2 := Lib.hid h2
  have H3 := Lib.hid h3
  have H4 := Lib.hid h4
  have hln := h1.1
  have hln2 := h2.1
  have hln3 := h3.1
  have hln4 := h4.1
  clear h1 h2 h3 h4
  obtain ⟨i, hi⟩ : ∃ i, wcI C L x R S k = i := ⟨_, rfl⟩
  rw [hi]
  have HI := Lib.hid hi
  clear hi
  have HR := Lib.hid hr
  have Q1 := Lib.hid q1
  have m1 := mt_wc4
  have m2 := na_wc4
  clear hr q1
  obtain ⟨hst, htx, hxt, hin⟩ := gd_parts HG.out
  have hk := in_yes hin
  have hsix := val.st_six hst
  obtain ⟨b, o, l, A9, n9, c9, rfl, hbB, hl, hcell, hn9, hv⟩ := H3.out.at_ (k := k.toNat) (by omega)
  have HC := Lib.hid hcell
  have HV := Lib.hid hv
  obtain ⟨v, hlv⟩ : ∃ v, lastV l = v := ⟨_, rfl⟩
  have HX := Lib.hid hlv
  obtain ⟨q, hq⟩ : ∃ q, tnB L x k = q := ⟨_, rfl⟩
  have HM : Hid (wcM x.s v.c v.d x.b q = i) := Lib.hid (by rw [wc_m HG.out HLK.out hl hlv hq]; exact HI.out)
  have HQ := Lib.hid hq
  have t0k : (k.toNat : Int) = k := by omega
  have t1k : (0 : Int) ≤ k := by omega
  have t2k : k < (N : Int) := by omega
  obtain ⟨g, hg⟩ : ∃ g, ownI k L = g := ⟨_, rfl⟩
  have HGO := Lib.hid hg
  clear hst htx hxt hin hsix hl hcell hv HI hlv hq hg
  by_cases o0 : g = 0
  · have nf0 : (g != 0) = false := by simp [o0]
    have e0 : q = false := by rw [← HQ.out]; exact tn_0 HGO.out o0
    subst e0
    clear o0
    go_enter Try.func17, Try.ntmps17
    go_wp2_with fail
    have hL := LS.mk2 w (.slice (some ⟨b, o, none⟩) N cN) 26 30 x A n c A2 n2 c2
    generalize ((w.alloc _).alloc _) = W0 at hL ⊢
    have L0 := Lib.hid hL
    have c0 := hL.st
    obtain ⟨t0, t1, t2, t3, t4, t5, t6, t7, t8⟩ := hL.tb
    clear hL
    go_wp2_with fail
    refine (impl_may x k (by omega) (by omega) (by omega) (H1.out.below (below_le L0.out.bel hB)) (H2.out.below (below_le L0.out.bel hB)) (H3.out.below (below_le L0.out.bel hB)) (by have := L0.out.size; omega)).mono ?_
    rintro e W1 ⟨rfl, hb⟩
    rw [HG.out]
    have L1 := Lib.hid (L0.out.call hb)
    clear hb c0 t0 t1 t2 t3 t4 t5 t6 t7 t8
    go_wp2_with fail
    refine (lka.impl_are (by omega) (H4.out.below (below_le L1.out.bel hB)) (by have := L1.out.size; omega)).mono ?_
    rintro e W2 ⟨rfl, hb⟩
    rw [HLK.out]
    have L2 := Lib.hid (L1.out.call hb)
    clear hb
    go_wp2_with fail
    refine (own_q HGO.out (by omega) (H4.out.below (below_le L2.out.bel hB)) (by have := L2.out.size; omega)).mono ?_
    rintro e W3 ⟨rfl, hb⟩
    have L3 := Lib.hid (L2.out.call hb)
    clear hb
    have hsz : w.heap.size + 1 < W3.heap.size := by have := L3.out.size; omega
    have hlb : b < W3.heap.size := by omega
    have c0 := L3.out.st
    obtain ⟨t0, t1, t2, t3, t4, t5, t6, t7, t8⟩ := L3.out.tb
    clear t2 t4 t5 t6 t7 t8
    have d0 := (L3.out.bel.cell (p := ⟨b, o + k.toNat, none⟩) (by simp only; omega)).trans HC.out
    go_wp2_with fail
    have hbk0 : Below W3.heap.size W3 W3.drew := (Below.refl _ _).drew
    have LD := Lib.hid (L3.out.call hbk0)
    have hlbd : b < W3.drew.heap.size := by have := LD.out.size; omega
    have hBd : B ≤ W3.drew.heap.size := by have := LD.out.size; omega
    clear t0
    go_region_held3 (fun w' => w'.cell? ⟨w.heap.size, 0, none⟩ = some (.slice (some ⟨b, o, none⟩) N cN) ∧ w'.cell? ⟨w.heap.size + 1, 1, none⟩ = some (.int .i64 x.s) ∧ w'.cell? ⟨w.heap.size + 1, 3, none⟩ = some (.int .i64 x.b) ∧ w'.cell? ⟨b, o + k.toNat, none⟩ = some (.slice A9 n9 c9)) (go_keep) (first | (go_at_call 36; (with_reducible refine (rules_q HR.out _).mono ?_); rintro e W4 ⟨he, hw⟩; subst he; subst hw) | (go_at_call 41; (with_reducible refine (latest_impl HX.out hn9 ((HV.out.below (below_le LD.out.bel hB)).more hBd) (Nat.le_refl _)).mono ?_); rintro e W5 ⟨he, hb'⟩; subst he; have L5 := Lib.hid (LD.out.call hb'); have c1 := L5.out.st; obtain ⟨_, t1b, _, t3b, _, _, _, _, _⟩ := L5.out.tb; have d1 := (hb'.cell (p := ⟨b, o + k.toNat, none⟩) hlbd).trans ((hbk0.cell (p := ⟨b, o + k.toNat, none⟩) hlb).trans d0); have hlb5 := Nat.lt_of_lt_of_le hlbd hb'.size) | (go_at_call 137; (with_reducible refine (wm_4 v x.b false _ Q1.out).mono ?_); rintro e W6 ⟨he, hb6⟩; rw [HM.out] at he; subst he; have L6 := Lib.hid (L5.out.call hb6); have c2 := L6.out.st; obtain ⟨_, t1c, _, t3c, _, _, _, _, _⟩ := L6.out.tb; have d2 := (hb6.cell (p := ⟨b, o + k.toNat, none⟩) hlb5).trans d1))
    all_goals
      clear c1 t1b t3b d1 c2 t1c t3c d2 c0 t1 t3 d0 hb' hb6 hbk0
      go_wp2_with fail
      go_ret
      exact ⟨rfl, L6.out.bel⟩
  by_cases o1 : g = x.i
  · have nf0 : (g != 0) = true := by simpa using o0
    have nf1 : (g != x.i) = false := by simp [o1]
    have e0 : q = false := by rw [← HQ.out]; exact tn_own HGO.out o1
    subst e0
    clear o0 o1
    go_enter Try.func17, Try.ntmps17
    go_wp2_with fail
    have hL := LS.mk2 w (.slice (some ⟨b, o, none⟩) N cN) 26 30 x A n c A2 n2 c2
    generalize ((w.alloc _).alloc _) = W0 at hL ⊢
    have L0 := Lib.hid hL
    have c0 := hL.st
    obtain ⟨t0, t1, t2, t3, t4, t5, t6, t7, t8⟩ := hL.tb
    clear hL
    go_wp2_with fail
    refine (impl_may x k (by omega) (by omega) (by omega) (H1.out.below (below_le L0.out.bel hB)) (H2.out.below (below_le L0.out.bel hB)) (H3.out.below (below_le L0.out.bel hB)) (by have := L0.out.size; omega)).mono ?_
    rintro e W1 ⟨rfl, hb⟩
    rw [HG.out]
    have L1 := Lib.hid (L0.out.call hb)
    clear hb c0 t0 t1 t2 t3 t4 t5 t6 t7 t8
    go_wp2_with fail
    refine (lka.impl_are (by omega) (H4.out.below (below_le L1.out.bel hB)) (by have := L1.out.size; omega)).mono ?_
    rintro e W2 ⟨rfl, hb⟩
    rw [HLK.out]
    have L2 := Lib.hid (L1.out.call hb)
    clear hb
    go_wp2_with fail
    refine (own_q HGO.out (by omega) (H4.out.below (below_le L2.out.bel hB)) (by have := L2.out.size; omega)).mono ?_
    rintro e W3 ⟨rfl, hb⟩
    have L3 := Lib.hid (L2.out.call hb)
    clear hb
    have hsz : w.heap.size + 1 < W3.heap.size := by have := L3.out.size; omega
    have hlb : b < W3.heap.size := by omega
    have c0 := L3.out.st
    obtain ⟨t0, t1, t2, t3, t4, t5, t6, t7, t8⟩ := L3.out.tb
    clear t2 t4 t5 t6 t7 t8
    have d0 := (L3.out.bel.cell (p := ⟨b, o + k.toNat, none⟩) (by simp only; omega)).trans HC.out
    go_wp2_with fail
    have hbk0 : Below W3.heap.size W3 W3.drew := (Below.refl _ _).drew
    have LD := Lib.hid (L3.out.call hbk0)
    have hlbd : b < W3.drew.heap.size := by have := LD.out.size; omega
    have hBd : B ≤ W3.drew.heap.size := by have := LD.out.size; omega
    clear t0
    go_region_held3 (fun w' => w'.cell? ⟨w.heap.size, 0, none⟩ = some (.slice (some ⟨b, o, none⟩) N cN) ∧ w'.cell? ⟨w.heap.size + 1, 1, none⟩ = some (.int .i64 x.s) ∧ w'.cell? ⟨w.heap.size + 1, 3, none⟩ = some (.int .i64 x.b) ∧ w'.cell? ⟨b, o + k.toNat, none⟩ = some (.slice A9 n9 c9)) (go_keep) (first | (go_at_call 36; (with_reducible refine (rules_q HR.out _).mono ?_); rintro e W4 ⟨he, hw⟩; subst he; subst hw) | (go_at_call 41; (with_reducible refine (latest_impl HX.out hn9 ((HV.out.below (below_le LD.out.bel hB)).more hBd) (Nat.le_refl _)).mono ?_); rintro e W5 ⟨he, hb'⟩; subst he; have L5 := Lib.hid (LD.out.call hb'); have c1 := L5.out.st; obtain ⟨_, t1b, _, t3b, _, _, _, _, _⟩ := L5.out.tb; have d1 := (hb'.cell (p := ⟨b, o + k.toNat, none⟩) hlbd).trans ((hbk0.cell (p := ⟨b, o + k.toNat, none⟩) hlb).trans d0); have hlb5 := Nat.lt_of_lt_of_le hlbd hb'.size) | (go_at_call 137; (with_reducible refine (wm_4 v x.b false _ Q1.out).mono ?_); rintro e W6 ⟨he, hb6⟩; rw [HM.out] at he; subst he; have L6 := Lib.hid (L5.out.call hb6); have c2 := L6.out.st; obtain ⟨_, t1c, _, t3c, _, _, _, _, _⟩ := L6.out.tb; have d2 := (hb6.cell (p := ⟨b, o + k.toNat, none⟩) hlb5).trans d1))
    all_goals
      clear c1 t1b t3b d1 c2 t1c t3c d2 c0 t1 t3 d0 hb' hb6 hbk0
      go_wp2_with fail
      go_ret
      exact ⟨rfl, L6.out.bel⟩
  have nf0 : (g != 0) = true := by simpa using o0
  have nf1 : (g != x.i) = true := by simpa using o1
  have e0 : q = true := by rw [← HQ.out]; exact tn_yes HGO.out o0 o1
  subst e0
  clear o0 o1
  go_enter Try.func17, Try.ntmps17
  go_wp2_with fail
  have hL := LS.mk2 w (.slice (some ⟨b, o, none⟩) N cN) 26 30 x A n c A2 n2 c2
  generalize ((w.alloc _).alloc _) = W0 at hL ⊢
  have L0 := Lib.hid hL
  have c0 := hL.st
  obtain ⟨t0, t1, t2, t3, t4, t5, t6, t7, t8⟩ := hL.tb
  clear hL
  go_wp2_with fail
  refine (impl_may x k (by omega) (by omega) (by omega) (H1.out.below (below_le L0.out.bel hB)) (H2.out.below (below_le L0.out.bel hB)) (H3.out.below (below_le L0.out.bel hB)) (by have := L0.out.size; omega)).mono ?_
  rintro e W1 ⟨rfl, hb⟩
  rw [HG.out]
  have L1 := Lib.hid (L0.out.call hb)
  clear hb c0 t0 t1 t2 t3 t4 t5 t6 t7 t8
  go_wp2_with fail
  refine (lka.impl_are (by omega) (H4.out.below (below_le L1.out.bel hB)) (by have := L1.out.size; omega)).mono ?_
  rintro e W2 ⟨rfl, hb⟩
  rw [HLK.out]
  have L2 := Lib.hid (L1.out.call hb)
  clear hb
  go_wp2_with fail
  refine (own_q HGO.out (by omega) (H4.out.below (below_le L2.out.bel hB)) (by have := L2.out.size; omega)).mono ?_
  rintro e W3 ⟨rfl, hb⟩
  have L3 := Lib.hid (L2.out.call hb)
  clear hb
  have hsz : w.heap.size + 1 < W3.heap.size := by have := L3.out.size; omega
  have hlb : b < W3.heap.size := by omega
  have c0 := L3.out.st
  obtain ⟨t0, t1, t2, t3, t4, t5, t6, t7, t8⟩ := L3.out.tb
  clear t2 t4 t5 t6 t7 t8
  have d0 := (L3.out.bel.cell (p := ⟨b, o + k.toNat, none⟩) (by simp only; omega)).trans HC.out
  go_wp2_with fail
  have hbk0 : Below W3.heap.size W3 W3.drew := (Below.refl _ _).drew
  have LD := Lib.hid (L3.out.call hbk0)
  have hlbd : b < W3.drew.heap.size := by have := LD.out.size; omega
  have hBd : B ≤ W3.drew.heap.size := by have := LD.out.size; omega
  clear t0
  go_region_held3 (fun w' => w'.cell? ⟨w.heap.size, 0, none⟩ = some (.slice (some ⟨b, o, none⟩) N cN) ∧ w'.cell? ⟨w.heap.size + 1, 1, none⟩ = some (.int .i64 x.s) ∧ w'.cell? ⟨w.heap.size + 1, 3, none⟩ = some (.int .i64 x.b) ∧ w'.cell? ⟨b, o + k.toNat, none⟩ = some (.slice A9 n9 c9)) (go_keep) (first | (go_at_call 36; (with_reducible refine (rules_q HR.out _).mono ?_); rintro e W4 ⟨he, hw⟩; subst he; subst hw) | (go_at_call 41; (with_reducible refine (latest_impl HX.out hn9 ((HV.out.below (below_le LD.out.bel hB)).more hBd) (Nat.le_refl _)).mono ?_); rintro e W5 ⟨he, hb'⟩; subst he; have L5 := Lib.hid (LD.out.call hb'); have c1 := L5.out.st; obtain ⟨_, t1b, _, t3b, _, _, _, _, _⟩ := L5.out.tb; have d1 := (hb'.cell (p := ⟨b, o + k.toNat, none⟩) hlbd).trans ((hbk0.cell (p := ⟨b, o + k.toNat, none⟩) hlb).trans d0); have hlb5 := Nat.lt_of_lt_of_le hlbd hb'.size) | (go_at_call 137; (with_reducible refine (wm_4 v x.b true _ Q1.out).mono ?_); rintro e W6 ⟨he, hb6⟩; rw [HM.out] at he; subst he; have L6 := Lib.hid (L5.out.call hb6); have c2 := L6.out.st; obtain ⟨_, t1c, _, t3c, _, _, _, _, _⟩ := L6.out.tb; have d2 := (hb6.cell (p := ⟨b, o + k.toNat, none⟩) hlb5).trans d1))
  all_goals
    clear c1 t1b t3b d1 c2 t1c t3c d2 c0 t1 t3 d0 hb' hb6 hbk0
    go_wp2_with fail
    go_ret
    exact ⟨rfl, L6.out.bel⟩
set_option maxRecDepth 100000 in
set_option maxHeartbeats 6400000 in
theorem impl_wc0 {w : World} {B n c n2 c2 N cN n3 c3 : Nat} {A A2 D A3 : Option Addr} {R S L : List E2} {C : List (List Ver)} (x : Hd) (k : Int) (hn : n ≤ 1048576) (hn2 : n2 ≤ 1048576) (hN : N ≤ 1048576) (hn3 : n3 ≤ 1048576) (h1 : Vs w B A n R) (h2 : Vs w B A2 n2 S) (h3 : Rs w B D N C) (h4 : Vs w B A3 n3 L) (hB : B ≤ w.heap.size) (q1 : x.s ≠ 1 ∧ x.s ≠ 2 ∧ x.s ≠ 4) (hr : ruV x.s = .iface 112 (.agg #[])) (HG : Hid (gdB C x R S k = true)) (HLK : Hid (lkB L = true)) :
    Calls Try.prog 17 #[.agg #[.slice D N cN], .slice A3 n3 c3, .agg #[.int .i64 x.i, .int .i64 x.s, .int .i64 x.t, .int .i64 x.b, .int .i64 x.l, .int .i64 x.h, .int .i64 x.c, .slice A n c, .slice A2 n2 c2], .int .i64 k] w fun e w' => e = .returned (.int .i64 (wcI C L x R S k)) ∧ Below w.heap.size w w' := by
  have H1 := Lib.hid h1
  have H2 := Lib.hid h2
  have H3 := Lib.hid h3
  have H4 := Lib.hid h4
  have hln := h1.1
  have hln2 := h2.1
  have hln3 := h3.1
  have hln4 := h4.1
  clear h1 h2 h3 h4
  obtain ⟨i, hi⟩ : ∃ i, wcI C L x R S k = i := ⟨_, rfl⟩
  rw [hi]
  have HI := Lib.hid hi
  clear hi
  have HR := Lib.hid hr
  have Q1 := Lib.hid q1
  have m1 := mt_wc0
  have m2 := na_wc0
  clear hr q1
  obtain ⟨hst, htx, hxt, hin⟩ := gd_parts HG.out
  have hk := in_yes hin
  have hsix := val.st_six hst
  obtain ⟨b, o, l, A9, n9, c9, rfl, hbB, hl, hcell, hn9, hv⟩ := H3.out.at_ (k := k.toNat) (by omega)
  have HC := Lib.hid hcell
  have HV := Lib.hid hv
  obtain ⟨v, hlv⟩ : ∃ v, lastV l = v := ⟨_, rfl⟩
  have HX := Lib.hid hlv
  obtain ⟨q, hq⟩ : ∃ q, tnB L x k = q := ⟨_, rfl⟩
  have HM : Hid (wcM x.s v.c v.d x.b q = i) := Lib.hid (by rw [wc_m HG.out HLK.out hl hlv hq]; exact HI.out)
  have HQ := Lib.hid hq
  have t0k : (k.toNat : Int) = k := by omega
  have t1k : (0 : Int) ≤ k := by omega
  have t2k : k < (N : Int) := by omega
  obtain ⟨g, hg⟩ : ∃ g, ownI k L = g := ⟨_, rfl⟩
  have HGO := Lib.hid hg
  clear hst htx hxt hin hsix hl hcell hv HI hlv hq hg
  by_cases o0 : g = 0
  · have nf0 : (g != 0) = false := by simp [o0]
    have e0 : q = false := by rw [← HQ.out]; exact tn_0 HGO.out o0
    subst e0
    clear o0
    go_enter Try.func17, Try.ntmps17
    go_wp2_with fail
    have hL := LS.mk2 w (.slice (some ⟨b, o, none⟩) N cN) 26 30 x A n c A2 n2 c2
    generalize ((w.alloc _).alloc _) = W0 at hL ⊢
    have L0 := Lib.hid hL
    have c0 := hL.st
    obtain ⟨t0, t1, t2, t3, t4, t5, t6, t7, t8⟩ := hL.tb
    clear hL
    go_wp2_with fail
    refine (impl_may x k (by omega) (by omega) (by omega) (H1.out.below (below_le L0.out.bel hB)) (H2.out.below (below_le L0.out.bel hB)) (H3.out.below (below_le L0.out.bel hB)) (by have := L0.out.size; omega)).mono ?_
    rintro e W1 ⟨rfl, hb⟩
    rw [HG.out]
    have L1 := Lib.hid (L0.out.call hb)
    clear hb c0 t0 t1 t2 t3 t4 t5 t6 t7 t8
    go_wp2_with fail
    refine (lka.impl_are (by omega) (H4.out.below (below_le L1.out.bel hB)) (by have := L1.out.size; omega)).mono ?_
    rintro e W2 ⟨rfl, hb⟩
    rw [HLK.out]
    have L2 := Lib.hid (L1.out.call hb)
    clear hb
    go_wp2_with fail
    refine (own_q HGO.out (by omega) (H4.out.below (below_le L2.out.bel hB)) (by have := L2.out.size; omega)).mono ?_
    rintro e W3 ⟨rfl, hb⟩
    have L3 := Lib.hid (L2.out.call hb)
    clear hb
    have hsz : w.heap.size + 1 < W3.heap.size := by have := L3.out.size; omega
    have hlb : b < W3.heap.size := by omega
    have c0 := L3.out.st
    obtain ⟨t0, t1, t2, t3, t4, t5, t6, t7, t8⟩ := L3.out.tb
    clear t2 t4 t5 t6 t7 t8
    have d0 := (L3.out.bel.cell (p := ⟨b, o + k.toNat, none⟩) (by simp only; omega)).trans HC.out
    go_wp2_with fail
    have hbk0 : Below W3.heap.size W3 W3.drew := (Below.refl _ _).drew
    have LD := Lib.hid (L3.out.call hbk0)
    have hlbd : b < W3.drew.heap.size := by have := LD.out.size; omega
    have hBd : B ≤ W3.drew.heap.size := by have := LD.out.size; omega
    clear t0
    go_region_held3 (fun w' => w'.cell? ⟨w.heap.size, 0, none⟩ = some (.slice (some ⟨b, o, none⟩) N cN) ∧ w'.cell? ⟨w.heap.size + 1, 1, none⟩ = some (.int .i64 x.s) ∧ w'.cell? ⟨w.heap.size + 1, 3, none⟩ = some (.int .i64 x.b) ∧ w'.cell? ⟨b, o + k.toNat, none⟩ = some (.slice A9 n9 c9)) (go_keep) (first | (go_at_call 36; (with_reducible refine (rules_q HR.out _).mono ?_); rintro e W4 ⟨he, hw⟩; subst he; subst hw) | (go_at_call 41; (with_reducible refine (latest_impl HX.out hn9 ((HV.out.below (below_le LD.out.bel hB)).more hBd) (Nat.le_refl _)).mono ?_); rintro e W5 ⟨he, hb'⟩; subst he; have L5 := Lib.hid (LD.out.call hb'); have c1 := L5.out.st; obtain ⟨_, t1b, _, t3b, _, _, _, _, _⟩ := L5.out.tb; have d1 := (hb'.cell (p := ⟨b, o + k.toNat, none⟩) hlbd).trans ((hbk0.cell (p := ⟨b, o + k.toNat, none⟩) hlb).trans d0); have hlb5 := Nat.lt_of_lt_of_le hlbd hb'.size) | (go_at_call 127; (with_reducible refine (wm_0 v x.b false _ Q1.out.1 Q1.out.2.1 Q1.out.2.2).mono ?_); rintro e W6 ⟨he, hb6⟩; rw [HM.out] at he; subst he; have L6 := Lib.hid (L5.out.call hb6); have c2 := L6.out.st; obtain ⟨_, t1c, _, t3c, _, _, _, _, _⟩ := L6.out.tb; have d2 := (hb6.cell (p := ⟨b, o + k.toNat, none⟩) hlb5).trans d1))
    all_goals
      clear c1 t1b t3b d1 c2 t1c t3c d2 c0 t1 t3 d0 hb' hb6 hbk0
      go_wp2_with fail
      go_ret
      exact ⟨rfl, L6.out.bel⟩
  by_cases o1 : g = x.i
  · have nf0 : (g != 0) = true := by simpa using o0
    have nf1 : (g != x.i) = false := by simp [o1]
    have e0 : q = false := by rw [← HQ.out]; exact tn_own HGO.out o1
    subst e0
    clear o0 o1
    go_enter Try.func17, Try.ntmps17
    go_wp2_with fail
    have hL := LS.mk2 w (.slice (some ⟨b, o, none⟩) N cN) 26 30 x A n c A2 n2 c2
    generalize ((w.alloc _).alloc _) = W0 at hL ⊢
    have L0 := Lib.hid hL
    have c0 := hL.st
    obtain ⟨t0, t1, t2, t3, t4, t5, t6, t7, t8⟩ := hL.tb
    clear hL
    go_wp2_with fail
    refine (impl_may x k (by omega) (by omega) (by omega) (H1.out.below (below_le L0.out.bel hB)) (H2.out.below (below_le L0.out.bel hB)) (H3.out.below (below_le L0.out.bel hB)) (by have := L0.out.size; omega)).mono ?_
    rintro e W1 ⟨rfl, hb⟩
    rw [HG.out]
    have L1 := Lib.hid (L0.out.call hb)
    clear hb c0 t0 t1 t2 t3 t4 t5 t6 t7 t8
    go_wp2_with fail
    refine (lka.impl_are (by omega) (H4.out.below (below_le L1.out.bel hB)) (by have := L1.out.size; omega)).mono ?_
    rintro e W2 ⟨rfl, hb⟩
    rw [HLK.out]
    have L2 := Lib.hid (L1.out.call hb)
    clear hb
    go_wp2_with fail
    refine (own_q HGO.out (by omega) (H4.out.below (below_le L2.out.bel hB)) (by have := L2.out.size; omega)).mono ?_
    rintro e W3 ⟨rfl, hb⟩
    have L3 := Lib.hid (L2.out.call hb)
    clear hb
    have hsz : w.heap.size + 1 < W3.heap.size := by have := L3.out.size; omega
    have hlb : b < W3.heap.size := by omega
    have c0 := L3.out.st
    obtain ⟨t0, t1, t2, t3, t4, t5, t6, t7, t8⟩ := L3.out.tb
    clear t2 t4 t5 t6 t7 t8
    have d0 := (L3.out.bel.cell (p := ⟨b, o + k.toNat, none⟩) (by simp only; omega)).trans HC.out
    go_wp2_with fail
    have hbk0 : Below W3.heap.size W3 W3.drew := (Below.refl _ _).drew
    have LD := Lib.hid (L3.out.call hbk0)
    have hlbd : b < W3.drew.heap.size := by have := LD.out.size; omega
    have hBd : B ≤ W3.drew.heap.size := by have := LD.out.size; omega
    clear t0
    go_region_held3 (fun w' => w'.cell? ⟨w.heap.size, 0, none⟩ = some (.slice (some ⟨b, o, none⟩) N cN) ∧ w'.cell? ⟨w.heap.size + 1, 1, none⟩ = some (.int .i64 x.s) ∧ w'.cell? ⟨w.heap.size + 1, 3, none⟩ = some (.int .i64 x.b) ∧ w'.cell? ⟨b, o + k.toNat, none⟩ = some (.slice A9 n9 c9)) (go_keep) (first | (go_at_call 36; (with_reducible refine (rules_q HR.out _).mono ?_); rintro e W4 ⟨he, hw⟩; subst he; subst hw) | (go_at_call 41; (with_reducible refine (latest_impl HX.out hn9 ((HV.out.below (below_le LD.out.bel hB)).more hBd) (Nat.le_refl _)).mono ?_); rintro e W5 ⟨he, hb'⟩; subst he; have L5 := Lib.hid (LD.out.call hb'); have c1 := L5.out.st; obtain ⟨_, t1b, _, t3b, _, _, _, _, _⟩ := L5.out.tb; have d1 := (hb'.cell (p := ⟨b, o + k.toNat, none⟩) hlbd).trans ((hbk0.cell (p := ⟨b, o + k.toNat, none⟩) hlb).trans d0); have hlb5 := Nat.lt_of_lt_of_le hlbd hb'.size) | (go_at_call 127; (with_reducible refine (wm_0 v x.b false _ Q1.out.1 Q1.out.2.1 Q1.out.2.2).mono ?_); rintro e W6 ⟨he, hb6⟩; rw [HM.out] at he; subst he; have L6 := Lib.hid (L5.out.call hb6); have c2 := L6.out.st; obtain ⟨_, t1c, _, t3c, _, _, _, _, _⟩ := L6.out.tb; have d2 := (hb6.cell (p := ⟨b, o + k.toNat, none⟩) hlb5).trans d1))
    all_goals
      clear c1 t1b t3b d1 c2 t1c t3c d2 c0 t1 t3 d0 hb' hb6 hbk0
      go_wp2_with fail
      go_ret
      exact ⟨rfl, L6.out.bel⟩
  have nf0 : (g != 0) = true := by simpa using o0
  have nf1 : (g != x.i) = true := by simpa using o1
  have e0 : q = true := by rw [← HQ.out]; exact tn_yes HGO.out o0 o1
  subst e0
  clear o0 o1
  go_enter Try.func17, Try.ntmps17
  go_wp2_with fail
  have hL := LS.mk2 w (.slice (some ⟨b, o, none⟩) N cN) 26 30 x A n c A2 n2 c2
  generalize ((w.alloc _).alloc _) = W0 at hL ⊢
  have L0 := Lib.hid hL
  have c0 := hL.st
  obtain ⟨t0, t1, t2, t3, t4, t5, t6, t7, t8⟩ := hL.tb
  clear hL
  go_wp2_with fail
  refine (impl_may x k (by omega) (by omega) (by omega) (H1.out.below (below_le L0.out.bel hB)) (H2.out.below (below_le L0.out.bel hB)) (H3.out.below (below_le L0.out.bel hB)) (by have := L0.out.size; omega)).mono ?_
  rintro e W1 ⟨rfl, hb⟩
  rw [HG.out]
  have L1 := Lib.hid (L0.out.call hb)
  clear hb c0 t0 t1 t2 t3 t4 t5 t6 t7 t8
  go_wp2_with fail
  refine (lka.impl_are (by omega) (H4.out.below (below_le L1.out.bel hB)) (by have := L1.out.size; omega)).mono ?_
  rintro e W2 ⟨rfl, hb⟩
  rw [HLK.out]
  have L2 := Lib.hid (L1.out.call hb)
  clear hb
  go_wp2_with fail
  refine (own_q HGO.out (by omega) (H4.out.below (below_le L2.out.bel hB)) (by have := L2.out.size; omega)).mono ?_
  rintro e W3 ⟨rfl, hb⟩
  have L3 := Lib.hid (L2.out.call hb)
  clear hb
  have hsz : w.heap.size + 1 < W3.heap.size := by have := L3.out.size; omega
  have hlb : b < W3.heap.size := by omega
  have c0 := L3.out.st
  obtain ⟨t0, t1, t2, t3, t4, t5, t6, t7, t8⟩ := L3.out.tb
  clear t2 t4 t5 t6 t7 t8
  have d0 := (L3.out.bel.cell (p := ⟨b, o + k.toNat, none⟩) (by simp only; omega)).trans HC.out
  go_wp2_with fail
  have hbk0 : Below W3.heap.size W3 W3.drew := (Below.refl _ _).drew
  have LD := Lib.hid (L3.out.call hbk0)
  have hlbd : b < W3.drew.heap.size := by have := LD.out.size; omega
  have hBd : B ≤ W3.drew.heap.size := by have := LD.out.size; omega
  clear t0
  go_region_held3 (fun w' => w'.cell? ⟨w.heap.size, 0, none⟩ = some (.slice (some ⟨b, o, none⟩) N cN) ∧ w'.cell? ⟨w.heap.size + 1, 1, none⟩ = some (.int .i64 x.s) ∧ w'.cell? ⟨w.heap.size + 1, 3, none⟩ = some (.int .i64 x.b) ∧ w'.cell? ⟨b, o + k.toNat, none⟩ = some (.slice A9 n9 c9)) (go_keep) (first | (go_at_call 36; (with_reducible refine (rules_q HR.out _).mono ?_); rintro e W4 ⟨he, hw⟩; subst he; subst hw) | (go_at_call 41; (with_reducible refine (latest_impl HX.out hn9 ((HV.out.below (below_le LD.out.bel hB)).more hBd) (Nat.le_refl _)).mono ?_); rintro e W5 ⟨he, hb'⟩; subst he; have L5 := Lib.hid (LD.out.call hb'); have c1 := L5.out.st; obtain ⟨_, t1b, _, t3b, _, _, _, _, _⟩ := L5.out.tb; have d1 := (hb'.cell (p := ⟨b, o + k.toNat, none⟩) hlbd).trans ((hbk0.cell (p := ⟨b, o + k.toNat, none⟩) hlb).trans d0); have hlb5 := Nat.lt_of_lt_of_le hlbd hb'.size) | (go_at_call 127; (with_reducible refine (wm_0 v x.b true _ Q1.out.1 Q1.out.2.1 Q1.out.2.2).mono ?_); rintro e W6 ⟨he, hb6⟩; rw [HM.out] at he; subst he; have L6 := Lib.hid (L5.out.call hb6); have c2 := L6.out.st; obtain ⟨_, t1c, _, t3c, _, _, _, _, _⟩ := L6.out.tb; have d2 := (hb6.cell (p := ⟨b, o + k.toNat, none⟩) hlb5).trans d1))
  all_goals
    clear c1 t1b t3b d1 c2 t1c t3c d2 c0 t1 t3 d0 hb' hb6 hbk0
    go_wp2_with fail
    go_ret
    exact ⟨rfl, L6.out.bel⟩
set_option maxRecDepth 100000 in
set_option maxHeartbeats 3200000 in
theorem impl_wc {w : World} {B n c n2 c2 N cN n3 c3 : Nat} {A A2 D A3 : Option Addr} {R S L : List E2} {C : List (List Ver)} (x : Hd) (k : Int) (hn : n ≤ 1048576) (hn2 : n2 ≤ 1048576) (hN : N ≤ 1048576) (hn3 : n3 ≤ 1048576) (h1 : Vs w B A n R) (h2 : Vs w B A2 n2 S) (h3 : Rs w B D N C) (h4 : Vs w B A3 n3 L) (hB : B ≤ w.heap.size) :
    Calls Try.prog 17 #[.agg #[.slice D N cN], .slice A3 n3 c3, .agg #[.int .i64 x.i, .int .i64 x.s, .int .i64 x.t, .int .i64 x.b, .int .i64 x.l, .int .i64 x.h, .int .i64 x.c, .slice A n c, .slice A2 n2 c2], .int .i64 k] w fun e w' => e = .returned (.int .i64 (wcI C L x R S k)) ∧ Below w.heap.size w w' := by
  have H1 := Lib.hid h1
  have H2 := Lib.hid h2
  have H3 := Lib.hid h3
  have H4 := Lib.hid h4
  have hln := h1.1
  have hln2 := h2.1
  have hln3 := h3.1
  have hln4 := h4.1
  clear h1 h2 h3 h4
  obtain ⟨i, hi⟩ : ∃ i, wcI C L x R S k = i := ⟨_, rfl⟩
  have HI := Lib.hid hi
  clear hi
  obtain ⟨gq, hgq⟩ : ∃ q, gdB C x R S k = q := ⟨_, rfl⟩
  have HG := Lib.hid hgq
  clear hgq
  obtain ⟨lq, hlq⟩ : ∃ q, lkB L = q := ⟨_, rfl⟩
  have HLK := Lib.hid hlq
  clear hlq
  rw [HI.out]
  rcases gq with _ | _
  · have HE : Hid ((6 : Int) = i) := Lib.hid (by rw [← HI.out, wc_no (.inl HG.out)])
    go_enter Try.func17, Try.ntmps17
    go_wp2_with fail
    have hL := LS.mk2 w (.slice D N cN) 26 30 x A n c A2 n2 c2
    generalize ((w.alloc _).alloc _) = W0 at hL ⊢
    have L0 := Lib.hid hL
    have c0 := hL.st
    obtain ⟨t0, t1, t2, t3, t4, t5, t6, t7, t8⟩ := hL.tb
    clear hL
    go_wp2_with fail
    refine (impl_may x k (by omega) (by omega) (by omega) (H1.out.below (below_le L0.out.bel hB)) (H2.out.below (below_le L0.out.bel hB)) (H3.out.below (below_le L0.out.bel hB)) (by have := L0.out.size; omega)).mono ?_
    rintro e W1 ⟨rfl, hb⟩
    rw [HG.out]
    have L1 := Lib.hid (L0.out.call hb)
    clear hb c0 t0 t1 t2 t3 t4 t5 t6 t7 t8
    go_wp2_with fail
    go_ret
    exact ⟨ru.ret_i HE.out, L1.out.bel⟩
  rcases lq with _ | _
  · have HE : Hid ((6 : Int) = i) := Lib.hid (by rw [← HI.out, wc_no (.inr HLK.out)])
    go_enter Try.func17, Try.ntmps17
    go_wp2_with fail
    have hL := LS.mk2 w (.slice D N cN) 26 30 x A n c A2 n2 c2
    generalize ((w.alloc _).alloc _) = W0 at hL ⊢
    have L0 := Lib.hid hL
    have c0 := hL.st
    obtain ⟨t0, t1, t2, t3, t4, t5, t6, t7, t8⟩ := hL.tb
    clear hL
    go_wp2_with fail
    refine (impl_may x k (by omega) (by omega) (by omega) (H1.out.below (below_le L0.out.bel hB)) (H2.out.below (below_le L0.out.bel hB)) (H3.out.below (below_le L0.out.bel hB)) (by have := L0.out.size; omega)).mono ?_
    rintro e W1 ⟨rfl, hb⟩
    rw [HG.out]
    have L1 := Lib.hid (L0.out.call hb)
    clear hb c0 t0 t1 t2 t3 t4 t5 t6 t7 t8
    go_wp2_with fail
    refine (lka.impl_are (by omega) (H4.out.below (below_le L1.out.bel hB)) (by have := L1.out.size; omega)).mono ?_
    rintro e W2 ⟨rfl, hb⟩
    rw [HLK.out]
    have L2 := Lib.hid (L1.out.call hb)
    clear hb
    go_wp2_with fail
    go_ret
    exact ⟨ru.ret_i HE.out, L2.out.bel⟩
  rw [← HI.out]
  rcases ru_cases x.s with ⟨q1, hr⟩ | ⟨q1, hr⟩ | ⟨q1, hr⟩ | ⟨q1, hr⟩
  · exact impl_wc1 x k hn hn2 hN hn3 H1.out H2.out H3.out H4.out hB q1 hr HG HLK
  · exact impl_wc2 x k hn hn2 hN hn3 H1.out H2.out H3.out H4.out hB q1 hr HG HLK
  · exact impl_wc4 x k hn hn2 hN hn3 H1.out H2.out H3.out H4.out hB q1 hr HG HLK
  · exact impl_wc0 x k hn hn2 hN hn3 H1.out H2.out H3.out H4.out hB q1 hr HG HLK
end Go.Proofs.Ytdfhnngcddaccaa.wrc
/- WriteCode of the model: what each answers; nothing that was there is written. -/
namespace Go.Proofs.Ytdfhnngcddaccaa.wrs
open Go.ChangeShapes Go.WideShapes Go.ChangeAt Go.RowKit
open Go.Proofs.Ytdfhnngcddaccaa.el2 Go.Proofs.Ytdfhnngcddaccaa.tx Go.Proofs.Ytdfhnngcddaccaa.seq Go.Proofs.Ytdfhnngcddaccaa.tv Go.Proofs.Ytdfhnngcddaccaa.rx Go.Proofs.Ytdfhnngcddaccaa.ru Go.Proofs.Ytdfhnngcddaccaa.ruc Go.Proofs.Ytdfhnngcddaccaa.sc Go.Proofs.Ytdfhnngcddaccaa.cho Go.Proofs.Ytdfhnngcddaccaa.lk Go.Proofs.Ytdfhnngcddaccaa.wrc
open Go.Proofs.Ytdfhnngcddaccaa.vers (In in_yes in_no in_of in_off ret_b new2 new3)
open Go.Proofs.Ytdfhnngcddaccaa.sl (Ver)
open Go.Proofs.Ytdfhnngcddaccaa.st (Rs)
open Go.Proofs.Ytdfhnngcddaccaa.val (stB)
open Go.Proofs.Ytdfhnngcddaccaa.find (lastV vAt store5 below5 latest_spec latest_impl)
open Go.Proofs.Ytdfhnngcddaccaa.rd (rlB rlV rlV_yes)
set_option linter.unusedVariables false
set_option linter.unusedSimpArgs false
set_option maxRecDepth 100000 in
set_option maxHeartbeats 12800000 in
theorem spec_wc {w : World} {B n c n2 c2 N cN n3 c3 : Nat} {A A2 D A3 : Option Addr} {R S L : List E2} {C : List (List Ver)} (x : Hd) (k : Int) (hn : n ≤ 1048576) (hn2 : n2 ≤ 1048576) (hN : N ≤ 1048576) (hn3 : n3 ≤ 1048576) (h1 : Vs w B A n R) (h2 : Vs w B A2 n2 S) (h3 : Rs w B D N C) (h4 : Vs w B A3 n3 L) (hB : B ≤ w.heap.size) :
    Calls Try.prog 18 #[.agg #[.slice D N cN], .slice A3 n3 c3, .agg #[.int .i64 x.i, .int .i64 x.s, .int .i64 x.t, .int .i64 x.b, .int .i64 x.l, .int .i64 x.h, .int .i64 x.c, .slice A n c, .slice A2 n2 c2], .int .i64 k] w fun e w' => e = .returned (.int .i64 (wcI C L x R S k)) ∧ Below w.heap.size w w' := by
  have H1 := Lib.hid h1
  have H2 := Lib.hid h2
  have H3 := Lib.hid h3
  have H4 := Lib.hid h4
  have hln := h1.1
  have hln2 := h2.1
  have hln3 := h3.1
  have hln4 := h4.1
  clear h1 h2 h3 h4
  obtain ⟨i, hi⟩ : ∃ i, wcI C L x R S k = i := ⟨_, rfl⟩
  rw [hi]
  have HI := Lib.hid hi
  clear hi
  obtain ⟨gq, hgq⟩ : ∃ q, gdB C x R S k = q := ⟨_, rfl⟩
  have HG := Lib.hid hgq
  clear hgq
  obtain ⟨lq, hlq⟩ : ∃ q, lkB L = q := ⟨_, rfl⟩
  have HLK := Lib.hid hlq
  clear hlq
  rcases gq with _ | _
  · have HE : Hid ((6 : Int) = i) := Lib.hid (by rw [← HI.out, wc_no (.inl HG.out)])
    go_enter Try.func18, Try.ntmps18
    go_wp2_with fail
    have hL := LS.mk2 w (.slice D N cN) 26 30 x A n c A2 n2 c2
    generalize ((w.alloc _).alloc _) = W0 at hL ⊢
    have L0 := Lib.hid hL
    have c0 := hL.st
    obtain ⟨t0, t1, t2, t3, t4, t5, t6, t7, t8⟩ := hL.tb
    clear hL
    go_wp2_with fail
    refine (spec_good x k (by omega) (by omega) (by omega) (H1.out.below (below_le L0.out.bel hB)) (H2.out.below (below_le L0.out.bel hB)) (H3.out.below (below_le L0.out.bel hB)) (by have := L0.out.size; omega)).mono ?_
    rintro e W1 ⟨rfl, hb⟩
    rw [HG.out]
    have L1 := Lib.hid (L0.out.call hb)
    clear hb c0 t0 t1 t2 t3 t4 t5 t6 t7 t8
    go_wp2_with fail
    go_ret
    exact ⟨ru.ret_i HE.out, L1.out.bel⟩
  rcases lq with _ | _
  · have HE : Hid ((6 : Int) = i) := Lib.hid (by rw [← HI.out, wc_no (.inr HLK.out)])
    go_enter Try.func18, Try.ntmps18
    go_wp2_with fail
    have hL := LS.mk2 w (.slice D N cN) 26 30 x A n c A2 n2 c2
    generalize ((w.alloc _).alloc _) = W0 at hL ⊢
    have L0 := Lib.hid hL
    have c0 := hL.st
    obtain ⟨t0, t1, t2, t3, t4, t5, t6, t7, t8⟩ := hL.tb
    clear hL
    go_wp2_with fail
    refine (spec_good x k (by omega) (by omega) (by omega) (H1.out.below (below_le L0.out.bel hB)) (H2.out.below (below_le L0.out.bel hB)) (H3.out.below (below_le L0.out.bel hB)) (by have := L0.out.size; omega)).mono ?_
    rintro e W1 ⟨rfl, hb⟩
    rw [HG.out]
    have L1 := Lib.hid (L0.out.call hb)
    clear hb c0 t0 t1 t2 t3 t4 t5 t6 t7 t8
    go_wp2_with fail
    refine (lka.spec_are (by omega) (H4.out.below (below_le L1.out.bel hB)) (by have := L1.out.size; omega)).mono ?_
    rintro e W2 ⟨rfl, hb⟩
    rw [HLK.out]
    have L2 := Lib.hid (L1.out.call hb)
    clear hb
    go_wp2_with fail
    go_ret
    exact ⟨ru.ret_i HE.out, L2.out.bel⟩
  obtain ⟨hst, htx, hxt, hin⟩ := gd_parts HG.out
  have hk := in_yes hin
  have hsix := val.st_six hst
  obtain ⟨b, o, l, A9, n9, c9, rfl, hbB, hl, hcell, hn9, hv⟩ := H3.out.at_ (k := k.toNat) (by omega)
  have HC := Lib.hid hcell
  have HV := Lib.hid hv
  obtain ⟨v, hlv⟩ : ∃ v, lastV l = v := ⟨_, rfl⟩
  have HX := Lib.hid hlv
  obtain ⟨q, hq⟩ : ∃ q, tnB L x k = q := ⟨_, rfl⟩
  have HM : Hid (wcM x.s v.c v.d x.b q = i) := Lib.hid (by rw [wc_m HG.out HLK.out hl hlv hq]; exact HI.out)
  have HQ := Lib.hid hq
  have t0k : (k.toNat : Int) = k := by omega
  have t1k : (0 : Int) ≤ k := by omega
  have t2k : k < (N : Int) := by omega
  obtain ⟨g, hg⟩ : ∃ g, ownI k L = g := ⟨_, rfl⟩
  have HGO := Lib.hid hg
  clear hst htx hxt hin hsix hl hcell hv HI hlv hq hg
  by_cases o0 : g = 0
  · have nf0 : (g != 0) = false := by simp [o0]
    have e0 : q = false := by rw [← HQ.out]; exact tn_0 HGO.out o0
    subst e0
    clear o0
    go_enter Try.func18, Try.ntmps18
    go_wp2_with fail
    have hL := LS.mk2 w (.slice (some ⟨b, o, none⟩) N cN) 26 30 x A n c A2 n2 c2
    generalize ((w.alloc _).alloc _) = W0 at hL ⊢
    have L0 := Lib.hid hL
    have c0 := hL.st
    obtain ⟨t0, t1, t2, t3, t4, t5, t6, t7, t8⟩ := hL.tb
    clear hL
    go_wp2_with fail
    refine (spec_good x k (by omega) (by omega) (by omega) (H1.out.below (below_le L0.out.bel hB)) (H2.out.below (below_le L0.out.bel hB)) (H3.out.below (below_le L0.out.bel hB)) (by have := L0.out.size; omega)).mono ?_
    rintro e W1 ⟨rfl, hb⟩
    rw [HG.out]
    have L1 := Lib.hid (L0.out.call hb)
    clear hb c0 t0 t1 t2 t3 t4 t5 t6 t7 t8
    go_wp2_with fail
    refine (lka.spec_are (by omega) (H4.out.below (below_le L1.out.bel hB)) (by have := L1.out.size; omega)).mono ?_
    rintro e W2 ⟨rfl, hb⟩
    rw [HLK.out]
    have L2 := Lib.hid (L1.out.call hb)
    clear hb
    go_wp2_with fail
    refine (own_s HGO.out (by omega) (H4.out.below (below_le L2.out.bel hB)) (by have := L2.out.size; omega)).mono ?_
    rintro e W3 ⟨he, hw⟩
    subst he
    subst hw
    have c0 := L2.out.st
    obtain ⟨t0, t1, t2, t3, t4, t5, t6, t7, t8⟩ := L2.out.tb
    clear t1 t2 t3 t4 t5 t6 t7 t8
    have d0 := (L2.out.bel.cell (p := ⟨b, o + k.toNat, none⟩) (by simp only; omega)).trans HC.out
    go_wp2_with fail
    refine (latest_spec HX.out hn9 (HV.out.below (below_le L2.out.bel hB)) (by have := L2.out.size; omega)).mono ?_
    rintro e W4 ⟨rfl, hb⟩
    have L4 := Lib.hid (L2.out.call hb)
    clear hb c0 d0 t0
    obtain ⟨t0, t1, t2, t3, t4, t5, t6, t7, t8⟩ := L4.out.tb
    clear t0 t2 t4 t5 t6 t7 t8
    have hsz1 : w.heap.size + 1 < W4.heap.size := by have := L4.out.size; omega
    have hsz0 : w.heap.size < W4.heap.size := by have := L4.out.size; omega
    by_cases q1 : x.s = 1
    · have s1 : (x.s == 1) = true := by simpa using q1
      have s2 : (x.s == 2) = false := by simp [q1]
      have s4 : (x.s == 4) = false := by simp [q1]
      have HE : Hid ((0 : Int) = i) := Lib.hid (by rw [← HM.out]; simp [wcM, q1])
      clear q1
      go_wp2_with fail
      go_ret
      exact ⟨ru.ret_i HE.out, L4.out.bel.alloc L4.out.bel.size _⟩
    by_cases q2 : x.s = 2
    · have s1 : (x.s == 1) = false := by simp [q2]
      have s2 : (x.s == 2) = true := by simpa using q2
      have s4 : (x.s == 4) = false := by simp [q2]
      by_cases hc : x.b < v.c
      · have tc : decide (x.b < v.c) = true := decide_eq_true hc
        have HE : Hid ((2 : Int) = i) := Lib.hid (by rw [← HM.out]; simp [wcM, q2, hc])
        clear q1 q2
        go_wp2_with fail
        go_ret
        exact ⟨ru.ret_i HE.out, L4.out.bel.alloc L4.out.bel.size _⟩
      · have tc : decide (x.b < v.c) = false := decide_eq_false hc
        have HE : Hid ((0 : Int) = i) := Lib.hid (by rw [← HM.out]; simp [wcM, q2, hc])
        clear q1 q2
        go_wp2_with fail
        go_ret
        exact ⟨ru.ret_i HE.out, L4.out.bel.alloc L4.out.bel.size _⟩
    have s1 : (x.s == 1) = false := by simpa using q1
    have s2 : (x.s == 2) = false := by simpa using q2
    by_cases q4 : x.s = 4
    · have s4 : (x.s == 4) = true := by simpa using q4
      by_cases hc : x.b < v.c
      · have tc : decide (x.b < v.c) = true := decide_eq_true hc
        have HE : Hid ((3 : Int) = i) := Lib.hid (by rw [← HM.out]; simp [wcM, q4, hc])
        clear q1 q2 q4
        go_wp2_with fail
        go_ret
        exact ⟨ru.ret_i HE.out, L4.out.bel.alloc L4.out.bel.size _⟩
      have tc : decide (x.b < v.c) = false := decide_eq_false hc
      by_cases hd : x.b < v.d
      · have td : decide (x.b < v.d) = true := decide_eq_true hd
        have HE : Hid ((3 : Int) = i) := Lib.hid (by rw [← HM.out]; simp [wcM, q4, hc, hd])
        clear q1 q2 q4
        go_wp2_with fail
        go_ret
        exact ⟨ru.ret_i HE.out, L4.out.bel.alloc L4.out.bel.size _⟩
      · have td : decide (x.b < v.d) = false := decide_eq_false hd
        have HE : Hid ((0 : Int) = i) := Lib.hid (by rw [← HM.out]; simp [wcM, q4, hc, hd])
        clear q1 q2 q4
        go_wp2_with fail
        go_ret
        exact ⟨ru.ret_i HE.out, L4.out.bel.alloc L4.out.bel.size _⟩
    · have s4 : (x.s == 4) = false := by simpa using q4
      have HE : Hid ((0 : Int) = i) := Lib.hid (by rw [← HM.out]; simp [wcM, q1, q2, q4])
      clear q1 q2 q4
      go_wp2_with fail
      go_ret
      exact ⟨ru.ret_i HE.out, L4.out.bel.alloc L4.out.bel.size _⟩
  by_cases o1 : g = x.i
  · have nf0 : (g != 0) = true := by simpa using o0
    have nf1 : (g != x.i) = false := by simp [o1]
    have e0 : q = false := by rw [← HQ.out]; exact tn_own HGO.out o1
    subst e0
    clear o0 o1
    go_enter Try.func18, Try.ntmps18
    go_wp2_with fail
    have hL := LS.mk2 w (.slice (some ⟨b, o, none⟩) N cN) 26 30 x A n c A2 n2 c2
    generalize ((w.alloc _).alloc _) = W0 at hL ⊢
    have L0 := Lib.hid hL
    have c0 := hL.st
    obtain ⟨t0, t1, t2, t3, t4, t5, t6, t7, t8⟩ := hL.tb
    clear hL
    go_wp2_with fail
    refine (spec_good x k (by omega) (by omega) (by omega) (H1.out.below (below_le L0.out.bel hB)) (H2.out.below (below_le L0.out.bel hB)) (H3.out.below (below_le L0.out.bel hB)) (by have := L0.out.size; omega)).mono ?_
    rintro e W1 ⟨rfl, hb⟩
    rw [HG.out]
    have L1 := Lib.hid (L0.out.call hb)
    clear hb c0 t0 t1 t2 t3 t4 t5 t6 t7 t8
    go_wp2_with fail
    refine (lka.spec_are (by omega) (H4.out.below (below_le L1.out.bel hB)) (by have := L1.out.size; omega)).mono ?_
    rintro e W2 ⟨rfl, hb⟩
    rw [HLK.out]
    have L2 := Lib.hid (L1.out.call hb)
    clear hb
    go_wp2_with fail
    refine (own_s HGO.out (by omega) (H4.out.below (below_le L2.out.bel hB)) (by have := L2.out.size; omega)).mono ?_
    rintro e W3 ⟨he, hw⟩
    subst he
    subst hw
    have c0 := L2.out.st
    obtain ⟨t0, t1, t2, t3, t4, t5, t6, t7, t8⟩ := L2.out.tb
    clear t1 t2 t3 t4 t5 t6 t7 t8
    have d0 := (L2.out.bel.cell (p := ⟨b, o + k.toNat, none⟩) (by simp only; omega)).trans HC.out
    go_wp2_with fail
    refine (latest_spec HX.out hn9 (HV.out.below (below_le L2.out.bel hB)) (by have := L2.out.size; omega)).mono ?_
    rintro e W4 ⟨rfl, hb⟩
    have L4 := Lib.hid (L2.out.call hb)
    clear hb c0 d0 t0
    obtain ⟨t0, t1, t2, t3, t4, t5, t6, t7, t8⟩ := L4.out.tb
    clear t0 t2 t4 t5 t6 t7 t8
    have hsz1 : w.heap.size + 1 < W4.heap.size := by have := L4.out.size; omega
    have hsz0 : w.heap.size < W4.heap.size := by have := L4.out.size; omega
    by_cases q1 : x.s = 1
    · have s1 : (x.s == 1) = true := by simpa using q1
      have s2 : (x.s == 2) = false := by simp [q1]
      have s4 : (x.s == 4) = false := by simp [q1]
      have HE : Hid ((0 : Int) = i) := Lib.hid (by rw [← HM.out]; simp [wcM, q1])
      clear q1
      go_wp2_with fail
      go_ret
      exact ⟨ru.ret_i HE.out, L4.out.bel.alloc L4.out.bel.size _⟩
    by_cases q2 : x.s = 2
    · have s1 : (x.s == 1) = false := by simp [q2]
      have s2 : (x.s == 2) = true := by simpa using q2
      have s4 : (x.s == 4) = false := by simp [q2]
      by_cases hc : x.b < v.c
      · have tc : decide (x.b < v.c) = true := decide_eq_true hc
        have HE : Hid ((2 : Int) = i) := Lib.hid (by rw [← HM.out]; simp [wcM, q2, hc])
        clear q1 q2
        go_wp2_with fail
        go_ret
        exact ⟨ru.ret_i HE.out, L4.out.bel.alloc L4.out.bel.size _⟩
      · have tc : decide (x.b < v.c) = false := decide_eq_false hc
        have HE : Hid ((0 : Int) = i) := Lib.hid (by rw [← HM.out]; simp [wcM, q2, hc])
        clear q1 q2
        go_wp2_with fail
        go_ret
        exact ⟨ru.ret_i HE.out, L4.out.bel.alloc L4.out.bel.size _⟩
    have s1 : (x.s == 1) = false := by simpa using q1
    have s2 : (x.s == 2) = false := by simpa using q2
    by_cases q4 : x.s = 4
    · have s4 : (x.s == 4) = true := by simpa using q4
      by_cases hc : x.b < v.c
      · have tc : decide (x.b < v.c) = true := decide_eq_true hc
        have HE : Hid ((3 : Int) = i) := Lib.hid (by rw [← HM.out]; simp [wcM, q4, hc])
        clear q1 q2 q4
        go_wp2_with fail
        go_ret
        exact ⟨ru.ret_i HE.out, L4.out.bel.alloc L4.out.bel.size _⟩
      have tc : decide (x.b < v.c) = false := decide_eq_false hc
      by_cases hd : x.b < v.d
      · have td : decide (x.b < v.d) = true := decide_eq_true hd
        have HE : Hid ((3 : Int) = i) := Lib.hid (by rw [← HM.out]; simp [wcM, q4, hc, hd])
        clear q1 q2 q4
        go_wp2_with fail
        go_ret
        exact ⟨ru.ret_i HE.out, L4.out.bel.alloc L4.out.bel.size _⟩
      · have td : decide (x.b < v.d) = false := decide_eq_false hd
        have HE : Hid ((0 : Int) = i) := Lib.hid (by rw [← HM.out]; simp [wcM, q4, hc, hd])
        clear q1 q2 q4
        go_wp2_with fail
        go_ret
        exact ⟨ru.ret_i HE.out, L4.out.bel.alloc L4.out.bel.size _⟩
    · have s4 : (x.s == 4) = false := by simpa using q4
      have HE : Hid ((0 : Int) = i) := Lib.hid (by rw [← HM.out]; simp [wcM, q1, q2, q4])
      clear q1 q2 q4
      go_wp2_with fail
      go_ret
      exact ⟨ru.ret_i HE.out, L4.out.bel.alloc L4.out.bel.size _⟩
  have nf0 : (g != 0) = true := by simpa using o0
  have nf1 : (g != x.i) = true := by simpa using o1
  have e0 : q = true := by rw [← HQ.out]; exact tn_yes HGO.out o0 o1
  subst e0
  clear o0 o1
  go_enter Try.func18, Try.ntmps18
  go_wp2_with fail
  have hL := LS.mk2 w (.slice (some ⟨b, o, none⟩) N cN) 26 30 x A n c A2 n2 c2
  generalize ((w.alloc _).alloc _) = W0 at hL ⊢
  have L0 := Lib.hid hL
  have c0 := hL.st
  obtain ⟨t0, t1, t2, t3, t4, t5, t6, t7, t8⟩ := hL.tb
  clear hL
  go_wp2_with fail
  refine (spec_good x k (by omega) (by omega) (by omega) (H1.out.below (below_le L0.out.bel hB)) (H2.out.below (below_le L0.out.bel hB)) (H3.out.below (below_le L0.out.bel hB)) (by have := L0.out.size; omega)).mono ?_
  rintro e W1 ⟨rfl, hb⟩
  rw [HG.out]
  have L1 := Lib.hid (L0.out.call hb)
  clear hb c0 t0 t1 t2 t3 t4 t5 t6 t7 t8
  go_wp2_with fail
  refine (lka.spec_are (by omega) (H4.out.below (below_le L1.out.bel hB)) (by have := L1.out.size; omega)).mono ?_
  rintro e W2 ⟨rfl, hb⟩
  rw [HLK.out]
  have L2 := Lib.hid (L1.out.call hb)
  clear hb
  go_wp2_with fail
  refine (own_s HGO.out (by omega) (H4.out.below (below_le L2.out.bel hB)) (by have := L2.out.size; omega)).mono ?_
  rintro e W3 ⟨he, hw⟩
  subst he
  subst hw
  have c0 := L2.out.st
  obtain ⟨t0, t1, t2, t3, t4, t5, t6, t7, t8⟩ := L2.out.tb
  clear t1 t2 t3 t4 t5 t6 t7 t8
  have d0 := (L2.out.bel.cell (p := ⟨b, o + k.toNat, none⟩) (by simp only; omega)).trans HC.out
  go_wp2_with fail
  refine (latest_spec HX.out hn9 (HV.out.below (below_le L2.out.bel hB)) (by have := L2.out.size; omega)).mono ?_
  rintro e W4 ⟨rfl, hb⟩
  have L4 := Lib.hid (L2.out.call hb)
  clear hb c0 d0 t0
  obtain ⟨t0, t1, t2, t3, t4, t5, t6, t7, t8⟩ := L4.out.tb
  clear t0 t2 t4 t5 t6 t7 t8
  have hsz1 : w.heap.size + 1 < W4.heap.size := by have := L4.out.size; omega
  have hsz0 : w.heap.size < W4.heap.size := by have := L4.out.size; omega
  by_cases q1 : x.s = 1
  · have s1 : (x.s == 1) = true := by simpa using q1
    have s2 : (x.s == 2) = false := by simp [q1]
    have s4 : (x.s == 4) = false := by simp [q1]
    have HE : Hid ((1 : Int) = i) := Lib.hid (by rw [← HM.out]; simp [wcM, q1])
    clear q1
    go_wp2_with fail
    go_ret
    exact ⟨ru.ret_i HE.out, L4.out.bel.alloc L4.out.bel.size _⟩
  by_cases q2 : x.s = 2
  · have s1 : (x.s == 1) = false := by simp [q2]
    have s2 : (x.s == 2) = true := by simpa using q2
    have HE : Hid ((2 : Int) = i) := Lib.hid (by rw [← HM.out]; simp [wcM, q2])
    clear q1 q2
    go_wp2_with fail
    go_ret
    exact ⟨ru.ret_i HE.out, L4.out.bel.alloc L4.out.bel.size _⟩
  have s1 : (x.s == 1) = false := by simpa using q1
  have s2 : (x.s == 2) = false := by simpa using q2
  by_cases q4 : x.s = 4
  · have s4 : (x.s == 4) = true := by simpa using q4
    by_cases hc : x.b < v.c
    · have tc : decide (x.b < v.c) = true := decide_eq_true hc
      have HE : Hid ((3 : Int) = i) := Lib.hid (by rw [← HM.out]; simp [wcM, q4, hc])
      clear q1 q2 q4
      go_wp2_with fail
      go_ret
      exact ⟨ru.ret_i HE.out, L4.out.bel.alloc L4.out.bel.size _⟩
    have tc : decide (x.b < v.c) = false := decide_eq_false hc
    by_cases hd : x.b < v.d
    · have td : decide (x.b < v.d) = true := decide_eq_true hd
      have HE : Hid ((3 : Int) = i) := Lib.hid (by rw [← HM.out]; simp [wcM, q4, hc, hd])
      clear q1 q2 q4
      go_wp2_with fail
      go_ret
      exact ⟨ru.ret_i HE.out, L4.out.bel.alloc L4.out.bel.size _⟩
    · have td : decide (x.b < v.d) = false := decide_eq_false hd
      have HE : Hid ((0 : Int) = i) := Lib.hid (by rw [← HM.out]; simp [wcM, q4, hc, hd])
      clear q1 q2 q4
      go_wp2_with fail
      go_ret
      exact ⟨ru.ret_i HE.out, L4.out.bel.alloc L4.out.bel.size _⟩
  · have s4 : (x.s == 4) = false := by simpa using q4
    have HE : Hid ((0 : Int) = i) := Lib.hid (by rw [← HM.out]; simp [wcM, q1, q2, q4])
    clear q1 q2 q4
    go_wp2_with fail
    go_ret
    exact ⟨ru.ret_i HE.out, L4.out.bel.alloc L4.out.bel.size _⟩
end Go.Proofs.Ytdfhnngcddaccaa.wrs
/- SchemeName and NewTransaction of the program and of the model, what they answer; nothing that was there is written. -/
namespace Go.Proofs.Ytdfhnngcddaccaa.tn
open Go.ChangeShapes Go.WideShapes Go.ChangeAt Go.RowKit
open Go.Proofs.Ytdfhnngcddaccaa.el2 Go.Proofs.Ytdfhnngcddaccaa.tx Go.Proofs.Ytdfhnngcddaccaa.seq Go.Proofs.Ytdfhnngcddaccaa.tv
open Go.Proofs.Ytdfhnngcddaccaa.vers (In in_yes in_no in_of in_off in_range ret_b new2 new3)
set_option linter.unusedVariables false
set_option linter.unusedSimpArgs false
set_option linter.constructorNameAsVariable false
def sn (k : Int) : ByteArray := if k = 1 then ⟨#[99, 111, 109, 109, 105, 116, 116, 101, 100]⟩ else if k = 2 then ⟨#[115, 110, 97, 112, 115, 104, 111, 116]⟩ else if k = 3 then ⟨#[111, 112, 116, 105, 109, 105, 115, 116, 105, 99]⟩ else if k = 4 then ⟨#[111, 114, 100, 101, 114, 101, 100]⟩ else ⟨#[]⟩
theorem sn_1 : sn 1 = ⟨#[99, 111, 109, 109, 105, 116, 116, 101, 100]⟩ := rfl
theorem sn_2 : sn 2 = ⟨#[115, 110, 97, 112, 115, 104, 111, 116]⟩ := rfl
theorem sn_3 : sn 3 = ⟨#[111, 112, 116, 105, 109, 105, 115, 116, 105, 99]⟩ := rfl
theorem sn_4 : sn 4 = ⟨#[111, 114, 100, 101, 114, 101, 100]⟩ := rfl
theorem sn_0 {k : Int} (h1 : k ≠ 1) (h2 : k ≠ 2) (h3 : k ≠ 3) (h4 : k ≠ 4) : sn k = ⟨#[]⟩ := by unfold sn; rw [if_neg h1, if_neg h2, if_neg h3, if_neg h4]
theorem ret_s {a b : ByteArray} (h : a = b) : Ending.returned (.string a) = .returned (.string b) := by rw [h]
/-! a new transaction -/
def n0 (i s b : Int) : Hd := ⟨i, s, 1, b, 0, 1000, 0⟩
def z0 : Hd := ⟨0, 0, 0, 0, 0, 0, 0⟩
noncomputable def nwB (i s b : Int) : Bool := txB (n0 i s b) [] []
noncomputable def nwT (i s b : Int) : Hd := if nwB i s b then n0 i s b else z0
theorem nw_yes {i s b : Int} (h : nwB i s b = true) : nwT i s b = n0 i s b := if_pos h
theorem nw_no {i s b : Int} (h : nwB i s b = false) : nwT i s b = z0 := if_neg (by simp [h])
end Go.Proofs.Ytdfhnngcddaccaa.tn
/- CodeName of the program and of the model: what each answers. -/
namespace Go.Proofs.Ytdfhnngcddaccaa.cdn
open Go.ChangeShapes Go.WideShapes Go.ChangeAt Go.RowKit
open Go.Proofs.Ytdfhnngcddaccaa.el2 Go.Proofs.Ytdfhnngcddaccaa.tx Go.Proofs.Ytdfhnngcddaccaa.tn
open Go.Proofs.Ytdfhnngcddaccaa.vers (In in_yes in_no in_of in_off in_range ret_b new2 new3)
set_option linter.unusedVariables false
set_option linter.unusedSimpArgs false
def cn (k : Int) : ByteArray := if k = 0 then ⟨#[111, 107]⟩ else if k = 1 then ⟨#[98, 108, 111, 99, 107, 101, 100]⟩ else if k = 2 then ⟨#[99, 111, 110, 102, 108, 105, 99, 116]⟩ else if k = 3 then ⟨#[108, 97, 116, 101]⟩ else if k = 4 then ⟨#[100, 101, 97, 100, 108, 111, 99, 107]⟩ else if k = 5 then ⟨#[101, 120, 99, 108, 117, 100, 101, 100]⟩ else if k = 6 then ⟨#[105, 110, 118, 97, 108, 105, 100]⟩ else ⟨#[]⟩
theorem cn_0 : cn 0 = ⟨#[111, 107]⟩ := rfl
theorem cn_1 : cn 1 = ⟨#[98, 108, 111, 99, 107, 101, 100]⟩ := rfl
theorem cn_2 : cn 2 = ⟨#[99, 111, 110, 102, 108, 105, 99, 116]⟩ := rfl
theorem cn_3 : cn 3 = ⟨#[108, 97, 116, 101]⟩ := rfl
theorem cn_4 : cn 4 = ⟨#[100, 101, 97, 100, 108, 111, 99, 107]⟩ := rfl
theorem cn_5 : cn 5 = ⟨#[101, 120, 99, 108, 117, 100, 101, 100]⟩ := rfl
theorem cn_6 : cn 6 = ⟨#[105, 110, 118, 97, 108, 105, 100]⟩ := rfl
theorem cn_no {k : Int} (h0 : k ≠ 0) (h1 : k ≠ 1) (h2 : k ≠ 2) (h3 : k ≠ 3) (h4 : k ≠ 4) (h5 : k ≠ 5) (h6 : k ≠ 6) : cn k = ⟨#[]⟩ := by unfold cn; rw [if_neg h0, if_neg h1, if_neg h2, if_neg h3, if_neg h4, if_neg h5, if_neg h6]
set_option maxHeartbeats 3200000 in
theorem impl_name (k : Int) (w : World) :
    Calls Try.prog 15 #[.int .i64 k] w fun e w' => e = .returned (.string (cn k)) ∧ w = w' := by
  by_cases q0 : k = 0
  case pos =>
    subst q0
    go_enter Try.func15, Try.ntmps15
    go_wp2_with fail
    go_ret
    exact ⟨ret_s cn_0.symm, rfl⟩
  by_cases q1 : k = 1
  case pos =>
    subst q1
    go_enter Try.func15, Try.ntmps15
    go_wp2_with fail
    go_ret
    exact ⟨ret_s cn_1.symm, rfl⟩
  by_cases q2 : k = 2
  case pos =>
    subst q2
    go_enter Try.func15, Try.ntmps15
    go_wp2_with fail
    go_ret
    exact ⟨ret_s cn_2.symm, rfl⟩
  by_cases q3 : k = 3
  case pos =>
    subst q3
    go_enter Try.func15, Try.ntmps15
    go_wp2_with fail
    go_ret
    exact ⟨ret_s cn_3.symm, rfl⟩
  by_cases q4 : k = 4
  case pos =>
    subst q4
    go_enter Try.func15, Try.ntmps15
    go_wp2_with fail
    go_ret
    exact ⟨ret_s cn_4.symm, rfl⟩
  by_cases q5 : k = 5
  case pos =>
    subst q5
    go_enter Try.func15, Try.ntmps15
    go_wp2_with fail
    go_ret
    exact ⟨ret_s cn_5.symm, rfl⟩
  by_cases q6 : k = 6
  case pos =>
    subst q6
    go_enter Try.func15, Try.ntmps15
    go_wp2_with fail
    go_ret
    exact ⟨ret_s cn_6.symm, rfl⟩
  have HE : Hid (cn k = ⟨#[]⟩) := Lib.hid (cn_no q0 q1 q2 q3 q4 q5 q6)
  have t0 : (k == 0) = false := by simpa using q0
  have t1 : (k == 1) = false := by simpa using q1
  have t2 : (k == 2) = false := by simpa using q2
  have t3 : (k == 3) = false := by simpa using q3
  have t4 : (k == 4) = false := by simpa using q4
  have t5 : (k == 5) = false := by simpa using q5
  have t6 : (k == 6) = false := by simpa using q6
  clear q0 q1 q2 q3 q4 q5 q6
  go_enter Try.func15, Try.ntmps15
  go_wp2_with fail
  go_ret
  exact ⟨ret_s HE.out.symm, rfl⟩
set_option maxHeartbeats 3200000 in
theorem spec_name (k : Int) (w : World) :
    Calls Try.prog 32 #[.int .i64 k] w fun e w' => e = .returned (.string (cn k)) ∧ Below w.heap.size w w' := by
  by_cases q0 : k = 0
  case pos =>
    subst q0
    go_enter Try.func32, Try.ntmps32
    go_wp2_with fail
    refine (in_range _ _ _ _).mono ?_
    rintro e W ⟨rfl, rfl⟩
    have hin : In 0 6 0 = true := by decide
    rw [hin]
    go_wp2_with fail
    go_ret
    exact ⟨ret_s cn_0.symm, new1 _ _⟩
  by_cases q1 : k = 1
  case pos =>
    subst q1
    go_enter Try.func32, Try.ntmps32
    go_wp2_with fail
    refine (in_range _ _ _ _).mono ?_
    rintro e W ⟨rfl, rfl⟩
    have hin : In 0 6 1 = true := by decide
    rw [hin]
    go_wp2_with fail
    go_ret
    exact ⟨ret_s cn_1.symm, new1 _ _⟩
  by_cases q2 : k = 2
  case pos =>
    subst q2
    go_enter Try.func32, Try.ntmps32
    go_wp2_with fail
    refine (in_range _ _ _ _).mono ?_
    rintro e W ⟨rfl, rfl⟩
    have hin : In 0 6 2 = true := by decide
    rw [hin]
    go_wp2_with fail
    go_ret
    exact ⟨ret_s cn_2.symm, new1 _ _⟩
  by_cases q3 : k = 3
  case pos =>
    subst q3
    go_enter Try.func32, Try.ntmps32
    go_wp2_with fail
    refine (in_range _ _ _ _).mono ?_
    rintro e W ⟨rfl, rfl⟩
    have hin : In 0 6 3 = true := by decide
    rw [hin]
    go_wp2_with fail
    go_ret
    exact ⟨ret_s cn_3.symm, new1 _ _⟩
  by_cases q4 : k = 4
  case pos =>
    subst q4
    go_enter Try.func32, Try.ntmps32
    go_wp2_with fail
    refine (in_range _ _ _ _).mono ?_
    rintro e W ⟨rfl, rfl⟩
    have hin : In 0 6 4 = true := by decide
    rw [hin]
    go_wp2_with fail
    go_ret
    exact ⟨ret_s cn_4.symm, new1 _ _⟩
  by_cases q5 : k = 5
  case pos =>
    subst q5
    go_enter Try.func32, Try.ntmps32
    go_wp2_with fail
    refine (in_range _ _ _ _).mono ?_
    rintro e W ⟨rfl, rfl⟩
    have hin : In 0 6 5 = true := by decide
    rw [hin]
    go_wp2_with fail
    go_ret
    exact ⟨ret_s cn_5.symm, new1 _ _⟩
  by_cases q6 : k = 6
  case pos =>
    subst q6
    go_enter Try.func32, Try.ntmps32
    go_wp2_with fail
    refine (in_range _ _ _ _).mono ?_
    rintro e W ⟨rfl, rfl⟩
    have hin : In 0 6 6 = true := by decide
    rw [hin]
    go_wp2_with fail
    go_ret
    exact ⟨ret_s cn_6.symm, new1 _ _⟩
  have HE : Hid (cn k = ⟨#[]⟩) := Lib.hid (cn_no q0 q1 q2 q3 q4 q5 q6)
  have HIN : Hid (In 0 6 k = false) := Lib.hid (in_off (by omega))
  clear q0 q1 q2 q3 q4 q5 q6
  go_enter Try.func32, Try.ntmps32
  go_wp2_with fail
  refine (in_range _ _ _ _).mono ?_
  rintro e W ⟨rfl, rfl⟩
  rw [HIN.out]
  go_wp2_with fail
  go_ret
  exact ⟨ret_s HE.out.symm, Below.refl _ _⟩
theorem impl_name_b (k : Int) (w : World) : Calls Try.prog 15 #[.int .i64 k] w fun e w' => e = .returned (.string (cn k)) ∧ Below w.heap.size w w' :=
  (impl_name k w).mono fun e w' ⟨he, hw⟩ => ⟨he, by rw [← hw]; exact Below.refl _ _⟩
end Go.Proofs.Ytdfhnngcddaccaa.cdn
/- A box of a mark that is written; the boxes of a store, of a transaction and of a mark. -/
namespace Go.Proofs.Ytdfhnngcddaccaa.mx
open Go.ChangeShapes Go.WideShapes Go.ChangeAt Go.RowKit
open Go.Proofs.Ytdfhnngcddaccaa.el2 Go.Proofs.Ytdfhnngcddaccaa.tx Go.Proofs.Ytdfhnngcddaccaa.bx Go.Proofs.Ytdfhnngcddaccaa.rx
open Go.Proofs.Ytdfhnngcddaccaa.vers (new2 new3)
open Go.Proofs.Ytdfhnngcddaccaa.sl (Ver)
open Go.Proofs.Ytdfhnngcddaccaa.st (Rs)
set_option linter.unusedVariables false
set_option linter.unusedSimpArgs false
/-- a box of a mark -/
def Mx (w : World) (b : Nat) (m : E2) : Prop := ∃ f, w.rowIs b 125 2 f ∧ f 0 = .int .i64 m.a ∧ f 1 = .int .i64 m.b
section
variable {w w' : World} {b : Nat} {x y : E2}
theorem Mx.cells (h : Mx w b x) : w.cell? ⟨b, 0, none⟩ = some (.int .i64 x.a) ∧ w.cell? ⟨b, 1, none⟩ = some (.int .i64 x.b) := by
  obtain ⟨f, hf, h0, h1⟩ := h
  exact ⟨(hf.cell (show 0 < 2 by decide)).trans (by rw [h0]), (hf.cell (show 1 < 2 by decide)).trans (by rw [h1])⟩
theorem Mx.fz (h : Mx w b x) (i : Nat) : w.frozen? ⟨b, i, none⟩ = false := by obtain ⟨f, hf, _⟩ := h; exact hf.frozen i
theorem Mx.lt (h : Mx w b x) : b < w.heap.size := by obtain ⟨f, hf, _⟩ := h; exact hf.lt
theorem Mx.of_block (h : Mx w b x) (hk : w'.heap[b]? = w.heap[b]?) : Mx w' b x := by obtain ⟨f, hf, hr⟩ := h; exact ⟨f, hf.of_block hk, hr⟩
theorem Mx.new (w : World) (x : E2) : Mx (w.alloc (.cells #[.int .i64 x.a, .int .i64 x.b] 125)) w.heap.size x :=
  ⟨fun i => if i = 0 then .int .i64 x.a else .int .i64 x.b, World.rowIs_alloc w #[.int .i64 x.a, .int .i64 x.b] 125 _ (fun i hi => by
    have : i = 0 ∨ i = 1 := by simp at hi; omega
    rcases this with rfl | rfl <;> rfl), rfl, rfl⟩
theorem Mx.zero (w : World) : Mx (w.alloc (.cells #[.int .i64 0, .int .i64 0] 125)) w.heap.size ⟨0, 0⟩ := Mx.new w ⟨0, 0⟩
theorem Mx.put (h : Mx w b y) (x : E2) : Mx (World.setCell (World.setCell w ⟨b, 0, none⟩ (.int .i64 x.a)) ⟨b, 1, none⟩ (.int .i64 x.b)) b x := by
  obtain ⟨f, hf, _⟩ := h
  exact ⟨_, (hf.set 0 (.int .i64 x.a)).set 1 (.int .i64 x.b), rfl, rfl⟩
theorem off2 (V : World) (bb : Nat) (v0 v1 : Value) : Off bb V (World.setCell (World.setCell V ⟨bb, 0, none⟩ v0) ⟨bb, 1, none⟩ v1) :=
  ((Off.refl bb V).setCell (p := ⟨bb, 0, none⟩) rfl _).setCell (p := ⟨bb, 1, none⟩) rfl _
/-- writing a block that is new since the start -/
theorem bel_off {w0 W W' : World} {q : Nat} (h : Below w0.heap.size w0 W) (ho : Off q W W') (hq : w0.heap.size ≤ q) : Below w0.heap.size w0 W' := h.trans (ho.below hq)
theorem Mx.keep {B : Nat} (h : Mx w b x) (hb : Below B w w') (hB : b < B) : Mx w' b x := h.of_block (hb.block b hB)
end
/-- the boxes of a store, of a transaction and of a mark -/
structure LM (w : World) (sv : Value) (x : Hd) (u1 u2 : Value) (m : E2) (W : World) : Prop where
  ls : LS w sv x u1 u2 W
  size : w.heap.size + 3 ≤ W.heap.size
  rb : Mx W (w.heap.size + 2) m
section
variable {w W W' : World} {x : Hd} {u1 u2 sv : Value} {m m' : E2}
theorem LS.keep {w W W' : World} {x : Hd} {u1 u2 sv : Value} (h : LS w sv x u1 u2 W) (hb : Below (w.heap.size + 2) W W') : LS w sv x u1 u2 W' :=
  ⟨h.bel.trans (hb.mono (by omega)), Nat.le_trans h.size hb.size, (hb.cell (p := ⟨w.heap.size, 0, none⟩) (by simp only; omega)).trans h.st, h.tb.keep (by omega) hb⟩
theorem LM.keep (h : LM w sv x u1 u2 m W) (hb : Below (w.heap.size + 3) W W') : LM w sv x u1 u2 m W' :=
  ⟨LS.keep h.ls (hb.mono (by omega)), Nat.le_trans h.size hb.size, h.rb.keep hb (by omega)⟩
theorem LM.call (h : LM w sv x u1 u2 m W) (hb : Below W.heap.size W W') : LM w sv x u1 u2 m W' := h.keep (below_le hb h.size)
theorem LM.put (h : LM w sv x u1 u2 m W) (m' : E2) : LM w sv x u1 u2 m' (World.setCell (World.setCell W ⟨w.heap.size + 2, 0, none⟩ (.int .i64 m'.a)) ⟨w.heap.size + 2, 1, none⟩ (.int .i64 m'.b)) :=
  have ho := off2 W (w.heap.size + 2) (.int .i64 m'.a) (.int .i64 m'.b)
  ⟨LS.keep h.ls (ho.below (Nat.le_refl _)), by rw [ho.size]; exact h.size, h.rb.put m'⟩
theorem LM.drew (h : LM w sv x u1 u2 m W) : LM w sv x u1 u2 m W.drew := h.call ((Below.refl _ _).drew)
end
theorem LM.mk3 (w : World) (x : Hd) (A A2 D : Option Addr) (n c n2 c2 N cN : Nat) : LM w (.slice D N cN) x (.slice A n c) (.slice A2 n2 c2) ⟨0, 0⟩ (((w.alloc (.cells #[.slice D N cN] 26)).alloc (.cells #[.int .i64 x.i, .int .i64 x.s, .int .i64 x.t, .int .i64 x.b, .int .i64 x.l, .int .i64 x.h, .int .i64 x.c, .slice A n c, .slice A2 n2 c2] 30)).alloc (.cells #[.int .i64 0, .int .i64 0] 125)) where
  ls := (LS.mk2 w (.slice D N cN) 26 30 x A n c A2 n2 c2).call (new1 _ _)
  size := by simp
  rb := by
    have h := Mx.zero ((w.alloc (.cells #[.slice D N cN] 26)).alloc (.cells #[.int .i64 x.i, .int .i64 x.s, .int .i64 x.t, .int .i64 x.b, .int .i64 x.l, .int .i64 x.h, .int .i64 x.c, .slice A n c, .slice A2 n2 c2] 30))
    rw [show ((w.alloc (.cells #[.slice D N cN] 26)).alloc (.cells #[.int .i64 x.i, .int .i64 x.s, .int .i64 x.t, .int .i64 x.b, .int .i64 x.l, .int .i64 x.h, .int .i64 x.c, .slice A n c, .slice A2 n2 c2] 30)).heap.size = w.heap.size + 2 by simp] at h
    exact h
end Go.Proofs.Ytdfhnngcddaccaa.mx
/- What a law holds behind a statement that lays a version into a box of its own, in whatever order. -/
namespace Go.Proofs.Ytdfhnngcddaccaa.xv
open Go.ChangeShapes Go.WideShapes Go.ChangeAt Go.RowKit
open Go.Proofs.Ytdfhnngcddaccaa.sl Go.Proofs.Ytdfhnngcddaccaa.tx
open Go.Proofs.Ytdfhnngcddaccaa.el2 (Off)
set_option linter.unusedVariables false
set_option linter.unusedSimpArgs false
/-- a box of a version -/
def Vx (w : World) (b : Nat) (m : Ver) : Prop := ∃ f, w.rowIs b 34 5 f ∧ f 0 = .int .i64 m.a ∧ f 1 = .int .i64 m.b ∧ f 2 = .int .i64 m.c ∧ f 3 = .int .i64 m.d ∧ f 4 = .int .i64 m.e
section
variable {w w' : World} {b : Nat} {x y : Ver}
theorem Vx.cells (h : Vx w b x) : w.cell? ⟨b, 0, none⟩ = some (.int .i64 x.a) ∧ w.cell? ⟨b, 1, none⟩ = some (.int .i64 x.b) ∧ w.cell? ⟨b, 2, none⟩ = some (.int .i64 x.c) ∧ w.cell? ⟨b, 3, none⟩ = some (.int .i64 x.d) ∧ w.cell? ⟨b, 4, none⟩ = some (.int .i64 x.e) := by
  obtain ⟨f, hf, h0, h1, h2, h3, h4⟩ := h
  exact ⟨(hf.cell (show 0 < 5 by decide)).trans (by rw [h0]), (hf.cell (show 1 < 5 by decide)).trans (by rw [h1]), (hf.cell (show 2 < 5 by decide)).trans (by rw [h2]), (hf.cell (show 3 < 5 by decide)).trans (by rw [h3]), (hf.cell (show 4 < 5 by decide)).trans (by rw [h4])⟩
theorem Vx.fz (h : Vx w b x) (i : Nat) : w.frozen? ⟨b, i, none⟩ = false := by obtain ⟨f, hf, _⟩ := h; exact hf.frozen i
theorem Vx.lt (h : Vx w b x) : b < w.heap.size := by obtain ⟨f, hf, _⟩ := h; exact hf.lt
theorem Vx.of_block (h : Vx w b x) (hk : w'.heap[b]? = w.heap[b]?) : Vx w' b x := by obtain ⟨f, hf, hr⟩ := h; exact ⟨f, hf.of_block hk, hr⟩
theorem Vx.new (w : World) (x : Ver) : Vx (w.alloc (.cells #[.int .i64 x.a, .int .i64 x.b, .int .i64 x.c, .int .i64 x.d, .int .i64 x.e] 34)) w.heap.size x :=
  ⟨fun i => if i = 0 then .int .i64 x.a else if i = 1 then .int .i64 x.b else if i = 2 then .int .i64 x.c else if i = 3 then .int .i64 x.d else .int .i64 x.e, World.rowIs_alloc w #[.int .i64 x.a, .int .i64 x.b, .int .i64 x.c, .int .i64 x.d, .int .i64 x.e] 34 _ (fun i hi => by
    have : i = 0 ∨ i = 1 ∨ i = 2 ∨ i = 3 ∨ i = 4 := by simp at hi; omega
    rcases this with rfl | rfl | rfl | rfl | rfl <;> rfl), rfl, rfl, rfl, rfl, rfl⟩
theorem Vx.put (h : Vx w b y) (x : Ver) : Vx (World.setCell (World.setCell (World.setCell (World.setCell (World.setCell w ⟨b, 0, none⟩ (.int .i64 x.a)) ⟨b, 1, none⟩ (.int .i64 x.b)) ⟨b, 2, none⟩ (.int .i64 x.c)) ⟨b, 3, none⟩ (.int .i64 x.d)) ⟨b, 4, none⟩ (.int .i64 x.e)) b x := by
  obtain ⟨f, hf, _⟩ := h
  exact ⟨_, (((((hf.set 0 (.int .i64 x.a)).set 1 (.int .i64 x.b)).set 2 (.int .i64 x.c)).set 3 (.int .i64 x.d)).set 4 (.int .i64 x.e)), rfl, rfl, rfl, rfl, rfl⟩
theorem off5 (V : World) (bb : Nat) (v0 v1 v2 v3 v4 : Value) : Off bb V (World.setCell (World.setCell (World.setCell (World.setCell (World.setCell V ⟨bb, 0, none⟩ v0) ⟨bb, 1, none⟩ v1) ⟨bb, 2, none⟩ v2) ⟨bb, 3, none⟩ v3) ⟨bb, 4, none⟩ v4) :=
  (((((Off.refl bb V).setCell (p := ⟨bb, 0, none⟩) rfl _).setCell (p := ⟨bb, 1, none⟩) rfl _).setCell (p := ⟨bb, 2, none⟩) rfl _).setCell (p := ⟨bb, 3, none⟩) rfl _).setCell (p := ⟨bb, 4, none⟩) rfl _
theorem Vx.keep {B : Nat} (h : Vx w b x) (hb : Below B w w') (hB : b < B) : Vx w' b x := h.of_block (hb.block b hB)
end
theorem Vx.at_ {w : World} {b : Nat} {m : Ver} (h : Vx w b m) : At w b 0 m := h.cells
/-- a box of a version that is new since W -/
structure RV (W V : World) (b : Nat) (m : Ver) : Prop where
  lo : W.heap.size ≤ b
  mx : Vx V b m
section
variable {W V V' : World} {b b' : Nat} {m m0 m' : Ver}
theorem RV.alloc (h : RV W V b m) (o : Obj) : RV W (V.alloc o) b m := ⟨h.lo, h.mx.keep (el2.new1 V o) h.mx.lt⟩
theorem RV.call (h : RV W V b m) (hb : Below V.heap.size V V') : RV W V' b m := ⟨h.lo, h.mx.keep hb h.mx.lt⟩
theorem RV.drew (h : RV W V b m) : RV W V.drew b m := ⟨h.lo, h.mx⟩
theorem RV.new (hb : Below W.heap.size W V) (h : b = V.heap.size) : RV W (V.alloc (.cells #[.int .i64 m.a, .int .i64 m.b, .int .i64 m.c, .int .i64 m.d, .int .i64 m.e] 34)) b m := by
  subst h
  exact ⟨hb.size, Vx.new V m⟩
theorem RV.zero (hb : Below W.heap.size W V) (h : b = V.heap.size) : RV W (V.alloc (.cells #[.int .i64 0, .int .i64 0, .int .i64 0, .int .i64 0, .int .i64 0] 34)) b ⟨0, 0, 0, 0, 0⟩ := by
  subst h
  exact ⟨hb.size, Vx.new V ⟨0, 0, 0, 0, 0⟩⟩
theorem RV.putS (h : RV W V b m0) : RV W (World.setCell (World.setCell (World.setCell (World.setCell (World.setCell V ⟨b, 0, none⟩ (.int .i64 m.a)) ⟨b, 1, none⟩ (.int .i64 m.b)) ⟨b, 2, none⟩ (.int .i64 m.c)) ⟨b, 3, none⟩ (.int .i64 m.d)) ⟨b, 4, none⟩ (.int .i64 m.e)) b m := ⟨h.lo, h.mx.put m⟩
theorem bel_put (hb : Below W.heap.size W V) (h : W.heap.size ≤ b') : Below W.heap.size W (World.setCell (World.setCell (World.setCell (World.setCell (World.setCell V ⟨b', 0, none⟩ (.int .i64 m'.a)) ⟨b', 1, none⟩ (.int .i64 m'.b)) ⟨b', 2, none⟩ (.int .i64 m'.c)) ⟨b', 3, none⟩ (.int .i64 m'.d)) ⟨b', 4, none⟩ (.int .i64 m'.e)) := mx.bel_off hb (off5 V b' _ _ _ _ _) h
theorem bel_alloc (hb : Below W.heap.size W V) (o : Obj) : Below W.heap.size W (V.alloc o) := hb.alloc hb.size o
end
theorem cell5 {V : World} {bb : Nat} {v0 v1 v2 v3 v4 : Value} {p : Addr} (h : p.block ≠ bb) : World.cell? (World.setCell (World.setCell (World.setCell (World.setCell (World.setCell V ⟨bb, 0, none⟩ v0) ⟨bb, 1, none⟩ v1) ⟨bb, 2, none⟩ v2) ⟨bb, 3, none⟩ v3) ⟨bb, 4, none⟩ v4) p = V.cell? p := World.cell?_of_block (a := p) ((off5 V bb v0 v1 v2 v3 v4).block _ h)
theorem cellA {V : World} {o : Obj} {p : Addr} (h : p.block < V.heap.size) : (V.alloc o).cell? p = V.cell? p := World.cell?_alloc_lt _ _ p h
theorem eq_self (m : Ver) (w : World) : Calls Try.prog 26 #[.agg #[.int .i64 m.a, .int .i64 m.b, .int .i64 m.c, .int .i64 m.d, .int .i64 m.e], .agg #[.int .i64 m.a, .int .i64 m.b, .int .i64 m.c, .int .i64 m.d, .int .i64 m.e]] w fun e w' => e = .returned (.bool true) ∧ Below w.heap.size w w' :=
  find.same_version m w
end Go.Proofs.Ytdfhnngcddaccaa.xv
/- FnSchemes: the walk at a code that is not too long. -/
namespace Go.Proofs.Ytdfhnngcddaccaa.fsc
open Go.ChangeShapes Go.WideShapes Go.ChangeAt Go.RowKit
open Go.Proofs.Ytdfhnngcddaccaa.el2 Go.Proofs.Ytdfhnngcddaccaa.tx Go.Proofs.Ytdfhnngcddaccaa.ap Go.Proofs.Ytdfhnngcddaccaa.bx Go.Proofs.Ytdfhnngcddaccaa.sc Go.Proofs.Ytdfhnngcddaccaa.xv
open Go.Proofs.Ytdfhnngcddaccaa.cur (CurAt CodeAt big_no)
open Go.Proofs.Ytdfhnngcddaccaa.vers (new2 In)
open Go.Proofs.Ytdfhnngcddaccaa.sl (Ver)
open Go.Proofs.Ytdfhnngcddaccaa.st (Rs)
open Go.Proofs.Ytdfhnngcddaccaa.val (stB)
open Go.Proofs.Ytdfhnngcddaccaa.find (lastV vAt atI latest_spec)
open Go.Proofs.Ytdfhnngcddaccaa.rd (raB raV rlV raV_no rlV_yes)
set_option linter.unusedVariables false
set_option linter.unusedSimpArgs false
theorem held_v : Try.prog.stoodInHeld 34 = false := by kernel_rfl
theorem fields_v : Try.prog.underlying 34 = some (.struct (Try.prog.fieldsOf 34)) := by kernel_rfl
theorem neq_v (x : Ver) (w : World) : (binOp .neq 34 (.agg #[.int .i64 x.a, .int .i64 x.b, .int .i64 x.c, .int .i64 x.d, .int .i64 x.e]) (.agg #[.int .i64 x.a, .int .i64 x.b, .int .i64 x.c, .int .i64 x.d, .int .i64 x.e])).run Try.prog w = .ok (.bool false) w := by
  rw [run_neq_struct, run_equalIn_struct w 9999 34 _ _ fields_v held_v]
  have hu := Try.underlying34
  have hi := Try.underlying3
  simp only [Program.fieldsOf, hu]
  simp [Op.eqFields, go_sem, hi]
theorem eql_v (x : Ver) (w : World) : (binOp .eql 34 (.agg #[.int .i64 x.a, .int .i64 x.b, .int .i64 x.c, .int .i64 x.d, .int .i64 x.e]) (.agg #[.int .i64 x.a, .int .i64 x.b, .int .i64 x.c, .int .i64 x.d, .int .i64 x.e])).run Try.prog w = .ok (.bool true) w := by
  rw [run_eql_struct, run_equalIn_struct w 9999 34 _ _ fields_v held_v]
  have hu := Try.underlying34
  have hi := Try.underlying3
  simp only [Program.fieldsOf, hu]
  simp [Op.eqFields, go_sem, hi]
theorem at_le (s : Int) (l : List Ver) (k : Nat) (h : 0 ≤ atI s l k) : (l.getD (atI s l k).toNat default).c ≤ s := by
  induction k with
  | zero => simp [atI] at h
  | succ k ih =>
    unfold atI at h ⊢
    by_cases hc : (l.getD k default).c ≤ s
    · rw [if_pos hc] at h ⊢
      simpa using hc
    · rw [if_neg hc] at h ⊢
      exact ih h
theorem ra_le {C : List (List Ver)} {k s : Int} (h : raB C k s = true) : (raV C k s).c ≤ s := by
  unfold raV
  rw [if_pos h]
  unfold raB at h
  simp only [Bool.and_eq_true, decide_eq_true_eq] at h
  have h2 := h.2
  unfold vAt at h2 ⊢
  split at h2
  · rename_i hc
    rw [if_pos hc]
    exact at_le _ _ _ h2
  · omega
theorem ret_t {a b : Int} (h : a ≤ b) : Ending.returned (.bool (decide (a ≤ b))) = .returned (.bool true) := by rw [decide_eq_true h]
/-- what the law says of a version that was chosen -/
theorem chosen {C : List (List Ver)} {x : Hd} {R S : List E2} {k : Int} (h : cvI C x R S k = 0) : gdB C x R S k = true ∧ (x.s = 2 → (cvV C x R S k).c ≤ x.b) ∧ (x.s ≠ 2 → cvV C x R S k = rlV C k) := by
  rcases hg : gdB C x R S k with _ | _
  · rw [(cv_no hg).1] at h; omega
  refine ⟨rfl, fun hs => ?_, fun hs => ?_⟩
  · rcases hr : raB C k x.b with _ | _
    · rw [(cv_late hg hs hr).1] at h; omega
    · rw [(cv_snap hg hs hr).2]; exact ra_le hr
  · by_cases h4 : x.s = 4 ∧ x.b < (rlV C k).c
    · rw [(cv_ord hg h4.1 h4.2).1] at h; omega
    · exact (cv_last hg hs h4).2
theorem cn_cv {C : List (List Ver)} {x : Hd} {R S : List E2} {k : Int} {i : Int} (h : cvI C x R S k = i) : ((cdn.cn i).toList == (⟨#[]⟩ : ByteArray).toList) = false := by
  rcases cv_range (C := C) (x := x) (R := R) (S := S) (k := k) with e | e | e <;> (rw [h] at e; subst e; rw [ByteArray.toList_eq, ByteArray.toList_eq]; decide)
theorem cn_c3 {C : List (List Ver)} {x : Hd} {R S : List E2} {k : Int} {i : Int} (h : cvI C x R S k = i) : ¬ (cdn.cn i).toList = [] := by
  rcases cv_range (C := C) (x := x) (R := R) (S := S) (k := k) with e | e | e <;> (rw [h] at e; subst e; rw [ByteArray.toList_eq]; decide)
theorem cn_c2 {C : List (List Ver)} {x : Hd} {R S : List E2} {k : Int} {i : Int} (h : cvI C x R S k = i) : ((cdn.cn i).toList == []) = false := by
  rcases cv_range (C := C) (x := x) (R := R) (S := S) (k := k) with e | e | e <;> (rw [h] at e; subst e; rw [ByteArray.toList_eq]; decide)
theorem cn_c4 {C : List (List Ver)} {x : Hd} {R S : List E2} {k : Int} {i : Int} (h : cvI C x R S k = i) : (cdn.cn i).toList.isEmpty = false := by
  rcases cv_range (C := C) (x := x) (R := R) (S := S) (k := k) with e | e | e <;> (rw [h] at e; subst e; rw [ByteArray.toList_eq]; decide)
theorem own_two {w : World} {base n c n2 c2 : Nat} {A A2 : Option Addr} {R S : List E2} (h : OwnT w base (.slice A n c) n R (.slice A2 n2 c2) n2 S) : Vs w w.heap.size A n R ∧ Vs w w.heap.size A2 n2 S := by
  obtain ⟨A', c', e, hv, _⟩ := own_vs h.1 (by have := h.1.1; rw [flat_len] at this; omega)
  obtain ⟨A2', c2', e2, hv2, _⟩ := own_vs h.2 (by have := h.2.1; rw [flat_len] at this; omega)
  injection e with e1 _ e3
  injection e2 with f1 _ f3
  subst e1
  subst f1
  exact ⟨hv, hv2⟩
/-- two boxes: a store's and a transaction's, with what lies behind them -/
structure PX (W : World) (b : Nat) (D : Option Addr) (N cN : Nat) (C : List (List Ver)) (x : Hd) (A : Option Addr) (n c : Nat) (R : List E2) (A2 : Option Addr) (n2 c2 : Nat) (S : List E2) : Prop where
  lt : b + 1 < W.heap.size
  st : W.cell? ⟨b, 0, none⟩ = some (.slice D N cN)
  tb : TB W (b + 1) x (.slice A n c) (.slice A2 n2 c2)
  rs : Rs W W.heap.size D N C
  r : Vs W W.heap.size A n R
  w : Vs W W.heap.size A2 n2 S
section
variable {W W' : World} {b N cN n c n2 c2 : Nat} {D A A2 : Option Addr} {C : List (List Ver)} {x : Hd} {R S : List E2}
theorem PX.keep (h : PX W b D N cN C x A n c R A2 n2 c2 S) (hb : Below W.heap.size W W') : PX W' b D N cN C x A n c R A2 n2 c2 S where
  lt := Nat.lt_of_lt_of_le h.lt hb.size
  st := (hb.cell (p := ⟨b, 0, none⟩) (by have := h.lt; simp only; omega)).trans h.st
  tb := TB.keep h.tb h.lt hb
  rs := (h.rs.below hb).more hb.size
  r := (h.r.below hb).more hb.size
  w := (h.w.below hb).more hb.size
theorem PX.new (h1 : Rs W W.heap.size D N C) (h2 : Vs W W.heap.size A n R) (h3 : Vs W W.heap.size A2 n2 S) (cN c c2 : Nat) (x : Hd) : PX ((W.alloc (.cells #[.slice D N cN] 26)).alloc (.cells #[.int .i64 x.i, .int .i64 x.s, .int .i64 x.t, .int .i64 x.b, .int .i64 x.l, .int .i64 x.h, .int .i64 x.c, .slice A n c, .slice A2 n2 c2] 30)) W.heap.size D N cN C x A n c R A2 n2 c2 S where
  lt := by simp
  st := Go.Proofs.Ytdfhnngcddaccaa.st.up (.cells #[.int .i64 x.i, .int .i64 x.s, .int .i64 x.t, .int .i64 x.b, .int .i64 x.l, .int .i64 x.h, .int .i64 x.c, .slice A n c, .slice A2 n2 c2] 30) (Go.Proofs.Ytdfhnngcddaccaa.st.one_cell W (.slice D N cN) 26) (by simp)
  tb := by have := TB.new (W.alloc (.cells #[.slice D N cN] 26)) x A n c A2 n2 c2 30; simpa using this
  rs := (h1.below (new2 W (.cells #[.slice D N cN] 26) (.cells #[.int .i64 x.i, .int .i64 x.s, .int .i64 x.t, .int .i64 x.b, .int .i64 x.l, .int .i64 x.h, .int .i64 x.c, .slice A n c, .slice A2 n2 c2] 30))).more (new2 W (.cells #[.slice D N cN] 26) (.cells #[.int .i64 x.i, .int .i64 x.s, .int .i64 x.t, .int .i64 x.b, .int .i64 x.l, .int .i64 x.h, .int .i64 x.c, .slice A n c, .slice A2 n2 c2] 30)).size
  r := (h2.below (new2 W (.cells #[.slice D N cN] 26) (.cells #[.int .i64 x.i, .int .i64 x.s, .int .i64 x.t, .int .i64 x.b, .int .i64 x.l, .int .i64 x.h, .int .i64 x.c, .slice A n c, .slice A2 n2 c2] 30))).more (new2 W (.cells #[.slice D N cN] 26) (.cells #[.int .i64 x.i, .int .i64 x.s, .int .i64 x.t, .int .i64 x.b, .int .i64 x.l, .int .i64 x.h, .int .i64 x.c, .slice A n c, .slice A2 n2 c2] 30)).size
  w := (h3.below (new2 W (.cells #[.slice D N cN] 26) (.cells #[.int .i64 x.i, .int .i64 x.s, .int .i64 x.t, .int .i64 x.b, .int .i64 x.l, .int .i64 x.h, .int .i64 x.c, .slice A n c, .slice A2 n2 c2] 30))).more (new2 W (.cells #[.slice D N cN] 26) (.cells #[.int .i64 x.i, .int .i64 x.s, .int .i64 x.t, .int .i64 x.b, .int .i64 x.l, .int .i64 x.h, .int .i64 x.c, .slice A n c, .slice A2 n2 c2] 30)).size
end
set_option maxRecDepth 100000 in
set_option maxHeartbeats 12800000 in
theorem core (a : Option Addr) (len cap : Nat) (w : World) (hl : len ≤ 1048576) (hcode : CodeAt w w.heap.size a len) :
    Calls Try.prog 3 #[.slice a len cap] w fun e w' => e = .returned (.bool true) ∧ Below w.heap.size w w' := by
  have BIG := Lib.hid (big_no a len cap w (by omega))
  have HT := Lib.hid (dcv.draw_cv a len cap w hl hcode)
  have HT2 := Lib.hid (fun W (hb : Below w.heap.size w W) => dcv.draw_wc a len cap W hl (drh.code_more (hcode.below (Nat.le_refl _) hb) hb.size))
  clear hcode
  go_enter Try.func3, Try.ntmps3
  go_wp2_with fail
  refine BIG.out.mono ?_
  rintro e w' ⟨rfl, rfl⟩
  clear BIG
  go_wp2_with fail
  refine HT.out.mono ?_
  rintro e W1 ⟨D, N, cN, C, x, A, n, c, R, A2, n2, c2, S, k, rfl, hk0, hk1, hN, hn, hn2, hrs, hown, hb1⟩
  obtain ⟨v1, v2⟩ := own_two hown
  have P2 := PX.new hrs v1 v2 cN c c2 x
  have hb2 := new2 W1 (.cells #[.slice D N cN] 26) (.cells #[.int .i64 x.i, .int .i64 x.s, .int .i64 x.t, .int .i64 x.b, .int .i64 x.l, .int .i64 x.h, .int .i64 x.c, .slice A n c, .slice A2 n2 c2] 30)
  have HB2 := Lib.hid (hb1.trans (hb2.mono hb1.size))
  have hsb2 : w.heap.size ≤ W1.heap.size := hb1.size
  obtain ⟨i, hi⟩ : ∃ i, cvI C x R S k = i := ⟨_, rfl⟩
  obtain ⟨y, hy⟩ : ∃ y, cvV C x R S k = y := ⟨_, rfl⟩
  have HI := Lib.hid hi
  have HY := Lib.hid hy
  clear HT hrs hown hb1 hb2 v1 v2 hi hy
  go_wp2_with fail
  generalize hsb : W1.heap.size = sb at P2 HB2 hsb2 ⊢
  generalize (W1.alloc _).alloc _ = W2 at P2 HB2 ⊢
  have X2 := Lib.hid P2
  clear P2 hsb
  have c0 := X2.out.st
  obtain ⟨t0, t1, t2, t3, t4, t5, t6, t7, t8⟩ := X2.out.tb
  have l1 : sb + 1 < W2.heap.size := X2.out.lt
  have l0 : sb < W2.heap.size := by omega
  go_wp2_with fail
  refine (cho.impl_cv x k (by omega) (by omega) (by omega) X2.out.r X2.out.w X2.out.rs (Nat.le_refl _)).mono ?_
  rintro e W3 ⟨he, hb⟩
  rw [HI.out, HY.out] at he
  subst he
  have X3 := Lib.hid (X2.out.keep hb)
  have HB3 := Lib.hid (HB2.out.trans (hb.mono HB2.out.size))
  clear hb
  clear c0 t0 t1 t2 t3 t4 t5 t6 t7 t8 l0 l1
  have c0 := X3.out.st
  obtain ⟨t0, t1, t2, t3, t4, t5, t6, t7, t8⟩ := X3.out.tb
  have l1 : sb + 1 < W3.heap.size := X3.out.lt
  have l0 : sb < W3.heap.size := by omega
  have hb := new1 W3 (.cells #[.int .i64 y.a, .int .i64 y.b, .int .i64 y.c, .int .i64 y.d, .int .i64 y.e] 34)
  have Y4 := Vx.new W3 y
  have hg4 : W3.heap.size < (W3.alloc (.cells #[.int .i64 y.a, .int .i64 y.b, .int .i64 y.c, .int .i64 y.d, .int .i64 y.e] 34)).heap.size := by simp
  go_wp2_with fail
  generalize hgv : W3.heap.size = g1 at Y4 hg4 hb ⊢
  generalize hW4 : W3.alloc _ = W4 at Y4 hb hg4 ⊢
  rw [← hgv] at hb
  have X4 := Lib.hid (X3.out.keep hb)
  have HB4 := Lib.hid (HB3.out.trans (hb.mono HB3.out.size))
  have V4 := Lib.hid Y4
  have hg1w : w.heap.size ≤ g1 := by rw [← hgv]; exact HB3.out.size
  clear hb hW4 hgv Y4 X3 HB3
  refine (cho.spec_cv x k (by omega) (by omega) (by omega) X4.out.r X4.out.w X4.out.rs (Nat.le_refl _)).mono ?_
  rintro e W5 ⟨he, hb⟩
  rw [HI.out, HY.out] at he
  subst he
  have X5 := Lib.hid (X4.out.keep hb)
  have V5 := Lib.hid (V4.out.keep hb hg4)
  have HB5 := Lib.hid (HB4.out.trans (hb.mono HB4.out.size))
  have hg5 : g1 < W5.heap.size := Nat.lt_of_lt_of_le hg4 hb.size
  clear hb V4 X4 HB4 hg4
  clear c0 t0 t1 t2 t3 t4 t5 t6 t7 t8 l0 l1
  have hb := new1 W5 (.cells #[.int .i64 y.a, .int .i64 y.b, .int .i64 y.c, .int .i64 y.d, .int .i64 y.e] 34)
  have Y6 := Vx.new W5 y
  have hg6 : W5.heap.size < (W5.alloc (.cells #[.int .i64 y.a, .int .i64 y.b, .int .i64 y.c, .int .i64 y.d, .int .i64 y.e] 34)).heap.size := by simp
  go_wp2_with fail
  generalize hgv : W5.heap.size = g2 at Y6 hg6 hb hg5 ⊢
  generalize hW6 : W5.alloc _ = W6 at Y6 hb hg6 ⊢
  rw [← hgv] at hb
  have X6 := Lib.hid (X5.out.keep hb)
  have V6 := Lib.hid (V5.out.keep hb (by omega))
  have Z6 := Lib.hid Y6
  have HB6 := Lib.hid (HB5.out.trans (hb.mono HB5.out.size))
  have hg16 : g1 < W6.heap.size := by omega
  clear hb hW6 hgv Y6 X5 V5 HB5
  obtain ⟨cq, hcq⟩ : ∃ q, ccI C x R S = q := ⟨_, rfl⟩
  have HCQ := Lib.hid hcq
  obtain ⟨gg, hgg⟩ : ∃ g, cdn.cn i = g := ⟨_, rfl⟩
  have HGG := Lib.hid hgg
  have tg1 : (gg.toList == (⟨#[]⟩ : ByteArray).toList) = false := by rw [← hgg]; exact cn_cv HI.out
  have tg2 : (gg.toList == []) = false := by rw [← hgg]; exact cn_c2 HI.out
  have tg3 : ¬ gg.toList = [] := by rw [← hgg]; exact cn_c3 HI.out
  have tg4 : gg.toList.isEmpty = false := by rw [← hgg]; exact cn_c4 HI.out
  clear hcq hgg
  have hnq := neq_v y
  have tii : (i != i) = false := by simp
  have tcq : (cq != cq) = false := by simp
  have c0 := X6.out.st
  obtain ⟨t0, t1, t2, t3, t4, t5, t6, t7, t8⟩ := X6.out.tb
  have l1 : sb + 1 < W6.heap.size := X6.out.lt
  have l0 : sb < W6.heap.size := by omega
  obtain ⟨p0, p1, p2, p3, p4⟩ := V6.out.cells
  obtain ⟨q0, q1, q2, q3, q4⟩ := Z6.out.cells
  have hbk0 : Below W6.heap.size W6 W6.drew := (Below.refl _ _).drew
  have XD := Lib.hid (X6.out.keep hbk0)
  have VD := Lib.hid (V6.out.keep hbk0 hg16)
  have ZD := Lib.hid (Z6.out.keep hbk0 hg6)
  have hg1d : g1 < W6.drew.heap.size := hg16
  have hg2d : g2 < W6.drew.heap.size := hg6
  go_region_held3 (fun w' => w'.cell? ⟨sb, 0, none⟩ = some (.slice D N cN) ∧ w'.cell? ⟨sb + 1, 0, none⟩ = some (.int .i64 x.i) ∧ w'.cell? ⟨sb + 1, 1, none⟩ = some (.int .i64 x.s) ∧ w'.cell? ⟨sb + 1, 2, none⟩ = some (.int .i64 x.t) ∧ w'.cell? ⟨sb + 1, 3, none⟩ = some (.int .i64 x.b) ∧ w'.cell? ⟨sb + 1, 4, none⟩ = some (.int .i64 x.l) ∧ w'.cell? ⟨sb + 1, 5, none⟩ = some (.int .i64 x.h) ∧ w'.cell? ⟨sb + 1, 6, none⟩ = some (.int .i64 x.c) ∧ w'.cell? ⟨sb + 1, 7, none⟩ = some (.slice A n c) ∧ w'.cell? ⟨sb + 1, 8, none⟩ = some (.slice A2 n2 c2) ∧ w'.cell? ⟨g1, 0, none⟩ = some (.int .i64 y.a) ∧ w'.cell? ⟨g1, 1, none⟩ = some (.int .i64 y.b) ∧ w'.cell? ⟨g1, 2, none⟩ = some (.int .i64 y.c) ∧ w'.cell? ⟨g1, 3, none⟩ = some (.int .i64 y.d) ∧ w'.cell? ⟨g1, 4, none⟩ = some (.int .i64 y.e) ∧ w'.cell? ⟨g2, 0, none⟩ = some (.int .i64 y.a) ∧ w'.cell? ⟨g2, 1, none⟩ = some (.int .i64 y.b) ∧ w'.cell? ⟨g2, 2, none⟩ = some (.int .i64 y.c) ∧ w'.cell? ⟨g2, 3, none⟩ = some (.int .i64 y.d) ∧ w'.cell? ⟨g2, 4, none⟩ = some (.int .i64 y.e)) (go_keep) (first | (go_at_call 13; (with_reducible refine (cmc.impl_cc x (by omega) (by omega) (by omega) XD.out.r XD.out.w XD.out.rs (Nat.le_refl _)).mono ?_); rintro e U1 ⟨he, hb⟩; rw [HCQ.out] at he; subst he; have XE1 := Lib.hid (XD.out.keep hb); have VE1 := Lib.hid (VD.out.keep hb hg1d); have ZE1 := Lib.hid (ZD.out.keep hb hg2d); have hu1 := hb; have hg1e := Nat.lt_of_lt_of_le hg1d hb.size; have hg2e := Nat.lt_of_lt_of_le hg2d hb.size; have cz1 := XE1.out.st; obtain ⟨a10, a11, a12, a13, a14, a15, a16, a17, a18⟩ := XE1.out.tb; obtain ⟨b10, b11, b12, b13, b14⟩ := VE1.out.cells; obtain ⟨d10, d11, d12, d13, d14⟩ := ZE1.out.cells) | (go_at_call 14; (with_reducible refine (cms.spec_cc x (by omega) (by omega) (by omega) XE1.out.r XE1.out.w XE1.out.rs (Nat.le_refl _)).mono ?_); rintro e U2 ⟨he, hb⟩; rw [HCQ.out] at he; subst he; have XE2 := Lib.hid (XE1.out.keep hb); have VE2 := Lib.hid (VE1.out.keep hb hg1e); have ZE2 := Lib.hid (ZE1.out.keep hb hg2e); have hu2 := hb; have cz2 := XE2.out.st; obtain ⟨a20, a21, a22, a23, a24, a25, a26, a27, a28⟩ := XE2.out.tb; obtain ⟨b20, b21, b22, b23, b24⟩ := VE2.out.cells; obtain ⟨d20, d21, d22, d23, d24⟩ := ZE2.out.cells) | (go_at_call 15; (with_reducible refine (cdn.impl_name i _).mono ?_); rintro e U3 ⟨he, hw⟩; rw [HGG.out] at he; subst he; subst hw))
  all_goals
    have HB7 := Lib.hid (HB6.out.trans (((hbk0.trans (hu1.mono hbk0.size)).trans (hu2.mono (hbk0.trans (hu1.mono hbk0.size)).size)).mono HB6.out.size))
    have hg2f := Nat.lt_of_lt_of_le hg2e hu2.size
    have hg1f := Nat.lt_of_lt_of_le hg1e hu2.size
    clear cz1 a10 a11 a12 a13 a14 a15 a16 a17 a18 b10 b11 b12 b13 b14 d10 d11 d12 d13 d14 cz2 a20 a21 a22 a23 a24 a25 a26 a27 a28 b20 b21 b22 b23 b24 d20 d21 d22 d23 d24 p0 p1 p2 p3 p4 q0 q1 q2 q3 q4 hu1 hu2 hbk0 XD VD ZD XE1 VE1 ZE1 X6 V6 Z6 hg1e hg2e hg1d hg2d
    clear c0 t0 t1 t2 t3 t4 t5 t6 t7 t8 l0 l1
    go_wp2_with fail
    refine (HT2.out U2 HB7.out).mono ?_
    rintro e W8 ⟨D2, N2, cN2, C2, x2, F, m, fc, R2, F2, m2, fc2, S2, F3, m3, fc3, L, k2, rfl, hk20, hk21, hN2, hm, hm2, hm3, hrs, hown, hvl, hb8⟩
    have X8 := XE2.out.keep hb8
    have V8 := VE2.out.keep hb8 hg1f
    obtain ⟨v1, v2⟩ := own_two hown
    have P9 := PX.new hrs v1 v2 cN2 fc fc2 x2
    have hb9 := new2 W8 (.cells #[.slice D2 N2 cN2] 26) (.cells #[.int .i64 x2.i, .int .i64 x2.s, .int .i64 x2.t, .int .i64 x2.b, .int .i64 x2.l, .int .i64 x2.h, .int .i64 x2.c, .slice F m fc, .slice F2 m2 fc2] 30)
    have HB9 := Lib.hid (HB7.out.trans ((hb8.trans (hb9.mono hb8.size)).mono HB7.out.size))
    have X9 := X8.keep hb9
    have hg18 : g1 < W8.heap.size := Nat.lt_of_lt_of_le hg1f hb8.size
    have V9 := V8.keep hb9 hg18
    have L9 := (hvl.below hb9).more hb9.size
    have hg19 := Nat.lt_of_lt_of_le hg18 hb9.size
    obtain ⟨j, hj⟩ : ∃ j, wcI C2 L x2 R2 S2 k2 = j := ⟨_, rfl⟩
    have HJ := Lib.hid hj
    clear HT2 hrs hown hvl hb8 hb9 v1 v2 hj X8 V8 XE2 VE2 ZE2 HB7
    go_wp2_with fail
    generalize hsb2 : W8.heap.size = sb2 at P9 HB9 X9 V9 L9 hg19 ⊢
    generalize (W8.alloc _).alloc _ = W9 at P9 HB9 X9 V9 L9 hg19 ⊢
    have XA := Lib.hid X9
    have VA := Lib.hid V9
    have LA := Lib.hid L9
    have QA := Lib.hid P9
    clear P9 X9 V9 L9 hsb2
    have f0 := QA.out.st
    obtain ⟨h0, h1, h2, h3, h4, h5, h6, h7, h8⟩ := QA.out.tb
    go_wp2_with fail
    refine (wrc.impl_wc x2 k2 (by omega) (by omega) (by omega) (by omega) QA.out.r QA.out.w QA.out.rs LA.out (Nat.le_refl _)).mono ?_
    rintro e Wa ⟨he, hb⟩
    rw [HJ.out] at he
    subst he
    have XB := Lib.hid (XA.out.keep hb)
    have VB := Lib.hid (VA.out.keep hb hg19)
    have LB := Lib.hid ((LA.out.below hb).more hb.size)
    have QB := Lib.hid (QA.out.keep hb)
    have HBa := Lib.hid (HB9.out.trans (hb.mono HB9.out.size))
    have hg1a := Nat.lt_of_lt_of_le hg19 hb.size
    clear hb f0 h0 h1 h2 h3 h4 h5 h6 h7 h8 XA VA LA QA HB9
    have f0 := QB.out.st
    obtain ⟨h0, h1, h2, h3, h4, h5, h6, h7, h8⟩ := QB.out.tb
    go_wp2_with fail
    refine (wrs.spec_wc x2 k2 (by omega) (by omega) (by omega) (by omega) QB.out.r QB.out.w QB.out.rs LB.out (Nat.le_refl _)).mono ?_
    rintro e Wb ⟨he, hb⟩
    rw [HJ.out] at he
    subst he
    have XC := Lib.hid (XB.out.keep hb)
    have VC := Lib.hid (VB.out.keep hb hg1a)
    have QC := Lib.hid (QB.out.keep hb)
    have HBb := Lib.hid (HBa.out.trans (hb.mono HBa.out.size))
    have hg1b := Nat.lt_of_lt_of_le hg1a hb.size
    clear hb f0 h0 h1 h2 h3 h4 h5 h6 h7 h8 XB VB LB QB HBa
    obtain ⟨_, h1, _, _, _, _, _, _, _⟩ := QC.out.tb
    have tjj : (j != j) = false := by simp
    by_cases j1 : j = 1
    · have hs1 := wc_block (by rw [HJ.out]; exact j1)
      have tj1 : (j == 1) = true := by simpa using j1
      have ts3 : (x2.s == 3) = false := by simp [hs1]
      have HTK : Hid (tkB x2.s = true) := Lib.hid (ru.tk_on (.inl hs1))
      clear j1 hs1
      go_wp2_with fail
      refine (ru.impl_takes x2.s _).mono ?_
      rintro e Wc ⟨rfl, hb⟩
      rw [HTK.out]
      have XE := Lib.hid (XC.out.keep hb)
      have VE := Lib.hid (VC.out.keep hb hg1b)
      have QE := Lib.hid (QC.out.keep hb)
      have HBc := Lib.hid (HBb.out.trans (hb.mono HBb.out.size))
      have hg1c := Nat.lt_of_lt_of_le hg1b hb.size
      clear hb h1 XC VC QC HBb
      obtain ⟨_, h1, _, _, _, _, _, _, _⟩ := QE.out.tb
      by_cases i0 : i = 0
      · have ti : (i != 0) = false := by simp [i0]
        obtain ⟨hgd, hc2, hc3⟩ := chosen (by rw [HI.out]; exact i0)
        rw [HY.out] at hc2 hc3
        have HGD := Lib.hid hgd
        obtain ⟨_, t1, _, t3, _, _, _, _, _⟩ := XE.out.tb
        have c0 := XE.out.st
        by_cases q2 : x.s = 2
        · have ts : (x.s == 2) = true := by simpa using q2
          have hle := hc2 q2
          have tle : decide (y.c ≤ x.b) = true := decide_eq_true hle
          obtain ⟨_, _, p2, _, _⟩ := VE.out.cells
          clear q2 hc2 hc3 i0 c0 hgd
          go_wp2_with fail
          go_ret
          exact ⟨rfl, HBc.out⟩
        · have ts : (x.s == 2) = false := by simpa using q2
          have hyl := hc3 q2
          obtain ⟨hst, htx, hxt, hin⟩ := gd_parts HGD.out
          have hk := vers.in_yes hin
          have hsix := val.st_six hst
          have hlen3 := XE.out.rs.1
          obtain ⟨b9, o9, l9, A9, n9, c9, rfl, hb9, hl9, hc9, hn9, hv9⟩ := XE.out.rs.at_ (k := k.toNat) (by omega)
          have hrl := rlV_yes (gd_rl HGD.out) hl9
          have HX9 : Hid (lastV l9 = y) := Lib.hid (by rw [hyl]; exact hrl.symm)
          have HV9 := Lib.hid hv9
          have t0k : (k.toNat : Int) = k := by omega
          have t1k : (0 : Int) ≤ k := by omega
          have t2k : k < (N : Int) := by omega
          have heq := eql_v y
          obtain ⟨p0, p1, p2, p3, p4⟩ := VE.out.cells
          have hsx := XE.out.lt
          clear q2 hc2 hc3 i0 hgd hyl hst htx hxt hin hrl hl9 hv9 t1
          obtain ⟨_, t1, _, _, _, _, _, _, _⟩ := XE.out.tb
          go_wp2_with fail
          have hbk0 : Below Wc.heap.size Wc Wc.drew := (Below.refl _ _).drew
          have XD9 := Lib.hid (XE.out.keep hbk0)
          have VD9 := Lib.hid (VE.out.keep hbk0 hg1c)
          have hgd9 : g1 < Wc.drew.heap.size := hg1c
          have hbd9 : b9 < Wc.drew.heap.size := hb9
          go_region_held3 (fun w' => w'.cell? ⟨sb, 0, none⟩ = some (.slice (some ⟨b9, o9, none⟩) N cN) ∧ w'.cell? ⟨b9, o9 + k.toNat, none⟩ = some (.slice A9 n9 c9) ∧ w'.cell? ⟨g1, 0, none⟩ = some (.int .i64 y.a) ∧ w'.cell? ⟨g1, 1, none⟩ = some (.int .i64 y.b) ∧ w'.cell? ⟨g1, 2, none⟩ = some (.int .i64 y.c) ∧ w'.cell? ⟨g1, 3, none⟩ = some (.int .i64 y.d) ∧ w'.cell? ⟨g1, 4, none⟩ = some (.int .i64 y.e)) (go_keep) (first | (go_at_call 20; (with_reducible refine (latest_spec HX9.out hn9 ((HV9.out.below hbk0).more hbk0.size) (Nat.le_refl _)).mono ?_); rintro e Wz ⟨he, hb⟩; subst he; have XE9 := Lib.hid (XD9.out.keep hb); have VE9 := Lib.hid (VD9.out.keep hb hgd9); have hbz := hbk0.trans (hb.mono hbk0.size); have cz9 := XE9.out.st; have dz9 := (hb.cell (p := ⟨b9, o9 + k.toNat, none⟩) hbd9).trans ((hbk0.cell (p := ⟨b9, o9 + k.toNat, none⟩) hb9).trans hc9); obtain ⟨r0, r1, r2, r3, r4⟩ := VE9.out.cells))
          all_goals
            clear cz9 dz9 r0 r1 r2 r3 r4
            have HZ9 := Lib.hid (HBc.out.trans (hbz.mono HBc.out.size))
            clear hbz hbk0 hb
            go_wp2_with fail
            go_ret
            exact ⟨rfl, HZ9.out⟩
      · have ti : (i != 0) = true := by simpa using i0
        clear i0
        go_wp2_with fail
        go_ret
        exact ⟨rfl, HBc.out⟩
    have tj1 : (j == 1) = false := by simpa using j1
    by_cases q3 : x2.s = 3
    · have ts3 : (x2.s == 3) = true := by simpa using q3
      rcases wc_opt (C := C2) (L := L) (R := R2) (S := S2) (k := k2) q3 with e0 | e0
      · have ej : j = 0 := by rw [← HJ.out]; exact e0
        have tj0 : (j != 0) = false := by simp [ej]
        clear j1 q3 e0 ej
        by_cases i0 : i = 0
        · have ti : (i != 0) = false := by simp [i0]
          obtain ⟨hgd, hc2, hc3⟩ := chosen (by rw [HI.out]; exact i0)
          rw [HY.out] at hc2 hc3
          have HGD := Lib.hid hgd
          obtain ⟨_, t1, _, t3, _, _, _, _, _⟩ := XC.out.tb
          have c0 := XC.out.st
          by_cases q2 : x.s = 2
          · have ts : (x.s == 2) = true := by simpa using q2
            have hle := hc2 q2
            have tle : decide (y.c ≤ x.b) = true := decide_eq_true hle
            obtain ⟨_, _, p2, _, _⟩ := VC.out.cells
            clear q2 hc2 hc3 i0 c0 hgd
            go_wp2_with fail
            go_ret
            exact ⟨rfl, HBb.out⟩
          · have ts : (x.s == 2) = false := by simpa using q2
            have hyl := hc3 q2
            obtain ⟨hst, htx, hxt, hin⟩ := gd_parts HGD.out
            have hk := vers.in_yes hin
            have hsix := val.st_six hst
            have hlen3 := XC.out.rs.1
            obtain ⟨b9, o9, l9, A9, n9, c9, rfl, hb9, hl9, hc9, hn9, hv9⟩ := XC.out.rs.at_ (k := k.toNat) (by omega)
            have hrl := rlV_yes (gd_rl HGD.out) hl9
            have HX9 : Hid (lastV l9 = y) := Lib.hid (by rw [hyl]; exact hrl.symm)
            have HV9 := Lib.hid hv9
            have t0k : (k.toNat : Int) = k := by omega
            have t1k : (0 : Int) ≤ k := by omega
            have t2k : k < (N : Int) := by omega
            have heq := eql_v y
            obtain ⟨p0, p1, p2, p3, p4⟩ := VC.out.cells
            have hsx := XC.out.lt
            clear q2 hc2 hc3 i0 hgd hyl hst htx hxt hin hrl hl9 hv9 t1
            obtain ⟨_, t1, _, _, _, _, _, _, _⟩ := XC.out.tb
            go_wp2_with fail
            have hbk0 : Below Wb.heap.size Wb Wb.drew := (Below.refl _ _).drew
            have XD9 := Lib.hid (XC.out.keep hbk0)
            have VD9 := Lib.hid (VC.out.keep hbk0 hg1b)
            have hgd9 : g1 < Wb.drew.heap.size := hg1b
            have hbd9 : b9 < Wb.drew.heap.size := hb9
            go_region_held3 (fun w' => w'.cell? ⟨sb, 0, none⟩ = some (.slice (some ⟨b9, o9, none⟩) N cN) ∧ w'.cell? ⟨b9, o9 + k.toNat, none⟩ = some (.slice A9 n9 c9) ∧ w'.cell? ⟨g1, 0, none⟩ = some (.int .i64 y.a) ∧ w'.cell? ⟨g1, 1, none⟩ = some (.int .i64 y.b) ∧ w'.cell? ⟨g1, 2, none⟩ = some (.int .i64 y.c) ∧ w'.cell? ⟨g1, 3, none⟩ = some (.int .i64 y.d) ∧ w'.cell? ⟨g1, 4, none⟩ = some (.int .i64 y.e)) (go_keep) (first | (go_at_call 20; (with_reducible refine (latest_spec HX9.out hn9 ((HV9.out.below hbk0).more hbk0.size) (Nat.le_refl _)).mono ?_); rintro e Wz ⟨he, hb⟩; subst he; have XE9 := Lib.hid (XD9.out.keep hb); have VE9 := Lib.hid (VD9.out.keep hb hgd9); have hbz := hbk0.trans (hb.mono hbk0.size); have cz9 := XE9.out.st; have dz9 := (hb.cell (p := ⟨b9, o9 + k.toNat, none⟩) hbd9).trans ((hbk0.cell (p := ⟨b9, o9 + k.toNat, none⟩) hb9).trans hc9); obtain ⟨r0, r1, r2, r3, r4⟩ := VE9.out.cells))
            all_goals
              clear cz9 dz9 r0 r1 r2 r3 r4
              have HZ9 := Lib.hid (HBb.out.trans (hbz.mono HBb.out.size))
              clear hbz hbk0 hb
              go_wp2_with fail
              go_ret
              exact ⟨rfl, HZ9.out⟩
        · have ti : (i != 0) = true := by simpa using i0
          clear i0
          go_wp2_with fail
          go_ret
          exact ⟨rfl, HBb.out⟩
      · have ej : j = 6 := by rw [← HJ.out]; exact e0
        have tj0 : (j != 0) = true := by simp [ej]
        have tj6 : (j != 6) = false := by simp [ej]
        clear j1 q3 e0 ej
        by_cases i0 : i = 0
        · have ti : (i != 0) = false := by simp [i0]
          obtain ⟨hgd, hc2, hc3⟩ := chosen (by rw [HI.out]; exact i0)
          rw [HY.out] at hc2 hc3
          have HGD := Lib.hid hgd
          obtain ⟨_, t1, _, t3, _, _, _, _, _⟩ := XC.out.tb
          have c0 := XC.out.st
          by_cases q2 : x.s = 2
          · have ts : (x.s == 2) = true := by simpa using q2
            have hle := hc2 q2
            have tle : decide (y.c ≤ x.b) = true := decide_eq_true hle
            obtain ⟨_, _, p2, _, _⟩ := VC.out.cells
            clear q2 hc2 hc3 i0 c0 hgd
            go_wp2_with fail
            go_ret
            exact ⟨rfl, HBb.out⟩
          · have ts : (x.s == 2) = false := by simpa using q2
            have hyl := hc3 q2
            obtain ⟨hst, htx, hxt, hin⟩ := gd_parts HGD.out
            have hk := vers.in_yes hin
            have hsix := val.st_six hst
            have hlen3 := XC.out.rs.1
            obtain ⟨b9, o9, l9, A9, n9, c9, rfl, hb9, hl9, hc9, hn9, hv9⟩ := XC.out.rs.at_ (k := k.toNat) (by omega)
            have hrl := rlV_yes (gd_rl HGD.out) hl9
            have HX9 : Hid (lastV l9 = y) := Lib.hid (by rw [hyl]; exact hrl.symm)
            have HV9 := Lib.hid hv9
            have t0k : (k.toNat : Int) = k := by omega
            have t1k : (0 : Int) ≤ k := by omega
            have t2k : k < (N : Int) := by omega
            have heq := eql_v y
            obtain ⟨p0, p1, p2, p3, p4⟩ := VC.out.cells
            have hsx := XC.out.lt
            clear q2 hc2 hc3 i0 hgd hyl hst htx hxt hin hrl hl9 hv9 t1
            obtain ⟨_, t1, _, _, _, _, _, _, _⟩ := XC.out.tb
            go_wp2_with fail
            have hbk0 : Below Wb.heap.size Wb Wb.drew := (Below.refl _ _).drew
            have XD9 := Lib.hid (XC.out.keep hbk0)
            have VD9 := Lib.hid (VC.out.keep hbk0 hg1b)
            have hgd9 : g1 < Wb.drew.heap.size := hg1b
            have hbd9 : b9 < Wb.drew.heap.size := hb9
            go_region_held3 (fun w' => w'.cell? ⟨sb, 0, none⟩ = some (.slice (some ⟨b9, o9, none⟩) N cN) ∧ w'.cell? ⟨b9, o9 + k.toNat, none⟩ = some (.slice A9 n9 c9) ∧ w'.cell? ⟨g1, 0, none⟩ = some (.int .i64 y.a) ∧ w'.cell? ⟨g1, 1, none⟩ = some (.int .i64 y.b) ∧ w'.cell? ⟨g1, 2, none⟩ = some (.int .i64 y.c) ∧ w'.cell? ⟨g1, 3, none⟩ = some (.int .i64 y.d) ∧ w'.cell? ⟨g1, 4, none⟩ = some (.int .i64 y.e)) (go_keep) (first | (go_at_call 20; (with_reducible refine (latest_spec HX9.out hn9 ((HV9.out.below hbk0).more hbk0.size) (Nat.le_refl _)).mono ?_); rintro e Wz ⟨he, hb⟩; subst he; have XE9 := Lib.hid (XD9.out.keep hb); have VE9 := Lib.hid (VD9.out.keep hb hgd9); have hbz := hbk0.trans (hb.mono hbk0.size); have cz9 := XE9.out.st; have dz9 := (hb.cell (p := ⟨b9, o9 + k.toNat, none⟩) hbd9).trans ((hbk0.cell (p := ⟨b9, o9 + k.toNat, none⟩) hb9).trans hc9); obtain ⟨r0, r1, r2, r3, r4⟩ := VE9.out.cells))
            all_goals
              clear cz9 dz9 r0 r1 r2 r3 r4
              have HZ9 := Lib.hid (HBb.out.trans (hbz.mono HBb.out.size))
              clear hbz hbk0 hb
              go_wp2_with fail
              go_ret
              exact ⟨rfl, HZ9.out⟩
        · have ti : (i != 0) = true := by simpa using i0
          clear i0
          go_wp2_with fail
          go_ret
          exact ⟨rfl, HBb.out⟩
    have ts3 : (x2.s == 3) = false := by simpa using q3
    clear j1 q3
    by_cases i0 : i = 0
    · have ti : (i != 0) = false := by simp [i0]
      obtain ⟨hgd, hc2, hc3⟩ := chosen (by rw [HI.out]; exact i0)
      rw [HY.out] at hc2 hc3
      have HGD := Lib.hid hgd
      obtain ⟨_, t1, _, t3, _, _, _, _, _⟩ := XC.out.tb
      have c0 := XC.out.st
      by_cases q2 : x.s = 2
      · have ts : (x.s == 2) = true := by simpa using q2
        have hle := hc2 q2
        have tle : decide (y.c ≤ x.b) = true := decide_eq_true hle
        obtain ⟨_, _, p2, _, _⟩ := VC.out.cells
        clear q2 hc2 hc3 i0 c0 hgd
        go_wp2_with fail
        go_ret
        exact ⟨rfl, HBb.out⟩
      · have ts : (x.s == 2) = false := by simpa using q2
        have hyl := hc3 q2
        obtain ⟨hst, htx, hxt, hin⟩ := gd_parts HGD.out
        have hk := vers.in_yes hin
        have hsix := val.st_six hst
        have hlen3 := XC.out.rs.1
        obtain ⟨b9, o9, l9, A9, n9, c9, rfl, hb9, hl9, hc9, hn9, hv9⟩ := XC.out.rs.at_ (k := k.toNat) (by omega)
        have hrl := rlV_yes (gd_rl HGD.out) hl9
        have HX9 : Hid (lastV l9 = y) := Lib.hid (by rw [hyl]; exact hrl.symm)
        have HV9 := Lib.hid hv9
        have t0k : (k.toNat : Int) = k := by omega
        have t1k : (0 : Int) ≤ k := by omega
        have t2k : k < (N : Int) := by omega
        have heq := eql_v y
        obtain ⟨p0, p1, p2, p3, p4⟩ := VC.out.cells
        have hsx := XC.out.lt
        clear q2 hc2 hc3 i0 hgd hyl hst htx hxt hin hrl hl9 hv9 t1
        obtain ⟨_, t1, _, _, _, _, _, _, _⟩ := XC.out.tb
        go_wp2_with fail
        have hbk0 : Below Wb.heap.size Wb Wb.drew := (Below.refl _ _).drew
        have XD9 := Lib.hid (XC.out.keep hbk0)
        have VD9 := Lib.hid (VC.out.keep hbk0 hg1b)
        have hgd9 : g1 < Wb.drew.heap.size := hg1b
        have hbd9 : b9 < Wb.drew.heap.size := hb9
        go_region_held3 (fun w' => w'.cell? ⟨sb, 0, none⟩ = some (.slice (some ⟨b9, o9, none⟩) N cN) ∧ w'.cell? ⟨b9, o9 + k.toNat, none⟩ = some (.slice A9 n9 c9) ∧ w'.cell? ⟨g1, 0, none⟩ = some (.int .i64 y.a) ∧ w'.cell? ⟨g1, 1, none⟩ = some (.int .i64 y.b) ∧ w'.cell? ⟨g1, 2, none⟩ = some (.int .i64 y.c) ∧ w'.cell? ⟨g1, 3, none⟩ = some (.int .i64 y.d) ∧ w'.cell? ⟨g1, 4, none⟩ = some (.int .i64 y.e)) (go_keep) (first | (go_at_call 20; (with_reducible refine (latest_spec HX9.out hn9 ((HV9.out.below hbk0).more hbk0.size) (Nat.le_refl _)).mono ?_); rintro e Wz ⟨he, hb⟩; subst he; have XE9 := Lib.hid (XD9.out.keep hb); have VE9 := Lib.hid (VD9.out.keep hb hgd9); have hbz := hbk0.trans (hb.mono hbk0.size); have cz9 := XE9.out.st; have dz9 := (hb.cell (p := ⟨b9, o9 + k.toNat, none⟩) hbd9).trans ((hbk0.cell (p := ⟨b9, o9 + k.toNat, none⟩) hb9).trans hc9); obtain ⟨r0, r1, r2, r3, r4⟩ := VE9.out.cells))
        all_goals
          clear cz9 dz9 r0 r1 r2 r3 r4
          have HZ9 := Lib.hid (HBb.out.trans (hbz.mono HBb.out.size))
          clear hbz hbk0 hb
          go_wp2_with fail
          go_ret
          exact ⟨rfl, HZ9.out⟩
    · have ti : (i != 0) = true := by simpa using i0
      clear i0
      go_wp2_with fail
      go_ret
      exact ⟨rfl, HBb.out⟩
end Go.Proofs.Ytdfhnngcddaccaa.fsc
namespace Go.Proofs.Ytdfhnngcddaccaa.fnSchemes
open Go.ChangeShapes Go.WideShapes Go.ChangeAt Go.RowKit
open Go.ChangeMaps (open_string shut_string)
open Go.Proofs.Ytdfhnngcddaccaa.cur
set_option linter.unusedVariables false
theorem own : ownKnob Try.prog.godebug = none := by kernel_rfl
theorem laidOut : laidOutB Try.prog = true := by kernel_rfl
def IsRow (k : IntKind) (w : World) (a : Option Addr) (len cap : Nat) (zs : List Int) : Prop :=
  (a = none ∧ len = 0 ∧ cap = 0 ∧ zs = []) ∨
  ∃ x, a = some x ∧ len ≤ cap ∧ cap ≤ maxLen ∧ zs.length = cap ∧ (∀ i, i < zs.length → w.cell? (x.add i) = some (.int k (zs.getD i 0))) ∧ ∀ n ∈ zs, (Lit.int k n).wf = true
theorem code_of {w : World} {a : Option Addr} {len cap : Nat} {zs : List Int} (h : IsRow .u8 w a len cap zs) : CodeAt w w.heap.size a len := by
  intro j hj
  rcases h with ⟨rfl, rfl, rfl, rfl⟩ | ⟨x, rfl, hl, hm, hz, hcell, hwz⟩
  · omega
  · obtain ⟨cb, off, spot⟩ := x
    have hc := hcell j (by omega)
    have hspot : spot = none := by
      have h0 := hcell 0 (by omega)
      simpa [Addr.add] using World.cell?_spot h0
    subst hspot
    rw [Addr.add_lit] at hc
    have hmem : zs.getD j 0 ∈ zs := by
      rw [List.getD_eq_getElem?_getD, List.getElem?_eq_getElem (show j < zs.length by omega)]
      exact List.getElem_mem _
    have hb := bounds_u8 (hwz _ hmem)
    exact ⟨cb, off, _, rfl, World.block_lt_of_cell? w _ hc, hb.1, hb.2, hc⟩
theorem walk (a : Option Addr) (len cap : Nat) (zs : List Int) (w : World) (h : IsRow .u8 w a len cap zs) :
    Calls Try.prog 3 #[.slice a len cap] w fun e w' => e = .returned (.bool true) ∧ Below w.heap.size w w' := by
  by_cases hbig : 1048576 < len
  · have BIG := Lib.hid (big_yes a len cap w hbig)
    clear h
    go_enter Try.func3, Try.ntmps3
    go_wp2_with fail
    refine BIG.out.mono ?_
    rintro e w' ⟨rfl, rfl⟩
    go_wp2_with fail
    go_ret
    exact ⟨rfl, Below.refl _ _⟩
  · exact Go.Proofs.Ytdfhnngcddaccaa.fsc.core a len cap w (by omega) (code_of h)
/-! ### THE ROW's STEP -/
set_option maxRecDepth 100000 in
theorem lifted (os : Os) (started : os.Started) (H : Type) (enc : TypeId × Value → H) :
    ReturnsInHanded {} Try.checked os 3 .any (Rows.fnSchemesSpec.pre6 enc Try.prog Try.f3 Rows.fnSchemesRow.domain false) (Rows.fnSchemesSpec.post enc Try.prog Try.f3 false true false false) := by
  refine returnsInHanded_of_change (C := Try.checked) own started (by kernel_rfl) Try.func3
    (ChangeSpec.witness6 (enc := enc) (C := Try.checked) false ⟨#[], #[.slice none 0 0], []⟩ 8 (by kernel_rfl) (by kernel_rfl) (by kernel_rfl) (by kernel_rfl)) ?_
  intro W base args ds gs before hval0 hW hcnd _
  have hval : ∀ (j : Nat) t v, Try.f3.params[j]? = some t → args[j]? = some v → Value.okWide Try.prog W .any base t v := hval0
  have hW' := hW
  obtain ⟨p, q, hA0, hV, rfl, hfz, hnd⟩ := hW
  have hA : DataW.TrodAll enc Try.prog W 0 (fun _ => true) true Try.f3.params.toList args.toList ds p := hA0
  rw [Try.params3] at hA hval
  obtain ⟨v0, vs0, d0, ds0, p0, q0, hargs, rfl, rfl, h0, r0⟩ := trodAll_cons hA
  obtain ⟨rfl, rfl, rfl⟩ := trodAll_nil r0
  obtain rfl : args = #[v0] := by cases args; simp_all
  obtain ⟨rfl, rfl⟩ := trodVars_none hV
  obtain ⟨a0, len0, cap0, rfl⟩ := okWide_slice Try.underlying22 (hval 0 22 v0 rfl rfl)
  have k0 := h0
  have lt0 : ∀ x ∈ p0, x.block < W.heap.size := by obtain ⟨m, hm⟩ := k0; exact DataW.trod_lt m _ _ _ hm
  obtain ⟨z0, w0⟩ : ∃ zs, IsRow .u8 W a0 len0 cap0 zs := by
    obtain ⟨fuel, hf⟩ := h0
    rcases open_ints Try.underlying22 Try.underlying5 (by kernel_rfl) hf with ⟨hcs, _⟩ | ⟨x, l, c, zs, hcs, _, hl, hm, hz, _, hcell, hwz⟩
    · simp [Value.cells] at hcs
      obtain ⟨rfl, rfl, rfl⟩ := hcs
      exact ⟨[], .inl ⟨rfl, rfl, rfl, rfl⟩⟩
    · simp [Value.cells] at hcs
      obtain ⟨rfl, rfl, rfl⟩ := hcs
      exact ⟨zs, .inr ⟨_, rfl, hl, hm, by simpa using hz, hcell, hwz⟩⟩
  clear hA0 hval0
  refine (walk a0 len0 cap0 z0 W w0).mono fun e W' ⟨he, bel⟩ => ?_
  subst he
  exact ⟨_, rfl, _, _, _, [], _, [], hW', trodAll_mk1 (shut_bool Try.underlying4 _), (trodAll_cons_mk (Below.trod laidOut (by kernel_rfl) (of_decide_eq_true (by kernel_rfl)) k0 bel lt0) trodAll_mk0), rfl, bel.frame _, fun h => by cases h⟩

theorem over : Rows.fnSchemesRow.holds Try.pinned (OpenSpec.ofChange Rows.fnSchemesSpec) :=
  OpenClaim.holds_of_wide 3 Try.f3 rfl rfl rfl rfl rfl rfl rfl ⟨rfl, rfl, rfl, rfl, rfl⟩ rfl rfl rfl rfl rfl (by kernel_rfl) Try.func3 (by kernel_rfl)
    (of_decide_eq_true (by kernel_rfl)) (by unfold Func.isWrapper; first | (rw [if_pos (by decide +kernel)]; kernel_rfl) | (rw [if_neg (by decide +kernel)]; exact ⟨rfl, rfl⟩))
    (fun os started H enc _ => lifted os started H enc)

/-- THE STATEMENT -/
theorem proved : Rows.FnSchemesSaid := over
#print axioms proved
end Go.Proofs.Ytdfhnngcddaccaa.fnSchemes
