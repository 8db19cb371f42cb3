/- WriteCode of the model: what each answers; nothing that was there is written. -/
import Derived.Test.YtdfhnngcddaccaaWrc
namespace Go.Proofs.Ytdfhnngcddaccaa.wrs
open Go.ChangeShapes Go.WideShapes Go.ChangeAt Go.RowKit
open Go.Proofs.Ytdfhnngcddaccaa.el2 Go.Proofs.Ytdfhnngcddaccaa.tx Go.Proofs.Ytdfhnngcddaccaa.seq Go.Proofs.Ytdfhnngcddaccaa.tv Go.Proofs.Ytdfhnngcddaccaa.rx Go.Proofs.Ytdfhnngcddaccaa.ru Go.Proofs.Ytdfhnngcddaccaa.ruc Go.Proofs.Ytdfhnngcddaccaa.sc Go.Proofs.Ytdfhnngcddaccaa.cho Go.Proofs.Ytdfhnngcddaccaa.lk Go.Proofs.Ytdfhnngcddaccaa.wrc
open Go.Proofs.Ytdfhnngcddaccaa.vers (In in_yes in_no in_of in_off ret_b new2 new3)
open Go.Proofs.Ytdfhnngcddaccaa.sl (Ver)
open Go.Proofs.Ytdfhnngcddaccaa.st (Rs)
open Go.Proofs.Ytdfhnngcddaccaa.val (stB)
open Go.Proofs.Ytdfhnngcddaccaa.find (lastV vAt store5 below5 latest_spec latest_impl)
open Go.Proofs.Ytdfhnngcddaccaa.rd (rlB rlV rlV_yes)
set_option linter.unusedVariables false
set_option linter.unusedSimpArgs false
set_option maxRecDepth 100000 in
set_option maxHeartbeats 12800000 in
theorem spec_wc {w : World} {B n c n2 c2 N cN n3 c3 : Nat} {A A2 D A3 : Option Addr} {R S L : List E2} {C : List (List Ver)} (x : Hd) (k : Int) (hn : n ≤ 1048576) (hn2 : n2 ≤ 1048576) (hN : N ≤ 1048576) (hn3 : n3 ≤ 1048576) (h1 : Vs w B A n R) (h2 : Vs w B A2 n2 S) (h3 : Rs w B D N C) (h4 : Vs w B A3 n3 L) (hB : B ≤ w.heap.size) :
    Calls Try.prog 18 #[.agg #[.slice D N cN], .slice A3 n3 c3, .agg #[.int .i64 x.i, .int .i64 x.s, .int .i64 x.t, .int .i64 x.b, .int .i64 x.l, .int .i64 x.h, .int .i64 x.c, .slice A n c, .slice A2 n2 c2], .int .i64 k] w fun e w' => e = .returned (.int .i64 (wcI C L x R S k)) ∧ Below w.heap.size w w' := by
  have H1 := Lib.hid h1
  have H2 := Lib.hid h2
  have H3 := Lib.hid h3
  have H4 := Lib.hid h4
  have hln := h1.1
  have hln2 := h2.1
  have hln3 := h3.1
  have hln4 := h4.1
  clear h1 h2 h3 h4
  obtain ⟨i, hi⟩ : ∃ i, wcI C L x R S k = i := ⟨_, rfl⟩
  rw [hi]
  have HI := Lib.hid hi
  clear hi
  obtain ⟨gq, hgq⟩ : ∃ q, gdB C x R S k = q := ⟨_, rfl⟩
  have HG := Lib.hid hgq
  clear hgq
  obtain ⟨lq, hlq⟩ : ∃ q, lkB L = q := ⟨_, rfl⟩
  have HLK := Lib.hid hlq
  clear hlq
  rcases gq with _ | _
  · have HE : Hid ((6 : Int) = i) := Lib.hid (by rw [← HI.out, wc_no (.inl HG.out)])
    go_enter Try.func18, Try.ntmps18
    go_wp2_with fail
    have hL := LS.mk2 w (.slice D N cN) 26 30 x A n c A2 n2 c2
    generalize ((w.alloc _).alloc _) = W0 at hL ⊢
    have L0 := Lib.hid hL
    have c0 := hL.st
    obtain ⟨t0, t1, t2, t3, t4, t5, t6, t7, t8⟩ := hL.tb
    clear hL
    go_wp2_with fail
    refine (spec_good x k (by omega) (by omega) (by omega) (H1.out.below (below_le L0.out.bel hB)) (H2.out.below (below_le L0.out.bel hB)) (H3.out.below (below_le L0.out.bel hB)) (by have := L0.out.size; omega)).mono ?_
    rintro e W1 ⟨rfl, hb⟩
    rw [HG.out]
    have L1 := Lib.hid (L0.out.call hb)
    clear hb c0 t0 t1 t2 t3 t4 t5 t6 t7 t8
    go_wp2_with fail
    go_ret
    exact ⟨ru.ret_i HE.out, L1.out.bel⟩
  rcases lq with _ | _
  · have HE : Hid ((6 : Int) = i) := Lib.hid (by rw [← HI.out, wc_no (.inr HLK.out)])
    go_enter Try.func18, Try.ntmps18
    go_wp2_with fail
    have hL := LS.mk2 w (.slice D N cN) 26 30 x A n c A2 n2 c2
    generalize ((w.alloc _).alloc _) = W0 at hL ⊢
    have L0 := Lib.hid hL
    have c0 := hL.st
    obtain ⟨t0, t1, t2, t3, t4, t5, t6, t7, t8⟩ := hL.tb
    clear hL
    go_wp2_with fail
    refine (spec_good x k (by omega) (by omega) (by omega) (H1.out.below (below_le L0.out.bel hB)) (H2.out.below (below_le L0.out.bel hB)) (H3.out.below (below_le L0.out.bel hB)) (by have := L0.out.size; omega)).mono ?_
    rintro e W1 ⟨rfl, hb⟩
    rw [HG.out]
    have L1 := Lib.hid (L0.out.call hb)
    clear hb c0 t0 t1 t2 t3 t4 t5 t6 t7 t8
    go_wp2_with fail
    refine (lka.spec_are (by omega) (H4.out.below (below_le L1.out.bel hB)) (by have := L1.out.size; omega)).mono ?_
    rintro e W2 ⟨rfl, hb⟩
    rw [HLK.out]
    have L2 := Lib.hid (L1.out.call hb)
    clear hb
    go_wp2_with fail
    go_ret
    exact ⟨ru.ret_i HE.out, L2.out.bel⟩
  obtain ⟨hst, htx, hxt, hin⟩ := gd_parts HG.out
  have hk := in_yes hin
  have hsix := val.st_six hst
  obtain ⟨b, o, l, A9, n9, c9, rfl, hbB, hl, hcell, hn9, hv⟩ := H3.out.at_ (k := k.toNat) (by omega)
  have HC := Lib.hid hcell
  have HV := Lib.hid hv
  obtain ⟨v, hlv⟩ : ∃ v, lastV l = v := ⟨_, rfl⟩
  have HX := Lib.hid hlv
  obtain ⟨q, hq⟩ : ∃ q, tnB L x k = q := ⟨_, rfl⟩
  have HM : Hid (wcM x.s v.c v.d x.b q = i) := Lib.hid (by rw [wc_m HG.out HLK.out hl hlv hq]; exact HI.out)
  have HQ := Lib.hid hq
  have t0k : (k.toNat : Int) = k := by omega
  have t1k : (0 : Int) ≤ k := by omega
  have t2k : k < (N : Int) := by omega
  obtain ⟨g, hg⟩ : ∃ g, ownI k L = g := ⟨_, rfl⟩
  have HGO := Lib.hid hg
  clear hst htx hxt hin hsix hl hcell hv HI hlv hq hg
  by_cases o0 : g = 0
  · have nf0 : (g != 0) = false := by simp [o0]
    have e0 : q = false := by rw [← HQ.out]; exact tn_0 HGO.out o0
    subst e0
    clear o0
    go_enter Try.func18, Try.ntmps18
    go_wp2_with fail
    have hL := LS.mk2 w (.slice (some ⟨b, o, none⟩) N cN) 26 30 x A n c A2 n2 c2
    generalize ((w.alloc _).alloc _) = W0 at hL ⊢
    have L0 := Lib.hid hL
    have c0 := hL.st
    obtain ⟨t0, t1, t2, t3, t4, t5, t6, t7, t8⟩ := hL.tb
    clear hL
    go_wp2_with fail
    refine (spec_good x k (by omega) (by omega) (by omega) (H1.out.below (below_le L0.out.bel hB)) (H2.out.below (below_le L0.out.bel hB)) (H3.out.below (below_le L0.out.bel hB)) (by have := L0.out.size; omega)).mono ?_
    rintro e W1 ⟨rfl, hb⟩
    rw [HG.out]
    have L1 := Lib.hid (L0.out.call hb)
    clear hb c0 t0 t1 t2 t3 t4 t5 t6 t7 t8
    go_wp2_with fail
    refine (lka.spec_are (by omega) (H4.out.below (below_le L1.out.bel hB)) (by have := L1.out.size; omega)).mono ?_
    rintro e W2 ⟨rfl, hb⟩
    rw [HLK.out]
    have L2 := Lib.hid (L1.out.call hb)
    clear hb
    go_wp2_with fail
    refine (own_s HGO.out (by omega) (H4.out.below (below_le L2.out.bel hB)) (by have := L2.out.size; omega)).mono ?_
    rintro e W3 ⟨he, hw⟩
    subst he
    subst hw
    have c0 := L2.out.st
    obtain ⟨t0, t1, t2, t3, t4, t5, t6, t7, t8⟩ := L2.out.tb
    clear t1 t2 t3 t4 t5 t6 t7 t8
    have d0 := (L2.out.bel.cell (p := ⟨b, o + k.toNat, none⟩) (by simp only; omega)).trans HC.out
    go_wp2_with fail
    refine (latest_spec HX.out hn9 (HV.out.below (below_le L2.out.bel hB)) (by have := L2.out.size; omega)).mono ?_
    rintro e W4 ⟨rfl, hb⟩
    have L4 := Lib.hid (L2.out.call hb)
    clear hb c0 d0 t0
    obtain ⟨t0, t1, t2, t3, t4, t5, t6, t7, t8⟩ := L4.out.tb
    clear t0 t2 t4 t5 t6 t7 t8
    have hsz1 : w.heap.size + 1 < W4.heap.size := by have := L4.out.size; omega
    have hsz0 : w.heap.size < W4.heap.size := by have := L4.out.size; omega
    by_cases q1 : x.s = 1
    · have s1 : (x.s == 1) = true := by simpa using q1
      have s2 : (x.s == 2) = false := by simp [q1]
      have s4 : (x.s == 4) = false := by simp [q1]
      have HE : Hid ((0 : Int) = i) := Lib.hid (by rw [← HM.out]; simp [wcM, q1])
      clear q1
      go_wp2_with fail
      go_ret
      exact ⟨ru.ret_i HE.out, L4.out.bel.alloc L4.out.bel.size _⟩
    by_cases q2 : x.s = 2
    · have s1 : (x.s == 1) = false := by simp [q2]
      have s2 : (x.s == 2) = true := by simpa using q2
      have s4 : (x.s == 4) = false := by simp [q2]
      by_cases hc : x.b < v.c
      · have tc : decide (x.b < v.c) = true := decide_eq_true hc
        have HE : Hid ((2 : Int) = i) := Lib.hid (by rw [← HM.out]; simp [wcM, q2, hc])
        clear q1 q2
        go_wp2_with fail
        go_ret
        exact ⟨ru.ret_i HE.out, L4.out.bel.alloc L4.out.bel.size _⟩
      · have tc : decide (x.b < v.c) = false := decide_eq_false hc
        have HE : Hid ((0 : Int) = i) := Lib.hid (by rw [← HM.out]; simp [wcM, q2, hc])
        clear q1 q2
        go_wp2_with fail
        go_ret
        exact ⟨ru.ret_i HE.out, L4.out.bel.alloc L4.out.bel.size _⟩
    have s1 : (x.s == 1) = false := by simpa using q1
    have s2 : (x.s == 2) = false := by simpa using q2
    by_cases q4 : x.s = 4
    · have s4 : (x.s == 4) = true := by simpa using q4
      by_cases hc : x.b < v.c
      · have tc : decide (x.b < v.c) = true := decide_eq_true hc
        have HE : Hid ((3 : Int) = i) := Lib.hid (by rw [← HM.out]; simp [wcM, q4, hc])
        clear q1 q2 q4
        go_wp2_with fail
        go_ret
        exact ⟨ru.ret_i HE.out, L4.out.bel.alloc L4.out.bel.size _⟩
      have tc : decide (x.b < v.c) = false := decide_eq_false hc
      by_cases hd : x.b < v.d
      · have td : decide (x.b < v.d) = true := decide_eq_true hd
        have HE : Hid ((3 : Int) = i) := Lib.hid (by rw [← HM.out]; simp [wcM, q4, hc, hd])
        clear q1 q2 q4
        go_wp2_with fail
        go_ret
        exact ⟨ru.ret_i HE.out, L4.out.bel.alloc L4.out.bel.size _⟩
      · have td : decide (x.b < v.d) = false := decide_eq_false hd
        have HE : Hid ((0 : Int) = i) := Lib.hid (by rw [← HM.out]; simp [wcM, q4, hc, hd])
        clear q1 q2 q4
        go_wp2_with fail
        go_ret
        exact ⟨ru.ret_i HE.out, L4.out.bel.alloc L4.out.bel.size _⟩
    · have s4 : (x.s == 4) = false := by simpa using q4
      have HE : Hid ((0 : Int) = i) := Lib.hid (by rw [← HM.out]; simp [wcM, q1, q2, q4])
      clear q1 q2 q4
      go_wp2_with fail
      go_ret
      exact ⟨ru.ret_i HE.out, L4.out.bel.alloc L4.out.bel.size _⟩
  by_cases o1 : g = x.i
  · have nf0 : (g != 0) = true := by simpa using o0
    have nf1 : (g != x.i) = false := by simp [o1]
    have e0 : q = false := by rw [← HQ.out]; exact tn_own HGO.out o1
    subst e0
    clear o0 o1
    go_enter Try.func18, Try.ntmps18
    go_wp2_with fail
    have hL := LS.mk2 w (.slice (some ⟨b, o, none⟩) N cN) 26 30 x A n c A2 n2 c2
    generalize ((w.alloc _).alloc _) = W0 at hL ⊢
    have L0 := Lib.hid hL
    have c0 := hL.st
    obtain ⟨t0, t1, t2, t3, t4, t5, t6, t7, t8⟩ := hL.tb
    clear hL
    go_wp2_with fail
    refine (spec_good x k (by omega) (by omega) (by omega) (H1.out.below (below_le L0.out.bel hB)) (H2.out.below (below_le L0.out.bel hB)) (H3.out.below (below_le L0.out.bel hB)) (by have := L0.out.size; omega)).mono ?_
    rintro e W1 ⟨rfl, hb⟩
    rw [HG.out]
    have L1 := Lib.hid (L0.out.call hb)
    clear hb c0 t0 t1 t2 t3 t4 t5 t6 t7 t8
    go_wp2_with fail
    refine (lka.spec_are (by omega) (H4.out.below (below_le L1.out.bel hB)) (by have := L1.out.size; omega)).mono ?_
    rintro e W2 ⟨rfl, hb⟩
    rw [HLK.out]
    have L2 := Lib.hid (L1.out.call hb)
    clear hb
    go_wp2_with fail
    refine (own_s HGO.out (by omega) (H4.out.below (below_le L2.out.bel hB)) (by have := L2.out.size; omega)).mono ?_
    rintro e W3 ⟨he, hw⟩
    subst he
    subst hw
    have c0 := L2.out.st
    obtain ⟨t0, t1, t2, t3, t4, t5, t6, t7, t8⟩ := L2.out.tb
    clear t1 t2 t3 t4 t5 t6 t7 t8
    have d0 := (L2.out.bel.cell (p := ⟨b, o + k.toNat, none⟩) (by simp only; omega)).trans HC.out
    go_wp2_with fail
    refine (latest_spec HX.out hn9 (HV.out.below (below_le L2.out.bel hB)) (by have := L2.out.size; omega)).mono ?_
    rintro e W4 ⟨rfl, hb⟩
    have L4 := Lib.hid (L2.out.call hb)
    clear hb c0 d0 t0
    obtain ⟨t0, t1, t2, t3, t4, t5, t6, t7, t8⟩ := L4.out.tb
    clear t0 t2 t4 t5 t6 t7 t8
    have hsz1 : w.heap.size + 1 < W4.heap.size := by have := L4.out.size; omega
    have hsz0 : w.heap.size < W4.heap.size := by have := L4.out.size; omega
    by_cases q1 : x.s = 1
    · have s1 : (x.s == 1) = true := by simpa using q1
      have s2 : (x.s == 2) = false := by simp [q1]
      have s4 : (x.s == 4) = false := by simp [q1]
      have HE : Hid ((0 : Int) = i) := Lib.hid (by rw [← HM.out]; simp [wcM, q1])
      clear q1
      go_wp2_with fail
      go_ret
      exact ⟨ru.ret_i HE.out, L4.out.bel.alloc L4.out.bel.size _⟩
    by_cases q2 : x.s = 2
    · have s1 : (x.s == 1) = false := by simp [q2]
      have s2 : (x.s == 2) = true := by simpa using q2
      have s4 : (x.s == 4) = false := by simp [q2]
      by_cases hc : x.b < v.c
      · have tc : decide (x.b < v.c) = true := decide_eq_true hc
        have HE : Hid ((2 : Int) = i) := Lib.hid (by rw [← HM.out]; simp [wcM, q2, hc])
        clear q1 q2
        go_wp2_with fail
        go_ret
        exact ⟨ru.ret_i HE.out, L4.out.bel.alloc L4.out.bel.size _⟩
      · have tc : decide (x.b < v.c) = false := decide_eq_false hc
        have HE : Hid ((0 : Int) = i) := Lib.hid (by rw [← HM.out]; simp [wcM, q2, hc])
        clear q1 q2
        go_wp2_with fail
        go_ret
        exact ⟨ru.ret_i HE.out, L4.out.bel.alloc L4.out.bel.size _⟩
    have s1 : (x.s == 1) = false := by simpa using q1
    have s2 : (x.s == 2) = false := by simpa using q2
    by_cases q4 : x.s = 4
    · have s4 : (x.s == 4) = true := by simpa using q4
      by_cases hc : x.b < v.c
      · have tc : decide (x.b < v.c) = true := decide_eq_true hc
        have HE : Hid ((3 : Int) = i) := Lib.hid (by rw [← HM.out]; simp [wcM, q4, hc])
        clear q1 q2 q4
        go_wp2_with fail
        go_ret
        exact ⟨ru.ret_i HE.out, L4.out.bel.alloc L4.out.bel.size _⟩
      have tc : decide (x.b < v.c) = false := decide_eq_false hc
      by_cases hd : x.b < v.d
      · have td : decide (x.b < v.d) = true := decide_eq_true hd
        have HE : Hid ((3 : Int) = i) := Lib.hid (by rw [← HM.out]; simp [wcM, q4, hc, hd])
        clear q1 q2 q4
        go_wp2_with fail
        go_ret
        exact ⟨ru.ret_i HE.out, L4.out.bel.alloc L4.out.bel.size _⟩
      · have td : decide (x.b < v.d) = false := decide_eq_false hd
        have HE : Hid ((0 : Int) = i) := Lib.hid (by rw [← HM.out]; simp [wcM, q4, hc, hd])
        clear q1 q2 q4
        go_wp2_with fail
        go_ret
        exact ⟨ru.ret_i HE.out, L4.out.bel.alloc L4.out.bel.size _⟩
    · have s4 : (x.s == 4) = false := by simpa using q4
      have HE : Hid ((0 : Int) = i) := Lib.hid (by rw [← HM.out]; simp [wcM, q1, q2, q4])
      clear q1 q2 q4
      go_wp2_with fail
      go_ret
      exact ⟨ru.ret_i HE.out, L4.out.bel.alloc L4.out.bel.size _⟩
  have nf0 : (g != 0) = true := by simpa using o0
  have nf1 : (g != x.i) = true := by simpa using o1
  have e0 : q = true := by rw [← HQ.out]; exact tn_yes HGO.out o0 o1
  subst e0
  clear o0 o1
  go_enter Try.func18, Try.ntmps18
  go_wp2_with fail
  have hL := LS.mk2 w (.slice (some ⟨b, o, none⟩) N cN) 26 30 x A n c A2 n2 c2
  generalize ((w.alloc _).alloc _) = W0 at hL ⊢
  have L0 := Lib.hid hL
  have c0 := hL.st
  obtain ⟨t0, t1, t2, t3, t4, t5, t6, t7, t8⟩ := hL.tb
  clear hL
  go_wp2_with fail
  refine (spec_good x k (by omega) (by omega) (by omega) (H1.out.below (below_le L0.out.bel hB)) (H2.out.below (below_le L0.out.bel hB)) (H3.out.below (below_le L0.out.bel hB)) (by have := L0.out.size; omega)).mono ?_
  rintro e W1 ⟨rfl, hb⟩
  rw [HG.out]
  have L1 := Lib.hid (L0.out.call hb)
  clear hb c0 t0 t1 t2 t3 t4 t5 t6 t7 t8
  go_wp2_with fail
  refine (lka.spec_are (by omega) (H4.out.below (below_le L1.out.bel hB)) (by have := L1.out.size; omega)).mono ?_
  rintro e W2 ⟨rfl, hb⟩
  rw [HLK.out]
  have L2 := Lib.hid (L1.out.call hb)
  clear hb
  go_wp2_with fail
  refine (own_s HGO.out (by omega) (H4.out.below (below_le L2.out.bel hB)) (by have := L2.out.size; omega)).mono ?_
  rintro e W3 ⟨he, hw⟩
  subst he
  subst hw
  have c0 := L2.out.st
  obtain ⟨t0, t1, t2, t3, t4, t5, t6, t7, t8⟩ := L2.out.tb
  clear t1 t2 t3 t4 t5 t6 t7 t8
  have d0 := (L2.out.bel.cell (p := ⟨b, o + k.toNat, none⟩) (by simp only; omega)).trans HC.out
  go_wp2_with fail
  refine (latest_spec HX.out hn9 (HV.out.below (below_le L2.out.bel hB)) (by have := L2.out.size; omega)).mono ?_
  rintro e W4 ⟨rfl, hb⟩
  have L4 := Lib.hid (L2.out.call hb)
  clear hb c0 d0 t0
  obtain ⟨t0, t1, t2, t3, t4, t5, t6, t7, t8⟩ := L4.out.tb
  clear t0 t2 t4 t5 t6 t7 t8
  have hsz1 : w.heap.size + 1 < W4.heap.size := by have := L4.out.size; omega
  have hsz0 : w.heap.size < W4.heap.size := by have := L4.out.size; omega
  by_cases q1 : x.s = 1
  · have s1 : (x.s == 1) = true := by simpa using q1
    have s2 : (x.s == 2) = false := by simp [q1]
    have s4 : (x.s == 4) = false := by simp [q1]
    have HE : Hid ((1 : Int) = i) := Lib.hid (by rw [← HM.out]; simp [wcM, q1])
    clear q1
    go_wp2_with fail
    go_ret
    exact ⟨ru.ret_i HE.out, L4.out.bel.alloc L4.out.bel.size _⟩
  by_cases q2 : x.s = 2
  · have s1 : (x.s == 1) = false := by simp [q2]
    have s2 : (x.s == 2) = true := by simpa using q2
    have HE : Hid ((2 : Int) = i) := Lib.hid (by rw [← HM.out]; simp [wcM, q2])
    clear q1 q2
    go_wp2_with fail
    go_ret
    exact ⟨ru.ret_i HE.out, L4.out.bel.alloc L4.out.bel.size _⟩
  have s1 : (x.s == 1) = false := by simpa using q1
  have s2 : (x.s == 2) = false := by simpa using q2
  by_cases q4 : x.s = 4
  · have s4 : (x.s == 4) = true := by simpa using q4
    by_cases hc : x.b < v.c
    · have tc : decide (x.b < v.c) = true := decide_eq_true hc
      have HE : Hid ((3 : Int) = i) := Lib.hid (by rw [← HM.out]; simp [wcM, q4, hc])
      clear q1 q2 q4
      go_wp2_with fail
      go_ret
      exact ⟨ru.ret_i HE.out, L4.out.bel.alloc L4.out.bel.size _⟩
    have tc : decide (x.b < v.c) = false := decide_eq_false hc
    by_cases hd : x.b < v.d
    · have td : decide (x.b < v.d) = true := decide_eq_true hd
      have HE : Hid ((3 : Int) = i) := Lib.hid (by rw [← HM.out]; simp [wcM, q4, hc, hd])
      clear q1 q2 q4
      go_wp2_with fail
      go_ret
      exact ⟨ru.ret_i HE.out, L4.out.bel.alloc L4.out.bel.size _⟩
    · have td : decide (x.b < v.d) = false := decide_eq_false hd
      have HE : Hid ((0 : Int) = i) := Lib.hid (by rw [← HM.out]; simp [wcM, q4, hc, hd])
      clear q1 q2 q4
      go_wp2_with fail
      go_ret
      exact ⟨ru.ret_i HE.out, L4.out.bel.alloc L4.out.bel.size _⟩
  · have s4 : (x.s == 4) = false := by simpa using q4
    have HE : Hid ((0 : Int) = i) := Lib.hid (by rw [← HM.out]; simp [wcM, q1, q2, q4])
    clear q1 q2 q4
    go_wp2_with fail
    go_ret
    exact ⟨ru.ret_i HE.out, L4.out.bel.alloc L4.out.bel.size _⟩
end Go.Proofs.Ytdfhnngcddaccaa.wrs
