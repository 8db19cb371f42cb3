/- EqualEngines of the program and of the model: what each answers. -/
import Derived.Test.YtjnlbhmddhpmaaaLke
import Derived.Test.YtjnlbhmddhpmaaaEqs
import Derived.Test.YtjnlbhmddhpmaaaEg
import Derived.LoopTactic
namespace Go.Proofs.Ytjnlbhmddhpmaaa.ege
open Go.ChangeShapes Go.WideShapes Go.ChangeAt Go.RowKit
open Go.Proofs.Ytjnlbhmddhpmaaa.el2 Go.Proofs.Ytjnlbhmddhpmaaa.tx Go.Proofs.Ytjnlbhmddhpmaaa.seq Go.Proofs.Ytjnlbhmddhpmaaa.te Go.Proofs.Ytjnlbhmddhpmaaa.lke Go.Proofs.Ytjnlbhmddhpmaaa.ts Go.Proofs.Ytjnlbhmddhpmaaa.ego Go.Proofs.Ytjnlbhmddhpmaaa.eg
open Go.Proofs.Ytjnlbhmddhpmaaa.mkr (Tr)
open Go.Proofs.Ytjnlbhmddhpmaaa.sl (Ver)
open Go.Proofs.Ytjnlbhmddhpmaaa.st (Rs)
open Go.Proofs.Ytjnlbhmddhpmaaa.eqst (rB)
open Go.Proofs.Ytjnlbhmddhpmaaa.vers (ret_b new2 new3)
set_option linter.unusedVariables false
set_option linter.unusedSimpArgs false
set_option linter.constructorNameAsVariable false
noncomputable def tB (l m : List Tr) : Bool := @decide (l = m) (Classical.propDecidable _)
theorem tB_no {l m : List Tr} (h : l ≠ m) : tB l m = false := @decide_eq_false _ (Classical.propDecidable _) h
theorem tB_yes {l m : List Tr} (h : l = m) : tB l m = true := @decide_eq_true _ (Classical.propDecidable _) h
theorem tB_len {l m : List Tr} (h : l.length ≠ m.length) : tB l m = false := tB_no fun e => h (by rw [e])
theorem eqT_is {t u : Tr} : eqT t.x t.R t.S u.x u.R u.S = true → t = u := fun h => by
  have h := @of_decide_eq_true _ (Classical.propDecidable _) h
  cases t; cases u; simp_all
theorem eqT_ne {t u : Tr} : eqT t.x t.R t.S u.x u.R u.S = false → t ≠ u := fun h e => by
  have h := @of_decide_eq_false _ (Classical.propDecidable _) h
  subst e
  exact h ⟨rfl, rfl, rfl⟩
theorem t_at {l m : List Tr} {k : Nat} {x y : Tr} (hx : l[k]? = some x) (hy : m[k]? = some y) (h : eqT x.x x.R x.S y.x y.R y.S = false) : tB l m = false := tB_no fun e => eqT_ne h (by rw [e, hy] at hx; exact (Option.some.inj hx).symm)
theorem t_all {l m : List Tr} {n : Nat} (hl : l.length = n) (hm : m.length = n) (h : l.take n = m.take n) : tB l m = true := tB_yes (by rwa [List.take_of_length_le (by omega), List.take_of_length_le (by omega)] at h)
theorem t_step {l m : List Tr} {k : Nat} {x y : Tr} (h : l.take k = m.take k) (hx : l[k]? = some x) (hy : m[k]? = some y) (he : eqT x.x x.R x.S y.x y.R y.S = true) : l.take (k + 1) = m.take (k + 1) := by
  obtain rfl := eqT_is he
  have h1 := ts.lt_get hx
  have h2 := ts.lt_get hy
  rw [List.getElem?_eq_getElem h1] at hx
  rw [List.getElem?_eq_getElem h2] at hy
  rw [List.take_succ_eq_append_getElem h1, List.take_succ_eq_append_getElem h2, h, Option.some.inj hx, Option.some.inj hy]
set_option maxRecDepth 100000 in
set_option maxHeartbeats 1600000 in
theorem lib_t {w : World} {B n n2 c c2 : Nat} {A A2 : Option Addr} {ll mm : List Tr} (hn : n ≤ 140737488355328) (hn2 : n2 ≤ 140737488355328) (h1 : Ts 2097152 w B A n ll) (h2 : Ts 2097152 w B A2 n2 mm) (hB : B ≤ w.heap.size) :
    Calls Try.prog 62 #[.slice A n c, .slice A2 n2 c2, .func (.func 63) #[] #[]] w fun e w' => e = .returned (.bool (tB ll mm)) ∧ Below w.heap.size w w' := by
  have H1 := Lib.hid h1
  have H2 := Lib.hid h2
  have hl1 := h1.1
  have hl2 := h2.1
  clear h1 h2
  by_cases hne : n = n2
  case neg =>
    have t : ((n : Int) == (n2 : Int)) = false := by simp; omega
    have hr := tB_len (l := ll) (m := mm) (by omega)
    have HR := Lib.hid hr
    clear hr
    go_enter Try.func62, Try.ntmps62
    go_wp2_with fail
    go_ret
    exact ⟨ret_b HR.out.symm, Below.refl _ _⟩
  subst hne
  go_enter Try.func62, Try.ntmps62
  go_wp2
  go_loopw [17] (fun i wr => ∃ k : Nat, k ≤ n ∧ i = .int .i64 k ∧ ll.take k = mm.take k ∧ Below w.heap.size w wr) (fun i _ => n - (intOf i).toNat)
  case atStart => exact ⟨0, by omega, rfl, rfl, Below.refl _ _⟩
  case round =>
    obtain ⟨k, hk, rfl, ht, hb⟩ := hrel
    have HT := Lib.hid ht
    have HB := Lib.hid hb
    clear ht
    by_cases hlt : k < n
    · obtain ⟨b, o, t, P, p1, pc, Q, q1, qc, rfl, hbB, hx, ⟨a0, a1, a2, a3, a4, a5, a6, a7, a8⟩, hp1, hq1, hv, hu⟩ := (H1.out.below (below_le hb hB)).at_ hlt
      obtain ⟨b', o', t', P', p1', pc', Q', q1', qc', rfl, hbB', hx', h9', hp1', hq1', hv', hu'⟩ := (H2.out.below (below_le hb hB)).at_ hlt
      obtain ⟨e0, e1, e2, e3, e4, e5, e6, e7, e8⟩ := h9'.of_block ((Go.Proofs.Ytjnlbhmddhpmaaa.el2.new1 wr (.cells #[.int .i64 t.x.i, .int .i64 t.x.s, .int .i64 t.x.t, .int .i64 t.x.b, .int .i64 t.x.l, .int .i64 t.x.h, .int .i64 t.x.c, .slice P p1 pc, .slice Q q1 qc] 79)).block b' (by have := hb.size; omega))
      have HX := Lib.hid hx
      have HX' := Lib.hid hx'
      have HV := Lib.hid hv
      have HV' := Lib.hid hv'
      have HU := Lib.hid hu
      have HU' := Lib.hid hu'
      have hs1 := hb.size
      have hn2 := new2 wr (.cells #[.int .i64 t.x.i, .int .i64 t.x.s, .int .i64 t.x.t, .int .i64 t.x.b, .int .i64 t.x.l, .int .i64 t.x.h, .int .i64 t.x.c, .slice P p1 pc, .slice Q q1 qc] 79) (.cells #[.int .i64 t'.x.i, .int .i64 t'.x.s, .int .i64 t'.x.t, .int .i64 t'.x.b, .int .i64 t'.x.l, .int .i64 t'.x.h, .int .i64 t'.x.c, .slice P' p1' pc', .slice Q' q1' qc'] 79)
      clear hb hx hx' hv hv' hu hu' h9'
      rcases he : eqT t.x t.R t.S t'.x t'.R t'.S with _ | _
      · have HE := Lib.hid he
        clear he
        go_wp2_with fail
        generalize (wr.alloc _).alloc _ = W0 at hn2 ⊢
        have HN2 := Lib.hid hn2
        have hs2 := hn2.size
        have hbw := below_le hn2 (show B ≤ wr.heap.size by omega)
        clear hn2
        refine (impl_eqtx (B := B) t.x t'.x (by omega) (by omega) (by omega) (by omega) (HV.out.below hbw) (HU.out.below hbw) (HV'.out.below hbw) (HU'.out.below hbw) (by omega)).mono ?_
        rintro e W1 ⟨rfl, hb1⟩
        rw [HE.out]
        have HB1 := Lib.hid (HN2.out.trans (hb1.mono hs2))
        clear hb1 hbw
        go_wp2_with fail
        go_ret
        exact ⟨ret_b (t_at HX.out HX'.out HE.out).symm, HB.out.trans (HB1.out.mono HB.out.size)⟩
      · have HE := Lib.hid he
        clear he
        go_wp2_with fail
        generalize (wr.alloc _).alloc _ = W0 at hn2 ⊢
        have HN2 := Lib.hid hn2
        have hs2 := hn2.size
        have hbw := below_le hn2 (show B ≤ wr.heap.size by omega)
        clear hn2
        refine (impl_eqtx (B := B) t.x t'.x (by omega) (by omega) (by omega) (by omega) (HV.out.below hbw) (HU.out.below hbw) (HV'.out.below hbw) (HU'.out.below hbw) (by omega)).mono ?_
        rintro e W1 ⟨rfl, hb1⟩
        rw [HE.out]
        have HB1 := Lib.hid (HN2.out.trans (hb1.mono hs2))
        clear hb1 hbw
        go_wp2_with fail
        go_roundw
        case rel => exact ⟨k + 1, by omega, by go_num, t_step HT.out HX.out HX'.out HE.out, HB.out.trans (HB1.out.mono HB.out.size)⟩
        case measure => simp [intOf]; omega
    · obtain rfl : k = n := by omega
      have hr := t_all hl1 hl2 HT.out
      have HR := Lib.hid hr
      clear hb hr
      go_wp2_with fail
      go_ret
      exact ⟨ret_b HR.out.symm, HB.out⟩
/-- what the comparison answers -/
noncomputable def eqE (q : Bool) (C : List (List Ver)) (L : List Tr) (K X : List E2) (z : Int) (q' : Bool) (C' : List (List Ver)) (L' : List Tr) (K' X' : List E2) (z' : Int) : Bool := decide (q = q') && decide (z = z') && rB C C' && tB L L' && lB K K' && lB X X'
set_option maxHeartbeats 3200000 in
theorem impl_eqe {w : World} {B n1 c1 n2 c2 n3 c3 n4 c4 m1 d1 m2 d2 m3 d3 m4 d4 : Nat} {A1 A2 A3 A4 B1 B2 B3 B4 : Option Addr} {C C' : List (List Ver)} {L L' : List Tr} {K X K' X' : List E2} (q q' : Bool) (z z' : Int) (hn1 : n1 ≤ 2097152) (hn2 : n2 ≤ 2097152) (hn3 : n3 ≤ 2097152) (hn4 : n4 ≤ 2097152) (hm1 : m1 ≤ 2097152) (hm2 : m2 ≤ 2097152) (hm3 : m3 ≤ 2097152) (hm4 : m4 ≤ 2097152) (h : ER w B A1 n1 C A2 n2 L A3 n3 K A4 n4 X) (h' : ER w B B1 m1 C' B2 m2 L' B3 m3 K' B4 m4 X') (hB : B ≤ w.heap.size) :
    Calls Try.prog 24 #[.agg #[.bool q, .slice A1 n1 c1, .slice A2 n2 c2, .slice A3 n3 c3, .slice A4 n4 c4, .int .i64 z], .agg #[.bool q', .slice B1 m1 d1, .slice B2 m2 d2, .slice B3 m3 d3, .slice B4 m4 d4, .int .i64 z']] w fun e w' => e = .returned (.bool (eqE q C L K X z q' C' L' K' X' z')) ∧ Below w.heap.size w w' := by
  have H := Lib.hid h
  have H' := Lib.hid h'
  clear h h'
  have ta := (EB.new w q (.slice A1 n1 c1) (.slice A2 n2 c2) (.slice A3 n3 c3) (.slice A4 n4 c4) z 29).keep (by simp) (Go.Proofs.Ytjnlbhmddhpmaaa.el2.new1 _ (.cells #[.bool q', .slice B1 m1 d1, .slice B2 m2 d2, .slice B3 m3 d3, .slice B4 m4 d4, .int .i64 z'] 29))
  have tb := EB.new (w.alloc (.cells #[.bool q, .slice A1 n1 c1, .slice A2 n2 c2, .slice A3 n3 c3, .slice A4 n4 c4, .int .i64 z] 29)) q' (.slice B1 m1 d1) (.slice B2 m2 d2) (.slice B3 m3 d3) (.slice B4 m4 d4) z' 29
  rw [show (w.alloc _).heap.size = w.heap.size + 1 by simp] at tb
  have hb := new2 w (.cells #[.bool q, .slice A1 n1 c1, .slice A2 n2 c2, .slice A3 n3 c3, .slice A4 n4 c4, .int .i64 z] 29) (.cells #[.bool q', .slice B1 m1 d1, .slice B2 m2 d2, .slice B3 m3 d3, .slice B4 m4 d4, .int .i64 z'] 29)
  have hs : ((w.alloc (.cells #[.bool q, .slice A1 n1 c1, .slice A2 n2 c2, .slice A3 n3 c3, .slice A4 n4 c4, .int .i64 z] 29)).alloc (.cells #[.bool q', .slice B1 m1 d1, .slice B2 m2 d2, .slice B3 m3 d3, .slice B4 m4 d4, .int .i64 z'] 29)).heap.size = w.heap.size + 2 := by simp
  by_cases hq : q = q'
  case neg =>
    have t : (q == q') = false := by simpa using hq
    have HZ : Hid (false = eqE q C L K X z q' C' L' K' X' z') := Lib.hid (by unfold eqE; rw [decide_eq_false hq]; rfl)
    clear hq
    go_enter Try.func24, Try.ntmps24
    go_wp2_with fail
    go_ret
    exact ⟨ret_b HZ.out, hb⟩
  have t : (q == q') = true := by simpa using hq
  by_cases hz : z = z'
  case neg =>
    have t2 : (z == z') = false := by simpa using hz
    have HZ : Hid (false = eqE q C L K X z q' C' L' K' X' z') := Lib.hid (by unfold eqE; rw [decide_eq_false hz]; simp)
    clear hq hz
    go_enter Try.func24, Try.ntmps24
    go_wp2_with fail
    go_ret
    exact ⟨ret_b HZ.out, hb⟩
  have t2 : (z == z') = true := by simpa using hz
  have HE : Hid (eqE q C L K X z q' C' L' K' X' z' = (rB C C' && tB L L' && lB K K' && lB X X')) := Lib.hid (by unfold eqE; rw [decide_eq_true hq, decide_eq_true hz]; simp)
  clear hq hz
  generalize hr : rB C C' = bhr at HE
  cases bhr with
  | false =>
    have HR := Lib.hid hr
    have HZ : Hid (false = eqE q C L K X z q' C' L' K' X' z') := Lib.hid (by rw [HE.out]; simp)
    clear hr HE
    go_enter Try.func24, Try.ntmps24
    go_wp2_with fail
    generalize (w.alloc _).alloc _ = W0 at ta tb hb hs ⊢
    have HB0 := Lib.hid hb
    have TA0 := Lib.hid ta
    have TC0 := Lib.hid tb
    have hs0 : w.heap.size + 2 ≤ W0.heap.size := by omega
    clear hb ta tb hs
    refine (Go.Proofs.Ytjnlbhmddhpmaaa.eqst.impl_stores (B := B) (by omega) (by omega) (H.out.below (below_le HB0.out hB)).s (H'.out.below (below_le HB0.out hB)).s (by omega)).mono ?_
    rintro e W1 ⟨rfl, hb⟩
    rw [HR.out]
    have hs1 := hb.size
    have HB1 := Lib.hid (HB0.out.trans (hb.mono HB0.out.size))
    have TA1 := Lib.hid (TA0.out.of_block (hb.block _ (by omega)))
    have TC1 := Lib.hid (TC0.out.of_block (hb.block _ (by omega)))
    clear hb
    obtain ⟨t0, t1, t2, t3, t4, t5⟩ := TA1.out
    obtain ⟨v0, v1, v2, v3, v4, v5⟩ := TC1.out
    go_wp2_with fail
    go_ret
    exact ⟨ret_b HZ.out, HB1.out⟩
  | true =>
  have HR := Lib.hid hr
  clear hr
  generalize ht : tB L L' = bht at HE
  cases bht with
  | false =>
    have HT := Lib.hid ht
    have HZ : Hid (false = eqE q C L K X z q' C' L' K' X' z') := Lib.hid (by rw [HE.out]; simp)
    clear ht HE
    go_enter Try.func24, Try.ntmps24
    go_wp2_with fail
    generalize (w.alloc _).alloc _ = W0 at ta tb hb hs ⊢
    have HB0 := Lib.hid hb
    have TA0 := Lib.hid ta
    have TC0 := Lib.hid tb
    have hs0 : w.heap.size + 2 ≤ W0.heap.size := by omega
    clear hb ta tb hs
    refine (Go.Proofs.Ytjnlbhmddhpmaaa.eqst.impl_stores (B := B) (by omega) (by omega) (H.out.below (below_le HB0.out hB)).s (H'.out.below (below_le HB0.out hB)).s (by omega)).mono ?_
    rintro e W1 ⟨rfl, hb⟩
    rw [HR.out]
    have hs1 := hb.size
    have HB1 := Lib.hid (HB0.out.trans (hb.mono HB0.out.size))
    have TA1 := Lib.hid (TA0.out.of_block (hb.block _ (by omega)))
    have TC1 := Lib.hid (TC0.out.of_block (hb.block _ (by omega)))
    clear hb
    obtain ⟨t0, t1, t2, t3, t4, t5⟩ := TA1.out
    obtain ⟨v0, v1, v2, v3, v4, v5⟩ := TC1.out
    go_wp2_with fail
    clear t0 t1 t2 t3 t4 t5 v0 v1 v2 v3 v4 v5
    refine (lib_t (B := B) (by omega) (by omega) (H.out.below (below_le HB1.out hB)).t (H'.out.below (below_le HB1.out hB)).t (by omega)).mono ?_
    rintro e W2 ⟨rfl, hb⟩
    rw [HT.out]
    have hs2 := hb.size
    have HB2 := Lib.hid (HB1.out.trans (hb.mono HB1.out.size))
    have TA2 := Lib.hid (TA1.out.of_block (hb.block _ (by omega)))
    have TC2 := Lib.hid (TC1.out.of_block (hb.block _ (by omega)))
    clear hb
    obtain ⟨t0, t1, t2, t3, t4, t5⟩ := TA2.out
    obtain ⟨v0, v1, v2, v3, v4, v5⟩ := TC2.out
    go_wp2_with fail
    go_ret
    exact ⟨ret_b HZ.out, HB2.out⟩
  | true =>
  have HT := Lib.hid ht
  clear ht
  generalize hk : lB K K' = bhk at HE
  cases bhk with
  | false =>
    have HK := Lib.hid hk
    have HZ : Hid (false = eqE q C L K X z q' C' L' K' X' z') := Lib.hid (by rw [HE.out]; simp)
    clear hk HE
    go_enter Try.func24, Try.ntmps24
    go_wp2_with fail
    generalize (w.alloc _).alloc _ = W0 at ta tb hb hs ⊢
    have HB0 := Lib.hid hb
    have TA0 := Lib.hid ta
    have TC0 := Lib.hid tb
    have hs0 : w.heap.size + 2 ≤ W0.heap.size := by omega
    clear hb ta tb hs
    refine (Go.Proofs.Ytjnlbhmddhpmaaa.eqst.impl_stores (B := B) (by omega) (by omega) (H.out.below (below_le HB0.out hB)).s (H'.out.below (below_le HB0.out hB)).s (by omega)).mono ?_
    rintro e W1 ⟨rfl, hb⟩
    rw [HR.out]
    have hs1 := hb.size
    have HB1 := Lib.hid (HB0.out.trans (hb.mono HB0.out.size))
    have TA1 := Lib.hid (TA0.out.of_block (hb.block _ (by omega)))
    have TC1 := Lib.hid (TC0.out.of_block (hb.block _ (by omega)))
    clear hb
    obtain ⟨t0, t1, t2, t3, t4, t5⟩ := TA1.out
    obtain ⟨v0, v1, v2, v3, v4, v5⟩ := TC1.out
    go_wp2_with fail
    clear t0 t1 t2 t3 t4 t5 v0 v1 v2 v3 v4 v5
    refine (lib_t (B := B) (by omega) (by omega) (H.out.below (below_le HB1.out hB)).t (H'.out.below (below_le HB1.out hB)).t (by omega)).mono ?_
    rintro e W2 ⟨rfl, hb⟩
    rw [HT.out]
    have hs2 := hb.size
    have HB2 := Lib.hid (HB1.out.trans (hb.mono HB1.out.size))
    have TA2 := Lib.hid (TA1.out.of_block (hb.block _ (by omega)))
    have TC2 := Lib.hid (TC1.out.of_block (hb.block _ (by omega)))
    clear hb
    obtain ⟨t0, t1, t2, t3, t4, t5⟩ := TA2.out
    obtain ⟨v0, v1, v2, v3, v4, v5⟩ := TC2.out
    go_wp2_with fail
    clear t0 t1 t2 t3 t4 t5 v0 v1 v2 v3 v4 v5
    refine (lib_k (B := B) (by omega) (by omega) (H.out.below (below_le HB2.out hB)).k (H'.out.below (below_le HB2.out hB)).k (by omega)).mono ?_
    rintro e W3 ⟨rfl, hb⟩
    rw [HK.out]
    have hs3 := hb.size
    have HB3 := Lib.hid (HB2.out.trans (hb.mono HB2.out.size))
    have TA3 := Lib.hid (TA2.out.of_block (hb.block _ (by omega)))
    have TC3 := Lib.hid (TC2.out.of_block (hb.block _ (by omega)))
    clear hb
    obtain ⟨t0, t1, t2, t3, t4, t5⟩ := TA3.out
    obtain ⟨v0, v1, v2, v3, v4, v5⟩ := TC3.out
    go_wp2_with fail
    go_ret
    exact ⟨ret_b HZ.out, HB3.out⟩
  | true =>
  have HK := Lib.hid hk
  clear hk
  generalize hx : lB X X' = bhx at HE
  cases bhx with
  | false =>
    have HX := Lib.hid hx
    have HZ : Hid (false = eqE q C L K X z q' C' L' K' X' z') := Lib.hid (by rw [HE.out]; simp)
    clear hx HE
    go_enter Try.func24, Try.ntmps24
    go_wp2_with fail
    generalize (w.alloc _).alloc _ = W0 at ta tb hb hs ⊢
    have HB0 := Lib.hid hb
    have TA0 := Lib.hid ta
    have TC0 := Lib.hid tb
    have hs0 : w.heap.size + 2 ≤ W0.heap.size := by omega
    clear hb ta tb hs
    refine (Go.Proofs.Ytjnlbhmddhpmaaa.eqst.impl_stores (B := B) (by omega) (by omega) (H.out.below (below_le HB0.out hB)).s (H'.out.below (below_le HB0.out hB)).s (by omega)).mono ?_
    rintro e W1 ⟨rfl, hb⟩
    rw [HR.out]
    have hs1 := hb.size
    have HB1 := Lib.hid (HB0.out.trans (hb.mono HB0.out.size))
    have TA1 := Lib.hid (TA0.out.of_block (hb.block _ (by omega)))
    have TC1 := Lib.hid (TC0.out.of_block (hb.block _ (by omega)))
    clear hb
    obtain ⟨t0, t1, t2, t3, t4, t5⟩ := TA1.out
    obtain ⟨v0, v1, v2, v3, v4, v5⟩ := TC1.out
    go_wp2_with fail
    clear t0 t1 t2 t3 t4 t5 v0 v1 v2 v3 v4 v5
    refine (lib_t (B := B) (by omega) (by omega) (H.out.below (below_le HB1.out hB)).t (H'.out.below (below_le HB1.out hB)).t (by omega)).mono ?_
    rintro e W2 ⟨rfl, hb⟩
    rw [HT.out]
    have hs2 := hb.size
    have HB2 := Lib.hid (HB1.out.trans (hb.mono HB1.out.size))
    have TA2 := Lib.hid (TA1.out.of_block (hb.block _ (by omega)))
    have TC2 := Lib.hid (TC1.out.of_block (hb.block _ (by omega)))
    clear hb
    obtain ⟨t0, t1, t2, t3, t4, t5⟩ := TA2.out
    obtain ⟨v0, v1, v2, v3, v4, v5⟩ := TC2.out
    go_wp2_with fail
    clear t0 t1 t2 t3 t4 t5 v0 v1 v2 v3 v4 v5
    refine (lib_k (B := B) (by omega) (by omega) (H.out.below (below_le HB2.out hB)).k (H'.out.below (below_le HB2.out hB)).k (by omega)).mono ?_
    rintro e W3 ⟨rfl, hb⟩
    rw [HK.out]
    have hs3 := hb.size
    have HB3 := Lib.hid (HB2.out.trans (hb.mono HB2.out.size))
    have TA3 := Lib.hid (TA2.out.of_block (hb.block _ (by omega)))
    have TC3 := Lib.hid (TC2.out.of_block (hb.block _ (by omega)))
    clear hb
    obtain ⟨t0, t1, t2, t3, t4, t5⟩ := TA3.out
    obtain ⟨v0, v1, v2, v3, v4, v5⟩ := TC3.out
    go_wp2_with fail
    clear t0 t1 t2 t3 t4 t5 v0 v1 v2 v3 v4 v5
    refine (lib_x (B := B) (by omega) (by omega) (H.out.below (below_le HB3.out hB)).x (H'.out.below (below_le HB3.out hB)).x (by omega)).mono ?_
    rintro e W4 ⟨rfl, hb⟩
    rw [HX.out]
    have hs4 := hb.size
    have HB4 := Lib.hid (HB3.out.trans (hb.mono HB3.out.size))
    have TA4 := Lib.hid (TA3.out.of_block (hb.block _ (by omega)))
    have TC4 := Lib.hid (TC3.out.of_block (hb.block _ (by omega)))
    clear hb
    obtain ⟨t0, t1, t2, t3, t4, t5⟩ := TA4.out
    obtain ⟨v0, v1, v2, v3, v4, v5⟩ := TC4.out
    go_wp2_with fail
    go_ret
    exact ⟨ret_b HZ.out, HB4.out⟩
  | true =>
  have HX := Lib.hid hx
  clear hx
  have HZ : Hid (true = eqE q C L K X z q' C' L' K' X' z') := Lib.hid (by rw [HE.out]; rfl)
  clear HE
  go_enter Try.func24, Try.ntmps24
  go_wp2_with fail
  generalize (w.alloc _).alloc _ = W0 at ta tb hb hs ⊢
  have HB0 := Lib.hid hb
  have TA0 := Lib.hid ta
  have TC0 := Lib.hid tb
  have hs0 : w.heap.size + 2 ≤ W0.heap.size := by omega
  clear hb ta tb hs
  refine (Go.Proofs.Ytjnlbhmddhpmaaa.eqst.impl_stores (B := B) (by omega) (by omega) (H.out.below (below_le HB0.out hB)).s (H'.out.below (below_le HB0.out hB)).s (by omega)).mono ?_
  rintro e W1 ⟨rfl, hb⟩
  rw [HR.out]
  have hs1 := hb.size
  have HB1 := Lib.hid (HB0.out.trans (hb.mono HB0.out.size))
  have TA1 := Lib.hid (TA0.out.of_block (hb.block _ (by omega)))
  have TC1 := Lib.hid (TC0.out.of_block (hb.block _ (by omega)))
  clear hb
  obtain ⟨t0, t1, t2, t3, t4, t5⟩ := TA1.out
  obtain ⟨v0, v1, v2, v3, v4, v5⟩ := TC1.out
  go_wp2_with fail
  clear t0 t1 t2 t3 t4 t5 v0 v1 v2 v3 v4 v5
  refine (lib_t (B := B) (by omega) (by omega) (H.out.below (below_le HB1.out hB)).t (H'.out.below (below_le HB1.out hB)).t (by omega)).mono ?_
  rintro e W2 ⟨rfl, hb⟩
  rw [HT.out]
  have hs2 := hb.size
  have HB2 := Lib.hid (HB1.out.trans (hb.mono HB1.out.size))
  have TA2 := Lib.hid (TA1.out.of_block (hb.block _ (by omega)))
  have TC2 := Lib.hid (TC1.out.of_block (hb.block _ (by omega)))
  clear hb
  obtain ⟨t0, t1, t2, t3, t4, t5⟩ := TA2.out
  obtain ⟨v0, v1, v2, v3, v4, v5⟩ := TC2.out
  go_wp2_with fail
  clear t0 t1 t2 t3 t4 t5 v0 v1 v2 v3 v4 v5
  refine (lib_k (B := B) (by omega) (by omega) (H.out.below (below_le HB2.out hB)).k (H'.out.below (below_le HB2.out hB)).k (by omega)).mono ?_
  rintro e W3 ⟨rfl, hb⟩
  rw [HK.out]
  have hs3 := hb.size
  have HB3 := Lib.hid (HB2.out.trans (hb.mono HB2.out.size))
  have TA3 := Lib.hid (TA2.out.of_block (hb.block _ (by omega)))
  have TC3 := Lib.hid (TC2.out.of_block (hb.block _ (by omega)))
  clear hb
  obtain ⟨t0, t1, t2, t3, t4, t5⟩ := TA3.out
  obtain ⟨v0, v1, v2, v3, v4, v5⟩ := TC3.out
  go_wp2_with fail
  clear t0 t1 t2 t3 t4 t5 v0 v1 v2 v3 v4 v5
  refine (lib_x (B := B) (by omega) (by omega) (H.out.below (below_le HB3.out hB)).x (H'.out.below (below_le HB3.out hB)).x (by omega)).mono ?_
  rintro e W4 ⟨rfl, hb⟩
  rw [HX.out]
  have hs4 := hb.size
  have HB4 := Lib.hid (HB3.out.trans (hb.mono HB3.out.size))
  have TA4 := Lib.hid (TA3.out.of_block (hb.block _ (by omega)))
  have TC4 := Lib.hid (TC3.out.of_block (hb.block _ (by omega)))
  clear hb
  obtain ⟨t0, t1, t2, t3, t4, t5⟩ := TA4.out
  obtain ⟨v0, v1, v2, v3, v4, v5⟩ := TC4.out
  go_wp2_with fail
  go_ret
  exact ⟨ret_b HZ.out, HB4.out⟩
end Go.Proofs.Ytjnlbhmddhpmaaa.ege
