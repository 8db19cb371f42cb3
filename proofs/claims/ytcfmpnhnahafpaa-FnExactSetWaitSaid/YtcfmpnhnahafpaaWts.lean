/- SetWait of the program and of the model: what each answers, in memory of its own. -/
import Derived.Test.YtcfmpnhnahafpaaWtf
import Derived.Test.YtcfmpnhnahafpaaWti
import Derived.Test.YtcfmpnhnahafpaaLkr
namespace Go.Proofs.Ytcfmpnhnahafpaa.wts
open Go.ChangeShapes Go.WideShapes Go.ChangeAt Go.RowKit
open Go.Proofs.Ytcfmpnhnahafpaa.el2 Go.Proofs.Ytcfmpnhnahafpaa.seq Go.Proofs.Ytcfmpnhnahafpaa.pw Go.Proofs.Ytcfmpnhnahafpaa.mw Go.Proofs.Ytcfmpnhnahafpaa.ap Go.Proofs.Ytcfmpnhnahafpaa.ro Go.Proofs.Ytcfmpnhnahafpaa.wt Go.Proofs.Ytcfmpnhnahafpaa.wta Go.Proofs.Ytcfmpnhnahafpaa.wtf Go.Proofs.Ytcfmpnhnahafpaa.wtd Go.Proofs.Ytcfmpnhnahafpaa.wti
open Go.Proofs.Ytcfmpnhnahafpaa.vers (In in_yes in_no in_of in_off)
open Go.Proofs.Ytcfmpnhnahafpaa.lka (in_q)
open Go.Proofs.Ytcfmpnhnahafpaa.bx (own_more)
open Go.Proofs.Ytcfmpnhnahafpaa.cl (own_empty)
open Go.Proofs.Ytcfmpnhnahafpaa.ao (Vs.take Vs.drop)
open Go.Proofs.Ytcfmpnhnahafpaa.rx (all_step)
set_option linter.unusedVariables false
set_option linter.unusedSimpArgs false
theorem set_bT (l : List E2) (m : E2) : setB l m.a m.b = (wtB l && okT m) := by simp [setB, okT, Bool.and_assoc]
theorem set_badT {l : List E2} {m : E2} (h : wtB l = false ∨ okT m = false) : setB l m.a m.b = false ∧ setL l m.a m.b = l := by
  have e : setB l m.a m.b = false := by rw [set_bT]; rcases h with h | h <;> simp [h]
  exact ⟨e, by unfold setL; rw [e]; exact if_neg fun hh => by cases hh⟩
theorem set_goodT {l : List E2} {m : E2} (hl : wtB l = true) (hm : okT m = true) : setB l m.a m.b = true ∧ setL l m.a m.b = insW m l := by
  have e : setB l m.a m.b = true := by rw [set_bT, hl, hm]; rfl
  exact ⟨e, by unfold setL; rw [e]; exact if_pos rfl⟩
theorem ins_missw {l : List E2} {m : E2} (h : hitW m.a l = false) : insW m l = l.take (posW m.a l) ++ m :: l.drop (posW m.a l) := by
  have := of_decide_eq_false h
  unfold insW
  rw [if_neg this]
theorem ins_hitw {l : List E2} {m : E2} (h : hitW m.a l = true) : posW m.a l < l.length ∧ insW m l = l.set (posW m.a l) m := by
  have h1 := of_decide_eq_true h
  have h2 : posW m.a l < l.length := by
    rcases hg : l[posW m.a l]? with _ | y
    · rw [hg] at h1; cases h1
    · exact lt_get hg
  refine ⟨h2, ?_⟩
  unfold insW
  rw [if_pos h1, List.set_eq_take_append_cons_drop, if_pos h2]
set_option maxRecDepth 100000 in
set_option maxHeartbeats 3200000 in
theorem impl_setm {w : World} {B n c : Nat} {A : Option Addr} {l : List E2} (m : E2) (hn : n ≤ 1048576) (h1 : Vs w B A n l) (hB : B ≤ w.heap.size) :
    Calls Try.prog 11 #[.slice A n c, .int .i64 m.a, .int .i64 m.b] w fun e w' => ∃ A' c', e = .returned (.tuple #[.slice A' (setL l m.a m.b).length c', .bool (setB l m.a m.b)]) ∧ w'.ownsRow w.heap.size 36 2 (.slice A' (setL l m.a m.b).length c') (setL l m.a m.b).length (flat (setL l m.a m.b)) ∧ Below w.heap.size w w' := by
  have H1 := Lib.hid h1
  have HLN := Lib.hid h1.1
  clear h1
  go_enter Try.func11, Try.ntmps11
  go_wp2_with fail
  refine (clone_x (show n ≤ 2097152 by omega) H1.out hB).mono ?_
  rintro e W1 ⟨A', c', rfl, ho, hb⟩
  go_wp2_with fail
  have hn0 := new1 W1 (.cells #[.int .i64 m.a, .int .i64 m.b] 36)
  have hbx := boxed W1 m 36
  have hO2 := own_keep ho hn0
  have hB2 := hb.trans (hn0.mono hb.size)
  have hs2 : W1.heap.size < (W1.alloc (.cells #[.int .i64 m.a, .int .i64 m.b] 36)).heap.size := by simp
  have hs1 := hb.size
  generalize W1.alloc _ = W2 at hbx hO2 hB2 hs2 ⊢
  generalize W1.heap.size = N at hbx hs2 hs1 ⊢
  have HX2 := Lib.hid hbx
  have HO2 := Lib.hid hO2
  have HB2 := Lib.hid hB2
  clear hbx hO2 hB2 hn0 ho hb
  refine (wt_impl (by omega) (H1.out.below (below_le HB2.out hB)) (by omega)).mono ?_
  rintro e W3 ⟨rfl, hb3⟩
  have HB3 := Lib.hid (HB2.out.trans (hb3.mono HB2.out.size))
  have HO3 := Lib.hid (own_keep HO2.out hb3)
  have hX3 := HX2.out.keep hs2 hb3
  have hs3 : N < W3.heap.size := Nat.lt_of_lt_of_le hs2 hb3.size
  have HX3 := Lib.hid hX3
  clear hb3
  rcases hl : wtB l with _ | _
  · have HE := Lib.hid (set_badT (m := m) (.inl hl))
    clear hl hX3
    go_wp2_with fail
    go_ret2
    rw [HE.out.1, HE.out.2, HLN.out]
    exact ⟨_, _, rfl, HO3.out, HB3.out⟩
  have HL := Lib.hid hl
  obtain ⟨z0, z1⟩ := atFlat hX3
  clear hl hX3
  go_wp2_with fail
  refine (valid_k m _).mono ?_
  rintro e W4 ⟨rfl, hb4⟩
  have HB4 := Lib.hid (HB3.out.trans (hb4.mono HB3.out.size))
  have HO4 := Lib.hid (own_keep HO3.out hb4)
  have hX4 := HX3.out.keep hs3 hb4
  have hs4 : N < W4.heap.size := Nat.lt_of_lt_of_le hs3 hb4.size
  have HX4 := Lib.hid hX4
  clear hb4 z0 z1
  rcases hm : okT m with _ | _
  · have HE := Lib.hid (set_badT (l := l) (.inr hm))
    clear hm hX4
    go_wp2_with fail
    go_ret2
    rw [HE.out.1, HE.out.2, HLN.out]
    exact ⟨_, _, rfl, HO4.out, HB4.out⟩
  have HE := Lib.hid (set_goodT HL.out hm)
  clear hm hX4
  obtain ⟨_, _, e9, hV4, _⟩ := own_vs HO4.out HLN.out
  injection e9 with e91 e92 e93
  subst e91 e93
  have HV4 := Lib.hid hV4
  clear e92 hV4
  go_wp2_with fail
  refine (find_w m.a (by omega) HV4.out (Nat.le_refl _) (wt_asc HL.out)).mono ?_
  rintro e W5 ⟨he, hb5⟩
  have HB5 := Lib.hid (HB4.out.trans (hb5.mono HB4.out.size))
  have HO5 := Lib.hid (own_keep HO4.out hb5)
  have hX5 := HX4.out.keep hs4 hb5
  have hs5 : N < W5.heap.size := Nat.lt_of_lt_of_le hs4 hb5.size
  have hw5 : w.heap.size ≤ W5.heap.size := HB5.out.size
  clear hb5
  obtain ⟨z0, z1⟩ := atFlat hX5
  obtain ⟨p, hp⟩ : ∃ p, posW m.a l = p := ⟨_, rfl⟩
  have HP := Lib.hid hp
  have hpn : p ≤ n := by have := posW_le m.a l; rw [hp] at this; have := HLN.out; omega
  rw [hp] at he
  clear hp hX5
  rcases hq : hitW m.a l with _ | _
  · rw [hq] at he
    subst he
    have HI := Lib.hid (ins_missw hq)
    clear hq
    have hn1 := new1 W5 (.cells #[.int .i64 m.a, .int .i64 m.b] 36)
    have hO6 := own_keep HO5.out hn1
    have HB6 := Lib.hid (HB5.out.trans (hn1.mono HB5.out.size))
    have hq6 : (W5.alloc (.cells #[.int .i64 m.a, .int .i64 m.b] 36)).heap[W5.heap.size]? = some (.cells #[.int .i64 m.a, .int .i64 m.b] 36 (0, 0)) := heap_alloc_new W5 _
    have hlt5 : ∀ g, A' = some ⟨g, 0, none⟩ → W5.heap.size ≠ g := fun g hg => by
      have := (HO5.out.lt g (by rw [hg]; rfl)).2
      omega
    have HC := Lib.hid (lib_insw (i := p) (m := m) hO6 (by omega) hpn hq6 hlt5 (by simp; omega))
    have HO6 := Lib.hid hO6
    clear hn1 hO6 hq6 hlt5
    go_wp2_with fail
    refine HC.out.mono ?_
    rintro e W7 ⟨A7, c7, rfl, ho7, hg7⟩
    have HB7 := Lib.hid (HB6.out.trans ((Below.refl w.heap.size _).grown hg7 HB6.out.size fun q hq => (HO6.out.lt q hq).1))
    have HLN7 : Hid ((insW m l).length = n + 1) := Lib.hid (by rw [HI.out, HP.out, List.length_append, List.length_cons, List.length_take, List.length_drop]; have := HLN.out; omega)
    have HO7 := Lib.hid ho7
    clear ho7 hg7 HC
    go_wp2_with fail
    go_ret2
    rw [HE.out.1, HE.out.2, HLN7.out, HI.out, HP.out]
    exact ⟨_, _, rfl, HO7.out, HB7.out⟩
  · rw [hq] at he
    subst he
    obtain ⟨hi1, hi2⟩ := ins_hitw hq
    rw [HP.out] at hi1 hi2
    have HI := Lib.hid hi2
    have hpl : p < n := by have := HLN.out; omega
    clear hq hi1 hi2
    obtain ⟨g, rfl, hbg, hrw, hln, hnc, hcm⟩ := own_capw HO5.out (by omega)
    have HR := Lib.hid hrw
    obtain ⟨u0, q0⟩ := Rw.cells hrw (i := p * 2) (by omega)
    obtain ⟨u1, q1⟩ := Rw.cells hrw (i := p * 2 + 1) (by omega)
    have f0 := Rw.fz hrw (p * 2)
    have f1 := Rw.fz hrw (p * 2 + 1)
    clear hrw
    have hpi : (p : Int) < (n : Int) := by omega
    go_wp2_with fail
    have R6 := Lib.hid (Rw.put HR.out (k := p) (by have := HLN.out; omega) m)
    have O6 := ((Off.refl g W5).setCell (p := ⟨g, p * 2, none⟩) rfl (.int .i64 m.a)).setCell (p := ⟨g, p * 2 + 1, none⟩) rfl (.int .i64 m.b)
    have B6 := Lib.hid (HB5.out.trans (O6.below hbg))
    have HLN6 : Hid ((insW m l).length = n) := Lib.hid (by rw [HI.out, List.length_set]; exact HLN.out)
    clear O6
    go_ret2
    rw [HE.out.1, HE.out.2, HLN6.out, HI.out]
    exact ⟨_, _, rfl, Rw.own' R6.out (by rw [List.length_set]; exact HLN.out) hbg, B6.out⟩
theorem impl_set {w : World} {B n c : Nat} {A : Option Addr} {l : List E2} (i o : Int) (hn : n ≤ 1048576) (h1 : Vs w B A n l) (hB : B ≤ w.heap.size) :
    Calls Try.prog 11 #[.slice A n c, .int .i64 i, .int .i64 o] w fun e w' => ∃ A' c', e = .returned (.tuple #[.slice A' (setL l i o).length c', .bool (setB l i o)]) ∧ w'.ownsRow w.heap.size 36 2 (.slice A' (setL l i o).length c') (setL l i o).length (flat (setL l i o)) ∧ Below w.heap.size w w' := impl_setm ⟨i, o⟩ hn h1 hB
end Go.Proofs.Ytcfmpnhnahafpaa.wts
