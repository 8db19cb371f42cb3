/- FnWaits returns true at every code: the program's waits answer as their model, a set wait has its owner in the chain, a deadlock is a chain that comes back, and a cleared ID is neither waiting nor waited for; nothing that was there is written. No condition. -/
import Derived.Test.YtcfmpnhnahafpaaWtf
import Derived.Test.YtcfmpnhnahafpaaWti
import Derived.Test.YtcfmpnhnahafpaaLkr
import Derived.WalkMore
import Derived.ScopeJumps
import Derived.Test.YtcfmpnhnahafpaaEl2
import Derived.Test.YtcfmpnhnahafpaaDr
import Derived.WalkKit
import Derived.ProofKit
import Derived.OpenShut
import Derived.ShutString
import Derived.ChangeOld
import Derived.Below
import Derived.Carry
import Derived.Lib.Hide
import Derived.StillTailTactics
import Derived.Deep.RegionHeld3
import Derived.Deep.DeepHandedRow
/- SetWait of the program and of the model: what each answers, in memory of its own. -/
namespace Go.Proofs.Ytcfmpnhnahafpaa.wts
open Go.ChangeShapes Go.WideShapes Go.ChangeAt Go.RowKit
open Go.Proofs.Ytcfmpnhnahafpaa.el2 Go.Proofs.Ytcfmpnhnahafpaa.seq Go.Proofs.Ytcfmpnhnahafpaa.pw Go.Proofs.Ytcfmpnhnahafpaa.mw Go.Proofs.Ytcfmpnhnahafpaa.ap Go.Proofs.Ytcfmpnhnahafpaa.ro Go.Proofs.Ytcfmpnhnahafpaa.wt Go.Proofs.Ytcfmpnhnahafpaa.wta Go.Proofs.Ytcfmpnhnahafpaa.wtf Go.Proofs.Ytcfmpnhnahafpaa.wtd Go.Proofs.Ytcfmpnhnahafpaa.wti
open Go.Proofs.Ytcfmpnhnahafpaa.vers (In in_yes in_no in_of in_off)
open Go.Proofs.Ytcfmpnhnahafpaa.lka (in_q)
open Go.Proofs.Ytcfmpnhnahafpaa.bx (own_more)
open Go.Proofs.Ytcfmpnhnahafpaa.cl (own_empty)
open Go.Proofs.Ytcfmpnhnahafpaa.ao (Vs.take Vs.drop)
open Go.Proofs.Ytcfmpnhnahafpaa.rx (all_step)
set_option linter.unusedVariables false
set_option linter.unusedSimpArgs false
theorem set_bT (l : List E2) (m : E2) : setB l m.a m.b = (wtB l && okT m) := by simp [setB, okT, Bool.and_assoc]
theorem set_badT {l : List E2} {m : E2} (h : wtB l = false ∨ okT m = false) : setB l m.a m.b = false ∧ setL l m.a m.b = l := by
  have e : setB l m.a m.b = false := by rw [set_bT]; rcases h with h | h <;> simp [h]
  exact ⟨e, by unfold setL; rw [e]; exact if_neg fun hh => by cases hh⟩
theorem set_goodT {l : List E2} {m : E2} (hl : wtB l = true) (hm : okT m = true) : setB l m.a m.b = true ∧ setL l m.a m.b = insW m l := by
  have e : setB l m.a m.b = true := by rw [set_bT, hl, hm]; rfl
  exact ⟨e, by unfold setL; rw [e]; exact if_pos rfl⟩
theorem ins_missw {l : List E2} {m : E2} (h : hitW m.a l = false) : insW m l = l.take (posW m.a l) ++ m :: l.drop (posW m.a l) := by
  have := of_decide_eq_false h
  unfold insW
  rw [if_neg this]
theorem ins_hitw {l : List E2} {m : E2} (h : hitW m.a l = true) : posW m.a l < l.length ∧ insW m l = l.set (posW m.a l) m := by
  have h1 := of_decide_eq_true h
  have h2 : posW m.a l < l.length := by
    rcases hg : l[posW m.a l]? with _ | y
    · rw [hg] at h1; cases h1
    · exact lt_get hg
  refine ⟨h2, ?_⟩
  unfold insW
  rw [if_pos h1, List.set_eq_take_append_cons_drop, if_pos h2]
set_option maxRecDepth 100000 in
set_option maxHeartbeats 3200000 in
theorem impl_setm {w : World} {B n c : Nat} {A : Option Addr} {l : List E2} (m : E2) (hn : n ≤ 1048576) (h1 : Vs w B A n l) (hB : B ≤ w.heap.size) :
    Calls Try.prog 11 #[.slice A n c, .int .i64 m.a, .int .i64 m.b] w fun e w' => ∃ A' c', e = .returned (.tuple #[.slice A' (setL l m.a m.b).length c', .bool (setB l m.a m.b)]) ∧ w'.ownsRow w.heap.size 36 2 (.slice A' (setL l m.a m.b).length c') (setL l m.a m.b).length (flat (setL l m.a m.b)) ∧ Below w.heap.size w w' := by
  have H1 := Lib.hid h1
  have HLN := Lib.hid h1.1
  clear h1
  go_enter Try.func11, Try.ntmps11
  go_wp2_with fail
  refine (clone_x (show n ≤ 2097152 by omega) H1.out hB).mono ?_
  rintro e W1 ⟨A', c', rfl, ho, hb⟩
  go_wp2_with fail
  have hn0 := new1 W1 (.cells #[.int .i64 m.a, .int .i64 m.b] 36)
  have hbx := boxed W1 m 36
  have hO2 := own_keep ho hn0
  have hB2 := hb.trans (hn0.mono hb.size)
  have hs2 : W1.heap.size < (W1.alloc (.cells #[.int .i64 m.a, .int .i64 m.b] 36)).heap.size := by simp
  have hs1 := hb.size
  generalize W1.alloc _ = W2 at hbx hO2 hB2 hs2 ⊢
  generalize W1.heap.size = N at hbx hs2 hs1 ⊢
  have HX2 := Lib.hid hbx
  have HO2 := Lib.hid hO2
  have HB2 := Lib.hid hB2
  clear hbx hO2 hB2 hn0 ho hb
  refine (wt_impl (by omega) (H1.out.below (below_le HB2.out hB)) (by omega)).mono ?_
  rintro e W3 ⟨rfl, hb3⟩
  have HB3 := Lib.hid (HB2.out.trans (hb3.mono HB2.out.size))
  have HO3 := Lib.hid (own_keep HO2.out hb3)
  have hX3 := HX2.out.keep hs2 hb3
  have hs3 : N < W3.heap.size := Nat.lt_of_lt_of_le hs2 hb3.size
  have HX3 := Lib.hid hX3
  clear hb3
  rcases hl : wtB l with _ | _
  · have HE := Lib.hid (set_badT (m := m) (.inl hl))
    clear hl hX3
    go_wp2_with fail
    go_ret2
    rw [HE.out.1, HE.out.2, HLN.out]
    exact ⟨_, _, rfl, HO3.out, HB3.out⟩
  have HL := Lib.hid hl
  obtain ⟨z0, z1⟩ := atFlat hX3
  clear hl hX3
  go_wp2_with fail
  refine (valid_k m _).mono ?_
  rintro e W4 ⟨rfl, hb4⟩
  have HB4 := Lib.hid (HB3.out.trans (hb4.mono HB3.out.size))
  have HO4 := Lib.hid (own_keep HO3.out hb4)
  have hX4 := HX3.out.keep hs3 hb4
  have hs4 : N < W4.heap.size := Nat.lt_of_lt_of_le hs3 hb4.size
  have HX4 := Lib.hid hX4
  clear hb4 z0 z1
  rcases hm : okT m with _ | _
  · have HE := Lib.hid (set_badT (l := l) (.inr hm))
    clear hm hX4
    go_wp2_with fail
    go_ret2
    rw [HE.out.1, HE.out.2, HLN.out]
    exact ⟨_, _, rfl, HO4.out, HB4.out⟩
  have HE := Lib.hid (set_goodT HL.out hm)
  clear hm hX4
  obtain ⟨_, _, e9, hV4, _⟩ := own_vs HO4.out HLN.out
  injection e9 with e91 e92 e93
  subst e91 e93
  have HV4 := Lib.hid hV4
  clear e92 hV4
  go_wp2_with fail
  refine (find_w m.a (by omega) HV4.out (Nat.le_refl _) (wt_asc HL.out)).mono ?_
  rintro e W5 ⟨he, hb5⟩
  have HB5 := Lib.hid (HB4.out.trans (hb5.mono HB4.out.size))
  have HO5 := Lib.hid (own_keep HO4.out hb5)
  have hX5 := HX4.out.keep hs4 hb5
  have hs5 : N < W5.heap.size := Nat.lt_of_lt_of_le hs4 hb5.size
  have hw5 : w.heap.size ≤ W5.heap.size := HB5.out.size
  clear hb5
  obtain ⟨z0, z1⟩ := atFlat hX5
  obtain ⟨p, hp⟩ : ∃ p, posW m.a l = p := ⟨_, rfl⟩
  have HP := Lib.hid hp
  have hpn : p ≤ n := by have := posW_le m.a l; rw [hp] at this; have := HLN.out; omega
  rw [hp] at he
  clear hp hX5
  rcases hq : hitW m.a l with _ | _
  · rw [hq] at he
    subst he
    have HI := Lib.hid (ins_missw hq)
    clear hq
    have hn1 := new1 W5 (.cells #[.int .i64 m.a, .int .i64 m.b] 36)
    have hO6 := own_keep HO5.out hn1
    have HB6 := Lib.hid (HB5.out.trans (hn1.mono HB5.out.size))
    have hq6 : (W5.alloc (.cells #[.int .i64 m.a, .int .i64 m.b] 36)).heap[W5.heap.size]? = some (.cells #[.int .i64 m.a, .int .i64 m.b] 36 (0, 0)) := heap_alloc_new W5 _
    have hlt5 : ∀ g, A' = some ⟨g, 0, none⟩ → W5.heap.size ≠ g := fun g hg => by
      have := (HO5.out.lt g (by rw [hg]; rfl)).2
      omega
    have HC := Lib.hid (lib_insw (i := p) (m := m) hO6 (by omega) hpn hq6 hlt5 (by simp; omega))
    have HO6 := Lib.hid hO6
    clear hn1 hO6 hq6 hlt5
    go_wp2_with fail
    refine HC.out.mono ?_
    rintro e W7 ⟨A7, c7, rfl, ho7, hg7⟩
    have HB7 := Lib.hid (HB6.out.trans ((Below.refl w.heap.size _).grown hg7 HB6.out.size fun q hq => (HO6.out.lt q hq).1))
    have HLN7 : Hid ((insW m l).length = n + 1) := Lib.hid (by rw [HI.out, HP.out, List.length_append, List.length_cons, List.length_take, List.length_drop]; have := HLN.out; omega)
    have HO7 := Lib.hid ho7
    clear ho7 hg7 HC
    go_wp2_with fail
    go_ret2
    rw [HE.out.1, HE.out.2, HLN7.out, HI.out, HP.out]
    exact ⟨_, _, rfl, HO7.out, HB7.out⟩
  · rw [hq] at he
    subst he
    obtain ⟨hi1, hi2⟩ := ins_hitw hq
    rw [HP.out] at hi1 hi2
    have HI := Lib.hid hi2
    have hpl : p < n := by have := HLN.out; omega
    clear hq hi1 hi2
    obtain ⟨g, rfl, hbg, hrw, hln, hnc, hcm⟩ := own_capw HO5.out (by omega)
    have HR := Lib.hid hrw
    obtain ⟨u0, q0⟩ := Rw.cells hrw (i := p * 2) (by omega)
    obtain ⟨u1, q1⟩ := Rw.cells hrw (i := p * 2 + 1) (by omega)
    have f0 := Rw.fz hrw (p * 2)
    have f1 := Rw.fz hrw (p * 2 + 1)
    clear hrw
    have hpi : (p : Int) < (n : Int) := by omega
    go_wp2_with fail
    have R6 := Lib.hid (Rw.put HR.out (k := p) (by have := HLN.out; omega) m)
    have O6 := ((Off.refl g W5).setCell (p := ⟨g, p * 2, none⟩) rfl (.int .i64 m.a)).setCell (p := ⟨g, p * 2 + 1, none⟩) rfl (.int .i64 m.b)
    have B6 := Lib.hid (HB5.out.trans (O6.below hbg))
    have HLN6 : Hid ((insW m l).length = n) := Lib.hid (by rw [HI.out, List.length_set]; exact HLN.out)
    clear O6
    go_ret2
    rw [HE.out.1, HE.out.2, HLN6.out, HI.out]
    exact ⟨_, _, rfl, Rw.own' R6.out (by rw [List.length_set]; exact HLN.out) hbg, B6.out⟩
theorem impl_set {w : World} {B n c : Nat} {A : Option Addr} {l : List E2} (i o : Int) (hn : n ≤ 1048576) (h1 : Vs w B A n l) (hB : B ≤ w.heap.size) :
    Calls Try.prog 11 #[.slice A n c, .int .i64 i, .int .i64 o] w fun e w' => ∃ A' c', e = .returned (.tuple #[.slice A' (setL l i o).length c', .bool (setB l i o)]) ∧ w'.ownsRow w.heap.size 36 2 (.slice A' (setL l i o).length c') (setL l i o).length (flat (setL l i o)) ∧ Below w.heap.size w w' := impl_setm ⟨i, o⟩ hn h1 hB
end Go.Proofs.Ytcfmpnhnahafpaa.wts
/- SetWait of the model: what it answers, in memory of its own. -/
namespace Go.Proofs.Ytcfmpnhnahafpaa.wtm
open Go.ChangeShapes Go.WideShapes Go.ChangeAt Go.RowKit
open Go.Proofs.Ytcfmpnhnahafpaa.el2 Go.Proofs.Ytcfmpnhnahafpaa.seq Go.Proofs.Ytcfmpnhnahafpaa.pw Go.Proofs.Ytcfmpnhnahafpaa.mw Go.Proofs.Ytcfmpnhnahafpaa.ap Go.Proofs.Ytcfmpnhnahafpaa.ro Go.Proofs.Ytcfmpnhnahafpaa.wt Go.Proofs.Ytcfmpnhnahafpaa.wta Go.Proofs.Ytcfmpnhnahafpaa.wtf Go.Proofs.Ytcfmpnhnahafpaa.wtd Go.Proofs.Ytcfmpnhnahafpaa.wti Go.Proofs.Ytcfmpnhnahafpaa.wts
open Go.Proofs.Ytcfmpnhnahafpaa.vers (In in_yes in_no in_of in_off)
open Go.Proofs.Ytcfmpnhnahafpaa.lka (in_q)
open Go.Proofs.Ytcfmpnhnahafpaa.bx (own_more)
open Go.Proofs.Ytcfmpnhnahafpaa.cl (own_empty)
open Go.Proofs.Ytcfmpnhnahafpaa.ao (Vs.take Vs.drop)
open Go.Proofs.Ytcfmpnhnahafpaa.rx (all_step)
set_option linter.unusedVariables false
set_option linter.unusedSimpArgs false
set_option maxRecDepth 100000 in
set_option maxHeartbeats 6400000 in
theorem spec_setm {w : World} {B n c : Nat} {A : Option Addr} {l : List E2} (m : E2) (hn : n ≤ 1048576) (hc : n ≤ c) (hA : (A = none ∧ c = 0) ∨ ∃ b o, A = some ⟨b, o, none⟩) (h1 : Vs w B A n l) (hB : B ≤ w.heap.size) :
    Calls Try.prog 12 #[.slice A n c, .int .i64 m.a, .int .i64 m.b] w fun e w' => ∃ A' c', e = .returned (.tuple #[.slice A' (setL l m.a m.b).length c', .bool (setB l m.a m.b)]) ∧ w'.ownsRow w.heap.size 36 2 (.slice A' (setL l m.a m.b).length c') (setL l m.a m.b).length (flat (setL l m.a m.b)) ∧ Below w.heap.size w w' := by
  have H1 := Lib.hid h1
  have HLN := Lib.hid h1.1
  have HA := Lib.hid hA
  clear h1 hA
  go_enter Try.func12, Try.ntmps12
  go_wp2_with fail
  refine (wt_spec (by omega) H1.out hB).mono ?_
  rintro e W2 ⟨rfl, hb⟩
  have HB2 := Lib.hid hb
  have hs2 := hb.size
  clear hb
  obtain ⟨AB, cB, WB, hr, hob, _, hbb⟩ := app_x (c := c) (W2.alloc (.cells #[] 36)) (own_empty W2 36 W2.heap.size (Nat.le_refl _)) (H1.out.below (below_le (HB2.out.trans ((new1 W2 (.cells #[] 36)).mono hs2)) hB)) (by omega) (by simp)
  rw [Nat.zero_add, List.nil_append] at hob
  rw [Nat.zero_add] at hr
  have HOB := Lib.hid (own_more hob hs2)
  have HBB := Lib.hid (HB2.out.trans (((new1 W2 (.cells #[] 36)).trans hbb).mono hs2))
  clear hob hbb
  rcases hl : wtB l with _ | _
  · have HE := Lib.hid (set_badT (m := m) (.inl hl))
    clear hl
    go_wp2_with (first | (at_builtin; refine Lib.wpList_append_run _ rfl _ _ 24 24 rfl _ _ rfl rfl _ _ hr ?_) | fail)
    go_ret2
    rw [HE.out.1, HE.out.2, HLN.out]
    exact ⟨_, _, rfl, HOB.out, HBB.out⟩
  have HL := Lib.hid hl
  clear hl
  rcases hk1 : In 1 9 m.a with _ | _
  · have HK1 := Lib.hid hk1
    have HE := Lib.hid (set_badT (l := l) (.inr (okT_a hk1)))
    clear hk1
    go_wp2_with (first | (go_at_call 37; with_reducible refine (in_q HK1.out _).mono ?_; (rintro e w9 ⟨rfl, rfl⟩)) | (at_builtin; refine Lib.wpList_append_run _ rfl _ _ 24 24 rfl _ _ rfl rfl _ _ hr ?_) | fail)
    go_ret2
    rw [HE.out.1, HE.out.2, HLN.out]
    exact ⟨_, _, rfl, HOB.out, HBB.out⟩
  rcases hk2 : In 1 9 m.b with _ | _
  · have HK1 := Lib.hid hk1
    have HK2 := Lib.hid hk2
    have HE := Lib.hid (set_badT (l := l) (.inr (okT_b hk2)))
    clear hk1 hk2
    go_wp2_with (first | (go_at_call 37; with_reducible refine (in_q HK1.out _).mono ?_; (rintro e w9 ⟨rfl, rfl⟩)) | (go_at_call 37; with_reducible refine (in_q HK2.out _).mono ?_; (rintro e w9 ⟨rfl, rfl⟩)) | (at_builtin; refine Lib.wpList_append_run _ rfl _ _ 24 24 rfl _ _ rfl rfl _ _ hr ?_) | fail)
    go_ret2
    rw [HE.out.1, HE.out.2, HLN.out]
    exact ⟨_, _, rfl, HOB.out, HBB.out⟩
  have HK1 := Lib.hid hk1
  have HK2 := Lib.hid hk2
  clear hk1 hk2
  by_cases hab : m.a = m.b
  · have HE := Lib.hid (set_badT (l := l) (.inr (okT_c hab)))
    have t9 : (m.a == m.b) = true := by simpa using hab
    clear hab
    go_wp2_with (first | (go_at_call 37; with_reducible refine (in_q HK1.out _).mono ?_; (rintro e w9 ⟨rfl, rfl⟩)) | (go_at_call 37; with_reducible refine (in_q HK2.out _).mono ?_; (rintro e w9 ⟨rfl, rfl⟩)) | (at_builtin; refine Lib.wpList_append_run _ rfl _ _ 24 24 rfl _ _ rfl rfl _ _ hr ?_) | fail)
    go_ret2
    rw [HE.out.1, HE.out.2, HLN.out]
    exact ⟨_, _, rfl, HOB.out, HBB.out⟩
  have HE := Lib.hid (set_goodT HL.out (okT_yes HK1.out HK2.out hab))
  have t9 : (m.a == m.b) = false := by simpa using hab
  clear hab hr
  go_wp2_with (first | (go_at_call 37; with_reducible refine (in_q HK1.out _).mono ?_; (rintro e w9 ⟨rfl, rfl⟩)) | (go_at_call 37; with_reducible refine (in_q HK2.out _).mono ?_; (rintro e w9 ⟨rfl, rfl⟩)) | fail)
  clear t9
  go_loop [8] (fun i => ∃ k : Nat, k ≤ n ∧ i = .int .i64 k ∧ ∀ (j : Nat) (x : E2), j < k → l[j]? = some x → decide (x.a < m.a) = true) (fun i => n - (intOf i).toNat)
  case atStart => exact ⟨0, by omega, rfl, fun j x h => absurd h (by omega)⟩
  case round =>
    obtain ⟨k, hk, rfl, hP⟩ := hrel
    have HP := Lib.hid hP
    clear hP
    have HV := Lib.hid (H1.out.below (below_le HB2.out hB))
    by_cases hlt : k < n
    · obtain ⟨b, o, y, rfl, hbB, hx, a0, a1⟩ := HV.out.at_ hlt
      have HX := Lib.hid hx
      have hki : (k : Int) < (n : Int) := by omega
      clear hx
      by_cases hq : y.a < m.a
      · have tq : decide (y.a < m.a) = true := decide_eq_true hq
        go_wp2_with fail
        go_round
        case rel => exact ⟨k + 1, by omega, by go_num, all_step (p := fun x => decide (x.a < m.a)) HP.out HX.out tq⟩
        case measure => simp [intOf]; omega
      have tq : decide (y.a < m.a) = false := decide_eq_false hq
      have HPS : Hid (posW m.a l = k) := Lib.hid (posW_is l k HP.out (by have := HLN.out; omega) fun x hx => by rw [HX.out] at hx; injection hx with hx; subst hx; exact hq)
      have hkc : (k : Int) ≤ (c : Int) := by omega
      have hkn : (k : Int) ≤ (n : Int) := by omega
      have hck : ¬ c = k := by omega
      by_cases hya : y.a = m.a
      · have ty : (y.a == m.a) = true := by simpa using hya
        have HI := Lib.hid (insW_hit HPS.out HX.out hya)
        have hk1 : (k : Int) + 1 ≤ (n : Int) := by omega
        have hk2 : (n : Int) ≤ (c : Int) := by omega
        have hk3 : (k : Int) + 1 ≤ (c : Int) := by omega
        have hk0 : (0 : Int) ≤ (k : Int) + 1 := by omega
        have hkt : ((k : Int) + 1).toNat = k + 1 := by omega
        have HLX : Hid ((insW m l).length = k + 1 + (n - (k + 1))) := Lib.hid (by rw [HI.out, List.length_append, List.length_cons, List.length_take, List.length_drop]; have := HLN.out; omega)
        clear hya
        by_cases hcc : c = k + 1
        · obtain rfl : n = k + 1 := by omega
          have hd0 : Hid (l.drop (k + 1) = []) := Lib.hid (List.drop_of_length_le (by have := HLN.out; omega))
          obtain ⟨A3, c3, X1, r1, o1, g1, b1⟩ := app_x (c := c) (W2.alloc (.cells #[] 36)) (own_empty W2 36 W2.heap.size (Nat.le_refl _)) (show Vs (W2.alloc (.cells #[] 36)) B _ _ _ from Vs.take (k := k) (H1.out.below (below_le (HB2.out.trans ((new1 W2 (.cells #[] 36)).mono HB2.out.size)) hB)) (by omega)) (by omega) (by simp)
          rw [Nat.zero_add, List.nil_append] at o1
          rw [Nat.zero_add] at r1
          have bE := new1 W2 (.cells #[] 36)
          have hx1 : W2.heap.size ≤ X1.heap.size := Nat.le_trans bE.size b1.size
          have bM := new1 X1 (.cells #[.int .i64 m.a, .int .i64 m.b] 36)
          have vM := one_vs (boxed X1 m 36)
          obtain ⟨A4, c4, X3, r2, o2, g2, b2⟩ := app_x (c := 1) (X1.alloc (.cells #[.int .i64 m.a, .int .i64 m.b] 36)) (own_keep o1 bM) vM (by omega) (by simp; omega)
          have BX : Below W2.heap.size W2 X3 := ((bE.trans b1).trans (bM.mono hx1)).trans b2
          have vD := Vs.nil_ X3 B (some ⟨b, o, none⟩)
          obtain ⟨A5, c5, X4, r3, o3, g3, b3⟩ := app_x (c := c - (k + 1)) X3 o2 vD (by omega) BX.size
          have FO := Lib.hid (own_more o3 HB2.out.size)
          have FB := Lib.hid (HB2.out.trans ((BX.trans b3).mono HB2.out.size))
          obtain ⟨b', o', y', ee, _, hy2, d0, d1⟩ := (H1.out.below (below_le (HB2.out.trans (BX.mono HB2.out.size)) hB)).at_ hlt
          rw [HX.out] at hy2
          injection hy2 with hy2
          injection ee with ee
          injection ee with ee1 ee2
          subst hy2 ee1 ee2
          clear o1 g1 b1 bE bM vM o2 g2 b2 BX vD o3 g3 b3
          go_wp2_with (first | (at_builtin; refine Lib.wpList_append_run _ rfl _ _ 24 24 rfl _ _ rfl rfl _ _ r1 ?_; clear r1) | (at_builtin; refine Lib.wpList_append_run _ rfl _ _ 24 24 rfl _ _ rfl rfl _ _ r2 ?_; clear r2) | (at_builtin; refine Lib.wpList_append_run _ rfl _ _ 24 24 rfl _ _ rfl rfl _ _ r3 ?_; clear r3) | fail)
          go_ret2
          rw [HE.out.1, HE.out.2, HLX.out, HI.out]
          rw [hd0.out, Nat.sub_self]
          exact ⟨_, _, rfl, by have := FO.out; rw [app_snoc] at this; exact this, FB.out⟩
        · obtain ⟨A3, c3, X1, r1, o1, g1, b1⟩ := app_x (c := c) (W2.alloc (.cells #[] 36)) (own_empty W2 36 W2.heap.size (Nat.le_refl _)) (show Vs (W2.alloc (.cells #[] 36)) B _ _ _ from Vs.take (k := k) (H1.out.below (below_le (HB2.out.trans ((new1 W2 (.cells #[] 36)).mono HB2.out.size)) hB)) (by omega)) (by omega) (by simp)
          rw [Nat.zero_add, List.nil_append] at o1
          rw [Nat.zero_add] at r1
          have bE := new1 W2 (.cells #[] 36)
          have hx1 : W2.heap.size ≤ X1.heap.size := Nat.le_trans bE.size b1.size
          have bM := new1 X1 (.cells #[.int .i64 m.a, .int .i64 m.b] 36)
          have vM := one_vs (boxed X1 m 36)
          obtain ⟨A4, c4, X3, r2, o2, g2, b2⟩ := app_x (c := 1) (X1.alloc (.cells #[.int .i64 m.a, .int .i64 m.b] 36)) (own_keep o1 bM) vM (by omega) (by simp; omega)
          have BX : Below W2.heap.size W2 X3 := ((bE.trans b1).trans (bM.mono hx1)).trans b2
          have vD := Vs.drop (k := k + 1) (H1.out.below (below_le (HB2.out.trans (BX.mono HB2.out.size)) hB)) (by omega)
          obtain ⟨A5, c5, X4, r3, o3, g3, b3⟩ := app_x (c := c - (k + 1)) X3 o2 vD (by omega) BX.size
          have FO := Lib.hid (own_more o3 HB2.out.size)
          have FB := Lib.hid (HB2.out.trans ((BX.trans b3).mono HB2.out.size))
          obtain ⟨b', o', y', ee, _, hy2, d0, d1⟩ := (H1.out.below (below_le (HB2.out.trans (BX.mono HB2.out.size)) hB)).at_ hlt
          rw [HX.out] at hy2
          injection hy2 with hy2
          injection ee with ee
          injection ee with ee1 ee2
          subst hy2 ee1 ee2
          clear o1 g1 b1 bE bM vM o2 g2 b2 BX vD o3 g3 b3
          go_wp2_with (first | (at_builtin; refine Lib.wpList_append_run _ rfl _ _ 24 24 rfl _ _ rfl rfl _ _ r1 ?_; clear r1) | (at_builtin; refine Lib.wpList_append_run _ rfl _ _ 24 24 rfl _ _ rfl rfl _ _ r2 ?_; clear r2) | (at_builtin; refine Lib.wpList_append_run _ rfl _ _ 24 24 rfl _ _ rfl rfl _ _ r3 ?_; clear r3) | fail)
          go_ret2
          rw [HE.out.1, HE.out.2, HLX.out, HI.out]
          exact ⟨_, _, rfl, by have := FO.out; rw [app_snoc] at this; exact this, FB.out⟩
      · have ty : (y.a == m.a) = false := by simpa using hya
        have HI := Lib.hid (insW_miss HPS.out HX.out hya)
        have HLX : Hid ((insW m l).length = k + 1 + (n - k)) := Lib.hid (by rw [HI.out, List.length_append, List.length_cons, List.length_take, List.length_drop]; have := HLN.out; omega)
        clear hya
        obtain ⟨A3, c3, X1, r1, o1, g1, b1⟩ := app_x (c := c) (W2.alloc (.cells #[] 36)) (own_empty W2 36 W2.heap.size (Nat.le_refl _)) (show Vs (W2.alloc (.cells #[] 36)) B _ _ _ from Vs.take (k := k) (H1.out.below (below_le (HB2.out.trans ((new1 W2 (.cells #[] 36)).mono HB2.out.size)) hB)) (by omega)) (by omega) (by simp)
        rw [Nat.zero_add, List.nil_append] at o1
        rw [Nat.zero_add] at r1
        have bE := new1 W2 (.cells #[] 36)
        have hx1 : W2.heap.size ≤ X1.heap.size := Nat.le_trans bE.size b1.size
        have bM := new1 X1 (.cells #[.int .i64 m.a, .int .i64 m.b] 36)
        have vM := one_vs (boxed X1 m 36)
        obtain ⟨A4, c4, X3, r2, o2, g2, b2⟩ := app_x (c := 1) (X1.alloc (.cells #[.int .i64 m.a, .int .i64 m.b] 36)) (own_keep o1 bM) vM (by omega) (by simp; omega)
        have BX : Below W2.heap.size W2 X3 := ((bE.trans b1).trans (bM.mono hx1)).trans b2
        have vD := Vs.drop (k := k) (H1.out.below (below_le (HB2.out.trans (BX.mono HB2.out.size)) hB)) (by omega)
        obtain ⟨A5, c5, X4, r3, o3, g3, b3⟩ := app_x (c := c - k) X3 o2 vD (by omega) BX.size
        have FO := Lib.hid (own_more o3 HB2.out.size)
        have FB := Lib.hid (HB2.out.trans ((BX.trans b3).mono HB2.out.size))
        obtain ⟨b', o', y', ee, _, hy2, d0, d1⟩ := (H1.out.below (below_le (HB2.out.trans (BX.mono HB2.out.size)) hB)).at_ hlt
        rw [HX.out] at hy2
        injection hy2 with hy2
        injection ee with ee
        injection ee with ee1 ee2
        subst hy2 ee1 ee2
        clear o1 g1 b1 bE bM vM o2 g2 b2 BX vD o3 g3 b3
        go_wp2_with (first | (at_builtin; refine Lib.wpList_append_run _ rfl _ _ 24 24 rfl _ _ rfl rfl _ _ r1 ?_; clear r1) | (at_builtin; refine Lib.wpList_append_run _ rfl _ _ 24 24 rfl _ _ rfl rfl _ _ r2 ?_; clear r2) | (at_builtin; refine Lib.wpList_append_run _ rfl _ _ 24 24 rfl _ _ rfl rfl _ _ r3 ?_; clear r3) | fail)
        go_ret2
        rw [HE.out.1, HE.out.2, HLX.out, HI.out]
        exact ⟨_, _, rfl, by have := FO.out; rw [app_snoc] at this; exact this, FB.out⟩
    · obtain rfl : n = k := by omega
      have hki : ¬ (n : Int) < (n : Int) := by omega
      have HPS : Hid (posW m.a l = n) := Lib.hid (posW_is l n HP.out (by have := HLN.out; omega) fun x hx => by rw [List.getElem?_eq_none (by have := HLN.out; omega)] at hx; cases hx)
      have HI := Lib.hid (insW_end HPS.out (by have := HLN.out; omega))
      have HLX : Hid ((insW m l).length = n + 1 + 0) := Lib.hid (by rw [HI.out, List.length_append, List.length_cons, List.length_nil, List.length_take]; have := HLN.out; omega)
      have hkc : (n : Int) ≤ (c : Int) := by omega
      have hnn : (n : Int) ≤ (n : Int) := Int.le_refl _
      rcases HA.out with ⟨rfl, hc0⟩ | ⟨ab, ao, rfl⟩
      · subst hc0
        obtain rfl : n = 0 := by omega
        obtain ⟨A3, c3, X1, r1, o1, g1, b1⟩ := app_x (c := 0) (W2.alloc (.cells #[] 36)) (own_empty W2 36 W2.heap.size (Nat.le_refl _)) (show Vs (W2.alloc (.cells #[] 36)) B _ _ _ from Vs.take (k := 0) (H1.out.below (below_le (HB2.out.trans ((new1 W2 (.cells #[] 36)).mono HB2.out.size)) hB)) (by omega)) (by omega) (by simp)
        rw [Nat.zero_add, List.nil_append] at o1
        rw [Nat.zero_add] at r1
        have bE := new1 W2 (.cells #[] 36)
        have hx1 : W2.heap.size ≤ X1.heap.size := Nat.le_trans bE.size b1.size
        have bM := new1 X1 (.cells #[.int .i64 m.a, .int .i64 m.b] 36)
        have vM := one_vs (boxed X1 m 36)
        obtain ⟨A4, c4, X3, r2, o2, g2, b2⟩ := app_x (c := 1) (X1.alloc (.cells #[.int .i64 m.a, .int .i64 m.b] 36)) (own_keep o1 bM) vM (by omega) (by simp; omega)
        have BX : Below W2.heap.size W2 X3 := ((bE.trans b1).trans (bM.mono hx1)).trans b2
        have vD := Vs.nil_ X3 B none
        obtain ⟨A5, c5, X4, r3, o3, g3, b3⟩ := app_x (c := 0) X3 o2 vD (by omega) BX.size
        have FO := Lib.hid (own_more o3 HB2.out.size)
        have FB := Lib.hid (HB2.out.trans ((BX.trans b3).mono HB2.out.size))
        clear o1 g1 b1 bE bM vM o2 g2 b2 BX vD o3 g3 b3
        go_wp2_with (first | (at_builtin; refine Lib.wpList_append_run _ rfl _ _ 24 24 rfl _ _ rfl rfl _ _ r1 ?_; clear r1) | (at_builtin; refine Lib.wpList_append_run _ rfl _ _ 24 24 rfl _ _ rfl rfl _ _ r2 ?_; clear r2) | (at_builtin; refine Lib.wpList_append_run _ rfl _ _ 24 24 rfl _ _ rfl rfl _ _ r3 ?_; clear r3) | fail)
        go_ret2
        rw [HE.out.1, HE.out.2, HLX.out, HI.out]
        exact ⟨_, _, rfl, by have := FO.out; rw [app_snoc] at this; exact this, FB.out⟩
      · by_cases hcn : c = n
        · subst hcn
          obtain ⟨A3, c3, X1, r1, o1, g1, b1⟩ := app_x (c := c) (W2.alloc (.cells #[] 36)) (own_empty W2 36 W2.heap.size (Nat.le_refl _)) (show Vs (W2.alloc (.cells #[] 36)) B _ _ _ from Vs.take (k := c) (H1.out.below (below_le (HB2.out.trans ((new1 W2 (.cells #[] 36)).mono HB2.out.size)) hB)) (by omega)) (by omega) (by simp)
          rw [Nat.zero_add, List.nil_append] at o1
          rw [Nat.zero_add] at r1
          have bE := new1 W2 (.cells #[] 36)
          have hx1 : W2.heap.size ≤ X1.heap.size := Nat.le_trans bE.size b1.size
          have bM := new1 X1 (.cells #[.int .i64 m.a, .int .i64 m.b] 36)
          have vM := one_vs (boxed X1 m 36)
          obtain ⟨A4, c4, X3, r2, o2, g2, b2⟩ := app_x (c := 1) (X1.alloc (.cells #[.int .i64 m.a, .int .i64 m.b] 36)) (own_keep o1 bM) vM (by omega) (by simp; omega)
          have BX : Below W2.heap.size W2 X3 := ((bE.trans b1).trans (bM.mono hx1)).trans b2
          have vD := Vs.nil_ X3 B (some ⟨ab, ao, none⟩)
          obtain ⟨A5, c5, X4, r3, o3, g3, b3⟩ := app_x (c := c - c) X3 o2 vD (by omega) BX.size
          have FO := Lib.hid (own_more o3 HB2.out.size)
          have FB := Lib.hid (HB2.out.trans ((BX.trans b3).mono HB2.out.size))
          clear o1 g1 b1 bE bM vM o2 g2 b2 BX vD o3 g3 b3
          rw [Nat.sub_self] at r3
          go_wp2_with (first | (at_builtin; refine Lib.wpList_append_run _ rfl _ _ 24 24 rfl _ _ rfl rfl _ _ r1 ?_; clear r1) | (at_builtin; refine Lib.wpList_append_run _ rfl _ _ 24 24 rfl _ _ rfl rfl _ _ r2 ?_; clear r2) | (at_builtin; refine Lib.wpList_append_run _ rfl _ _ 24 24 rfl _ _ rfl rfl _ _ r3 ?_; clear r3) | fail)
          go_ret2
          rw [HE.out.1, HE.out.2, HLX.out, HI.out]
          exact ⟨_, _, rfl, by have := FO.out; rw [app_snoc] at this; exact this, FB.out⟩
        · obtain ⟨A3, c3, X1, r1, o1, g1, b1⟩ := app_x (c := c) (W2.alloc (.cells #[] 36)) (own_empty W2 36 W2.heap.size (Nat.le_refl _)) (show Vs (W2.alloc (.cells #[] 36)) B _ _ _ from Vs.take (k := n) (H1.out.below (below_le (HB2.out.trans ((new1 W2 (.cells #[] 36)).mono HB2.out.size)) hB)) (by omega)) (by omega) (by simp)
          rw [Nat.zero_add, List.nil_append] at o1
          rw [Nat.zero_add] at r1
          have bE := new1 W2 (.cells #[] 36)
          have hx1 : W2.heap.size ≤ X1.heap.size := Nat.le_trans bE.size b1.size
          have bM := new1 X1 (.cells #[.int .i64 m.a, .int .i64 m.b] 36)
          have vM := one_vs (boxed X1 m 36)
          obtain ⟨A4, c4, X3, r2, o2, g2, b2⟩ := app_x (c := 1) (X1.alloc (.cells #[.int .i64 m.a, .int .i64 m.b] 36)) (own_keep o1 bM) vM (by omega) (by simp; omega)
          have BX : Below W2.heap.size W2 X3 := ((bE.trans b1).trans (bM.mono hx1)).trans b2
          have vD := Vs.nil_ X3 B (some ⟨ab, ao + n * 2, none⟩)
          obtain ⟨A5, c5, X4, r3, o3, g3, b3⟩ := app_x (c := c - n) X3 o2 vD (by omega) BX.size
          have FO := Lib.hid (own_more o3 HB2.out.size)
          have FB := Lib.hid (HB2.out.trans ((BX.trans b3).mono HB2.out.size))
          clear o1 g1 b1 bE bM vM o2 g2 b2 BX vD o3 g3 b3
          go_wp2_with (first | (at_builtin; refine Lib.wpList_append_run _ rfl _ _ 24 24 rfl _ _ rfl rfl _ _ r1 ?_; clear r1) | (at_builtin; refine Lib.wpList_append_run _ rfl _ _ 24 24 rfl _ _ rfl rfl _ _ r2 ?_; clear r2) | (at_builtin; refine Lib.wpList_append_run _ rfl _ _ 24 24 rfl _ _ rfl rfl _ _ r3 ?_; clear r3) | fail)
          go_ret2
          rw [HE.out.1, HE.out.2, HLX.out, HI.out]
          exact ⟨_, _, rfl, by have := FO.out; rw [app_snoc] at this; exact this, FB.out⟩
theorem spec_set {w : World} {B n c : Nat} {A : Option Addr} {l : List E2} (i o : Int) (hn : n ≤ 1048576) (hc : n ≤ c) (hA : (A = none ∧ c = 0) ∨ ∃ b o, A = some ⟨b, o, none⟩) (h1 : Vs w B A n l) (hB : B ≤ w.heap.size) :
    Calls Try.prog 12 #[.slice A n c, .int .i64 i, .int .i64 o] w fun e w' => ∃ A' c', e = .returned (.tuple #[.slice A' (setL l i o).length c', .bool (setB l i o)]) ∧ w'.ownsRow w.heap.size 36 2 (.slice A' (setL l i o).length c') (setL l i o).length (flat (setL l i o)) ∧ Below w.heap.size w w' := spec_setm ⟨i, o⟩ hn hc hA h1 hB
end Go.Proofs.Ytcfmpnhnahafpaa.wtm
/- WaitChain of the program and of the model: what each answers, in memory of its own; slices.Contains at integers. -/
namespace Go.Proofs.Ytcfmpnhnahafpaa.wtc
open Go.ChangeShapes Go.WideShapes Go.ChangeAt Go.RowKit
open Go.Proofs.Ytcfmpnhnahafpaa.el2 Go.Proofs.Ytcfmpnhnahafpaa.seq Go.Proofs.Ytcfmpnhnahafpaa.pw Go.Proofs.Ytcfmpnhnahafpaa.mw Go.Proofs.Ytcfmpnhnahafpaa.ints Go.Proofs.Ytcfmpnhnahafpaa.owi Go.Proofs.Ytcfmpnhnahafpaa.wt Go.Proofs.Ytcfmpnhnahafpaa.wta Go.Proofs.Ytcfmpnhnahafpaa.wtf
open Go.Proofs.Ytcfmpnhnahafpaa.vers (In in_yes in_no in_of in_off ret_b)
open Go.Proofs.Ytcfmpnhnahafpaa.lk (ownI own_none own_mem)
open Go.Proofs.Ytcfmpnhnahafpaa.lka (in_q is_id id_q)
open Go.Proofs.Ytcfmpnhnahafpaa.lkr (own_hit own_step own_end)
open Go.Proofs.Ytcfmpnhnahafpaa.wk (own_made0 grown_i)
open Go.Proofs.Ytcfmpnhnahafpaa.bx (own_more)
set_option linter.unusedVariables false
set_option linter.unusedSimpArgs false
theorem ret_i {a b : Int} (h : a = b) : Ending.returned (.int .i64 a) = .returned (.int .i64 b) := by rw [h]
/-! what the search of a wait says of the chain -/
theorem hit_own {l : List E2} {x : Int} (hl : wtB l = true) (h : hitW x l = true) : ∃ y, l[posW x l]? = some y ∧ y.b = ownI x l ∧ 1 ≤ y.b ∧ y.b ≤ 9 := by
  have h1 := of_decide_eq_true h
  rcases hg : l[posW x l]? with _ | y
  · rw [hg] at h1; cases h1
  · rw [hg] at h1
    have e : y.a = x := by simpa using h1
    have hm := List.mem_of_getElem? hg
    refine ⟨y, rfl, ?_, (wt_ok hl hm).2.1⟩
    rw [← e, own_mem (wt_asc hl) hm]
theorem hit_none {l : List E2} {x : Int} (hl : wtB l = true) (h : hitW x l = false) : ownI x l = 0 := own_none fun y hy e => by
  have h1 := of_decide_eq_false h
  have hp : posW x l ≤ l.length := posW_le x l
  have hge := @posW_ge x l (wt_asc hl)
  have hlt := @posW_lt x l
  rw [← List.take_append_drop (posW x l) l] at hy
  rcases List.mem_append.1 hy with hy | hy
  · have := hlt hy; omega
  · obtain ⟨z, r, hz⟩ : ∃ z r, l.drop (posW x l) = z :: r := by
      cases hd : l.drop (posW x l) with
      | nil => rw [hd] at hy; cases hy
      | cons z r => exact ⟨z, r, rfl⟩
    have hg : l[posW x l]? = some z := by
      have : (l.drop (posW x l))[0]? = some z := by rw [hz]; rfl
      rw [List.getElem?_drop] at this
      simpa using this
    have hza : z.a ≠ x := fun e2 => h1 (by rw [hg]; simp [e2])
    have hzge := hge (x := z) (by rw [hz]; simp)
    have hasc : Asc (l.drop (posW x l)) := List.Pairwise.sublist (List.drop_sublist _ _) (wt_asc hl)
    rw [hz] at hasc hy
    rcases List.mem_cons.1 hy with e2 | hy
    · exact hza (by rw [← e2]; exact e)
    · have := (List.pairwise_cons.1 hasc).1 y hy
      omega
theorem is_own {w : World} {base n c : Nat} {A : Option Addr} {xs : List Int} (h : w.ownsRow base 3 1 (.slice A n c) n (mi xs)) (hl : xs.length = n) (hb : base ≤ w.heap.size) : Is w w.heap.size A n xs :=
  (OwI.of_own (lo := base) (hi := w.heap.size) h hl (Nat.le_refl _) (Nat.le_refl _)).is (Nat.le_refl _)
/-! slices.Contains -/
set_option maxRecDepth 100000 in
set_option maxHeartbeats 1600000 in
theorem lib_idx {w : World} {B n c : Nat} {A : Option Addr} {xs : List Int} (x : Int) (hn : n ≤ 1048576) (h : Is w B A n xs) :
    Calls Try.prog 51 #[.slice A n c, .int .i64 x] w fun e w' => (∃ z : Int, e = .returned (.int .i64 z) ∧ (0 ≤ z ↔ x ∈ xs)) ∧ w = w' := by
  have H := Lib.hid h
  have hln := h.1
  clear h
  go_enter Try.func51, Try.ntmps51
  go_wp2_with fail
  go_loop [5, 8] (fun _ i => ∃ k : Nat, k ≤ n ∧ i = .int .i64 k ∧ ∀ (j : Nat) (y : Int), j < k → xs[j]? = some y → y ≠ x) (fun _ i => n - (intOf i).toNat)
  case atStart => exact ⟨0, by omega, rfl, fun j y h => absurd h (by omega)⟩
  case round =>
    obtain ⟨k, hk, rfl, hP⟩ := hrel
    have HP := Lib.hid hP
    clear hP
    by_cases hlt : k < n
    · obtain ⟨b, o, y, rfl, hbB, hy, a0⟩ := H.out.at_ hlt
      have HY := Lib.hid hy
      clear hy
      by_cases hc : x = y
      · have t : (x == y) = true := by simpa using hc
        have HC := Lib.hid hc
        clear hc
        go_wp2_with fail
        go_ret
        exact ⟨⟨k, rfl, ⟨fun _ => by rw [HC.out]; exact List.mem_of_getElem? HY.out, fun _ => by omega⟩⟩, rfl⟩
      · have t : (x == y) = false := by simpa using hc
        have HC := Lib.hid hc
        clear hc
        go_wp2_with fail
        go_round
        case rel => exact ⟨k + 1, by omega, by go_num, fun j z hj hz => by
          rcases Nat.lt_or_ge j k with h9 | h9
          · exact HP.out j z h9 hz
          · obtain rfl : j = k := by omega
            rw [HY.out] at hz
            injection hz with hz
            subst hz
            exact fun e => HC.out e.symm⟩
        case measure => simp [intOf]; omega
    · go_wp2_with fail
      go_ret
      exact ⟨⟨-1, rfl, ⟨fun h => absurd h (by omega), fun hm => by
        obtain ⟨j, hj, e⟩ := List.getElem_of_mem hm
        exact absurd e (HP.out j _ (by omega) (List.getElem?_eq_getElem hj))⟩⟩, rfl⟩
theorem contains_i {w : World} {B n c : Nat} {A : Option Addr} {xs : List Int} (x : Int) (hn : n ≤ 1048576) (h : Is w B A n xs) :
    Calls Try.prog 39 #[.slice A n c, .int .i64 x] w fun e w' => e = .returned (.bool (decide (x ∈ xs))) ∧ w = w' := by
  have HF := Lib.hid (lib_idx (c := c) x hn h)
  clear h
  go_enter Try.func39, Try.ntmps39
  go_wp2_with fail
  refine HF.out.mono ?_
  rintro e W1 ⟨⟨z, rfl, hz⟩, rfl⟩
  have HZ := Lib.hid hz
  clear hz
  go_wp2_with fail
  go_ret
  exact ⟨ret_b (decide_eq_decide.2 HZ.out), rfl⟩
/-! the model's look-up -/
set_option maxRecDepth 100000 in
set_option maxHeartbeats 1600000 in
theorem for_w {w : World} {B n c : Nat} {A : Option Addr} {l : List E2} (key : Int) (hn : n ≤ 140737488355328) (h1 : Vs w B A n l) (hB : B ≤ w.heap.size) :
    Calls Try.prog 40 #[.slice A n c, .int .i64 key] w fun e w' => e = .returned (.int .i64 (ownI key l)) ∧ w = w' := by
  have H1 := Lib.hid h1
  have hln := h1.1
  clear h1
  go_enter Try.func40, Try.ntmps40
  go_wp2
  go_loop [5] (fun i => ∃ k : Nat, k ≤ n ∧ i = .int .i64 k ∧ ownI key l = ownI key (l.drop k)) (fun i => n - (intOf i).toNat)
  case atStart => exact ⟨0, by omega, rfl, rfl⟩
  case round =>
    obtain ⟨k, hk, rfl, hP⟩ := hrel
    have HP := Lib.hid hP
    clear hP
    by_cases hlt : k < n
    · obtain ⟨b, o, y, rfl, hbB, hx, a0, a1⟩ := H1.out.at_ hlt
      have HX := Lib.hid hx
      clear hx
      by_cases hc : y.a = key
      · have t : (y.a == key) = true := by simpa using hc
        have HC := Lib.hid hc
        clear hc
        go_wp2_with fail
        go_ret
        exact ⟨ret_i (own_hit HP.out HX.out HC.out), rfl⟩
      · have t : (y.a == key) = false := by simpa using hc
        have HC := Lib.hid hc
        clear hc
        go_wp2_with fail
        go_round
        case rel => exact ⟨k + 1, by omega, by go_num, own_step HP.out HX.out HC.out⟩
        case measure => simp [intOf]; omega
    · go_wp2_with fail
      go_ret
      exact ⟨ret_i (own_end HP.out (by omega)), rfl⟩
/-! the chain -/
theorem chw_bad {l : List E2} {i : Int} (h : wtB l = false ∨ In 1 9 i = false) : chL l i = [] := by
  unfold chL
  split
  · rename_i h2
    rcases h with h | h
    · rw [h] at h2; cases h2
    · have := in_no h
      unfold chF
      exact if_neg (by omega)
  · rfl
/-- a scope with one label: what holds at the label, and the rest from there on -/
theorem scope_label {P : Program} {a : Act} {w : World} {Q : Exit → Act → World → Prop} {c rest : Code} (l : Nat) (J : Act → World → Prop) (μ : Act → World → Nat) (hf : findLabel c l = some (Code.seq Code.skip rest))
    (pass : ∀ a w, J a w → rest.wp P (Exit.jump l (fun a' w' => J a' w' ∧ μ a' w' < μ a w) Q) a w)
    (first : (∀ a w, J a w → rest.wp P (Exit.jump l J Q) a w) → c.wp P (Exit.jump l J Q) a w) : (Code.scope c).wp P Q a w :=
  wp_scope_jumps l J μ hf (first fun a w h => wp_mono (pass a w h) (fun e a w hq => by
    cases e with
    | goto l' => exact ⟨hq.1, hq.2.1⟩
    | _ => exact hq)) (fun a w h => wp_seq (wp_skip (pass a w h)))
def lenOf : Value → Nat | .slice _ n _ => n | _ => 0
/-- what holds at the label -/
def JW (A : Option Addr) (n c : Nat) (l : List E2) (i : Int) (w : World) : Act → World → Prop := fun a' w' => ∃ (out : List Int) (m : Nat) (x : Int) (A5 : Option Addr) (c5 : Nat) (u2 u3 u6 u7 u8 u9 u10 u11 u12 u13 u14 u15 u16 u17 u18 u19 u20 u21 u22 u23 u24 u25 u26 u27 u28 u29 u30 u31 u32 u33 u34 u35 u36 u37 u38 : Value), a' = { tmps := #[.slice A n c, .int .i64 x, u2, u3, .slice none 0 0, .slice A5 m c5, u6, u7, u8, u9, u10, u11, u12, u13, u14, u15, u16, u17, u18, u19, u20, u21, u22, u23, u24, u25, u26, u27, u28, u29, u30, u31, u32, u33, u34, u35, u36, u37, u38], defers := [] } ∧ out.length = m ∧ Ch l i out x ∧ (1 ≤ x ∧ x ≤ 9) ∧ w'.ownsRow w.heap.size 3 1 (.slice A5 m c5) m (mi out) ∧ Below w.heap.size w w'
set_option maxRecDepth 100000 in
set_option maxHeartbeats 3200000 in
theorem impl_wc {w : World} {B n c : Nat} {A : Option Addr} {l : List E2} (i : Int) (hn : n ≤ 1048576) (h1 : Vs w B A n l) (hB : B ≤ w.heap.size) :
    Calls Try.prog 17 #[.slice A n c, .int .i64 i] w fun e w' => ∃ A' c', e = .returned (.slice A' (chL l i).length c') ∧ w'.ownsRow w.heap.size 3 1 (.slice A' (chL l i).length c') (chL l i).length (mi (chL l i)) ∧ Below w.heap.size w w' := by
  have H1 := Lib.hid h1
  clear h1
  obtain ⟨i0, hi, hz, hs, hby⟩ := info_parts info_i
  have HI := Lib.hid hi
  have HZ := Lib.hid hz
  have HS := Lib.hid hs
  have HBY := Lib.hid hby
  clear hi hz hs hby
  rcases hl : wtB l with _ | _
  · have HE := Lib.hid (chw_bad (i := i) (.inl hl))
    have HL := Lib.hid hl
    clear hl
    go_enter Try.func17, Try.ntmps17
    go_wp2_with fail
    go_step3
    go_wp2_with fail
    refine (wt_impl (by omega) H1.out hB).mono ?_
    rintro e W1 ⟨he, hb⟩
    rw [HL.out] at he
    subst he
    have HB := Lib.hid hb
    clear hb
    go_wp2_with fail
    try rw [Exit.noGoto_ret]
    go_ret
    rw [HE.out]
    exact ⟨none, 0, rfl, by simpa using World.ownsRow_nil _ _ _ _, HB.out⟩
  have HL := Lib.hid hl
  clear hl
  rcases hid : In 1 9 i with _ | _
  · have HE := Lib.hid (chw_bad (l := l) (.inr hid))
    have HK1 := Lib.hid hid
    clear hid
    go_enter Try.func17, Try.ntmps17
    go_wp2_with fail
    go_step3
    go_wp2_with fail
    refine (wt_impl (by omega) H1.out hB).mono ?_
    rintro e W1 ⟨he, hb⟩
    rw [HL.out] at he
    subst he
    have HB := Lib.hid hb
    clear hb
    go_wp2_with fail
    refine (id_q HK1.out _).mono ?_
    rintro e W2 ⟨rfl, rfl⟩
    go_wp2_with fail
    try rw [Exit.noGoto_ret]
    go_ret
    rw [HE.out]
    exact ⟨none, 0, rfl, by simpa using World.ownsRow_nil _ _ _ _, HB.out⟩
  have HK1 := Lib.hid hid
  clear hid
  go_enter Try.func17, Try.ntmps17
  go_wp2_with fail
  refine scope_label 0 (JW A n c l i w) (fun a' _ => 10 - lenOf (a'.tmps.getD 5 undef)) rfl ?_ ?_
  · rintro a' w' ⟨out, m, x, A5, c5, u2, u3, u6, u7, u8, u9, u10, u11, u12, u13, u14, u15, u16, u17, u18, u19, u20, u21, u22, u23, u24, u25, u26, u27, u28, u29, u30, u31, u32, u33, u34, u35, u36, u37, u38, rfl, hm, hC, hx, ho, hb⟩
    have hm9 : m ≤ 9 := by rw [← hm]; exact hC.len
    have HM := Lib.hid hm
    have HC := Lib.hid hC
    have HO := Lib.hid ho
    have HB := Lib.hid hb
    have HX := Lib.hid hx
    clear hm hC ho hb hx
    go_wp2_with fail
    refine (contains_i x (by omega) (is_own HO.out HM.out HB.out.size)).mono ?_
    rintro e W1 ⟨he, rfl⟩
    have hsz := HB.out.size
    have hn1 := new1 w' (.cells #[.int .i64 x] 3)
    have hO3 := own_keep HO.out hn1
    have hone : (w'.alloc (.cells #[.int .i64 x] 3)).cell? ⟨w'.heap.size, 0, none⟩ = some (.int .i64 x) := World.cell?_alloc_mark w' _ 3 _ 0
    obtain ⟨v', w4, hr, ho4, hg4⟩ := run_append_i (P := Try.prog) (w'.alloc (.cells #[.int .i64 x] 3)) 31 31 3 i0 _ Try.underlying31 HI.out HZ.out HS.out HBY.out rfl hO3 hone (c := 1) (by omega) (by simp; omega)
    have hb4 : Below w.heap.size w w4 := (HB.out.trans (hn1.mono hsz)).trans (grown_i hO3 hg4 (by simp; omega))
    obtain ⟨A4, c4, rfl⟩ := own_form ho4
    have O4 := Lib.hid ho4
    have B4 := Lib.hid hb4
    clear hO3 hone hn1 ho4 hg4 hb4 hsz
    by_cases hin : x ∈ out
    · rw [decide_eq_true hin] at he
      subst he
      have HE := Lib.hid (HC.out.twice (by have := HX.out; omega) hin)
      clear hin
      go_wp2_with (first | (at_builtin; refine Lib.wpList_append_run _ rfl _ _ 31 31 rfl _ _ rfl rfl _ _ hr ?_; clear hr) | fail)
      simp only [Exit.jump]
      go_ret
      rw [HE.out, List.length_append, HM.out]
      exact ⟨_, _, rfl, O4.out, B4.out⟩
    rw [decide_eq_false hin] at he
    subst he
    have HC2 := Lib.hid (HC.out.next (by have := HX.out; omega) hin)
    clear hin
    go_wp2_with (first | (at_builtin; refine Lib.wpList_append_run _ rfl _ _ 31 31 rfl _ _ rfl rfl _ _ hr ?_; clear hr) | fail)
    refine (find_w x (by omega) (H1.out.below (below_le B4.out hB)) (by have := B4.out.size; omega) (wt_asc HL.out)).mono ?_
    rintro e W5 ⟨he, hb5⟩
    have HB5 := Lib.hid (B4.out.trans (hb5.mono B4.out.size))
    have HO5 := Lib.hid (own_keep O4.out hb5)
    clear hb5
    obtain ⟨p, hp⟩ : ∃ p, posW x l = p := ⟨_, rfl⟩
    rw [hp] at he
    rcases hq : hitW x l with _ | _
    · rw [hq] at he
      subst he
      have HE := Lib.hid (HC2.out.stop (by rw [hit_none HL.out hq]; omega))
      clear hq hp
      go_wp2_with fail
      try simp only [Exit.jump]
      go_ret
      rw [HE.out, List.length_append, HM.out]
      exact ⟨_, _, rfl, HO5.out, HB5.out⟩
    · rw [hq] at he
      subst he
      obtain ⟨y, hy1, hy2, hy3⟩ := hit_own HL.out hq
      rw [hp] at hy1
      have HY2 := Lib.hid hy2
      have HY3 := Lib.hid hy3
      have hpn : p < n := by have := lt_get hy1; have := H1.out.1; omega
      obtain ⟨b, o, z, rfl, hbB, hz1, a0, a1⟩ := (H1.out.below (below_le HB5.out hB)).at_ hpn
      rw [hy1] at hz1
      injection hz1 with hz1
      subst hz1
      have hpi : (p : Int) < (n : Int) := by omega
      have hl9 := HC2.out.len
      rw [List.length_append, HM.out] at hl9
      have HL9 := Lib.hid hl9
      clear hq hp hy1 hy2 hy3 hl9
      go_wp2_with fail
      go_step3
      refine ⟨rfl, ⟨out ++ [x], m + 1, y.b, A4, c4, _, _, _, _, _, _, _, _, _, _, _, _, _, _, _, _, _, _, _, _, _, _, _, _, _, _, _, _, _, _, _, _, _, _, _, rfl, by rw [List.length_append, HM.out]; rfl, by rw [HY2.out]; exact HC2.out, HY3.out, HO5.out, HB5.out⟩, ?_⟩
      have h9 := HL9.out
      simp only [List.length_singleton] at h9
      simp [lenOf]
      omega
  · intro hrest
    have HREST := Lib.hid hrest
    clear hrest
    go_wp2_with fail
    refine (wt_impl (by omega) H1.out hB).mono ?_
    rintro e W1 ⟨he, hb⟩
    rw [HL.out] at he
    subst he
    have HB := Lib.hid hb
    clear hb
    go_wp2_with fail
    refine (id_q HK1.out _).mono ?_
    rintro e W2 ⟨rfl, rfl⟩
    go_wp2_with fail
    go_step3
    rename_i hk9
    refine hk9 _ _ (HREST.out _ _ ⟨[], 0, i, none, 0, _, _, _, _, _, _, _, _, _, _, _, _, _, _, _, _, _, _, _, _, _, _, _, _, _, _, _, _, _, _, _, _, _, _, _, rfl, rfl, Ch.start HL.out, in_yes HK1.out, by simpa using World.ownsRow_nil _ _ _ _, HB.out⟩)
end Go.Proofs.Ytcfmpnhnahafpaa.wtc
/- WaitChain of the model: what it answers, in memory of its own. -/
namespace Go.Proofs.Ytcfmpnhnahafpaa.wtn
open Go.ChangeShapes Go.WideShapes Go.ChangeAt Go.RowKit
open Go.Proofs.Ytcfmpnhnahafpaa.el2 Go.Proofs.Ytcfmpnhnahafpaa.seq Go.Proofs.Ytcfmpnhnahafpaa.pw Go.Proofs.Ytcfmpnhnahafpaa.mw Go.Proofs.Ytcfmpnhnahafpaa.ints Go.Proofs.Ytcfmpnhnahafpaa.owi Go.Proofs.Ytcfmpnhnahafpaa.wt Go.Proofs.Ytcfmpnhnahafpaa.wta Go.Proofs.Ytcfmpnhnahafpaa.wtf Go.Proofs.Ytcfmpnhnahafpaa.wtc
open Go.Proofs.Ytcfmpnhnahafpaa.vers (In in_yes in_no in_of in_off ret_b)
open Go.Proofs.Ytcfmpnhnahafpaa.lk (ownI own_none own_mem)
open Go.Proofs.Ytcfmpnhnahafpaa.lka (in_q is_id id_q)
open Go.Proofs.Ytcfmpnhnahafpaa.wk (own_made0 grown_i)
open Go.Proofs.Ytcfmpnhnahafpaa.bx (own_more)
set_option linter.unusedVariables false
set_option linter.unusedSimpArgs false
/-- what holds in the model's loop -/
def CW (l : List E2) (i : Int) (out : List Int) (x : Int) : Prop := (wtB l = true → Ch l i out x) ∧ (wtB l = false → out = [])
theorem cw_off {l : List E2} {i x : Int} {out : List Int} (h : CW l i out x) (hx : wtB l = false ∨ ¬ (0 < x ∧ x ≤ 9)) : chL l i = out := by
  rcases hl : wtB l with _ | _
  · rw [h.2 hl]; exact chw_bad (.inl hl)
  · rcases hx with hx | hx
    · rw [hl] at hx; cases hx
    · exact (h.1 hl).stop hx
theorem cw_len {l : List E2} {i x : Int} {out : List Int} (h : CW l i out x) : out.length ≤ 9 := by
  rcases hl : wtB l with _ | _
  · rw [h.2 hl]; simp
  · exact (h.1 hl).len
set_option maxRecDepth 100000 in
set_option maxHeartbeats 3200000 in
theorem spec_wc {w : World} {B n c : Nat} {A : Option Addr} {l : List E2} (i : Int) (hn : n ≤ 1048576) (h1 : Vs w B A n l) (hB : B ≤ w.heap.size) :
    Calls Try.prog 19 #[.slice A n c, .int .i64 i] w fun e w' => ∃ A' c', e = .returned (.slice A' (chL l i).length c') ∧ w'.ownsRow w.heap.size 3 1 (.slice A' (chL l i).length c') (chL l i).length (mi (chL l i)) ∧ Below w.heap.size w w' := by
  have H1 := Lib.hid h1
  clear h1
  obtain ⟨i0, hi, hz, hs, hby⟩ := info_parts info_i
  have HI := Lib.hid hi
  have HZ := Lib.hid hz
  have HS := Lib.hid hs
  have HBY := Lib.hid hby
  clear hi hz hs hby
  go_enter Try.func19, Try.ntmps19
  go_wp2_with fail
  have hE := own_made0 w w.heap.size (Nat.le_refl _)
  have hb0 := new1 w (.cells #[] 3)
  generalize w.alloc _ = W0 at hE hb0 ⊢
  have E0 := Lib.hid hE
  have B0 := Lib.hid hb0
  clear hE hb0
  try go_wp2_with fail
  go_loopw [5, 6] (fun q z wr => ∃ (out : List Int) (m c5 : Nat) (x : Int) (A5 : Option Addr), out.length = m ∧ z = .int .i64 x ∧ q = .slice A5 m c5 ∧ CW l i out x ∧ wr.ownsRow w.heap.size 3 1 (.slice A5 m c5) m (mi out) ∧ Below w.heap.size w wr) (fun q _ _ => 10 - lenOf q)
  case atStart => exact ⟨[], 0, 0, i, _, rfl, rfl, rfl, ⟨fun h => Ch.start h, fun _ => rfl⟩, by simpa using E0.out, B0.out⟩
  case round =>
    obtain ⟨out, m, c5, x, A5, hm, rfl, rfl, hC, ho, hb⟩ := hrel
    have hm9 : m ≤ 9 := by rw [← hm]; exact cw_len hC
    have HM := Lib.hid hm
    have HC := Lib.hid hC
    have HO := Lib.hid ho
    have HB := Lib.hid hb
    clear hm hC ho hb
    by_cases h0 : 0 < x
    case neg =>
      have t0 : decide (0 < x) = false := decide_eq_false h0
      have HE := Lib.hid (cw_off HC.out (.inr fun h => h0 h.1))
      clear h0
      go_wp2_with fail
      go_ret
      rw [HE.out, HM.out]
      exact ⟨_, _, rfl, HO.out, HB.out⟩
    have t0 : decide (0 < x) = true := decide_eq_true h0
    have HX0 := Lib.hid h0
    clear h0
    go_wp2_with fail
    refine (wt_spec (by omega) (H1.out.below (below_le HB.out hB)) (by have := HB.out.size; omega)).mono ?_
    rintro e W2 ⟨he, hb2⟩
    have HB2 := Lib.hid (HB.out.trans (hb2.mono HB.out.size))
    have HO2 := Lib.hid (own_keep HO.out hb2)
    clear hb2
    rcases hl : wtB l with _ | _
    · rw [hl] at he
      subst he
      have HE := Lib.hid (cw_off HC.out (.inl hl))
      clear hl
      go_wp2_with fail
      go_ret
      rw [HE.out, HM.out]
      exact ⟨_, _, rfl, HO2.out, HB2.out⟩
    rw [hl] at he
    subst he
    have HL := Lib.hid hl
    clear hl
    by_cases h9 : x ≤ 9
    case neg =>
      have t9 : decide (x ≤ 9) = false := decide_eq_false h9
      have HE := Lib.hid (cw_off HC.out (.inr fun h => h9 h.2))
      clear h9
      go_wp2_with fail
      go_ret
      rw [HE.out, HM.out]
      exact ⟨_, _, rfl, HO2.out, HB2.out⟩
    have t9 : decide (x ≤ 9) = true := decide_eq_true h9
    have HX9 := Lib.hid h9
    clear h9
    have hsz := HB2.out.size
    have hn1 := new1 W2 (.cells #[.int .i64 x] 3)
    have hO3 := own_keep HO2.out hn1
    have hone : (W2.alloc (.cells #[.int .i64 x] 3)).cell? ⟨W2.heap.size, 0, none⟩ = some (.int .i64 x) := World.cell?_alloc_mark W2 _ 3 _ 0
    obtain ⟨v', w4, hr, ho4, hg4⟩ := run_append_i (P := Try.prog) (W2.alloc (.cells #[.int .i64 x] 3)) 31 31 3 i0 _ Try.underlying31 HI.out HZ.out HS.out HBY.out rfl hO3 hone (c := 1) (by omega) (by simp; omega)
    have hb4 : Below w.heap.size w w4 := (HB2.out.trans (hn1.mono hsz)).trans (grown_i hO3 hg4 (by simp; omega))
    obtain ⟨A4, c4, rfl⟩ := own_form ho4
    have O4 := Lib.hid ho4
    have B4 := Lib.hid hb4
    clear hO3 hone hn1 ho4 hg4 hb4 hsz
    have HIS := Lib.hid (is_own HO2.out HM.out HB2.out.size)
    go_wp2_with fail
    go_loop [7] (fun z => ∃ j : Nat, j ≤ m ∧ z = .int .i64 j ∧ ∀ (t : Nat) (y : Int), t < j → out[t]? = some y → y ≠ x) (fun z => m - (intOf z).toNat)
    case atStart => exact ⟨0, by omega, rfl, fun t y h => absurd h (by omega)⟩
    case round =>
      obtain ⟨j, hj, rfl, hP⟩ := hrel
      have HP := Lib.hid hP
      clear hP
      by_cases hlt : j < m
      · obtain ⟨b, o, y, rfl, hbB, hy, a0⟩ := HIS.out.at_ hlt
        have HY := Lib.hid hy
        clear hy
        by_cases hc : y = x
        · have t : (y == x) = true := by simpa using hc
          have HE := Lib.hid ((HC.out.1 HL.out).twice ⟨HX0.out, HX9.out⟩ (by rw [← hc]; exact List.mem_of_getElem? HY.out))
          clear hc
          go_wp2_with (first | (at_builtin; refine Lib.wpList_append_run _ rfl _ _ 31 31 rfl _ _ rfl rfl _ _ hr ?_; clear hr) | fail)
          go_ret
          rw [HE.out, List.length_append, HM.out]
          exact ⟨_, _, rfl, O4.out, B4.out⟩
        · have t : (y == x) = false := by simpa using hc
          have HC9 := Lib.hid hc
          clear hc
          go_wp2_with fail
          go_round
          case rel => exact ⟨j + 1, by omega, by go_num, fun t z ht hz => by
            rcases Nat.lt_or_ge t j with h9 | h9
            · exact HP.out t z h9 hz
            · obtain rfl : t = j := by omega
              rw [HY.out] at hz
              injection hz with hz
              subst hz
              exact HC9.out⟩
          case measure => simp [intOf]; omega
      · have HN := Lib.hid ((HC.out.1 HL.out).next ⟨HX0.out, HX9.out⟩ fun hm => by
          obtain ⟨t, ht, e⟩ := List.getElem_of_mem hm
          exact HP.out t _ (by have := HM.out; omega) (List.getElem?_eq_getElem ht) e)
        have hl9 := HN.out.len
        rw [List.length_append, HM.out] at hl9
        have HL9 := Lib.hid hl9
        clear hl9
        go_wp2_with (first | (at_builtin; refine Lib.wpList_append_run _ rfl _ _ 31 31 rfl _ _ rfl rfl _ _ hr ?_; clear hr) | fail)
        refine (for_w x (by omega) (H1.out.below (below_le B4.out hB)) (by have := B4.out.size; omega)).mono ?_
        rintro e W5 ⟨rfl, rfl⟩
        obtain ⟨z, hz⟩ : ∃ z, ownI x l = z := ⟨_, rfl⟩
        rw [hz]
        have HZ9 := Lib.hid hz
        clear hz
        go_wp2_with fail
        go_roundw
        case rel => exact ⟨out ++ [x], m + 1, c4, z, A4, by rw [List.length_append, HM.out]; rfl, rfl, rfl, ⟨fun _ => by rw [← HZ9.out]; exact HN.out, fun h => by rw [HL.out] at h; cases h⟩, O4.out, B4.out⟩
        case measure =>
          have h9 := HL9.out
          simp only [List.length_singleton] at h9
          simp [lenOf]
          omega
end Go.Proofs.Ytcfmpnhnahafpaa.wtn
/- A row of two-integer structs of one's own reads as its list. -/
namespace Go.Proofs.Ytcfmpnhnahafpaa.vow
open Go.Proofs.Ytcfmpnhnahafpaa.el2
theorem vs_ownk {w : World} {e : TypeId} {base n c : Nat} {A : Option Addr} {l : List E2} (h : w.ownsRow base e 2 (.slice A n c) n (flat l)) (hl : l.length = n) : Vs w w.heap.size A n l := by
  obtain ⟨A', c', h9, hv, _⟩ := own_vs h hl
  injection h9 with e1 _ _
  subst e1
  exact hv
end Go.Proofs.Ytcfmpnhnahafpaa.vow
/- WouldDeadlock of the program and of the model: what each answers. -/
namespace Go.Proofs.Ytcfmpnhnahafpaa.wtw
open Go.ChangeShapes Go.WideShapes Go.ChangeAt Go.RowKit
open Go.Proofs.Ytcfmpnhnahafpaa.el2 Go.Proofs.Ytcfmpnhnahafpaa.seq Go.Proofs.Ytcfmpnhnahafpaa.ints Go.Proofs.Ytcfmpnhnahafpaa.owi Go.Proofs.Ytcfmpnhnahafpaa.wt Go.Proofs.Ytcfmpnhnahafpaa.wts Go.Proofs.Ytcfmpnhnahafpaa.wtm Go.Proofs.Ytcfmpnhnahafpaa.wtc Go.Proofs.Ytcfmpnhnahafpaa.wtn
open Go.Proofs.Ytcfmpnhnahafpaa.vers (ret_b)
open Go.Proofs.Ytcfmpnhnahafpaa.vow (vs_ownk)
set_option linter.unusedVariables false
set_option linter.unusedSimpArgs false
theorem dd_no {l : List E2} {i o : Int} (h : setB l i o = false) : false = ddB l i o := by unfold ddB; rw [h]; rfl
theorem dd_yes {l : List E2} {i o z : Int} (h : setB l i o = true) (hz : (chL (setL l i o) i).getLast? = some z) : decide (z = i) = ddB l i o := by
  unfold ddB
  rw [h, hz, Bool.true_and]
  simp
/-- the last of a chain behind a wait -/
theorem ch_last {l : List E2} {i o : Int} (h : setB l i o = true) : ∃ m z, (chL (setL l i o) i).length = m ∧ 2 ≤ m ∧ m ≤ 10 ∧ (chL (setL l i o) i)[m - 1]? = some z ∧ (chL (setL l i o) i).getLast? = some z := by
  obtain ⟨r, hr⟩ := ch_set h
  have h10 := chL_len (setL l i o) i
  have h2 : 2 ≤ (chL (setL l i o) i).length := by rw [hr]; simp
  refine ⟨_, (chL (setL l i o) i)[(chL (setL l i o) i).length - 1], rfl, h2, h10, List.getElem?_eq_getElem (by omega), ?_⟩
  rw [List.getLast?_eq_getElem?]
  exact List.getElem?_eq_getElem (by omega)
/-- the form of a row of one's own -/
theorem own_shape {w : World} {e : TypeId} {base n c : Nat} {A : Option Addr} {xs : List Value} (h : w.ownsRow base e 2 (.slice A n c) n xs) : n ≤ c ∧ ((A = none ∧ c = 0) ∨ ∃ b o, A = some ⟨b, o, none⟩) := by
  rcases h.2 with ⟨hv, h0⟩ | ⟨g, cap, cur, hv, _, _, hnc, _⟩
  · injection hv with e1 e2 e3
    exact ⟨by omega, .inl ⟨e1, e3⟩⟩
  · injection hv with e1 e2 e3
    exact ⟨by omega, .inr ⟨g, 0, e1⟩⟩
set_option maxRecDepth 100000 in
set_option maxHeartbeats 1600000 in
theorem impl_wd {w : World} {B n c : Nat} {A : Option Addr} {l : List E2} (i o : Int) (hn : n ≤ 1048576) (h1 : Vs w B A n l) (hB : B ≤ w.heap.size) :
    Calls Try.prog 15 #[.slice A n c, .int .i64 i, .int .i64 o] w fun e w' => e = .returned (.bool (ddB l i o)) ∧ Below w.heap.size w w' := by
  have H1 := Lib.hid h1
  have HLN := Lib.hid h1.1
  clear h1
  go_enter Try.func15, Try.ntmps15
  go_wp2_with fail
  refine (impl_set i o (by omega) H1.out hB).mono ?_
  rintro e W1 ⟨A1, c1, he, ho, hb⟩
  obtain ⟨nx, hnx⟩ : ∃ k, (setL l i o).length = k := ⟨_, rfl⟩
  have hx : nx ≤ 1048576 := by have := set_small l i o; rw [hnx, HLN.out] at this; omega
  rw [hnx] at he ho
  have HB1 := Lib.hid hb
  have HV1 := Lib.hid (vs_ownk ho hnx)
  clear hb ho hnx
  rcases hq : setB l i o with _ | _
  · rw [hq] at he
    subst he
    have HD := Lib.hid (dd_no hq)
    clear hq
    go_wp2_with fail
    go_ret
    exact ⟨ret_b HD.out, HB1.out⟩
  rw [hq] at he
  subst he
  obtain ⟨m, z, hm, hm2, hm10, hz, hlast⟩ := ch_last hq
  have HD := Lib.hid (dd_yes hq hlast)
  have HZ := Lib.hid hz
  have HM := Lib.hid hm
  clear hq hz hlast hm
  go_wp2_with fail
  refine (impl_wc i hx HV1.out (Nat.le_refl _)).mono ?_
  rintro e W2 ⟨A2, c2, he, ho2, hb2⟩
  rw [HM.out] at he ho2
  subst he
  have HB2 := Lib.hid (HB1.out.trans (hb2.mono HB1.out.size))
  obtain ⟨b, p, y, rfl, hbB, hy, a0⟩ := (Go.Proofs.Ytcfmpnhnahafpaa.wtc.is_own ho2 HM.out hb2.size).at_ (k := m - 1) (by omega)
  rw [HZ.out] at hy
  injection hy with hy
  subst hy
  have s1 : ((m : Int) - 1).toNat = m - 1 := by omega
  have s2 : (0 : Int) ≤ (m : Int) - 1 := by omega
  have s3 : (m : Int) - 1 < (m : Int) := by omega
  have s4 : decide ((1 : Int) < (m : Int)) = true := decide_eq_true (by omega)
  have s5 : decide (1 < m) = true := decide_eq_true (by omega)
  have s6 : IntKind.i64.wrap ((m : Int) - 1) = (m : Int) - 1 := IntWalk.i64_in _ (by omega)
  clear ho2 hb2
  by_cases hzi : z = i
  · have t : (z == i) = true := by simpa using hzi
    have HT := Lib.hid hzi
    clear hzi
    go_wp2_with fail
    go_ret
    exact ⟨ret_b (by rw [← HD.out]; exact (decide_eq_true HT.out).symm), HB2.out⟩
  · have t : (z == i) = false := by simpa using hzi
    have HT := Lib.hid hzi
    clear hzi
    go_wp2_with fail
    go_ret
    exact ⟨ret_b (by rw [← HD.out]; exact (decide_eq_false HT.out).symm), HB2.out⟩
set_option maxRecDepth 100000 in
set_option maxHeartbeats 1600000 in
theorem spec_wd {w : World} {B n c : Nat} {A : Option Addr} {l : List E2} (i o : Int) (hn : n ≤ 1048576) (hc : n ≤ c) (hA : (A = none ∧ c = 0) ∨ ∃ b o, A = some ⟨b, o, none⟩) (h1 : Vs w B A n l) (hB : B ≤ w.heap.size) :
    Calls Try.prog 16 #[.slice A n c, .int .i64 i, .int .i64 o] w fun e w' => e = .returned (.bool (ddB l i o)) ∧ Below w.heap.size w w' := by
  have H1 := Lib.hid h1
  have HLN := Lib.hid h1.1
  clear h1
  have HA := Lib.hid hA
  clear hA
  go_enter Try.func16, Try.ntmps16
  go_wp2_with fail
  refine (spec_set i o (by omega) hc HA.out H1.out hB).mono ?_
  rintro e W1 ⟨A1, c1, he, ho, hb⟩
  obtain ⟨nx, hnx⟩ : ∃ k, (setL l i o).length = k := ⟨_, rfl⟩
  have hx : nx ≤ 1048576 := by have := set_small l i o; rw [hnx, HLN.out] at this; omega
  rw [hnx] at he ho
  have HB1 := Lib.hid hb
  have HV1 := Lib.hid (vs_ownk ho hnx)
  clear hb ho hnx
  rcases hq : setB l i o with _ | _
  · rw [hq] at he
    subst he
    have HD := Lib.hid (dd_no hq)
    clear hq
    go_wp2_with fail
    go_ret
    exact ⟨ret_b HD.out, HB1.out⟩
  rw [hq] at he
  subst he
  obtain ⟨m, z, hm, hm2, hm10, hz, hlast⟩ := ch_last hq
  have HD := Lib.hid (dd_yes hq hlast)
  have HZ := Lib.hid hz
  have HM := Lib.hid hm
  clear hq hz hlast hm
  go_wp2_with fail
  refine (spec_wc i hx HV1.out (Nat.le_refl _)).mono ?_
  rintro e W2 ⟨A2, c2, he, ho2, hb2⟩
  rw [HM.out] at he ho2
  subst he
  have HB2 := Lib.hid (HB1.out.trans (hb2.mono HB1.out.size))
  obtain ⟨b, p, y, rfl, hbB, hy, a0⟩ := (Go.Proofs.Ytcfmpnhnahafpaa.wtc.is_own ho2 HM.out hb2.size).at_ (k := m - 1) (by omega)
  rw [HZ.out] at hy
  injection hy with hy
  subst hy
  have s1 : ((m : Int) - 1).toNat = m - 1 := by omega
  have s2 : (0 : Int) ≤ (m : Int) - 1 := by omega
  have s3 : (m : Int) - 1 < (m : Int) := by omega
  have s4 : decide ((1 : Int) < (m : Int)) = true := decide_eq_true (by omega)
  have s5 : decide (1 < m) = true := decide_eq_true (by omega)
  have s6 : IntKind.i64.wrap ((m : Int) - 1) = (m : Int) - 1 := IntWalk.i64_in _ (by omega)
  clear ho2 hb2
  by_cases hzi : z = i
  · have t : (z == i) = true := by simpa using hzi
    have HT := Lib.hid hzi
    clear hzi
    go_wp2_with fail
    go_ret
    exact ⟨ret_b (by rw [← HD.out]; exact (decide_eq_true HT.out).symm), HB2.out⟩
  · have t : (z == i) = false := by simpa using hzi
    have HT := Lib.hid hzi
    clear hzi
    go_wp2_with fail
    go_ret
    exact ⟨ret_b (by rw [← HD.out]; exact (decide_eq_false HT.out).symm), HB2.out⟩
end Go.Proofs.Ytcfmpnhnahafpaa.wtw
/- The model's drawn waits: l11Waits, DrawSetWait: a list of waits in memory of its own, two IDs. -/
namespace Go.Proofs.Ytcfmpnhnahafpaa.dwt
open Go.ChangeShapes Go.WideShapes Go.ChangeAt Go.RowKit
open Go.Proofs.Ytcfmpnhnahafpaa.el2 Go.Proofs.Ytcfmpnhnahafpaa.ap Go.Proofs.Ytcfmpnhnahafpaa.lk Go.Proofs.Ytcfmpnhnahafpaa.wt
open Go.Proofs.Ytcfmpnhnahafpaa.cur (CurAt CodeAt Kp Only below_calls new_calls cur_new)
open Go.Proofs.Ytcfmpnhnahafpaa.dr (once_calls)
open Go.Proofs.Ytcfmpnhnahafpaa.cl (own_empty)
open Go.Proofs.Ytcfmpnhnahafpaa.bx (own_more)
open Go.Proofs.Ytcfmpnhnahafpaa.wti (app_x one_vs)
open Go.Proofs.Ytcfmpnhnahafpaa.wtw (own_shape)
open Go.Proofs.Ytcfmpnhnahafpaa.vow (vs_ownk)
set_option linter.unusedVariables false
set_option linter.unusedSimpArgs false
theorem own_grw {w w' : World} {base n size : Nat} {e : TypeId} {v : Value} {xs : List Value} {row : Option Nat} (h : w.ownsRow base e size v n xs) (hg : w.grownBy w' row) (hne : ∀ g, v.ownBlock = some g → some g ≠ row) : w'.ownsRow base e size v n xs :=
  ⟨h.1, by
    rcases h.2 with h0 | ⟨g, cap, cur, e1, h1, h2, h3⟩
    · exact .inl h0
    · exact .inr ⟨g, cap, cur, e1, h1, (hg.block g (Array.getElem?_eq_some_iff.1 h2).1 (hne g (by rw [e1]; rfl))).trans h2, h3⟩⟩
/-- where a drawing has come to: the cursor, the row of waits -/
structure DWt (w : World) (B b : Nat) (a : Option Addr) (len cap : Nat) (A : Option Addr) (n c : Nat) (l : List E2) (W : World) : Prop where
  cur : CurAt W b a len cap
  own : W.ownsRow w.heap.size 36 2 (.slice A n c) n (flat l)
  kp : Kp B b w W
section
variable {w W W' : World} {B b len cap n c : Nat} {a A : Option Addr} {l : List E2}
theorem DWt.code (h : DWt w B b a len cap A n c l W) (hc : CodeAt w B a len) : CodeAt W B a len := hc.below (Nat.le_refl _) h.kp.bel
theorem DWt.only (h : DWt w B b a len cap A n c l W) (hcu : CurAt W' b a len cap) (ho : Only b W W') (hB : B ≤ b) (hb : b < w.heap.size) : DWt w B b a len cap A n c l W' where
  cur := hcu
  own := own_grw h.own ho.grownBy fun g hg e => by have := (h.own.lt g hg).1; injection e with e; omega
  kp := h.kp.only ho hB
theorem DWt.size (h : DWt w B b a len cap A n c l W) : w.heap.size ≤ W.heap.size := h.kp.size
end
theorem CurAt.keep {w w' : World} {b : Nat} {a : Option Addr} {len cap : Nat} (h : CurAt w b a len cap) (hb : Below w.heap.size w w') : CurAt w' b a len cap :=
  h.grown (row := none) ⟨hb.os, hb.tape, hb.output, hb.size, fun k hk _ => hb.block k hk⟩ (by simp)
theorem Kp.keep {B b : Nat} {w v v' : World} (h : Kp B b w v) (hb : Below v.heap.size v v') (hB : B ≤ w.heap.size) : Kp B b w v' :=
  h.grown (row := none) ⟨hb.os, hb.tape, hb.output, hb.size, fun k hk _ => hb.block k hk⟩ hB (fun k hk => by cases hk)
theorem set_ten {l : List E2} {x y : Int} (h : l.length ≤ 10) : (setL l x y).length ≤ 10 := by
  have := set_small l x y
  omega
set_option maxRecDepth 100000 in
set_option maxHeartbeats 3200000 in
theorem draw_wts (b B : Nat) (a : Option Addr) (len cap : Nat) (w : World) (hl : len ≤ 1048576) (hc : CurAt w b a len cap) (hcode : CodeAt w B a len) (hB : B ≤ b) :
    Calls Try.prog 31 #[.pointer (some ⟨b, 0, none⟩)] w fun e w' => ∃ (A : Option Addr) (n c : Nat) (l : List E2), e = .returned (.slice A n c) ∧ n ≤ 11 ∧ l.length = n ∧ DWt w B b a len cap A n c l w' := by
  have HC := Lib.hid hcode
  have hbw := hc.lt
  have D0 : Hid (DWt w B b a len cap (some ⟨w.heap.size, 0, none⟩) 0 0 [] (w.alloc (.cells #[] 36))) := Lib.hid ⟨hc.alloc _, own_empty w 36 w.heap.size (Nat.le_refl _), (Kp.refl B b w).alloc (by omega) _⟩
  clear hcode hc
  go_enter Try.func31, Try.ntmps31
  go_wp2_with fail
  generalize w.alloc _ = W0 at D0 ⊢
  refine (below_calls b B a len cap 5 W0 hl D0.out.cur (D0.out.code HC.out) hB (by omega)).mono ?_
  rintro e W1 ⟨z, rfl, hz0, hz1, hc1, ho1⟩
  have D1 := Lib.hid (D0.out.only hc1 ho1 hB hbw)
  clear hc1 ho1 D0
  go_wp2_with fail
  go_loopw [3, 4] (fun q i wr => ∃ (k n c : Nat) (A : Option Addr) (l : List E2), n ≤ 10 ∧ l.length = n ∧ i = .int .i64 k ∧ k ≤ 5 ∧ q = .slice A n c ∧ DWt w B b a len cap A n c l wr) (fun _ i _ => (intOf i).toNat)
  case atStart => exact ⟨z.toNat, 0, 0, _, [], by omega, rfl, by rw [Int.toNat_of_nonneg hz0], by omega, rfl, D1.out⟩
  case round =>
    obtain ⟨k, n, c, A, l, hn10, hln, rfl, hk5, rfl, hD⟩ := hrel
    have HD := Lib.hid hD
    have HLN := Lib.hid hln
    clear hD hln D1
    by_cases hlt : 0 < k
    · have t : decide ((0 : Int) < (k : Int)) = true := decide_eq_true (by omega)
      have t2 : decide (0 < k) = true := decide_eq_true hlt
      have hkw : IntKind.i64.wrap ((k : Int) - 1) = (k : Int) - 1 := IntWalk.i64_in _ (by omega)
      go_wp2_with fail
      refine (below_calls b B a len cap 5 wr hl HD.out.cur (HD.out.code HC.out) hB (by omega)).mono ?_
      rintro e W2 ⟨x, rfl, hx0, hx1, hc2, ho2⟩
      have D2 := Lib.hid (HD.out.only hc2 ho2 hB hbw)
      clear hc2 ho2
      have hxw : IntKind.i64.wrap (1 + x) = 1 + x := IntWalk.i64_in _ (by omega)
      go_wp2_with fail
      refine (below_calls b B a len cap 5 W2 hl D2.out.cur (D2.out.code HC.out) hB (by omega)).mono ?_
      rintro e W3 ⟨y, rfl, hy0, hy1, hc3, ho3⟩
      have D3 := Lib.hid (D2.out.only hc3 ho3 hB hbw)
      clear hc3 ho3
      have hyw : IntKind.i64.wrap (1 + y) = 1 + y := IntWalk.i64_in _ (by omega)
      obtain ⟨hnc, hA⟩ := own_shape D3.out.own
      have HS := Lib.hid (Go.Proofs.Ytcfmpnhnahafpaa.wtm.spec_set (1 + x) (1 + y) (by omega) hnc hA (vs_ownk D3.out.own HLN.out) (Nat.le_refl _))
      clear hnc hA
      go_wp2_with fail
      refine HS.out.mono ?_
      rintro e W4 ⟨A4, c4, rfl, ho4, hb4⟩
      obtain ⟨nx, hnx⟩ : ∃ m, (setL l (1 + x) (1 + y)).length = m := ⟨_, rfl⟩
      have hx10 : nx ≤ 10 := by have := set_ten (x := 1 + x) (y := 1 + y) (show l.length ≤ 10 by have := HLN.out; omega); omega
      rw [hnx] at ho4 ⊢
      have D4 : Hid (DWt w B b a len cap A4 nx c4 (setL l (1 + x) (1 + y)) W4) := Lib.hid ⟨CurAt.keep D3.out.cur hb4, own_more ho4 D3.out.size, Kp.keep D3.out.kp hb4 (by omega)⟩
      have HNX := Lib.hid hnx
      generalize setB l (1 + x) (1 + y) = qb
      clear ho4 hb4 HS hnx
      go_wp2_with fail
      go_roundw
      case rel => exact ⟨k - 1, nx, c4, A4, _, hx10, HNX.out, by rw [show ((k : Int) - 1) = ((k - 1 : Nat) : Int) by omega], by omega, rfl, D4.out⟩
      case measure => simp [intOf]; omega
    · obtain rfl : k = 0 := by omega
      go_wp2_with fail
      refine (once_calls b B a len cap 14 wr hl HD.out.cur (HD.out.code HC.out) hB (by omega)).mono ?_
      rintro e W1 ⟨q, rfl, hc1, ho1⟩
      have D1 := Lib.hid (HD.out.only hc1 ho1 hB hbw)
      clear hc1 ho1
      cases q with
      | false =>
        go_wp2_with fail
        go_ret
        exact ⟨A, n, c, l, rfl, by omega, HLN.out, D1.out⟩
      | true =>
        go_wp2_with fail
        refine (below_calls b B a len cap 10 W1 hl D1.out.cur (D1.out.code HC.out) hB (by omega)).mono ?_
        rintro e W2 ⟨x, rfl, hx0, hx1, hc2, ho2⟩
        have D2 := Lib.hid (D1.out.only hc2 ho2 hB hbw)
        clear hc2 ho2
        go_wp2_with fail
        refine (below_calls b B a len cap 10 W2 hl D2.out.cur (D2.out.code HC.out) hB (by omega)).mono ?_
        rintro e W3 ⟨y, rfl, hy0, hy1, hc3, ho3⟩
        have D4 := Lib.hid (D2.out.only hc3 ho3 hB hbw)
        have hs4 := D4.out.size
        clear hc3 ho3
        have hn1 := new1 W3 (.cells #[.int .i64 x, .int .i64 y] 36)
        have hO3 := own_keep D4.out.own hn1
        have hone := one_vs (boxed W3 ⟨x, y⟩ 36)
        obtain ⟨A4, c4, W4, hr, ho4, hg4, hb4⟩ := app_x (c := 1) (W3.alloc (.cells #[.int .i64 x, .int .i64 y] 36)) hO3 hone (by omega) (by simp; omega)
        have D5 : Hid (DWt w B b a len cap A4 (n + 1) c4 (l ++ [⟨x, y⟩]) W4) := Lib.hid ⟨(D4.out.cur.alloc _).grown hg4 (fun e => by have := (hO3.lt b e.symm).1; omega), ho4, (D4.out.kp.alloc (by omega) _).grown hg4 (by omega) (fun j hj => (hO3.lt j hj).1)⟩
        clear hn1 hO3 hone ho4 hg4 hb4
        go_wp2_with (at_builtin; refine Lib.wpList_append_run _ rfl _ _ 24 24 rfl _ _ rfl rfl _ _ hr ?_)
        go_ret
        exact ⟨A4, n + 1, c4, _, rfl, by omega, by rw [List.length_append, HLN.out]; rfl, D5.out⟩
/-- a list of waits, two IDs -/
def DSW (w : World) (e : Ending) (w' : World) : Prop := ∃ (A : Option Addr) (n c : Nat) (l : List E2) (k o : Int), e = .returned (.tuple #[.slice A n c, .int .i64 k, .int .i64 o]) ∧ n ≤ 11 ∧ l.length = n ∧ w'.ownsRow w.heap.size 36 2 (.slice A n c) n (flat l) ∧ Below w.heap.size w w'
set_option maxRecDepth 100000 in
set_option maxHeartbeats 1600000 in
theorem draw_sw (a : Option Addr) (len cap : Nat) (w : World) (hl : len ≤ 1048576) (hcode : CodeAt w w.heap.size a len) :
    Calls Try.prog 10 #[.slice a len cap] w (DSW w) := by
  have HN := Lib.hid (new_calls w.heap.size a len cap w hl hcode (Nat.le_refl _))
  have HC := Lib.hid hcode
  clear hcode
  go_enter Try.func10, Try.ntmps10
  go_wp2_with fail
  refine HN.out.mono ?_
  rintro e W1 ⟨h, rfl, rfl⟩
  have hcu := cur_new w a len cap h
  have hb := new1 w (.cells #[.slice a len cap, .int .i64 0, .int .i64 h] 64)
  have hs : w.heap.size < (w.alloc (.cells #[.slice a len cap, .int .i64 0, .int .i64 h] 64)).heap.size := by simp
  generalize w.alloc _ = W1 at hcu hb hs ⊢
  have C1 := Lib.hid hcu
  have HB1 := Lib.hid hb
  clear hcu hb HN
  go_wp2_with fail
  refine (draw_wts w.heap.size w.heap.size a len cap W1 hl C1.out (HC.out.below (Nat.le_refl _) HB1.out) (Nat.le_refl _)).mono ?_
  rintro e W2 ⟨A, n, c, l, rfl, hn, hln, hD⟩
  have D2 := Lib.hid hD
  have HLN := Lib.hid hln
  have HBD := Lib.hid (HB1.out.trans hD.kp.bel)
  clear hD hln
  have bw : w.heap.size < W1.heap.size := hs
  go_wp2_with fail
  refine (below_calls w.heap.size w.heap.size a len cap 7 W2 hl D2.out.cur (HC.out.below (Nat.le_refl _) HBD.out) (Nat.le_refl _) (by omega)).mono ?_
  rintro e W3 ⟨x, rfl, hx0, hx1, hc3, ho3⟩
  have D3 := Lib.hid (D2.out.only hc3 ho3 (Nat.le_refl _) bw)
  have HB3 := Lib.hid (HBD.out.trans (ho3.below (Nat.le_refl _)))
  clear hc3 ho3
  go_wp2_with fail
  refine (below_calls w.heap.size w.heap.size a len cap 7 W3 hl D3.out.cur (HC.out.below (Nat.le_refl _) HB3.out) (Nat.le_refl _) (by omega)).mono ?_
  rintro e W4 ⟨y, rfl, hy0, hy1, hc4, ho4⟩
  have D4 := Lib.hid (D3.out.only hc4 ho4 (Nat.le_refl _) bw)
  have HB4 := Lib.hid (HB3.out.trans (ho4.below (Nat.le_refl _)))
  clear hc4 ho4
  go_wp2_with fail
  exact bodyPost_ret (v := .tuple #[.slice A n c, .int .i64 x, .int .i64 y]) (by simp [results, Try.results10, go_sem]) rfl ⟨A, n, c, l, x, y, rfl, hn, HLN.out, own_more D4.out.own (by omega), HB4.out⟩
end Go.Proofs.Ytcfmpnhnahafpaa.dwt
/- FnWaits: the walk at a code that is not too long. -/
namespace Go.Proofs.Ytcfmpnhnahafpaa.fwt
open Go.ChangeShapes Go.WideShapes Go.ChangeAt Go.RowKit
open Go.Proofs.Ytcfmpnhnahafpaa.el2 Go.Proofs.Ytcfmpnhnahafpaa.ap Go.Proofs.Ytcfmpnhnahafpaa.ints Go.Proofs.Ytcfmpnhnahafpaa.wt
open Go.Proofs.Ytcfmpnhnahafpaa.cur (CurAt CodeAt big_no)
open Go.Proofs.Ytcfmpnhnahafpaa.owi (mi OwI)
open Go.Proofs.Ytcfmpnhnahafpaa.vow (vs_ownk)
open Go.Proofs.Ytcfmpnhnahafpaa.wtc (is_own)
open Go.Proofs.Ytcfmpnhnahafpaa.wtw (own_shape)
open Go.Proofs.Ytcfmpnhnahafpaa.tv (bdrewN class_region class_opk class_call class_end)
set_option linter.unusedVariables false
set_option linter.unusedSimpArgs false
set_option maxRecDepth 100000 in
set_option maxHeartbeats 800000 in
theorem same_w {w : World} {B n c c2 : Nat} {A A2 : Option Addr} {xs : List Int} (hn : n ≤ 140737488355328) (h1 : Is w B A n xs) (h2 : Is w B A2 n xs) (hB : B ≤ w.heap.size) :
    Calls Try.prog 18 #[.slice A n c, .slice A2 n c2] w fun e w' => e = .returned (.bool true) ∧ Below w.heap.size w w' := by
  have H1 := Lib.hid h1
  have H2 := Lib.hid h2
  have tn : ((n : Int) != (n : Int)) = false := by simp
  clear h1 h2
  go_enter Try.func18, Try.ntmps18
  go_wp2_with fail
  go_loopw [5] (fun i wr => ∃ k : Nat, k ≤ n ∧ i = .int .i64 k ∧ Below w.heap.size w wr) (fun i _ => n - (intOf i).toNat)
  case atStart => exact ⟨0, by omega, rfl, Below.refl _ _⟩
  case round =>
    obtain ⟨k, hk, rfl, hb⟩ := hrel
    by_cases hlt : k < n
    · obtain ⟨b, o, x, rfl, hbB, hx, hc⟩ := (H1.out.below (below_le hb hB)).at_ hlt
      obtain ⟨b', o', x', rfl, hbB', hx', hc'⟩ := (H2.out.below (below_le hb hB)).at_ hlt
      obtain rfl : x = x' := by rw [hx] at hx'; exact Option.some.inj hx'
      have HB := Lib.hid hb
      have t : (x != x) = false := by simp
      clear hb hx hx'
      go_wp2_with fail
      go_quiet (fail)
      go_wp2_with fail
      go_roundw
      case rel => exact ⟨k + 1, by omega, by go_num, bdrewN HB.out _⟩
      case measure => simp [intOf]; omega
    · go_wp2_with fail
      go_ret
      exact ⟨rfl, hb⟩
/-- what the law says of a chain behind a wait that is set -/
theorem ch_front {l : List E2} {i o : Int} (h : setB l i o = true) : (chL (setL l i o) i)[0]? = some i ∧ (chL (setL l i o) i)[1]? = some o := by
  obtain ⟨r, hr⟩ := ch_set h
  rw [hr]
  exact ⟨rfl, rfl⟩
set_option maxRecDepth 100000 in
set_option maxHeartbeats 12800000 in
theorem core (a : Option Addr) (len cap : Nat) (w : World) (hl : len ≤ 1048576) (hcode : CodeAt w w.heap.size a len) :
    Calls Try.prog 3 #[.slice a len cap] w fun e w' => e = .returned (.bool true) ∧ Below w.heap.size w w' := by
  have BIG := Lib.hid (big_no a len cap w (by omega))
  have HT := Lib.hid (Go.Proofs.Ytcfmpnhnahafpaa.dwt.draw_sw a len cap w hl hcode)
  clear hcode
  go_enter Try.func3, Try.ntmps3
  go_wp2_with fail
  refine BIG.out.mono ?_
  rintro e w' ⟨rfl, rfl⟩
  clear BIG
  go_wp2_with fail
  refine HT.out.mono ?_
  rintro e W1 ⟨A1, n, c1, l, k, p, rfl, hn, hln, hown, hb1⟩
  have SH1 := Lib.hid (own_shape hown)
  have V1 := Lib.hid (vs_ownk hown hln)
  have HB1 := Lib.hid hb1
  have HLN := Lib.hid hln
  clear HT hown hb1 hln
  obtain ⟨X, hX⟩ : ∃ X, setL l k p = X := ⟨_, rfl⟩
  obtain ⟨q, hq⟩ : ∃ q, setB l k p = q := ⟨_, rfl⟩
  obtain ⟨nx, hnx⟩ : ∃ m, X.length = m := ⟨_, rfl⟩
  have hx8 : nx ≤ 11 := by have := set_small l k p; rw [hX, hnx] at this; have := HLN.out; omega
  have HX := Lib.hid hX
  have HQ := Lib.hid hq
  have HNX := Lib.hid hnx
  clear hX hq hnx
  go_wp2_with fail
  refine (Go.Proofs.Ytcfmpnhnahafpaa.wts.impl_set k p (by omega) V1.out (Nat.le_refl _)).mono ?_
  rintro e W2 ⟨A2, c2, he, ho2, hb2⟩
  rw [HX.out, HQ.out, HNX.out] at he
  rw [HX.out, HNX.out] at ho2
  subst he
  have V2 := Lib.hid (vs_ownk ho2 HNX.out)
  have HB2 := Lib.hid (HB1.out.trans (hb2.mono HB1.out.size))
  have HC2 := Lib.hid hb2
  clear ho2 hb2
  go_wp2_with fail
  refine (Go.Proofs.Ytcfmpnhnahafpaa.wtm.spec_set k p (by omega) SH1.out.1 SH1.out.2 (V1.out.below HC2.out) HC2.out.size).mono ?_
  rintro e W3 ⟨A3, c3, he, ho3, hb3⟩
  rw [HX.out, HQ.out, HNX.out] at he
  rw [HX.out, HNX.out] at ho3
  subst he
  have V3 := Lib.hid (vs_ownk ho3 HNX.out)
  have VX := Lib.hid ((V2.out.below hb3).more hb3.size)
  have VL := Lib.hid ((V1.out.below (HC2.out.trans (hb3.mono HC2.out.size))).more (HC2.out.trans (hb3.mono HC2.out.size)).size)
  have HB3 := Lib.hid (HB2.out.trans (hb3.mono HB2.out.size))
  clear ho3 hb3 V1 V2 HC2 HB1 HB2
  have tqq : (q != q) = false := by cases q <;> rfl
  have tnn : ((nx : Int) != (nx : Int)) = false := by simp
  go_wp2_with fail
  refine (Go.Proofs.Ytcfmpnhnahafpaa.wta.wt_impl (by omega) VL.out (Nat.le_refl _)).mono ?_
  rintro e W4 ⟨rfl, hb4⟩
  have HB4 := Lib.hid (HB3.out.trans (hb4.mono HB3.out.size))
  have V34 := Lib.hid ((V3.out.below hb4).more hb4.size)
  have VX4 := Lib.hid ((VX.out.below hb4).more hb4.size)
  have VL4 := Lib.hid ((VL.out.below hb4).more hb4.size)
  clear hb4 V3 VX VL HB3
  go_wp2_with fail
  refine (Go.Proofs.Ytcfmpnhnahafpaa.wta.wt_spec (by omega) VL4.out (Nat.le_refl _)).mono ?_
  rintro e W5 ⟨rfl, hb5⟩
  have HB5 := Lib.hid (HB4.out.trans (hb5.mono HB4.out.size))
  have V35 := Lib.hid ((V34.out.below hb5).more hb5.size)
  have VX5 := Lib.hid ((VX4.out.below hb5).more hb5.size)
  have VL5 := Lib.hid ((VL4.out.below hb5).more hb5.size)
  clear hb5 V34 VX4 VL4 HB4
  generalize wtB l = ql
  have tll : (ql != ql) = false := by cases ql <;> rfl
  go_wp2_with fail
  refine (Go.Proofs.Ytcfmpnhnahafpaa.wtw.impl_wd k p (by omega) VL5.out (Nat.le_refl _)).mono ?_
  rintro e W6 ⟨he, hb6⟩
  obtain ⟨qd, hqd⟩ : ∃ q, ddB l k p = q := ⟨_, rfl⟩
  rw [hqd] at he
  subst he
  have HD := Lib.hid hqd
  have HB6 := Lib.hid (HB5.out.trans (hb6.mono HB5.out.size))
  have V36 := Lib.hid ((V35.out.below hb6).more hb6.size)
  have VX6 := Lib.hid ((VX5.out.below hb6).more hb6.size)
  have VL6 := Lib.hid ((VL5.out.below hb6).more hb6.size)
  clear hb6 V35 VX5 VL5 HB5 hqd
  go_wp2_with fail
  refine (Go.Proofs.Ytcfmpnhnahafpaa.wtw.spec_wd k p (by omega) SH1.out.1 SH1.out.2 VL6.out (Nat.le_refl _)).mono ?_
  rintro e W7 ⟨he, hb7⟩
  rw [HD.out] at he
  subst he
  have HB7 := Lib.hid (HB6.out.trans (hb7.mono HB6.out.size))
  have V37 := Lib.hid ((V36.out.below hb7).more hb7.size)
  have VX7 := Lib.hid ((VX6.out.below hb7).more hb7.size)
  have VL7 := Lib.hid ((VL6.out.below hb7).more hb7.size)
  clear hb7 V36 VX6 VL6 HB6
  have tdd : (qd != qd) = false := by cases qd <;> rfl
  go_wp2_with fail
  refine (Go.Proofs.Ytcfmpnhnahafpaa.wtc.impl_wc k (by omega) VX7.out (Nat.le_refl _)).mono ?_
  rintro e W8 ⟨A8, cc, he, ho8, hb8⟩
  obtain ⟨C, hC⟩ : ∃ C, chL X k = C := ⟨_, rfl⟩
  obtain ⟨m, hm⟩ : ∃ m, C.length = m := ⟨_, rfl⟩
  have hm10 : m ≤ 10 := by have := chL_len X k; rw [hC, hm] at this; exact this
  rw [hC, hm] at he ho8
  subst he
  have HC := Lib.hid hC
  have HM := Lib.hid hm
  have I8 := Lib.hid (is_own ho8 hm hb8.size)
  have HB8 := Lib.hid (HB7.out.trans (hb8.mono HB7.out.size))
  have V38 := Lib.hid ((V37.out.below hb8).more hb8.size)
  have VX8 := Lib.hid ((VX7.out.below hb8).more hb8.size)
  have VL8 := Lib.hid ((VL7.out.below hb8).more hb8.size)
  clear ho8 hb8 V37 VX7 VL7 HB7 hC hm tqq tnn tll tdd
  go_wp2_with fail
  refine (Go.Proofs.Ytcfmpnhnahafpaa.wtn.spec_wc k (by omega) V38.out (Nat.le_refl _)).mono ?_
  rintro e W9 ⟨A9, c9, he, ho9, hb9⟩
  rw [HC.out, HM.out] at he ho9
  subst he
  have J9 := Lib.hid (is_own ho9 HM.out hb9.size)
  have I9 := Lib.hid ((I8.out.below hb9).more hb9.size)
  have HB9 := Lib.hid (HB8.out.trans (hb9.mono HB8.out.size))
  have V39 := Lib.hid ((V38.out.below hb9).more hb9.size)
  have VX9 := Lib.hid ((VX8.out.below hb9).more hb9.size)
  have VL9 := Lib.hid ((VL8.out.below hb9).more hb9.size)
  clear ho9 hb9 V38 VX8 VL8 HB8 I8
  go_wp2_with fail
  refine (same_w (by omega) I9.out J9.out (Nat.le_refl _)).mono ?_
  rintro e Wa ⟨rfl, hba⟩
  have Ia := Lib.hid ((I9.out.below hba).more hba.size)
  have HBa := Lib.hid (HB9.out.trans (hba.mono HB9.out.size))
  have V3a := Lib.hid ((V39.out.below hba).more hba.size)
  have VXa := Lib.hid ((VX9.out.below hba).more hba.size)
  have VL := Lib.hid ((VL9.out.below hba).more hba.size)
  clear hba V39 VX9 VL9 HB9 I9 J9
  obtain ⟨nz, hnz⟩ : ∃ m, (clrL k X).length = m := ⟨_, rfl⟩
  have hz8 : nz ≤ 11 := by have := clr_len k X; rw [hnz] at this; have := HNX.out; omega
  have HNZ := Lib.hid hnz
  clear hnz
  have END : Hid (∀ W : World, Below Wa.heap.size Wa W → Below w.heap.size w W ∧ Vs W W.heap.size A2 nx X ∧ Vs W W.heap.size A3 nx X) := Lib.hid fun W hW => ⟨HBa.out.trans (hW.mono HBa.out.size), (VXa.out.below hW).more hW.size, (V3a.out.below hW).more hW.size⟩
  clear VXa V3a HBa
  cases q with
  | false =>
    go_wp2_with fail
    go_quiet (fail)
    generalize hWW : Wa.drewN _ = W1
    have hW1 : Below Wa.heap.size Wa W1 := by rw [← hWW]; exact bdrewN (Below.refl _ _) _
    clear hWW
    obtain ⟨hbw, vx, v3⟩ := END.out _ hW1
    have HBb := Lib.hid hbw
    have VX := Lib.hid vx
    have V3 := Lib.hid v3
    clear hbw vx v3 hW1 END
    go_wp2_with fail
    refine (Go.Proofs.Ytcfmpnhnahafpaa.wtd.impl_clr k (by omega) VX.out (Nat.le_refl _)).mono ?_
    rintro e Wc ⟨Ac, cz, he, hoc, hbc⟩
    rw [HNZ.out] at he hoc
    subst he
    have VZ := Lib.hid (vs_ownk hoc HNZ.out)
    have HBc := Lib.hid (HBb.out.trans (hbc.mono HBb.out.size))
    have V3c := Lib.hid ((V3.out.below hbc).more hbc.size)
    clear hoc hbc VX V3 HBb
    go_wp2_with fail
    go_loop [12] (fun i => ∃ j : Nat, j ≤ nz ∧ i = .int .i64 j) (fun i => nz - (intOf i).toNat)
    case atStart => exact ⟨0, by omega, rfl⟩
    case round =>
      obtain ⟨j, hj, rfl⟩ := hrel
      by_cases hlt : j < nz
      · obtain ⟨g, o, y, rfl, hgB, hy, a0, a1⟩ := VZ.out.at_ hlt
        obtain ⟨h1, h2⟩ := clr_no (List.mem_of_getElem? hy)
        have t1 : (y.a == k) = false := by simpa using h1
        have t2 : (y.b == k) = false := by simpa using h2
        clear hy h1 h2
        go_wp2_with fail
        go_round
        case rel => exact ⟨j + 1, by omega, by go_num⟩
        case measure => simp [intOf]; omega
      · have HCL := Lib.hid (Go.Proofs.Ytcfmpnhnahafpaa.wtd.spec_clr (c := c3) k (show nx ≤ 2097152 by omega) V3c.out (Nat.le_refl _))
        go_wp2_with fail
        refine HCL.out.mono ?_
        rintro e Wd ⟨Ad, cd, he, hod, hbd⟩
        rw [HNZ.out] at he
        subst he
        have HBd := Lib.hid (HBc.out.trans (hbd.mono HBc.out.size))
        have te : ((nz : Int) == (nz : Int)) = true := by simp
        clear hod hbd HCL
        go_wp2_with fail
        go_ret
        exact ⟨rfl, HBd.out⟩
  | true =>
    have hfr := ch_front HQ.out
    obtain ⟨m', z, hm', hm2, _, hz, hlast⟩ := Go.Proofs.Ytcfmpnhnahafpaa.wtw.ch_last HQ.out
    have hdy := Go.Proofs.Ytcfmpnhnahafpaa.wtw.dd_yes HQ.out hlast
    rw [HX.out, HC.out] at hfr hm' hz
    rw [HM.out] at hm'
    subst hm'
    rw [HD.out] at hdy
    obtain ⟨b, o, y0, e0, hbB, hy0, c0⟩ := Ia.out.at_ (k := 0) (by omega)
    obtain ⟨b1, o1, y1, e1, _, hy1, c1'⟩ := Ia.out.at_ (k := 1) (by omega)
    obtain ⟨b2, o2, y2, e2, _, hy2, c2'⟩ := Ia.out.at_ (k := m - 1) (by omega)
    rw [hfr.1] at hy0
    rw [hfr.2] at hy1
    rw [hz] at hy2
    injection hy0 with hy0
    injection hy1 with hy1
    injection hy2 with hy2
    subst hy0 hy1 hy2
    rw [e0] at e1 e2
    injection e1 with e1
    injection e1 with e11 e12
    injection e2 with e2
    injection e2 with e21 e22
    subst e11 e12 e21 e22 e0
    rw [Nat.add_zero] at c0
    have Z0 := Lib.hid c0
    have Z1 := Lib.hid c1'
    have ZL := Lib.hid c2'
    have BL : b < Wa.heap.size := hbB
    have s0 : decide ((m : Int) < 2) = false := decide_eq_false (by omega)
    have s1 : ((m : Int) - 1).toNat = m - 1 := by omega
    have s2 : (0 : Int) ≤ (m : Int) - 1 := by omega
    have s3 : (m : Int) - 1 < (m : Int) := by omega
    have s4 : 0 < m := by omega
    have s5 : 1 < m := by omega
    have s6 : IntKind.i64.wrap ((m : Int) - 1) = (m : Int) - 1 := IntWalk.i64_in _ (by omega)
    have s7 : (0 : Int) < (m : Int) := by omega
    have s8 : (1 : Int) < (m : Int) := by omega
    have s9 : ¬ (m : Int) < 2 := by omega
    have sa : (1 : Int) ≤ (m : Int) := by omega
    have tkk : (k != k) = false := by simp
    have tpp : (p != p) = false := by simp
    clear c0 c1' c2' Ia hbB hfr hz hlast
    cases qd with
    | false =>
      have te : (z == k) = false := by simpa using (of_decide_eq_false hdy)
      clear hdy
      go_wp2_with fail
      refine class_region Wa.heap.size (by kernel_rfl) (by kernel_rfl) ?_
      with_reducible refine class_opk (.bool true) ?_ ?_ ?_
      · first | exact rfl | go_simp
      · intro W hW
        go_simp
      intro K hK
      go_simp
      with_reducible refine hK _ ?_
      clear hK K
      with_reducible refine class_opk (.bool true) ?_ ?_ ?_
      · first | exact rfl | go_simp
      · intro W hW
        go_simp
      intro K hK
      go_simp
      with_reducible refine hK _ ?_
      clear hK K
      with_reducible refine class_opk (.slice (some ⟨b, o, none⟩) m cc) ?_ ?_ ?_
      · first | exact rfl | go_simp
      · intro W hW
        go_simp
      intro K hK
      go_simp
      with_reducible refine hK _ ?_
      clear hK K
      with_reducible refine class_opk (.int .i64 (m : Int)) ?_ ?_ ?_
      · first | exact rfl | go_simp
      · intro W hW
        go_simp
      intro K hK
      go_simp
      with_reducible refine hK _ ?_
      clear hK K
      with_reducible refine class_opk (.bool false) ?_ ?_ ?_
      · first | exact rfl | go_simp
      · intro W hW
        go_simp
      intro K hK
      go_simp
      with_reducible refine hK _ ?_
      clear hK K
      with_reducible refine class_opk (.bool false) ?_ ?_ ?_
      · first | exact rfl | go_simp
      · intro W hW
        go_simp
      intro K hK
      go_simp
      with_reducible refine hK _ ?_
      clear hK K
      with_reducible refine class_opk (.slice (some ⟨b, o, none⟩) m cc) ?_ ?_ ?_
      · first | exact rfl | go_simp
      · intro W hW
        go_simp
      intro K hK
      go_simp
      with_reducible refine hK _ ?_
      clear hK K
      with_reducible refine class_opk (.pointer (some ⟨b, o, none⟩)) ?_ ?_ ?_
      · first | exact rfl | go_simp
      · intro W hW
        go_simp
      intro K hK
      go_simp
      with_reducible refine hK _ ?_
      clear hK K
      with_reducible refine class_opk (.int .i64 k) ?_ ?_ ?_
      · first | exact rfl | go_simp
      · intro W hW
        have g := (hW.cell (p := ⟨b, o, none⟩) BL).trans Z0.out
        go_simp
      intro K hK
      go_simp
      with_reducible refine hK _ ?_
      clear hK K
      with_reducible refine class_opk (.int .i64 k) ?_ ?_ ?_
      · first | exact rfl | go_simp
      · intro W hW
        go_simp
      intro K hK
      go_simp
      with_reducible refine hK _ ?_
      clear hK K
      with_reducible refine class_opk (.bool false) ?_ ?_ ?_
      · first | exact rfl | go_simp
      · intro W hW
        go_simp
      intro K hK
      go_simp
      with_reducible refine hK _ ?_
      clear hK K
      with_reducible refine class_opk (.bool false) ?_ ?_ ?_
      · first | exact rfl | go_simp
      · intro W hW
        go_simp
      intro K hK
      go_simp
      with_reducible refine hK _ ?_
      clear hK K
      with_reducible refine class_opk (.bool false) ?_ ?_ ?_
      · first | exact rfl | go_simp
      · intro W hW
        go_simp
      intro K hK
      go_simp
      with_reducible refine hK _ ?_
      clear hK K
      with_reducible refine class_opk (.slice (some ⟨b, o, none⟩) m cc) ?_ ?_ ?_
      · first | exact rfl | go_simp
      · intro W hW
        go_simp
      intro K hK
      go_simp
      with_reducible refine hK _ ?_
      clear hK K
      with_reducible refine class_opk (.pointer (some ⟨b, o + 1, none⟩)) ?_ ?_ ?_
      · first | exact rfl | go_simp
      · intro W hW
        go_simp
      intro K hK
      go_simp
      with_reducible refine hK _ ?_
      clear hK K
      with_reducible refine class_opk (.int .i64 p) ?_ ?_ ?_
      · first | exact rfl | go_simp
      · intro W hW
        have g := (hW.cell (p := ⟨b, o + 1, none⟩) BL).trans Z1.out
        go_simp
      intro K hK
      go_simp
      with_reducible refine hK _ ?_
      clear hK K
      with_reducible refine class_opk (.int .i64 p) ?_ ?_ ?_
      · first | exact rfl | go_simp
      · intro W hW
        go_simp
      intro K hK
      go_simp
      with_reducible refine hK _ ?_
      clear hK K
      with_reducible refine class_opk (.bool false) ?_ ?_ ?_
      · first | exact rfl | go_simp
      · intro W hW
        go_simp
      intro K hK
      go_simp
      with_reducible refine hK _ ?_
      clear hK K
      with_reducible refine class_opk (.bool false) ?_ ?_ ?_
      · first | exact rfl | go_simp
      · intro W hW
        go_simp
      intro K hK
      go_simp
      with_reducible refine hK _ ?_
      clear hK K
      with_reducible refine class_opk (.bool false) ?_ ?_ ?_
      · first | exact rfl | go_simp
      · intro W hW
        go_simp
      intro K hK
      go_simp
      with_reducible refine hK _ ?_
      clear hK K
      with_reducible refine class_opk (.slice A1 n c1) ?_ ?_ ?_
      · first | exact rfl | go_simp
      · intro W hW
        go_simp
      intro K hK
      go_simp
      with_reducible refine hK _ ?_
      clear hK K
      with_reducible refine class_opk (.int .i64 k) ?_ ?_ ?_
      · first | exact rfl | go_simp
      · intro W hW
        go_simp
      intro K hK
      go_simp
      with_reducible refine hK _ ?_
      clear hK K
      with_reducible refine class_opk (.int .i64 p) ?_ ?_ ?_
      · first | exact rfl | go_simp
      · intro W hW
        go_simp
      intro K hK
      go_simp
      with_reducible refine hK _ ?_
      clear hK K
      with_reducible refine class_opk (.bool false) ?_ ?_ ?_
      · first | exact rfl | go_simp
      · intro W hW
        go_simp
        refine class_call hW ?_
        rw [← HD.out]
        exact Go.Proofs.Ytcfmpnhnahafpaa.wtw.impl_wd k p (by omega) (VL.out.below hW) hW.size
      intro K hK
      go_simp
      with_reducible refine hK _ ?_
      clear hK K
      with_reducible refine class_opk (.slice (some ⟨b, o, none⟩) m cc) ?_ ?_ ?_
      · first | exact rfl | go_simp
      · intro W hW
        go_simp
      intro K hK
      go_simp
      with_reducible refine hK _ ?_
      clear hK K
      with_reducible refine class_opk (.slice (some ⟨b, o, none⟩) m cc) ?_ ?_ ?_
      · first | exact rfl | go_simp
      · intro W hW
        go_simp
      intro K hK
      go_simp
      with_reducible refine hK _ ?_
      clear hK K
      with_reducible refine class_opk (.int .i64 (m : Int)) ?_ ?_ ?_
      · first | exact rfl | go_simp
      · intro W hW
        go_simp
      intro K hK
      go_simp
      with_reducible refine hK _ ?_
      clear hK K
      with_reducible refine class_opk (.int .i64 ((m : Int) - 1)) ?_ ?_ ?_
      · first | exact rfl | go_simp
      · intro W hW
        go_simp
      intro K hK
      go_simp
      with_reducible refine hK _ ?_
      clear hK K
      with_reducible refine class_opk (.pointer (some ⟨b, o + (m - 1), none⟩)) ?_ ?_ ?_
      · first | exact rfl | go_simp
      · intro W hW
        go_simp
      intro K hK
      go_simp
      with_reducible refine hK _ ?_
      clear hK K
      with_reducible refine class_opk (.int .i64 z) ?_ ?_ ?_
      · first | exact rfl | go_simp
      · intro W hW
        have g := (hW.cell (p := ⟨b, o + (m - 1), none⟩) BL).trans ZL.out
        go_simp
      intro K hK
      go_simp
      with_reducible refine hK _ ?_
      clear hK K
      with_reducible refine class_opk (.int .i64 k) ?_ ?_ ?_
      · first | exact rfl | go_simp
      · intro W hW
        go_simp
      intro K hK
      go_simp
      with_reducible refine hK _ ?_
      clear hK K
      with_reducible refine class_opk (.bool false) ?_ ?_ ?_
      · first | exact rfl | go_simp
      · intro W hW
        go_simp
      intro K hK
      go_simp
      with_reducible refine hK _ ?_
      clear hK K
      with_reducible refine class_opk (.bool false) ?_ ?_ ?_
      · first | exact rfl | go_simp
      · intro W hW
        go_simp
      intro K hK
      go_simp
      with_reducible refine hK _ ?_
      clear hK K
      with_reducible refine class_opk (.bool false) ?_ ?_ ?_
      · first | exact rfl | go_simp
      · intro W hW
        go_simp
      intro K hK
      go_simp
      with_reducible refine hK _ ?_
      clear hK K
      with_reducible refine class_opk (.bool false) ?_ ?_ ?_
      · first | exact rfl | go_simp
      · intro W hW
        go_simp
      intro K hK
      go_simp
      with_reducible refine hK _ ?_
      clear hK K
      with_reducible refine class_end ?_
      intro W1 hW1
      go_simp
      obtain ⟨hbw, vx, v3⟩ := END.out _ hW1
      have HBb := Lib.hid hbw
      have VX := Lib.hid vx
      have V3 := Lib.hid v3
      clear hbw vx v3 hW1 END
      go_wp2_with fail
      refine (Go.Proofs.Ytcfmpnhnahafpaa.wtd.impl_clr k (by omega) VX.out (Nat.le_refl _)).mono ?_
      rintro e Wc ⟨Ac, cz, he, hoc, hbc⟩
      rw [HNZ.out] at he hoc
      subst he
      have VZ := Lib.hid (vs_ownk hoc HNZ.out)
      have HBc := Lib.hid (HBb.out.trans (hbc.mono HBb.out.size))
      have V3c := Lib.hid ((V3.out.below hbc).more hbc.size)
      clear hoc hbc VX V3 HBb
      go_wp2_with fail
      go_loop [12] (fun i => ∃ j : Nat, j ≤ nz ∧ i = .int .i64 j) (fun i => nz - (intOf i).toNat)
      case atStart => exact ⟨0, by omega, rfl⟩
      case round =>
        obtain ⟨j, hj, rfl⟩ := hrel
        by_cases hlt : j < nz
        · obtain ⟨g, o, y, rfl, hgB, hy, a0, a1⟩ := VZ.out.at_ hlt
          obtain ⟨h1, h2⟩ := clr_no (List.mem_of_getElem? hy)
          have t1 : (y.a == k) = false := by simpa using h1
          have t2 : (y.b == k) = false := by simpa using h2
          clear hy h1 h2
          go_wp2_with fail
          go_round
          case rel => exact ⟨j + 1, by omega, by go_num⟩
          case measure => simp [intOf]; omega
        · have HCL := Lib.hid (Go.Proofs.Ytcfmpnhnahafpaa.wtd.spec_clr (c := c3) k (show nx ≤ 2097152 by omega) V3c.out (Nat.le_refl _))
          go_wp2_with fail
          refine HCL.out.mono ?_
          rintro e Wd ⟨Ad, cd, he, hod, hbd⟩
          rw [HNZ.out] at he
          subst he
          have HBd := Lib.hid (HBc.out.trans (hbd.mono HBc.out.size))
          have te : ((nz : Int) == (nz : Int)) = true := by simp
          clear hod hbd HCL
          go_wp2_with fail
          go_ret
          exact ⟨rfl, HBd.out⟩
    | true =>
      have te : (z == k) = true := by simpa using (of_decide_eq_true hdy)
      clear hdy
      go_wp2_with fail
      refine class_region Wa.heap.size (by kernel_rfl) (by kernel_rfl) ?_
      with_reducible refine class_opk (.bool true) ?_ ?_ ?_
      · first | exact rfl | go_simp
      · intro W hW
        go_simp
      intro K hK
      go_simp
      with_reducible refine hK _ ?_
      clear hK K
      with_reducible refine class_opk (.bool true) ?_ ?_ ?_
      · first | exact rfl | go_simp
      · intro W hW
        go_simp
      intro K hK
      go_simp
      with_reducible refine hK _ ?_
      clear hK K
      with_reducible refine class_opk (.slice (some ⟨b, o, none⟩) m cc) ?_ ?_ ?_
      · first | exact rfl | go_simp
      · intro W hW
        go_simp
      intro K hK
      go_simp
      with_reducible refine hK _ ?_
      clear hK K
      with_reducible refine class_opk (.int .i64 (m : Int)) ?_ ?_ ?_
      · first | exact rfl | go_simp
      · intro W hW
        go_simp
      intro K hK
      go_simp
      with_reducible refine hK _ ?_
      clear hK K
      with_reducible refine class_opk (.bool false) ?_ ?_ ?_
      · first | exact rfl | go_simp
      · intro W hW
        go_simp
      intro K hK
      go_simp
      with_reducible refine hK _ ?_
      clear hK K
      with_reducible refine class_opk (.bool false) ?_ ?_ ?_
      · first | exact rfl | go_simp
      · intro W hW
        go_simp
      intro K hK
      go_simp
      with_reducible refine hK _ ?_
      clear hK K
      with_reducible refine class_opk (.slice (some ⟨b, o, none⟩) m cc) ?_ ?_ ?_
      · first | exact rfl | go_simp
      · intro W hW
        go_simp
      intro K hK
      go_simp
      with_reducible refine hK _ ?_
      clear hK K
      with_reducible refine class_opk (.pointer (some ⟨b, o, none⟩)) ?_ ?_ ?_
      · first | exact rfl | go_simp
      · intro W hW
        go_simp
      intro K hK
      go_simp
      with_reducible refine hK _ ?_
      clear hK K
      with_reducible refine class_opk (.int .i64 k) ?_ ?_ ?_
      · first | exact rfl | go_simp
      · intro W hW
        have g := (hW.cell (p := ⟨b, o, none⟩) BL).trans Z0.out
        go_simp
      intro K hK
      go_simp
      with_reducible refine hK _ ?_
      clear hK K
      with_reducible refine class_opk (.int .i64 k) ?_ ?_ ?_
      · first | exact rfl | go_simp
      · intro W hW
        go_simp
      intro K hK
      go_simp
      with_reducible refine hK _ ?_
      clear hK K
      with_reducible refine class_opk (.bool false) ?_ ?_ ?_
      · first | exact rfl | go_simp
      · intro W hW
        go_simp
      intro K hK
      go_simp
      with_reducible refine hK _ ?_
      clear hK K
      with_reducible refine class_opk (.bool false) ?_ ?_ ?_
      · first | exact rfl | go_simp
      · intro W hW
        go_simp
      intro K hK
      go_simp
      with_reducible refine hK _ ?_
      clear hK K
      with_reducible refine class_opk (.bool false) ?_ ?_ ?_
      · first | exact rfl | go_simp
      · intro W hW
        go_simp
      intro K hK
      go_simp
      with_reducible refine hK _ ?_
      clear hK K
      with_reducible refine class_opk (.slice (some ⟨b, o, none⟩) m cc) ?_ ?_ ?_
      · first | exact rfl | go_simp
      · intro W hW
        go_simp
      intro K hK
      go_simp
      with_reducible refine hK _ ?_
      clear hK K
      with_reducible refine class_opk (.pointer (some ⟨b, o + 1, none⟩)) ?_ ?_ ?_
      · first | exact rfl | go_simp
      · intro W hW
        go_simp
      intro K hK
      go_simp
      with_reducible refine hK _ ?_
      clear hK K
      with_reducible refine class_opk (.int .i64 p) ?_ ?_ ?_
      · first | exact rfl | go_simp
      · intro W hW
        have g := (hW.cell (p := ⟨b, o + 1, none⟩) BL).trans Z1.out
        go_simp
      intro K hK
      go_simp
      with_reducible refine hK _ ?_
      clear hK K
      with_reducible refine class_opk (.int .i64 p) ?_ ?_ ?_
      · first | exact rfl | go_simp
      · intro W hW
        go_simp
      intro K hK
      go_simp
      with_reducible refine hK _ ?_
      clear hK K
      with_reducible refine class_opk (.bool false) ?_ ?_ ?_
      · first | exact rfl | go_simp
      · intro W hW
        go_simp
      intro K hK
      go_simp
      with_reducible refine hK _ ?_
      clear hK K
      with_reducible refine class_opk (.bool false) ?_ ?_ ?_
      · first | exact rfl | go_simp
      · intro W hW
        go_simp
      intro K hK
      go_simp
      with_reducible refine hK _ ?_
      clear hK K
      with_reducible refine class_opk (.bool false) ?_ ?_ ?_
      · first | exact rfl | go_simp
      · intro W hW
        go_simp
      intro K hK
      go_simp
      with_reducible refine hK _ ?_
      clear hK K
      with_reducible refine class_opk (.slice A1 n c1) ?_ ?_ ?_
      · first | exact rfl | go_simp
      · intro W hW
        go_simp
      intro K hK
      go_simp
      with_reducible refine hK _ ?_
      clear hK K
      with_reducible refine class_opk (.int .i64 k) ?_ ?_ ?_
      · first | exact rfl | go_simp
      · intro W hW
        go_simp
      intro K hK
      go_simp
      with_reducible refine hK _ ?_
      clear hK K
      with_reducible refine class_opk (.int .i64 p) ?_ ?_ ?_
      · first | exact rfl | go_simp
      · intro W hW
        go_simp
      intro K hK
      go_simp
      with_reducible refine hK _ ?_
      clear hK K
      with_reducible refine class_opk (.bool true) ?_ ?_ ?_
      · first | exact rfl | go_simp
      · intro W hW
        go_simp
        refine class_call hW ?_
        rw [← HD.out]
        exact Go.Proofs.Ytcfmpnhnahafpaa.wtw.impl_wd k p (by omega) (VL.out.below hW) hW.size
      intro K hK
      go_simp
      with_reducible refine hK _ ?_
      clear hK K
      with_reducible refine class_opk (.slice (some ⟨b, o, none⟩) m cc) ?_ ?_ ?_
      · first | exact rfl | go_simp
      · intro W hW
        go_simp
      intro K hK
      go_simp
      with_reducible refine hK _ ?_
      clear hK K
      with_reducible refine class_opk (.slice (some ⟨b, o, none⟩) m cc) ?_ ?_ ?_
      · first | exact rfl | go_simp
      · intro W hW
        go_simp
      intro K hK
      go_simp
      with_reducible refine hK _ ?_
      clear hK K
      with_reducible refine class_opk (.int .i64 (m : Int)) ?_ ?_ ?_
      · first | exact rfl | go_simp
      · intro W hW
        go_simp
      intro K hK
      go_simp
      with_reducible refine hK _ ?_
      clear hK K
      with_reducible refine class_opk (.int .i64 ((m : Int) - 1)) ?_ ?_ ?_
      · first | exact rfl | go_simp
      · intro W hW
        go_simp
      intro K hK
      go_simp
      with_reducible refine hK _ ?_
      clear hK K
      with_reducible refine class_opk (.pointer (some ⟨b, o + (m - 1), none⟩)) ?_ ?_ ?_
      · first | exact rfl | go_simp
      · intro W hW
        go_simp
      intro K hK
      go_simp
      with_reducible refine hK _ ?_
      clear hK K
      with_reducible refine class_opk (.int .i64 z) ?_ ?_ ?_
      · first | exact rfl | go_simp
      · intro W hW
        have g := (hW.cell (p := ⟨b, o + (m - 1), none⟩) BL).trans ZL.out
        go_simp
      intro K hK
      go_simp
      with_reducible refine hK _ ?_
      clear hK K
      with_reducible refine class_opk (.int .i64 k) ?_ ?_ ?_
      · first | exact rfl | go_simp
      · intro W hW
        go_simp
      intro K hK
      go_simp
      with_reducible refine hK _ ?_
      clear hK K
      with_reducible refine class_opk (.bool true) ?_ ?_ ?_
      · first | exact rfl | go_simp
      · intro W hW
        go_simp
      intro K hK
      go_simp
      with_reducible refine hK _ ?_
      clear hK K
      with_reducible refine class_opk (.bool false) ?_ ?_ ?_
      · first | exact rfl | go_simp
      · intro W hW
        go_simp
      intro K hK
      go_simp
      with_reducible refine hK _ ?_
      clear hK K
      with_reducible refine class_opk (.bool false) ?_ ?_ ?_
      · first | exact rfl | go_simp
      · intro W hW
        go_simp
      intro K hK
      go_simp
      with_reducible refine hK _ ?_
      clear hK K
      with_reducible refine class_opk (.bool false) ?_ ?_ ?_
      · first | exact rfl | go_simp
      · intro W hW
        go_simp
      intro K hK
      go_simp
      with_reducible refine hK _ ?_
      clear hK K
      with_reducible refine class_end ?_
      intro W1 hW1
      go_simp
      obtain ⟨hbw, vx, v3⟩ := END.out _ hW1
      have HBb := Lib.hid hbw
      have VX := Lib.hid vx
      have V3 := Lib.hid v3
      clear hbw vx v3 hW1 END
      go_wp2_with fail
      refine (Go.Proofs.Ytcfmpnhnahafpaa.wtd.impl_clr k (by omega) VX.out (Nat.le_refl _)).mono ?_
      rintro e Wc ⟨Ac, cz, he, hoc, hbc⟩
      rw [HNZ.out] at he hoc
      subst he
      have VZ := Lib.hid (vs_ownk hoc HNZ.out)
      have HBc := Lib.hid (HBb.out.trans (hbc.mono HBb.out.size))
      have V3c := Lib.hid ((V3.out.below hbc).more hbc.size)
      clear hoc hbc VX V3 HBb
      go_wp2_with fail
      go_loop [12] (fun i => ∃ j : Nat, j ≤ nz ∧ i = .int .i64 j) (fun i => nz - (intOf i).toNat)
      case atStart => exact ⟨0, by omega, rfl⟩
      case round =>
        obtain ⟨j, hj, rfl⟩ := hrel
        by_cases hlt : j < nz
        · obtain ⟨g, o, y, rfl, hgB, hy, a0, a1⟩ := VZ.out.at_ hlt
          obtain ⟨h1, h2⟩ := clr_no (List.mem_of_getElem? hy)
          have t1 : (y.a == k) = false := by simpa using h1
          have t2 : (y.b == k) = false := by simpa using h2
          clear hy h1 h2
          go_wp2_with fail
          go_round
          case rel => exact ⟨j + 1, by omega, by go_num⟩
          case measure => simp [intOf]; omega
        · have HCL := Lib.hid (Go.Proofs.Ytcfmpnhnahafpaa.wtd.spec_clr (c := c3) k (show nx ≤ 2097152 by omega) V3c.out (Nat.le_refl _))
          go_wp2_with fail
          refine HCL.out.mono ?_
          rintro e Wd ⟨Ad, cd, he, hod, hbd⟩
          rw [HNZ.out] at he
          subst he
          have HBd := Lib.hid (HBc.out.trans (hbd.mono HBc.out.size))
          have te : ((nz : Int) == (nz : Int)) = true := by simp
          clear hod hbd HCL
          go_wp2_with fail
          go_ret
          exact ⟨rfl, HBd.out⟩
end Go.Proofs.Ytcfmpnhnahafpaa.fwt
namespace Go.Proofs.Ytcfmpnhnahafpaa.fnWaits
open Go.ChangeShapes Go.WideShapes Go.ChangeAt Go.RowKit
open Go.ChangeMaps (open_string shut_string)
open Go.Proofs.Ytcfmpnhnahafpaa.cur
set_option linter.unusedVariables false
theorem own : ownKnob Try.prog.godebug = none := by kernel_rfl
theorem laidOut : laidOutB Try.prog = true := by kernel_rfl
def IsRow (k : IntKind) (w : World) (a : Option Addr) (len cap : Nat) (zs : List Int) : Prop :=
  (a = none ∧ len = 0 ∧ cap = 0 ∧ zs = []) ∨
  ∃ x, a = some x ∧ len ≤ cap ∧ cap ≤ maxLen ∧ zs.length = cap ∧ (∀ i, i < zs.length → w.cell? (x.add i) = some (.int k (zs.getD i 0))) ∧ ∀ n ∈ zs, (Lit.int k n).wf = true
theorem code_of {w : World} {a : Option Addr} {len cap : Nat} {zs : List Int} (h : IsRow .u8 w a len cap zs) : CodeAt w w.heap.size a len := by
  intro j hj
  rcases h with ⟨rfl, rfl, rfl, rfl⟩ | ⟨x, rfl, hl, hm, hz, hcell, hwz⟩
  · omega
  · obtain ⟨cb, off, spot⟩ := x
    have hc := hcell j (by omega)
    have hspot : spot = none := by
      have h0 := hcell 0 (by omega)
      simpa [Addr.add] using World.cell?_spot h0
    subst hspot
    rw [Addr.add_lit] at hc
    have hmem : zs.getD j 0 ∈ zs := by
      rw [List.getD_eq_getElem?_getD, List.getElem?_eq_getElem (show j < zs.length by omega)]
      exact List.getElem_mem _
    have hb := bounds_u8 (hwz _ hmem)
    exact ⟨cb, off, _, rfl, World.block_lt_of_cell? w _ hc, hb.1, hb.2, hc⟩
theorem walk (a : Option Addr) (len cap : Nat) (zs : List Int) (w : World) (h : IsRow .u8 w a len cap zs) :
    Calls Try.prog 3 #[.slice a len cap] w fun e w' => e = .returned (.bool true) ∧ Below w.heap.size w w' := by
  by_cases hbig : 1048576 < len
  · have BIG := Lib.hid (big_yes a len cap w hbig)
    clear h
    go_enter Try.func3, Try.ntmps3
    go_wp2_with fail
    refine BIG.out.mono ?_
    rintro e w' ⟨rfl, rfl⟩
    go_wp2_with fail
    go_ret
    exact ⟨rfl, Below.refl _ _⟩
  · exact Go.Proofs.Ytcfmpnhnahafpaa.fwt.core a len cap w (by omega) (code_of h)
/-! ### THE ROW's STEP -/
set_option maxRecDepth 100000 in
theorem lifted (os : Os) (started : os.Started) (H : Type) (enc : TypeId × Value → H) :
    ReturnsInHanded {} Try.checked os 3 .any (Rows.fnWaitsSpec.pre6 enc Try.prog Try.f3 Rows.fnWaitsRow.domain false) (Rows.fnWaitsSpec.post enc Try.prog Try.f3 false true false false) := by
  refine returnsInHanded_of_change (C := Try.checked) own started (by kernel_rfl) Try.func3
    (ChangeSpec.witness6 (enc := enc) (C := Try.checked) false ⟨#[], #[.slice none 0 0], []⟩ 8 (by kernel_rfl) (by kernel_rfl) (by kernel_rfl) (by kernel_rfl)) ?_
  intro W base args ds gs before hval0 hW hcnd _
  have hval : ∀ (j : Nat) t v, Try.f3.params[j]? = some t → args[j]? = some v → Value.okWide Try.prog W .any base t v := hval0
  have hW' := hW
  obtain ⟨p, q, hA0, hV, rfl, hfz, hnd⟩ := hW
  have hA : DataW.TrodAll enc Try.prog W 0 (fun _ => true) true Try.f3.params.toList args.toList ds p := hA0
  rw [Try.params3] at hA hval
  obtain ⟨v0, vs0, d0, ds0, p0, q0, hargs, rfl, rfl, h0, r0⟩ := trodAll_cons hA
  obtain ⟨rfl, rfl, rfl⟩ := trodAll_nil r0
  obtain rfl : args = #[v0] := by cases args; simp_all
  obtain ⟨rfl, rfl⟩ := trodVars_none hV
  obtain ⟨a0, len0, cap0, rfl⟩ := okWide_slice Try.underlying22 (hval 0 22 v0 rfl rfl)
  have k0 := h0
  have lt0 : ∀ x ∈ p0, x.block < W.heap.size := by obtain ⟨m, hm⟩ := k0; exact DataW.trod_lt m _ _ _ hm
  obtain ⟨z0, w0⟩ : ∃ zs, IsRow .u8 W a0 len0 cap0 zs := by
    obtain ⟨fuel, hf⟩ := h0
    rcases open_ints Try.underlying22 Try.underlying5 (by kernel_rfl) hf with ⟨hcs, _⟩ | ⟨x, l, c, zs, hcs, _, hl, hm, hz, _, hcell, hwz⟩
    · simp [Value.cells] at hcs
      obtain ⟨rfl, rfl, rfl⟩ := hcs
      exact ⟨[], .inl ⟨rfl, rfl, rfl, rfl⟩⟩
    · simp [Value.cells] at hcs
      obtain ⟨rfl, rfl, rfl⟩ := hcs
      exact ⟨zs, .inr ⟨_, rfl, hl, hm, by simpa using hz, hcell, hwz⟩⟩
  clear hA0 hval0
  refine (walk a0 len0 cap0 z0 W w0).mono fun e W' ⟨he, bel⟩ => ?_
  subst he
  exact ⟨_, rfl, _, _, _, [], _, [], hW', trodAll_mk1 (shut_bool Try.underlying4 _), (trodAll_cons_mk (Below.trod laidOut (by kernel_rfl) (of_decide_eq_true (by kernel_rfl)) k0 bel lt0) trodAll_mk0), rfl, bel.frame _, fun h => by cases h⟩

theorem over : Rows.fnWaitsRow.holds Try.pinned (OpenSpec.ofChange Rows.fnWaitsSpec) :=
  OpenClaim.holds_of_wide 3 Try.f3 rfl rfl rfl rfl rfl rfl rfl ⟨rfl, rfl, rfl, rfl, rfl⟩ rfl rfl rfl rfl rfl (by kernel_rfl) Try.func3 (by kernel_rfl)
    (of_decide_eq_true (by kernel_rfl)) (by unfold Func.isWrapper; first | (rw [if_pos (by decide +kernel)]; kernel_rfl) | (rw [if_neg (by decide +kernel)]; exact ⟨rfl, rfl⟩))
    (fun os started H enc _ => lifted os started H enc)

/-- THE STATEMENT -/
theorem proved : Rows.FnWaitsSaid := over
#print axioms proved
end Go.Proofs.Ytcfmpnhnahafpaa.fnWaits
