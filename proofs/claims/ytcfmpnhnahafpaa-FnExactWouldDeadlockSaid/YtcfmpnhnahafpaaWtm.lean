/- SetWait of the model: what it answers, in memory of its own. -/
import Derived.Test.YtcfmpnhnahafpaaWts
import Derived.Test.YtcfmpnhnahafpaaLkr
namespace Go.Proofs.Ytcfmpnhnahafpaa.wtm
open Go.ChangeShapes Go.WideShapes Go.ChangeAt Go.RowKit
open Go.Proofs.Ytcfmpnhnahafpaa.el2 Go.Proofs.Ytcfmpnhnahafpaa.seq Go.Proofs.Ytcfmpnhnahafpaa.pw Go.Proofs.Ytcfmpnhnahafpaa.mw Go.Proofs.Ytcfmpnhnahafpaa.ap Go.Proofs.Ytcfmpnhnahafpaa.ro Go.Proofs.Ytcfmpnhnahafpaa.wt Go.Proofs.Ytcfmpnhnahafpaa.wta Go.Proofs.Ytcfmpnhnahafpaa.wtf Go.Proofs.Ytcfmpnhnahafpaa.wtd Go.Proofs.Ytcfmpnhnahafpaa.wti Go.Proofs.Ytcfmpnhnahafpaa.wts
open Go.Proofs.Ytcfmpnhnahafpaa.vers (In in_yes in_no in_of in_off)
open Go.Proofs.Ytcfmpnhnahafpaa.lka (in_q)
open Go.Proofs.Ytcfmpnhnahafpaa.bx (own_more)
open Go.Proofs.Ytcfmpnhnahafpaa.cl (own_empty)
open Go.Proofs.Ytcfmpnhnahafpaa.ao (Vs.take Vs.drop)
open Go.Proofs.Ytcfmpnhnahafpaa.rx (all_step)
set_option linter.unusedVariables false
set_option linter.unusedSimpArgs false
set_option maxRecDepth 100000 in
set_option maxHeartbeats 6400000 in
theorem spec_setm {w : World} {B n c : Nat} {A : Option Addr} {l : List E2} (m : E2) (hn : n ≤ 1048576) (hc : n ≤ c) (hA : (A = none ∧ c = 0) ∨ ∃ b o, A = some ⟨b, o, none⟩) (h1 : Vs w B A n l) (hB : B ≤ w.heap.size) :
    Calls Try.prog 12 #[.slice A n c, .int .i64 m.a, .int .i64 m.b] w fun e w' => ∃ A' c', e = .returned (.tuple #[.slice A' (setL l m.a m.b).length c', .bool (setB l m.a m.b)]) ∧ w'.ownsRow w.heap.size 36 2 (.slice A' (setL l m.a m.b).length c') (setL l m.a m.b).length (flat (setL l m.a m.b)) ∧ Below w.heap.size w w' := by
  have H1 := Lib.hid h1
  have HLN := Lib.hid h1.1
  have HA := Lib.hid hA
  clear h1 hA
  go_enter Try.func12, Try.ntmps12
  go_wp2_with fail
  refine (wt_spec (by omega) H1.out hB).mono ?_
  rintro e W2 ⟨rfl, hb⟩
  have HB2 := Lib.hid hb
  have hs2 := hb.size
  clear hb
  obtain ⟨AB, cB, WB, hr, hob, _, hbb⟩ := app_x (c := c) (W2.alloc (.cells #[] 36)) (own_empty W2 36 W2.heap.size (Nat.le_refl _)) (H1.out.below (below_le (HB2.out.trans ((new1 W2 (.cells #[] 36)).mono hs2)) hB)) (by omega) (by simp)
  rw [Nat.zero_add, List.nil_append] at hob
  rw [Nat.zero_add] at hr
  have HOB := Lib.hid (own_more hob hs2)
  have HBB := Lib.hid (HB2.out.trans (((new1 W2 (.cells #[] 36)).trans hbb).mono hs2))
  clear hob hbb
  rcases hl : wtB l with _ | _
  · have HE := Lib.hid (set_badT (m := m) (.inl hl))
    clear hl
    go_wp2_with (first | (at_builtin; refine Lib.wpList_append_run _ rfl _ _ 24 24 rfl _ _ rfl rfl _ _ hr ?_) | fail)
    go_ret2
    rw [HE.out.1, HE.out.2, HLN.out]
    exact ⟨_, _, rfl, HOB.out, HBB.out⟩
  have HL := Lib.hid hl
  clear hl
  rcases hk1 : In 1 9 m.a with _ | _
  · have HK1 := Lib.hid hk1
    have HE := Lib.hid (set_badT (l := l) (.inr (okT_a hk1)))
    clear hk1
    go_wp2_with (first | (go_at_call 37; with_reducible refine (in_q HK1.out _).mono ?_; (rintro e w9 ⟨rfl, rfl⟩)) | (at_builtin; refine Lib.wpList_append_run _ rfl _ _ 24 24 rfl _ _ rfl rfl _ _ hr ?_) | fail)
    go_ret2
    rw [HE.out.1, HE.out.2, HLN.out]
    exact ⟨_, _, rfl, HOB.out, HBB.out⟩
  rcases hk2 : In 1 9 m.b with _ | _
  · have HK1 := Lib.hid hk1
    have HK2 := Lib.hid hk2
    have HE := Lib.hid (set_badT (l := l) (.inr (okT_b hk2)))
    clear hk1 hk2
    go_wp2_with (first | (go_at_call 37; with_reducible refine (in_q HK1.out _).mono ?_; (rintro e w9 ⟨rfl, rfl⟩)) | (go_at_call 37; with_reducible refine (in_q HK2.out _).mono ?_; (rintro e w9 ⟨rfl, rfl⟩)) | (at_builtin; refine Lib.wpList_append_run _ rfl _ _ 24 24 rfl _ _ rfl rfl _ _ hr ?_) | fail)
    go_ret2
    rw [HE.out.1, HE.out.2, HLN.out]
    exact ⟨_, _, rfl, HOB.out, HBB.out⟩
  have HK1 := Lib.hid hk1
  have HK2 := Lib.hid hk2
  clear hk1 hk2
  by_cases hab : m.a = m.b
  · have HE := Lib.hid (set_badT (l := l) (.inr (okT_c hab)))
    have t9 : (m.a == m.b) = true := by simpa using hab
    clear hab
    go_wp2_with (first | (go_at_call 37; with_reducible refine (in_q HK1.out _).mono ?_; (rintro e w9 ⟨rfl, rfl⟩)) | (go_at_call 37; with_reducible refine (in_q HK2.out _).mono ?_; (rintro e w9 ⟨rfl, rfl⟩)) | (at_builtin; refine Lib.wpList_append_run _ rfl _ _ 24 24 rfl _ _ rfl rfl _ _ hr ?_) | fail)
    go_ret2
    rw [HE.out.1, HE.out.2, HLN.out]
    exact ⟨_, _, rfl, HOB.out, HBB.out⟩
  have HE := Lib.hid (set_goodT HL.out (okT_yes HK1.out HK2.out hab))
  have t9 : (m.a == m.b) = false := by simpa using hab
  clear hab hr
  go_wp2_with (first | (go_at_call 37; with_reducible refine (in_q HK1.out _).mono ?_; (rintro e w9 ⟨rfl, rfl⟩)) | (go_at_call 37; with_reducible refine (in_q HK2.out _).mono ?_; (rintro e w9 ⟨rfl, rfl⟩)) | fail)
  clear t9
  go_loop [8] (fun i => ∃ k : Nat, k ≤ n ∧ i = .int .i64 k ∧ ∀ (j : Nat) (x : E2), j < k → l[j]? = some x → decide (x.a < m.a) = true) (fun i => n - (intOf i).toNat)
  case atStart => exact ⟨0, by omega, rfl, fun j x h => absurd h (by omega)⟩
  case round =>
    obtain ⟨k, hk, rfl, hP⟩ := hrel
    have HP := Lib.hid hP
    clear hP
    have HV := Lib.hid (H1.out.below (below_le HB2.out hB))
    by_cases hlt : k < n
    · obtain ⟨b, o, y, rfl, hbB, hx, a0, a1⟩ := HV.out.at_ hlt
      have HX := Lib.hid hx
      have hki : (k : Int) < (n : Int) := by omega
      clear hx
      by_cases hq : y.a < m.a
      · have tq : decide (y.a < m.a) = true := decide_eq_true hq
        go_wp2_with fail
        go_round
        case rel => exact ⟨k + 1, by omega, by go_num, all_step (p := fun x => decide (x.a < m.a)) HP.out HX.out tq⟩
        case measure => simp [intOf]; omega
      have tq : decide (y.a < m.a) = false := decide_eq_false hq
      have HPS : Hid (posW m.a l = k) := Lib.hid (posW_is l k HP.out (by have := HLN.out; omega) fun x hx => by rw [HX.out] at hx; injection hx with hx; subst hx; exact hq)
      have hkc : (k : Int) ≤ (c : Int) := by omega
      have hkn : (k : Int) ≤ (n : Int) := by omega
      have hck : ¬ c = k := by omega
      by_cases hya : y.a = m.a
      · have ty : (y.a == m.a) = true := by simpa using hya
        have HI := Lib.hid (insW_hit HPS.out HX.out hya)
        have hk1 : (k : Int) + 1 ≤ (n : Int) := by omega
        have hk2 : (n : Int) ≤ (c : Int) := by omega
        have hk3 : (k : Int) + 1 ≤ (c : Int) := by omega
        have hk0 : (0 : Int) ≤ (k : Int) + 1 := by omega
        have hkt : ((k : Int) + 1).toNat = k + 1 := by omega
        have HLX : Hid ((insW m l).length = k + 1 + (n - (k + 1))) := Lib.hid (by rw [HI.out, List.length_append, List.length_cons, List.length_take, List.length_drop]; have := HLN.out; omega)
        clear hya
        by_cases hcc : c = k + 1
        · obtain rfl : n = k + 1 := by omega
          have hd0 : Hid (l.drop (k + 1) = []) := Lib.hid (List.drop_of_length_le (by have := HLN.out; omega))
          obtain ⟨A3, c3, X1, r1, o1, g1, b1⟩ := app_x (c := c) (W2.alloc (.cells #[] 36)) (own_empty W2 36 W2.heap.size (Nat.le_refl _)) (show Vs (W2.alloc (.cells #[] 36)) B _ _ _ from Vs.take (k := k) (H1.out.below (below_le (HB2.out.trans ((new1 W2 (.cells #[] 36)).mono HB2.out.size)) hB)) (by omega)) (by omega) (by simp)
          rw [Nat.zero_add, List.nil_append] at o1
          rw [Nat.zero_add] at r1
          have bE := new1 W2 (.cells #[] 36)
          have hx1 : W2.heap.size ≤ X1.heap.size := Nat.le_trans bE.size b1.size
          have bM := new1 X1 (.cells #[.int .i64 m.a, .int .i64 m.b] 36)
          have vM := one_vs (boxed X1 m 36)
          obtain ⟨A4, c4, X3, r2, o2, g2, b2⟩ := app_x (c := 1) (X1.alloc (.cells #[.int .i64 m.a, .int .i64 m.b] 36)) (own_keep o1 bM) vM (by omega) (by simp; omega)
          have BX : Below W2.heap.size W2 X3 := ((bE.trans b1).trans (bM.mono hx1)).trans b2
          have vD := Vs.nil_ X3 B (some ⟨b, o, none⟩)
          obtain ⟨A5, c5, X4, r3, o3, g3, b3⟩ := app_x (c := c - (k + 1)) X3 o2 vD (by omega) BX.size
          have FO := Lib.hid (own_more o3 HB2.out.size)
          have FB := Lib.hid (HB2.out.trans ((BX.trans b3).mono HB2.out.size))
          obtain ⟨b', o', y', ee, _, hy2, d0, d1⟩ := (H1.out.below (below_le (HB2.out.trans (BX.mono HB2.out.size)) hB)).at_ hlt
          rw [HX.out] at hy2
          injection hy2 with hy2
          injection ee with ee
          injection ee with ee1 ee2
          subst hy2 ee1 ee2
          clear o1 g1 b1 bE bM vM o2 g2 b2 BX vD o3 g3 b3
          go_wp2_with (first | (at_builtin; refine Lib.wpList_append_run _ rfl _ _ 24 24 rfl _ _ rfl rfl _ _ r1 ?_; clear r1) | (at_builtin; refine Lib.wpList_append_run _ rfl _ _ 24 24 rfl _ _ rfl rfl _ _ r2 ?_; clear r2) | (at_builtin; refine Lib.wpList_append_run _ rfl _ _ 24 24 rfl _ _ rfl rfl _ _ r3 ?_; clear r3) | fail)
          go_ret2
          rw [HE.out.1, HE.out.2, HLX.out, HI.out]
          rw [hd0.out, Nat.sub_self]
          exact ⟨_, _, rfl, by have := FO.out; rw [app_snoc] at this; exact this, FB.out⟩
        · obtain ⟨A3, c3, X1, r1, o1, g1, b1⟩ := app_x (c := c) (W2.alloc (.cells #[] 36)) (own_empty W2 36 W2.heap.size (Nat.le_refl _)) (show Vs (W2.alloc (.cells #[] 36)) B _ _ _ from Vs.take (k := k) (H1.out.below (below_le (HB2.out.trans ((new1 W2 (.cells #[] 36)).mono HB2.out.size)) hB)) (by omega)) (by omega) (by simp)
          rw [Nat.zero_add, List.nil_append] at o1
          rw [Nat.zero_add] at r1
          have bE := new1 W2 (.cells #[] 36)
          have hx1 : W2.heap.size ≤ X1.heap.size := Nat.le_trans bE.size b1.size
          have bM := new1 X1 (.cells #[.int .i64 m.a, .int .i64 m.b] 36)
          have vM := one_vs (boxed X1 m 36)
          obtain ⟨A4, c4, X3, r2, o2, g2, b2⟩ := app_x (c := 1) (X1.alloc (.cells #[.int .i64 m.a, .int .i64 m.b] 36)) (own_keep o1 bM) vM (by omega) (by simp; omega)
          have BX : Below W2.heap.size W2 X3 := ((bE.trans b1).trans (bM.mono hx1)).trans b2
          have vD := Vs.drop (k := k + 1) (H1.out.below (below_le (HB2.out.trans (BX.mono HB2.out.size)) hB)) (by omega)
          obtain ⟨A5, c5, X4, r3, o3, g3, b3⟩ := app_x (c := c - (k + 1)) X3 o2 vD (by omega) BX.size
          have FO := Lib.hid (own_more o3 HB2.out.size)
          have FB := Lib.hid (HB2.out.trans ((BX.trans b3).mono HB2.out.size))
          obtain ⟨b', o', y', ee, _, hy2, d0, d1⟩ := (H1.out.below (below_le (HB2.out.trans (BX.mono HB2.out.size)) hB)).at_ hlt
          rw [HX.out] at hy2
          injection hy2 with hy2
          injection ee with ee
          injection ee with ee1 ee2
          subst hy2 ee1 ee2
          clear o1 g1 b1 bE bM vM o2 g2 b2 BX vD o3 g3 b3
          go_wp2_with (first | (at_builtin; refine Lib.wpList_append_run _ rfl _ _ 24 24 rfl _ _ rfl rfl _ _ r1 ?_; clear r1) | (at_builtin; refine Lib.wpList_append_run _ rfl _ _ 24 24 rfl _ _ rfl rfl _ _ r2 ?_; clear r2) | (at_builtin; refine Lib.wpList_append_run _ rfl _ _ 24 24 rfl _ _ rfl rfl _ _ r3 ?_; clear r3) | fail)
          go_ret2
          rw [HE.out.1, HE.out.2, HLX.out, HI.out]
          exact ⟨_, _, rfl, by have := FO.out; rw [app_snoc] at this; exact this, FB.out⟩
      · have ty : (y.a == m.a) = false := by simpa using hya
        have HI := Lib.hid (insW_miss HPS.out HX.out hya)
        have HLX : Hid ((insW m l).length = k + 1 + (n - k)) := Lib.hid (by rw [HI.out, List.length_append, List.length_cons, List.length_take, List.length_drop]; have := HLN.out; omega)
        clear hya
        obtain ⟨A3, c3, X1, r1, o1, g1, b1⟩ := app_x (c := c) (W2.alloc (.cells #[] 36)) (own_empty W2 36 W2.heap.size (Nat.le_refl _)) (show Vs (W2.alloc (.cells #[] 36)) B _ _ _ from Vs.take (k := k) (H1.out.below (below_le (HB2.out.trans ((new1 W2 (.cells #[] 36)).mono HB2.out.size)) hB)) (by omega)) (by omega) (by simp)
        rw [Nat.zero_add, List.nil_append] at o1
        rw [Nat.zero_add] at r1
        have bE := new1 W2 (.cells #[] 36)
        have hx1 : W2.heap.size ≤ X1.heap.size := Nat.le_trans bE.size b1.size
        have bM := new1 X1 (.cells #[.int .i64 m.a, .int .i64 m.b] 36)
        have vM := one_vs (boxed X1 m 36)
        obtain ⟨A4, c4, X3, r2, o2, g2, b2⟩ := app_x (c := 1) (X1.alloc (.cells #[.int .i64 m.a, .int .i64 m.b] 36)) (own_keep o1 bM) vM (by omega) (by simp; omega)
        have BX : Below W2.heap.size W2 X3 := ((bE.trans b1).trans (bM.mono hx1)).trans b2
        have vD := Vs.drop (k := k) (H1.out.below (below_le (HB2.out.trans (BX.mono HB2.out.size)) hB)) (by omega)
        obtain ⟨A5, c5, X4, r3, o3, g3, b3⟩ := app_x (c := c - k) X3 o2 vD (by omega) BX.size
        have FO := Lib.hid (own_more o3 HB2.out.size)
        have FB := Lib.hid (HB2.out.trans ((BX.trans b3).mono HB2.out.size))
        obtain ⟨b', o', y', ee, _, hy2, d0, d1⟩ := (H1.out.below (below_le (HB2.out.trans (BX.mono HB2.out.size)) hB)).at_ hlt
        rw [HX.out] at hy2
        injection hy2 with hy2
        injection ee with ee
        injection ee with ee1 ee2
        subst hy2 ee1 ee2
        clear o1 g1 b1 bE bM vM o2 g2 b2 BX vD o3 g3 b3
        go_wp2_with (first | (at_builtin; refine Lib.wpList_append_run _ rfl _ _ 24 24 rfl _ _ rfl rfl _ _ r1 ?_; clear r1) | (at_builtin; refine Lib.wpList_append_run _ rfl _ _ 24 24 rfl _ _ rfl rfl _ _ r2 ?_; clear r2) | (at_builtin; refine Lib.wpList_append_run _ rfl _ _ 24 24 rfl _ _ rfl rfl _ _ r3 ?_; clear r3) | fail)
        go_ret2
        rw [HE.out.1, HE.out.2, HLX.out, HI.out]
        exact ⟨_, _, rfl, by have := FO.out; rw [app_snoc] at this; exact this, FB.out⟩
    · obtain rfl : n = k := by omega
      have hki : ¬ (n : Int) < (n : Int) := by omega
      have HPS : Hid (posW m.a l = n) := Lib.hid (posW_is l n HP.out (by have := HLN.out; omega) fun x hx => by rw [List.getElem?_eq_none (by have := HLN.out; omega)] at hx; cases hx)
      have HI := Lib.hid (insW_end HPS.out (by have := HLN.out; omega))
      have HLX : Hid ((insW m l).length = n + 1 + 0) := Lib.hid (by rw [HI.out, List.length_append, List.length_cons, List.length_nil, List.length_take]; have := HLN.out; omega)
      have hkc : (n : Int) ≤ (c : Int) := by omega
      have hnn : (n : Int) ≤ (n : Int) := Int.le_refl _
      rcases HA.out with ⟨rfl, hc0⟩ | ⟨ab, ao, rfl⟩
      · subst hc0
        obtain rfl : n = 0 := by omega
        obtain ⟨A3, c3, X1, r1, o1, g1, b1⟩ := app_x (c := 0) (W2.alloc (.cells #[] 36)) (own_empty W2 36 W2.heap.size (Nat.le_refl _)) (show Vs (W2.alloc (.cells #[] 36)) B _ _ _ from Vs.take (k := 0) (H1.out.below (below_le (HB2.out.trans ((new1 W2 (.cells #[] 36)).mono HB2.out.size)) hB)) (by omega)) (by omega) (by simp)
        rw [Nat.zero_add, List.nil_append] at o1
        rw [Nat.zero_add] at r1
        have bE := new1 W2 (.cells #[] 36)
        have hx1 : W2.heap.size ≤ X1.heap.size := Nat.le_trans bE.size b1.size
        have bM := new1 X1 (.cells #[.int .i64 m.a, .int .i64 m.b] 36)
        have vM := one_vs (boxed X1 m 36)
        obtain ⟨A4, c4, X3, r2, o2, g2, b2⟩ := app_x (c := 1) (X1.alloc (.cells #[.int .i64 m.a, .int .i64 m.b] 36)) (own_keep o1 bM) vM (by omega) (by simp; omega)
        have BX : Below W2.heap.size W2 X3 := ((bE.trans b1).trans (bM.mono hx1)).trans b2
        have vD := Vs.nil_ X3 B none
        obtain ⟨A5, c5, X4, r3, o3, g3, b3⟩ := app_x (c := 0) X3 o2 vD (by omega) BX.size
        have FO := Lib.hid (own_more o3 HB2.out.size)
        have FB := Lib.hid (HB2.out.trans ((BX.trans b3).mono HB2.out.size))
        clear o1 g1 b1 bE bM vM o2 g2 b2 BX vD o3 g3 b3
        go_wp2_with (first | (at_builtin; refine Lib.wpList_append_run _ rfl _ _ 24 24 rfl _ _ rfl rfl _ _ r1 ?_; clear r1) | (at_builtin; refine Lib.wpList_append_run _ rfl _ _ 24 24 rfl _ _ rfl rfl _ _ r2 ?_; clear r2) | (at_builtin; refine Lib.wpList_append_run _ rfl _ _ 24 24 rfl _ _ rfl rfl _ _ r3 ?_; clear r3) | fail)
        go_ret2
        rw [HE.out.1, HE.out.2, HLX.out, HI.out]
        exact ⟨_, _, rfl, by have := FO.out; rw [app_snoc] at this; exact this, FB.out⟩
      · by_cases hcn : c = n
        · subst hcn
          obtain ⟨A3, c3, X1, r1, o1, g1, b1⟩ := app_x (c := c) (W2.alloc (.cells #[] 36)) (own_empty W2 36 W2.heap.size (Nat.le_refl _)) (show Vs (W2.alloc (.cells #[] 36)) B _ _ _ from Vs.take (k := c) (H1.out.below (below_le (HB2.out.trans ((new1 W2 (.cells #[] 36)).mono HB2.out.size)) hB)) (by omega)) (by omega) (by simp)
          rw [Nat.zero_add, List.nil_append] at o1
          rw [Nat.zero_add] at r1
          have bE := new1 W2 (.cells #[] 36)
          have hx1 : W2.heap.size ≤ X1.heap.size := Nat.le_trans bE.size b1.size
          have bM := new1 X1 (.cells #[.int .i64 m.a, .int .i64 m.b] 36)
          have vM := one_vs (boxed X1 m 36)
          obtain ⟨A4, c4, X3, r2, o2, g2, b2⟩ := app_x (c := 1) (X1.alloc (.cells #[.int .i64 m.a, .int .i64 m.b] 36)) (own_keep o1 bM) vM (by omega) (by simp; omega)
          have BX : Below W2.heap.size W2 X3 := ((bE.trans b1).trans (bM.mono hx1)).trans b2
          have vD := Vs.nil_ X3 B (some ⟨ab, ao, none⟩)
          obtain ⟨A5, c5, X4, r3, o3, g3, b3⟩ := app_x (c := c - c) X3 o2 vD (by omega) BX.size
          have FO := Lib.hid (own_more o3 HB2.out.size)
          have FB := Lib.hid (HB2.out.trans ((BX.trans b3).mono HB2.out.size))
          clear o1 g1 b1 bE bM vM o2 g2 b2 BX vD o3 g3 b3
          rw [Nat.sub_self] at r3
          go_wp2_with (first | (at_builtin; refine Lib.wpList_append_run _ rfl _ _ 24 24 rfl _ _ rfl rfl _ _ r1 ?_; clear r1) | (at_builtin; refine Lib.wpList_append_run _ rfl _ _ 24 24 rfl _ _ rfl rfl _ _ r2 ?_; clear r2) | (at_builtin; refine Lib.wpList_append_run _ rfl _ _ 24 24 rfl _ _ rfl rfl _ _ r3 ?_; clear r3) | fail)
          go_ret2
          rw [HE.out.1, HE.out.2, HLX.out, HI.out]
          exact ⟨_, _, rfl, by have := FO.out; rw [app_snoc] at this; exact this, FB.out⟩
        · obtain ⟨A3, c3, X1, r1, o1, g1, b1⟩ := app_x (c := c) (W2.alloc (.cells #[] 36)) (own_empty W2 36 W2.heap.size (Nat.le_refl _)) (show Vs (W2.alloc (.cells #[] 36)) B _ _ _ from Vs.take (k := n) (H1.out.below (below_le (HB2.out.trans ((new1 W2 (.cells #[] 36)).mono HB2.out.size)) hB)) (by omega)) (by omega) (by simp)
          rw [Nat.zero_add, List.nil_append] at o1
          rw [Nat.zero_add] at r1
          have bE := new1 W2 (.cells #[] 36)
          have hx1 : W2.heap.size ≤ X1.heap.size := Nat.le_trans bE.size b1.size
          have bM := new1 X1 (.cells #[.int .i64 m.a, .int .i64 m.b] 36)
          have vM := one_vs (boxed X1 m 36)
          obtain ⟨A4, c4, X3, r2, o2, g2, b2⟩ := app_x (c := 1) (X1.alloc (.cells #[.int .i64 m.a, .int .i64 m.b] 36)) (own_keep o1 bM) vM (by omega) (by simp; omega)
          have BX : Below W2.heap.size W2 X3 := ((bE.trans b1).trans (bM.mono hx1)).trans b2
          have vD := Vs.nil_ X3 B (some ⟨ab, ao + n * 2, none⟩)
          obtain ⟨A5, c5, X4, r3, o3, g3, b3⟩ := app_x (c := c - n) X3 o2 vD (by omega) BX.size
          have FO := Lib.hid (own_more o3 HB2.out.size)
          have FB := Lib.hid (HB2.out.trans ((BX.trans b3).mono HB2.out.size))
          clear o1 g1 b1 bE bM vM o2 g2 b2 BX vD o3 g3 b3
          go_wp2_with (first | (at_builtin; refine Lib.wpList_append_run _ rfl _ _ 24 24 rfl _ _ rfl rfl _ _ r1 ?_; clear r1) | (at_builtin; refine Lib.wpList_append_run _ rfl _ _ 24 24 rfl _ _ rfl rfl _ _ r2 ?_; clear r2) | (at_builtin; refine Lib.wpList_append_run _ rfl _ _ 24 24 rfl _ _ rfl rfl _ _ r3 ?_; clear r3) | fail)
          go_ret2
          rw [HE.out.1, HE.out.2, HLX.out, HI.out]
          exact ⟨_, _, rfl, by have := FO.out; rw [app_snoc] at this; exact this, FB.out⟩
theorem spec_set {w : World} {B n c : Nat} {A : Option Addr} {l : List E2} (i o : Int) (hn : n ≤ 1048576) (hc : n ≤ c) (hA : (A = none ∧ c = 0) ∨ ∃ b o, A = some ⟨b, o, none⟩) (h1 : Vs w B A n l) (hB : B ≤ w.heap.size) :
    Calls Try.prog 12 #[.slice A n c, .int .i64 i, .int .i64 o] w fun e w' => ∃ A' c', e = .returned (.tuple #[.slice A' (setL l i o).length c', .bool (setB l i o)]) ∧ w'.ownsRow w.heap.size 36 2 (.slice A' (setL l i o).length c') (setL l i o).length (flat (setL l i o)) ∧ Below w.heap.size w w' := spec_setm ⟨i, o⟩ hn hc hA h1 hB
end Go.Proofs.Ytcfmpnhnahafpaa.wtm
