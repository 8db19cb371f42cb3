/- WouldDeadlock of the program and of the model: what each answers. -/
import Derived.Test.YtcfmpnhnahafpaaWtm
import Derived.Test.YtcfmpnhnahafpaaWtn
import Derived.Test.YtcfmpnhnahafpaaVow
namespace Go.Proofs.Ytcfmpnhnahafpaa.wtw
open Go.ChangeShapes Go.WideShapes Go.ChangeAt Go.RowKit
open Go.Proofs.Ytcfmpnhnahafpaa.el2 Go.Proofs.Ytcfmpnhnahafpaa.seq Go.Proofs.Ytcfmpnhnahafpaa.ints Go.Proofs.Ytcfmpnhnahafpaa.owi Go.Proofs.Ytcfmpnhnahafpaa.wt Go.Proofs.Ytcfmpnhnahafpaa.wts Go.Proofs.Ytcfmpnhnahafpaa.wtm Go.Proofs.Ytcfmpnhnahafpaa.wtc Go.Proofs.Ytcfmpnhnahafpaa.wtn
open Go.Proofs.Ytcfmpnhnahafpaa.vers (ret_b)
open Go.Proofs.Ytcfmpnhnahafpaa.vow (vs_ownk)
set_option linter.unusedVariables false
set_option linter.unusedSimpArgs false
theorem dd_no {l : List E2} {i o : Int} (h : setB l i o = false) : false = ddB l i o := by unfold ddB; rw [h]; rfl
theorem dd_yes {l : List E2} {i o z : Int} (h : setB l i o = true) (hz : (chL (setL l i o) i).getLast? = some z) : decide (z = i) = ddB l i o := by
  unfold ddB
  rw [h, hz, Bool.true_and]
  simp
/-- the last of a chain behind a wait -/
theorem ch_last {l : List E2} {i o : Int} (h : setB l i o = true) : ∃ m z, (chL (setL l i o) i).length = m ∧ 2 ≤ m ∧ m ≤ 10 ∧ (chL (setL l i o) i)[m - 1]? = some z ∧ (chL (setL l i o) i).getLast? = some z := by
  obtain ⟨r, hr⟩ := ch_set h
  have h10 := chL_len (setL l i o) i
  have h2 : 2 ≤ (chL (setL l i o) i).length := by rw [hr]; simp
  refine ⟨_, (chL (setL l i o) i)[(chL (setL l i o) i).length - 1], rfl, h2, h10, List.getElem?_eq_getElem (by omega), ?_⟩
  rw [List.getLast?_eq_getElem?]
  exact List.getElem?_eq_getElem (by omega)
/-- the form of a row of one's own -/
theorem own_shape {w : World} {e : TypeId} {base n c : Nat} {A : Option Addr} {xs : List Value} (h : w.ownsRow base e 2 (.slice A n c) n xs) : n ≤ c ∧ ((A = none ∧ c = 0) ∨ ∃ b o, A = some ⟨b, o, none⟩) := by
  rcases h.2 with ⟨hv, h0⟩ | ⟨g, cap, cur, hv, _, _, hnc, _⟩
  · injection hv with e1 e2 e3
    exact ⟨by omega, .inl ⟨e1, e3⟩⟩
  · injection hv with e1 e2 e3
    exact ⟨by omega, .inr ⟨g, 0, e1⟩⟩
set_option maxRecDepth 100000 in
set_option maxHeartbeats 1600000 in
theorem impl_wd {w : World} {B n c : Nat} {A : Option Addr} {l : List E2} (i o : Int) (hn : n ≤ 1048576) (h1 : Vs w B A n l) (hB : B ≤ w.heap.size) :
    Calls Try.prog 15 #[.slice A n c, .int .i64 i, .int .i64 o] w fun e w' => e = .returned (.bool (ddB l i o)) ∧ Below w.heap.size w w' := by
  have H1 := Lib.hid h1
  have HLN := Lib.hid h1.1
  clear h1
  go_enter Try.func15, Try.ntmps15
  go_wp2_with fail
  refine (impl_set i o (by omega) H1.out hB).mono ?_
  rintro e W1 ⟨A1, c1, he, ho, hb⟩
  obtain ⟨nx, hnx⟩ : ∃ k, (setL l i o).length = k := ⟨_, rfl⟩
  have hx : nx ≤ 1048576 := by have := set_small l i o; rw [hnx, HLN.out] at this; omega
  rw [hnx] at he ho
  have HB1 := Lib.hid hb
  have HV1 := Lib.hid (vs_ownk ho hnx)
  clear hb ho hnx
  rcases hq : setB l i o with _ | _
  · rw [hq] at he
    subst he
    have HD := Lib.hid (dd_no hq)
    clear hq
    go_wp2_with fail
    go_ret
    exact ⟨ret_b HD.out, HB1.out⟩
  rw [hq] at he
  subst he
  obtain ⟨m, z, hm, hm2, hm10, hz, hlast⟩ := ch_last hq
  have HD := Lib.hid (dd_yes hq hlast)
  have HZ := Lib.hid hz
  have HM := Lib.hid hm
  clear hq hz hlast hm
  go_wp2_with fail
  refine (impl_wc i hx HV1.out (Nat.le_refl _)).mono ?_
  rintro e W2 ⟨A2, c2, he, ho2, hb2⟩
  rw [HM.out] at he ho2
  subst he
  have HB2 := Lib.hid (HB1.out.trans (hb2.mono HB1.out.size))
  obtain ⟨b, p, y, rfl, hbB, hy, a0⟩ := (Go.Proofs.Ytcfmpnhnahafpaa.wtc.is_own ho2 HM.out hb2.size).at_ (k := m - 1) (by omega)
  rw [HZ.out] at hy
  injection hy with hy
  subst hy
  have s1 : ((m : Int) - 1).toNat = m - 1 := by omega
  have s2 : (0 : Int) ≤ (m : Int) - 1 := by omega
  have s3 : (m : Int) - 1 < (m : Int) := by omega
  have s4 : decide ((1 : Int) < (m : Int)) = true := decide_eq_true (by omega)
  have s5 : decide (1 < m) = true := decide_eq_true (by omega)
  have s6 : IntKind.i64.wrap ((m : Int) - 1) = (m : Int) - 1 := IntWalk.i64_in _ (by omega)
  clear ho2 hb2
  by_cases hzi : z = i
  · have t : (z == i) = true := by simpa using hzi
    have HT := Lib.hid hzi
    clear hzi
    go_wp2_with fail
    go_ret
    exact ⟨ret_b (by rw [← HD.out]; exact (decide_eq_true HT.out).symm), HB2.out⟩
  · have t : (z == i) = false := by simpa using hzi
    have HT := Lib.hid hzi
    clear hzi
    go_wp2_with fail
    go_ret
    exact ⟨ret_b (by rw [← HD.out]; exact (decide_eq_false HT.out).symm), HB2.out⟩
set_option maxRecDepth 100000 in
set_option maxHeartbeats 1600000 in
theorem spec_wd {w : World} {B n c : Nat} {A : Option Addr} {l : List E2} (i o : Int) (hn : n ≤ 1048576) (hc : n ≤ c) (hA : (A = none ∧ c = 0) ∨ ∃ b o, A = some ⟨b, o, none⟩) (h1 : Vs w B A n l) (hB : B ≤ w.heap.size) :
    Calls Try.prog 16 #[.slice A n c, .int .i64 i, .int .i64 o] w fun e w' => e = .returned (.bool (ddB l i o)) ∧ Below w.heap.size w w' := by
  have H1 := Lib.hid h1
  have HLN := Lib.hid h1.1
  clear h1
  have HA := Lib.hid hA
  clear hA
  go_enter Try.func16, Try.ntmps16
  go_wp2_with fail
  refine (spec_set i o (by omega) hc HA.out H1.out hB).mono ?_
  rintro e W1 ⟨A1, c1, he, ho, hb⟩
  obtain ⟨nx, hnx⟩ : ∃ k, (setL l i o).length = k := ⟨_, rfl⟩
  have hx : nx ≤ 1048576 := by have := set_small l i o; rw [hnx, HLN.out] at this; omega
  rw [hnx] at he ho
  have HB1 := Lib.hid hb
  have HV1 := Lib.hid (vs_ownk ho hnx)
  clear hb ho hnx
  rcases hq : setB l i o with _ | _
  · rw [hq] at he
    subst he
    have HD := Lib.hid (dd_no hq)
    clear hq
    go_wp2_with fail
    go_ret
    exact ⟨ret_b HD.out, HB1.out⟩
  rw [hq] at he
  subst he
  obtain ⟨m, z, hm, hm2, hm10, hz, hlast⟩ := ch_last hq
  have HD := Lib.hid (dd_yes hq hlast)
  have HZ := Lib.hid hz
  have HM := Lib.hid hm
  clear hq hz hlast hm
  go_wp2_with fail
  refine (spec_wc i hx HV1.out (Nat.le_refl _)).mono ?_
  rintro e W2 ⟨A2, c2, he, ho2, hb2⟩
  rw [HM.out] at he ho2
  subst he
  have HB2 := Lib.hid (HB1.out.trans (hb2.mono HB1.out.size))
  obtain ⟨b, p, y, rfl, hbB, hy, a0⟩ := (Go.Proofs.Ytcfmpnhnahafpaa.wtc.is_own ho2 HM.out hb2.size).at_ (k := m - 1) (by omega)
  rw [HZ.out] at hy
  injection hy with hy
  subst hy
  have s1 : ((m : Int) - 1).toNat = m - 1 := by omega
  have s2 : (0 : Int) ≤ (m : Int) - 1 := by omega
  have s3 : (m : Int) - 1 < (m : Int) := by omega
  have s4 : decide ((1 : Int) < (m : Int)) = true := decide_eq_true (by omega)
  have s5 : decide (1 < m) = true := decide_eq_true (by omega)
  have s6 : IntKind.i64.wrap ((m : Int) - 1) = (m : Int) - 1 := IntWalk.i64_in _ (by omega)
  clear ho2 hb2
  by_cases hzi : z = i
  · have t : (z == i) = true := by simpa using hzi
    have HT := Lib.hid hzi
    clear hzi
    go_wp2_with fail
    go_ret
    exact ⟨ret_b (by rw [← HD.out]; exact (decide_eq_true HT.out).symm), HB2.out⟩
  · have t : (z == i) = false := by simpa using hzi
    have HT := Lib.hid hzi
    clear hzi
    go_wp2_with fail
    go_ret
    exact ⟨ret_b (by rw [← HD.out]; exact (decide_eq_false HT.out).symm), HB2.out⟩
end Go.Proofs.Ytcfmpnhnahafpaa.wtw
