/- WaitChain of the model: what it answers, in memory of its own. -/
import Derived.Test.YtcfmpnhnahafpaaWtc
import Derived.Test.YtcfmpnhnahafpaaLkr
import Derived.WalkMore
import Derived.ScopeJumps
namespace Go.Proofs.Ytcfmpnhnahafpaa.wtn
open Go.ChangeShapes Go.WideShapes Go.ChangeAt Go.RowKit
open Go.Proofs.Ytcfmpnhnahafpaa.el2 Go.Proofs.Ytcfmpnhnahafpaa.seq Go.Proofs.Ytcfmpnhnahafpaa.pw Go.Proofs.Ytcfmpnhnahafpaa.mw Go.Proofs.Ytcfmpnhnahafpaa.ints Go.Proofs.Ytcfmpnhnahafpaa.owi Go.Proofs.Ytcfmpnhnahafpaa.wt Go.Proofs.Ytcfmpnhnahafpaa.wta Go.Proofs.Ytcfmpnhnahafpaa.wtf Go.Proofs.Ytcfmpnhnahafpaa.wtc
open Go.Proofs.Ytcfmpnhnahafpaa.vers (In in_yes in_no in_of in_off ret_b)
open Go.Proofs.Ytcfmpnhnahafpaa.lk (ownI own_none own_mem)
open Go.Proofs.Ytcfmpnhnahafpaa.lka (in_q is_id id_q)
open Go.Proofs.Ytcfmpnhnahafpaa.wk (own_made0 grown_i)
open Go.Proofs.Ytcfmpnhnahafpaa.bx (own_more)
set_option linter.unusedVariables false
set_option linter.unusedSimpArgs false
/-- what holds in the model's loop -/
def CW (l : List E2) (i : Int) (out : List Int) (x : Int) : Prop := (wtB l = true → Ch l i out x) ∧ (wtB l = false → out = [])
theorem cw_off {l : List E2} {i x : Int} {out : List Int} (h : CW l i out x) (hx : wtB l = false ∨ ¬ (0 < x ∧ x ≤ 9)) : chL l i = out := by
  rcases hl : wtB l with _ | _
  · rw [h.2 hl]; exact chw_bad (.inl hl)
  · rcases hx with hx | hx
    · rw [hl] at hx; cases hx
    · exact (h.1 hl).stop hx
theorem cw_len {l : List E2} {i x : Int} {out : List Int} (h : CW l i out x) : out.length ≤ 9 := by
  rcases hl : wtB l with _ | _
  · rw [h.2 hl]; simp
  · exact (h.1 hl).len
set_option maxRecDepth 100000 in
set_option maxHeartbeats 3200000 in
theorem spec_wc {w : World} {B n c : Nat} {A : Option Addr} {l : List E2} (i : Int) (hn : n ≤ 1048576) (h1 : Vs w B A n l) (hB : B ≤ w.heap.size) :
    Calls Try.prog 19 #[.slice A n c, .int .i64 i] w fun e w' => ∃ A' c', e = .returned (.slice A' (chL l i).length c') ∧ w'.ownsRow w.heap.size 3 1 (.slice A' (chL l i).length c') (chL l i).length (mi (chL l i)) ∧ Below w.heap.size w w' := by
  have H1 := Lib.hid h1
  clear h1
  obtain ⟨i0, hi, hz, hs, hby⟩ := info_parts info_i
  have HI := Lib.hid hi
  have HZ := Lib.hid hz
  have HS := Lib.hid hs
  have HBY := Lib.hid hby
  clear hi hz hs hby
  go_enter Try.func19, Try.ntmps19
  go_wp2_with fail
  have hE := own_made0 w w.heap.size (Nat.le_refl _)
  have hb0 := new1 w (.cells #[] 3)
  generalize w.alloc _ = W0 at hE hb0 ⊢
  have E0 := Lib.hid hE
  have B0 := Lib.hid hb0
  clear hE hb0
  try go_wp2_with fail
  go_loopw [5, 6] (fun q z wr => ∃ (out : List Int) (m c5 : Nat) (x : Int) (A5 : Option Addr), out.length = m ∧ z = .int .i64 x ∧ q = .slice A5 m c5 ∧ CW l i out x ∧ wr.ownsRow w.heap.size 3 1 (.slice A5 m c5) m (mi out) ∧ Below w.heap.size w wr) (fun q _ _ => 10 - lenOf q)
  case atStart => exact ⟨[], 0, 0, i, _, rfl, rfl, rfl, ⟨fun h => Ch.start h, fun _ => rfl⟩, by simpa using E0.out, B0.out⟩
  case round =>
    obtain ⟨out, m, c5, x, A5, hm, rfl, rfl, hC, ho, hb⟩ := hrel
    have hm9 : m ≤ 9 := by rw [← hm]; exact cw_len hC
    have HM := Lib.hid hm
    have HC := Lib.hid hC
    have HO := Lib.hid ho
    have HB := Lib.hid hb
    clear hm hC ho hb
    by_cases h0 : 0 < x
    case neg =>
      have t0 : decide (0 < x) = false := decide_eq_false h0
      have HE := Lib.hid (cw_off HC.out (.inr fun h => h0 h.1))
      clear h0
      go_wp2_with fail
      go_ret
      rw [HE.out, HM.out]
      exact ⟨_, _, rfl, HO.out, HB.out⟩
    have t0 : decide (0 < x) = true := decide_eq_true h0
    have HX0 := Lib.hid h0
    clear h0
    go_wp2_with fail
    refine (wt_spec (by omega) (H1.out.below (below_le HB.out hB)) (by have := HB.out.size; omega)).mono ?_
    rintro e W2 ⟨he, hb2⟩
    have HB2 := Lib.hid (HB.out.trans (hb2.mono HB.out.size))
    have HO2 := Lib.hid (own_keep HO.out hb2)
    clear hb2
    rcases hl : wtB l with _ | _
    · rw [hl] at he
      subst he
      have HE := Lib.hid (cw_off HC.out (.inl hl))
      clear hl
      go_wp2_with fail
      go_ret
      rw [HE.out, HM.out]
      exact ⟨_, _, rfl, HO2.out, HB2.out⟩
    rw [hl] at he
    subst he
    have HL := Lib.hid hl
    clear hl
    by_cases h9 : x ≤ 9
    case neg =>
      have t9 : decide (x ≤ 9) = false := decide_eq_false h9
      have HE := Lib.hid (cw_off HC.out (.inr fun h => h9 h.2))
      clear h9
      go_wp2_with fail
      go_ret
      rw [HE.out, HM.out]
      exact ⟨_, _, rfl, HO2.out, HB2.out⟩
    have t9 : decide (x ≤ 9) = true := decide_eq_true h9
    have HX9 := Lib.hid h9
    clear h9
    have hsz := HB2.out.size
    have hn1 := new1 W2 (.cells #[.int .i64 x] 3)
    have hO3 := own_keep HO2.out hn1
    have hone : (W2.alloc (.cells #[.int .i64 x] 3)).cell? ⟨W2.heap.size, 0, none⟩ = some (.int .i64 x) := World.cell?_alloc_mark W2 _ 3 _ 0
    obtain ⟨v', w4, hr, ho4, hg4⟩ := run_append_i (P := Try.prog) (W2.alloc (.cells #[.int .i64 x] 3)) 31 31 3 i0 _ Try.underlying31 HI.out HZ.out HS.out HBY.out rfl hO3 hone (c := 1) (by omega) (by simp; omega)
    have hb4 : Below w.heap.size w w4 := (HB2.out.trans (hn1.mono hsz)).trans (grown_i hO3 hg4 (by simp; omega))
    obtain ⟨A4, c4, rfl⟩ := own_form ho4
    have O4 := Lib.hid ho4
    have B4 := Lib.hid hb4
    clear hO3 hone hn1 ho4 hg4 hb4 hsz
    have HIS := Lib.hid (is_own HO2.out HM.out HB2.out.size)
    go_wp2_with fail
    go_loop [7] (fun z => ∃ j : Nat, j ≤ m ∧ z = .int .i64 j ∧ ∀ (t : Nat) (y : Int), t < j → out[t]? = some y → y ≠ x) (fun z => m - (intOf z).toNat)
    case atStart => exact ⟨0, by omega, rfl, fun t y h => absurd h (by omega)⟩
    case round =>
      obtain ⟨j, hj, rfl, hP⟩ := hrel
      have HP := Lib.hid hP
      clear hP
      by_cases hlt : j < m
      · obtain ⟨b, o, y, rfl, hbB, hy, a0⟩ := HIS.out.at_ hlt
        have HY := Lib.hid hy
        clear hy
        by_cases hc : y = x
        · have t : (y == x) = true := by simpa using hc
          have HE := Lib.hid ((HC.out.1 HL.out).twice ⟨HX0.out, HX9.out⟩ (by rw [← hc]; exact List.mem_of_getElem? HY.out))
          clear hc
          go_wp2_with (first | (at_builtin; refine Lib.wpList_append_run _ rfl _ _ 31 31 rfl _ _ rfl rfl _ _ hr ?_; clear hr) | fail)
          go_ret
          rw [HE.out, List.length_append, HM.out]
          exact ⟨_, _, rfl, O4.out, B4.out⟩
        · have t : (y == x) = false := by simpa using hc
          have HC9 := Lib.hid hc
          clear hc
          go_wp2_with fail
          go_round
          case rel => exact ⟨j + 1, by omega, by go_num, fun t z ht hz => by
            rcases Nat.lt_or_ge t j with h9 | h9
            · exact HP.out t z h9 hz
            · obtain rfl : t = j := by omega
              rw [HY.out] at hz
              injection hz with hz
              subst hz
              exact HC9.out⟩
          case measure => simp [intOf]; omega
      · have HN := Lib.hid ((HC.out.1 HL.out).next ⟨HX0.out, HX9.out⟩ fun hm => by
          obtain ⟨t, ht, e⟩ := List.getElem_of_mem hm
          exact HP.out t _ (by have := HM.out; omega) (List.getElem?_eq_getElem ht) e)
        have hl9 := HN.out.len
        rw [List.length_append, HM.out] at hl9
        have HL9 := Lib.hid hl9
        clear hl9
        go_wp2_with (first | (at_builtin; refine Lib.wpList_append_run _ rfl _ _ 31 31 rfl _ _ rfl rfl _ _ hr ?_; clear hr) | fail)
        refine (for_w x (by omega) (H1.out.below (below_le B4.out hB)) (by have := B4.out.size; omega)).mono ?_
        rintro e W5 ⟨rfl, rfl⟩
        obtain ⟨z, hz⟩ : ∃ z, ownI x l = z := ⟨_, rfl⟩
        rw [hz]
        have HZ9 := Lib.hid hz
        clear hz
        go_wp2_with fail
        go_roundw
        case rel => exact ⟨out ++ [x], m + 1, c4, z, A4, by rw [List.length_append, HM.out]; rfl, rfl, rfl, ⟨fun _ => by rw [← HZ9.out]; exact HN.out, fun h => by rw [HL.out] at h; cases h⟩, O4.out, B4.out⟩
        case measure =>
          have h9 := HL9.out
          simp only [List.length_singleton] at h9
          simp [lenOf]
          omega
end Go.Proofs.Ytcfmpnhnahafpaa.wtn
