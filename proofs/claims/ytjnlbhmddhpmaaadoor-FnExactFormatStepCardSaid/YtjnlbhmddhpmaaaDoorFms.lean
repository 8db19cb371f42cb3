/- FormatStep of the program and of the model: what each answers. -/
import Derived.Test.YtjnlbhmddhpmaaaDoorCdw
import Derived.Test.YtjnlbhmddhpmaaaDoorFst
import Derived.Test.YtjnlbhmddhpmaaaDoorStp
import Derived.WalkKit
import Derived.ProofKit
import Derived.Below
import Derived.Lib.Hide
import Derived.LoopTactic
import Derived.Deep.QuietTactic
import Derived.BigQuiet
import Derived.StillTailTactics
import Derived.Outline
import Derived.IntWalk
import Derived.Laws.Entries
namespace Go.Proofs.YtjnlbhmddhpmaaaDoor.fms
open Go.ChangeShapes Go.WideShapes Go.ChangeAt Go.RowKit
open Go.Proofs.YtjnlbhmddhpmaaaDoor.vers (new1 new2 new3 ret_b)
open Go.Proofs.YtjnlbhmddhpmaaaDoor.sl (below_le)
open Go.Proofs.YtjnlbhmddhpmaaaDoor.ints (Is)
open Go.Proofs.YtjnlbhmddhpmaaaDoor.cdw (cn ret_s cn_good cn_bad spec_name impl_name)
open Go.Proofs.YtjnlbhmddhpmaaaDoor.fst (fsT Pow spec_fstate impl_fstate)
open Go.Proofs.YtjnlbhmddhpmaaaDoor.stp (SB)
set_option linter.unusedVariables false
set_option linter.unusedSimpArgs false
/-- a step's text, from the two texts it is put together of -/
noncomputable def fmS (k : Int) (l : List Int) : ByteArray :=
  if 0 ≤ k ∧ k ≤ 6 then (if l.length = 0 then cn k else if 6 < l.length then ⟨#[]⟩ else if (((fsT l).toList == (⟨#[]⟩ : ByteArray).toList) = true) then ⟨#[]⟩ else (cn k ++ ⟨#[32]⟩) ++ fsT l) else ⟨#[]⟩
section
variable {k : Int} {l : List Int}
theorem fm_bad (h : ¬ (0 ≤ k ∧ k ≤ 6)) : fmS k l = ⟨#[]⟩ := if_neg h
theorem fm_none (h : 0 ≤ k ∧ k ≤ 6) (h0 : l.length = 0) : fmS k l = cn k := by unfold fmS; rw [if_pos h, if_pos h0]
theorem fm_many (h : 0 ≤ k ∧ k ≤ 6) (h6 : 6 < l.length) : fmS k l = ⟨#[]⟩ := by unfold fmS; rw [if_pos h, if_neg (by omega), if_pos h6]
theorem fm_off (h : 0 ≤ k ∧ k ≤ 6) (h0 : l.length ≠ 0) (h6 : ¬ 6 < l.length) (hv : ((fsT l).toList == (⟨#[]⟩ : ByteArray).toList) = true) : fmS k l = ⟨#[]⟩ := by unfold fmS; rw [if_pos h, if_neg h0, if_neg h6, if_pos hv]
theorem fm_yes (h : 0 ≤ k ∧ k ≤ 6) (h0 : l.length ≠ 0) (h6 : ¬ 6 < l.length) (hv : ((fsT l).toList == (⟨#[]⟩ : ByteArray).toList) = false) : fmS k l = (cn k ++ ⟨#[32]⟩) ++ fsT l := by unfold fmS; rw [if_pos h, if_neg h0, if_neg h6, if_neg (by rw [hv]; decide)]
end
theorem fs_size {l : List Int} (h6 : ¬ 6 < l.length) : (fsT l).size ≤ 66 := by
  by_cases h : fst.OkI l l.length
  · rw [← fst.fsT_yes rfl h]; have := fst.cat_size (l := l) l.length (Nat.le_refl _) h; omega
  · unfold fsT; rw [if_neg h]; decide
/-! the walks -/
theorem forms0 {g : ByteArray} (h : (g.toList == (⟨#[]⟩ : ByteArray).toList) = false) : (g.toList == (⟨#[]⟩ : ByteArray).toList) = false ∧ (g.toList == []) = false ∧ ¬ g.toList = [] ∧ g.toList.isEmpty = false := by
  have e : (⟨#[]⟩ : ByteArray).toList = [] := by rw [ByteArray.toList_eq]
  rw [e] at h ⊢
  cases hg : g.toList <;> rw [hg] at h <;> simp_all
theorem forms1 {g : ByteArray} (h : (g.toList == (⟨#[]⟩ : ByteArray).toList) = true) : (g.toList == (⟨#[]⟩ : ByteArray).toList) = true ∧ (g.toList == []) = true ∧ g.toList = [] ∧ g.toList.isEmpty = true := by
  have e : (⟨#[]⟩ : ByteArray).toList = [] := by rw [ByteArray.toList_eq]
  rw [e] at h ⊢
  cases hg : g.toList <;> rw [hg] at h <;> simp_all
set_option maxRecDepth 100000 in
set_option maxHeartbeats 3200000 in
theorem spec_fms {w : World} {B n c : Nat} {A : Option Addr} {l : List Int} (k : Int) (hn : n ≤ 1048576) (h1 : Is w B A n l) (hB : B ≤ w.heap.size) :
    Calls Tryd.prog 7 #[.agg #[.int .i64 k, .slice A n c]] w fun e w' => e = .returned (.string (fmS k l)) ∧ Below w.heap.size w w' := by
  have hln := h1.1
  have hb := new1 w (.cells #[.int .i64 k, .slice A n c] 27)
  have hz : (w.alloc (.cells #[.int .i64 k, .slice A n c] 27)).heap.size = w.heap.size + 1 := by simp
  have hsb := SB.new w k (.slice A n c) 27
  have hfs := fun h => fs_size (l := l) h
  obtain ⟨y, hy⟩ : ∃ y, fmS k l = y := ⟨_, rfl⟩
  obtain ⟨g, hg⟩ : ∃ g, cn k = g := ⟨_, rfl⟩
  obtain ⟨v, hv⟩ : ∃ v, fsT l = v := ⟨_, rfl⟩
  have HG := Lib.hid hg
  have HV := Lib.hid hv
  have H1 := Lib.hid h1
  clear h1
  rw [hy]
  by_cases hk : 0 ≤ k ∧ k ≤ 6
  case neg =>
    have e1 : y = ⟨#[]⟩ := by rw [← hy]; exact fm_bad hk
    obtain ⟨tg, tg2, tg3, tg4⟩ := forms1 (g := g) (by rw [← hg, cn_bad hk]; exact beq_self_eq_true _)
    have HE := Lib.hid e1
    clear e1 hfs hy hg hv hln
    go_enter Tryd.func7, Tryd.ntmps7
    go_wp2_with fail
    generalize w.alloc _ = W0 at hb hsb hz ⊢
    have HB := Lib.hid hb
    have HC := Lib.hid hsb
    have hs0 := hb.size
    have c0 := hsb.1
    have c1 := hsb.2
    clear hb hsb
    refine (spec_name k _).mono ?_
    rintro e W ⟨rfl, hbn⟩
    rw [HG.out]
    have hs1 := hbn.size
    have HC := Lib.hid (HC.out.keep (by omega) hbn)
    have c0 := HC.out.1
    have c1 := HC.out.2
    have HB := Lib.hid (HB.out.trans (hbn.mono HB.out.size))
    clear hbn
    go_wp2_with fail
    go_ret
    exact ⟨ret_s HE.out.symm, HB.out⟩
  by_cases h6 : 6 < n
  case pos =>
    have e1 : y = ⟨#[]⟩ := by rw [← hy]; exact fm_many hk (by omega)
    obtain ⟨tg, tg2, tg3, tg4⟩ := forms0 (g := g) (by rw [← hg]; exact (cn_good hk.1 hk.2).1)
    have t6 : decide ((6 : Int) < (n : Int)) = true := decide_eq_true (by omega)
    have HE := Lib.hid e1
    clear e1 hfs hy hg hv hln
    go_enter Tryd.func7, Tryd.ntmps7
    go_wp2_with fail
    generalize w.alloc _ = W0 at hb hsb hz ⊢
    have HB := Lib.hid hb
    have HC := Lib.hid hsb
    have hs0 := hb.size
    have c0 := hsb.1
    have c1 := hsb.2
    clear hb hsb
    refine (spec_name k _).mono ?_
    rintro e W ⟨rfl, hbn⟩
    rw [HG.out]
    have hs1 := hbn.size
    have HC := Lib.hid (HC.out.keep (by omega) hbn)
    have c0 := HC.out.1
    have c1 := HC.out.2
    have HB := Lib.hid (HB.out.trans (hbn.mono HB.out.size))
    clear hbn
    go_wp2_with fail
    go_ret
    exact ⟨ret_s HE.out.symm, HB.out⟩
  by_cases h0 : n = 0
  case pos =>
    have e1 : y = g := by rw [← hy, ← hg]; exact fm_none hk (by omega)
    obtain ⟨tg, tg2, tg3, tg4⟩ := forms0 (g := g) (by rw [← hg]; exact (cn_good hk.1 hk.2).1)
    have t6 : decide ((6 : Int) < (n : Int)) = false := decide_eq_false (by omega)
    have t0 : ((n : Int) == 0) = true := by simp; omega
    have HE := Lib.hid e1
    clear e1 hfs hy hg hv hln h0
    go_enter Tryd.func7, Tryd.ntmps7
    go_wp2_with fail
    generalize w.alloc _ = W0 at hb hsb hz ⊢
    have HB := Lib.hid hb
    have HC := Lib.hid hsb
    have hs0 := hb.size
    have c0 := hsb.1
    have c1 := hsb.2
    clear hb hsb
    refine (spec_name k _).mono ?_
    rintro e W ⟨rfl, hbn⟩
    rw [HG.out]
    have hs1 := hbn.size
    have HC := Lib.hid (HC.out.keep (by omega) hbn)
    have c0 := HC.out.1
    have c1 := HC.out.2
    have HB := Lib.hid (HB.out.trans (hbn.mono HB.out.size))
    clear hbn
    go_wp2_with fail
    go_ret
    exact ⟨ret_s HE.out.symm, HB.out⟩
  rcases tv : (v.toList == (⟨#[]⟩ : ByteArray).toList) with _ | _
  · have e1 : y = (g ++ ⟨#[32]⟩) ++ v := by rw [← hy, ← hg, ← hv]; exact fm_yes hk (by omega) (by omega) (by rw [hv]; exact tv)
    obtain ⟨tg, tg2, tg3, tg4⟩ := forms0 (g := g) (by rw [← hg]; exact (cn_good hk.1 hk.2).1)
    have t6 : decide ((6 : Int) < (n : Int)) = false := decide_eq_false (by omega)
    have t0 : ((n : Int) == 0) = false := by simp; omega
    have z1 : g.size ≤ 8 := by rw [← hg]; exact (cn_good hk.1 hk.2).2
    have z2 : v.size ≤ 66 := by rw [← hv]; exact hfs (by omega)
    have z3 : (g ++ (⟨#[32]⟩ : ByteArray)).size = g.size + 1 := fst.app_size _ _
    obtain ⟨tv, tv2, tv3, tv4⟩ := forms0 tv
    have HE := Lib.hid e1
    clear e1 hfs hy hg hv hln
    go_enter Tryd.func7, Tryd.ntmps7
    go_wp2_with fail
    generalize w.alloc _ = W0 at hb hsb hz ⊢
    have HB := Lib.hid hb
    have HC := Lib.hid hsb
    have hs0 := hb.size
    have c0 := hsb.1
    have c1 := hsb.2
    clear hb hsb
    refine (spec_name k _).mono ?_
    rintro e W ⟨rfl, hbn⟩
    rw [HG.out]
    have hs1 := hbn.size
    have HC := Lib.hid (HC.out.keep (by omega) hbn)
    have c0 := HC.out.1
    have c1 := HC.out.2
    have HB := Lib.hid (HB.out.trans (hbn.mono HB.out.size))
    clear hbn
    go_wp2_with fail
    refine (spec_fstate (B := B) (by omega) (H1.out.below (below_le HB.out hB)) (by omega)).mono ?_
    rintro e W1 ⟨rfl, hb1⟩
    rw [HV.out]
    have HC := Lib.hid (HC.out.keep (by omega) hb1)
    have c0 := HC.out.1
    have c1 := HC.out.2
    have HB := Lib.hid (HB.out.trans (hb1.mono HB.out.size))
    clear hb1
    go_wp2_with fail
    go_ret
    exact ⟨ret_s HE.out.symm, HB.out⟩
  · have e1 : y = ⟨#[]⟩ := by rw [← hy]; exact fm_off hk (by omega) (by omega) (by rw [hv]; exact tv)
    obtain ⟨tg, tg2, tg3, tg4⟩ := forms0 (g := g) (by rw [← hg]; exact (cn_good hk.1 hk.2).1)
    have t6 : decide ((6 : Int) < (n : Int)) = false := decide_eq_false (by omega)
    have t0 : ((n : Int) == 0) = false := by simp; omega
    obtain ⟨tv, tv2, tv3, tv4⟩ := forms1 tv
    have HE := Lib.hid e1
    clear e1 hfs hy hg hv hln
    go_enter Tryd.func7, Tryd.ntmps7
    go_wp2_with fail
    generalize w.alloc _ = W0 at hb hsb hz ⊢
    have HB := Lib.hid hb
    have HC := Lib.hid hsb
    have hs0 := hb.size
    have c0 := hsb.1
    have c1 := hsb.2
    clear hb hsb
    refine (spec_name k _).mono ?_
    rintro e W ⟨rfl, hbn⟩
    rw [HG.out]
    have hs1 := hbn.size
    have HC := Lib.hid (HC.out.keep (by omega) hbn)
    have c0 := HC.out.1
    have c1 := HC.out.2
    have HB := Lib.hid (HB.out.trans (hbn.mono HB.out.size))
    clear hbn
    go_wp2_with fail
    refine (spec_fstate (B := B) (by omega) (H1.out.below (below_le HB.out hB)) (by omega)).mono ?_
    rintro e W1 ⟨rfl, hb1⟩
    rw [HV.out]
    have HC := Lib.hid (HC.out.keep (by omega) hb1)
    have c0 := HC.out.1
    have c1 := HC.out.2
    have HB := Lib.hid (HB.out.trans (hb1.mono HB.out.size))
    clear hb1
    go_wp2_with fail
    go_ret
    exact ⟨ret_s HE.out.symm, HB.out⟩
set_option maxRecDepth 100000 in
set_option maxHeartbeats 3200000 in
theorem impl_fms {w : World} {B n c : Nat} {A : Option Addr} {l : List Int} (k : Int) (hn : n ≤ 1048576) (h1 : Is w B A n l) (hB : B ≤ w.heap.size) (htab : Pow w) :
    Calls Tryd.prog 9 #[.agg #[.int .i64 k, .slice A n c]] w fun e w' => e = .returned (.string (fmS k l)) ∧ Below w.heap.size w w' := by
  have hln := h1.1
  have hb := new1 w (.cells #[.int .i64 k, .slice A n c] 27)
  have hz : (w.alloc (.cells #[.int .i64 k, .slice A n c] 27)).heap.size = w.heap.size + 1 := by simp
  have hsb := SB.new w k (.slice A n c) 27
  have hfs := fun h => fs_size (l := l) h
  obtain ⟨y, hy⟩ : ∃ y, fmS k l = y := ⟨_, rfl⟩
  obtain ⟨g, hg⟩ : ∃ g, cn k = g := ⟨_, rfl⟩
  obtain ⟨v, hv⟩ : ∃ v, fsT l = v := ⟨_, rfl⟩
  have HG := Lib.hid hg
  have HV := Lib.hid hv
  have H1 := Lib.hid h1
  have HT := Lib.hid htab
  clear h1 htab
  rw [hy]
  by_cases h0 : n = 0
  case pos =>
    have e1 : y = g := by
      rw [← hy, ← hg]
      by_cases hk : 0 ≤ k ∧ k ≤ 6
      · exact fm_none hk (by omega)
      · rw [fm_bad hk, cn_bad hk]
    have t0 : ((n : Int) == 0) = true := by simp; omega
    have HE := Lib.hid e1
    clear e1 hfs hy hg hv hln h0
    go_enter Tryd.func9, Tryd.ntmps9
    go_wp2_with fail
    generalize w.alloc _ = W0 at hb hsb hz ⊢
    have HB := Lib.hid hb
    have HC := Lib.hid hsb
    have hs0 := hb.size
    have c0 := hsb.1
    have c1 := hsb.2
    clear hb hsb
    refine (impl_name k _).mono ?_
    rintro e W ⟨rfl, rfl⟩
    rw [HG.out]
    go_wp2_with fail
    go_ret
    exact ⟨ret_s HE.out.symm, HB.out⟩
  by_cases hk : 0 ≤ k ∧ k ≤ 6
  case neg =>
    have e1 : y = ⟨#[]⟩ := by rw [← hy]; exact fm_bad hk
    obtain ⟨tg, tg2, tg3, tg4⟩ := forms1 (g := g) (by rw [← hg, cn_bad hk]; exact beq_self_eq_true _)
    have t0 : ((n : Int) == 0) = false := by simp; omega
    have HE := Lib.hid e1
    clear e1 hfs hy hg hv hln
    go_enter Tryd.func9, Tryd.ntmps9
    go_wp2_with fail
    generalize w.alloc _ = W0 at hb hsb hz ⊢
    have HB := Lib.hid hb
    have HC := Lib.hid hsb
    have hs0 := hb.size
    have c0 := hsb.1
    have c1 := hsb.2
    clear hb hsb
    refine (impl_name k _).mono ?_
    rintro e W ⟨rfl, rfl⟩
    rw [HG.out]
    go_wp2_with fail
    refine (impl_fstate (B := B) (by omega) (H1.out.below (below_le HB.out hB)) (by omega) (Go.Proofs.YtjnlbhmddhpmaaaDoor.tabs.powTab_below HT.out (HB.out))).mono ?_
    rintro e W1 ⟨rfl, hb1⟩
    rw [HV.out]
    have HC := Lib.hid (HC.out.keep (by omega) hb1)
    have c0 := HC.out.1
    have c1 := HC.out.2
    have HB := Lib.hid (HB.out.trans (hb1.mono HB.out.size))
    clear hb1
    go_wp2_with fail
    go_ret
    exact ⟨ret_s HE.out.symm, HB.out⟩
  rcases tv : (v.toList == (⟨#[]⟩ : ByteArray).toList) with _ | _
  · by_cases h6 : 6 < n
    case pos =>
      have e1 : y = ⟨#[]⟩ := by rw [← hy]; exact fm_many hk (by omega)
      obtain ⟨tg, tg2, tg3, tg4⟩ := forms0 (g := g) (by rw [← hg]; exact (cn_good hk.1 hk.2).1)
      have t6 : decide ((6 : Int) < (n : Int)) = true := decide_eq_true (by omega)
      have t0 : ((n : Int) == 0) = false := by simp; omega
      obtain ⟨tv, tv2, tv3, tv4⟩ := forms0 tv
      have HE := Lib.hid e1
      clear e1 hfs hy hg hv hln
      go_enter Tryd.func9, Tryd.ntmps9
      go_wp2_with fail
      generalize w.alloc _ = W0 at hb hsb hz ⊢
      have HB := Lib.hid hb
      have HC := Lib.hid hsb
      have hs0 := hb.size
      have c0 := hsb.1
      have c1 := hsb.2
      clear hb hsb
      refine (impl_name k _).mono ?_
      rintro e W ⟨rfl, rfl⟩
      rw [HG.out]
      go_wp2_with fail
      refine (impl_fstate (B := B) (by omega) (H1.out.below (below_le HB.out hB)) (by omega) (Go.Proofs.YtjnlbhmddhpmaaaDoor.tabs.powTab_below HT.out (HB.out))).mono ?_
      rintro e W1 ⟨rfl, hb1⟩
      rw [HV.out]
      have HC := Lib.hid (HC.out.keep (by omega) hb1)
      have c0 := HC.out.1
      have c1 := HC.out.2
      have HB := Lib.hid (HB.out.trans (hb1.mono HB.out.size))
      clear hb1
      go_wp2_with fail
      go_ret
      exact ⟨ret_s HE.out.symm, HB.out⟩
    have e1 : y = (g ++ ⟨#[32]⟩) ++ v := by rw [← hy, ← hg, ← hv]; exact fm_yes hk (by omega) (by omega) (by rw [hv]; exact tv)
    obtain ⟨tg, tg2, tg3, tg4⟩ := forms0 (g := g) (by rw [← hg]; exact (cn_good hk.1 hk.2).1)
    have t6 : decide ((6 : Int) < (n : Int)) = false := decide_eq_false (by omega)
    have t0 : ((n : Int) == 0) = false := by simp; omega
    have z1 : g.size ≤ 8 := by rw [← hg]; exact (cn_good hk.1 hk.2).2
    have z2 : v.size ≤ 66 := by rw [← hv]; exact hfs (by omega)
    have z3 : (g ++ (⟨#[32]⟩ : ByteArray)).size = g.size + 1 := fst.app_size _ _
    obtain ⟨tv, tv2, tv3, tv4⟩ := forms0 tv
    have HE := Lib.hid e1
    clear e1 hfs hy hg hv hln
    go_enter Tryd.func9, Tryd.ntmps9
    go_wp2_with fail
    generalize w.alloc _ = W0 at hb hsb hz ⊢
    have HB := Lib.hid hb
    have HC := Lib.hid hsb
    have hs0 := hb.size
    have c0 := hsb.1
    have c1 := hsb.2
    clear hb hsb
    refine (impl_name k _).mono ?_
    rintro e W ⟨rfl, rfl⟩
    rw [HG.out]
    go_wp2_with fail
    refine (impl_fstate (B := B) (by omega) (H1.out.below (below_le HB.out hB)) (by omega) (Go.Proofs.YtjnlbhmddhpmaaaDoor.tabs.powTab_below HT.out (HB.out))).mono ?_
    rintro e W1 ⟨rfl, hb1⟩
    rw [HV.out]
    have HC := Lib.hid (HC.out.keep (by omega) hb1)
    have c0 := HC.out.1
    have c1 := HC.out.2
    have HB := Lib.hid (HB.out.trans (hb1.mono HB.out.size))
    clear hb1
    go_wp2_with fail
    go_ret
    exact ⟨ret_s HE.out.symm, HB.out⟩
  · have e0 : fmS k l = ⟨#[]⟩ := by
      by_cases h6 : 6 < n
      · exact fm_many hk (by omega)
      · exact fm_off hk (by omega) (by omega) (by rw [hv]; exact tv)
    have e1 : y = ⟨#[]⟩ := by rw [← hy]; exact e0
    obtain ⟨tg, tg2, tg3, tg4⟩ := forms0 (g := g) (by rw [← hg]; exact (cn_good hk.1 hk.2).1)
    have t0 : ((n : Int) == 0) = false := by simp; omega
    obtain ⟨tv, tv2, tv3, tv4⟩ := forms1 tv
    have HE := Lib.hid e1
    clear e1 hfs hy hg hv hln
    go_enter Tryd.func9, Tryd.ntmps9
    go_wp2_with fail
    generalize w.alloc _ = W0 at hb hsb hz ⊢
    have HB := Lib.hid hb
    have HC := Lib.hid hsb
    have hs0 := hb.size
    have c0 := hsb.1
    have c1 := hsb.2
    clear hb hsb
    refine (impl_name k _).mono ?_
    rintro e W ⟨rfl, rfl⟩
    rw [HG.out]
    go_wp2_with fail
    refine (impl_fstate (B := B) (by omega) (H1.out.below (below_le HB.out hB)) (by omega) (Go.Proofs.YtjnlbhmddhpmaaaDoor.tabs.powTab_below HT.out (HB.out))).mono ?_
    rintro e W1 ⟨rfl, hb1⟩
    rw [HV.out]
    have HC := Lib.hid (HC.out.keep (by omega) hb1)
    have c0 := HC.out.1
    have c1 := HC.out.2
    have HB := Lib.hid (HB.out.trans (hb1.mono HB.out.size))
    clear hb1
    go_wp2_with fail
    go_ret
    exact ⟨ret_s HE.out.symm, HB.out⟩
end Go.Proofs.YtjnlbhmddhpmaaaDoor.fms
