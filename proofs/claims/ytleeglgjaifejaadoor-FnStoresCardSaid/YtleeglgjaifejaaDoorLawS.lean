/- What the law on stores asks of ReadAt, ReadLatest and LastStamp, in plain mathematics; the new store is a store whose greatest stamp is 0. -/
import Derived.Test.YtleeglgjaifejaaDoorRd
import Derived.Test.YtleeglgjaifejaaDoorLast
import Derived.Test.YtleeglgjaifejaaDoorNew
import Derived.WalkKit
import Derived.ProofKit
import Derived.Below
import Derived.Lib.Hide
namespace Go.Proofs.YtleeglgjaifejaaDoor.laws
open Go.ChangeShapes Go.WideShapes Go.ChangeAt Go.RowKit
open Go.Proofs.YtleeglgjaifejaaDoor.vers Go.Proofs.YtleeglgjaifejaaDoor.sl Go.Proofs.YtleeglgjaifejaaDoor.ch Go.Proofs.YtleeglgjaifejaaDoor.find Go.Proofs.YtleeglgjaifejaaDoor.st Go.Proofs.YtleeglgjaifejaaDoor.val Go.Proofs.YtleeglgjaifejaaDoor.rd Go.Proofs.YtleeglgjaifejaaDoor.last Go.Proofs.YtleeglgjaifejaaDoor.new
set_option linter.unusedVariables false
set_option linter.unusedSimpArgs false
theorem at_spec (s : Int) (l : List Ver) : ∀ n, n ≤ l.length → atI s l n = -1 ∨ ∃ (k : Nat) (x : Ver), atI s l n = k ∧ k < n ∧ l[k]? = some x ∧ x.c ≤ s ∧ ∀ (j : Nat) (y : Ver), k < j → j < n → l[j]? = some y → s < y.c
  | 0, _ => .inl rfl
  | n + 1, h => by
    have hx : l[n]? = some l[n] := List.getElem?_eq_getElem (by omega)
    by_cases hc : (l[n]).c ≤ s
    · exact .inr ⟨n, l[n], at_hit hx hc, by omega, hx, hc, fun j y h1 h2 => absurd h1 (by omega)⟩
    · rw [at_miss hx hc]
      rcases at_spec s l n (by omega) with h1 | ⟨k, x, h1, h2, h3, h4, h5⟩
      · exact .inl h1
      · refine .inr ⟨k, x, h1, by omega, h3, h4, fun j y hj hj2 hy => ?_⟩
        by_cases hjn : j = n
        · subst hjn
          rw [hx] at hy
          cases hy
          omega
        · exact h5 j y hj (by omega) hy
theorem asc {l : List Ver} (h : chB l = true) : ∀ (d i : Nat) (x y : Ver), l[i]? = some x → l[i + d + 1]? = some y → x.c < y.c
  | 0, i, x, y, hx, hy => by
    have := (ch_of h).2.1 i x y hx hy
    simp [fol, fB] at this
    exact this.1
  | d + 1, i, x, y, hx, hy => by
    have hl := Go.Proofs.YtleeglgjaifejaaDoor.ch.lt_of_some hy
    have hz : l[i + 1]? = some (l[i + 1]'(by omega)) := List.getElem?_eq_getElem _
    have h1 := asc h 0 i x _ hx hz
    have h2 := asc h d (i + 1) _ y hz (by rw [show i + 1 + d + 1 = i + (d + 1) + 1 by omega]; exact hy)
    omega
theorem mxL_ge : ∀ (l : List Ver) (m : Int), m ≤ mxL m l ∧ ∀ x ∈ l, x.c ≤ mxL m l
  | [], m => ⟨Int.le_refl _, fun x hx => by simp at hx⟩
  | y :: r, m => by
    have ih := mxL_ge r (mxV m y)
    have e : mxL m (y :: r) = mxL (mxV m y) r := rfl
    have h1 : m ≤ mxV m y := by unfold mxV; omega
    have h2 : y.c ≤ mxV m y := by unfold mxV; omega
    rw [e]
    refine ⟨Int.le_trans h1 ih.1, fun x hx => ?_⟩
    rcases List.mem_cons.1 hx with rfl | hx
    · exact Int.le_trans h2 ih.1
    · exact ih.2 x hx
theorem mxF_ge : ∀ (ll : List (List Ver)) (m : Int), m ≤ ll.foldl mxL m ∧ ∀ l ∈ ll, ∀ x ∈ l, x.c ≤ ll.foldl mxL m
  | [], m => ⟨Int.le_refl _, fun l hl => by simp at hl⟩
  | y :: r, m => by
    have ih := mxF_ge r (mxL m y)
    have hy := mxL_ge y m
    refine ⟨Int.le_trans hy.1 ih.1, fun l hl x hx => ?_⟩
    rcases List.mem_cons.1 hl with rfl | hl
    · exact Int.le_trans (hy.2 x hx) ih.1
    · exact ih.2 l hl x hx
/-- what a readable key's version and latest version are -/
theorem rd_all {ll : List (List Ver)} {s : Int} {k : Nat} (h : raB ll (k : Nat) s = true) :
    rlB ll (k : Nat) = true ∧ (raV ll (k : Nat) s).c ≤ s ∧ (raV ll (k : Nat) s).c ≤ (rlV ll (k : Nat)).c ∧ (lstS ll ≤ s → raV ll (k : Nat) s = rlV ll (k : Nat)) := by
  have h0 := h
  unfold raB at h
  simp only [Bool.and_eq_true, decide_eq_true_eq] at h
  obtain ⟨hrl, hat⟩ := h
  have hrl0 := hrl
  unfold rlB at hrl
  simp only [Bool.and_eq_true] at hrl
  obtain ⟨hst, hin⟩ := hrl
  have h6 := st_six hst
  have hk : k < 6 := by have := in_yes hin; omega
  have hl : ll[k]? = some ll[k] := List.getElem?_eq_getElem (by omega)
  generalize ll[k] = l at hl
  have hgd : ll.getD ((k : Nat) : Int).toNat [] = l := by simp [List.getD, hl]
  rw [hgd] at hat
  have hc := okL_ch_of (st_ok hst hl)
  have hpos := ch_len hc
  rcases at_spec s l l.length (Nat.le_refl _) with h1 | ⟨j, x, h1, h2, h3, h4, h5⟩
  · rw [← vAt_yes rfl hc] at hat
    omega
  have hj : vAt l s = j := by rw [← vAt_yes rfl hc]; exact h1
  have hx := raV_yes h0 (by simpa using hl) hj h3
  have hz : l[l.length - 1]? = some (l[l.length - 1]'(by omega)) := List.getElem?_eq_getElem _
  generalize l[l.length - 1]'(by omega) = z at hz
  have hlv : rlV ll (k : Nat) = z := by rw [rlV_yes hrl0 (by simpa using hl), last_yes hc hz]
  rw [hx, hlv]
  refine ⟨hrl0, h4, ?_, fun hs => ?_⟩
  · by_cases e : j = l.length - 1
    · subst e
      rw [h3] at hz
      cases hz
      exact Int.le_refl _
    · have := asc hc (l.length - 1 - j - 1) j x z h3 (by rw [show j + (l.length - 1 - j - 1) + 1 = l.length - 1 by omega]; exact hz)
      omega
  · by_cases e : j = l.length - 1
    · subst e
      rw [h3] at hz
      cases hz
      rfl
    · have h6 := h5 (l.length - 1) z (by omega) (by omega) hz
      have h7 := (mxF_ge ll 0).2 l (List.mem_of_getElem? hl) z (List.mem_of_getElem? hz)
      have h8 : lstS ll = ll.foldl mxL 0 := lst_yes hst
      omega
/-! the new store -/
theorem v0_ch : chB [v0] = true := ch_yes ⟨fun k x hx => by
    have hk := Go.Proofs.YtleeglgjaifejaaDoor.ch.lt_of_some hx
    obtain rfl : k = 0 := by simpa using hk
    simp at hx
    subst hx
    decide, fun k x y hx hy => by
    have hk := Go.Proofs.YtleeglgjaifejaaDoor.ch.lt_of_some hy
    simp at hk, v0, rfl, rfl⟩
theorem ns_st : stB ns = true := by
  rw [st_all ns_len (fun j l hj hl => by
    rw [ns_at hj] at hl
    cases hl
    exact okL_yes v0_ch (by decide))]
  decide
theorem ns_last : lstS ns = 0 := by
  rw [lst_yes ns_st]
  decide
end Go.Proofs.YtleeglgjaifejaaDoor.laws
