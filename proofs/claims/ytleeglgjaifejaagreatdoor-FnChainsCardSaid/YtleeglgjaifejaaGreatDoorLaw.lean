/- What the law on chains asks of VersionAt and FindVersion, in plain mathematics, and what ParseMark answers at a mark's own text. -/
import Derived.Test.YtleeglgjaifejaaGreatDoorFind
import Derived.Test.YtleeglgjaifejaaGreatDoorRead
import Derived.Test.YtleeglgjaifejaaGreatDoorSParse
import Derived.WalkKit
import Derived.ProofKit
import Derived.Below
import Derived.Lib.Hide
namespace Go.Proofs.YtleeglgjaifejaaGreatDoor.law
open Go.ChangeShapes Go.WideShapes Go.ChangeAt Go.RowKit
open Go.Lib (itoa)
open Go.Proofs.YtleeglgjaifejaaGreatDoor.vers Go.Proofs.YtleeglgjaifejaaGreatDoor.sl Go.Proofs.YtleeglgjaifejaaGreatDoor.ch Go.Proofs.YtleeglgjaifejaaGreatDoor.find Go.Proofs.YtleeglgjaifejaaGreatDoor.fmtn Go.Proofs.YtleeglgjaifejaaGreatDoor.text Go.Proofs.YtleeglgjaifejaaGreatDoor.parse Go.Proofs.YtleeglgjaifejaaGreatDoor.flat Go.Proofs.YtleeglgjaifejaaGreatDoor.pieces
open Go.Proofs.YtleeglgjaifejaaGreatDoor.marks (FM infS fm_in fm_inf fm_out impl_inf impl_in impl_nay)
open Go.Proofs.YtleeglgjaifejaaGreatDoor.dig (Num num_head)
open Go.Proofs.YtleeglgjaifejaaGreatDoor.read (Env num_S)
open Go.Proofs.YtleeglgjaifejaaGreatDoor.vars (Facts)
set_option linter.unusedVariables false
set_option linter.unusedSimpArgs false
theorem at_spec (s : Int) (l : List Ver) : ∀ n, n ≤ l.length → atI s l n = -1 ∨ ∃ (k : Nat) (x : Ver), atI s l n = k ∧ k < n ∧ l[k]? = some x ∧ x.c ≤ s ∧ ∀ (j : Nat) (y : Ver), k < j → j < n → l[j]? = some y → s < y.c
  | 0, _ => .inl rfl
  | n + 1, h => by
    have hx : l[n]? = some l[n] := List.getElem?_eq_getElem (by omega)
    by_cases hc : (l[n]).c ≤ s
    · exact .inr ⟨n, l[n], at_hit hx hc, by omega, hx, hc, fun j y h1 h2 => absurd h1 (by omega)⟩
    · rw [at_miss hx hc]
      rcases at_spec s l n (by omega) with h1 | ⟨k, x, h1, h2, h3, h4, h5⟩
      · exact .inl h1
      · refine .inr ⟨k, x, h1, by omega, h3, h4, fun j y hj hj2 hy => ?_⟩
        by_cases hjn : j = n
        · subst hjn
          rw [hx] at hy
          cases hy
          omega
        · exact h5 j y hj (by omega) hy
theorem asc {l : List Ver} (h : chB l = true) : ∀ (d i : Nat) (x y : Ver), l[i]? = some x → l[i + d + 1]? = some y → x.c < y.c
  | 0, i, x, y, hx, hy => by
    have := (ch_of h).2.1 i x y hx hy
    simp [fol, fB] at this
    exact this.1
  | d + 1, i, x, y, hx, hy => by
    have hl := lt_of_some hy
    have hz : l[i + 1]? = some (l[i + 1]'(by omega)) := List.getElem?_eq_getElem _
    have h1 := asc h 0 i x _ hx hz
    have h2 := asc h d (i + 1) _ y hz (by rw [show i + 1 + d + 1 = i + (d + 1) + 1 by omega]; exact hy)
    omega
theorem fnd_upto {l : List Ver} {c : Int} : ∀ k, k ≤ l.length → (∀ (j : Nat) (x : Ver), j < k → l[j]? = some x → x.c ≠ c) → fndI c l 0 = fndI c (l.drop k) k
  | 0, _, _ => rfl
  | k + 1, h, hn => by
    have hx : l[k]? = some l[k] := List.getElem?_eq_getElem (by omega)
    exact fnd_step (fnd_upto k (by omega) (fun j x hj => hn j x (by omega))) hx (hn k _ (by omega) hx)
theorem at_found {l : List Ver} {s : Int} (h : 0 ≤ vAt l s) : ∃ (k : Nat) (x : Ver), vAt l s = k ∧ k < l.length ∧ l[k]? = some x ∧ x.c ≤ s ∧ (∀ y : Ver, l[k + 1]? = some y → s < y.c) ∧ fndI x.c l 0 = k := by
  have hc : chB l = true := by
    rcases hc : chB l with _ | _
    · rw [← vAt_no hc] at h; omega
    · rfl
  rw [← vAt_yes rfl hc] at h
  rcases at_spec s l l.length (Nat.le_refl _) with h1 | ⟨k, x, h1, h2, h3, h4, h5⟩
  · omega
  · refine ⟨k, x, by rw [← vAt_yes rfl hc]; exact h1, h2, h3, h4, fun y hy => h5 (k + 1) y (by omega) (lt_of_some hy) hy, ?_⟩
    have hu := fnd_upto (l := l) (c := x.c) k (by omega) (fun j z hj hz e => by
      have := asc hc (k - j - 1) j z x hz (by rw [show j + (k - j - 1) + 1 = k by omega]; exact h3)
      omega)
    exact (fnd_hit hu h3 rfl).symm
theorem chT_size {l : List Ver} (h : l.length ≤ 5) : (chT l).size ≤ 1048576 := by
  rcases hc : chB l with _ | _
  · rw [← chT_no hc]
    decide
  · rw [← chT_yes rfl hc]
    have := cat_size (ch_of hc).1 l.length (Nat.le_refl _)
    omega
theorem good_own {l : List Ver} (h : l.length ≤ 5) (hc : chB l = true) : parse.Good (chT l) l := ⟨hc, by omega, rfl⟩
theorem good_nay {l : List Ver} (hc : chB l = false) : ∀ l', ¬ parse.Good (chT l) l' := fun l' h => Go.Proofs.YtleeglgjaifejaaGreatDoor.sparse.good_some h (chT_no hc).symm
/-- the mark's own text is read back if it is a mark -/
theorem mark_back (n : Int) (h0 : -9223372036854775808 ≤ n) (h1 : n ≤ 9223372036854775807) (w : World) (hE : Facts w) :
    Calls Tryz.prog 18 #[.string (FM n)] w fun e w' => (∃ x : Int, e = .returned (.tuple #[.int .i64 x, .bool (In 0 1000 n)]) ∧ (In 0 1000 n = true → x = n)) ∧ Below w.heap.size w w' := by
  by_cases hi : 0 ≤ n ∧ n ≤ 1000
  · have ht : In 0 1000 n = true := by simp [In, hi.1, hi.2]
    rw [ht]
    by_cases hn : n = 1000
    · subst hn
      exact (impl_inf w).mono fun e w' hh => ⟨⟨1000, hh.1, fun _ => rfl⟩, hh.2⟩
    · rw [fm_in (by omega)]
      have hne : S (itoa n) ≠ infS := by
        intro e
        have : (105 : UInt8) ∈ itoa n := by
          have e2 : itoa n = infS.data.toList := by rw [← e]; rfl
          rw [e2]; decide
        exact itoa_no n 105 (by decide) this
      exact (impl_in (S (itoa n)) n w hne (num_S n (by omega) (by omega)) (by omega) (by omega) hE.1).mono fun e w' hh => ⟨⟨n, hh.1, fun _ => rfl⟩, hh.2⟩
  · have ht : In 0 1000 n = false := by
      rcases h : In 0 1000 n with _ | _
      · rfl
      · exact absurd (in_yes h) hi
    rw [ht, fm_out hi]
    exact (impl_nay ByteArray.empty w (by decide) (by intro e; exact absurd (congrArg ByteArray.size e) (by decide)) (fun m hm => by obtain ⟨hs, _⟩ := num_head hm; exact absurd hs (by decide)) hE).mono fun e w' hh => ⟨⟨0, hh.1, fun h => by cases h⟩, hh.2⟩
end Go.Proofs.YtleeglgjaifejaaGreatDoor.law
