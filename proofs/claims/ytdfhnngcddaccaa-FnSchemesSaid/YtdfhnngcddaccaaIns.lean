/- A mark's place in an ordered list of marks, and the list with the mark put there; what a search by halves finds. Plain mathematics. -/
import Derived.Test.YtdfhnngcddaccaaTv
import Derived.Test.YtdfhnngcddaccaaVal
import Derived.Test.YtdfhnngcddaccaaFind
namespace Go.Proofs.Ytdfhnngcddaccaa.ins
open Go.Proofs.Ytdfhnngcddaccaa.el2 Go.Proofs.Ytdfhnngcddaccaa.seq Go.Proofs.Ytdfhnngcddaccaa.tv Go.Proofs.Ytdfhnngcddaccaa.cm
open Go.Proofs.Ytdfhnngcddaccaa.vers (In in_yes in_no in_of in_off in_range)
set_option linter.unusedVariables false
set_option linter.unusedSimpArgs false
theorem folR_iff {x y : E2} : folR x y = true ↔ x.a < y.a ∨ (x.a = y.a ∧ x.b < y.b) := by simp [folR]
theorem folR_yes {x y : E2} (h : x.a < y.a ∨ (x.a = y.a ∧ x.b < y.b)) : folR x y = true := folR_iff.2 h
theorem folR_no {x y : E2} (h : ¬ (x.a < y.a ∨ (x.a = y.a ∧ x.b < y.b))) : folR x y = false := Bool.eq_false_iff.2 fun e => h (folR_iff.1 e)
theorem e2_eq {x y : E2} (h1 : x.a = y.a) (h2 : x.b = y.b) : x = y := by cases x; cases y; simp_all
/-- what the comparison of two marks says -/
theorem cmpR_cases (x y : E2) : (folR x y = true ∧ cmpR x y = -1) ∨ (x = y ∧ folR x y = false ∧ cmpR x y = 0) ∨ (folR x y = false ∧ x ≠ y ∧ cmpR x y = 1) := by
  rcases cmpI_cases x.a y.a with ⟨h, e⟩ | ⟨h, e⟩ | ⟨h, e⟩
  · exact .inl ⟨folR_yes (.inl h), by simp [cmpR, orI, e]⟩
  · rcases cmpI_cases x.b y.b with ⟨h2, e2⟩ | ⟨h2, e2⟩ | ⟨h2, e2⟩
    · exact .inl ⟨folR_yes (.inr ⟨h, h2⟩), by simp [cmpR, orI, e, e2]⟩
    · exact .inr (.inl ⟨e2_eq h h2, folR_no (by omega), by simp [cmpR, orI, e, e2]⟩)
    · exact .inr (.inr ⟨folR_no (by omega), fun he => by subst he; omega, by simp [cmpR, orI, e, e2]⟩)
  · exact .inr (.inr ⟨folR_no (by omega), fun he => by subst he; omega, by simp [cmpR, orI, e]⟩)
theorem cmpR_range (x y : E2) : -1 ≤ cmpR x y ∧ cmpR x y ≤ 1 := by rcases cmpR_cases x y with ⟨_, e⟩ | ⟨_, _, e⟩ | ⟨_, _, e⟩ <;> rw [e] <;> omega
theorem fol_neg {x y : E2} (h : cmpR x y < 0) : folR x y = true := by rcases cmpR_cases x y with ⟨h', e⟩ | ⟨_, _, e⟩ | ⟨_, _, e⟩ <;> first | exact h' | omega
theorem fol_pos {x y : E2} (h : ¬ cmpR x y < 0) : folR x y = false := by rcases cmpR_cases x y with ⟨h', e⟩ | ⟨_, e', _⟩ | ⟨e', _, _⟩ <;> first | exact e' | omega
theorem cmp_eq {x y : E2} (h : cmpR x y = 0) : x = y := by rcases cmpR_cases x y with ⟨h', e⟩ | ⟨e', _, _⟩ | ⟨_, _, e⟩ <;> first | exact e' | omega
theorem cmp_ne {x y : E2} (h : ¬ cmpR x y = 0) : x ≠ y := by
  rcases cmpR_cases x y with ⟨h', e⟩ | ⟨_, _, e⟩ | ⟨_, e', _⟩
  · intro he; subst he; rw [folR_no (by omega)] at h'; cases h'
  · omega
  · exact e'
theorem folR_trans {x y z : E2} (h : folR x y = true) (h2 : folR y z = true) : folR x z = true := by
  rw [folR_iff] at *
  omega
/-- how many stand in front of the mark -/
def posR (m : E2) : List E2 → Nat
  | [] => 0
  | x :: r => if folR x m = true then posR m r + 1 else 0
theorem posR_le (m : E2) : ∀ l : List E2, posR m l ≤ l.length
  | [] => Nat.le_refl _
  | x :: r => by
    unfold posR
    have := posR_le m r
    split <;> simp <;> omega
theorem posR_is {m : E2} : ∀ (l : List E2) (k : Nat), (∀ (j : Nat) (x : E2), j < k → l[j]? = some x → folR x m = true) → k ≤ l.length → (∀ x, l[k]? = some x → folR x m = false) → posR m l = k
  | [], k, _, hk, _ => by simp at hk; subst hk; rfl
  | x :: r, 0, _, _, h3 => by
    have := h3 x (by simp)
    unfold posR
    rw [if_neg (by simp [this])]
  | x :: r, k + 1, h1, h2, h3 => by
    have := h1 0 x (by omega) (by simp)
    unfold posR
    rw [if_pos this, posR_is r k (fun j y hj hy => h1 (j + 1) y (by omega) (by simpa using hy)) (by simpa using h2) (fun y hy => h3 y (by simpa using hy))]
/-- in an ordered list, all that stands below one that is in front is in front -/
theorem front {l : List E2} {m : E2} {h : Nat} {x : E2} (hs : SqP okR folR l) (hx : l[h]? = some x) (hf : folR x m = true) : ∀ (j : Nat) (y : E2), j < h + 1 → l[j]? = some y → folR y m = true := by
  induction h generalizing x with
  | zero =>
    intro j y hj hy
    obtain rfl : j = 0 := by omega
    rw [hx] at hy; cases hy; exact hf
  | succ h ih =>
    intro j y hj hy
    by_cases e : j = h + 1
    · subst e; rw [hx] at hy; cases hy; exact hf
    · obtain ⟨z, hz⟩ : ∃ z, l[h]? = some z := ⟨l[h]'(by have := lt_of_some hx; omega), List.getElem?_eq_getElem _⟩
      exact ih hz (folR_trans (hs.2 h z x hz hx) hf) j y (by omega) hy
/-- the search by halves: below i all is in front, from j on nothing is -/
def Half (l : List E2) (m : E2) (i j : Nat) : Prop := i ≤ j ∧ j ≤ l.length ∧ (∀ (k : Nat) (x : E2), k < i → l[k]? = some x → folR x m = true) ∧ (∀ x, l[j]? = some x → folR x m = false)
theorem half_start (l : List E2) (m : E2) : Half l m 0 l.length := ⟨by omega, Nat.le_refl _, fun k x h => absurd h (by omega), fun x h => by simp at h⟩
theorem half_up {l : List E2} {m x : E2} {i j h : Nat} (hs : SqP okR folR l) (H : Half l m i j) (h1 : h < j) (hx : l[h]? = some x) (hf : folR x m = true) : Half l m (h + 1) j := ⟨by omega, H.2.1, front hs hx hf, H.2.2.2⟩
theorem half_down {l : List E2} {m x : E2} {i j h : Nat} (H : Half l m i j) (h1 : i ≤ h) (h2 : h < j) (hx : l[h]? = some x) (hf : folR x m = false) : Half l m i h := ⟨h1, by have := H.2.1; omega, H.2.2.1, fun y hy => by rw [hx] at hy; cases hy; exact hf⟩
theorem half_end {l : List E2} {m : E2} {i j : Nat} (H : Half l m i j) (h : ¬ i < j) : posR m l = i := by
  have : i = j := by have := H.1; omega
  subst this
  exact posR_is l i H.2.2.1 H.2.1 H.2.2.2
/-- the list with the mark put in its place, if it is not there -/
def insR (m : E2) (l : List E2) : List E2 := if l[posR m l]? = some m then l else l.take (posR m l) ++ m :: l.drop (posR m l)
theorem ins_there {m : E2} {l : List E2} (h : l[posR m l]? = some m) : insR m l = l := if_pos h
theorem ins_new {m : E2} {l : List E2} (h : ¬ l[posR m l]? = some m) : insR m l = l.take (posR m l) ++ m :: l.drop (posR m l) := if_neg h
theorem ins_len {m : E2} {l : List E2} : (insR m l).length ≤ l.length + 1 := by
  have := posR_le m l
  unfold insR
  split
  · omega
  · simp; omega
/-! what the reads of a transaction say about a store -/
open Go.Proofs.Ytdfhnngcddaccaa.sl (Ver)
open Go.Proofs.Ytdfhnngcddaccaa.find (fndI)
open Go.Proofs.Ytdfhnngcddaccaa.val (stB)
end Go.Proofs.Ytdfhnngcddaccaa.ins
