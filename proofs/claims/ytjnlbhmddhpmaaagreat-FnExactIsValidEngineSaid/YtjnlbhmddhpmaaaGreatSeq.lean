/- Lists whose members are each of a kind and follow one another: what a walk from the front knows of them. Plain mathematics. -/
import Derived.Test.YtjnlbhmddhpmaaaGreatEl2
namespace Go.Proofs.YtjnlbhmddhpmaaaGreat.seq
set_option linter.unusedVariables false
set_option linter.unusedSimpArgs false
section
variable {α : Type} {ok : α → Bool} {fol : α → α → Bool} {l : List α}
/-- each is of the kind, and each follows the one before it -/
def SqP (ok : α → Bool) (fol : α → α → Bool) (l : List α) : Prop :=
  (∀ (k : Nat) (x : α), l[k]? = some x → ok x = true) ∧ (∀ (k : Nat) (x y : α), l[k]? = some x → l[k + 1]? = some y → fol x y = true)
noncomputable def sqB (ok : α → Bool) (fol : α → α → Bool) (l : List α) : Bool := @decide (SqP ok fol l) (Classical.propDecidable _)
theorem sq_yes (h : SqP ok fol l) : sqB ok fol l = true := by unfold sqB; exact @decide_eq_true _ (Classical.propDecidable _) h
theorem sq_no (h : ¬ SqP ok fol l) : sqB ok fol l = false := by unfold sqB; exact @decide_eq_false _ (Classical.propDecidable _) h
theorem sq_of (h : sqB ok fol l = true) : SqP ok fol l := by unfold sqB at h; exact @of_decide_eq_true _ (Classical.propDecidable _) h
/-- the first k are of the kind and in order -/
def Pri (ok : α → Bool) (fol : α → α → Bool) (l : List α) (k : Nat) : Prop := (∀ (j : Nat) (x : α), j < k → l[j]? = some x → ok x = true) ∧ (∀ (j : Nat) (x y : α), j + 1 < k → l[j]? = some x → l[j + 1]? = some y → fol x y = true)
theorem pri_zero (ok : α → Bool) (fol : α → α → Bool) (l : List α) : Pri ok fol l 0 := ⟨fun j x h => absurd h (by omega), fun j x y h => absurd h (by omega)⟩
theorem pri_step {k : Nat} {x : α} (h : Pri ok fol l k) (hx : l[k]? = some x) (ho : ok x = true) (hf : 0 < k → ∀ y, l[k - 1]? = some y → fol y x = true) : Pri ok fol l (k + 1) := by
  refine ⟨fun j z hj hz => ?_, fun j z y hj hz hy => ?_⟩
  · by_cases e : j = k
    · subst e; rw [hx] at hz; cases hz; exact ho
    · exact h.1 j z (by omega) hz
  · by_cases e : j + 1 = k
    · subst e; rw [hx] at hy; cases hy; exact hf (by omega) z (by simpa using hz)
    · exact h.2 j z y (by omega) hz hy
theorem lt_of_some {k : Nat} {x : α} (h : l[k]? = some x) : k < l.length := by
  rcases Nat.lt_or_ge k l.length with h' | h'
  · exact h'
  · rw [List.getElem?_eq_none h'] at h; cases h
theorem sq_all {n : Nat} (hn : l.length = n) (h : Pri ok fol l n) : sqB ok fol l = true :=
  sq_yes ⟨fun k x hx => h.1 k x (by have := lt_of_some hx; omega) hx, fun k x y hx hy => h.2 k x y (by have := lt_of_some hy; omega) hx hy⟩
theorem sq_bad {k : Nat} {x : α} (hx : l[k]? = some x) (ho : ok x = false) : sqB ok fol l = false := sq_no (by
  rintro ⟨h, _⟩
  have := h k x hx
  rw [ho] at this; cases this)
theorem sq_off {k : Nat} {x y : α} (hk : 0 < k) (hy : l[k - 1]? = some y) (hx : l[k]? = some x) (ho : fol y x = false) : sqB ok fol l = false := sq_no (by
  rintro ⟨_, h⟩
  have := h (k - 1) y x hy (by rw [show k - 1 + 1 = k by omega]; exact hx)
  rw [ho] at this; cases this)
theorem sq_nil (ok : α → Bool) (fol : α → α → Bool) : sqB ok fol [] = true := sq_yes ⟨fun k x h => by simp at h, fun k x y h => by simp at h⟩
end
end Go.Proofs.YtjnlbhmddhpmaaaGreat.seq
