/- slices.Clone and slices.DeleteFunc at locks; ReleaseLocks of the program and of the model: what each answers, in memory of its own. -/
import Derived.Test.YtdfhnngcddaccaaLk
import Derived.Test.YtdfhnngcddaccaaRo
import Derived.Test.YtdfhnngcddaccaaCl
import Derived.Test.YtdfhnngcddaccaaRq
import Derived.Test.YtdfhnngcddaccaaRLock
import Derived.Shelf.Abstract
import Derived.LoopTactic
import Derived.Deep.QuietTactic
import Derived.BigQuiet
import Derived.IntWalk
namespace Go.Proofs.Ytdfhnngcddaccaa.lkd
open Go.ChangeShapes Go.WideShapes Go.ChangeAt Go.RowKit
open Go.Proofs.Ytdfhnngcddaccaa.el2 Go.Proofs.Ytdfhnngcddaccaa.seq Go.Proofs.Ytdfhnngcddaccaa.lk Go.Proofs.Ytdfhnngcddaccaa.fr Go.Proofs.Ytdfhnngcddaccaa.ow2 Go.Proofs.Ytdfhnngcddaccaa.ap Go.Proofs.Ytdfhnngcddaccaa.ro
open Go.Proofs.Ytdfhnngcddaccaa.cl (own_empty)
open Go.Proofs.Ytdfhnngcddaccaa.rx (all_good all_step)
set_option linter.unusedVariables false
set_option linter.unusedSimpArgs false
set_option linter.constructorNameAsVariable false
theorem info_lk : (Try.prog.info? 99).map (fun i => (i.zero, i.size, i.bytes)) = some (some (.agg #[.int .i64 0, .int .i64 0]), 2, 16) := by kernel_rfl
/-- the first place where p holds -/
def FirstAt (p : E2 → Bool) (l : List E2) (z : Int) : Prop :=
  (z = -1 ∧ ∀ (j : Nat) (y : E2), l[j]? = some y → (!p y) = true) ∨ (∃ (k : Nat) (y : E2), z = k ∧ l[k]? = some y ∧ p y = true ∧ ∀ (j : Nat) (y : E2), j < k → l[j]? = some y → (!p y) = true)
theorem filter_all {p : E2 → Bool} {l : List E2} (h : ∀ (j : Nat) (y : E2), l[j]? = some y → (!p y) = true) : l.filter (fun y => !p y) = l := by
  rw [List.filter_eq_self]
  intro y hy
  obtain ⟨j, hj, rfl⟩ := List.getElem_of_mem hy
  exact h j _ (List.getElem?_eq_getElem hj)
theorem filter_first {p : E2 → Bool} {l : List E2} {k : Nat} {y : E2} (hx : l[k]? = some y) (hy : p y = true) (h : ∀ (j : Nat) (y : E2), j < k → l[j]? = some y → (!p y) = true) : (l.take (k + 1)).filter (fun y => !p y) = l.take k := by
  rw [List.take_add_one, hx, List.filter_append, filter_all (l := l.take k) fun j z hz => ?_]
  · simp [hy]
  · rw [List.getElem?_take] at hz
    split at hz
    · exact h j z (by assumption) hz
    · cases hz
/-- the state of the loop: what is kept stands in front, what is to come stands where it stood -/
structure Del (p : E2 → Bool) (l r : List E2) (i j : Nat) : Prop where
  len : r.length = l.length
  lt : i + 1 ≤ j
  le : j ≤ l.length
  front : r.take i = (l.take j).filter (fun y => !p y)
  back : ∀ q, j ≤ q → r[q]? = l[q]?
theorem del_start {p : E2 → Bool} {l : List E2} {k : Nat} {y : E2} (hx : l[k]? = some y) (hy : p y = true) (h : ∀ (j : Nat) (y : E2), j < k → l[j]? = some y → (!p y) = true) : Del p l l k (k + 1) :=
  ⟨rfl, Nat.le_refl _, lt_get hx, (filter_first hx hy h).symm, fun _ _ => rfl⟩
theorem del_skip {p : E2 → Bool} {l r : List E2} {i j : Nat} {y : E2} (h : Del p l r i j) (hx : l[j]? = some y) (hy : p y = true) : Del p l r i (j + 1) :=
  ⟨h.len, by have := h.lt; omega, lt_get hx, by rw [h.front, List.take_add_one, hx]; simp [hy], fun q hq => h.back q (by omega)⟩
theorem del_keep {p : E2 → Bool} {l r : List E2} {i j : Nat} {y : E2} (h : Del p l r i j) (hx : l[j]? = some y) (hy : p y = false) : Del p l (r.set i y) (i + 1) (j + 1) := by
  have h1 := h.lt
  have h2 := h.len
  have h3 := lt_get hx
  refine ⟨by rw [List.length_set]; exact h2, by omega, h3, ?_, fun q hq => ?_⟩
  · rw [List.take_add_one, List.take_set_of_le (by omega), h.front, List.getElem?_set_self (by omega), List.take_add_one, hx]
    simp [hy]
  · rw [List.getElem?_set_ne (by omega)]
    exact h.back q (by omega)
theorem del_end {p : E2 → Bool} {l r : List E2} {i : Nat} (h : Del p l r i l.length) : r.take i = l.filter (fun y => !p y) := by rw [h.front, List.take_length]
theorem zero_lk : ∀ w : World, (zeroValue 99).run Try.prog w = .ok (.agg #[.int .i64 0, .int .i64 0]) w := fun _ => by kernel_rfl
/-! ReleaseLocks -/
theorem rel_nil (o : Int) : relL o [] = [] := rfl
theorem rel_step {l : List E2} {o : Int} {k : Nat} {y : E2} (hx : l[k]? = some y) (h : y.b ≠ o) : relL o (l.take k) ++ [y] = relL o (l.take (k + 1)) := by
  rw [List.take_add_one, hx]
  simp [relL, List.filter_append, h]
theorem rel_skip {l : List E2} {o : Int} {k : Nat} {y : E2} (hx : l[k]? = some y) (h : y.b = o) : relL o (l.take k) = relL o (l.take (k + 1)) := by
  rw [List.take_add_one, hx]
  simp [relL, List.filter_append, h]
theorem rel_small (o : Int) (l : List E2) (k : Nat) : (relL o (l.take k)).length ≤ k := Nat.le_trans (rel_len o _) (by rw [List.length_take]; omega)
theorem one_vs {w : World} {x : E2} {b : Nat} (h : At w b 0 x) : Vs w (b + 1) (some ⟨b, 0, none⟩) 1 [x] := ⟨rfl, fun _ => ⟨b, 0, rfl, by omega, fun k y hy => by
  have hk := lt_get hy
  obtain rfl : k = 0 := by simpa using hk
  simp at hy
  subst hy
  exact h⟩⟩
theorem grown_l {w w' : World} {base n : Nat} {v : Value} {xs : List Value} (ho : w.ownsRow base 99 2 v n xs) (hg : w.grownBy w' v.ownBlock) (hb : base ≤ w.heap.size) : Below base w w' :=
  (Below.refl _ _).grown hg hb fun q hq => (ho.lt q hq).1
end Go.Proofs.Ytdfhnngcddaccaa.lkd
