/- Chapter 6 of the program: the version that a mark names, slices.IndexFunc and ContainsFunc at marks, ReadsExist: what each answers; nothing that was there is written. -/
import Derived.Test.YtdfhnngcddaccaaRq
import Derived.Shelf.Abstract
namespace Go.Proofs.Ytdfhnngcddaccaa.ri
open Go.ChangeShapes Go.WideShapes Go.ChangeAt Go.RowKit
open Go.Proofs.Ytdfhnngcddaccaa.el2 Go.Proofs.Ytdfhnngcddaccaa.tx Go.Proofs.Ytdfhnngcddaccaa.seq Go.Proofs.Ytdfhnngcddaccaa.tv Go.Proofs.Ytdfhnngcddaccaa.tf Go.Proofs.Ytdfhnngcddaccaa.rx
open Go.Proofs.Ytdfhnngcddaccaa.vers (new2)
open Go.Proofs.Ytdfhnngcddaccaa.sl (Ver)
open Go.Proofs.Ytdfhnngcddaccaa.st (Rs)
open Go.Proofs.Ytdfhnngcddaccaa.val (stB)
open Go.Proofs.Ytdfhnngcddaccaa.find (fndI)
set_option linter.unusedVariables false
set_option linter.unusedSimpArgs false
/-- what versionOf hands back -/
def VO (C : List (List Ver)) (y : E2) (B : Nat) (W : World) (e : Ending) : Prop :=
  (hasV C y = false ∧ e = .returned (.pointer none)) ∨ (hasV C y = true ∧ ∃ b o, e = .returned (.pointer (some ⟨b, o, none⟩)) ∧ b < B ∧ Go.Proofs.Ytdfhnngcddaccaa.sl.At W b o (verOf C y))
theorem any_hit {p : E2 → Bool} {l : List E2} {k : Nat} {y : E2} (hx : l[k]? = some y) (h : p y = true) : l.any p = true := by
  rw [List.any_eq_true]
  exact ⟨y, List.mem_of_getElem? hx, h⟩
theorem any_none {p : E2 → Bool} {l : List E2} {n : Nat} (hn : l.length = n) (h : ∀ (j : Nat) (y : E2), j < n → l[j]? = some y → (!p y) = true) : l.any p = false := by
  have h2 := all_good hn h
  rw [List.all_eq_true] at h2
  rw [List.any_eq_false]
  intro x hx
  have := h2 x hx
  simpa using this
theorem any_all {C : List (List Ver)} (R : List E2) : (!R.any fun y => !hasV C y) = R.all (hasV C) := by
  rw [List.not_any_eq_all_not]
  congr 1
  funext y
  simp
end Go.Proofs.Ytdfhnngcddaccaa.ri
