/- The law's own helpers over ReadMark and slices of them: how much they count, the copy, the comparison, the marks; opening an argument. Nothing that was there is written. -/
import Derived.Test.YtjnlbhmddhpmaabDoorEl2
import Derived.WalkKit
import Derived.ProofKit
import Derived.OpenShut
import Derived.ChangeOld
import Derived.Below
import Derived.Carry
import Derived.Lib.Hide
import Derived.LoopTactic
import Derived.Deep.QuietTactic
import Derived.BigQuiet
import Derived.StillTailTactics
import Derived.Outline
import Derived.IntWalk
import Derived.Deep.OwnRows
import Derived.Deep.Slices
import Derived.Deep.DeepHandedRow
import Derived.Laws.MakeOwn
import Derived.Laws.Entries
namespace Go.Proofs.YtjnlbhmddhpmaabDoor.rReadMark
open Go.ChangeShapes Go.WideShapes Go.ChangeAt Go.RowKit
open Go.Deep (open_slice add_add)
open Go.Proofs.YtjnlbhmddhpmaabDoor.el2
set_option linter.unusedVariables false
set_option linter.unusedSimpArgs false
set_option linter.constructorNameAsVariable false
def eB (x y : E2) : Bool := decide (x = y)
theorem eB_yes {x y : E2} (h : x.a = y.a ∧ x.b = y.b) : Ending.returned (.bool true) = .returned (.bool (eB x y)) := by
  have : x = y := by cases x; cases y; simp_all
  rw [show eB x y = true from decide_eq_true this]
theorem eB_no {x y : E2} (h : ¬ (x.a = y.a ∧ x.b = y.b)) : Ending.returned (.bool false) = .returned (.bool (eB x y)) := by
  have : x ≠ y := fun e => h (by subst e; simp)
  rw [show eB x y = false from decide_eq_false this]
/-! slices -/
/-! the marks -/
/-! a law's argument -/
section
variable {H : Type} {enc : TypeId × Value → H} {w : World} {base : Nat} {spare : Nat → Bool} {held : Bool}
theorem cell_lt {a : Addr} {v : Value} (h : w.cell? a = some v) : a.block < w.heap.size := by
  rcases Nat.lt_or_ge a.block w.heap.size with h' | h'
  · exact h'
  · simp [World.cell?, Array.getElem?_eq_none h'] at h
end
end Go.Proofs.YtjnlbhmddhpmaabDoor.rReadMark
