/- An operation as a value, and when it is valid; plain. -/
import Derived.Test.YtjnlbhmddhpmaabDoorVers
namespace Go.Proofs.YtjnlbhmddhpmaabDoor.en
open Go.Proofs.YtjnlbhmddhpmaabDoor.vers (In in_yes in_no in_of in_off)
set_option linter.unusedVariables false
/-- an operation: kind, ID, scheme, key, high, value -/
structure Opn where
  k : Int
  i : Int
  s : Int
  key : Int
  hi : Int
  v : Int
/-- the operation is valid -/
def ovB (o : Opn) : Bool :=
  In 1 9 o.i && In 0 5 o.key && In (-1) 99 o.v &&
  (decide (o.k = 1 ∧ o.key = 0 ∧ o.hi = 0 ∧ o.v = 0 ∧ 1 ≤ o.s ∧ o.s ≤ 4) || decide (o.k = 2 ∧ o.s = 0 ∧ o.hi = 0 ∧ o.v = 0) || decide (o.k = 3 ∧ o.s = 0 ∧ o.hi = 0) || decide (o.k = 4 ∧ o.s = 0 ∧ o.v = 0 ∧ o.key ≤ o.hi ∧ o.hi ≤ 5) || decide ((o.k = 5 ∨ o.k = 6) ∧ o.s = 0 ∧ o.key = 0 ∧ o.hi = 0 ∧ o.v = 0))
end Go.Proofs.YtjnlbhmddhpmaabDoor.en
