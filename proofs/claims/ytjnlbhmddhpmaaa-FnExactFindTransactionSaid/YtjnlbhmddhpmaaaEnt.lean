/- Chapter 13, plain mathematics: finding a transaction by its ID. -/
import Derived.Test.YtjnlbhmddhpmaaaTr
namespace Go.Proofs.Ytjnlbhmddhpmaaa.en
open Go.Proofs.Ytjnlbhmddhpmaaa.el2 Go.Proofs.Ytjnlbhmddhpmaaa.tx Go.Proofs.Ytjnlbhmddhpmaaa.mkr
set_option linter.unusedVariables false
/-- the index of the first transaction with the ID -/
def fndT (i : Int) : List Tr → Nat → Int
  | [], _ => -1
  | t :: r, k => if t.x.i = i then k else fndT i r (k + 1)
/-- there is one with the ID, and it is active -/
def acT (T : List Tr) (i : Int) : Bool := decide (0 ≤ fndT i T 0) && decide (((T[(fndT i T 0).toNat]?).map (·.x.t)) = some 1)
end Go.Proofs.Ytjnlbhmddhpmaaa.en
