/- Chapter 13, plain mathematics: finding a transaction by its ID. -/
import Derived.Test.YtjnlbhmddhpmaaaGreatTr
namespace Go.Proofs.YtjnlbhmddhpmaaaGreat.en
open Go.Proofs.YtjnlbhmddhpmaaaGreat.el2 Go.Proofs.YtjnlbhmddhpmaaaGreat.tx Go.Proofs.YtjnlbhmddhpmaaaGreat.mkr
set_option linter.unusedVariables false
/-- the index of the first transaction with the ID -/
def fndT (i : Int) : List Tr → Nat → Int
  | [], _ => -1
  | t :: r, k => if t.x.i = i then k else fndT i r (k + 1)
/-- there is one with the ID, and it is active -/
def acT (T : List Tr) (i : Int) : Bool := decide (0 ≤ fndT i T 0) && decide (((T[(fndT i T 0).toNat]?).map (·.x.t)) = some 1)
end Go.Proofs.YtjnlbhmddhpmaaaGreat.en
