/- Marks of a transaction that a call made, from any number on: only the rows' own blocks change. -/
import Derived.Test.YtjnlbhmddhpmaaaTm
namespace Go.Proofs.Ytjnlbhmddhpmaaa.mt
open Go.ChangeShapes Go.WideShapes Go.ChangeAt Go.RowKit
open Go.Proofs.Ytjnlbhmddhpmaaa.el2 Go.Proofs.Ytjnlbhmddhpmaaa.fr Go.Proofs.Ytjnlbhmddhpmaaa.ow2 Go.Proofs.Ytjnlbhmddhpmaaa.tx Go.Proofs.Ytjnlbhmddhpmaaa.tm
set_option linter.unusedVariables false
def MkG (w : World) (lo hi : Nat) (A : Option Addr) (n : Nat) (A2 : Option Addr) (n2 : Nat) (k0 : Int) : Prop := MkS 122 w lo hi A n k0 ∧ MkS 124 w lo hi A2 n2 (k0 + (n * 2 : Nat))
end Go.Proofs.Ytjnlbhmddhpmaaa.mt
