/- Marks of a transaction that a call made, from any number on: only the rows' own blocks change. -/
import Derived.Test.YtjnlbhmddhpmaaaGreatTm
namespace Go.Proofs.YtjnlbhmddhpmaaaGreat.mt
open Go.ChangeShapes Go.WideShapes Go.ChangeAt Go.RowKit
open Go.Proofs.YtjnlbhmddhpmaaaGreat.el2 Go.Proofs.YtjnlbhmddhpmaaaGreat.fr Go.Proofs.YtjnlbhmddhpmaaaGreat.ow2 Go.Proofs.YtjnlbhmddhpmaaaGreat.tx Go.Proofs.YtjnlbhmddhpmaaaGreat.tm
set_option linter.unusedVariables false
def MkG (w : World) (lo hi : Nat) (A : Option Addr) (n : Nat) (A2 : Option Addr) (n2 : Nat) (k0 : Int) : Prop := MkS 83 w lo hi A n k0 ∧ MkS 86 w lo hi A2 n2 (k0 + (n * 2 : Nat))
end Go.Proofs.YtjnlbhmddhpmaaaGreat.mt
