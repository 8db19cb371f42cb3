/- A transaction as a value: its numbers, its reads, its writes. -/
import Derived.Test.YtjnlbhmddhpmaaaTx
namespace Go.Proofs.Ytjnlbhmddhpmaaa.mkr
open Go.Proofs.Ytjnlbhmddhpmaaa.el2 Go.Proofs.Ytjnlbhmddhpmaaa.tx
/-- a transaction: its header, its reads, its writes -/
structure Tr where
  x : Hd
  R : List E2
  S : List E2
end Go.Proofs.Ytjnlbhmddhpmaaa.mkr
