/- A transaction as a value: its numbers, its reads, its writes. -/
import Derived.Test.YtjnlbhmddhpmaaaGreatTx
namespace Go.Proofs.YtjnlbhmddhpmaaaGreat.mkr
open Go.Proofs.YtjnlbhmddhpmaaaGreat.el2 Go.Proofs.YtjnlbhmddhpmaaaGreat.tx
/-- a transaction: its header, its reads, its writes -/
structure Tr where
  x : Hd
  R : List E2
  S : List E2
end Go.Proofs.YtjnlbhmddhpmaaaGreat.mkr
