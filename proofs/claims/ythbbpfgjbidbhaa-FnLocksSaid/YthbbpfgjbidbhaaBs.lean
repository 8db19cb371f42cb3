/- slices.BinarySearchFunc at the program's compareReads: the place of a mark in an ordered list, and whether it is there. -/
import Derived.Test.YthbbpfgjbidbhaaIns
import Derived.Test.YthbbpfgjbidbhaaTf
import Derived.Test.YthbbpfgjbidbhaaCm
import Derived.Shelf.Abstract
namespace Go.Proofs.Ythbbpfgjbidbhaa.bs
open Go.ChangeShapes Go.WideShapes Go.ChangeAt Go.RowKit
open Go.Proofs.Ythbbpfgjbidbhaa.el2 Go.Proofs.Ythbbpfgjbidbhaa.tx Go.Proofs.Ythbbpfgjbidbhaa.seq Go.Proofs.Ythbbpfgjbidbhaa.tv Go.Proofs.Ythbbpfgjbidbhaa.tf Go.Proofs.Ythbbpfgjbidbhaa.cm Go.Proofs.Ythbbpfgjbidbhaa.ins
set_option linter.unusedVariables false
set_option linter.unusedSimpArgs false
theorem ret_pb {a a' : Int} {b b' : Bool} (h : a = a') (h2 : b = b') : Ending.returned (.tuple #[.int .i64 a, .bool b]) = .returned (.tuple #[.int .i64 a', .bool b']) := by rw [h, h2]
end Go.Proofs.Ythbbpfgjbidbhaa.bs
