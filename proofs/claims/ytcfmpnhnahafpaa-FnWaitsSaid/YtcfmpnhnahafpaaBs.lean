/- slices.BinarySearchFunc at the program's compareReads: the place of a mark in an ordered list, and whether it is there. -/
import Derived.Test.YtcfmpnhnahafpaaIns
import Derived.Test.YtcfmpnhnahafpaaTf
import Derived.Test.YtcfmpnhnahafpaaCm
import Derived.Shelf.Abstract
namespace Go.Proofs.Ytcfmpnhnahafpaa.bs
open Go.ChangeShapes Go.WideShapes Go.ChangeAt Go.RowKit
open Go.Proofs.Ytcfmpnhnahafpaa.el2 Go.Proofs.Ytcfmpnhnahafpaa.tx Go.Proofs.Ytcfmpnhnahafpaa.seq Go.Proofs.Ytcfmpnhnahafpaa.tv Go.Proofs.Ytcfmpnhnahafpaa.tf Go.Proofs.Ytcfmpnhnahafpaa.cm Go.Proofs.Ytcfmpnhnahafpaa.ins
set_option linter.unusedVariables false
set_option linter.unusedSimpArgs false
theorem ret_pb {a a' : Int} {b b' : Bool} (h : a = a') (h2 : b = b') : Ending.returned (.tuple #[.int .i64 a, .bool b]) = .returned (.tuple #[.int .i64 a', .bool b']) := by rw [h, h2]
end Go.Proofs.Ytcfmpnhnahafpaa.bs
