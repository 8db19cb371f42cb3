/- slices.BinarySearchFunc at the program's compareReads: the place of a mark in an ordered list, and whether it is there. -/
import Derived.Test.YtbnkkgjkhpbgiaaIns
import Derived.Test.YtbnkkgjkhpbgiaaTf
import Derived.Test.YtbnkkgjkhpbgiaaCm
import Derived.Shelf.Abstract
namespace Go.Proofs.Ytbnkkgjkhpbgiaa.bs
open Go.ChangeShapes Go.WideShapes Go.ChangeAt Go.RowKit
open Go.Proofs.Ytbnkkgjkhpbgiaa.el2 Go.Proofs.Ytbnkkgjkhpbgiaa.tx Go.Proofs.Ytbnkkgjkhpbgiaa.seq Go.Proofs.Ytbnkkgjkhpbgiaa.tv Go.Proofs.Ytbnkkgjkhpbgiaa.tf Go.Proofs.Ytbnkkgjkhpbgiaa.cm Go.Proofs.Ytbnkkgjkhpbgiaa.ins
set_option linter.unusedVariables false
set_option linter.unusedSimpArgs false
theorem enters_cmp : ∀ (args : Array Value) (w : World), (callFunc 70 args).run Try.prog w = .ok (.enter 70 args) w := enters_of Try.func70 (by kernel_rfl) rfl
theorem ret_pb {a a' : Int} {b b' : Bool} (h : a = a') (h2 : b = b') : Ending.returned (.tuple #[.int .i64 a, .bool b]) = .returned (.tuple #[.int .i64 a', .bool b']) := by rw [h, h2]
end Go.Proofs.Ytbnkkgjkhpbgiaa.bs
