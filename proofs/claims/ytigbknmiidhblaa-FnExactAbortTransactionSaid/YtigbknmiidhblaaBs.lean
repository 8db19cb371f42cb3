/- slices.BinarySearchFunc at the program's compareReads: the place of a mark in an ordered list, and whether it is there. -/
import Derived.Test.YtigbknmiidhblaaIns
import Derived.Test.YtigbknmiidhblaaTf
import Derived.Test.YtigbknmiidhblaaCm
import Derived.Shelf.Abstract
namespace Go.Proofs.Ytigbknmiidhblaa.bs
open Go.ChangeShapes Go.WideShapes Go.ChangeAt Go.RowKit
open Go.Proofs.Ytigbknmiidhblaa.el2 Go.Proofs.Ytigbknmiidhblaa.tx Go.Proofs.Ytigbknmiidhblaa.seq Go.Proofs.Ytigbknmiidhblaa.tv Go.Proofs.Ytigbknmiidhblaa.tf Go.Proofs.Ytigbknmiidhblaa.cm Go.Proofs.Ytigbknmiidhblaa.ins
set_option linter.unusedVariables false
set_option linter.unusedSimpArgs false
theorem enters_cmp : ∀ (args : Array Value) (w : World), (callFunc 71 args).run Try.prog w = .ok (.enter 71 args) w := enters_of Try.func71 (by kernel_rfl) rfl
theorem ret_pb {a a' : Int} {b b' : Bool} (h : a = a') (h2 : b = b') : Ending.returned (.tuple #[.int .i64 a, .bool b]) = .returned (.tuple #[.int .i64 a', .bool b']) := by rw [h, h2]
end Go.Proofs.Ytigbknmiidhblaa.bs
