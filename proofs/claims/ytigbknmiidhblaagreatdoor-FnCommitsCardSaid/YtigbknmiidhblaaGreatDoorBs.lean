/- slices.BinarySearchFunc at the program's compareReads: the place of a mark in an ordered list, and whether it is there. -/
import Derived.Test.YtigbknmiidhblaaGreatDoorIns
import Derived.Test.YtigbknmiidhblaaGreatDoorTf
import Derived.Test.YtigbknmiidhblaaGreatDoorCm
import Derived.Shelf.Abstract
namespace Go.Proofs.YtigbknmiidhblaaGreatDoor.bs
open Go.ChangeShapes Go.WideShapes Go.ChangeAt Go.RowKit
open Go.Proofs.YtigbknmiidhblaaGreatDoor.el2 Go.Proofs.YtigbknmiidhblaaGreatDoor.tx Go.Proofs.YtigbknmiidhblaaGreatDoor.seq Go.Proofs.YtigbknmiidhblaaGreatDoor.tv Go.Proofs.YtigbknmiidhblaaGreatDoor.tf Go.Proofs.YtigbknmiidhblaaGreatDoor.cm Go.Proofs.YtigbknmiidhblaaGreatDoor.ins
set_option linter.unusedVariables false
set_option linter.unusedSimpArgs false
theorem enters_cmp : ∀ (args : Array Value) (w : World), (callFunc 125 args).run Tryz.prog w = .ok (.enter 125 args) w := enters_of Tryz.func125 (by kernel_rfl) rfl
theorem ret_pb {a a' : Int} {b b' : Bool} (h : a = a') (h2 : b = b') : Ending.returned (.tuple #[.int .i64 a, .bool b]) = .returned (.tuple #[.int .i64 a', .bool b']) := by rw [h, h2]
end Go.Proofs.YtigbknmiidhblaaGreatDoor.bs
