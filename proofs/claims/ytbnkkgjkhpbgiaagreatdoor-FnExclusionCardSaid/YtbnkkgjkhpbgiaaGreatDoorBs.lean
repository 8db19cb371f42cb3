/- slices.BinarySearchFunc at the program's compareReads: the place of a mark in an ordered list, and whether it is there. -/
import Derived.Test.YtbnkkgjkhpbgiaaGreatDoorIns
import Derived.Test.YtbnkkgjkhpbgiaaGreatDoorTf
import Derived.Test.YtbnkkgjkhpbgiaaGreatDoorCm
import Derived.Shelf.Abstract
namespace Go.Proofs.YtbnkkgjkhpbgiaaGreatDoor.bs
open Go.ChangeShapes Go.WideShapes Go.ChangeAt Go.RowKit
open Go.Proofs.YtbnkkgjkhpbgiaaGreatDoor.el2 Go.Proofs.YtbnkkgjkhpbgiaaGreatDoor.tx Go.Proofs.YtbnkkgjkhpbgiaaGreatDoor.seq Go.Proofs.YtbnkkgjkhpbgiaaGreatDoor.tv Go.Proofs.YtbnkkgjkhpbgiaaGreatDoor.tf Go.Proofs.YtbnkkgjkhpbgiaaGreatDoor.cm Go.Proofs.YtbnkkgjkhpbgiaaGreatDoor.ins
set_option linter.unusedVariables false
set_option linter.unusedSimpArgs false
theorem enters_cmp : ∀ (args : Array Value) (w : World), (callFunc 106 args).run Tryz.prog w = .ok (.enter 106 args) w := enters_of Tryz.func106 (by kernel_rfl) rfl
theorem ret_pb {a a' : Int} {b b' : Bool} (h : a = a') (h2 : b = b') : Ending.returned (.tuple #[.int .i64 a, .bool b]) = .returned (.tuple #[.int .i64 a', .bool b']) := by rw [h, h2]
end Go.Proofs.YtbnkkgjkhpbgiaaGreatDoor.bs
