/- slices.BinarySearchFunc at the program's compareReads: the place of a mark in an ordered list, and whether it is there. -/
import Derived.Test.YthbbpfgjbidbhaaGreatDoorIns
import Derived.Test.YthbbpfgjbidbhaaGreatDoorTf
import Derived.Test.YthbbpfgjbidbhaaGreatDoorCm
import Derived.Shelf.Abstract
namespace Go.Proofs.YthbbpfgjbidbhaaGreatDoor.bs
open Go.ChangeShapes Go.WideShapes Go.ChangeAt Go.RowKit
open Go.Proofs.YthbbpfgjbidbhaaGreatDoor.el2 Go.Proofs.YthbbpfgjbidbhaaGreatDoor.tx Go.Proofs.YthbbpfgjbidbhaaGreatDoor.seq Go.Proofs.YthbbpfgjbidbhaaGreatDoor.tv Go.Proofs.YthbbpfgjbidbhaaGreatDoor.tf Go.Proofs.YthbbpfgjbidbhaaGreatDoor.cm Go.Proofs.YthbbpfgjbidbhaaGreatDoor.ins
set_option linter.unusedVariables false
set_option linter.unusedSimpArgs false
theorem enters_cmp : ∀ (args : Array Value) (w : World), (callFunc 101 args).run Tryz.prog w = .ok (.enter 101 args) w := enters_of Tryz.func101 (by kernel_rfl) rfl
theorem ret_pb {a a' : Int} {b b' : Bool} (h : a = a') (h2 : b = b') : Ending.returned (.tuple #[.int .i64 a, .bool b]) = .returned (.tuple #[.int .i64 a', .bool b']) := by rw [h, h2]
end Go.Proofs.YthbbpfgjbidbhaaGreatDoor.bs
