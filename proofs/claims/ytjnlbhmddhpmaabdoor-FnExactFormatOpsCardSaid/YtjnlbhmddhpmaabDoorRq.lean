/- Chapter 6: the store's version of a read, ReadsExist of the program and of the model: what each answers; nothing that was there is written. -/
import Derived.Test.YtjnlbhmddhpmaabDoorRx
import Derived.Test.YtjnlbhmddhpmaabDoorTf
import Derived.Test.YtjnlbhmddhpmaabDoorTvs
import Derived.Test.YtjnlbhmddhpmaabDoorVal
import Derived.Test.YtjnlbhmddhpmaabDoorFind
namespace Go.Proofs.YtjnlbhmddhpmaabDoor.rx
open Go.ChangeShapes Go.WideShapes Go.ChangeAt Go.RowKit
open Go.Proofs.YtjnlbhmddhpmaabDoor.el2 Go.Proofs.YtjnlbhmddhpmaabDoor.tx Go.Proofs.YtjnlbhmddhpmaabDoor.seq Go.Proofs.YtjnlbhmddhpmaabDoor.tv Go.Proofs.YtjnlbhmddhpmaabDoor.tf
open Go.Proofs.YtjnlbhmddhpmaabDoor.vers (new2)
open Go.Proofs.YtjnlbhmddhpmaabDoor.sl (Ver)
open Go.Proofs.YtjnlbhmddhpmaabDoor.st (Rs)
open Go.Proofs.YtjnlbhmddhpmaabDoor.val (stB)
open Go.Proofs.YtjnlbhmddhpmaabDoor.find (fndI)
set_option linter.unusedVariables false
set_option linter.unusedSimpArgs false
theorem qleft {P : Program} {f : FuncId} {args : Array Value} {w : World} {n : Nat} {v : Value} (h : Calls P f args (w.drewN n) fun e w' => e = .returned v ∧ w.drewN n = w') : Calls P f args (w.drewN n) fun e w'' => e = .returned v ∧ ∃ m, w'' = w.drewN m := h.mono fun _ _ ⟨he, hm⟩ => ⟨he, n, hm.symm⟩
theorem vsd {w : World} {B n : Nat} {A : Option Addr} {l : List Ver} (h : Go.Proofs.YtjnlbhmddhpmaabDoor.sl.Vs w B A n l) (m : Nat) : Go.Proofs.YtjnlbhmddhpmaabDoor.sl.Vs (w.drewN m) B A n l := h
end Go.Proofs.YtjnlbhmddhpmaabDoor.rx
