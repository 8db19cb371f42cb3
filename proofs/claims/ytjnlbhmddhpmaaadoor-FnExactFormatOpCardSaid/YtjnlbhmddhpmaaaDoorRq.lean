/- Chapter 6: the store's version of a read, ReadsExist of the program and of the model: what each answers; nothing that was there is written. -/
import Derived.Test.YtjnlbhmddhpmaaaDoorRx
import Derived.Test.YtjnlbhmddhpmaaaDoorTf
import Derived.Test.YtjnlbhmddhpmaaaDoorTvs
import Derived.Test.YtjnlbhmddhpmaaaDoorVal
import Derived.Test.YtjnlbhmddhpmaaaDoorFind
namespace Go.Proofs.YtjnlbhmddhpmaaaDoor.rx
open Go.ChangeShapes Go.WideShapes Go.ChangeAt Go.RowKit
open Go.Proofs.YtjnlbhmddhpmaaaDoor.el2 Go.Proofs.YtjnlbhmddhpmaaaDoor.tx Go.Proofs.YtjnlbhmddhpmaaaDoor.seq Go.Proofs.YtjnlbhmddhpmaaaDoor.tv Go.Proofs.YtjnlbhmddhpmaaaDoor.tf
open Go.Proofs.YtjnlbhmddhpmaaaDoor.vers (new2)
open Go.Proofs.YtjnlbhmddhpmaaaDoor.sl (Ver)
open Go.Proofs.YtjnlbhmddhpmaaaDoor.st (Rs)
open Go.Proofs.YtjnlbhmddhpmaaaDoor.val (stB)
open Go.Proofs.YtjnlbhmddhpmaaaDoor.find (fndI)
set_option linter.unusedVariables false
set_option linter.unusedSimpArgs false
theorem qleft {P : Program} {f : FuncId} {args : Array Value} {w : World} {n : Nat} {v : Value} (h : Calls P f args (w.drewN n) fun e w' => e = .returned v ∧ w.drewN n = w') : Calls P f args (w.drewN n) fun e w'' => e = .returned v ∧ ∃ m, w'' = w.drewN m := h.mono fun _ _ ⟨he, hm⟩ => ⟨he, n, hm.symm⟩
theorem vsd {w : World} {B n : Nat} {A : Option Addr} {l : List Ver} (h : Go.Proofs.YtjnlbhmddhpmaaaDoor.sl.Vs w B A n l) (m : Nat) : Go.Proofs.YtjnlbhmddhpmaaaDoor.sl.Vs (w.drewN m) B A n l := h
end Go.Proofs.YtjnlbhmddhpmaaaDoor.rx
