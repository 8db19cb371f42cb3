/- Chapter 6: the store's version of a read, ReadsExist of the program and of the model: what each answers; nothing that was there is written. -/
import Derived.Test.YtjnlbhmddhpmaaaRx
import Derived.Test.YtjnlbhmddhpmaaaTf
import Derived.Test.YtjnlbhmddhpmaaaTvs
import Derived.Test.YtjnlbhmddhpmaaaVal
import Derived.Test.YtjnlbhmddhpmaaaFind
namespace Go.Proofs.Ytjnlbhmddhpmaaa.rx
open Go.ChangeShapes Go.WideShapes Go.ChangeAt Go.RowKit
open Go.Proofs.Ytjnlbhmddhpmaaa.el2 Go.Proofs.Ytjnlbhmddhpmaaa.tx Go.Proofs.Ytjnlbhmddhpmaaa.seq Go.Proofs.Ytjnlbhmddhpmaaa.tv Go.Proofs.Ytjnlbhmddhpmaaa.tf
open Go.Proofs.Ytjnlbhmddhpmaaa.vers (new2)
open Go.Proofs.Ytjnlbhmddhpmaaa.sl (Ver)
open Go.Proofs.Ytjnlbhmddhpmaaa.st (Rs)
open Go.Proofs.Ytjnlbhmddhpmaaa.val (stB)
open Go.Proofs.Ytjnlbhmddhpmaaa.find (fndI)
set_option linter.unusedVariables false
set_option linter.unusedSimpArgs false
theorem qleft {P : Program} {f : FuncId} {args : Array Value} {w : World} {n : Nat} {v : Value} (h : Calls P f args (w.drewN n) fun e w' => e = .returned v ∧ w.drewN n = w') : Calls P f args (w.drewN n) fun e w'' => e = .returned v ∧ ∃ m, w'' = w.drewN m := h.mono fun _ _ ⟨he, hm⟩ => ⟨he, n, hm.symm⟩
theorem vsd {w : World} {B n : Nat} {A : Option Addr} {l : List Ver} (h : Go.Proofs.Ytjnlbhmddhpmaaa.sl.Vs w B A n l) (m : Nat) : Go.Proofs.Ytjnlbhmddhpmaaa.sl.Vs (w.drewN m) B A n l := h
end Go.Proofs.Ytjnlbhmddhpmaaa.rx
