/- Chapter 6: the store's version of a read, ReadsExist of the program and of the model: what each answers; nothing that was there is written. -/
import Derived.Test.YtdfhnngcddaccaaRx
import Derived.Test.YtdfhnngcddaccaaTf
import Derived.Test.YtdfhnngcddaccaaTvs
import Derived.Test.YtdfhnngcddaccaaVal
import Derived.Test.YtdfhnngcddaccaaFind
namespace Go.Proofs.Ytdfhnngcddaccaa.rx
open Go.ChangeShapes Go.WideShapes Go.ChangeAt Go.RowKit
open Go.Proofs.Ytdfhnngcddaccaa.el2 Go.Proofs.Ytdfhnngcddaccaa.tx Go.Proofs.Ytdfhnngcddaccaa.seq Go.Proofs.Ytdfhnngcddaccaa.tv Go.Proofs.Ytdfhnngcddaccaa.tf
open Go.Proofs.Ytdfhnngcddaccaa.vers (new2)
open Go.Proofs.Ytdfhnngcddaccaa.sl (Ver)
open Go.Proofs.Ytdfhnngcddaccaa.st (Rs)
open Go.Proofs.Ytdfhnngcddaccaa.val (stB)
open Go.Proofs.Ytdfhnngcddaccaa.find (fndI)
set_option linter.unusedVariables false
set_option linter.unusedSimpArgs false
theorem qleft {P : Program} {f : FuncId} {args : Array Value} {w : World} {n : Nat} {v : Value} (h : Calls P f args (w.drewN n) fun e w' => e = .returned v ∧ w.drewN n = w') : Calls P f args (w.drewN n) fun e w'' => e = .returned v ∧ ∃ m, w'' = w.drewN m := h.mono fun _ _ ⟨he, hm⟩ => ⟨he, n, hm.symm⟩
theorem vsd {w : World} {B n : Nat} {A : Option Addr} {l : List Ver} (h : Go.Proofs.Ytdfhnngcddaccaa.sl.Vs w B A n l) (m : Nat) : Go.Proofs.Ytdfhnngcddaccaa.sl.Vs (w.drewN m) B A n l := h
end Go.Proofs.Ytdfhnngcddaccaa.rx
