/- Chapter 6: the store's version of a read, ReadsExist of the program and of the model: what each answers; nothing that was there is written. -/
import Derived.Test.YtigbknmiidhblaaRx
import Derived.Test.YtigbknmiidhblaaTf
import Derived.Test.YtigbknmiidhblaaTvs
import Derived.Test.YtigbknmiidhblaaVal
import Derived.Test.YtigbknmiidhblaaFind
namespace Go.Proofs.Ytigbknmiidhblaa.rx
open Go.ChangeShapes Go.WideShapes Go.ChangeAt Go.RowKit
open Go.Proofs.Ytigbknmiidhblaa.el2 Go.Proofs.Ytigbknmiidhblaa.tx Go.Proofs.Ytigbknmiidhblaa.seq Go.Proofs.Ytigbknmiidhblaa.tv Go.Proofs.Ytigbknmiidhblaa.tf
open Go.Proofs.Ytigbknmiidhblaa.vers (new2)
open Go.Proofs.Ytigbknmiidhblaa.sl (Ver)
open Go.Proofs.Ytigbknmiidhblaa.st (Rs)
open Go.Proofs.Ytigbknmiidhblaa.val (stB)
open Go.Proofs.Ytigbknmiidhblaa.find (fndI)
set_option linter.unusedVariables false
set_option linter.unusedSimpArgs false
theorem qleft {P : Program} {f : FuncId} {args : Array Value} {w : World} {n : Nat} {v : Value} (h : Calls P f args (w.drewN n) fun e w' => e = .returned v ∧ w.drewN n = w') : Calls P f args (w.drewN n) fun e w'' => e = .returned v ∧ ∃ m, w'' = w.drewN m := h.mono fun _ _ ⟨he, hm⟩ => ⟨he, n, hm.symm⟩
theorem vsd {w : World} {B n : Nat} {A : Option Addr} {l : List Ver} (h : Go.Proofs.Ytigbknmiidhblaa.sl.Vs w B A n l) (m : Nat) : Go.Proofs.Ytigbknmiidhblaa.sl.Vs (w.drewN m) B A n l := h
end Go.Proofs.Ytigbknmiidhblaa.rx
