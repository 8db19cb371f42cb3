/- Chapter 6: the store's version of a read, ReadsExist of the program and of the model: what each answers; nothing that was there is written. -/
import Derived.Test.YthbbpfgjbidbhaaRx
import Derived.Test.YthbbpfgjbidbhaaTf
import Derived.Test.YthbbpfgjbidbhaaTvs
import Derived.Test.YthbbpfgjbidbhaaVal
import Derived.Test.YthbbpfgjbidbhaaFind
namespace Go.Proofs.Ythbbpfgjbidbhaa.rx
open Go.ChangeShapes Go.WideShapes Go.ChangeAt Go.RowKit
open Go.Proofs.Ythbbpfgjbidbhaa.el2 Go.Proofs.Ythbbpfgjbidbhaa.tx Go.Proofs.Ythbbpfgjbidbhaa.seq Go.Proofs.Ythbbpfgjbidbhaa.tv Go.Proofs.Ythbbpfgjbidbhaa.tf
open Go.Proofs.Ythbbpfgjbidbhaa.vers (new2)
open Go.Proofs.Ythbbpfgjbidbhaa.sl (Ver)
open Go.Proofs.Ythbbpfgjbidbhaa.st (Rs)
open Go.Proofs.Ythbbpfgjbidbhaa.val (stB)
open Go.Proofs.Ythbbpfgjbidbhaa.find (fndI)
set_option linter.unusedVariables false
set_option linter.unusedSimpArgs false
theorem qleft {P : Program} {f : FuncId} {args : Array Value} {w : World} {n : Nat} {v : Value} (h : Calls P f args (w.drewN n) fun e w' => e = .returned v ∧ w.drewN n = w') : Calls P f args (w.drewN n) fun e w'' => e = .returned v ∧ ∃ m, w'' = w.drewN m := h.mono fun _ _ ⟨he, hm⟩ => ⟨he, n, hm.symm⟩
theorem vsd {w : World} {B n : Nat} {A : Option Addr} {l : List Ver} (h : Go.Proofs.Ythbbpfgjbidbhaa.sl.Vs w B A n l) (m : Nat) : Go.Proofs.Ythbbpfgjbidbhaa.sl.Vs (w.drewN m) B A n l := h
end Go.Proofs.Ythbbpfgjbidbhaa.rx
