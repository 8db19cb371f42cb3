/- Chapter 6: the store's version of a read, ReadsExist of the program and of the model: what each answers; nothing that was there is written. -/
import Derived.Test.YtcfmpnhnahafpaaRx
import Derived.Test.YtcfmpnhnahafpaaTf
import Derived.Test.YtcfmpnhnahafpaaTvs
import Derived.Test.YtcfmpnhnahafpaaVal
import Derived.Test.YtcfmpnhnahafpaaFind
namespace Go.Proofs.Ytcfmpnhnahafpaa.rx
open Go.ChangeShapes Go.WideShapes Go.ChangeAt Go.RowKit
open Go.Proofs.Ytcfmpnhnahafpaa.el2 Go.Proofs.Ytcfmpnhnahafpaa.tx Go.Proofs.Ytcfmpnhnahafpaa.seq Go.Proofs.Ytcfmpnhnahafpaa.tv Go.Proofs.Ytcfmpnhnahafpaa.tf
open Go.Proofs.Ytcfmpnhnahafpaa.vers (new2)
open Go.Proofs.Ytcfmpnhnahafpaa.sl (Ver)
open Go.Proofs.Ytcfmpnhnahafpaa.st (Rs)
open Go.Proofs.Ytcfmpnhnahafpaa.val (stB)
open Go.Proofs.Ytcfmpnhnahafpaa.find (fndI)
set_option linter.unusedVariables false
set_option linter.unusedSimpArgs false
theorem qleft {P : Program} {f : FuncId} {args : Array Value} {w : World} {n : Nat} {v : Value} (h : Calls P f args (w.drewN n) fun e w' => e = .returned v ∧ w.drewN n = w') : Calls P f args (w.drewN n) fun e w'' => e = .returned v ∧ ∃ m, w'' = w.drewN m := h.mono fun _ _ ⟨he, hm⟩ => ⟨he, n, hm.symm⟩
theorem vsd {w : World} {B n : Nat} {A : Option Addr} {l : List Ver} (h : Go.Proofs.Ytcfmpnhnahafpaa.sl.Vs w B A n l) (m : Nat) : Go.Proofs.Ytcfmpnhnahafpaa.sl.Vs (w.drewN m) B A n l := h
end Go.Proofs.Ytcfmpnhnahafpaa.rx
