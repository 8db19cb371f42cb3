/- RefreshHigh of the program and of the model: what each answers; nothing that was there is written. -/
import Derived.Test.YtigbknmiidhblaaRi
import Derived.Lib.MinMax
namespace Go.Proofs.Ytigbknmiidhblaa.rh
open Go.ChangeShapes Go.WideShapes Go.ChangeAt Go.RowKit
open Go.Proofs.Ytigbknmiidhblaa.el2 Go.Proofs.Ytigbknmiidhblaa.tx Go.Proofs.Ytigbknmiidhblaa.seq Go.Proofs.Ytigbknmiidhblaa.tv Go.Proofs.Ytigbknmiidhblaa.tf Go.Proofs.Ytigbknmiidhblaa.rx Go.Proofs.Ytigbknmiidhblaa.ri
open Go.Proofs.Ytigbknmiidhblaa.vers (new2)
open Go.Proofs.Ytigbknmiidhblaa.sl (Ver)
open Go.Proofs.Ytigbknmiidhblaa.st (Rs)
open Go.Proofs.Ytigbknmiidhblaa.val (stB)
open Go.Proofs.Ytigbknmiidhblaa.find (fndI)
set_option linter.unusedVariables false
set_option linter.unusedSimpArgs false
/-- the least successor among the versions of the first k reads -/
noncomputable def hiK (C : List (List Ver)) (R : List E2) (k : Nat) : Int := (R.take k).foldl (fun h m => min h (verOf C m).e) 1000
noncomputable def rhI (C : List (List Ver)) (x : Hd) (R S : List E2) : Int := if rexB C x R S = true then hiK C R R.length else 0
theorem hi_step {C : List (List Ver)} {R : List E2} {k : Nat} {y : E2} {z : Int} (hx : R[k]? = some y) (hz : (verOf C y).e = z) : hiK C R (k + 1) = min (hiK C R k) z := by
  unfold hiK
  have hk := lt_get hx
  rw [List.take_add_one, hx, ← hz]
  simp [List.foldl_append]
theorem rh_no {C : List (List Ver)} {x : Hd} {R S : List E2} (h : rexB C x R S = false) : (0 : Int) = rhI C x R S := by simp [rhI, h]
theorem rh_yes {C : List (List Ver)} {x : Hd} {R S : List E2} {n : Nat} (hn : R.length = n) (h : rexB C x R S = true) : hiK C R n = rhI C x R S := by subst hn; simp [rhI, h]
theorem ret_i {a b : Int} (h : a = b) : Ending.returned (.int .i64 a) = .returned (.int .i64 b) := by rw [h]
theorem val_i {a b : Int} (h : a = b) : Value.int .i64 a = .int .i64 b := by rw [h]
end Go.Proofs.Ytigbknmiidhblaa.rh
