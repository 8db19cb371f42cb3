/- The program's and the model's LastStamp: what each answers; nothing that was there is written. -/
import Derived.Test.YtigbknmiidhblaaVal
import Derived.WalkKit
import Derived.ProofKit
import Derived.Below
import Derived.Lib.Hide
import Derived.LoopTactic
import Derived.Deep.QuietTactic
import Derived.BigQuiet
import Derived.Outline
import Derived.IntWalk
namespace Go.Proofs.Ytigbknmiidhblaa.last
open Go.ChangeShapes Go.WideShapes Go.ChangeAt Go.RowKit
open Go.Proofs.Ytigbknmiidhblaa.vers Go.Proofs.Ytigbknmiidhblaa.sl Go.Proofs.Ytigbknmiidhblaa.ch Go.Proofs.Ytigbknmiidhblaa.st Go.Proofs.Ytigbknmiidhblaa.val
set_option linter.unusedVariables false
set_option linter.unusedSimpArgs false
def mxV (m : Int) (x : Ver) : Int := max (max m x.c) x.d
def mxL (m : Int) (l : List Ver) : Int := l.foldl mxV m
def mxS (ll : List (List Ver)) : Int := ll.foldl mxL 0
noncomputable def lstS (ll : List (List Ver)) : Int := if stB ll = true then mxS ll else 0
theorem mx_step {m : Int} {l : List Ver} {k : Nat} {x : Ver} (h : l[k]? = some x) : mxL m (l.take (k + 1)) = mxV (mxL m (l.take k)) x := by
  have hk := lt_get h
  rw [List.getElem?_eq_getElem hk] at h
  unfold mxL
  rw [List.take_succ_eq_append_getElem hk, List.foldl_append, Option.some.inj h]
  rfl
theorem mx_row {ll : List (List Ver)} {k : Nat} {l : List Ver} (h : ll[k]? = some l) : mxS (ll.take (k + 1)) = mxL (mxS (ll.take k)) l := by
  have hk := lt_get h
  rw [List.getElem?_eq_getElem hk] at h
  unfold mxS
  rw [List.take_succ_eq_append_getElem hk, List.foldl_append, Option.some.inj h]
  rfl
theorem mx_all {m : Int} {l : List Ver} {n : Nat} (h : l.length = n) : mxL m (l.take n) = mxL m l := by rw [List.take_of_length_le (by omega)]
theorem mxS_all {ll : List (List Ver)} {n : Nat} (h : ll.length = n) : mxS (ll.take n) = mxS ll := by rw [List.take_of_length_le (by omega)]
theorem lst_no {ll : List (List Ver)} (h : stB ll = false) : lstS ll = 0 := by simp [lstS, h]
theorem lst_yes {ll : List (List Ver)} (h : stB ll = true) : lstS ll = mxS ll := by simp [lstS, h]
theorem max3 (x y z : Int) (w : World) : (Builtin.max_ #[3, 3, 3] 3 #[.int .i64 x, .int .i64 y, .int .i64 z]).run Try.prog w = .ok (.int .i64 (max (max x y) z)) w := by
  have e : (if y > x then y else x) = max x y := by
    rw [Int.max_def]
    split <;> split <;> omega
  have e2 : (if z > max x y then z else max x y) = max (max x y) z := by
    generalize max x y = u
    rw [Int.max_def]
    split <;> split <;> omega
  simp [Builtin.max_, Builtin.max2, e, e2]
theorem iv {a b : Int} (h : a = b) : Value.int .i64 a = .int .i64 b := by rw [h]
end Go.Proofs.Ytigbknmiidhblaa.last
