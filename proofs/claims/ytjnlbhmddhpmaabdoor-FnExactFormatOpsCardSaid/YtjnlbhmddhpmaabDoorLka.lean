/- AreLocks of the program and of the model: what each answers; nothing that was there is written. -/
import Derived.Test.YtjnlbhmddhpmaabDoorLk
import Derived.Test.YtjnlbhmddhpmaabDoorRq
import Derived.LoopTactic
import Derived.Deep.QuietTactic
import Derived.BigQuiet
import Derived.IntWalk
namespace Go.Proofs.YtjnlbhmddhpmaabDoor.lka
open Go.ChangeShapes Go.WideShapes Go.ChangeAt Go.RowKit
open Go.Proofs.YtjnlbhmddhpmaabDoor.el2 Go.Proofs.YtjnlbhmddhpmaabDoor.seq Go.Proofs.YtjnlbhmddhpmaabDoor.lk
open Go.Proofs.YtjnlbhmddhpmaabDoor.vers (In in_yes in_no in_of in_off in_range ret_b)
open Go.Proofs.YtjnlbhmddhpmaabDoor.tv (is_key)
open Go.Proofs.YtjnlbhmddhpmaabDoor.rx (qleft)
set_option linter.unusedVariables false
set_option linter.unusedSimpArgs false
theorem in_q {x lo hi : Int} {q : Bool} (h : In lo hi x = q) (w : World) : Calls Tryd.prog 46 #[.int .i64 x, .int .i64 lo, .int .i64 hi] w fun e w' => e = .returned (.bool q) ∧ w = w' := by
  subst h
  exact in_range _ _ _ _
theorem is_id (x : Int) (w : World) :
    Calls Tryd.prog 29 #[.int .i64 x] w fun e w' => e = .returned (.bool (In 1 9 x)) ∧ w = w' := by
  go_enter Tryd.func29, Tryd.ntmps29
  by_cases h : 1 ≤ x
  · have d : decide (1 ≤ x) = true := decide_eq_true h
    go_wp2
    go_ret
    simp [In, d]
  · have d : decide (1 ≤ x) = false := decide_eq_false h
    go_wp2
    go_ret
    simp [In, d]
theorem key_q {x : Int} {q : Bool} (h : In 0 5 x = q) (w : World) : Calls Tryd.prog 31 #[.int .i64 x] w fun e w' => e = .returned (.bool q) ∧ w = w' := by
  subst h
  exact is_key _ _
theorem id_q {x : Int} {q : Bool} (h : In 1 9 x = q) (w : World) : Calls Tryd.prog 29 #[.int .i64 x] w fun e w' => e = .returned (.bool q) ∧ w = w' := by
  subst h
  exact is_id _ _
theorem at_prev {w : World} {B n b o k : Nat} {A : Option Addr} {l : List E2} (h : Vs w B A n l) (hA : A = some ⟨b, o, none⟩) (hk : k < n) (h0 : 0 < k) : ∃ y, l[k - 1]? = some y ∧ At w b (o + (k - 1) * 2) y := by
  obtain ⟨b', o', y, e, _, hy, ha⟩ := h.at_ (k := k - 1) (by omega)
  rw [hA] at e
  injection e with e
  injection e with e1 e2
  subst e1 e2
  exact ⟨y, hy, ha⟩
theorem lk_bad {l : List E2} {k : Nat} {x : E2} (hx : l[k]? = some x) (h : okK x = false) : false = lkB l := (sq_bad hx h).symm
theorem lk_off {l : List E2} {k : Nat} {x y : E2} (hk : 0 < k) (hy : l[k - 1]? = some y) (hx : l[k]? = some x) (h : ¬ y.a < x.a) : false = lkB l := (sq_off hk hy hx (folK_no h)).symm
theorem lk_all {l : List E2} {n : Nat} (hn : l.length = n) (h : Pri okK folK l n) : true = lkB l := (sq_all hn h).symm
end Go.Proofs.YtjnlbhmddhpmaabDoor.lka
