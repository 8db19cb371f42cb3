/- SchemeName of the program and of the model at a Door seat: what each answers. -/
import Derived.Test.YtjnlbhmddhpmaabDoorVers
import Derived.WalkKit
import Derived.ProofKit
import Derived.Below
import Derived.Lib.Hide
import Derived.LoopTactic
import Derived.Deep.QuietTactic
import Derived.BigQuiet
import Derived.StillTailTactics
import Derived.Outline
import Derived.IntWalk
import Derived.Deep.RegionHeld3
import Derived.Deep.OwnRows
import Derived.Laws.Entries
namespace Go.Proofs.YtjnlbhmddhpmaabDoor.snw
open Go.ChangeShapes Go.WideShapes Go.ChangeAt Go.RowKit
open Go.Proofs.YtjnlbhmddhpmaabDoor.vers (In in_yes in_no in_of in_off in_range ret_b new1 new2 new3)
set_option linter.unusedVariables false
set_option linter.unusedSimpArgs false
def sn (k : Int) : ByteArray := if k = 1 then ⟨#[99, 111, 109, 109, 105, 116, 116, 101, 100]⟩ else if k = 2 then ⟨#[115, 110, 97, 112, 115, 104, 111, 116]⟩ else if k = 3 then ⟨#[111, 112, 116, 105, 109, 105, 115, 116, 105, 99]⟩ else if k = 4 then ⟨#[111, 114, 100, 101, 114, 101, 100]⟩ else ⟨#[]⟩
theorem sn_1 : sn 1 = ⟨#[99, 111, 109, 109, 105, 116, 116, 101, 100]⟩ := rfl
theorem sn_2 : sn 2 = ⟨#[115, 110, 97, 112, 115, 104, 111, 116]⟩ := rfl
theorem sn_3 : sn 3 = ⟨#[111, 112, 116, 105, 109, 105, 115, 116, 105, 99]⟩ := rfl
theorem sn_4 : sn 4 = ⟨#[111, 114, 100, 101, 114, 101, 100]⟩ := rfl
theorem sn_0 {k : Int} (h1 : k ≠ 1) (h2 : k ≠ 2) (h3 : k ≠ 3) (h4 : k ≠ 4) : sn k = ⟨#[]⟩ := by unfold sn; rw [if_neg h1, if_neg h2, if_neg h3, if_neg h4]
theorem ret_s {a b : ByteArray} (h : a = b) : Ending.returned (.string a) = .returned (.string b) := by rw [h]
set_option maxHeartbeats 1600000 in
theorem impl_scheme (k : Int) (w : World) :
    Calls Tryd.prog 33 #[.int .i64 k] w fun e w' => e = .returned (.string (sn k)) ∧ Below w.heap.size w w' := by
  by_cases q1 : k = 1
  case pos =>
    subst q1
    go_enter Tryd.func33, Tryd.ntmps33
    go_wp2_with fail
    go_ret
    exact ⟨ret_s sn_1.symm, Below.refl _ _⟩
  by_cases q2 : k = 2
  case pos =>
    subst q2
    go_enter Tryd.func33, Tryd.ntmps33
    go_wp2_with fail
    go_ret
    exact ⟨ret_s sn_2.symm, Below.refl _ _⟩
  by_cases q3 : k = 3
  case pos =>
    subst q3
    go_enter Tryd.func33, Tryd.ntmps33
    go_wp2_with fail
    go_ret
    exact ⟨ret_s sn_3.symm, Below.refl _ _⟩
  by_cases q4 : k = 4
  case pos =>
    subst q4
    go_enter Tryd.func33, Tryd.ntmps33
    go_wp2_with fail
    go_ret
    exact ⟨ret_s sn_4.symm, Below.refl _ _⟩
  have hs := Lib.hid (sn_0 q1 q2 q3 q4)
  have e1 : (k == 1) = false := by simpa using q1
  have e2 : (k == 2) = false := by simpa using q2
  have e3 : (k == 3) = false := by simpa using q3
  have e4 : (k == 4) = false := by simpa using q4
  go_enter Tryd.func33, Tryd.ntmps33
  go_wp2_with fail
  go_ret
  exact ⟨ret_s hs.out.symm, Below.refl _ _⟩
set_option maxHeartbeats 1600000 in
theorem spec_scheme (k : Int) (w : World) :
    Calls Tryd.prog 27 #[.int .i64 k] w fun e w' => e = .returned (.string (sn k)) ∧ Below w.heap.size w w' := by
  by_cases q1 : k = 1
  case pos =>
    subst q1
    go_enter Tryd.func27, Tryd.ntmps27
    go_wp2_with fail
    refine (in_range _ _ _ _).mono ?_
    rintro e W ⟨rfl, rfl⟩
    rw [show In 1 4 1 = true from in_of ⟨by omega, by omega⟩]
    go_wp2_with fail
    go_ret
    exact ⟨ret_s sn_1.symm, new1 _ _⟩
  by_cases q2 : k = 2
  case pos =>
    subst q2
    go_enter Tryd.func27, Tryd.ntmps27
    go_wp2_with fail
    refine (in_range _ _ _ _).mono ?_
    rintro e W ⟨rfl, rfl⟩
    rw [show In 1 4 2 = true from in_of ⟨by omega, by omega⟩]
    go_wp2_with fail
    go_ret
    exact ⟨ret_s sn_2.symm, new1 _ _⟩
  by_cases q3 : k = 3
  case pos =>
    subst q3
    go_enter Tryd.func27, Tryd.ntmps27
    go_wp2_with fail
    refine (in_range _ _ _ _).mono ?_
    rintro e W ⟨rfl, rfl⟩
    rw [show In 1 4 3 = true from in_of ⟨by omega, by omega⟩]
    go_wp2_with fail
    go_ret
    exact ⟨ret_s sn_3.symm, new1 _ _⟩
  by_cases q4 : k = 4
  case pos =>
    subst q4
    go_enter Tryd.func27, Tryd.ntmps27
    go_wp2_with fail
    refine (in_range _ _ _ _).mono ?_
    rintro e W ⟨rfl, rfl⟩
    rw [show In 1 4 4 = true from in_of ⟨by omega, by omega⟩]
    go_wp2_with fail
    go_ret
    exact ⟨ret_s sn_4.symm, new1 _ _⟩
  have hs := Lib.hid (sn_0 q1 q2 q3 q4)
  have hi := Lib.hid (in_off (lo := 1) (hi := 4) (x := k) (by omega))
  go_enter Tryd.func27, Tryd.ntmps27
  go_wp2_with fail
  refine (in_range _ _ _ _).mono ?_
  rintro e W ⟨rfl, rfl⟩
  rw [hi.out]
  go_wp2_with fail
  go_ret
  exact ⟨ret_s hs.out.symm, Below.refl _ _⟩
theorem sn_size (k : Int) : (sn k).size ≤ 10 := by
  unfold sn
  split
  · decide
  split
  · decide
  split
  · decide
  split <;> decide
end Go.Proofs.YtjnlbhmddhpmaabDoor.snw
