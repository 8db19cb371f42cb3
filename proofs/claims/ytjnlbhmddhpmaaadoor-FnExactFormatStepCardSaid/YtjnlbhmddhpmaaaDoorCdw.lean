/- CodeName of the program and of the model at a Door seat: what each answers (without the texts on transactions). -/
import Derived.Test.YtjnlbhmddhpmaaaDoorVers
import Derived.WalkKit
import Derived.ProofKit
import Derived.Below
import Derived.Lib.Hide
import Derived.LoopTactic
import Derived.Deep.QuietTactic
import Derived.BigQuiet
import Derived.StillTailTactics
import Derived.Outline
import Derived.IntWalk
import Derived.Deep.OwnRows
import Derived.Laws.Entries
namespace Go.Proofs.YtjnlbhmddhpmaaaDoor.cdw
open Go.ChangeShapes Go.WideShapes Go.ChangeAt Go.RowKit
open Go.Proofs.YtjnlbhmddhpmaaaDoor.vers (In in_yes in_no in_of in_off in_range ret_b new1 new2 new3)
set_option linter.unusedVariables false
set_option linter.unusedSimpArgs false
theorem ret_s {a b : ByteArray} (h : a = b) : Ending.returned (.string a) = .returned (.string b) := by rw [h]
def cn (k : Int) : ByteArray := if k = 0 then ⟨#[111, 107]⟩ else if k = 1 then ⟨#[98, 108, 111, 99, 107, 101, 100]⟩ else if k = 2 then ⟨#[99, 111, 110, 102, 108, 105, 99, 116]⟩ else if k = 3 then ⟨#[108, 97, 116, 101]⟩ else if k = 4 then ⟨#[100, 101, 97, 100, 108, 111, 99, 107]⟩ else if k = 5 then ⟨#[101, 120, 99, 108, 117, 100, 101, 100]⟩ else if k = 6 then ⟨#[105, 110, 118, 97, 108, 105, 100]⟩ else ⟨#[]⟩
theorem cn_0 : cn 0 = ⟨#[111, 107]⟩ := rfl
theorem cn_1 : cn 1 = ⟨#[98, 108, 111, 99, 107, 101, 100]⟩ := rfl
theorem cn_2 : cn 2 = ⟨#[99, 111, 110, 102, 108, 105, 99, 116]⟩ := rfl
theorem cn_3 : cn 3 = ⟨#[108, 97, 116, 101]⟩ := rfl
theorem cn_4 : cn 4 = ⟨#[100, 101, 97, 100, 108, 111, 99, 107]⟩ := rfl
theorem cn_5 : cn 5 = ⟨#[101, 120, 99, 108, 117, 100, 101, 100]⟩ := rfl
theorem cn_6 : cn 6 = ⟨#[105, 110, 118, 97, 108, 105, 100]⟩ := rfl
theorem cn_no {k : Int} (h0 : k ≠ 0) (h1 : k ≠ 1) (h2 : k ≠ 2) (h3 : k ≠ 3) (h4 : k ≠ 4) (h5 : k ≠ 5) (h6 : k ≠ 6) : cn k = ⟨#[]⟩ := by unfold cn; rw [if_neg h0, if_neg h1, if_neg h2, if_neg h3, if_neg h4, if_neg h5, if_neg h6]
set_option maxHeartbeats 3200000 in
theorem impl_name (k : Int) (w : World) :
    Calls Tryd.prog 21 #[.int .i64 k] w fun e w' => e = .returned (.string (cn k)) ∧ w = w' := by
  by_cases q0 : k = 0
  case pos =>
    subst q0
    go_enter Tryd.func21, Tryd.ntmps21
    go_wp2_with fail
    go_ret
    exact ⟨ret_s cn_0.symm, rfl⟩
  by_cases q1 : k = 1
  case pos =>
    subst q1
    go_enter Tryd.func21, Tryd.ntmps21
    go_wp2_with fail
    go_ret
    exact ⟨ret_s cn_1.symm, rfl⟩
  by_cases q2 : k = 2
  case pos =>
    subst q2
    go_enter Tryd.func21, Tryd.ntmps21
    go_wp2_with fail
    go_ret
    exact ⟨ret_s cn_2.symm, rfl⟩
  by_cases q3 : k = 3
  case pos =>
    subst q3
    go_enter Tryd.func21, Tryd.ntmps21
    go_wp2_with fail
    go_ret
    exact ⟨ret_s cn_3.symm, rfl⟩
  by_cases q4 : k = 4
  case pos =>
    subst q4
    go_enter Tryd.func21, Tryd.ntmps21
    go_wp2_with fail
    go_ret
    exact ⟨ret_s cn_4.symm, rfl⟩
  by_cases q5 : k = 5
  case pos =>
    subst q5
    go_enter Tryd.func21, Tryd.ntmps21
    go_wp2_with fail
    go_ret
    exact ⟨ret_s cn_5.symm, rfl⟩
  by_cases q6 : k = 6
  case pos =>
    subst q6
    go_enter Tryd.func21, Tryd.ntmps21
    go_wp2_with fail
    go_ret
    exact ⟨ret_s cn_6.symm, rfl⟩
  have HE : Hid (cn k = ⟨#[]⟩) := Lib.hid (cn_no q0 q1 q2 q3 q4 q5 q6)
  have t0 : (k == 0) = false := by simpa using q0
  have t1 : (k == 1) = false := by simpa using q1
  have t2 : (k == 2) = false := by simpa using q2
  have t3 : (k == 3) = false := by simpa using q3
  have t4 : (k == 4) = false := by simpa using q4
  have t5 : (k == 5) = false := by simpa using q5
  have t6 : (k == 6) = false := by simpa using q6
  clear q0 q1 q2 q3 q4 q5 q6
  go_enter Tryd.func21, Tryd.ntmps21
  go_wp2_with fail
  go_ret
  exact ⟨ret_s HE.out.symm, rfl⟩
set_option maxHeartbeats 3200000 in
theorem spec_name (k : Int) (w : World) :
    Calls Tryd.prog 18 #[.int .i64 k] w fun e w' => e = .returned (.string (cn k)) ∧ Below w.heap.size w w' := by
  by_cases q0 : k = 0
  case pos =>
    subst q0
    go_enter Tryd.func18, Tryd.ntmps18
    go_wp2_with fail
    refine (in_range _ _ _ _).mono ?_
    rintro e W ⟨rfl, rfl⟩
    have hin : In 0 6 0 = true := by decide
    rw [hin]
    go_wp2_with fail
    go_ret
    exact ⟨ret_s cn_0.symm, new1 _ _⟩
  by_cases q1 : k = 1
  case pos =>
    subst q1
    go_enter Tryd.func18, Tryd.ntmps18
    go_wp2_with fail
    refine (in_range _ _ _ _).mono ?_
    rintro e W ⟨rfl, rfl⟩
    have hin : In 0 6 1 = true := by decide
    rw [hin]
    go_wp2_with fail
    go_ret
    exact ⟨ret_s cn_1.symm, new1 _ _⟩
  by_cases q2 : k = 2
  case pos =>
    subst q2
    go_enter Tryd.func18, Tryd.ntmps18
    go_wp2_with fail
    refine (in_range _ _ _ _).mono ?_
    rintro e W ⟨rfl, rfl⟩
    have hin : In 0 6 2 = true := by decide
    rw [hin]
    go_wp2_with fail
    go_ret
    exact ⟨ret_s cn_2.symm, new1 _ _⟩
  by_cases q3 : k = 3
  case pos =>
    subst q3
    go_enter Tryd.func18, Tryd.ntmps18
    go_wp2_with fail
    refine (in_range _ _ _ _).mono ?_
    rintro e W ⟨rfl, rfl⟩
    have hin : In 0 6 3 = true := by decide
    rw [hin]
    go_wp2_with fail
    go_ret
    exact ⟨ret_s cn_3.symm, new1 _ _⟩
  by_cases q4 : k = 4
  case pos =>
    subst q4
    go_enter Tryd.func18, Tryd.ntmps18
    go_wp2_with fail
    refine (in_range _ _ _ _).mono ?_
    rintro e W ⟨rfl, rfl⟩
    have hin : In 0 6 4 = true := by decide
    rw [hin]
    go_wp2_with fail
    go_ret
    exact ⟨ret_s cn_4.symm, new1 _ _⟩
  by_cases q5 : k = 5
  case pos =>
    subst q5
    go_enter Tryd.func18, Tryd.ntmps18
    go_wp2_with fail
    refine (in_range _ _ _ _).mono ?_
    rintro e W ⟨rfl, rfl⟩
    have hin : In 0 6 5 = true := by decide
    rw [hin]
    go_wp2_with fail
    go_ret
    exact ⟨ret_s cn_5.symm, new1 _ _⟩
  by_cases q6 : k = 6
  case pos =>
    subst q6
    go_enter Tryd.func18, Tryd.ntmps18
    go_wp2_with fail
    refine (in_range _ _ _ _).mono ?_
    rintro e W ⟨rfl, rfl⟩
    have hin : In 0 6 6 = true := by decide
    rw [hin]
    go_wp2_with fail
    go_ret
    exact ⟨ret_s cn_6.symm, new1 _ _⟩
  have HE : Hid (cn k = ⟨#[]⟩) := Lib.hid (cn_no q0 q1 q2 q3 q4 q5 q6)
  have HIN : Hid (In 0 6 k = false) := Lib.hid (in_off (by omega))
  clear q0 q1 q2 q3 q4 q5 q6
  go_enter Tryd.func18, Tryd.ntmps18
  go_wp2_with fail
  refine (in_range _ _ _ _).mono ?_
  rintro e W ⟨rfl, rfl⟩
  rw [HIN.out]
  go_wp2_with fail
  go_ret
  exact ⟨ret_s HE.out.symm, Below.refl _ _⟩
theorem cn_good {k : Int} (h0 : 0 ≤ k) (h1 : k ≤ 6) : ((cn k).toList == (⟨#[]⟩ : ByteArray).toList) = false ∧ (cn k).size ≤ 8 := by
  have : k = 0 ∨ k = 1 ∨ k = 2 ∨ k = 3 ∨ k = 4 ∨ k = 5 ∨ k = 6 := by omega
  rcases this with rfl | rfl | rfl | rfl | rfl | rfl | rfl <;> exact ⟨by rw [ByteArray.toList_eq, ByteArray.toList_eq]; decide, by decide⟩
theorem cn_bad {k : Int} (h : ¬ (0 ≤ k ∧ k ≤ 6)) : cn k = ⟨#[]⟩ := cn_no (by omega) (by omega) (by omega) (by omega) (by omega) (by omega) (by omega)
end Go.Proofs.YtjnlbhmddhpmaaaDoor.cdw
