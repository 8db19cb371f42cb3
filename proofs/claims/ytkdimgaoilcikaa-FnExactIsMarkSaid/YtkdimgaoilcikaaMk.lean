/- The program's and the model's IsStamp, IsMark and the range test that the model uses: what each answers; nothing is written. -/
import Derived.Test.YtkdimgaoilcikaaRows
import Derived.WalkKit
import Derived.ProofKit
import Derived.OpenShut
import Derived.ShutString
import Derived.Below
import Derived.Lib.Hide
namespace Go.Proofs.Ytkdimgaoilcikaa.mk
open Go.ChangeShapes Go.WideShapes Go.ChangeAt Go.RowKit
set_option linter.unusedVariables false
set_option linter.unusedSimpArgs false
theorem own : ownKnob Try.prog.godebug = none := by kernel_rfl
def In (lo hi x : Int) : Bool := decide (lo ≤ x) && decide (x ≤ hi)
theorem in_range (x lo hi : Int) (w : World) :
    Calls Try.prog 12 #[.int .i64 x, .int .i64 lo, .int .i64 hi] w fun e w' => e = .returned (.bool (In lo hi x)) ∧ w = w' := by
  go_enter Try.func12, Try.ntmps12
  by_cases h : lo ≤ x
  · have d : decide (lo ≤ x) = true := decide_eq_true h
    go_wp2
    go_ret
    simp [In, d]
  · have d : decide (lo ≤ x) = false := decide_eq_false h
    go_wp2
    go_ret
    simp [In, d]
theorem stamp_valid (x : Int) (w : World) :
    Calls Try.prog 13 #[.int .i64 x] w fun e w' => e = .returned (.bool (In 1 999 x)) ∧ w = w' := by
  go_enter Try.func13, Try.ntmps13
  by_cases h : 1 ≤ x
  · have d : decide ((1 : Int) ≤ x) = true := decide_eq_true h
    go_wp2
    go_ret
    simp [In, d]
  · have d : decide ((1 : Int) ≤ x) = false := decide_eq_false h
    go_wp2
    go_ret
    simp [In, d]
theorem mark_valid (x : Int) (w : World) :
    Calls Try.prog 14 #[.int .i64 x] w fun e w' => e = .returned (.bool (In 0 1000 x)) ∧ w = w' := by
  go_enter Try.func14, Try.ntmps14
  by_cases h : 0 ≤ x
  · have d : decide ((0 : Int) ≤ x) = true := decide_eq_true h
    go_wp2
    go_ret
    simp [In, d]
  · have d : decide ((0 : Int) ≤ x) = false := decide_eq_false h
    go_wp2
    go_ret
    simp [In, d]
theorem spec_stamp (x : Int) (w : World) :
    Calls Try.prog 6 #[.int .i64 x] w fun e w' => e = .returned (.bool (In 1 999 x)) ∧ w = w' := by
  have H := Lib.hid (in_range x 1 999 w)
  go_enter Try.func6, Try.ntmps6
  go_wp2_with fail
  refine H.out.mono ?_
  rintro e W1 ⟨rfl, rfl⟩
  go_wp2_with fail
  go_ret
  exact ⟨rfl, rfl⟩
theorem impl_stamp (x : Int) (w : World) :
    Calls Try.prog 7 #[.int .i64 x] w fun e w' => e = .returned (.bool (In 1 999 x)) ∧ w = w' := by
  have H := Lib.hid (stamp_valid x w)
  go_enter Try.func7, Try.ntmps7
  go_wp2_with fail
  refine H.out.mono ?_
  rintro e W1 ⟨rfl, rfl⟩
  go_wp2_with fail
  go_ret
  exact ⟨rfl, rfl⟩
theorem spec_mark (x : Int) (w : World) :
    Calls Try.prog 8 #[.int .i64 x] w fun e w' => e = .returned (.bool (In 0 1000 x)) ∧ w = w' := by
  have H := Lib.hid (in_range x 0 1000 w)
  go_enter Try.func8, Try.ntmps8
  go_wp2_with fail
  refine H.out.mono ?_
  rintro e W1 ⟨rfl, rfl⟩
  go_wp2_with fail
  go_ret
  exact ⟨rfl, rfl⟩
theorem impl_mark (x : Int) (w : World) :
    Calls Try.prog 9 #[.int .i64 x] w fun e w' => e = .returned (.bool (In 0 1000 x)) ∧ w = w' := by
  have H := Lib.hid (mark_valid x w)
  go_enter Try.func9, Try.ntmps9
  go_wp2_with fail
  refine H.out.mono ?_
  rintro e W1 ⟨rfl, rfl⟩
  go_wp2_with fail
  go_ret
  exact ⟨rfl, rfl⟩
end Go.Proofs.Ytkdimgaoilcikaa.mk
