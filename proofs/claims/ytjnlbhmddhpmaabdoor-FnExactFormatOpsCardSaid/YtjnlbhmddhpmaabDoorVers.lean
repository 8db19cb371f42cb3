/- The program's and the model's IsValidVersion, the range test, the order of two versions, the law's copy of a version and its comparison: what each answers; nothing that was there is written. -/
import Derived.Test.YtjnlbhmddhpmaabDoorRows
import Derived.WalkKit
import Derived.ProofKit
import Derived.OpenShut
import Derived.ShutString
import Derived.Below
import Derived.Lib.Hide
namespace Go.Proofs.YtjnlbhmddhpmaabDoor.vers
open Go.ChangeShapes Go.WideShapes Go.ChangeAt Go.RowKit
set_option linter.unusedVariables false
set_option linter.unusedSimpArgs false
theorem own : ownKnob Tryd.prog.godebug = none := by kernel_rfl
def In (lo hi x : Int) : Bool := decide (lo ≤ x) && decide (x ≤ hi)
theorem in_yes {lo hi x : Int} (h : In lo hi x = true) : lo ≤ x ∧ x ≤ hi := by simpa [In] using h
theorem in_no {lo hi x : Int} (h : In lo hi x = false) : ¬ (lo ≤ x ∧ x ≤ hi) := by
  intro hh
  have : In lo hi x = true := by simp [In, hh.1, hh.2]
  rw [h] at this; cases this
theorem in_range (x lo hi : Int) (w : World) :
    Calls Tryd.prog 46 #[.int .i64 x, .int .i64 lo, .int .i64 hi] w fun e w' => e = .returned (.bool (In lo hi x)) ∧ w = w' := by
  go_enter Tryd.func46, Tryd.ntmps46
  by_cases h : lo ≤ x
  · have d : decide (lo ≤ x) = true := decide_eq_true h
    go_wp2
    go_ret
    simp [In, d]
  · have d : decide (lo ≤ x) = false := decide_eq_false h
    go_wp2
    go_ret
    simp [In, d]
/-- what a version's five fields must be -/
def vP (a b c d e : Int) : Prop := -1 ≤ b ∧ b ≤ 99 ∧ 0 ≤ c ∧ c ≤ 999 ∧ c ≤ d ∧ d ≤ 999 ∧ 1 ≤ e ∧ e ≤ 1000 ∧ (c = 0 → a = 0 ∧ b = -1) ∧ (c ≠ 0 → 1 ≤ a ∧ a ≤ 9)
instance (a b c d e : Int) : Decidable (vP a b c d e) := by unfold vP; infer_instance
def vB (a b c d e : Int) : Bool := decide (vP a b c d e)
theorem v_yes {a b c d e : Int} (h : vP a b c d e) : Ending.returned (.bool true) = .returned (.bool (vB a b c d e)) := by rw [show vB a b c d e = true from decide_eq_true h]
theorem v_no {a b c d e : Int} (h : ¬ vP a b c d e) : Ending.returned (.bool false) = .returned (.bool (vB a b c d e)) := by rw [show vB a b c d e = false from decide_eq_false h]
theorem v_is {a b c d e : Int} {x : Bool} (h : x = true ↔ vP a b c d e) : Ending.returned (.bool x) = .returned (.bool (vB a b c d e)) := by
  by_cases hv : vP a b c d e
  · rw [h.2 hv]; exact v_yes hv
  · rw [show x = false from Bool.eq_false_iff.2 fun hx => hv (h.1 hx)]; exact v_no hv
theorem new1 (w : World) (o : Obj) : Below w.heap.size w (w.alloc o) := (Below.refl _ _).alloc (Nat.le_refl _) o
theorem new2 (w : World) (o p : Obj) : Below w.heap.size w ((w.alloc o).alloc p) := (new1 w o).alloc (by simp) p
theorem new3 (w : World) (o p q : Obj) : Below w.heap.size w (((w.alloc o).alloc p).alloc q) := (new2 w o p).alloc (by simp; omega) q
theorem value_range (x : Int) (w : World) :
    Calls Tryd.prog 32 #[.int .i64 x] w fun e w' => e = .returned (.bool (In (-1) 99 x)) ∧ w = w' := by
  go_enter Tryd.func32, Tryd.ntmps32
  by_cases h : -1 ≤ x
  · have d : decide (-1 ≤ x) = true := decide_eq_true h
    go_wp2
    go_ret
    simp [In, d]
  · have d : decide (-1 ≤ x) = false := decide_eq_false h
    go_wp2
    go_ret
    simp [In, d]
theorem ret_b {a b : Bool} (h : a = b) : Ending.returned (.bool a) = .returned (.bool b) := by rw [h]
theorem in_low {lo lo2 hi x : Int} (h : lo ≤ x ↔ lo2 ≤ x) : In lo hi x = In lo2 hi x := by
  unfold In
  rw [decide_eq_decide.2 h]
theorem in_of {lo hi x : Int} (h : lo ≤ x ∧ x ≤ hi) : In lo hi x = true := by simp [In, h.1, h.2]
theorem in_off {lo hi x : Int} (h : ¬ (lo ≤ x ∧ x ≤ hi)) : In lo hi x = false := by
  rcases hh : In lo hi x with _ | _
  · rfl
  · exact absurd (in_yes hh) h
theorem tx_id (x : Int) (w : World) :
    Calls Tryd.prog 29 #[.int .i64 x] w fun e w' => e = .returned (.bool (In 1 9 x)) ∧ w = w' := by
  go_enter Tryd.func29, Tryd.ntmps29
  by_cases h : 1 ≤ x
  · have d : decide ((1 : Int) ≤ x) = true := decide_eq_true h
    go_wp2
    go_ret
    simp [In, d]
  · have d : decide ((1 : Int) ≤ x) = false := decide_eq_false h
    go_wp2
    go_ret
    simp [In, d]
/-- two versions are the same -/
def eB (a b c d e a2 b2 c2 d2 e2 : Int) : Bool := decide (a = a2 ∧ b = b2 ∧ c = c2 ∧ d = d2 ∧ e = e2)
theorem e_yes {a b c d e a2 b2 c2 d2 e2 : Int} (h : a = a2 ∧ b = b2 ∧ c = c2 ∧ d = d2 ∧ e = e2) : Ending.returned (.bool true) = .returned (.bool (eB a b c d e a2 b2 c2 d2 e2)) := by rw [show eB a b c d e a2 b2 c2 d2 e2 = true from decide_eq_true h]
theorem e_no {a b c d e a2 b2 c2 d2 e2 : Int} (h : ¬ (a = a2 ∧ b = b2 ∧ c = c2 ∧ d = d2 ∧ e = e2)) : Ending.returned (.bool false) = .returned (.bool (eB a b c d e a2 b2 c2 d2 e2)) := by rw [show eB a b c d e a2 b2 c2 d2 e2 = false from decide_eq_false h]
/-- the one comes right before the other -/
def fB (c e c2 : Int) : Bool := decide (c < c2) && decide (e ≤ c2)
end Go.Proofs.YtjnlbhmddhpmaabDoor.vers
