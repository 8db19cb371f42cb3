/- The program's and the model's IsValidVersion, the range test, the order of two versions, the law's copy of a version and its comparison: what each answers; nothing that was there is written. -/
import Derived.Test.YtpejgjmkggmonaaDoorRows
import Derived.WalkKit
import Derived.ProofKit
import Derived.OpenShut
import Derived.ShutString
import Derived.Below
import Derived.Lib.Hide
namespace Go.Proofs.YtpejgjmkggmonaaDoor.vers
open Go.ChangeShapes Go.WideShapes Go.ChangeAt Go.RowKit
set_option linter.unusedVariables false
set_option linter.unusedSimpArgs false
theorem own : ownKnob Tryd.prog.godebug = none := by kernel_rfl
def In (lo hi x : Int) : Bool := decide (lo ≤ x) && decide (x ≤ hi)
theorem in_yes {lo hi x : Int} (h : In lo hi x = true) : lo ≤ x ∧ x ≤ hi := by simpa [In] using h
theorem in_no {lo hi x : Int} (h : In lo hi x = false) : ¬ (lo ≤ x ∧ x ≤ hi) := by
  intro hh
  have : In lo hi x = true := by simp [In, hh.1, hh.2]
  rw [h] at this; cases this
theorem in_range (x lo hi : Int) (w : World) :
    Calls Tryd.prog 32 #[.int .i64 x, .int .i64 lo, .int .i64 hi] w fun e w' => e = .returned (.bool (In lo hi x)) ∧ w = w' := by
  go_enter Tryd.func32, Tryd.ntmps32
  by_cases h : lo ≤ x
  · have d : decide (lo ≤ x) = true := decide_eq_true h
    go_wp2
    go_ret
    simp [In, d]
  · have d : decide (lo ≤ x) = false := decide_eq_false h
    go_wp2
    go_ret
    simp [In, d]
/-- what a version's five fields must be -/
def vP (a b c d e : Int) : Prop := -1 ≤ b ∧ b ≤ 99 ∧ 0 ≤ c ∧ c ≤ 999 ∧ c ≤ d ∧ d ≤ 999 ∧ 1 ≤ e ∧ e ≤ 1000 ∧ (c = 0 → a = 0 ∧ b = -1) ∧ (c ≠ 0 → 1 ≤ a ∧ a ≤ 9)
instance (a b c d e : Int) : Decidable (vP a b c d e) := by unfold vP; infer_instance
def vB (a b c d e : Int) : Bool := decide (vP a b c d e)
theorem v_yes {a b c d e : Int} (h : vP a b c d e) : Ending.returned (.bool true) = .returned (.bool (vB a b c d e)) := by rw [show vB a b c d e = true from decide_eq_true h]
theorem v_no {a b c d e : Int} (h : ¬ vP a b c d e) : Ending.returned (.bool false) = .returned (.bool (vB a b c d e)) := by rw [show vB a b c d e = false from decide_eq_false h]
theorem v_is {a b c d e : Int} {x : Bool} (h : x = true ↔ vP a b c d e) : Ending.returned (.bool x) = .returned (.bool (vB a b c d e)) := by
  by_cases hv : vP a b c d e
  · rw [h.2 hv]; exact v_yes hv
  · rw [show x = false from Bool.eq_false_iff.2 fun hx => hv (h.1 hx)]; exact v_no hv
theorem new1 (w : World) (o : Obj) : Below w.heap.size w (w.alloc o) := (Below.refl _ _).alloc (Nat.le_refl _) o
theorem new2 (w : World) (o p : Obj) : Below w.heap.size w ((w.alloc o).alloc p) := (new1 w o).alloc (by simp) p
theorem new3 (w : World) (o p q : Obj) : Below w.heap.size w (((w.alloc o).alloc p).alloc q) := (new2 w o p).alloc (by simp; omega) q
theorem value_range (x : Int) (w : World) :
    Calls Tryd.prog 29 #[.int .i64 x] w fun e w' => e = .returned (.bool (In (-1) 99 x)) ∧ w = w' := by
  go_enter Tryd.func29, Tryd.ntmps29
  by_cases h : -1 ≤ x
  · have d : decide (-1 ≤ x) = true := decide_eq_true h
    go_wp2
    go_ret
    simp [In, d]
  · have d : decide (-1 ≤ x) = false := decide_eq_false h
    go_wp2
    go_ret
    simp [In, d]
set_option maxHeartbeats 800000 in
theorem impl_version (a b c d e : Int) (w : World) :
    Calls Tryd.prog 41 #[.agg #[.int .i64 a, .int .i64 b, .int .i64 c, .int .i64 d, .int .i64 e]] w fun x w' => x = .returned (.bool (vB a b c d e)) ∧ Below w.heap.size w w' := by
  have R := Lib.hid (fun x w => value_range x w)
  rcases h01 : In (-1) 99 b with _ | _
  · go_enter Tryd.func41, Tryd.ntmps41
    go_wp2_with fail
    refine (R.out _ _).mono ?_
    rintro x W ⟨rfl, rfl⟩
    rw [h01]
    go_wp2_with fail
    go_ret
    exact ⟨v_no (by have := in_no h01; unfold vP; omega), new1 _ _⟩
  have hin := in_yes h01
  by_cases h2 : c < 0
  · have t2 : decide (c < 0) = true := decide_eq_true h2
    go_enter Tryd.func41, Tryd.ntmps41
    go_wp2_with fail
    refine (R.out _ _).mono ?_
    rintro x W ⟨rfl, rfl⟩
    rw [h01]
    go_wp2_with fail
    go_ret
    exact ⟨v_no (by unfold vP; omega), new1 _ _⟩
  have t2 : decide (c < 0) = false := decide_eq_false h2
  by_cases h3 : 999 < c
  · have t3 : decide (999 < c) = true := decide_eq_true h3
    go_enter Tryd.func41, Tryd.ntmps41
    go_wp2_with fail
    refine (R.out _ _).mono ?_
    rintro x W ⟨rfl, rfl⟩
    rw [h01]
    go_wp2_with fail
    go_ret
    exact ⟨v_no (by unfold vP; omega), new1 _ _⟩
  have t3 : decide (999 < c) = false := decide_eq_false h3
  by_cases h4 : d < c
  · have t4 : decide (d < c) = true := decide_eq_true h4
    go_enter Tryd.func41, Tryd.ntmps41
    go_wp2_with fail
    refine (R.out _ _).mono ?_
    rintro x W ⟨rfl, rfl⟩
    rw [h01]
    go_wp2_with fail
    go_ret
    exact ⟨v_no (by unfold vP; omega), new1 _ _⟩
  have t4 : decide (d < c) = false := decide_eq_false h4
  by_cases h5 : 999 < d
  · have t5 : decide (999 < d) = true := decide_eq_true h5
    go_enter Tryd.func41, Tryd.ntmps41
    go_wp2_with fail
    refine (R.out _ _).mono ?_
    rintro x W ⟨rfl, rfl⟩
    rw [h01]
    go_wp2_with fail
    go_ret
    exact ⟨v_no (by unfold vP; omega), new1 _ _⟩
  have t5 : decide (999 < d) = false := decide_eq_false h5
  by_cases h6 : e < 1
  · have t6 : decide (e < 1) = true := decide_eq_true h6
    go_enter Tryd.func41, Tryd.ntmps41
    go_wp2_with fail
    refine (R.out _ _).mono ?_
    rintro x W ⟨rfl, rfl⟩
    rw [h01]
    go_wp2_with fail
    go_ret
    exact ⟨v_no (by unfold vP; omega), new1 _ _⟩
  have t6 : decide (e < 1) = false := decide_eq_false h6
  by_cases h7 : 1000 < e
  · have t7 : decide (1000 < e) = true := decide_eq_true h7
    go_enter Tryd.func41, Tryd.ntmps41
    go_wp2_with fail
    refine (R.out _ _).mono ?_
    rintro x W ⟨rfl, rfl⟩
    rw [h01]
    go_wp2_with fail
    go_ret
    exact ⟨v_no (by unfold vP; omega), new1 _ _⟩
  have t7 : decide (1000 < e) = false := decide_eq_false h7
  by_cases h8 : c = 0
  · have t8 : (c == 0) = true := beq_iff_eq.2 h8
    by_cases h9 : a = 0
    · have t9 : (a == 0) = true := beq_iff_eq.2 h9
      have hx : (b == -1) = true ↔ vP a b c d e := by rw [beq_iff_eq]; unfold vP; omega
      have HX := Lib.hid hx
      have H8 := Lib.hid h8
      have H9 := Lib.hid h9
      clear hx h8 h9
      go_enter Tryd.func41, Tryd.ntmps41
      go_wp2_with fail
      refine (R.out _ _).mono ?_
      rintro x W ⟨rfl, rfl⟩
      rw [h01]
      go_wp2_with fail
      go_ret
      exact ⟨v_is HX.out, new1 _ _⟩
    · have t9 : (a == 0) = false := by simpa using h9
      go_enter Tryd.func41, Tryd.ntmps41
      go_wp2_with fail
      refine (R.out _ _).mono ?_
      rintro x W ⟨rfl, rfl⟩
      rw [h01]
      go_wp2_with fail
      go_ret
      exact ⟨v_no (by unfold vP; omega), new1 _ _⟩
  · have t8 : (c == 0) = false := by simpa using h8
    by_cases h9 : 1 ≤ a
    · have t9 : decide (1 ≤ a) = true := decide_eq_true h9
      have hx : decide (a ≤ 9) = true ↔ vP a b c d e := by rw [decide_eq_true_eq]; unfold vP; omega
      have HX := Lib.hid hx
      clear hx
      go_enter Tryd.func41, Tryd.ntmps41
      go_wp2_with fail
      refine (R.out _ _).mono ?_
      rintro x W ⟨rfl, rfl⟩
      rw [h01]
      go_wp2_with fail
      go_ret
      exact ⟨v_is HX.out, new1 _ _⟩
    · have t9 : decide (1 ≤ a) = false := decide_eq_false h9
      go_enter Tryd.func41, Tryd.ntmps41
      go_wp2_with fail
      refine (R.out _ _).mono ?_
      rintro x W ⟨rfl, rfl⟩
      rw [h01]
      go_wp2_with fail
      go_ret
      exact ⟨v_no (by unfold vP; omega), new1 _ _⟩
set_option maxHeartbeats 800000 in
theorem spec_version (a b c d e : Int) (w : World) :
    Calls Tryd.prog 43 #[.agg #[.int .i64 a, .int .i64 b, .int .i64 c, .int .i64 d, .int .i64 e]] w fun x w' => x = .returned (.bool (vB a b c d e)) ∧ Below w.heap.size w w' := by
  have R := Lib.hid (fun x lo hi w => in_range x lo hi w)
  rcases h0 : In (-1) 99 b with _ | _
  · go_enter Tryd.func43, Tryd.ntmps43
    go_wp2_with fail
    refine (R.out _ _ _ _).mono ?_
    rintro x W ⟨rfl, rfl⟩
    go_wp2_with fail
    go_ret
    exact ⟨v_no (by have := in_no h0; unfold vP; omega), new1 _ _⟩
  rcases h1 : In 0 999 c with _ | _
  · go_enter Tryd.func43, Tryd.ntmps43
    go_wp2_with fail
    refine (R.out _ _ _ _).mono ?_
    rintro x W ⟨rfl, rfl⟩
    go_wp2_with fail
    refine (R.out _ _ _ _).mono ?_
    rintro x W ⟨rfl, rfl⟩
    go_wp2_with fail
    go_ret
    exact ⟨v_no (by have := in_no h1; unfold vP; omega), new1 _ _⟩
  rcases h2 : In c 999 d with _ | _
  · go_enter Tryd.func43, Tryd.ntmps43
    go_wp2_with fail
    refine (R.out _ _ _ _).mono ?_
    rintro x W ⟨rfl, rfl⟩
    go_wp2_with fail
    refine (R.out _ _ _ _).mono ?_
    rintro x W ⟨rfl, rfl⟩
    go_wp2_with fail
    refine (R.out _ _ _ _).mono ?_
    rintro x W ⟨rfl, rfl⟩
    go_wp2_with fail
    go_ret
    exact ⟨v_no (by have := in_no h2; unfold vP; omega), new1 _ _⟩
  rcases h3 : In 1 1000 e with _ | _
  · go_enter Tryd.func43, Tryd.ntmps43
    go_wp2_with fail
    refine (R.out _ _ _ _).mono ?_
    rintro x W ⟨rfl, rfl⟩
    go_wp2_with fail
    refine (R.out _ _ _ _).mono ?_
    rintro x W ⟨rfl, rfl⟩
    go_wp2_with fail
    refine (R.out _ _ _ _).mono ?_
    rintro x W ⟨rfl, rfl⟩
    go_wp2_with fail
    refine (R.out _ _ _ _).mono ?_
    rintro x W ⟨rfl, rfl⟩
    go_wp2_with fail
    go_ret
    exact ⟨v_no (by have := in_no h3; unfold vP; omega), new1 _ _⟩
  by_cases h8 : c = 0
  · have t8 : (c == 0) = true := beq_iff_eq.2 h8
    by_cases h9 : a = 0
    · have t9 : (a == 0) = true := beq_iff_eq.2 h9
      have hx : (b == -1) = true ↔ vP a b c d e := by have y0 := in_yes h0; have y1 := in_yes h1; have y2 := in_yes h2; have y3 := in_yes h3; rw [beq_iff_eq]; unfold vP; omega
      have HX := Lib.hid hx
      have H8 := Lib.hid h8
      have H9 := Lib.hid h9
      clear hx h8 h9
      go_enter Tryd.func43, Tryd.ntmps43
      go_wp2_with fail
      refine (R.out _ _ _ _).mono ?_
      rintro x W ⟨rfl, rfl⟩
      go_wp2_with fail
      refine (R.out _ _ _ _).mono ?_
      rintro x W ⟨rfl, rfl⟩
      go_wp2_with fail
      refine (R.out _ _ _ _).mono ?_
      rintro x W ⟨rfl, rfl⟩
      go_wp2_with fail
      refine (R.out _ _ _ _).mono ?_
      rintro x W ⟨rfl, rfl⟩
      go_wp2_with fail
      go_ret
      exact ⟨v_is HX.out, new1 _ _⟩
    · have t9 : (a == 0) = false := by simpa using h9
      have hx : ¬ vP a b c d e := by unfold vP; omega
      have HX := Lib.hid hx
      clear hx h8
      go_enter Tryd.func43, Tryd.ntmps43
      go_wp2_with fail
      refine (R.out _ _ _ _).mono ?_
      rintro x W ⟨rfl, rfl⟩
      go_wp2_with fail
      refine (R.out _ _ _ _).mono ?_
      rintro x W ⟨rfl, rfl⟩
      go_wp2_with fail
      refine (R.out _ _ _ _).mono ?_
      rintro x W ⟨rfl, rfl⟩
      go_wp2_with fail
      refine (R.out _ _ _ _).mono ?_
      rintro x W ⟨rfl, rfl⟩
      go_wp2_with fail
      go_ret
      exact ⟨v_no HX.out, new1 _ _⟩
  · have t8 : (c == 0) = false := by simpa using h8
    have hx : In 1 9 a = true ↔ vP a b c d e := by
      have y0 := in_yes h0; have y1 := in_yes h1; have y2 := in_yes h2; have y3 := in_yes h3; 
      unfold vP
      constructor
      · intro h
        have := in_yes h
        omega
      · intro h
        have : 1 ≤ a ∧ a ≤ 9 := by omega
        simp [In, this.1, this.2]
    have HX := Lib.hid hx
    clear hx
    go_enter Tryd.func43, Tryd.ntmps43
    go_wp2_with fail
    refine (R.out _ _ _ _).mono ?_
    rintro x W ⟨rfl, rfl⟩
    go_wp2_with fail
    refine (R.out _ _ _ _).mono ?_
    rintro x W ⟨rfl, rfl⟩
    go_wp2_with fail
    refine (R.out _ _ _ _).mono ?_
    rintro x W ⟨rfl, rfl⟩
    go_wp2_with fail
    refine (R.out _ _ _ _).mono ?_
    rintro x W ⟨rfl, rfl⟩
    go_wp2_with fail
    refine (R.out _ _ _ _).mono ?_
    rintro x W ⟨rfl, rfl⟩
    go_wp2_with fail
    go_ret
    exact ⟨v_is HX.out, new1 _ _⟩

/-- two versions are the same -/
def eB (a b c d e a2 b2 c2 d2 e2 : Int) : Bool := decide (a = a2 ∧ b = b2 ∧ c = c2 ∧ d = d2 ∧ e = e2)
theorem e_yes {a b c d e a2 b2 c2 d2 e2 : Int} (h : a = a2 ∧ b = b2 ∧ c = c2 ∧ d = d2 ∧ e = e2) : Ending.returned (.bool true) = .returned (.bool (eB a b c d e a2 b2 c2 d2 e2)) := by rw [show eB a b c d e a2 b2 c2 d2 e2 = true from decide_eq_true h]
theorem e_no {a b c d e a2 b2 c2 d2 e2 : Int} (h : ¬ (a = a2 ∧ b = b2 ∧ c = c2 ∧ d = d2 ∧ e = e2)) : Ending.returned (.bool false) = .returned (.bool (eB a b c d e a2 b2 c2 d2 e2)) := by rw [show eB a b c d e a2 b2 c2 d2 e2 = false from decide_eq_false h]
/-- the one comes right before the other -/
def fB (c e c2 : Int) : Bool := decide (c < c2) && decide (e ≤ c2)
theorem may_follow (a b c d e a2 b2 c2 d2 e2 : Int) (w : World) :
    Calls Tryd.prog 42 #[.agg #[.int .i64 a, .int .i64 b, .int .i64 c, .int .i64 d, .int .i64 e], .agg #[.int .i64 a2, .int .i64 b2, .int .i64 c2, .int .i64 d2, .int .i64 e2]] w fun x w' => x = .returned (.bool (fB c e c2)) ∧ Below w.heap.size w w' := by
  by_cases h : c < c2
  · have t : decide (c < c2) = true := decide_eq_true h
    go_enter Tryd.func42, Tryd.ntmps42
    go_wp2
    go_ret
    exact ⟨by simp [fB, t], new2 _ _ _⟩
  · have t : decide (c < c2) = false := decide_eq_false h
    go_enter Tryd.func42, Tryd.ntmps42
    go_wp2
    go_ret
    exact ⟨by simp [fB, t], new2 _ _ _⟩
end Go.Proofs.YtpejgjmkggmonaaDoor.vers
