/- The program's and the model's IsValidVersion, the range test, the order of two versions, the law's copy of a version and its comparison: what each answers; nothing that was there is written. -/
import Derived.Test.YtjnlbhmddhpmaaaGreatRows
import Derived.WalkKit
import Derived.ProofKit
import Derived.OpenShut
import Derived.ShutString
import Derived.Below
import Derived.Lib.Hide
namespace Go.Proofs.YtjnlbhmddhpmaaaGreat.vers
open Go.ChangeShapes Go.WideShapes Go.ChangeAt Go.RowKit
set_option linter.unusedVariables false
set_option linter.unusedSimpArgs false
theorem own : ownKnob Tryz.prog.godebug = none := by kernel_rfl
def In (lo hi x : Int) : Bool := decide (lo ≤ x) && decide (x ≤ hi)
theorem in_yes {lo hi x : Int} (h : In lo hi x = true) : lo ≤ x ∧ x ≤ hi := by simpa [In] using h
theorem in_no {lo hi x : Int} (h : In lo hi x = false) : ¬ (lo ≤ x ∧ x ≤ hi) := by
  intro hh
  have : In lo hi x = true := by simp [In, hh.1, hh.2]
  rw [h] at this; cases this
theorem in_range (x lo hi : Int) (w : World) :
    Calls Tryz.prog 16 #[.int .i64 x, .int .i64 lo, .int .i64 hi] w fun e w' => e = .returned (.bool (In lo hi x)) ∧ w = w' := by
  go_enter Tryz.func16, Tryz.ntmps16
  by_cases h : lo ≤ x
  · have d : decide (lo ≤ x) = true := decide_eq_true h
    go_wp2
    go_ret
    simp [In, d]
  · have d : decide (lo ≤ x) = false := decide_eq_false h
    go_wp2
    go_ret
    simp [In, d]
/-- what a version's five fields must be -/
def vP (a b c d e : Int) : Prop := -1 ≤ b ∧ b ≤ 99 ∧ 0 ≤ c ∧ c ≤ 999 ∧ c ≤ d ∧ d ≤ 999 ∧ 1 ≤ e ∧ e ≤ 1000 ∧ (c = 0 → a = 0 ∧ b = -1) ∧ (c ≠ 0 → 1 ≤ a ∧ a ≤ 9)
instance (a b c d e : Int) : Decidable (vP a b c d e) := by unfold vP; infer_instance
def vB (a b c d e : Int) : Bool := decide (vP a b c d e)
theorem v_yes {a b c d e : Int} (h : vP a b c d e) : Ending.returned (.bool true) = .returned (.bool (vB a b c d e)) := by rw [show vB a b c d e = true from decide_eq_true h]
theorem v_no {a b c d e : Int} (h : ¬ vP a b c d e) : Ending.returned (.bool false) = .returned (.bool (vB a b c d e)) := by rw [show vB a b c d e = false from decide_eq_false h]
theorem v_is {a b c d e : Int} {x : Bool} (h : x = true ↔ vP a b c d e) : Ending.returned (.bool x) = .returned (.bool (vB a b c d e)) := by
  by_cases hv : vP a b c d e
  · rw [h.2 hv]; exact v_yes hv
  · rw [show x = false from Bool.eq_false_iff.2 fun hx => hv (h.1 hx)]; exact v_no hv
theorem new1 (w : World) (o : Obj) : Below w.heap.size w (w.alloc o) := (Below.refl _ _).alloc (Nat.le_refl _) o
theorem new2 (w : World) (o p : Obj) : Below w.heap.size w ((w.alloc o).alloc p) := (new1 w o).alloc (by simp) p
theorem new3 (w : World) (o p q : Obj) : Below w.heap.size w (((w.alloc o).alloc p).alloc q) := (new2 w o p).alloc (by simp; omega) q
theorem value_range (x : Int) (w : World) :
    Calls Tryz.prog 80 #[.int .i64 x] w fun e w' => e = .returned (.bool (In (-1) 99 x)) ∧ w = w' := by
  go_enter Tryz.func80, Tryz.ntmps80
  by_cases h : -1 ≤ x
  · have d : decide (-1 ≤ x) = true := decide_eq_true h
    go_wp2
    go_ret
    simp [In, d]
  · have d : decide (-1 ≤ x) = false := decide_eq_false h
    go_wp2
    go_ret
    simp [In, d]
theorem ret_b {a b : Bool} (h : a = b) : Ending.returned (.bool a) = .returned (.bool b) := by rw [h]
theorem in_low {lo lo2 hi x : Int} (h : lo ≤ x ↔ lo2 ≤ x) : In lo hi x = In lo2 hi x := by
  unfold In
  rw [decide_eq_decide.2 h]
theorem in_of {lo hi x : Int} (h : lo ≤ x ∧ x ≤ hi) : In lo hi x = true := by simp [In, h.1, h.2]
theorem in_off {lo hi x : Int} (h : ¬ (lo ≤ x ∧ x ≤ hi)) : In lo hi x = false := by
  rcases hh : In lo hi x with _ | _
  · rfl
  · exact absurd (in_yes hh) h
theorem stamp_valid (x : Int) (w : World) :
    Calls Tryz.prog 100 #[.int .i64 x] w fun e w' => e = .returned (.bool (In 1 999 x)) ∧ w = w' := by
  go_enter Tryz.func100, Tryz.ntmps100
  by_cases h : 1 ≤ x
  · have d : decide ((1 : Int) ≤ x) = true := decide_eq_true h
    go_wp2
    go_ret
    simp [In, d]
  · have d : decide ((1 : Int) ≤ x) = false := decide_eq_false h
    go_wp2
    go_ret
    simp [In, d]
theorem mark_valid (x : Int) (w : World) :
    Calls Tryz.prog 101 #[.int .i64 x] w fun e w' => e = .returned (.bool (In 0 1000 x)) ∧ w = w' := by
  go_enter Tryz.func101, Tryz.ntmps101
  by_cases h : 0 ≤ x
  · have d : decide ((0 : Int) ≤ x) = true := decide_eq_true h
    go_wp2
    go_ret
    simp [In, d]
  · have d : decide ((0 : Int) ≤ x) = false := decide_eq_false h
    go_wp2
    go_ret
    simp [In, d]
theorem is_stamp (x : Int) (w : World) :
    Calls Tryz.prog 92 #[.int .i64 x] w fun e w' => e = .returned (.bool (In 1 999 x)) ∧ w = w' := by
  have H := Lib.hid (stamp_valid x w)
  go_enter Tryz.func92, Tryz.ntmps92
  go_wp2_with fail
  refine H.out.mono ?_
  rintro e W1 ⟨rfl, rfl⟩
  go_wp2_with fail
  go_ret
  exact ⟨rfl, rfl⟩
theorem is_mark (x : Int) (w : World) :
    Calls Tryz.prog 93 #[.int .i64 x] w fun e w' => e = .returned (.bool (In 0 1000 x)) ∧ w = w' := by
  have H := Lib.hid (mark_valid x w)
  go_enter Tryz.func93, Tryz.ntmps93
  go_wp2_with fail
  refine H.out.mono ?_
  rintro e W1 ⟨rfl, rfl⟩
  go_wp2_with fail
  go_ret
  exact ⟨rfl, rfl⟩
theorem stamp0 (x : Int) (w : World) :
    Calls Tryz.prog 81 #[.int .i64 x] w fun e w' => e = .returned (.bool (In 0 999 x)) ∧ w = w' := by
  have H := Lib.hid (is_stamp x w)
  by_cases h : x = 0
  · have t : (x == 0) = true := beq_iff_eq.2 h
    have HI := Lib.hid (in_of (lo := 0) (hi := 999) (x := x) (by omega))
    clear h
    go_enter Tryz.func81, Tryz.ntmps81
    go_wp2_with fail
    go_ret
    exact ⟨ret_b HI.out.symm, rfl⟩
  · have t : (x == 0) = false := by simpa using h
    have HI := Lib.hid (in_low (lo := 1) (lo2 := 0) (hi := 999) (x := x) (by omega))
    clear h
    go_enter Tryz.func81, Tryz.ntmps81
    go_wp2_with fail
    refine H.out.mono ?_
    rintro e W1 ⟨rfl, rfl⟩
    rw [HI.out]
    go_wp2_with fail
    go_ret
    exact ⟨rfl, rfl⟩
theorem high_end (x : Int) (w : World) :
    Calls Tryz.prog 82 #[.int .i64 x] w fun e w' => e = .returned (.bool (In 1 1000 x)) ∧ w = w' := by
  have H := Lib.hid (is_mark x w)
  by_cases h : x = 0
  · have t : (x == 0) = true := beq_iff_eq.2 h
    have HI := Lib.hid (in_off (lo := 1) (hi := 1000) (x := x) (by omega))
    go_enter Tryz.func82, Tryz.ntmps82
    go_wp2_with fail
    go_ret
    exact ⟨ret_b HI.out.symm, rfl⟩
  · have t : (x == 0) = false := by simpa using h
    have HI := Lib.hid (in_low (lo := 0) (lo2 := 1) (hi := 1000) (x := x) (by omega))
    go_enter Tryz.func82, Tryz.ntmps82
    go_wp2_with fail
    refine H.out.mono ?_
    rintro e W1 ⟨rfl, rfl⟩
    rw [HI.out]
    go_wp2_with fail
    go_ret
    exact ⟨ret_b (by simp [h]), rfl⟩
theorem tx_id (x : Int) (w : World) :
    Calls Tryz.prog 51 #[.int .i64 x] w fun e w' => e = .returned (.bool (In 1 9 x)) ∧ w = w' := by
  go_enter Tryz.func51, Tryz.ntmps51
  by_cases h : 1 ≤ x
  · have d : decide ((1 : Int) ≤ x) = true := decide_eq_true h
    go_wp2
    go_ret
    simp [In, d]
  · have d : decide ((1 : Int) ≤ x) = false := decide_eq_false h
    go_wp2
    go_ret
    simp [In, d]
set_option maxHeartbeats 800000 in
theorem impl_version (a b c d e : Int) (w : World) :
    Calls Tryz.prog 66 #[.agg #[.int .i64 a, .int .i64 b, .int .i64 c, .int .i64 d, .int .i64 e]] w fun x w' => x = .returned (.bool (vB a b c d e)) ∧ Below w.heap.size w w' := by
  rcases h01 : In (-1) 99 b with _ | _
  · go_enter Tryz.func66, Tryz.ntmps66
    go_wp2_with fail
    refine (value_range _ _).mono ?_
    rintro x W ⟨rfl, rfl⟩
    rw [h01]
    go_wp2_with fail
    go_ret
    exact ⟨v_no (by have := in_no h01; unfold vP; omega), new1 _ _⟩
  have y0 := in_yes h01
  rcases h02 : In 0 999 c with _ | _
  · go_enter Tryz.func66, Tryz.ntmps66
    go_wp2_with fail
    refine (value_range _ _).mono ?_
    rintro x W ⟨rfl, rfl⟩
    rw [h01]
    go_wp2_with fail
    refine (stamp0 _ _).mono ?_
    rintro x W ⟨rfl, rfl⟩
    rw [h02]
    go_wp2_with fail
    go_ret
    exact ⟨v_no (by have := in_no h02; unfold vP; omega), new1 _ _⟩
  have y1 := in_yes h02
  by_cases h4 : d < c
  · have t4 : decide (d < c) = true := decide_eq_true h4
    go_enter Tryz.func66, Tryz.ntmps66
    go_wp2_with fail
    refine (value_range _ _).mono ?_
    rintro x W ⟨rfl, rfl⟩
    rw [h01]
    go_wp2_with fail
    refine (stamp0 _ _).mono ?_
    rintro x W ⟨rfl, rfl⟩
    rw [h02]
    go_wp2_with fail
    go_ret
    exact ⟨v_no (by unfold vP; omega), new1 _ _⟩
  have t4 : decide (d < c) = false := decide_eq_false h4
  by_cases h5 : 999 < d
  · have t5 : decide (999 < d) = true := decide_eq_true h5
    go_enter Tryz.func66, Tryz.ntmps66
    go_wp2_with fail
    refine (value_range _ _).mono ?_
    rintro x W ⟨rfl, rfl⟩
    rw [h01]
    go_wp2_with fail
    refine (stamp0 _ _).mono ?_
    rintro x W ⟨rfl, rfl⟩
    rw [h02]
    go_wp2_with fail
    go_ret
    exact ⟨v_no (by unfold vP; omega), new1 _ _⟩
  have t5 : decide (999 < d) = false := decide_eq_false h5
  rcases h03 : In 1 1000 e with _ | _
  · go_enter Tryz.func66, Tryz.ntmps66
    go_wp2_with fail
    refine (value_range _ _).mono ?_
    rintro x W ⟨rfl, rfl⟩
    rw [h01]
    go_wp2_with fail
    refine (stamp0 _ _).mono ?_
    rintro x W ⟨rfl, rfl⟩
    rw [h02]
    go_wp2_with fail
    refine (high_end _ _).mono ?_
    rintro x W ⟨rfl, rfl⟩
    rw [h03]
    go_wp2_with fail
    go_ret
    exact ⟨v_no (by have := in_no h03; unfold vP; omega), new1 _ _⟩
  have y2 := in_yes h03
  by_cases h8 : c = 0
  · have t8 : (c == 0) = true := beq_iff_eq.2 h8
    by_cases h9 : a = 0
    · have t9 : (a == 0) = true := beq_iff_eq.2 h9
      have hx : (b == -1) = true ↔ vP a b c d e := by rw [beq_iff_eq]; unfold vP; omega
      have HX := Lib.hid hx
      clear hx h8 h9 y0 y1 y2
      go_enter Tryz.func66, Tryz.ntmps66
      go_wp2_with fail
      refine (value_range _ _).mono ?_
      rintro x W ⟨rfl, rfl⟩
      rw [h01]
      go_wp2_with fail
      refine (stamp0 _ _).mono ?_
      rintro x W ⟨rfl, rfl⟩
      rw [h02]
      go_wp2_with fail
      refine (high_end _ _).mono ?_
      rintro x W ⟨rfl, rfl⟩
      rw [h03]
      go_wp2_with fail
      go_ret
      exact ⟨v_is HX.out, new1 _ _⟩
    · have t9 : (a == 0) = false := by simpa using h9
      have hx : ¬ vP a b c d e := by unfold vP; omega
      have HX := Lib.hid hx
      clear hx h8 h9 y0 y1 y2
      go_enter Tryz.func66, Tryz.ntmps66
      go_wp2_with fail
      refine (value_range _ _).mono ?_
      rintro x W ⟨rfl, rfl⟩
      rw [h01]
      go_wp2_with fail
      refine (stamp0 _ _).mono ?_
      rintro x W ⟨rfl, rfl⟩
      rw [h02]
      go_wp2_with fail
      refine (high_end _ _).mono ?_
      rintro x W ⟨rfl, rfl⟩
      rw [h03]
      go_wp2_with fail
      go_ret
      exact ⟨v_no HX.out, new1 _ _⟩
  · have t8 : (c == 0) = false := by simpa using h8
    have hx : In 1 9 a = true ↔ vP a b c d e := by
      unfold vP
      constructor
      · intro h
        have := in_yes h
        omega
      · intro h
        exact in_of (by omega)
    have HX := Lib.hid hx
    clear hx h8 y0 y1 y2
    go_enter Tryz.func66, Tryz.ntmps66
    go_wp2_with fail
    refine (value_range _ _).mono ?_
    rintro x W ⟨rfl, rfl⟩
    rw [h01]
    go_wp2_with fail
    refine (stamp0 _ _).mono ?_
    rintro x W ⟨rfl, rfl⟩
    rw [h02]
    go_wp2_with fail
    refine (high_end _ _).mono ?_
    rintro x W ⟨rfl, rfl⟩
    rw [h03]
    go_wp2_with fail
    refine (tx_id _ _).mono ?_
    rintro x W ⟨rfl, rfl⟩
    go_wp2_with fail
    go_ret
    exact ⟨v_is HX.out, new1 _ _⟩
set_option maxHeartbeats 800000 in
theorem spec_version (a b c d e : Int) (w : World) :
    Calls Tryz.prog 62 #[.agg #[.int .i64 a, .int .i64 b, .int .i64 c, .int .i64 d, .int .i64 e]] w fun x w' => x = .returned (.bool (vB a b c d e)) ∧ Below w.heap.size w w' := by
  have R := Lib.hid (fun x lo hi w => in_range x lo hi w)
  rcases h0 : In (-1) 99 b with _ | _
  · go_enter Tryz.func62, Tryz.ntmps62
    go_wp2_with fail
    refine (R.out _ _ _ _).mono ?_
    rintro x W ⟨rfl, rfl⟩
    go_wp2_with fail
    go_ret
    exact ⟨v_no (by have := in_no h0; unfold vP; omega), new1 _ _⟩
  rcases h1 : In 0 999 c with _ | _
  · go_enter Tryz.func62, Tryz.ntmps62
    go_wp2_with fail
    refine (R.out _ _ _ _).mono ?_
    rintro x W ⟨rfl, rfl⟩
    go_wp2_with fail
    refine (R.out _ _ _ _).mono ?_
    rintro x W ⟨rfl, rfl⟩
    go_wp2_with fail
    go_ret
    exact ⟨v_no (by have := in_no h1; unfold vP; omega), new1 _ _⟩
  rcases h2 : In c 999 d with _ | _
  · go_enter Tryz.func62, Tryz.ntmps62
    go_wp2_with fail
    refine (R.out _ _ _ _).mono ?_
    rintro x W ⟨rfl, rfl⟩
    go_wp2_with fail
    refine (R.out _ _ _ _).mono ?_
    rintro x W ⟨rfl, rfl⟩
    go_wp2_with fail
    refine (R.out _ _ _ _).mono ?_
    rintro x W ⟨rfl, rfl⟩
    go_wp2_with fail
    go_ret
    exact ⟨v_no (by have := in_no h2; unfold vP; omega), new1 _ _⟩
  rcases h3 : In 1 1000 e with _ | _
  · go_enter Tryz.func62, Tryz.ntmps62
    go_wp2_with fail
    refine (R.out _ _ _ _).mono ?_
    rintro x W ⟨rfl, rfl⟩
    go_wp2_with fail
    refine (R.out _ _ _ _).mono ?_
    rintro x W ⟨rfl, rfl⟩
    go_wp2_with fail
    refine (R.out _ _ _ _).mono ?_
    rintro x W ⟨rfl, rfl⟩
    go_wp2_with fail
    refine (R.out _ _ _ _).mono ?_
    rintro x W ⟨rfl, rfl⟩
    go_wp2_with fail
    go_ret
    exact ⟨v_no (by have := in_no h3; unfold vP; omega), new1 _ _⟩
  by_cases h8 : c = 0
  · have t8 : (c == 0) = true := beq_iff_eq.2 h8
    by_cases h9 : a = 0
    · have t9 : (a == 0) = true := beq_iff_eq.2 h9
      have hx : (b == -1) = true ↔ vP a b c d e := by have y0 := in_yes h0; have y1 := in_yes h1; have y2 := in_yes h2; have y3 := in_yes h3; rw [beq_iff_eq]; unfold vP; omega
      have HX := Lib.hid hx
      have H8 := Lib.hid h8
      have H9 := Lib.hid h9
      clear hx h8 h9
      go_enter Tryz.func62, Tryz.ntmps62
      go_wp2_with fail
      refine (R.out _ _ _ _).mono ?_
      rintro x W ⟨rfl, rfl⟩
      go_wp2_with fail
      refine (R.out _ _ _ _).mono ?_
      rintro x W ⟨rfl, rfl⟩
      go_wp2_with fail
      refine (R.out _ _ _ _).mono ?_
      rintro x W ⟨rfl, rfl⟩
      go_wp2_with fail
      refine (R.out _ _ _ _).mono ?_
      rintro x W ⟨rfl, rfl⟩
      go_wp2_with fail
      go_ret
      exact ⟨v_is HX.out, new1 _ _⟩
    · have t9 : (a == 0) = false := by simpa using h9
      have hx : ¬ vP a b c d e := by unfold vP; omega
      have HX := Lib.hid hx
      clear hx h8
      go_enter Tryz.func62, Tryz.ntmps62
      go_wp2_with fail
      refine (R.out _ _ _ _).mono ?_
      rintro x W ⟨rfl, rfl⟩
      go_wp2_with fail
      refine (R.out _ _ _ _).mono ?_
      rintro x W ⟨rfl, rfl⟩
      go_wp2_with fail
      refine (R.out _ _ _ _).mono ?_
      rintro x W ⟨rfl, rfl⟩
      go_wp2_with fail
      refine (R.out _ _ _ _).mono ?_
      rintro x W ⟨rfl, rfl⟩
      go_wp2_with fail
      go_ret
      exact ⟨v_no HX.out, new1 _ _⟩
  · have t8 : (c == 0) = false := by simpa using h8
    have hx : In 1 9 a = true ↔ vP a b c d e := by
      have y0 := in_yes h0; have y1 := in_yes h1; have y2 := in_yes h2; have y3 := in_yes h3; 
      unfold vP
      constructor
      · intro h
        have := in_yes h
        omega
      · intro h
        have : 1 ≤ a ∧ a ≤ 9 := by omega
        simp [In, this.1, this.2]
    have HX := Lib.hid hx
    clear hx
    go_enter Tryz.func62, Tryz.ntmps62
    go_wp2_with fail
    refine (R.out _ _ _ _).mono ?_
    rintro x W ⟨rfl, rfl⟩
    go_wp2_with fail
    refine (R.out _ _ _ _).mono ?_
    rintro x W ⟨rfl, rfl⟩
    go_wp2_with fail
    refine (R.out _ _ _ _).mono ?_
    rintro x W ⟨rfl, rfl⟩
    go_wp2_with fail
    refine (R.out _ _ _ _).mono ?_
    rintro x W ⟨rfl, rfl⟩
    go_wp2_with fail
    refine (R.out _ _ _ _).mono ?_
    rintro x W ⟨rfl, rfl⟩
    go_wp2_with fail
    go_ret
    exact ⟨v_is HX.out, new1 _ _⟩

theorem to_version (a b c d e : Int) (w : World) :
    Calls Tryz.prog 77 #[.agg #[.int .i64 a, .int .i64 b, .int .i64 c, .int .i64 d, .int .i64 e]] w fun x w' => x = .returned (.agg #[.int .i64 a, .int .i64 b, .int .i64 c, .int .i64 d, .int .i64 e]) ∧ Below w.heap.size w w' := by
  go_enter Tryz.func77, Tryz.ntmps77
  go_wp2
  refine bodyPost_ret (v := .agg #[.int .i64 a, .int .i64 b, .int .i64 c, .int .i64 d, .int .i64 e]) (by simp [results, Tryz.results77, go_sem]) rfl ⟨rfl, new3 _ _ _ _⟩
/-- two versions are the same -/
def eB (a b c d e a2 b2 c2 d2 e2 : Int) : Bool := decide (a = a2 ∧ b = b2 ∧ c = c2 ∧ d = d2 ∧ e = e2)
theorem e_yes {a b c d e a2 b2 c2 d2 e2 : Int} (h : a = a2 ∧ b = b2 ∧ c = c2 ∧ d = d2 ∧ e = e2) : Ending.returned (.bool true) = .returned (.bool (eB a b c d e a2 b2 c2 d2 e2)) := by rw [show eB a b c d e a2 b2 c2 d2 e2 = true from decide_eq_true h]
theorem e_no {a b c d e a2 b2 c2 d2 e2 : Int} (h : ¬ (a = a2 ∧ b = b2 ∧ c = c2 ∧ d = d2 ∧ e = e2)) : Ending.returned (.bool false) = .returned (.bool (eB a b c d e a2 b2 c2 d2 e2)) := by rw [show eB a b c d e a2 b2 c2 d2 e2 = false from decide_eq_false h]
set_option maxHeartbeats 800000 in
theorem eq_version (a b c d e a2 b2 c2 d2 e2 : Int) (w : World) :
    Calls Tryz.prog 89 #[.agg #[.int .i64 a, .int .i64 b, .int .i64 c, .int .i64 d, .int .i64 e], .agg #[.int .i64 a2, .int .i64 b2, .int .i64 c2, .int .i64 d2, .int .i64 e2]] w fun x w' => x = .returned (.bool (eB a b c d e a2 b2 c2 d2 e2)) ∧ Below w.heap.size w w' := by
  by_cases h0 : a = a2
  case neg =>
    have t0 : (a == a2) = false := by simpa using h0
    go_enter Tryz.func89, Tryz.ntmps89
    go_wp2
    go_ret
    exact ⟨e_no (by intro hh; omega), new2 _ _ _⟩
  have t0 : (a == a2) = true := by simpa using h0
  have H0 := Lib.hid h0
  clear h0
  by_cases h1 : b = b2
  case neg =>
    have t1 : (b == b2) = false := by simpa using h1
    go_enter Tryz.func89, Tryz.ntmps89
    go_wp2
    go_ret
    exact ⟨e_no (by intro hh; omega), new2 _ _ _⟩
  have t1 : (b == b2) = true := by simpa using h1
  have H1 := Lib.hid h1
  clear h1
  by_cases h2 : c = c2
  case neg =>
    have t2 : (c == c2) = false := by simpa using h2
    go_enter Tryz.func89, Tryz.ntmps89
    go_wp2
    go_ret
    exact ⟨e_no (by intro hh; omega), new2 _ _ _⟩
  have t2 : (c == c2) = true := by simpa using h2
  have H2 := Lib.hid h2
  clear h2
  by_cases h3 : d = d2
  case neg =>
    have t3 : (d == d2) = false := by simpa using h3
    go_enter Tryz.func89, Tryz.ntmps89
    go_wp2
    go_ret
    exact ⟨e_no (by intro hh; omega), new2 _ _ _⟩
  have t3 : (d == d2) = true := by simpa using h3
  have H3 := Lib.hid h3
  clear h3
  by_cases h4 : e = e2
  case neg =>
    have t4 : (e == e2) = false := by simpa using h4
    go_enter Tryz.func89, Tryz.ntmps89
    go_wp2
    go_ret
    exact ⟨e_no (by intro hh; omega), new2 _ _ _⟩
  have t4 : (e == e2) = true := by simpa using h4
  have H4 := Lib.hid h4
  clear h4
  go_enter Tryz.func89, Tryz.ntmps89
  go_wp2
  go_ret
  exact ⟨e_yes ⟨H0.out, H1.out, H2.out, H3.out, H4.out⟩, new2 _ _ _⟩
/-- the one comes right before the other -/
def fB (c e c2 : Int) : Bool := decide (c < c2) && decide (e ≤ c2)
theorem may_follow (a b c d e a2 b2 c2 d2 e2 : Int) (w : World) :
    Calls Tryz.prog 67 #[.agg #[.int .i64 a, .int .i64 b, .int .i64 c, .int .i64 d, .int .i64 e], .agg #[.int .i64 a2, .int .i64 b2, .int .i64 c2, .int .i64 d2, .int .i64 e2]] w fun x w' => x = .returned (.bool (fB c e c2)) ∧ Below w.heap.size w w' := by
  by_cases h : c < c2
  · have t : decide (c < c2) = true := decide_eq_true h
    go_enter Tryz.func67, Tryz.ntmps67
    go_wp2
    go_ret
    exact ⟨by simp [fB, t], new2 _ _ _⟩
  · have t : decide (c < c2) = false := decide_eq_false h
    go_enter Tryz.func67, Tryz.ntmps67
    go_wp2
    go_ret
    exact ⟨by simp [fB, t], new2 _ _ _⟩
end Go.Proofs.YtjnlbhmddhpmaaaGreat.vers
