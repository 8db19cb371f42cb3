/- How two integers and two marks compare: the library's cmp.Compare and cmp.Or, the program's compareReads; nothing that was there is written. -/
import Derived.Test.YtjnlbhmddhpmaaaGreatEl2
import Derived.WalkKit
import Derived.ProofKit
import Derived.Below
import Derived.Lib.Hide
import Derived.LoopTactic
import Derived.Deep.QuietTactic
import Derived.BigQuiet
import Derived.StillTailTactics
import Derived.Outline
import Derived.IntWalk
import Derived.Deep.RegionHeld3
namespace Go.Proofs.YtjnlbhmddhpmaaaGreat.cm
open Go.ChangeShapes Go.WideShapes Go.ChangeAt Go.RowKit
open Go.Proofs.YtjnlbhmddhpmaaaGreat.el2
set_option linter.unusedVariables false
set_option linter.unusedSimpArgs false
set_option linter.constructorNameAsVariable false
/-- the sign of a comparison -/
def cmpI (a b : Int) : Int := if a < b then -1 else if b < a then 1 else 0
/-- the first that is not nought -/
def orI (a b : Int) : Int := if a = 0 then b else a
def cmpR (x y : E2) : Int := orI (cmpI x.a y.a) (cmpI x.b y.b)
theorem cmpI_lt {a b : Int} (h : a < b) : cmpI a b = -1 := if_pos h
theorem cmpI_gt {a b : Int} (h : b < a) : cmpI a b = 1 := by unfold cmpI; rw [if_neg (by omega), if_pos h]
theorem cmpI_eq {a b : Int} (h : a = b) : cmpI a b = 0 := by unfold cmpI; rw [if_neg (by omega), if_neg (by omega)]
theorem cmpI_cases (a b : Int) : (a < b ∧ cmpI a b = -1) ∨ (a = b ∧ cmpI a b = 0) ∨ (b < a ∧ cmpI a b = 1) := by
  rcases Int.lt_trichotomy a b with h | h | h
  · exact .inl ⟨h, cmpI_lt h⟩
  · exact .inr (.inl ⟨h, cmpI_eq h⟩)
  · exact .inr (.inr ⟨h, cmpI_gt h⟩)
theorem ret_i {a b : Int} (h : a = b) : Ending.returned (.int .i64 a) = .returned (.int .i64 b) := by rw [h]
theorem is_nan (x : Int) (w : World) :
    Calls Tryz.prog 105 #[.int .i64 x] w fun e w' => e = .returned (.bool false) ∧ w = w' := by
  go_enter Tryz.func105, Tryz.ntmps105
  go_wp2
  go_ret
  exact ⟨rfl, rfl⟩
set_option maxRecDepth 100000 in
set_option maxHeartbeats 800000 in
theorem compare_int (a b : Int) (w : World) :
    Calls Tryz.prog 103 #[.int .i64 a, .int .i64 b] w fun e w' => e = .returned (.int .i64 (cmpI a b)) ∧ w = w' := by
  rcases cmpI_cases a b with ⟨h, e⟩ | ⟨h, e⟩ | ⟨h, e⟩
  · have t1 : decide (a < b) = true := decide_eq_true h
    rw [e]
    go_enter Tryz.func103, Tryz.ntmps103
    go_wp2_with fail
    refine (is_nan a w).mono ?_
    rintro e W1 ⟨rfl, rfl⟩
    go_wp2_with fail
    refine (is_nan b w).mono ?_
    rintro e W1 ⟨rfl, rfl⟩
    go_wp2_with fail
    go_ret
    exact ⟨rfl, rfl⟩
  · subst h
    have t1 : decide (a < a) = false := decide_eq_false (by omega)
    have t2 : decide (a < a) = false := decide_eq_false (by omega)
    rw [e]
    go_enter Tryz.func103, Tryz.ntmps103
    go_wp2_with fail
    refine (is_nan a w).mono ?_
    rintro e W1 ⟨rfl, rfl⟩
    go_wp2_with fail
    refine (is_nan a w).mono ?_
    rintro e W1 ⟨rfl, rfl⟩
    go_wp2_with fail
    go_ret
    exact ⟨rfl, rfl⟩
  · have t1 : decide (a < b) = false := decide_eq_false (by omega)
    have t2 : decide (b < a) = true := decide_eq_true (by omega)
    rw [e]
    go_enter Tryz.func103, Tryz.ntmps103
    go_wp2_with fail
    refine (is_nan a w).mono ?_
    rintro e W1 ⟨rfl, rfl⟩
    go_wp2_with fail
    refine (is_nan b w).mono ?_
    rintro e W1 ⟨rfl, rfl⟩
    go_wp2_with fail
    go_ret
    exact ⟨rfl, rfl⟩
set_option maxRecDepth 100000 in
set_option maxHeartbeats 800000 in
theorem or_two {a b : Int} {w : World} {N : Nat} (c0 : w.cell? ⟨N, 0, none⟩ = some (.int .i64 a)) (c1 : w.cell? ⟨N, 1, none⟩ = some (.int .i64 b)) :
    Calls Tryz.prog 102 #[.slice (some ⟨N, 0, none⟩) 2 2] w fun e w' => e = .returned (.int .i64 (orI a b)) ∧ w = w' := by
  go_enter Tryz.func102, Tryz.ntmps102
  go_wp2_with fail
  go_loop [8] (fun i => ∃ k : Nat, k ≤ 2 ∧ i = .int .i64 k ∧ (0 < k → a = 0) ∧ (1 < k → b = 0)) (fun i => 2 - (intOf i).toNat)
  case atStart => exact ⟨0, by omega, rfl, by omega, by omega⟩
  case round =>
    obtain ⟨k, hk, rfl, ha, hb⟩ := hrel
    obtain rfl | rfl | rfl : k = 0 ∨ k = 1 ∨ k = 2 := by omega
    · by_cases h : a = 0
      · have t1 : (a == 0) = true := by simpa using h
        go_wp2_with fail
        go_round
        case rel => exact ⟨1, by omega, by go_num, fun _ => h, by omega⟩
        case measure => simp [intOf]
      · have t1 : (a == 0) = false := by simpa using h
        go_wp2_with fail
        go_ret
        simp [orI, h]
    · have ha := ha (by omega)
      by_cases h : b = 0
      · have t1 : (b == 0) = true := by simpa using h
        go_wp2_with fail
        go_round
        case rel => exact ⟨2, by omega, by go_num, fun _ => ha, fun _ => h⟩
        case measure => simp [intOf]
      · have t1 : (b == 0) = false := by simpa using h
        go_wp2_with fail
        go_ret
        simp [orI, ha]
    · have ha := ha (by omega)
      have hb := hb (by omega)
      go_wp2_with fail
      go_ret
      simp [orI, ha, hb]
set_option maxRecDepth 100000 in
set_option maxHeartbeats 1600000 in
theorem compare_reads (x y : E2) (w : World) :
    Calls Tryz.prog 97 #[.agg #[.int .i64 x.a, .int .i64 x.b], .agg #[.int .i64 y.a, .int .i64 y.b]] w fun e w' => e = .returned (.int .i64 (cmpR x y)) ∧ Below w.heap.size w w' := by
  go_enter Tryz.func97, Tryz.ntmps97
  go_wp2_with fail
  have q0 := (new1 w (.cells #[.int .i64 x.a, .int .i64 x.b] 83)).alloc (by simp) (.cells #[.int .i64 y.a, .int .i64 y.b] 83)
  have q1 := atFlat ((boxed w x 83).keep (B := w.heap.size + 1) (by omega) (new1 (w.alloc (.cells #[.int .i64 x.a, .int .i64 x.b] 83)) (.cells #[.int .i64 y.a, .int .i64 y.b] 83) |> fun h => below_le h (by simp)))
  have q2 := atFlat (boxed (w.alloc (.cells #[.int .i64 x.a, .int .i64 x.b] 83)) y 83)
  have hs : (w.alloc (.cells #[.int .i64 x.a, .int .i64 x.b] 83)).heap.size = w.heap.size + 1 := by simp
  have hs2 : ((w.alloc (.cells #[.int .i64 x.a, .int .i64 x.b] 83)).alloc (.cells #[.int .i64 y.a, .int .i64 y.b] 83)).heap.size = w.heap.size + 2 := by simp
  rw [hs] at q2
  generalize (w.alloc _).alloc _ = W at q0 q1 q2 hs2 ⊢
  obtain ⟨x0, x1⟩ := q1
  obtain ⟨y0, y1⟩ := q2
  clear hs
  go_still_tail 10, (by kernel_rfl)
  still_call ((compare_int x.a y.a _).mono fun _ _ ⟨h, h2⟩ => ⟨h, h2.symm⟩)
  repeat still_step
  still_call ((compare_int x.b y.b _).mono fun _ _ ⟨h, h2⟩ => ⟨h, h2.symm⟩)
  refine wpStill_nil ?_
  change wpList _ _ _ _ _ W.drew
  go_wp2_with fail
  refine (or_two (a := cmpI x.a y.a) (b := cmpI x.b y.b) ?_ ?_).mono ?_
  · rw [← hs2]; exact World.cell?_alloc_mark W _ _ _ 0
  · rw [← hs2]; exact World.cell?_alloc_mark W _ _ _ 1
  rintro e W1 ⟨rfl, rfl⟩
  go_wp2_with fail
  go_ret
  exact ⟨rfl, (q0.alloc (by omega) _).drew⟩
end Go.Proofs.YtjnlbhmddhpmaaaGreat.cm
