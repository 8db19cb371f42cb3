/- slices.Equal at locks and at waits, and the comparison of two of them. -/
import Derived.Test.YtjnlbhmddhpmaaaTe
import Derived.Test.YtjnlbhmddhpmaaaRLock
import Derived.Test.YtjnlbhmddhpmaaaRWait
import Derived.LoopTactic
namespace Go.Proofs.Ytjnlbhmddhpmaaa.lke
open Go.ChangeShapes Go.WideShapes Go.ChangeAt Go.RowKit
open Go.Proofs.Ytjnlbhmddhpmaaa.el2 Go.Proofs.Ytjnlbhmddhpmaaa.tx Go.Proofs.Ytjnlbhmddhpmaaa.seq Go.Proofs.Ytjnlbhmddhpmaaa.tv Go.Proofs.Ytjnlbhmddhpmaaa.tf Go.Proofs.Ytjnlbhmddhpmaaa.te
open Go.Proofs.Ytjnlbhmddhpmaaa.vers (ret_b new2 new3)
set_option linter.unusedVariables false
set_option linter.unusedSimpArgs false
set_option linter.constructorNameAsVariable false
theorem guard_k : Try.prog.eqGuardType Try.prog.depth 91 = false := by kernel_rfl
theorem held_k : Try.prog.stoodInHeld 91 = false := by kernel_rfl
theorem fields_k : Try.prog.underlying 91 = some (.struct (Try.prog.fieldsOf 91)) := by kernel_rfl
theorem neq_k (x y : E2) (w : World) : (binOp .neq 91 (.agg #[.int .i64 x.a, .int .i64 x.b]) (.agg #[.int .i64 y.a, .int .i64 y.b])).run Try.prog w = .ok (.bool (!decide (x = y))) w := by
  rw [run_neq_struct, run_equalIn_struct w 9999 91 _ _ fields_k held_k]
  have hu := Try.underlying91
  have hi := Try.underlying3
  simp only [Program.fieldsOf, hu]
  simp [Op.eqFields, go_sem, hi]
  by_cases h : x = y
  · subst h
    simp
  · have hd : x.a = y.a → x.b = y.b → False := fun h1 h2 => h (by cases x; cases y; simp_all)
    rw [decide_eq_false h]
    by_cases h1 : x.a = y.a
    · rw [if_pos h1]
      by_cases h2 : x.b = y.b
      · exact (hd h1 h2).elim
      · rw [if_neg h2]; rfl
    · rw [if_neg h1]; rfl
theorem neq_no_k {x y : E2} (h : x = y) (w : World) : (binOp .neq 91 (.agg #[.int .i64 x.a, .int .i64 x.b]) (.agg #[.int .i64 y.a, .int .i64 y.b])).run Try.prog w = .ok (.bool false) w := by rw [neq_k, decide_eq_true h]; rfl
theorem neq_yes_k {x y : E2} (h : x ≠ y) (w : World) : (binOp .neq 91 (.agg #[.int .i64 x.a, .int .i64 x.b]) (.agg #[.int .i64 y.a, .int .i64 y.b])).run Try.prog w = .ok (.bool true) w := by rw [neq_k, decide_eq_false h]; rfl
set_option maxRecDepth 100000 in
set_option maxHeartbeats 800000 in
theorem lib_k {w : World} {B n n2 c c2 : Nat} {A A2 : Option Addr} {l m : List E2} (hn : n ≤ 140737488355328) (hn2 : n2 ≤ 140737488355328) (h1 : Vs w B A n l) (h2 : Vs w B A2 n2 m) (hB : B ≤ w.heap.size) :
    Calls Try.prog 64 #[.slice A n c, .slice A2 n2 c2] w fun e w' => e = .returned (.bool (lB l m)) ∧ Below w.heap.size w w' := by
  have H1 := Lib.hid h1
  have H2 := Lib.hid h2
  have hg := guard_k
  clear h1 h2
  by_cases hne : n = n2
  case neg =>
    have t : ((n : Int) == (n2 : Int)) = false := by simp; omega
    go_enter Try.func64, Try.ntmps64
    go_wp2_with fail
    go_ret
    exact ⟨ret_b (lB_len (by have := H1.out.1; have := H2.out.1; omega)).symm, Below.refl _ _⟩
  subst hne
  go_enter Try.func64, Try.ntmps64
  go_wp2
  go_loopw [13] (fun i wr => ∃ k : Nat, k ≤ n ∧ i = .int .i64 k ∧ l.take k = m.take k ∧ Below w.heap.size w wr) (fun i _ => n - (intOf i).toNat)
  case atStart => exact ⟨0, by omega, rfl, rfl, Below.refl _ _⟩
  case round =>
    obtain ⟨k, hk, rfl, ht, hb⟩ := hrel
    have HT := Lib.hid ht
    clear ht
    by_cases hlt : k < n
    · obtain ⟨b, o, x, rfl, hbB, hx, a0, a1⟩ := (H1.out.below (below_le hb hB)).at_ hlt
      obtain ⟨b', o', y, rfl, hbB', hy, d0, d1⟩ := (H2.out.below (below_le hb hB)).at_ hlt
      have HX := Lib.hid hx
      have HY := Lib.hid hy
      have HB := Lib.hid hb
      clear hb hx hy
      by_cases hxy : x = y
      · have hnq := neq_no_k hxy
        have HXY := Lib.hid hxy
        clear hxy
        go_wp2_with fail
        go_quiet (fail)
        clear hnq
        go_wp2_with fail
        go_roundw
        case rel => exact ⟨k + 1, by omega, by go_num, take_step HT.out HX.out (by rw [HXY.out]; exact HY.out), bdrewN HB.out _⟩
        case measure => simp [intOf]; omega
      · have hnq := neq_yes_k hxy
        have HXY := Lib.hid hxy
        clear hxy
        go_wp2_with fail
        go_quiet (fail)
        clear hnq
        go_wp2_with fail
        go_ret
        exact ⟨ret_b (lB_no (at_ne HX.out HY.out HXY.out)).symm, bdrewN HB.out _⟩
    · have HB := Lib.hid hb
      clear hb
      go_wp2_with fail
      go_ret
      have e : k = n := by omega
      exact ⟨ret_b (lB_yes (all_eq H1.out.1 H2.out.1 (by have := HT.out; rwa [e] at this))).symm, HB.out⟩
theorem guard_x : Try.prog.eqGuardType Try.prog.depth 93 = false := by kernel_rfl
theorem held_x : Try.prog.stoodInHeld 93 = false := by kernel_rfl
theorem fields_x : Try.prog.underlying 93 = some (.struct (Try.prog.fieldsOf 93)) := by kernel_rfl
theorem neq_x (x y : E2) (w : World) : (binOp .neq 93 (.agg #[.int .i64 x.a, .int .i64 x.b]) (.agg #[.int .i64 y.a, .int .i64 y.b])).run Try.prog w = .ok (.bool (!decide (x = y))) w := by
  rw [run_neq_struct, run_equalIn_struct w 9999 93 _ _ fields_x held_x]
  have hu := Try.underlying93
  have hi := Try.underlying3
  simp only [Program.fieldsOf, hu]
  simp [Op.eqFields, go_sem, hi]
  by_cases h : x = y
  · subst h
    simp
  · have hd : x.a = y.a → x.b = y.b → False := fun h1 h2 => h (by cases x; cases y; simp_all)
    rw [decide_eq_false h]
    by_cases h1 : x.a = y.a
    · rw [if_pos h1]
      by_cases h2 : x.b = y.b
      · exact (hd h1 h2).elim
      · rw [if_neg h2]; rfl
    · rw [if_neg h1]; rfl
theorem neq_no_x {x y : E2} (h : x = y) (w : World) : (binOp .neq 93 (.agg #[.int .i64 x.a, .int .i64 x.b]) (.agg #[.int .i64 y.a, .int .i64 y.b])).run Try.prog w = .ok (.bool false) w := by rw [neq_x, decide_eq_true h]; rfl
theorem neq_yes_x {x y : E2} (h : x ≠ y) (w : World) : (binOp .neq 93 (.agg #[.int .i64 x.a, .int .i64 x.b]) (.agg #[.int .i64 y.a, .int .i64 y.b])).run Try.prog w = .ok (.bool true) w := by rw [neq_x, decide_eq_false h]; rfl
set_option maxRecDepth 100000 in
set_option maxHeartbeats 800000 in
theorem lib_x {w : World} {B n n2 c c2 : Nat} {A A2 : Option Addr} {l m : List E2} (hn : n ≤ 140737488355328) (hn2 : n2 ≤ 140737488355328) (h1 : Vs w B A n l) (h2 : Vs w B A2 n2 m) (hB : B ≤ w.heap.size) :
    Calls Try.prog 65 #[.slice A n c, .slice A2 n2 c2] w fun e w' => e = .returned (.bool (lB l m)) ∧ Below w.heap.size w w' := by
  have H1 := Lib.hid h1
  have H2 := Lib.hid h2
  have hg := guard_x
  clear h1 h2
  by_cases hne : n = n2
  case neg =>
    have t : ((n : Int) == (n2 : Int)) = false := by simp; omega
    go_enter Try.func65, Try.ntmps65
    go_wp2_with fail
    go_ret
    exact ⟨ret_b (lB_len (by have := H1.out.1; have := H2.out.1; omega)).symm, Below.refl _ _⟩
  subst hne
  go_enter Try.func65, Try.ntmps65
  go_wp2
  go_loopw [13] (fun i wr => ∃ k : Nat, k ≤ n ∧ i = .int .i64 k ∧ l.take k = m.take k ∧ Below w.heap.size w wr) (fun i _ => n - (intOf i).toNat)
  case atStart => exact ⟨0, by omega, rfl, rfl, Below.refl _ _⟩
  case round =>
    obtain ⟨k, hk, rfl, ht, hb⟩ := hrel
    have HT := Lib.hid ht
    clear ht
    by_cases hlt : k < n
    · obtain ⟨b, o, x, rfl, hbB, hx, a0, a1⟩ := (H1.out.below (below_le hb hB)).at_ hlt
      obtain ⟨b', o', y, rfl, hbB', hy, d0, d1⟩ := (H2.out.below (below_le hb hB)).at_ hlt
      have HX := Lib.hid hx
      have HY := Lib.hid hy
      have HB := Lib.hid hb
      clear hb hx hy
      by_cases hxy : x = y
      · have hnq := neq_no_x hxy
        have HXY := Lib.hid hxy
        clear hxy
        go_wp2_with fail
        go_quiet (fail)
        clear hnq
        go_wp2_with fail
        go_roundw
        case rel => exact ⟨k + 1, by omega, by go_num, take_step HT.out HX.out (by rw [HXY.out]; exact HY.out), bdrewN HB.out _⟩
        case measure => simp [intOf]; omega
      · have hnq := neq_yes_x hxy
        have HXY := Lib.hid hxy
        clear hxy
        go_wp2_with fail
        go_quiet (fail)
        clear hnq
        go_wp2_with fail
        go_ret
        exact ⟨ret_b (lB_no (at_ne HX.out HY.out HXY.out)).symm, bdrewN HB.out _⟩
    · have HB := Lib.hid hb
      clear hb
      go_wp2_with fail
      go_ret
      have e : k = n := by omega
      exact ⟨ret_b (lB_yes (all_eq H1.out.1 H2.out.1 (by have := HT.out; rwa [e] at this))).symm, HB.out⟩
end Go.Proofs.Ytjnlbhmddhpmaaa.lke
