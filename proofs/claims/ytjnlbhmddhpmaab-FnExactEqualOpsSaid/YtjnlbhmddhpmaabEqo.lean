/- slices.Equal at operations; EqualOps of the program and of the model. -/
import Derived.Test.YtjnlbhmddhpmaabEl6
import Derived.Test.YtjnlbhmddhpmaabVers
import Derived.WalkKit
import Derived.ProofKit
import Derived.Below
import Derived.Lib.Hide
import Derived.LoopTactic
import Derived.Deep.QuietTactic
import Derived.BigQuiet
import Derived.StillTailTactics
import Derived.Outline
import Derived.IntWalk
namespace Go.Proofs.Ytjnlbhmddhpmaab.eqo
open Go.ChangeShapes Go.WideShapes Go.ChangeAt Go.RowKit
open Go.Proofs.Ytjnlbhmddhpmaab.el6
open Go.Proofs.Ytjnlbhmddhpmaab.vers (ret_b new2 new3)
set_option linter.unusedVariables false
set_option linter.unusedSimpArgs false
set_option linter.constructorNameAsVariable false
theorem bdrewN {B : Nat} {w w' : World} (h : Below B w w') (n : Nat) : Below B w (w'.drewN n) := ⟨h.os, h.tape, h.output, h.size, h.block⟩
def lO (l m : List E6) : Bool := decide (l = m)
theorem lO_len {l m : List E6} (h : l.length ≠ m.length) : lO l m = false := decide_eq_false fun e => h (by rw [e])
theorem lO_no {l m : List E6} (h : l ≠ m) : lO l m = false := decide_eq_false h
theorem lO_yes {l m : List E6} (h : l = m) : lO l m = true := decide_eq_true h
theorem at_ne {l m : List E6} {k : Nat} {x y : E6} (hx : l[k]? = some x) (hy : m[k]? = some y) (h : x ≠ y) : l ≠ m := fun e => h (by rw [e, hy] at hx; exact (Option.some.inj hx).symm)
theorem take_step {l m : List E6} {k : Nat} {x : E6} (h : l.take k = m.take k) (hx : l[k]? = some x) (hy : m[k]? = some x) : l.take (k + 1) = m.take (k + 1) := by
  rw [List.take_add_one, List.take_add_one, h, hx, hy]
theorem all_eq {l m : List E6} {n : Nat} (hl : l.length = n) (hm : m.length = n) (h : l.take n = m.take n) : l = m := by rwa [List.take_of_length_le (by omega), List.take_of_length_le (by omega)] at h
theorem guard_o : Try.prog.eqGuardType Try.prog.depth 32 = false := by kernel_rfl
theorem held_o : Try.prog.stoodInHeld 32 = false := by kernel_rfl
theorem fields_o : Try.prog.underlying 32 = some (.struct (Try.prog.fieldsOf 32)) := by kernel_rfl
theorem neq_o (x y : E6) (w : World) : (binOp .neq 32 (.agg #[.int .i64 x.a, .int .i64 x.b, .int .i64 x.c, .int .i64 x.d, .int .i64 x.e, .int .i64 x.f]) (.agg #[.int .i64 y.a, .int .i64 y.b, .int .i64 y.c, .int .i64 y.d, .int .i64 y.e, .int .i64 y.f])).run Try.prog w = .ok (.bool (!decide (x = y))) w := by
  rw [run_neq_struct, run_equalIn_struct w 9999 32 _ _ fields_o held_o]
  have hu := Try.underlying32
  have hi := Try.underlying3
  simp only [Program.fieldsOf, hu]
  simp [Op.eqFields, go_sem, hi]
  by_cases h : x = y
  · subst h
    simp
  · have hd : x.a = y.a → x.b = y.b → x.c = y.c → x.d = y.d → x.e = y.e → x.f = y.f → False := fun h1 h2 h3 h4 h5 h6 => h (by cases x; cases y; simp_all)
    rw [decide_eq_false h]
    by_cases h1 : x.a = y.a
    · rw [if_pos h1]
      by_cases h2 : x.b = y.b
      · rw [if_pos h2]
        by_cases h3 : x.c = y.c
        · rw [if_pos h3]
          by_cases h4 : x.d = y.d
          · rw [if_pos h4]
            by_cases h5 : x.e = y.e
            · rw [if_pos h5]
              by_cases h6 : x.f = y.f
              · rw [if_pos h6]
                exact (hd h1 h2 h3 h4 h5 h6).elim
              · (rw [if_neg h6]) <;> rfl
            · (rw [if_neg h5]) <;> rfl
          · (rw [if_neg h4]) <;> rfl
        · (rw [if_neg h3]) <;> rfl
      · (rw [if_neg h2]) <;> rfl
    · (rw [if_neg h1]) <;> rfl
theorem neq_o_q {x y : E6} {q : Bool} (h : decide (x = y) = q) (w : World) : (binOp .neq 32 (.agg #[.int .i64 x.a, .int .i64 x.b, .int .i64 x.c, .int .i64 x.d, .int .i64 x.e, .int .i64 x.f]) (.agg #[.int .i64 y.a, .int .i64 y.b, .int .i64 y.c, .int .i64 y.d, .int .i64 y.e, .int .i64 y.f])).run Try.prog w = .ok (.bool (!q)) w := by rw [neq_o, h]
theorem neq_no {x y : E6} (h : x = y) (w : World) : (binOp .neq 32 (.agg #[.int .i64 x.a, .int .i64 x.b, .int .i64 x.c, .int .i64 x.d, .int .i64 x.e, .int .i64 x.f]) (.agg #[.int .i64 y.a, .int .i64 y.b, .int .i64 y.c, .int .i64 y.d, .int .i64 y.e, .int .i64 y.f])).run Try.prog w = .ok (.bool false) w := by rw [neq_o, decide_eq_true h]; rfl
theorem neq_yes {x y : E6} (h : x ≠ y) (w : World) : (binOp .neq 32 (.agg #[.int .i64 x.a, .int .i64 x.b, .int .i64 x.c, .int .i64 x.d, .int .i64 x.e, .int .i64 x.f]) (.agg #[.int .i64 y.a, .int .i64 y.b, .int .i64 y.c, .int .i64 y.d, .int .i64 y.e, .int .i64 y.f])).run Try.prog w = .ok (.bool true) w := by rw [neq_o, decide_eq_false h]; rfl
set_option maxRecDepth 100000 in
set_option maxHeartbeats 800000 in
theorem lib_o {w : World} {B n n2 c c2 : Nat} {A A2 : Option Addr} {l m : List E6} (hn : n ≤ 140737488355328) (hn2 : n2 ≤ 140737488355328) (h1 : Vs w B A n l) (h2 : Vs w B A2 n2 m) (hB : B ≤ w.heap.size) :
    Calls Try.prog 19 #[.slice A n c, .slice A2 n2 c2] w fun e w' => e = .returned (.bool (lO l m)) ∧ Below w.heap.size w w' := by
  have H1 := Lib.hid h1
  have H2 := Lib.hid h2
  have hg := guard_o
  clear h1 h2
  by_cases hne : n = n2
  case neg =>
    have t : ((n : Int) == (n2 : Int)) = false := by simp; omega
    go_enter Try.func19, Try.ntmps19
    go_wp2_with fail
    go_ret
    exact ⟨ret_b (lO_len (by have := H1.out.1; have := H2.out.1; omega)).symm, Below.refl _ _⟩
  subst hne
  go_enter Try.func19, Try.ntmps19
  go_wp2
  go_loopw [13] (fun i wr => ∃ k : Nat, k ≤ n ∧ i = .int .i64 k ∧ l.take k = m.take k ∧ Below w.heap.size w wr) (fun i _ => n - (intOf i).toNat)
  case atStart => exact ⟨0, by omega, rfl, rfl, Below.refl _ _⟩
  case round =>
    obtain ⟨k, hk, rfl, ht, hb⟩ := hrel
    have HT := Lib.hid ht
    clear ht
    by_cases hlt : k < n
    · obtain ⟨b, o, x, rfl, hbB, hx, a0, a1, a2, a3, a4, a5⟩ := (H1.out.below (below_le hb hB)).at_ hlt
      obtain ⟨b', o', y, rfl, hbB', hy, d0, d1, d2, d3, d4, d5⟩ := (H2.out.below (below_le hb hB)).at_ hlt
      have HX := Lib.hid hx
      have HY := Lib.hid hy
      have HB := Lib.hid hb
      clear hb hx hy
      by_cases hxy : x = y
      · have hnq := neq_no hxy
        have HXY := Lib.hid hxy
        clear hxy
        go_wp2_with fail
        go_quiet (fail)
        clear hnq
        go_wp2_with fail
        go_roundw
        case rel => exact ⟨k + 1, by omega, by go_num, take_step HT.out HX.out (by rw [HXY.out]; exact HY.out), bdrewN HB.out _⟩
        case measure => simp [intOf]; omega
      · have hnq := neq_yes hxy
        have HXY := Lib.hid hxy
        clear hxy
        go_wp2_with fail
        go_quiet (fail)
        clear hnq
        go_wp2_with fail
        go_ret
        exact ⟨ret_b (lO_no (at_ne HX.out HY.out HXY.out)).symm, bdrewN HB.out _⟩
    · have HB := Lib.hid hb
      clear hb
      go_wp2_with fail
      go_ret
      have e : k = n := by omega
      exact ⟨ret_b (lO_yes (all_eq H1.out.1 H2.out.1 (by have := HT.out; rwa [e] at this))).symm, HB.out⟩
set_option maxRecDepth 100000 in
set_option maxHeartbeats 800000 in
theorem spec_eqo {w : World} {B n n2 c c2 : Nat} {A A2 : Option Addr} {l m : List E6} (hn : n ≤ 140737488355328) (hn2 : n2 ≤ 140737488355328) (h1 : Vs w B A n l) (h2 : Vs w B A2 n2 m) (hB : B ≤ w.heap.size) :
    Calls Try.prog 12 #[.slice A n c, .slice A2 n2 c2] w fun e w' => e = .returned (.bool (lO l m)) ∧ Below w.heap.size w w' := by
  have H1 := Lib.hid h1
  have H2 := Lib.hid h2
  have hg := guard_o
  clear h1 h2
  by_cases hne : n = n2
  case neg =>
    have t : ((n : Int) == (n2 : Int)) = false := by simp; omega
    have t2 : ((n : Int) != (n2 : Int)) = true := by simp; omega
    go_enter Try.func12, Try.ntmps12
    go_wp2_with fail
    go_ret
    exact ⟨ret_b (lO_len (by have := H1.out.1; have := H2.out.1; omega)).symm, Below.refl _ _⟩
  subst hne
  go_enter Try.func12, Try.ntmps12
  go_wp2
  go_loopw [5] (fun i wr => ∃ k : Nat, k ≤ n ∧ i = .int .i64 k ∧ l.take k = m.take k ∧ Below w.heap.size w wr) (fun i _ => n - (intOf i).toNat)
  case atStart => exact ⟨0, by omega, rfl, rfl, Below.refl _ _⟩
  case round =>
    obtain ⟨k, hk, rfl, ht, hb⟩ := hrel
    have HT := Lib.hid ht
    clear ht
    by_cases hlt : k < n
    · obtain ⟨b, o, x, rfl, hbB, hx, a0, a1, a2, a3, a4, a5⟩ := (H1.out.below (below_le hb hB)).at_ hlt
      obtain ⟨b', o', y, rfl, hbB', hy, d0, d1, d2, d3, d4, d5⟩ := (H2.out.below (below_le hb hB)).at_ hlt
      have HX := Lib.hid hx
      have HY := Lib.hid hy
      have HB := Lib.hid hb
      clear hb hx hy
      by_cases hxy : x = y
      · have hnq := neq_no hxy
        have HXY := Lib.hid hxy
        clear hxy
        go_wp2_with fail
        go_quiet (fail)
        clear hnq
        go_wp2_with fail
        go_roundw
        case rel => exact ⟨k + 1, by omega, by go_num, take_step HT.out HX.out (by rw [HXY.out]; exact HY.out), bdrewN HB.out _⟩
        case measure => simp [intOf]; omega
      · have hnq := neq_yes hxy
        have HXY := Lib.hid hxy
        clear hxy
        go_wp2_with fail
        go_quiet (fail)
        clear hnq
        go_wp2_with fail
        go_ret
        exact ⟨ret_b (lO_no (at_ne HX.out HY.out HXY.out)).symm, bdrewN HB.out _⟩
    · have HB := Lib.hid hb
      clear hb
      go_wp2_with fail
      go_ret
      have e : k = n := by omega
      exact ⟨ret_b (lO_yes (all_eq H1.out.1 H2.out.1 (by have := HT.out; rwa [e] at this))).symm, HB.out⟩
set_option maxRecDepth 100000 in
theorem impl_eqo {w : World} {B n n2 c c2 : Nat} {A A2 : Option Addr} {l m : List E6} (hn : n ≤ 140737488355328) (hn2 : n2 ≤ 140737488355328) (h1 : Vs w B A n l) (h2 : Vs w B A2 n2 m) (hB : B ≤ w.heap.size) :
    Calls Try.prog 13 #[.slice A n c, .slice A2 n2 c2] w fun e w' => e = .returned (.bool (lO l m)) ∧ Below w.heap.size w w' := by
  have HC := Lib.hid (lib_o (c := c) (c2 := c2) hn hn2 h1 h2 hB)
  clear h1 h2
  go_enter Try.func13, Try.ntmps13
  go_wp2_with fail
  refine HC.out.mono ?_
  rintro e W ⟨rfl, hb⟩
  go_wp2_with fail
  go_ret
  exact ⟨rfl, hb⟩
end Go.Proofs.Ytjnlbhmddhpmaab.eqo
