/- The program's and the model's EqualChains: what each answers; nothing that was there is written. -/
import Derived.Test.YtjnlbhmddhpmaaaCh
import Derived.WalkKit
import Derived.ProofKit
import Derived.Below
import Derived.Lib.Hide
import Derived.LoopTactic
import Derived.Deep.QuietTactic
import Derived.BigQuiet
import Derived.Outline
import Derived.IntWalk
import Derived.Laws.StructEq
namespace Go.Proofs.Ytjnlbhmddhpmaaa.eqs
open Go.ChangeShapes Go.WideShapes Go.ChangeAt Go.RowKit
open Go.Proofs.Ytjnlbhmddhpmaaa.vers Go.Proofs.Ytjnlbhmddhpmaaa.sl Go.Proofs.Ytjnlbhmddhpmaaa.ch
set_option linter.unusedVariables false
set_option linter.unusedSimpArgs false
def lB (l m : List Ver) : Bool := decide (l = m)
theorem lB_len {l m : List Ver} (h : l.length ≠ m.length) : lB l m = false := by
  unfold lB
  exact decide_eq_false fun e => h (by rw [e])
theorem lB_at {l m : List Ver} {k : Nat} {x y : Ver} (hx : l[k]? = some x) (hy : m[k]? = some y) (h : x ≠ y) : lB l m = false := by
  unfold lB
  refine decide_eq_false fun e => h ?_
  rw [e, hy] at hx
  exact (Option.some.inj hx).symm
theorem lB_all {l m : List Ver} {n : Nat} (hl : l.length = n) (hm : m.length = n) (h : l.take n = m.take n) : lB l m = true := by
  unfold lB
  refine decide_eq_true ?_
  rwa [List.take_of_length_le (by omega), List.take_of_length_le (by omega)] at h
theorem take_step {l m : List Ver} {k : Nat} {x : Ver} (h : l.take k = m.take k) (hx : l[k]? = some x) (hy : m[k]? = some x) : l.take (k + 1) = m.take (k + 1) := by
  have hl := lt_of_some hx
  have hm := lt_of_some hy
  rw [List.getElem?_eq_getElem hl] at hx
  rw [List.getElem?_eq_getElem hm] at hy
  rw [List.take_succ_eq_append_getElem hl, List.take_succ_eq_append_getElem hm, h, Option.some.inj hx, Option.some.inj hy]
theorem guard_ver : Try.prog.eqGuardType Try.prog.depth 99 = false := by kernel_rfl
theorem held_ver : Try.prog.stoodInHeld 99 = false := by kernel_rfl
theorem fields_ver : Try.prog.underlying 99 = some (.struct (Try.prog.fieldsOf 99)) := by kernel_rfl
theorem neq_run (x y : Ver) (w : World) :
    (binOp .neq 99 (.agg #[.int .i64 x.a, .int .i64 x.b, .int .i64 x.c, .int .i64 x.d, .int .i64 x.e]) (.agg #[.int .i64 y.a, .int .i64 y.b, .int .i64 y.c, .int .i64 y.d, .int .i64 y.e])).run Try.prog w = .ok (.bool (!decide (x = y))) w := by
  rw [run_neq_struct, run_equalIn_struct w 9999 99 _ _ fields_ver held_ver]
  have hu := Try.underlying99
  have hi := Try.underlying3
  simp only [Program.fieldsOf, hu]
  simp [Op.eqFields, go_sem, hi]
  by_cases h : x = y
  · subst h
    simp
  · have hd : x.a = y.a → x.b = y.b → x.c = y.c → x.d = y.d → x.e = y.e → False := fun h1 h2 h3 h4 h5 => h (by cases x; cases y; simp_all)
    rw [decide_eq_false h]
    by_cases h1 : x.a = y.a
    · rw [if_pos h1]
      by_cases h2 : x.b = y.b
      · rw [if_pos h2]
        by_cases h3 : x.c = y.c
        · rw [if_pos h3]
          by_cases h4 : x.d = y.d
          · rw [if_pos h4]
            by_cases h5 : x.e = y.e
            · exact (hd h1 h2 h3 h4 h5).elim
            · rw [if_neg h5]; rfl
          · rw [if_neg h4]; rfl
        · rw [if_neg h3]; rfl
      · rw [if_neg h2]; rfl
    · rw [if_neg h1]; rfl
theorem neq_no {x y : Ver} (h : x = y) (w : World) :
    (binOp .neq 99 (.agg #[.int .i64 x.a, .int .i64 x.b, .int .i64 x.c, .int .i64 x.d, .int .i64 x.e]) (.agg #[.int .i64 y.a, .int .i64 y.b, .int .i64 y.c, .int .i64 y.d, .int .i64 y.e])).run Try.prog w = .ok (.bool false) w := by
  rw [neq_run, decide_eq_true h]; rfl
theorem neq_yes {x y : Ver} (h : x ≠ y) (w : World) :
    (binOp .neq 99 (.agg #[.int .i64 x.a, .int .i64 x.b, .int .i64 x.c, .int .i64 x.d, .int .i64 x.e]) (.agg #[.int .i64 y.a, .int .i64 y.b, .int .i64 y.c, .int .i64 y.d, .int .i64 y.e])).run Try.prog w = .ok (.bool true) w := by
  rw [neq_run, decide_eq_false h]; rfl
set_option maxRecDepth 100000 in
set_option maxHeartbeats 800000 in
theorem spec_equal {w : World} {B n n2 c c2 : Nat} {A A2 : Option Addr} {l m : List Ver} (hn : n ≤ 140737488355328) (hn2 : n2 ≤ 140737488355328) (h1 : Vs w B A n l) (h2 : Vs w B A2 n2 m) (hB : B ≤ w.heap.size) :
    Calls Try.prog 90 #[.slice A n c, .slice A2 n2 c2] w fun e w' => e = .returned (.bool (lB l m)) ∧ Below w.heap.size w w' := by
  have H1 := Lib.hid h1
  have H2 := Lib.hid h2
  have hg := guard_ver
  clear h1 h2
  by_cases hne : n = n2
  case neg =>
    have t : ((n : Int) == (n2 : Int)) = false := by simp; omega
    go_enter Try.func90, Try.ntmps90
    go_wp2_with fail
    go_ret
    exact ⟨ret_bool (lB_len (by have := H1.out.1; have := H2.out.1; omega)).symm, Below.refl _ _⟩
  subst hne
  go_enter Try.func90, Try.ntmps90
  go_wp2
  go_loopw [5] (fun i wr => ∃ k : Nat, k ≤ n ∧ i = .int .i64 k ∧ l.take k = m.take k ∧ Below w.heap.size w wr) (fun i _ => n - (intOf i).toNat)
  case atStart => exact ⟨0, by omega, rfl, rfl, Below.refl _ _⟩
  case round =>
    obtain ⟨k, hk, rfl, ht, hb⟩ := hrel
    have HT := Lib.hid ht
    clear ht
    by_cases hlt : k < n
    · obtain ⟨b, o, x, rfl, hbB, hx, a0, a1, a2, a3, a4⟩ := (H1.out.below (below_le hb hB)).at_ hlt
      obtain ⟨b', o', y, rfl, hbB', hy, d0, d1, d2, d3, d4⟩ := (H2.out.below (below_le hb hB)).at_ hlt
      have HX := Lib.hid hx
      have HY := Lib.hid hy
      have HB := Lib.hid hb
      clear hb hx hy
      by_cases hxy : x = y
      · have hnq := neq_no hxy
        have HXY := Lib.hid hxy
        clear hxy
        go_wp2_with fail
        go_quiet (fail)
        clear hnq
        go_wp2_with fail
        go_roundw
        case rel => exact ⟨k + 1, by omega, by go_num, take_step HT.out HX.out (by rw [HXY.out]; exact HY.out), bdrewN HB.out _⟩
        case measure => simp [intOf]; omega
      · have hnq := neq_yes hxy
        have HXY := Lib.hid hxy
        clear hxy
        go_wp2_with fail
        go_quiet (fail)
        clear hnq
        go_wp2_with fail
        go_ret
        exact ⟨ret_bool (lB_at HX.out HY.out HXY.out).symm, bdrewN HB.out _⟩
    · have HB := Lib.hid hb
      clear hb
      go_wp2_with fail
      go_ret
      have e : k = n := by omega
      exact ⟨ret_bool (lB_all H1.out.1 H2.out.1 (by have := HT.out; rwa [e] at this)).symm, HB.out⟩
set_option maxRecDepth 100000 in
set_option maxHeartbeats 800000 in
theorem lib_equal {w : World} {B n n2 c c2 : Nat} {A A2 : Option Addr} {l m : List Ver} (hn : n ≤ 140737488355328) (hn2 : n2 ≤ 140737488355328) (h1 : Vs w B A n l) (h2 : Vs w B A2 n2 m) (hB : B ≤ w.heap.size) :
    Calls Try.prog 107 #[.slice A n c, .slice A2 n2 c2] w fun e w' => e = .returned (.bool (lB l m)) ∧ Below w.heap.size w w' := by
  have H1 := Lib.hid h1
  have H2 := Lib.hid h2
  have hg := guard_ver
  clear h1 h2
  by_cases hne : n = n2
  case neg =>
    have t : ((n : Int) == (n2 : Int)) = false := by simp; omega
    go_enter Try.func107, Try.ntmps107
    go_wp2_with fail
    go_ret
    exact ⟨ret_bool (lB_len (by have := H1.out.1; have := H2.out.1; omega)).symm, Below.refl _ _⟩
  subst hne
  go_enter Try.func107, Try.ntmps107
  go_wp2
  go_loopw [13] (fun i wr => ∃ k : Nat, k ≤ n ∧ i = .int .i64 k ∧ l.take k = m.take k ∧ Below w.heap.size w wr) (fun i _ => n - (intOf i).toNat)
  case atStart => exact ⟨0, by omega, rfl, rfl, Below.refl _ _⟩
  case round =>
    obtain ⟨k, hk, rfl, ht, hb⟩ := hrel
    have HT := Lib.hid ht
    clear ht
    by_cases hlt : k < n
    · obtain ⟨b, o, x, rfl, hbB, hx, a0, a1, a2, a3, a4⟩ := (H1.out.below (below_le hb hB)).at_ hlt
      obtain ⟨b', o', y, rfl, hbB', hy, d0, d1, d2, d3, d4⟩ := (H2.out.below (below_le hb hB)).at_ hlt
      have HX := Lib.hid hx
      have HY := Lib.hid hy
      have HB := Lib.hid hb
      clear hb hx hy
      by_cases hxy : x = y
      · have hnq := neq_no hxy
        have HXY := Lib.hid hxy
        clear hxy
        go_wp2_with fail
        go_quiet (fail)
        clear hnq
        go_wp2_with fail
        go_roundw
        case rel => exact ⟨k + 1, by omega, by go_num, take_step HT.out HX.out (by rw [HXY.out]; exact HY.out), bdrewN HB.out _⟩
        case measure => simp [intOf]; omega
      · have hnq := neq_yes hxy
        have HXY := Lib.hid hxy
        clear hxy
        go_wp2_with fail
        go_quiet (fail)
        clear hnq
        go_wp2_with fail
        go_ret
        exact ⟨ret_bool (lB_at HX.out HY.out HXY.out).symm, bdrewN HB.out _⟩
    · have HB := Lib.hid hb
      clear hb
      go_wp2_with fail
      go_ret
      have e : k = n := by omega
      exact ⟨ret_bool (lB_all H1.out.1 H2.out.1 (by have := HT.out; rwa [e] at this)).symm, HB.out⟩
theorem impl_equal {w : World} {B n n2 c c2 : Nat} {A A2 : Option Addr} {l m : List Ver} (hn : n ≤ 140737488355328) (hn2 : n2 ≤ 140737488355328) (h1 : Vs w B A n l) (h2 : Vs w B A2 n2 m) (hB : B ≤ w.heap.size) :
    Calls Try.prog 92 #[.slice A n c, .slice A2 n2 c2] w fun e w' => e = .returned (.bool (lB l m)) ∧ Below w.heap.size w w' := by
  have H1 := Lib.hid h1
  have H2 := Lib.hid h2
  clear h1 h2
  go_enter Try.func92, Try.ntmps92
  go_wp2_with fail
  refine (lib_equal hn hn2 H1.out H2.out hB).mono ?_
  rintro e W ⟨rfl, hb⟩
  have HB := Lib.hid hb
  clear hb
  go_wp2_with fail
  go_ret
  exact ⟨rfl, HB.out⟩
end Go.Proofs.Ytjnlbhmddhpmaaa.eqs
