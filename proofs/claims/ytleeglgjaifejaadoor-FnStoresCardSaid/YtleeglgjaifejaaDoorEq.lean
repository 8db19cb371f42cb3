/- The program's and the model's EqualChains: what each answers; nothing that was there is written. -/
import Derived.Test.YtleeglgjaifejaaDoorCh
import Derived.WalkKit
import Derived.ProofKit
import Derived.Below
import Derived.Lib.Hide
import Derived.LoopTactic
import Derived.Deep.QuietTactic
import Derived.BigQuiet
import Derived.Outline
import Derived.IntWalk
import Derived.Laws.StructEq
namespace Go.Proofs.YtleeglgjaifejaaDoor.eqs
open Go.ChangeShapes Go.WideShapes Go.ChangeAt Go.RowKit
open Go.Proofs.YtleeglgjaifejaaDoor.vers Go.Proofs.YtleeglgjaifejaaDoor.sl Go.Proofs.YtleeglgjaifejaaDoor.ch
set_option linter.unusedVariables false
set_option linter.unusedSimpArgs false
def lB (l m : List Ver) : Bool := decide (l = m)
theorem lB_len {l m : List Ver} (h : l.length ≠ m.length) : lB l m = false := by
  unfold lB
  exact decide_eq_false fun e => h (by rw [e])
theorem lB_at {l m : List Ver} {k : Nat} {x y : Ver} (hx : l[k]? = some x) (hy : m[k]? = some y) (h : x ≠ y) : lB l m = false := by
  unfold lB
  refine decide_eq_false fun e => h ?_
  rw [e, hy] at hx
  exact (Option.some.inj hx).symm
theorem lB_all {l m : List Ver} {n : Nat} (hl : l.length = n) (hm : m.length = n) (h : l.take n = m.take n) : lB l m = true := by
  unfold lB
  refine decide_eq_true ?_
  rwa [List.take_of_length_le (by omega), List.take_of_length_le (by omega)] at h
theorem take_step {l m : List Ver} {k : Nat} {x : Ver} (h : l.take k = m.take k) (hx : l[k]? = some x) (hy : m[k]? = some x) : l.take (k + 1) = m.take (k + 1) := by
  have hl := lt_of_some hx
  have hm := lt_of_some hy
  rw [List.getElem?_eq_getElem hl] at hx
  rw [List.getElem?_eq_getElem hm] at hy
  rw [List.take_succ_eq_append_getElem hl, List.take_succ_eq_append_getElem hm, h, Option.some.inj hx, Option.some.inj hy]
theorem guard_ver : Tryd.prog.eqGuardType Tryd.prog.depth 36 = false := by kernel_rfl
theorem held_ver : Tryd.prog.stoodInHeld 36 = false := by kernel_rfl
theorem fields_ver : Tryd.prog.underlying 36 = some (.struct (Tryd.prog.fieldsOf 36)) := by kernel_rfl
theorem neq_run (x y : Ver) (w : World) :
    (binOp .neq 36 (.agg #[.int .i64 x.a, .int .i64 x.b, .int .i64 x.c, .int .i64 x.d, .int .i64 x.e]) (.agg #[.int .i64 y.a, .int .i64 y.b, .int .i64 y.c, .int .i64 y.d, .int .i64 y.e])).run Tryd.prog w = .ok (.bool (!decide (x = y))) w := by
  rw [run_neq_struct, run_equalIn_struct w 9999 36 _ _ fields_ver held_ver]
  have hu := Tryd.underlying36
  have hi := Tryd.underlying3
  simp only [Program.fieldsOf, hu]
  simp [Op.eqFields, go_sem, hi]
  by_cases h : x = y
  · subst h
    simp
  · have hd : x.a = y.a → x.b = y.b → x.c = y.c → x.d = y.d → x.e = y.e → False := fun h1 h2 h3 h4 h5 => h (by cases x; cases y; simp_all)
    rw [decide_eq_false h]
    by_cases h1 : x.a = y.a
    · rw [if_pos h1]
      by_cases h2 : x.b = y.b
      · rw [if_pos h2]
        by_cases h3 : x.c = y.c
        · rw [if_pos h3]
          by_cases h4 : x.d = y.d
          · rw [if_pos h4]
            by_cases h5 : x.e = y.e
            · exact (hd h1 h2 h3 h4 h5).elim
            · rw [if_neg h5]; rfl
          · rw [if_neg h4]; rfl
        · rw [if_neg h3]; rfl
      · rw [if_neg h2]; rfl
    · rw [if_neg h1]; rfl
theorem neq_no {x y : Ver} (h : x = y) (w : World) :
    (binOp .neq 36 (.agg #[.int .i64 x.a, .int .i64 x.b, .int .i64 x.c, .int .i64 x.d, .int .i64 x.e]) (.agg #[.int .i64 y.a, .int .i64 y.b, .int .i64 y.c, .int .i64 y.d, .int .i64 y.e])).run Tryd.prog w = .ok (.bool false) w := by
  rw [neq_run, decide_eq_true h]; rfl
theorem neq_yes {x y : Ver} (h : x ≠ y) (w : World) :
    (binOp .neq 36 (.agg #[.int .i64 x.a, .int .i64 x.b, .int .i64 x.c, .int .i64 x.d, .int .i64 x.e]) (.agg #[.int .i64 y.a, .int .i64 y.b, .int .i64 y.c, .int .i64 y.d, .int .i64 y.e])).run Tryd.prog w = .ok (.bool true) w := by
  rw [neq_run, decide_eq_false h]; rfl
end Go.Proofs.YtleeglgjaifejaaDoor.eqs
