/- FindWrite, HasRead, IsReadOnly, SchemeName and NewTransaction of the program and of the model: what each answers; nothing that was there is written. -/
import Derived.Test.YtjnlbhmddhpmaaaGreatTv
import Derived.Test.YtjnlbhmddhpmaaaGreatTvs
import Derived.WalkKit
import Derived.ProofKit
import Derived.Below
import Derived.Lib.Hide
import Derived.LoopTactic
import Derived.Deep.QuietTactic
import Derived.BigQuiet
import Derived.StillTailTactics
import Derived.Outline
import Derived.IntWalk
import Derived.Deep.RegionHeld3
import Derived.Laws.StructEq
import Derived.Laws.Entries
namespace Go.Proofs.YtjnlbhmddhpmaaaGreat.tf
open Go.ChangeShapes Go.WideShapes Go.ChangeAt Go.RowKit
open Go.Proofs.YtjnlbhmddhpmaaaGreat.el2 Go.Proofs.YtjnlbhmddhpmaaaGreat.tx Go.Proofs.YtjnlbhmddhpmaaaGreat.seq Go.Proofs.YtjnlbhmddhpmaaaGreat.tv
open Go.Proofs.YtjnlbhmddhpmaaaGreat.vers (In in_yes in_no in_of in_off in_range ret_b new2 new3)
set_option linter.unusedVariables false
set_option linter.unusedSimpArgs false
set_option linter.constructorNameAsVariable false
/-! the first write of a key -/
def fndW (c : Int) : List E2 → Nat → Int
  | [], _ => -1
  | x :: r, k => if x.a = c then k else fndW c r (k + 1)
theorem drop_cons {l : List E2} {k : Nat} {x : E2} (h : l[k]? = some x) : l.drop k = x :: l.drop (k + 1) := by
  have hl := lt_of_some h
  rw [List.drop_eq_getElem_cons hl]
  rw [List.getElem?_eq_getElem hl] at h
  injection h with h
  rw [h]
theorem fnd_hit {l : List E2} {c : Int} {k : Nat} {x : E2} (h : fndW c l 0 = fndW c (l.drop k) k) (hx : l[k]? = some x) (hc : x.a = c) : (k : Int) = fndW c l 0 := by
  rw [h, drop_cons hx]
  simp [fndW, hc]
theorem fnd_step {l : List E2} {c : Int} {k : Nat} {x : E2} (h : fndW c l 0 = fndW c (l.drop k) k) (hx : l[k]? = some x) (hc : x.a ≠ c) : fndW c l 0 = fndW c (l.drop (k + 1)) (k + 1) := by
  rw [h, drop_cons hx]
  simp [fndW, hc]
theorem fnd_none {l : List E2} {c : Int} {k : Nat} (h : fndW c l 0 = fndW c (l.drop k) k) (hk : l.length ≤ k) : (-1 : Int) = fndW c l 0 := by
  rw [h, List.drop_eq_nil_of_le hk]
  rfl
/-! a mark among the reads -/
theorem guard_rm : Tryz.prog.eqGuardType Tryz.prog.depth 83 = false := by kernel_rfl
theorem held_rm : Tryz.prog.stoodInHeld 83 = false := by kernel_rfl
theorem fields_rm : Tryz.prog.underlying 83 = some (.struct (Tryz.prog.fieldsOf 83)) := by kernel_rfl
theorem eql_rm (x y : E2) (w : World) : (binOp .eql 83 (.agg #[.int .i64 x.a, .int .i64 x.b]) (.agg #[.int .i64 y.a, .int .i64 y.b])).run Tryz.prog w = .ok (.bool (decide (x = y))) w := by
  rw [run_eql_struct, run_equalIn_struct w 9999 83 _ _ fields_rm held_rm]
  have hu := Tryz.underlying83
  have hi := Tryz.underlying3
  simp only [Program.fieldsOf, hu]
  simp [Op.eqFields, go_sem, hi]
  by_cases h : x = y
  · subst h
    simp
  · have hd : x.a = y.a → x.b = y.b → False := fun h1 h2 => h (by cases x; cases y; simp_all)
    rw [decide_eq_false h]
    by_cases h1 : x.a = y.a
    · rw [if_pos h1]
      by_cases h2 : x.b = y.b
      · exact (hd h1 h2).elim
      · rw [if_neg h2]
    · rw [if_neg h1]
theorem eql_yes {x y : E2} (h : x = y) (w : World) : (binOp .eql 83 (.agg #[.int .i64 x.a, .int .i64 x.b]) (.agg #[.int .i64 y.a, .int .i64 y.b])).run Tryz.prog w = .ok (.bool true) w := by rw [eql_rm, decide_eq_true h]
theorem eql_no {x y : E2} (h : x ≠ y) (w : World) : (binOp .eql 83 (.agg #[.int .i64 x.a, .int .i64 x.b]) (.agg #[.int .i64 y.a, .int .i64 y.b])).run Tryz.prog w = .ok (.bool false) w := by rw [eql_rm, decide_eq_false h]
theorem ro_eq (n : Nat) : (((n : Nat) : Int) == 0) = (true && decide (n = 0)) := by rw [Bool.true_and, Bool.eq_iff_iff]; simp
def hasB (m : E2) (l : List E2) : Bool := decide (m ∈ l)
theorem has_hit {m x : E2} {l : List E2} {k : Nat} (hx : l[k]? = some x) (h : x = m) : hasB m l = true := decide_eq_true (by rw [← h]; exact List.mem_of_getElem? hx)
theorem has_step {m x : E2} {l : List E2} {k : Nat} (h : ∀ j y, j < k → l[j]? = some y → y ≠ m) (hx : l[k]? = some x) (hm : x ≠ m) : ∀ j y, j < k + 1 → l[j]? = some y → y ≠ m := by
  intro j y hj hy
  by_cases e : j = k
  · subst e; rw [hx] at hy; cases hy; exact hm
  · exact h j y (by omega) hy
theorem has_none {m : E2} {l : List E2} {n : Nat} (hn : l.length = n) (h : ∀ j y, j < n → l[j]? = some y → y ≠ m) : hasB m l = false := decide_eq_false (by
  intro hm
  obtain ⟨j, hj, e⟩ := List.getElem_of_mem hm
  exact h j m (by omega) (by rw [List.getElem?_eq_getElem hj, e]) rfl)
theorem Off1 {B : Nat} {w w' : World} (h : Below B w w') (n : Nat) : Below B w (w'.drewN n) := ⟨h.os, h.tape, h.output, h.size, h.block⟩
theorem TB.drewN {w : World} {b : Nat} {x : Hd} {u v : Value} (h : TB w b x u v) (n : Nat) : TB (w.drewN n) b x u v := h
theorem At.drewN {w : World} {b q : Nat} {x : E2} (h : At w b q x) (n : Nat) : At (w.drewN n) b q x := h
end Go.Proofs.YtjnlbhmddhpmaaaGreat.tf
