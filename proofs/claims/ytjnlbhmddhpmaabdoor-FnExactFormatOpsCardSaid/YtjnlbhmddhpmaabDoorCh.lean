/- When a list of versions is a chain; the program's and the model's IsValidChain, and what each answers; nothing that was there is written. -/
import Derived.Test.YtjnlbhmddhpmaabDoorSl
import Derived.WalkKit
import Derived.ProofKit
import Derived.Below
import Derived.Lib.Hide
import Derived.LoopTactic
import Derived.Deep.QuietTactic
import Derived.BigQuiet
import Derived.StillTailTactics
import Derived.Outline
import Derived.IntWalk
import Derived.Deep.RegionHeld3
namespace Go.Proofs.YtjnlbhmddhpmaabDoor.ch
open Go.ChangeShapes Go.WideShapes Go.ChangeAt Go.RowKit
open Go.Proofs.YtjnlbhmddhpmaabDoor.vers Go.Proofs.YtjnlbhmddhpmaabDoor.sl
set_option linter.unusedVariables false
set_option linter.unusedSimpArgs false
def okV (x : Ver) : Bool := vB x.a x.b x.c x.d x.e
def fol (x y : Ver) : Bool := fB x.c x.e y.c
def ChP (l : List Ver) : Prop :=
  (∀ (k : Nat) (x : Ver), l[k]? = some x → okV x = true) ∧ (∀ (k : Nat) (x y : Ver), l[k]? = some x → l[k + 1]? = some y → fol x y = true) ∧ ∃ x : Ver, l[l.length - 1]? = some x ∧ x.e = 1000
noncomputable def chB (l : List Ver) : Bool := @decide (ChP l) (Classical.propDecidable _)
theorem ch_yes {l : List Ver} (h : ChP l) : chB l = true := by unfold chB; exact @decide_eq_true _ (Classical.propDecidable _) h
theorem ch_no {l : List Ver} (h : ¬ ChP l) : chB l = false := by unfold chB; exact @decide_eq_false _ (Classical.propDecidable _) h
theorem ch_of {l : List Ver} (h : chB l = true) : ChP l := by unfold chB at h; exact @of_decide_eq_true _ (Classical.propDecidable _) h
theorem bdrewN {B : Nat} {w w' : World} (h : Below B w w') (n : Nat) : Below B w (w'.drewN n) := ⟨h.os, h.tape, h.output, h.size, h.block⟩
theorem ret_bool {a b : Bool} (h : a = b) : Ending.returned (.bool a) = .returned (.bool b) := by rw [h]
/-- the first k are valid, and each of them comes right before the next -/
def Pre (l : List Ver) (k : Nat) : Prop := (∀ (j : Nat) (x : Ver), j < k → l[j]? = some x → okV x = true) ∧ (∀ (j : Nat) (x y : Ver), j < k → l[j]? = some x → l[j + 1]? = some y → fol x y = true)
/-- the first k are valid and in order -/
def Pri (l : List Ver) (k : Nat) : Prop := (∀ (j : Nat) (x : Ver), j < k → l[j]? = some x → okV x = true) ∧ (∀ (j : Nat) (x y : Ver), j + 1 < k → l[j]? = some x → l[j + 1]? = some y → fol x y = true)
theorem pre_zero (l : List Ver) : Pre l 0 := ⟨fun j x h => absurd h (by omega), fun j x y h => absurd h (by omega)⟩
theorem pri_zero (l : List Ver) : Pri l 0 := ⟨fun j x h => absurd h (by omega), fun j x y h => absurd h (by omega)⟩
theorem pre_step {l : List Ver} {k : Nat} {x : Ver} (h : Pre l k) (hx : l[k]? = some x) (ho : okV x = true) (hf : ∀ y, l[k + 1]? = some y → fol x y = true) : Pre l (k + 1) := by
  refine ⟨fun j z hj hz => ?_, fun j z y hj hz hy => ?_⟩
  · by_cases e : j = k
    · subst e; rw [hx] at hz; cases hz; exact ho
    · exact h.1 j z (by omega) hz
  · by_cases e : j = k
    · subst e; rw [hx] at hz; cases hz; exact hf y hy
    · exact h.2 j z y (by omega) hz hy
theorem pri_step {l : List Ver} {k : Nat} {x : Ver} (h : Pri l k) (hx : l[k]? = some x) (ho : okV x = true) (hf : 0 < k → ∀ y, l[k - 1]? = some y → fol y x = true) : Pri l (k + 1) := by
  refine ⟨fun j z hj hz => ?_, fun j z y hj hz hy => ?_⟩
  · by_cases e : j = k
    · subst e; rw [hx] at hz; cases hz; exact ho
    · exact h.1 j z (by omega) hz
  · by_cases e : j + 1 = k
    · subst e; rw [hx] at hy; cases hy; exact hf (by omega) z (by simpa using hz)
    · exact h.2 j z y (by omega) hz hy
theorem lt_of_some {l : List Ver} {k : Nat} {x : Ver} (h : l[k]? = some x) : k < l.length := by
  rcases Nat.lt_or_ge k l.length with h' | h'
  · exact h'
  · rw [List.getElem?_eq_none h'] at h; cases h
theorem ch_pre {l : List Ver} {n : Nat} {x : Ver} (hn : l.length = n) (h : Pre l n) (hx : l[n - 1]? = some x) : (x.e == 1000) = chB l := by
  subst hn
  by_cases e : x.e = 1000
  · rw [ch_yes ⟨fun k z hz => h.1 k z (lt_of_some hz) hz, fun k z y hz hy => h.2 k z y (lt_of_some hz) hz hy, x, hx, e⟩]
    simpa using e
  · rw [ch_no (by rintro ⟨_, _, z, hz, he⟩; rw [hx] at hz; cases hz; exact e he)]
    simpa using e
theorem ch_pri {l : List Ver} {n : Nat} {x : Ver} (hn : l.length = n) (h : Pri l n) (hx : l[n - 1]? = some x) : (x.e == 1000) = chB l :=
  ch_pre hn ⟨h.1, fun j z y hj hz hy => h.2 j z y (by have := lt_of_some hy; omega) hz hy⟩ hx
theorem ch_none {l : List Ver} (hn : l.length = 0) : chB l = false := ch_no (by
  rintro ⟨_, _, z, hz, _⟩
  have := lt_of_some hz
  omega)
theorem ch_bad {l : List Ver} {k : Nat} {x : Ver} (hx : l[k]? = some x) (ho : okV x = false) : chB l = false := ch_no (by
  rintro ⟨h, _⟩
  have := h k x hx
  rw [ho] at this; cases this)
theorem ch_off {l : List Ver} {k : Nat} {x y : Ver} (hx : l[k]? = some x) (hy : l[k + 1]? = some y) (ho : fol x y = false) : chB l = false := ch_no (by
  rintro ⟨_, h, _⟩
  have := h k x y hx hy
  rw [ho] at this; cases this)

/-! a region whose order is drawn, its callees making memory: one walk, in every world that lies above -/
section
variable {P : Program} {ops : Array Oper} {C : World → Prop} {Q : Act → Prop} {a : Act} {o : Oper} {rest : List Oper}
theorem class_region {id : Nat} {Q : Exit → Act → World → Prop} {a : Act} {w : World} {l : List Oper} (B : Nat) (hm : P.follows .mixedOrders = true) (hB : Region.lexB .any l.toArray = true)
    (h : wpQuiet P l.toArray (fun w' => Below B w w') (fun a' => ∀ w', Below B w w' → Q .normal a' w') l a) : (Code.region id l.toArray true).wp P Q a w :=
  wp_region_quiet (C := fun w' => Below B w w') hm hB ((Below.refl B w).drew) (by simpa using h)
theorem class_skip (hw : Region.wanted o (yielded ops a.tmps) = false) (h : wpQuiet P ops C Q rest (a.put o.dst undef)) : wpQuiet P ops C Q (o :: rest) a := by
  simp only [wpQuiet, hw]
  exact h
theorem class_op (v : Value) (hw : Region.wanted o (yielded ops a.tmps) = true) (hv : ∀ w, C w → o.quietAt P a C w v) (h : wpQuiet P ops C Q rest (a.put o.dst v)) : wpQuiet P ops C Q (o :: rest) a := by
  simp only [wpQuiet, hw]
  exact ⟨v, hv, h⟩
theorem class_opk (v : Value) (hw : Region.wanted o (yielded ops a.tmps) = true) (hv : ∀ w, C w → o.quietAt P a C w v) (h : ∀ K : Act → Prop, (∀ a', wpQuiet P ops C Q rest a' → K a') → K (a.put o.dst v)) : wpQuiet P ops C Q (o :: rest) a :=
  class_op v hw hv (h _ fun _ h => h)
theorem class_call {f : FuncId} {args : Array Value} {w W : World} {v : Value} (hW : Below w.heap.size w W) (h : Calls P f args W fun e w' => e = .returned v ∧ Below W.heap.size W w') :
    Calls P f args W fun e w'' => e = .returned v ∧ Below w.heap.size w w'' := h.mono fun _ _ ⟨he, hb⟩ => ⟨he, hW.trans (hb.mono hW.size)⟩
theorem class_end (h : Q a) : wpQuiet P ops C Q [] a := h
end
theorem boxed (w : World) (x : Ver) (t : TypeId) : At (w.alloc (.cells #[.int .i64 x.a, .int .i64 x.b, .int .i64 x.c, .int .i64 x.d, .int .i64 x.e] t)) w.heap.size 0 x :=
  ⟨World.cell?_alloc_mark w _ t _ 0, World.cell?_alloc_mark w _ t _ 1, World.cell?_alloc_mark w _ t _ 2, World.cell?_alloc_mark w _ t _ 3, World.cell?_alloc_mark w _ t _ 4⟩
theorem atFlat {w : World} {b : Nat} {x : Ver} (h : At w b 0 x) : w.cell? ⟨b, 0, none⟩ = some (.int .i64 x.a) ∧ w.cell? ⟨b, 1, none⟩ = some (.int .i64 x.b) ∧ w.cell? ⟨b, 2, none⟩ = some (.int .i64 x.c) ∧ w.cell? ⟨b, 3, none⟩ = some (.int .i64 x.d) ∧ w.cell? ⟨b, 4, none⟩ = some (.int .i64 x.e) := h
end Go.Proofs.YtjnlbhmddhpmaabDoor.ch
