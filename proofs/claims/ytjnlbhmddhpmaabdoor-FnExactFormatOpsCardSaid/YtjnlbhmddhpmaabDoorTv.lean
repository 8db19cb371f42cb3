/- When a transaction is valid; the program's and the model's IsValidTransaction, and what each answers; nothing that was there is written. -/
import Derived.Test.YtjnlbhmddhpmaabDoorTx
import Derived.Test.YtjnlbhmddhpmaabDoorSeq
import Derived.Test.YtjnlbhmddhpmaabDoorCm
import Derived.WalkKit
import Derived.ProofKit
import Derived.Below
import Derived.Lib.Hide
import Derived.LoopTactic
import Derived.Deep.QuietTactic
import Derived.BigQuiet
import Derived.StillTailTactics
import Derived.Outline
import Derived.IntWalk
import Derived.Deep.RegionHeld3
namespace Go.Proofs.YtjnlbhmddhpmaabDoor.tv
open Go.ChangeShapes Go.WideShapes Go.ChangeAt Go.RowKit
open Go.Proofs.YtjnlbhmddhpmaabDoor.el2 Go.Proofs.YtjnlbhmddhpmaabDoor.tx Go.Proofs.YtjnlbhmddhpmaabDoor.seq
open Go.Proofs.YtjnlbhmddhpmaabDoor.vers (In in_yes in_no in_of in_off in_range tx_id value_range ret_b new2 new3)
set_option linter.unusedVariables false
set_option linter.unusedSimpArgs false
set_option linter.constructorNameAsVariable false
/-- the commit stamp fits the state -/
def cmP (t c : Int) : Prop := (t = 2 ∧ 1 ≤ c ∧ c ≤ 999) ∨ ((t = 1 ∨ t = 3) ∧ c = 0)
instance (t c : Int) : Decidable (cmP t c) := by unfold cmP; infer_instance
def cmB (t c : Int) : Bool := decide (cmP t c)
theorem cm_yes {t c : Int} (h : cmP t c) : cmB t c = true := decide_eq_true h
theorem cm_no {t c : Int} (h : ¬ cmP t c) : cmB t c = false := decide_eq_false h
theorem cm_is {t c : Int} {x : Bool} (h : x = true ↔ cmP t c) : x = cmB t c := by
  by_cases hv : cmP t c
  · rw [h.2 hv, cm_yes hv]
  · rw [cm_no hv]; exact Bool.eq_false_iff.2 fun hx => hv (h.1 hx)
def hdB (x : Hd) : Bool := In 1 9 x.i && In 1 4 x.s && In 0 999 x.b && (In 0 999 x.l && In 1 1000 x.h) && cmB x.t x.c
def okR (m : E2) : Bool := In 0 5 m.a && In 0 999 m.b
def folR (a b : E2) : Bool := decide (a.a < b.a) || (decide (a.a = b.a) && decide (a.b < b.b))
def okW (m : E2) : Bool := In 0 5 m.a && In (-1) 99 m.b
def folW (a b : E2) : Bool := decide (a.a < b.a)
theorem cge_no {y x : E2} (h : folR y x = true) : decide (0 ≤ cm.cmpR y x) = false := by
  simp [folR] at h
  apply decide_eq_false
  rcases h with h | ⟨h, h2⟩
  · simp [cm.cmpR, cm.orI, cm.cmpI_lt h]
  · simp [cm.cmpR, cm.orI, cm.cmpI_eq h, cm.cmpI_lt h2]
theorem cge_yes {y x : E2} (h : folR y x = false) : decide (0 ≤ cm.cmpR y x) = true := by
  simp [folR] at h
  apply decide_eq_true
  rcases cm.cmpI_cases y.a x.a with ⟨e, _⟩ | ⟨e, q⟩ | ⟨_, q⟩
  · omega
  · rcases cm.cmpI_cases y.b x.b with ⟨e', _⟩ | ⟨_, q'⟩ | ⟨_, q'⟩
    · have := h.2 e; omega
    · simp [cm.cmpR, cm.orI, q, q']
    · simp [cm.cmpR, cm.orI, q, q']
  · simp [cm.cmpR, cm.orI, q]
noncomputable def rdB (l : List E2) : Bool := decide (l.length ≤ 60) && sqB okR folR l
noncomputable def wrB (l : List E2) : Bool := sqB okW folW l
noncomputable def txB (x : Hd) (R S : List E2) : Bool := hdB x && rdB R && wrB S
theorem bdrewN {B : Nat} {w w' : World} (h : Below B w w') (n : Nat) : Below B w (w'.drewN n) := ⟨h.os, h.tape, h.output, h.size, h.block⟩
/-! a region whose order is drawn, its callees making memory: one walk, in every world that lies above -/
section
variable {P : Program} {ops : Array Oper} {C : World → Prop} {Q : Act → Prop} {a : Act} {o : Oper} {rest : List Oper}
theorem class_region {id : Nat} {Q : Exit → Act → World → Prop} {a : Act} {w : World} {l : List Oper} (B : Nat) (hm : P.follows .mixedOrders = true) (hB : Region.lexB .any l.toArray = true)
    (h : wpQuiet P l.toArray (fun w' => Below B w w') (fun a' => ∀ w', Below B w w' → Q .normal a' w') l a) : (Code.region id l.toArray true).wp P Q a w :=
  wp_region_quiet (C := fun w' => Below B w w') hm hB ((Below.refl B w).drew) (by simpa using h)
theorem class_skip (hw : Region.wanted o (yielded ops a.tmps) = false) (h : wpQuiet P ops C Q rest (a.put o.dst undef)) : wpQuiet P ops C Q (o :: rest) a := by
  simp only [wpQuiet, hw]
  exact h
theorem class_op (v : Value) (hw : Region.wanted o (yielded ops a.tmps) = true) (hv : ∀ w, C w → o.quietAt P a C w v) (h : wpQuiet P ops C Q rest (a.put o.dst v)) : wpQuiet P ops C Q (o :: rest) a := by
  simp only [wpQuiet, hw]
  exact ⟨v, hv, h⟩
theorem class_opk (v : Value) (hw : Region.wanted o (yielded ops a.tmps) = true) (hv : ∀ w, C w → o.quietAt P a C w v) (h : ∀ K : Act → Prop, (∀ a', wpQuiet P ops C Q rest a' → K a') → K (a.put o.dst v)) : wpQuiet P ops C Q (o :: rest) a :=
  class_op v hw hv (h _ fun _ h => h)
theorem class_call {f : FuncId} {args : Array Value} {w W : World} {v : Value} (hW : Below w.heap.size w W) (h : Calls P f args W fun e w' => e = .returned v ∧ Below W.heap.size W w') :
    Calls P f args W fun e w'' => e = .returned v ∧ Below w.heap.size w w'' := h.mono fun _ _ ⟨he, hb⟩ => ⟨he, hW.trans (hb.mono hW.size)⟩
theorem class_call0 {f : FuncId} {args : Array Value} {w W : World} {v : Value} (hW : Below w.heap.size w W) (h : Calls P f args W fun e w' => e = .returned v ∧ W = w') :
    Calls P f args W fun e w'' => e = .returned v ∧ Below w.heap.size w w'' := h.mono fun _ _ ⟨he, hb⟩ => ⟨he, hb ▸ hW⟩
theorem class_end (h : Q a) : wpQuiet P ops C Q [] a := h
end
/-! small tests -/
theorem is_scheme (x : Int) (w : World) :
    Calls Tryd.prog 30 #[.int .i64 x] w fun e w' => e = .returned (.bool (In 1 4 x)) ∧ w = w' := by
  go_enter Tryd.func30, Tryd.ntmps30
  by_cases h : 1 ≤ x
  · have d : decide (1 ≤ x) = true := decide_eq_true h
    go_wp2
    go_ret
    simp [In, d]
  · have d : decide (1 ≤ x) = false := decide_eq_false h
    go_wp2
    go_ret
    simp [In, d]
theorem is_key (x : Int) (w : World) :
    Calls Tryd.prog 31 #[.int .i64 x] w fun e w' => e = .returned (.bool (In 0 5 x)) ∧ w = w' := by
  go_enter Tryd.func31, Tryd.ntmps31
  by_cases h : 0 ≤ x
  · have d : decide (0 ≤ x) = true := decide_eq_true h
    by_cases h2 : x < 6
    · have d2 : decide (x ≤ 5) = true := decide_eq_true (by omega)
      go_wp2
      go_ret
      simp [In, d, d2, h2]
    · have d2 : decide (x ≤ 5) = false := decide_eq_false (by omega)
      go_wp2
      go_ret
      simp [In, d, d2, h2]
  · have d : decide (0 ≤ x) = false := decide_eq_false h
    go_wp2
    go_ret
    simp [In, d]
theorem class_skipk {P : Program} {ops : Array Oper} {C : World → Prop} {Q : Act → Prop} {a : Act} {o : Oper} {rest : List Oper} (hw : Region.wanted o (yielded ops a.tmps) = false) (h : ∀ K : Act → Prop, (∀ a', wpQuiet P ops C Q rest a' → K a') → K (a.put o.dst undef)) : wpQuiet P ops C Q (o :: rest) a :=
  class_skip hw (h _ fun _ h => h)
theorem rd_long {l : List E2} (h : 60 < l.length) : rdB l = false := by
  unfold rdB
  rw [decide_eq_false (by omega), Bool.false_and]
theorem rd_off {l : List E2} (h : sqB okR folR l = false) : rdB l = false := by
  unfold rdB
  rw [h, Bool.and_false]
theorem rd_all {l : List E2} (h : l.length ≤ 60) (hs : sqB okR folR l = true) : rdB l = true := by
  unfold rdB
  rw [hs, decide_eq_true h]
  rfl
theorem okR_a {x : E2} (h : In 0 5 x.a = false) : okR x = false := by simp [okR, h]
theorem okR_b {x : E2} (h : In 0 999 x.b = false) : okR x = false := by simp [okR, h]
theorem okR_yes {x : E2} (h : In 0 5 x.a = true) (h2 : In 0 999 x.b = true) : okR x = true := by simp [okR, h, h2]
theorem okW_a {x : E2} (h : In 0 5 x.a = false) : okW x = false := by simp [okW, h]
theorem okW_b {x : E2} (h : In (-1) 99 x.b = false) : okW x = false := by simp [okW, h]
theorem okW_yes {x : E2} (h : In 0 5 x.a = true) (h2 : In (-1) 99 x.b = true) : okW x = true := by simp [okW, h, h2]
theorem folW_yes {x y : E2} (h : x.a < y.a) : folW x y = true := decide_eq_true h
theorem folW_no {x y : E2} (h : ¬ x.a < y.a) : folW x y = false := decide_eq_false h
theorem txB_h {x : Hd} {R S : List E2} (h : hdB x = false) : txB x R S = false := by simp [txB, h]
theorem txB_r {x : Hd} {R S : List E2} (h : rdB R = false) : txB x R S = false := by simp [txB, h]
theorem txB_w {x : Hd} {R S : List E2} (h : hdB x = true) (h2 : rdB R = true) : wrB S = txB x R S := by simp [txB, h, h2]
end Go.Proofs.YtjnlbhmddhpmaabDoor.tv
