/- When a transaction is valid; the program's and the model's IsValidTransaction, and what each answers; nothing that was there is written. -/
import Derived.Test.YtjnlbhmddhpmaaaGreatTx
import Derived.Test.YtjnlbhmddhpmaaaGreatSeq
import Derived.Test.YtjnlbhmddhpmaaaGreatCm
import Derived.WalkKit
import Derived.ProofKit
import Derived.Below
import Derived.Lib.Hide
import Derived.LoopTactic
import Derived.Deep.QuietTactic
import Derived.BigQuiet
import Derived.StillTailTactics
import Derived.Outline
import Derived.IntWalk
import Derived.Deep.RegionHeld3
namespace Go.Proofs.YtjnlbhmddhpmaaaGreat.tv
open Go.ChangeShapes Go.WideShapes Go.ChangeAt Go.RowKit
open Go.Proofs.YtjnlbhmddhpmaaaGreat.el2 Go.Proofs.YtjnlbhmddhpmaaaGreat.tx Go.Proofs.YtjnlbhmddhpmaaaGreat.seq
open Go.Proofs.YtjnlbhmddhpmaaaGreat.vers (In in_yes in_no in_of in_off in_range stamp0 high_end tx_id is_stamp value_range ret_b new2 new3)
set_option linter.unusedVariables false
set_option linter.unusedSimpArgs false
set_option linter.constructorNameAsVariable false
/-- the commit stamp fits the state -/
def cmP (t c : Int) : Prop := (t = 2 ∧ 1 ≤ c ∧ c ≤ 999) ∨ ((t = 1 ∨ t = 3) ∧ c = 0)
instance (t c : Int) : Decidable (cmP t c) := by unfold cmP; infer_instance
def cmB (t c : Int) : Bool := decide (cmP t c)
theorem cm_yes {t c : Int} (h : cmP t c) : cmB t c = true := decide_eq_true h
theorem cm_no {t c : Int} (h : ¬ cmP t c) : cmB t c = false := decide_eq_false h
theorem cm_is {t c : Int} {x : Bool} (h : x = true ↔ cmP t c) : x = cmB t c := by
  by_cases hv : cmP t c
  · rw [h.2 hv, cm_yes hv]
  · rw [cm_no hv]; exact Bool.eq_false_iff.2 fun hx => hv (h.1 hx)
def hdB (x : Hd) : Bool := In 1 9 x.i && In 1 4 x.s && In 0 999 x.b && (In 0 999 x.l && In 1 1000 x.h) && cmB x.t x.c
def okR (m : E2) : Bool := In 0 5 m.a && In 0 999 m.b
def folR (a b : E2) : Bool := decide (a.a < b.a) || (decide (a.a = b.a) && decide (a.b < b.b))
def okW (m : E2) : Bool := In 0 5 m.a && In (-1) 99 m.b
def folW (a b : E2) : Bool := decide (a.a < b.a)
theorem cge_no {y x : E2} (h : folR y x = true) : decide (0 ≤ cm.cmpR y x) = false := by
  simp [folR] at h
  apply decide_eq_false
  rcases h with h | ⟨h, h2⟩
  · simp [cm.cmpR, cm.orI, cm.cmpI_lt h]
  · simp [cm.cmpR, cm.orI, cm.cmpI_eq h, cm.cmpI_lt h2]
theorem cge_yes {y x : E2} (h : folR y x = false) : decide (0 ≤ cm.cmpR y x) = true := by
  simp [folR] at h
  apply decide_eq_true
  rcases cm.cmpI_cases y.a x.a with ⟨e, _⟩ | ⟨e, q⟩ | ⟨_, q⟩
  · omega
  · rcases cm.cmpI_cases y.b x.b with ⟨e', _⟩ | ⟨_, q'⟩ | ⟨_, q'⟩
    · have := h.2 e; omega
    · simp [cm.cmpR, cm.orI, q, q']
    · simp [cm.cmpR, cm.orI, q, q']
  · simp [cm.cmpR, cm.orI, q]
noncomputable def rdB (l : List E2) : Bool := decide (l.length ≤ 60) && sqB okR folR l
noncomputable def wrB (l : List E2) : Bool := sqB okW folW l
noncomputable def txB (x : Hd) (R S : List E2) : Bool := hdB x && rdB R && wrB S
theorem bdrewN {B : Nat} {w w' : World} (h : Below B w w') (n : Nat) : Below B w (w'.drewN n) := ⟨h.os, h.tape, h.output, h.size, h.block⟩
/-! a region whose order is drawn, its callees making memory: one walk, in every world that lies above -/
section
variable {P : Program} {ops : Array Oper} {C : World → Prop} {Q : Act → Prop} {a : Act} {o : Oper} {rest : List Oper}
theorem class_region {id : Nat} {Q : Exit → Act → World → Prop} {a : Act} {w : World} {l : List Oper} (B : Nat) (hm : P.follows .mixedOrders = true) (hB : Region.lexB .any l.toArray = true)
    (h : wpQuiet P l.toArray (fun w' => Below B w w') (fun a' => ∀ w', Below B w w' → Q .normal a' w') l a) : (Code.region id l.toArray true).wp P Q a w :=
  wp_region_quiet (C := fun w' => Below B w w') hm hB ((Below.refl B w).drew) (by simpa using h)
theorem class_skip (hw : Region.wanted o (yielded ops a.tmps) = false) (h : wpQuiet P ops C Q rest (a.put o.dst undef)) : wpQuiet P ops C Q (o :: rest) a := by
  simp only [wpQuiet, hw]
  exact h
theorem class_op (v : Value) (hw : Region.wanted o (yielded ops a.tmps) = true) (hv : ∀ w, C w → o.quietAt P a C w v) (h : wpQuiet P ops C Q rest (a.put o.dst v)) : wpQuiet P ops C Q (o :: rest) a := by
  simp only [wpQuiet, hw]
  exact ⟨v, hv, h⟩
theorem class_opk (v : Value) (hw : Region.wanted o (yielded ops a.tmps) = true) (hv : ∀ w, C w → o.quietAt P a C w v) (h : ∀ K : Act → Prop, (∀ a', wpQuiet P ops C Q rest a' → K a') → K (a.put o.dst v)) : wpQuiet P ops C Q (o :: rest) a :=
  class_op v hw hv (h _ fun _ h => h)
theorem class_call {f : FuncId} {args : Array Value} {w W : World} {v : Value} (hW : Below w.heap.size w W) (h : Calls P f args W fun e w' => e = .returned v ∧ Below W.heap.size W w') :
    Calls P f args W fun e w'' => e = .returned v ∧ Below w.heap.size w w'' := h.mono fun _ _ ⟨he, hb⟩ => ⟨he, hW.trans (hb.mono hW.size)⟩
theorem class_call0 {f : FuncId} {args : Array Value} {w W : World} {v : Value} (hW : Below w.heap.size w W) (h : Calls P f args W fun e w' => e = .returned v ∧ W = w') :
    Calls P f args W fun e w'' => e = .returned v ∧ Below w.heap.size w w'' := h.mono fun _ _ ⟨he, hb⟩ => ⟨he, hb ▸ hW⟩
theorem class_end (h : Q a) : wpQuiet P ops C Q [] a := h
end
/-! small tests -/
theorem is_scheme (x : Int) (w : World) :
    Calls Tryz.prog 94 #[.int .i64 x] w fun e w' => e = .returned (.bool (In 1 4 x)) ∧ w = w' := by
  go_enter Tryz.func94, Tryz.ntmps94
  by_cases h : 1 ≤ x
  · have d : decide (1 ≤ x) = true := decide_eq_true h
    go_wp2
    go_ret
    simp [In, d]
  · have d : decide (1 ≤ x) = false := decide_eq_false h
    go_wp2
    go_ret
    simp [In, d]
theorem is_key (x : Int) (w : World) :
    Calls Tryz.prog 50 #[.int .i64 x] w fun e w' => e = .returned (.bool (In 0 5 x)) ∧ w = w' := by
  go_enter Tryz.func50, Tryz.ntmps50
  by_cases h : 0 ≤ x
  · have d : decide (0 ≤ x) = true := decide_eq_true h
    by_cases h2 : x < 6
    · have d2 : decide (x ≤ 5) = true := decide_eq_true (by omega)
      go_wp2
      go_ret
      simp [In, d, d2, h2]
    · have d2 : decide (x ≤ 5) = false := decide_eq_false (by omega)
      go_wp2
      go_ret
      simp [In, d, d2, h2]
  · have d : decide (0 ≤ x) = false := decide_eq_false h
    go_wp2
    go_ret
    simp [In, d]
set_option maxHeartbeats 800000 in
theorem before_s (x y : E2) (w : World) :
    Calls Tryz.prog 38 #[.agg #[.int .i64 x.a, .int .i64 x.b], .agg #[.int .i64 y.a, .int .i64 y.b]] w fun e w' => e = .returned (.bool (folR x y)) ∧ Below w.heap.size w w' := by
  by_cases h0 : x.a < y.a
  · have t0 : decide (x.a < y.a) = true := decide_eq_true h0
    go_enter Tryz.func38, Tryz.ntmps38
    go_wp2
    go_ret
    exact ⟨ret_b (by simp [folR, t0]), new2 _ _ _⟩
  have t0 : decide (x.a < y.a) = false := decide_eq_false h0
  by_cases h1 : x.a = y.a
  · have t1 : (x.a == y.a) = true := beq_iff_eq.2 h1
    go_enter Tryz.func38, Tryz.ntmps38
    go_wp2
    go_ret
    exact ⟨ret_b (by simp [folR, t0, h1]), new2 _ _ _⟩
  · have t1 : (x.a == y.a) = false := by simpa using h1
    go_enter Tryz.func38, Tryz.ntmps38
    go_wp2
    go_ret
    exact ⟨ret_b (by simp [folR, t0, h1]), new2 _ _ _⟩
set_option maxHeartbeats 800000 in
theorem header_of (x : Hd) (A : Option Addr) (n c : Nat) (A2 : Option Addr) (n2 c2 : Nat) (w : World) :
    Calls Tryz.prog 83 #[.agg #[.int .i64 x.i, .int .i64 x.s, .int .i64 x.t, .int .i64 x.b, .int .i64 x.l, .int .i64 x.h, .int .i64 x.c, .slice A n c, .slice A2 n2 c2]] w fun e w' => e = .returned (.agg #[.int .i64 x.l, .int .i64 x.h, .int .i64 x.i, .int .i64 x.s, .int .i64 x.t, .int .i64 x.b, .int .i64 x.c]) ∧ Below w.heap.size w w' := by
  go_enter Tryz.func83, Tryz.ntmps83
  go_wp2
  exact bodyPost_ret (v := .agg #[.int .i64 x.l, .int .i64 x.h, .int .i64 x.i, .int .i64 x.s, .int .i64 x.t, .int .i64 x.b, .int .i64 x.c]) (by simp [results, Tryz.results83, go_sem]) rfl ⟨rfl, new2 _ _ _⟩
theorem in_window (l h : Int) (w : World) :
    Calls Tryz.prog 95 #[.agg #[.int .i64 l, .int .i64 h]] w fun e w' => e = .returned (.bool (In 0 999 l && In 1 1000 h)) ∧ Below w.heap.size w w' := by
  rcases h0 : In 0 999 l with _ | _
  · go_enter Tryz.func95, Tryz.ntmps95
    go_wp2_with fail
    refine (stamp0 _ _).mono ?_
    rintro e W ⟨rfl, rfl⟩
    rw [h0]
    go_wp2_with fail
    go_ret
    exact ⟨ret_b (by simp), new1 _ _⟩
  · go_enter Tryz.func95, Tryz.ntmps95
    go_wp2_with fail
    refine (stamp0 _ _).mono ?_
    rintro e W ⟨rfl, rfl⟩
    rw [h0]
    go_wp2_with fail
    refine (high_end _ _).mono ?_
    rintro e W ⟨rfl, rfl⟩
    go_wp2_with fail
    go_ret
    exact ⟨ret_b (by simp), new1 _ _⟩
theorem fits (x : Hd) (w : World) :
    Calls Tryz.prog 96 #[.agg #[.int .i64 x.l, .int .i64 x.h, .int .i64 x.i, .int .i64 x.s, .int .i64 x.t, .int .i64 x.b, .int .i64 x.c]] w fun e w' => e = .returned (.bool (cmB x.t x.c)) ∧ Below w.heap.size w w' := by
  by_cases h2 : x.t = 2
  · have t2 : (x.t == 2) = true := beq_iff_eq.2 h2
    have he : In 1 999 x.c = cmB x.t x.c := cm_is ⟨fun h => by have := in_yes h; unfold cmP; omega, fun h => in_of (by unfold cmP at h; omega)⟩
    have HE := Lib.hid he
    clear he h2
    go_enter Tryz.func96, Tryz.ntmps96
    go_wp2_with fail
    refine (is_stamp _ _).mono ?_
    rintro e W ⟨rfl, rfl⟩
    go_wp2_with fail
    go_ret
    exact ⟨ret_b HE.out, new1 _ _⟩
  have t2 : (x.t == 2) = false := by simpa using h2
  by_cases h1 : x.t = 1
  · have t1 : (x.t == 1) = true := beq_iff_eq.2 h1
    have he : (x.c == 0) = cmB x.t x.c := cm_is (by rw [beq_iff_eq]; unfold cmP; omega)
    have HE := Lib.hid he
    clear he h2 h1
    go_enter Tryz.func96, Tryz.ntmps96
    go_wp2_with fail
    go_ret
    exact ⟨ret_b HE.out, new1 _ _⟩
  have t1 : (x.t == 1) = false := by simpa using h1
  by_cases h3 : x.t = 3
  · have t3 : (x.t == 3) = true := beq_iff_eq.2 h3
    have he : (x.c == 0) = cmB x.t x.c := cm_is (by rw [beq_iff_eq]; unfold cmP; omega)
    have HE := Lib.hid he
    clear he h2 h1 h3
    go_enter Tryz.func96, Tryz.ntmps96
    go_wp2_with fail
    go_ret
    exact ⟨ret_b HE.out, new1 _ _⟩
  have t3 : (x.t == 3) = false := by simpa using h3
  have he : cmB x.t x.c = false := cm_no (by unfold cmP; omega)
  have HE := Lib.hid he
  clear he h2 h1 h3
  go_enter Tryz.func96, Tryz.ntmps96
  go_wp2_with fail
  go_ret
  exact ⟨ret_b HE.out.symm, new1 _ _⟩
set_option maxHeartbeats 1600000 in
theorem header_valid (x : Hd) (w : World) :
    Calls Tryz.prog 84 #[.agg #[.int .i64 x.l, .int .i64 x.h, .int .i64 x.i, .int .i64 x.s, .int .i64 x.t, .int .i64 x.b, .int .i64 x.c]] w fun e w' => e = .returned (.bool (hdB x)) ∧ Below w.heap.size w w' := by
  rcases h0 : In 1 9 x.i with _ | _
  · go_enter Tryz.func84, Tryz.ntmps84
    go_wp2_with fail
    refine (tx_id _ _).mono ?_
    rintro e W ⟨rfl, rfl⟩
    rw [h0]
    go_wp2_with fail
    go_ret
    exact ⟨ret_b (by simp [hdB, h0]), new1 _ _⟩
  rcases h1 : In 1 4 x.s with _ | _
  · go_enter Tryz.func84, Tryz.ntmps84
    go_wp2_with fail
    refine (tx_id _ _).mono ?_
    rintro e W ⟨rfl, rfl⟩
    rw [h0]
    go_wp2_with fail
    refine (is_scheme _ _).mono ?_
    rintro e W ⟨rfl, rfl⟩
    rw [h1]
    go_wp2_with fail
    go_ret
    exact ⟨ret_b (by simp [hdB, h1]), new1 _ _⟩
  rcases h2 : In 0 999 x.b with _ | _
  · go_enter Tryz.func84, Tryz.ntmps84
    go_wp2_with fail
    refine (tx_id _ _).mono ?_
    rintro e W ⟨rfl, rfl⟩
    rw [h0]
    go_wp2_with fail
    refine (is_scheme _ _).mono ?_
    rintro e W ⟨rfl, rfl⟩
    rw [h1]
    go_wp2_with fail
    refine (stamp0 _ _).mono ?_
    rintro e W ⟨rfl, rfl⟩
    rw [h2]
    go_wp2_with fail
    go_ret
    exact ⟨ret_b (by simp [hdB, h2]), new1 _ _⟩
  rcases h3 : (In 0 999 x.l && In 1 1000 x.h) with _ | _
  · go_enter Tryz.func84, Tryz.ntmps84
    go_wp2_with fail
    have hb := new1 w (.cells #[.int .i64 x.l, .int .i64 x.h, .int .i64 x.i, .int .i64 x.s, .int .i64 x.t, .int .i64 x.b, .int .i64 x.c] 131)
    have hs : (w.alloc (.cells #[.int .i64 x.l, .int .i64 x.h, .int .i64 x.i, .int .i64 x.s, .int .i64 x.t, .int .i64 x.b, .int .i64 x.c] 131)).heap.size = w.heap.size + 1 := by simp
    have c0 : (w.alloc (.cells #[.int .i64 x.l, .int .i64 x.h, .int .i64 x.i, .int .i64 x.s, .int .i64 x.t, .int .i64 x.b, .int .i64 x.c] 131)).cell? ⟨w.heap.size, 0, none⟩ = some (.int .i64 x.l) := World.cell?_alloc_mark w _ _ _ 0
    have c1 : (w.alloc (.cells #[.int .i64 x.l, .int .i64 x.h, .int .i64 x.i, .int .i64 x.s, .int .i64 x.t, .int .i64 x.b, .int .i64 x.c] 131)).cell? ⟨w.heap.size, 1, none⟩ = some (.int .i64 x.h) := World.cell?_alloc_mark w _ _ _ 1
    have c2 : (w.alloc (.cells #[.int .i64 x.l, .int .i64 x.h, .int .i64 x.i, .int .i64 x.s, .int .i64 x.t, .int .i64 x.b, .int .i64 x.c] 131)).cell? ⟨w.heap.size, 2, none⟩ = some (.int .i64 x.i) := World.cell?_alloc_mark w _ _ _ 2
    have c3 : (w.alloc (.cells #[.int .i64 x.l, .int .i64 x.h, .int .i64 x.i, .int .i64 x.s, .int .i64 x.t, .int .i64 x.b, .int .i64 x.c] 131)).cell? ⟨w.heap.size, 3, none⟩ = some (.int .i64 x.s) := World.cell?_alloc_mark w _ _ _ 3
    have c4 : (w.alloc (.cells #[.int .i64 x.l, .int .i64 x.h, .int .i64 x.i, .int .i64 x.s, .int .i64 x.t, .int .i64 x.b, .int .i64 x.c] 131)).cell? ⟨w.heap.size, 4, none⟩ = some (.int .i64 x.t) := World.cell?_alloc_mark w _ _ _ 4
    have c5 : (w.alloc (.cells #[.int .i64 x.l, .int .i64 x.h, .int .i64 x.i, .int .i64 x.s, .int .i64 x.t, .int .i64 x.b, .int .i64 x.c] 131)).cell? ⟨w.heap.size, 5, none⟩ = some (.int .i64 x.b) := World.cell?_alloc_mark w _ _ _ 5
    have c6 : (w.alloc (.cells #[.int .i64 x.l, .int .i64 x.h, .int .i64 x.i, .int .i64 x.s, .int .i64 x.t, .int .i64 x.b, .int .i64 x.c] 131)).cell? ⟨w.heap.size, 6, none⟩ = some (.int .i64 x.c) := World.cell?_alloc_mark w _ _ _ 6
    generalize w.alloc _ = W0 at hb hs c0 c1 c2 c3 c4 c5 c6 ⊢
    refine (tx_id _ _).mono ?_
    rintro e W ⟨rfl, rfl⟩
    rw [h0]
    go_wp2_with fail
    refine (is_scheme _ _).mono ?_
    rintro e W ⟨rfl, rfl⟩
    rw [h1]
    go_wp2_with fail
    refine (stamp0 _ _).mono ?_
    rintro e W ⟨rfl, rfl⟩
    rw [h2]
    go_wp2_with fail
    refine (in_window _ _ _).mono ?_
    rintro e W1 ⟨rfl, hb1⟩
    have d0 := (hb1.cell (p := ⟨w.heap.size, 0, none⟩) (by simp; omega)).trans c0
    have d1 := (hb1.cell (p := ⟨w.heap.size, 1, none⟩) (by simp; omega)).trans c1
    have d2 := (hb1.cell (p := ⟨w.heap.size, 2, none⟩) (by simp; omega)).trans c2
    have d3 := (hb1.cell (p := ⟨w.heap.size, 3, none⟩) (by simp; omega)).trans c3
    have d4 := (hb1.cell (p := ⟨w.heap.size, 4, none⟩) (by simp; omega)).trans c4
    have d5 := (hb1.cell (p := ⟨w.heap.size, 5, none⟩) (by simp; omega)).trans c5
    have d6 := (hb1.cell (p := ⟨w.heap.size, 6, none⟩) (by simp; omega)).trans c6
    have HB1 := Lib.hid (hb.trans (hb1.mono (by omega)))
    clear hb hb1 c0 c1 c2 c3 c4 c5 c6
    rw [h3]
    go_wp2_with fail
    go_ret
    exact ⟨ret_b (by simp only [hdB, h3]; simp), HB1.out⟩
  · go_enter Tryz.func84, Tryz.ntmps84
    go_wp2_with fail
    have hb := new1 w (.cells #[.int .i64 x.l, .int .i64 x.h, .int .i64 x.i, .int .i64 x.s, .int .i64 x.t, .int .i64 x.b, .int .i64 x.c] 131)
    have hs : (w.alloc (.cells #[.int .i64 x.l, .int .i64 x.h, .int .i64 x.i, .int .i64 x.s, .int .i64 x.t, .int .i64 x.b, .int .i64 x.c] 131)).heap.size = w.heap.size + 1 := by simp
    have c0 : (w.alloc (.cells #[.int .i64 x.l, .int .i64 x.h, .int .i64 x.i, .int .i64 x.s, .int .i64 x.t, .int .i64 x.b, .int .i64 x.c] 131)).cell? ⟨w.heap.size, 0, none⟩ = some (.int .i64 x.l) := World.cell?_alloc_mark w _ _ _ 0
    have c1 : (w.alloc (.cells #[.int .i64 x.l, .int .i64 x.h, .int .i64 x.i, .int .i64 x.s, .int .i64 x.t, .int .i64 x.b, .int .i64 x.c] 131)).cell? ⟨w.heap.size, 1, none⟩ = some (.int .i64 x.h) := World.cell?_alloc_mark w _ _ _ 1
    have c2 : (w.alloc (.cells #[.int .i64 x.l, .int .i64 x.h, .int .i64 x.i, .int .i64 x.s, .int .i64 x.t, .int .i64 x.b, .int .i64 x.c] 131)).cell? ⟨w.heap.size, 2, none⟩ = some (.int .i64 x.i) := World.cell?_alloc_mark w _ _ _ 2
    have c3 : (w.alloc (.cells #[.int .i64 x.l, .int .i64 x.h, .int .i64 x.i, .int .i64 x.s, .int .i64 x.t, .int .i64 x.b, .int .i64 x.c] 131)).cell? ⟨w.heap.size, 3, none⟩ = some (.int .i64 x.s) := World.cell?_alloc_mark w _ _ _ 3
    have c4 : (w.alloc (.cells #[.int .i64 x.l, .int .i64 x.h, .int .i64 x.i, .int .i64 x.s, .int .i64 x.t, .int .i64 x.b, .int .i64 x.c] 131)).cell? ⟨w.heap.size, 4, none⟩ = some (.int .i64 x.t) := World.cell?_alloc_mark w _ _ _ 4
    have c5 : (w.alloc (.cells #[.int .i64 x.l, .int .i64 x.h, .int .i64 x.i, .int .i64 x.s, .int .i64 x.t, .int .i64 x.b, .int .i64 x.c] 131)).cell? ⟨w.heap.size, 5, none⟩ = some (.int .i64 x.b) := World.cell?_alloc_mark w _ _ _ 5
    have c6 : (w.alloc (.cells #[.int .i64 x.l, .int .i64 x.h, .int .i64 x.i, .int .i64 x.s, .int .i64 x.t, .int .i64 x.b, .int .i64 x.c] 131)).cell? ⟨w.heap.size, 6, none⟩ = some (.int .i64 x.c) := World.cell?_alloc_mark w _ _ _ 6
    generalize w.alloc _ = W0 at hb hs c0 c1 c2 c3 c4 c5 c6 ⊢
    refine (tx_id _ _).mono ?_
    rintro e W ⟨rfl, rfl⟩
    rw [h0]
    go_wp2_with fail
    refine (is_scheme _ _).mono ?_
    rintro e W ⟨rfl, rfl⟩
    rw [h1]
    go_wp2_with fail
    refine (stamp0 _ _).mono ?_
    rintro e W ⟨rfl, rfl⟩
    rw [h2]
    go_wp2_with fail
    refine (in_window _ _ _).mono ?_
    rintro e W1 ⟨rfl, hb1⟩
    have d0 := (hb1.cell (p := ⟨w.heap.size, 0, none⟩) (by simp; omega)).trans c0
    have d1 := (hb1.cell (p := ⟨w.heap.size, 1, none⟩) (by simp; omega)).trans c1
    have d2 := (hb1.cell (p := ⟨w.heap.size, 2, none⟩) (by simp; omega)).trans c2
    have d3 := (hb1.cell (p := ⟨w.heap.size, 3, none⟩) (by simp; omega)).trans c3
    have d4 := (hb1.cell (p := ⟨w.heap.size, 4, none⟩) (by simp; omega)).trans c4
    have d5 := (hb1.cell (p := ⟨w.heap.size, 5, none⟩) (by simp; omega)).trans c5
    have d6 := (hb1.cell (p := ⟨w.heap.size, 6, none⟩) (by simp; omega)).trans c6
    have HB1 := Lib.hid (hb.trans (hb1.mono (by omega)))
    clear hb hb1 c0 c1 c2 c3 c4 c5 c6
    rw [h3]
    go_wp2_with fail
    refine (fits x _).mono ?_
    rintro e W2 ⟨rfl, hb2⟩
    have HB2 := Lib.hid (HB1.out.trans (hb2.mono HB1.out.size))
    clear hb2
    go_wp2_with fail
    go_ret
    exact ⟨ret_b (by simp only [hdB, h0, h1, h2, h3]; simp), HB2.out⟩
theorem class_skipk {P : Program} {ops : Array Oper} {C : World → Prop} {Q : Act → Prop} {a : Act} {o : Oper} {rest : List Oper} (hw : Region.wanted o (yielded ops a.tmps) = false) (h : ∀ K : Act → Prop, (∀ a', wpQuiet P ops C Q rest a' → K a') → K (a.put o.dst undef)) : wpQuiet P ops C Q (o :: rest) a :=
  class_skip hw (h _ fun _ h => h)
theorem rd_long {l : List E2} (h : 60 < l.length) : rdB l = false := by
  unfold rdB
  rw [decide_eq_false (by omega), Bool.false_and]
theorem rd_off {l : List E2} (h : sqB okR folR l = false) : rdB l = false := by
  unfold rdB
  rw [h, Bool.and_false]
theorem rd_all {l : List E2} (h : l.length ≤ 60) (hs : sqB okR folR l = true) : rdB l = true := by
  unfold rdB
  rw [hs, decide_eq_true h]
  rfl
theorem okR_a {x : E2} (h : In 0 5 x.a = false) : okR x = false := by simp [okR, h]
theorem okR_b {x : E2} (h : In 0 999 x.b = false) : okR x = false := by simp [okR, h]
theorem okR_yes {x : E2} (h : In 0 5 x.a = true) (h2 : In 0 999 x.b = true) : okR x = true := by simp [okR, h, h2]
theorem okW_a {x : E2} (h : In 0 5 x.a = false) : okW x = false := by simp [okW, h]
theorem okW_b {x : E2} (h : In (-1) 99 x.b = false) : okW x = false := by simp [okW, h]
theorem okW_yes {x : E2} (h : In 0 5 x.a = true) (h2 : In (-1) 99 x.b = true) : okW x = true := by simp [okW, h, h2]
theorem folW_yes {x y : E2} (h : x.a < y.a) : folW x y = true := decide_eq_true h
theorem folW_no {x y : E2} (h : ¬ x.a < y.a) : folW x y = false := decide_eq_false h
set_option maxRecDepth 100000 in
set_option maxHeartbeats 3200000 in
theorem impl_reads {w : World} {B n c : Nat} {A : Option Addr} {l : List E2} (hn : n ≤ 140737488355328) (h1 : Vs w B A n l) (hB : B ≤ w.heap.size) :
    Calls Tryz.prog 85 #[.slice A n c] w fun e w' => e = .returned (.bool (rdB l)) ∧ Below w.heap.size w w' := by
  have H1 := Lib.hid h1
  have hln := h1.1
  clear h1
  by_cases hlong : (60 : Int) < (n : Int)
  · have t6 : decide ((60 : Int) < (n : Int)) = true := decide_eq_true hlong
    have HL := Lib.hid (rd_long (l := l) (by omega))
    go_enter Tryz.func85, Tryz.ntmps85
    go_wp2_with fail
    go_ret
    exact ⟨ret_b HL.out.symm, Below.refl _ _⟩
  have t6 : decide ((60 : Int) < (n : Int)) = false := decide_eq_false hlong
  go_enter Tryz.func85, Tryz.ntmps85
  go_wp2
  go_loopw [10] (fun i wr => ∃ k : Nat, k ≤ n ∧ i = .int .i64 k ∧ Pri okR folR l k ∧ Below w.heap.size w wr) (fun i _ => n - (intOf i).toNat)
  case atStart => exact ⟨0, by omega, rfl, pri_zero _ _ l, Below.refl _ _⟩
  case round =>
    obtain ⟨k, hk, rfl, hP, hb⟩ := hrel
    have HP := Lib.hid hP
    clear hP
    by_cases hlt : k < n
    · obtain ⟨b, o, x, rfl, hbB, hx, a0, a1⟩ := (H1.out.below (below_le hb hB)).at_ hlt
      have HB := Lib.hid hb
      have HX := Lib.hid hx
      clear hb hx
      rcases hk1 : In 0 5 x.a with _ | _
      · have HK1 := Lib.hid hk1
        go_wp2_with fail
        have q0 := new1 wr (.cells #[.int .i64 x.a, .int .i64 x.b] 83)
        have q1 := boxed wr x 83
        have q2 : wr.heap.size < (wr.alloc (.cells #[.int .i64 x.a, .int .i64 x.b] 83)).heap.size := by simp
        have hbs := HB.out.size
        obtain ⟨N, hN⟩ : ∃ N, N = wr.heap.size := ⟨_, rfl⟩
        simp only [← hN] at q0 q1 q2 hbs ⊢
        generalize wr.alloc (.cells #[.int .i64 x.a, .int .i64 x.b] 83) = wq at q0 q1 q2 ⊢
        have HQ : Hid (Below w.heap.size w wq) := Lib.hid (HB.out.trans (q0.mono hbs))
        have Q1 := Lib.hid q1
        clear a0 a1 hN q0 q1
        refine class_region wq.heap.size (by kernel_rfl) (by kernel_rfl) ?_
        with_reducible refine class_opk (.pointer (some ⟨N, 0, none⟩)) ?_ ?_ ?_
        · first | exact rfl | go_simp
        · intro W hW
          go_simp
        intro K hK
        go_simp
        with_reducible refine hK _ ?_
        clear hK K
        with_reducible refine class_opk (.int .i64 x.a) ?_ ?_ ?_
        · first | exact rfl | go_simp
        · intro W hW
          obtain ⟨g0, g1⟩ := atFlat (Q1.out.keep (B := wq.heap.size) q2 hW)
          go_simp
        intro K hK
        go_simp
        with_reducible refine hK _ ?_
        clear hK K
        with_reducible refine class_opk (.bool false) ?_ ?_ ?_
        · first | exact rfl | go_simp
        · intro W hW
          go_simp
          refine class_call0 hW ?_
          rw [← HK1.out]
          exact is_key _ _
        intro K hK
        go_simp
        with_reducible refine hK _ ?_
        clear hK K
        with_reducible refine class_opk (.bool true) ?_ ?_ ?_
        · first | exact rfl | go_simp
        · intro W hW
          go_simp
        intro K hK
        go_simp
        with_reducible refine hK _ ?_
        clear hK K
        with_reducible refine class_opk (.bool true) ?_ ?_ ?_
        · first | exact rfl | go_simp
        · intro W hW
          go_simp
        intro K hK
        go_simp
        with_reducible refine hK _ ?_
        clear hK K
        with_reducible refine class_skipk ?_ ?_
        · first | exact rfl | (go_simp; try simp [undef])
        intro K hK
        go_simp
        with_reducible refine hK _ ?_
        clear hK K
        with_reducible refine class_skipk ?_ ?_
        · first | exact rfl | (go_simp; try simp [undef])
        intro K hK
        go_simp
        with_reducible refine hK _ ?_
        clear hK K
        with_reducible refine class_skipk ?_ ?_
        · first | exact rfl | (go_simp; try simp [undef])
        intro K hK
        go_simp
        with_reducible refine hK _ ?_
        clear hK K
        with_reducible refine class_skipk ?_ ?_
        · first | exact rfl | (go_simp; try simp [undef])
        intro K hK
        go_simp
        with_reducible refine hK _ ?_
        clear hK K
        with_reducible refine class_opk (.bool true) ?_ ?_ ?_
        · first | exact rfl | go_simp
        · intro W hW
          go_simp
        intro K hK
        go_simp
        with_reducible refine hK _ ?_
        clear hK K
        with_reducible refine class_opk (.bool true) ?_ ?_ ?_
        · first | exact rfl | go_simp
        · intro W hW
          go_simp
        intro K hK
        go_simp
        with_reducible refine hK _ ?_
        clear hK K
        with_reducible refine class_skipk ?_ ?_
        · first | exact rfl | (go_simp; try simp [undef])
        intro K hK
        go_simp
        with_reducible refine hK _ ?_
        clear hK K
        with_reducible refine class_skipk ?_ ?_
        · first | exact rfl | (go_simp; try simp [undef])
        intro K hK
        go_simp
        with_reducible refine hK _ ?_
        clear hK K
        with_reducible refine class_skipk ?_ ?_
        · first | exact rfl | (go_simp; try simp [undef])
        intro K hK
        go_simp
        with_reducible refine hK _ ?_
        clear hK K
        with_reducible refine class_skipk ?_ ?_
        · first | exact rfl | (go_simp; try simp [undef])
        intro K hK
        go_simp
        with_reducible refine hK _ ?_
        clear hK K
        with_reducible refine class_skipk ?_ ?_
        · first | exact rfl | (go_simp; try simp [undef])
        intro K hK
        go_simp
        with_reducible refine hK _ ?_
        clear hK K
        with_reducible refine class_skipk ?_ ?_
        · first | exact rfl | (go_simp; try simp [undef])
        intro K hK
        go_simp
        with_reducible refine hK _ ?_
        clear hK K
        with_reducible refine class_skipk ?_ ?_
        · first | exact rfl | (go_simp; try simp [undef])
        intro K hK
        go_simp
        with_reducible refine hK _ ?_
        clear hK K
        with_reducible refine class_skipk ?_ ?_
        · first | exact rfl | (go_simp; try simp [undef])
        intro K hK
        go_simp
        with_reducible refine hK _ ?_
        clear hK K
        with_reducible refine class_skipk ?_ ?_
        · first | exact rfl | (go_simp; try simp [undef])
        intro K hK
        go_simp
        with_reducible refine hK _ ?_
        clear hK K
        with_reducible refine class_skipk ?_ ?_
        · first | exact rfl | (go_simp; try simp [undef])
        intro K hK
        go_simp
        with_reducible refine hK _ ?_
        clear hK K
        with_reducible refine class_skipk ?_ ?_
        · first | exact rfl | (go_simp; try simp [undef])
        intro K hK
        go_simp
        with_reducible refine hK _ ?_
        clear hK K
        with_reducible refine class_skipk ?_ ?_
        · first | exact rfl | (go_simp; try simp [undef])
        intro K hK
        go_simp
        with_reducible refine hK _ ?_
        clear hK K
        with_reducible refine class_opk (.bool true) ?_ ?_ ?_
        · first | exact rfl | go_simp
        · intro W hW
          go_simp
        intro K hK
        go_simp
        with_reducible refine hK _ ?_
        clear hK K
        with_reducible refine class_end ?_
        intro W1 hW1
        go_simp
        have HB1 : Hid (Below w.heap.size w W1) := Lib.hid (HQ.out.trans (hW1.mono HQ.out.size))
        clear hW1
        go_wp2_with fail
        go_ret
        exact ⟨ret_b (rd_off (sq_bad HX.out (okR_a HK1.out))).symm, HB1.out⟩
      have HK1 := Lib.hid hk1
      rcases hk2 : In 0 999 x.b with _ | _
      · have HK2 := Lib.hid hk2
        go_wp2_with fail
        have q0 := new1 wr (.cells #[.int .i64 x.a, .int .i64 x.b] 83)
        have q1 := boxed wr x 83
        have q2 : wr.heap.size < (wr.alloc (.cells #[.int .i64 x.a, .int .i64 x.b] 83)).heap.size := by simp
        have hbs := HB.out.size
        obtain ⟨N, hN⟩ : ∃ N, N = wr.heap.size := ⟨_, rfl⟩
        simp only [← hN] at q0 q1 q2 hbs ⊢
        generalize wr.alloc (.cells #[.int .i64 x.a, .int .i64 x.b] 83) = wq at q0 q1 q2 ⊢
        have HQ : Hid (Below w.heap.size w wq) := Lib.hid (HB.out.trans (q0.mono hbs))
        have Q1 := Lib.hid q1
        clear a0 a1 hN q0 q1
        refine class_region wq.heap.size (by kernel_rfl) (by kernel_rfl) ?_
        with_reducible refine class_opk (.pointer (some ⟨N, 0, none⟩)) ?_ ?_ ?_
        · first | exact rfl | go_simp
        · intro W hW
          go_simp
        intro K hK
        go_simp
        with_reducible refine hK _ ?_
        clear hK K
        with_reducible refine class_opk (.int .i64 x.a) ?_ ?_ ?_
        · first | exact rfl | go_simp
        · intro W hW
          obtain ⟨g0, g1⟩ := atFlat (Q1.out.keep (B := wq.heap.size) q2 hW)
          go_simp
        intro K hK
        go_simp
        with_reducible refine hK _ ?_
        clear hK K
        with_reducible refine class_opk (.bool true) ?_ ?_ ?_
        · first | exact rfl | go_simp
        · intro W hW
          go_simp
          refine class_call0 hW ?_
          rw [← HK1.out]
          exact is_key _ _
        intro K hK
        go_simp
        with_reducible refine hK _ ?_
        clear hK K
        with_reducible refine class_opk (.bool false) ?_ ?_ ?_
        · first | exact rfl | go_simp
        · intro W hW
          go_simp
        intro K hK
        go_simp
        with_reducible refine hK _ ?_
        clear hK K
        with_reducible refine class_opk (.bool false) ?_ ?_ ?_
        · first | exact rfl | go_simp
        · intro W hW
          go_simp
        intro K hK
        go_simp
        with_reducible refine hK _ ?_
        clear hK K
        with_reducible refine class_opk (.pointer (some ⟨N, 1, none⟩)) ?_ ?_ ?_
        · first | exact rfl | go_simp
        · intro W hW
          go_simp
        intro K hK
        go_simp
        with_reducible refine hK _ ?_
        clear hK K
        with_reducible refine class_opk (.int .i64 x.b) ?_ ?_ ?_
        · first | exact rfl | go_simp
        · intro W hW
          obtain ⟨g0, g1⟩ := atFlat (Q1.out.keep (B := wq.heap.size) q2 hW)
          go_simp
        intro K hK
        go_simp
        with_reducible refine hK _ ?_
        clear hK K
        with_reducible refine class_opk (.bool false) ?_ ?_ ?_
        · first | exact rfl | go_simp
        · intro W hW
          go_simp
          refine class_call0 hW ?_
          rw [← HK2.out]
          exact stamp0 _ _
        intro K hK
        go_simp
        with_reducible refine hK _ ?_
        clear hK K
        with_reducible refine class_opk (.bool true) ?_ ?_ ?_
        · first | exact rfl | go_simp
        · intro W hW
          go_simp
        intro K hK
        go_simp
        with_reducible refine hK _ ?_
        clear hK K
        with_reducible refine class_opk (.bool true) ?_ ?_ ?_
        · first | exact rfl | go_simp
        · intro W hW
          go_simp
        intro K hK
        go_simp
        with_reducible refine hK _ ?_
        clear hK K
        with_reducible refine class_opk (.bool true) ?_ ?_ ?_
        · first | exact rfl | go_simp
        · intro W hW
          go_simp
        intro K hK
        go_simp
        with_reducible refine hK _ ?_
        clear hK K
        with_reducible refine class_skipk ?_ ?_
        · first | exact rfl | (go_simp; try simp [undef])
        intro K hK
        go_simp
        with_reducible refine hK _ ?_
        clear hK K
        with_reducible refine class_skipk ?_ ?_
        · first | exact rfl | (go_simp; try simp [undef])
        intro K hK
        go_simp
        with_reducible refine hK _ ?_
        clear hK K
        with_reducible refine class_skipk ?_ ?_
        · first | exact rfl | (go_simp; try simp [undef])
        intro K hK
        go_simp
        with_reducible refine hK _ ?_
        clear hK K
        with_reducible refine class_skipk ?_ ?_
        · first | exact rfl | (go_simp; try simp [undef])
        intro K hK
        go_simp
        with_reducible refine hK _ ?_
        clear hK K
        with_reducible refine class_skipk ?_ ?_
        · first | exact rfl | (go_simp; try simp [undef])
        intro K hK
        go_simp
        with_reducible refine hK _ ?_
        clear hK K
        with_reducible refine class_skipk ?_ ?_
        · first | exact rfl | (go_simp; try simp [undef])
        intro K hK
        go_simp
        with_reducible refine hK _ ?_
        clear hK K
        with_reducible refine class_skipk ?_ ?_
        · first | exact rfl | (go_simp; try simp [undef])
        intro K hK
        go_simp
        with_reducible refine hK _ ?_
        clear hK K
        with_reducible refine class_skipk ?_ ?_
        · first | exact rfl | (go_simp; try simp [undef])
        intro K hK
        go_simp
        with_reducible refine hK _ ?_
        clear hK K
        with_reducible refine class_skipk ?_ ?_
        · first | exact rfl | (go_simp; try simp [undef])
        intro K hK
        go_simp
        with_reducible refine hK _ ?_
        clear hK K
        with_reducible refine class_skipk ?_ ?_
        · first | exact rfl | (go_simp; try simp [undef])
        intro K hK
        go_simp
        with_reducible refine hK _ ?_
        clear hK K
        with_reducible refine class_skipk ?_ ?_
        · first | exact rfl | (go_simp; try simp [undef])
        intro K hK
        go_simp
        with_reducible refine hK _ ?_
        clear hK K
        with_reducible refine class_skipk ?_ ?_
        · first | exact rfl | (go_simp; try simp [undef])
        intro K hK
        go_simp
        with_reducible refine hK _ ?_
        clear hK K
        with_reducible refine class_opk (.bool true) ?_ ?_ ?_
        · first | exact rfl | go_simp
        · intro W hW
          go_simp
        intro K hK
        go_simp
        with_reducible refine hK _ ?_
        clear hK K
        with_reducible refine class_end ?_
        intro W1 hW1
        go_simp
        have HB1 : Hid (Below w.heap.size w W1) := Lib.hid (HQ.out.trans (hW1.mono HQ.out.size))
        clear hW1
        go_wp2_with fail
        go_ret
        exact ⟨ret_b (rd_off (sq_bad HX.out (okR_b HK2.out))).symm, HB1.out⟩
      have HK2 := Lib.hid hk2
      by_cases h0 : 0 < k
      · obtain ⟨b', o', y, hbo, hbB', hy, d0, d1⟩ := (H1.out.below (below_le HB.out hB)).at_ (k := k - 1) (by omega)
        injection hbo with hbo
        injection hbo with e1 e2
        subst e1
        subst e2
        have HY := Lib.hid hy
        clear hy
        have s1 : IntKind.i64.wrap ((k : Int) - 1) = (k : Int) - 1 := IntWalk.i64_in _ (by omega)
        have s2 : (0 : Int) ≤ (k : Int) - 1 := by omega
        have s3 : ((k : Int) - 1).toNat = k - 1 := by omega
        have s4 : (k : Int) - 1 < (n : Int) := by omega
        have s5 : (1 : Int) ≤ (k : Int) := by omega
        have hg : decide (0 < k) = true := decide_eq_true h0
        rcases hf : folR y x with _ | _
        · have HF := Lib.hid hf
          have s7 := cge_yes hf
          go_wp2_with fail
          have q0 := new1 wr (.cells #[.int .i64 x.a, .int .i64 x.b] 83)
          have q1 := boxed wr x 83
          have q2 : wr.heap.size < (wr.alloc (.cells #[.int .i64 x.a, .int .i64 x.b] 83)).heap.size := by simp
          have hbs := HB.out.size
          obtain ⟨N, hN⟩ : ∃ N, N = wr.heap.size := ⟨_, rfl⟩
          simp only [← hN] at q0 q1 q2 hbs ⊢
          generalize wr.alloc (.cells #[.int .i64 x.a, .int .i64 x.b] 83) = wq at q0 q1 q2 ⊢
          have E0 : Hid (At wq b (o + (k - 1) * 2) y) := Lib.hid (At.keep ⟨d0, d1⟩ (B := N) (by omega) q0)
          have E1 : b < wq.heap.size := by omega
          clear d0 d1
          have HQ : Hid (Below w.heap.size w wq) := Lib.hid (HB.out.trans (q0.mono hbs))
          have Q1 := Lib.hid q1
          clear a0 a1 hN q0 q1
          refine class_region wq.heap.size (by kernel_rfl) (by kernel_rfl) ?_
          with_reducible refine class_opk (.pointer (some ⟨N, 0, none⟩)) ?_ ?_ ?_
          · first | exact rfl | go_simp
          · intro W hW
            go_simp
          intro K hK
          go_simp
          with_reducible refine hK _ ?_
          clear hK K
          with_reducible refine class_opk (.int .i64 x.a) ?_ ?_ ?_
          · first | exact rfl | go_simp
          · intro W hW
            obtain ⟨g0, g1⟩ := atFlat (Q1.out.keep (B := wq.heap.size) q2 hW)
            go_simp
          intro K hK
          go_simp
          with_reducible refine hK _ ?_
          clear hK K
          with_reducible refine class_opk (.bool true) ?_ ?_ ?_
          · first | exact rfl | go_simp
          · intro W hW
            go_simp
            refine class_call0 hW ?_
            rw [← HK1.out]
            exact is_key _ _
          intro K hK
          go_simp
          with_reducible refine hK _ ?_
          clear hK K
          with_reducible refine class_opk (.bool false) ?_ ?_ ?_
          · first | exact rfl | go_simp
          · intro W hW
            go_simp
          intro K hK
          go_simp
          with_reducible refine hK _ ?_
          clear hK K
          with_reducible refine class_opk (.bool false) ?_ ?_ ?_
          · first | exact rfl | go_simp
          · intro W hW
            go_simp
          intro K hK
          go_simp
          with_reducible refine hK _ ?_
          clear hK K
          with_reducible refine class_opk (.pointer (some ⟨N, 1, none⟩)) ?_ ?_ ?_
          · first | exact rfl | go_simp
          · intro W hW
            go_simp
          intro K hK
          go_simp
          with_reducible refine hK _ ?_
          clear hK K
          with_reducible refine class_opk (.int .i64 x.b) ?_ ?_ ?_
          · first | exact rfl | go_simp
          · intro W hW
            obtain ⟨g0, g1⟩ := atFlat (Q1.out.keep (B := wq.heap.size) q2 hW)
            go_simp
          intro K hK
          go_simp
          with_reducible refine hK _ ?_
          clear hK K
          with_reducible refine class_opk (.bool true) ?_ ?_ ?_
          · first | exact rfl | go_simp
          · intro W hW
            go_simp
            refine class_call0 hW ?_
            rw [← HK2.out]
            exact stamp0 _ _
          intro K hK
          go_simp
          with_reducible refine hK _ ?_
          clear hK K
          with_reducible refine class_opk (.bool false) ?_ ?_ ?_
          · first | exact rfl | go_simp
          · intro W hW
            go_simp
          intro K hK
          go_simp
          with_reducible refine hK _ ?_
          clear hK K
          with_reducible refine class_opk (.bool false) ?_ ?_ ?_
          · first | exact rfl | go_simp
          · intro W hW
            go_simp
          intro K hK
          go_simp
          with_reducible refine hK _ ?_
          clear hK K
          with_reducible refine class_opk (.bool false) ?_ ?_ ?_
          · first | exact rfl | go_simp
          · intro W hW
            go_simp
          intro K hK
          go_simp
          with_reducible refine hK _ ?_
          clear hK K
          with_reducible refine class_opk (.int .i64 k) ?_ ?_ ?_
          · first | exact rfl | go_simp
          · intro W hW
            go_simp
          intro K hK
          go_simp
          with_reducible refine hK _ ?_
          clear hK K
          with_reducible refine class_opk (.bool true) ?_ ?_ ?_
          · first | exact rfl | go_simp
          · intro W hW
            go_simp
          intro K hK
          go_simp
          with_reducible refine hK _ ?_
          clear hK K
          with_reducible refine class_opk (.bool true) ?_ ?_ ?_
          · first | exact rfl | go_simp
          · intro W hW
            go_simp
          intro K hK
          go_simp
          with_reducible refine hK _ ?_
          clear hK K
          with_reducible refine class_opk (.slice (some ⟨b, o, none⟩) n c) ?_ ?_ ?_
          · first | exact rfl | go_simp
          · intro W hW
            go_simp
          intro K hK
          go_simp
          with_reducible refine hK _ ?_
          clear hK K
          with_reducible refine class_opk (.int .i64 k) ?_ ?_ ?_
          · first | exact rfl | go_simp
          · intro W hW
            go_simp
          intro K hK
          go_simp
          with_reducible refine hK _ ?_
          clear hK K
          with_reducible refine class_opk (.int .i64 ((k : Int) - 1)) ?_ ?_ ?_
          · first | exact rfl | go_simp
          · intro W hW
            go_simp
          intro K hK
          go_simp
          with_reducible refine hK _ ?_
          clear hK K
          with_reducible refine class_opk (.pointer (some ⟨b, o + (k - 1) * 2, none⟩)) ?_ ?_ ?_
          · first | exact rfl | go_simp
          · intro W hW
            go_simp
          intro K hK
          go_simp
          with_reducible refine hK _ ?_
          clear hK K
          with_reducible refine class_opk (.agg #[.int .i64 y.a, .int .i64 y.b]) ?_ ?_ ?_
          · first | exact rfl | go_simp
          · intro W hW
            obtain ⟨g0, g1⟩ := E0.out.keep (B := wq.heap.size) E1 hW
            go_simp
          intro K hK
          go_simp
          with_reducible refine hK _ ?_
          clear hK K
          with_reducible refine class_opk (.agg #[.int .i64 x.a, .int .i64 x.b]) ?_ ?_ ?_
          · first | exact rfl | go_simp
          · intro W hW
            obtain ⟨g0, g1⟩ := atFlat (Q1.out.keep (B := wq.heap.size) q2 hW)
            go_simp
          intro K hK
          go_simp
          with_reducible refine hK _ ?_
          clear hK K
          with_reducible refine class_opk (.int .i64 (cm.cmpR y x)) ?_ ?_ ?_
          · first | exact rfl | go_simp
          · intro W hW
            go_simp
            refine class_call hW ?_
            exact cm.compare_reads _ _ _
          intro K hK
          go_simp
          with_reducible refine hK _ ?_
          clear hK K
          with_reducible refine class_opk (.bool true) ?_ ?_ ?_
          · first | exact rfl | go_simp
          · intro W hW
            go_simp
          intro K hK
          go_simp
          with_reducible refine hK _ ?_
          clear hK K
          with_reducible refine class_opk (.bool true) ?_ ?_ ?_
          · first | exact rfl | go_simp
          · intro W hW
            go_simp
          intro K hK
          go_simp
          with_reducible refine hK _ ?_
          clear hK K
          with_reducible refine class_opk (.bool true) ?_ ?_ ?_
          · first | exact rfl | go_simp
          · intro W hW
            go_simp
          intro K hK
          go_simp
          with_reducible refine hK _ ?_
          clear hK K
          with_reducible refine class_end ?_
          intro W1 hW1
          go_simp
          have HB1 : Hid (Below w.heap.size w W1) := Lib.hid (HQ.out.trans (hW1.mono HQ.out.size))
          clear hW1
          go_wp2_with fail
          go_ret
          exact ⟨ret_b (rd_off (sq_off h0 HY.out HX.out HF.out)).symm, HB1.out⟩
        · have HF := Lib.hid hf
          have s7 := cge_no hf
          go_wp2_with fail
          have q0 := new1 wr (.cells #[.int .i64 x.a, .int .i64 x.b] 83)
          have q1 := boxed wr x 83
          have q2 : wr.heap.size < (wr.alloc (.cells #[.int .i64 x.a, .int .i64 x.b] 83)).heap.size := by simp
          have hbs := HB.out.size
          obtain ⟨N, hN⟩ : ∃ N, N = wr.heap.size := ⟨_, rfl⟩
          simp only [← hN] at q0 q1 q2 hbs ⊢
          generalize wr.alloc (.cells #[.int .i64 x.a, .int .i64 x.b] 83) = wq at q0 q1 q2 ⊢
          have E0 : Hid (At wq b (o + (k - 1) * 2) y) := Lib.hid (At.keep ⟨d0, d1⟩ (B := N) (by omega) q0)
          have E1 : b < wq.heap.size := by omega
          clear d0 d1
          have HQ : Hid (Below w.heap.size w wq) := Lib.hid (HB.out.trans (q0.mono hbs))
          have Q1 := Lib.hid q1
          clear a0 a1 hN q0 q1
          refine class_region wq.heap.size (by kernel_rfl) (by kernel_rfl) ?_
          with_reducible refine class_opk (.pointer (some ⟨N, 0, none⟩)) ?_ ?_ ?_
          · first | exact rfl | go_simp
          · intro W hW
            go_simp
          intro K hK
          go_simp
          with_reducible refine hK _ ?_
          clear hK K
          with_reducible refine class_opk (.int .i64 x.a) ?_ ?_ ?_
          · first | exact rfl | go_simp
          · intro W hW
            obtain ⟨g0, g1⟩ := atFlat (Q1.out.keep (B := wq.heap.size) q2 hW)
            go_simp
          intro K hK
          go_simp
          with_reducible refine hK _ ?_
          clear hK K
          with_reducible refine class_opk (.bool true) ?_ ?_ ?_
          · first | exact rfl | go_simp
          · intro W hW
            go_simp
            refine class_call0 hW ?_
            rw [← HK1.out]
            exact is_key _ _
          intro K hK
          go_simp
          with_reducible refine hK _ ?_
          clear hK K
          with_reducible refine class_opk (.bool false) ?_ ?_ ?_
          · first | exact rfl | go_simp
          · intro W hW
            go_simp
          intro K hK
          go_simp
          with_reducible refine hK _ ?_
          clear hK K
          with_reducible refine class_opk (.bool false) ?_ ?_ ?_
          · first | exact rfl | go_simp
          · intro W hW
            go_simp
          intro K hK
          go_simp
          with_reducible refine hK _ ?_
          clear hK K
          with_reducible refine class_opk (.pointer (some ⟨N, 1, none⟩)) ?_ ?_ ?_
          · first | exact rfl | go_simp
          · intro W hW
            go_simp
          intro K hK
          go_simp
          with_reducible refine hK _ ?_
          clear hK K
          with_reducible refine class_opk (.int .i64 x.b) ?_ ?_ ?_
          · first | exact rfl | go_simp
          · intro W hW
            obtain ⟨g0, g1⟩ := atFlat (Q1.out.keep (B := wq.heap.size) q2 hW)
            go_simp
          intro K hK
          go_simp
          with_reducible refine hK _ ?_
          clear hK K
          with_reducible refine class_opk (.bool true) ?_ ?_ ?_
          · first | exact rfl | go_simp
          · intro W hW
            go_simp
            refine class_call0 hW ?_
            rw [← HK2.out]
            exact stamp0 _ _
          intro K hK
          go_simp
          with_reducible refine hK _ ?_
          clear hK K
          with_reducible refine class_opk (.bool false) ?_ ?_ ?_
          · first | exact rfl | go_simp
          · intro W hW
            go_simp
          intro K hK
          go_simp
          with_reducible refine hK _ ?_
          clear hK K
          with_reducible refine class_opk (.bool false) ?_ ?_ ?_
          · first | exact rfl | go_simp
          · intro W hW
            go_simp
          intro K hK
          go_simp
          with_reducible refine hK _ ?_
          clear hK K
          with_reducible refine class_opk (.bool false) ?_ ?_ ?_
          · first | exact rfl | go_simp
          · intro W hW
            go_simp
          intro K hK
          go_simp
          with_reducible refine hK _ ?_
          clear hK K
          with_reducible refine class_opk (.int .i64 k) ?_ ?_ ?_
          · first | exact rfl | go_simp
          · intro W hW
            go_simp
          intro K hK
          go_simp
          with_reducible refine hK _ ?_
          clear hK K
          with_reducible refine class_opk (.bool true) ?_ ?_ ?_
          · first | exact rfl | go_simp
          · intro W hW
            go_simp
          intro K hK
          go_simp
          with_reducible refine hK _ ?_
          clear hK K
          with_reducible refine class_opk (.bool true) ?_ ?_ ?_
          · first | exact rfl | go_simp
          · intro W hW
            go_simp
          intro K hK
          go_simp
          with_reducible refine hK _ ?_
          clear hK K
          with_reducible refine class_opk (.slice (some ⟨b, o, none⟩) n c) ?_ ?_ ?_
          · first | exact rfl | go_simp
          · intro W hW
            go_simp
          intro K hK
          go_simp
          with_reducible refine hK _ ?_
          clear hK K
          with_reducible refine class_opk (.int .i64 k) ?_ ?_ ?_
          · first | exact rfl | go_simp
          · intro W hW
            go_simp
          intro K hK
          go_simp
          with_reducible refine hK _ ?_
          clear hK K
          with_reducible refine class_opk (.int .i64 ((k : Int) - 1)) ?_ ?_ ?_
          · first | exact rfl | go_simp
          · intro W hW
            go_simp
          intro K hK
          go_simp
          with_reducible refine hK _ ?_
          clear hK K
          with_reducible refine class_opk (.pointer (some ⟨b, o + (k - 1) * 2, none⟩)) ?_ ?_ ?_
          · first | exact rfl | go_simp
          · intro W hW
            go_simp
          intro K hK
          go_simp
          with_reducible refine hK _ ?_
          clear hK K
          with_reducible refine class_opk (.agg #[.int .i64 y.a, .int .i64 y.b]) ?_ ?_ ?_
          · first | exact rfl | go_simp
          · intro W hW
            obtain ⟨g0, g1⟩ := E0.out.keep (B := wq.heap.size) E1 hW
            go_simp
          intro K hK
          go_simp
          with_reducible refine hK _ ?_
          clear hK K
          with_reducible refine class_opk (.agg #[.int .i64 x.a, .int .i64 x.b]) ?_ ?_ ?_
          · first | exact rfl | go_simp
          · intro W hW
            obtain ⟨g0, g1⟩ := atFlat (Q1.out.keep (B := wq.heap.size) q2 hW)
            go_simp
          intro K hK
          go_simp
          with_reducible refine hK _ ?_
          clear hK K
          with_reducible refine class_opk (.int .i64 (cm.cmpR y x)) ?_ ?_ ?_
          · first | exact rfl | go_simp
          · intro W hW
            go_simp
            refine class_call hW ?_
            exact cm.compare_reads _ _ _
          intro K hK
          go_simp
          with_reducible refine hK _ ?_
          clear hK K
          with_reducible refine class_opk (.bool false) ?_ ?_ ?_
          · first | exact rfl | go_simp
          · intro W hW
            go_simp
          intro K hK
          go_simp
          with_reducible refine hK _ ?_
          clear hK K
          with_reducible refine class_opk (.bool false) ?_ ?_ ?_
          · first | exact rfl | go_simp
          · intro W hW
            go_simp
          intro K hK
          go_simp
          with_reducible refine hK _ ?_
          clear hK K
          with_reducible refine class_opk (.bool false) ?_ ?_ ?_
          · first | exact rfl | go_simp
          · intro W hW
            go_simp
          intro K hK
          go_simp
          with_reducible refine hK _ ?_
          clear hK K
          with_reducible refine class_end ?_
          intro W1 hW1
          go_simp
          have HB1 : Hid (Below w.heap.size w W1) := Lib.hid (HQ.out.trans (hW1.mono HQ.out.size))
          clear hW1
          go_wp2_with fail
          go_roundw
          case rel => exact ⟨k + 1, by omega, by go_num, pri_step HP.out HX.out (okR_yes HK1.out HK2.out) (fun _ z hz => by have := HY.out; rw [this] at hz; cases hz; exact HF.out), HB1.out⟩
          case measure => simp [intOf]; omega
      · have hg : decide (0 < k) = false := decide_eq_false h0
        go_wp2_with fail
        have q0 := new1 wr (.cells #[.int .i64 x.a, .int .i64 x.b] 83)
        have q1 := boxed wr x 83
        have q2 : wr.heap.size < (wr.alloc (.cells #[.int .i64 x.a, .int .i64 x.b] 83)).heap.size := by simp
        have hbs := HB.out.size
        obtain ⟨N, hN⟩ : ∃ N, N = wr.heap.size := ⟨_, rfl⟩
        simp only [← hN] at q0 q1 q2 hbs ⊢
        generalize wr.alloc (.cells #[.int .i64 x.a, .int .i64 x.b] 83) = wq at q0 q1 q2 ⊢
        have HQ : Hid (Below w.heap.size w wq) := Lib.hid (HB.out.trans (q0.mono hbs))
        have Q1 := Lib.hid q1
        clear a0 a1 hN q0 q1
        refine class_region wq.heap.size (by kernel_rfl) (by kernel_rfl) ?_
        with_reducible refine class_opk (.pointer (some ⟨N, 0, none⟩)) ?_ ?_ ?_
        · first | exact rfl | go_simp
        · intro W hW
          go_simp
        intro K hK
        go_simp
        with_reducible refine hK _ ?_
        clear hK K
        with_reducible refine class_opk (.int .i64 x.a) ?_ ?_ ?_
        · first | exact rfl | go_simp
        · intro W hW
          obtain ⟨g0, g1⟩ := atFlat (Q1.out.keep (B := wq.heap.size) q2 hW)
          go_simp
        intro K hK
        go_simp
        with_reducible refine hK _ ?_
        clear hK K
        with_reducible refine class_opk (.bool true) ?_ ?_ ?_
        · first | exact rfl | go_simp
        · intro W hW
          go_simp
          refine class_call0 hW ?_
          rw [← HK1.out]
          exact is_key _ _
        intro K hK
        go_simp
        with_reducible refine hK _ ?_
        clear hK K
        with_reducible refine class_opk (.bool false) ?_ ?_ ?_
        · first | exact rfl | go_simp
        · intro W hW
          go_simp
        intro K hK
        go_simp
        with_reducible refine hK _ ?_
        clear hK K
        with_reducible refine class_opk (.bool false) ?_ ?_ ?_
        · first | exact rfl | go_simp
        · intro W hW
          go_simp
        intro K hK
        go_simp
        with_reducible refine hK _ ?_
        clear hK K
        with_reducible refine class_opk (.pointer (some ⟨N, 1, none⟩)) ?_ ?_ ?_
        · first | exact rfl | go_simp
        · intro W hW
          go_simp
        intro K hK
        go_simp
        with_reducible refine hK _ ?_
        clear hK K
        with_reducible refine class_opk (.int .i64 x.b) ?_ ?_ ?_
        · first | exact rfl | go_simp
        · intro W hW
          obtain ⟨g0, g1⟩ := atFlat (Q1.out.keep (B := wq.heap.size) q2 hW)
          go_simp
        intro K hK
        go_simp
        with_reducible refine hK _ ?_
        clear hK K
        with_reducible refine class_opk (.bool true) ?_ ?_ ?_
        · first | exact rfl | go_simp
        · intro W hW
          go_simp
          refine class_call0 hW ?_
          rw [← HK2.out]
          exact stamp0 _ _
        intro K hK
        go_simp
        with_reducible refine hK _ ?_
        clear hK K
        with_reducible refine class_opk (.bool false) ?_ ?_ ?_
        · first | exact rfl | go_simp
        · intro W hW
          go_simp
        intro K hK
        go_simp
        with_reducible refine hK _ ?_
        clear hK K
        with_reducible refine class_opk (.bool false) ?_ ?_ ?_
        · first | exact rfl | go_simp
        · intro W hW
          go_simp
        intro K hK
        go_simp
        with_reducible refine hK _ ?_
        clear hK K
        with_reducible refine class_opk (.bool false) ?_ ?_ ?_
        · first | exact rfl | go_simp
        · intro W hW
          go_simp
        intro K hK
        go_simp
        with_reducible refine hK _ ?_
        clear hK K
        with_reducible refine class_opk (.int .i64 k) ?_ ?_ ?_
        · first | exact rfl | go_simp
        · intro W hW
          go_simp
        intro K hK
        go_simp
        with_reducible refine hK _ ?_
        clear hK K
        with_reducible refine class_opk (.bool false) ?_ ?_ ?_
        · first | exact rfl | go_simp
        · intro W hW
          go_simp
        intro K hK
        go_simp
        with_reducible refine hK _ ?_
        clear hK K
        with_reducible refine class_opk (.bool false) ?_ ?_ ?_
        · first | exact rfl | go_simp
        · intro W hW
          go_simp
        intro K hK
        go_simp
        with_reducible refine hK _ ?_
        clear hK K
        with_reducible refine class_skipk ?_ ?_
        · first | exact rfl | (go_simp; try simp [undef])
        intro K hK
        go_simp
        with_reducible refine hK _ ?_
        clear hK K
        with_reducible refine class_skipk ?_ ?_
        · first | exact rfl | (go_simp; try simp [undef])
        intro K hK
        go_simp
        with_reducible refine hK _ ?_
        clear hK K
        with_reducible refine class_skipk ?_ ?_
        · first | exact rfl | (go_simp; try simp [undef])
        intro K hK
        go_simp
        with_reducible refine hK _ ?_
        clear hK K
        with_reducible refine class_skipk ?_ ?_
        · first | exact rfl | (go_simp; try simp [undef])
        intro K hK
        go_simp
        with_reducible refine hK _ ?_
        clear hK K
        with_reducible refine class_skipk ?_ ?_
        · first | exact rfl | (go_simp; try simp [undef])
        intro K hK
        go_simp
        with_reducible refine hK _ ?_
        clear hK K
        with_reducible refine class_skipk ?_ ?_
        · first | exact rfl | (go_simp; try simp [undef])
        intro K hK
        go_simp
        with_reducible refine hK _ ?_
        clear hK K
        with_reducible refine class_skipk ?_ ?_
        · first | exact rfl | (go_simp; try simp [undef])
        intro K hK
        go_simp
        with_reducible refine hK _ ?_
        clear hK K
        with_reducible refine class_skipk ?_ ?_
        · first | exact rfl | (go_simp; try simp [undef])
        intro K hK
        go_simp
        with_reducible refine hK _ ?_
        clear hK K
        with_reducible refine class_opk (.bool false) ?_ ?_ ?_
        · first | exact rfl | go_simp
        · intro W hW
          go_simp
        intro K hK
        go_simp
        with_reducible refine hK _ ?_
        clear hK K
        with_reducible refine class_opk (.bool false) ?_ ?_ ?_
        · first | exact rfl | go_simp
        · intro W hW
          go_simp
        intro K hK
        go_simp
        with_reducible refine hK _ ?_
        clear hK K
        with_reducible refine class_end ?_
        intro W1 hW1
        go_simp
        have HB1 : Hid (Below w.heap.size w W1) := Lib.hid (HQ.out.trans (hW1.mono HQ.out.size))
        clear hW1
        go_wp2_with fail
        go_roundw
        case rel => exact ⟨k + 1, by omega, by go_num, pri_step HP.out HX.out (okR_yes HK1.out HK2.out) (fun h => absurd h h0), HB1.out⟩
        case measure => simp [intOf]; omega
    · obtain rfl : k = n := by omega
      have HB := Lib.hid hb
      have HL := Lib.hid (rd_all (by omega) (sq_all hln HP.out))
      clear hb
      go_wp2_with fail
      go_ret
      exact ⟨ret_b HL.out.symm, HB.out⟩
set_option maxRecDepth 100000 in
set_option maxHeartbeats 3200000 in
theorem impl_writes {w : World} {B n c : Nat} {A : Option Addr} {l : List E2} (hn : n ≤ 140737488355328) (h1 : Vs w B A n l) (hB : B ≤ w.heap.size) :
    Calls Tryz.prog 86 #[.slice A n c] w fun e w' => e = .returned (.bool (wrB l)) ∧ Below w.heap.size w w' := by
  have H1 := Lib.hid h1
  have hln := h1.1
  clear h1
  go_enter Tryz.func86, Tryz.ntmps86
  go_wp2
  go_loopw [7] (fun i wr => ∃ k : Nat, k ≤ n ∧ i = .int .i64 k ∧ Pri okW folW l k ∧ Below w.heap.size w wr) (fun i _ => n - (intOf i).toNat)
  case atStart => exact ⟨0, by omega, rfl, pri_zero _ _ l, Below.refl _ _⟩
  case round =>
    obtain ⟨k, hk, rfl, hP, hb⟩ := hrel
    have HP := Lib.hid hP
    clear hP
    by_cases hlt : k < n
    · obtain ⟨b, o, x, rfl, hbB, hx, a0, a1⟩ := (H1.out.below (below_le hb hB)).at_ hlt
      have HB := Lib.hid hb
      have HX := Lib.hid hx
      clear hb hx
      rcases hk1 : In 0 5 x.a with _ | _
      · have HK1 := Lib.hid hk1
        go_wp2_with fail
        have q0 := new1 wr (.cells #[.int .i64 x.a, .int .i64 x.b] 86)
        have q1 := boxed wr x 86
        have q2 : wr.heap.size < (wr.alloc (.cells #[.int .i64 x.a, .int .i64 x.b] 86)).heap.size := by simp
        have hbs := HB.out.size
        obtain ⟨N, hN⟩ : ∃ N, N = wr.heap.size := ⟨_, rfl⟩
        simp only [← hN] at q0 q1 q2 hbs ⊢
        generalize wr.alloc (.cells #[.int .i64 x.a, .int .i64 x.b] 86) = wq at q0 q1 q2 ⊢
        have HQ : Hid (Below w.heap.size w wq) := Lib.hid (HB.out.trans (q0.mono hbs))
        have Q1 := Lib.hid q1
        clear a0 a1 hN q0 q1
        refine class_region wq.heap.size (by kernel_rfl) (by kernel_rfl) ?_
        with_reducible refine class_opk (.pointer (some ⟨N, 0, none⟩)) ?_ ?_ ?_
        · first | exact rfl | go_simp
        · intro W hW
          go_simp
        intro K hK
        go_simp
        with_reducible refine hK _ ?_
        clear hK K
        with_reducible refine class_opk (.int .i64 x.a) ?_ ?_ ?_
        · first | exact rfl | go_simp
        · intro W hW
          obtain ⟨g0, g1⟩ := atFlat (Q1.out.keep (B := wq.heap.size) q2 hW)
          go_simp
        intro K hK
        go_simp
        with_reducible refine hK _ ?_
        clear hK K
        with_reducible refine class_opk (.bool false) ?_ ?_ ?_
        · first | exact rfl | go_simp
        · intro W hW
          go_simp
          refine class_call0 hW ?_
          rw [← HK1.out]
          exact is_key _ _
        intro K hK
        go_simp
        with_reducible refine hK _ ?_
        clear hK K
        with_reducible refine class_opk (.bool true) ?_ ?_ ?_
        · first | exact rfl | go_simp
        · intro W hW
          go_simp
        intro K hK
        go_simp
        with_reducible refine hK _ ?_
        clear hK K
        with_reducible refine class_opk (.bool true) ?_ ?_ ?_
        · first | exact rfl | go_simp
        · intro W hW
          go_simp
        intro K hK
        go_simp
        with_reducible refine hK _ ?_
        clear hK K
        with_reducible refine class_skipk ?_ ?_
        · first | exact rfl | (go_simp; try simp [undef])
        intro K hK
        go_simp
        with_reducible refine hK _ ?_
        clear hK K
        with_reducible refine class_skipk ?_ ?_
        · first | exact rfl | (go_simp; try simp [undef])
        intro K hK
        go_simp
        with_reducible refine hK _ ?_
        clear hK K
        with_reducible refine class_skipk ?_ ?_
        · first | exact rfl | (go_simp; try simp [undef])
        intro K hK
        go_simp
        with_reducible refine hK _ ?_
        clear hK K
        with_reducible refine class_skipk ?_ ?_
        · first | exact rfl | (go_simp; try simp [undef])
        intro K hK
        go_simp
        with_reducible refine hK _ ?_
        clear hK K
        with_reducible refine class_opk (.bool true) ?_ ?_ ?_
        · first | exact rfl | go_simp
        · intro W hW
          go_simp
        intro K hK
        go_simp
        with_reducible refine hK _ ?_
        clear hK K
        with_reducible refine class_opk (.bool true) ?_ ?_ ?_
        · first | exact rfl | go_simp
        · intro W hW
          go_simp
        intro K hK
        go_simp
        with_reducible refine hK _ ?_
        clear hK K
        with_reducible refine class_skipk ?_ ?_
        · first | exact rfl | (go_simp; try simp [undef])
        intro K hK
        go_simp
        with_reducible refine hK _ ?_
        clear hK K
        with_reducible refine class_skipk ?_ ?_
        · first | exact rfl | (go_simp; try simp [undef])
        intro K hK
        go_simp
        with_reducible refine hK _ ?_
        clear hK K
        with_reducible refine class_skipk ?_ ?_
        · first | exact rfl | (go_simp; try simp [undef])
        intro K hK
        go_simp
        with_reducible refine hK _ ?_
        clear hK K
        with_reducible refine class_skipk ?_ ?_
        · first | exact rfl | (go_simp; try simp [undef])
        intro K hK
        go_simp
        with_reducible refine hK _ ?_
        clear hK K
        with_reducible refine class_skipk ?_ ?_
        · first | exact rfl | (go_simp; try simp [undef])
        intro K hK
        go_simp
        with_reducible refine hK _ ?_
        clear hK K
        with_reducible refine class_skipk ?_ ?_
        · first | exact rfl | (go_simp; try simp [undef])
        intro K hK
        go_simp
        with_reducible refine hK _ ?_
        clear hK K
        with_reducible refine class_skipk ?_ ?_
        · first | exact rfl | (go_simp; try simp [undef])
        intro K hK
        go_simp
        with_reducible refine hK _ ?_
        clear hK K
        with_reducible refine class_skipk ?_ ?_
        · first | exact rfl | (go_simp; try simp [undef])
        intro K hK
        go_simp
        with_reducible refine hK _ ?_
        clear hK K
        with_reducible refine class_skipk ?_ ?_
        · first | exact rfl | (go_simp; try simp [undef])
        intro K hK
        go_simp
        with_reducible refine hK _ ?_
        clear hK K
        with_reducible refine class_skipk ?_ ?_
        · first | exact rfl | (go_simp; try simp [undef])
        intro K hK
        go_simp
        with_reducible refine hK _ ?_
        clear hK K
        with_reducible refine class_skipk ?_ ?_
        · first | exact rfl | (go_simp; try simp [undef])
        intro K hK
        go_simp
        with_reducible refine hK _ ?_
        clear hK K
        with_reducible refine class_skipk ?_ ?_
        · first | exact rfl | (go_simp; try simp [undef])
        intro K hK
        go_simp
        with_reducible refine hK _ ?_
        clear hK K
        with_reducible refine class_skipk ?_ ?_
        · first | exact rfl | (go_simp; try simp [undef])
        intro K hK
        go_simp
        with_reducible refine hK _ ?_
        clear hK K
        with_reducible refine class_opk (.bool true) ?_ ?_ ?_
        · first | exact rfl | go_simp
        · intro W hW
          go_simp
        intro K hK
        go_simp
        with_reducible refine hK _ ?_
        clear hK K
        with_reducible refine class_end ?_
        intro W1 hW1
        go_simp
        have HB1 : Hid (Below w.heap.size w W1) := Lib.hid (HQ.out.trans (hW1.mono HQ.out.size))
        clear hW1
        go_wp2_with fail
        go_ret
        exact ⟨ret_b (sq_bad HX.out (okW_a HK1.out)).symm, HB1.out⟩
      have HK1 := Lib.hid hk1
      rcases hk2 : In (-1) 99 x.b with _ | _
      · have HK2 := Lib.hid hk2
        go_wp2_with fail
        have q0 := new1 wr (.cells #[.int .i64 x.a, .int .i64 x.b] 86)
        have q1 := boxed wr x 86
        have q2 : wr.heap.size < (wr.alloc (.cells #[.int .i64 x.a, .int .i64 x.b] 86)).heap.size := by simp
        have hbs := HB.out.size
        obtain ⟨N, hN⟩ : ∃ N, N = wr.heap.size := ⟨_, rfl⟩
        simp only [← hN] at q0 q1 q2 hbs ⊢
        generalize wr.alloc (.cells #[.int .i64 x.a, .int .i64 x.b] 86) = wq at q0 q1 q2 ⊢
        have HQ : Hid (Below w.heap.size w wq) := Lib.hid (HB.out.trans (q0.mono hbs))
        have Q1 := Lib.hid q1
        clear a0 a1 hN q0 q1
        refine class_region wq.heap.size (by kernel_rfl) (by kernel_rfl) ?_
        with_reducible refine class_opk (.pointer (some ⟨N, 0, none⟩)) ?_ ?_ ?_
        · first | exact rfl | go_simp
        · intro W hW
          go_simp
        intro K hK
        go_simp
        with_reducible refine hK _ ?_
        clear hK K
        with_reducible refine class_opk (.int .i64 x.a) ?_ ?_ ?_
        · first | exact rfl | go_simp
        · intro W hW
          obtain ⟨g0, g1⟩ := atFlat (Q1.out.keep (B := wq.heap.size) q2 hW)
          go_simp
        intro K hK
        go_simp
        with_reducible refine hK _ ?_
        clear hK K
        with_reducible refine class_opk (.bool true) ?_ ?_ ?_
        · first | exact rfl | go_simp
        · intro W hW
          go_simp
          refine class_call0 hW ?_
          rw [← HK1.out]
          exact is_key _ _
        intro K hK
        go_simp
        with_reducible refine hK _ ?_
        clear hK K
        with_reducible refine class_opk (.bool false) ?_ ?_ ?_
        · first | exact rfl | go_simp
        · intro W hW
          go_simp
        intro K hK
        go_simp
        with_reducible refine hK _ ?_
        clear hK K
        with_reducible refine class_opk (.bool false) ?_ ?_ ?_
        · first | exact rfl | go_simp
        · intro W hW
          go_simp
        intro K hK
        go_simp
        with_reducible refine hK _ ?_
        clear hK K
        with_reducible refine class_opk (.pointer (some ⟨N, 1, none⟩)) ?_ ?_ ?_
        · first | exact rfl | go_simp
        · intro W hW
          go_simp
        intro K hK
        go_simp
        with_reducible refine hK _ ?_
        clear hK K
        with_reducible refine class_opk (.int .i64 x.b) ?_ ?_ ?_
        · first | exact rfl | go_simp
        · intro W hW
          obtain ⟨g0, g1⟩ := atFlat (Q1.out.keep (B := wq.heap.size) q2 hW)
          go_simp
        intro K hK
        go_simp
        with_reducible refine hK _ ?_
        clear hK K
        with_reducible refine class_opk (.bool false) ?_ ?_ ?_
        · first | exact rfl | go_simp
        · intro W hW
          go_simp
          refine class_call0 hW ?_
          rw [← HK2.out]
          exact value_range _ _
        intro K hK
        go_simp
        with_reducible refine hK _ ?_
        clear hK K
        with_reducible refine class_opk (.bool true) ?_ ?_ ?_
        · first | exact rfl | go_simp
        · intro W hW
          go_simp
        intro K hK
        go_simp
        with_reducible refine hK _ ?_
        clear hK K
        with_reducible refine class_opk (.bool true) ?_ ?_ ?_
        · first | exact rfl | go_simp
        · intro W hW
          go_simp
        intro K hK
        go_simp
        with_reducible refine hK _ ?_
        clear hK K
        with_reducible refine class_opk (.bool true) ?_ ?_ ?_
        · first | exact rfl | go_simp
        · intro W hW
          go_simp
        intro K hK
        go_simp
        with_reducible refine hK _ ?_
        clear hK K
        with_reducible refine class_skipk ?_ ?_
        · first | exact rfl | (go_simp; try simp [undef])
        intro K hK
        go_simp
        with_reducible refine hK _ ?_
        clear hK K
        with_reducible refine class_skipk ?_ ?_
        · first | exact rfl | (go_simp; try simp [undef])
        intro K hK
        go_simp
        with_reducible refine hK _ ?_
        clear hK K
        with_reducible refine class_skipk ?_ ?_
        · first | exact rfl | (go_simp; try simp [undef])
        intro K hK
        go_simp
        with_reducible refine hK _ ?_
        clear hK K
        with_reducible refine class_skipk ?_ ?_
        · first | exact rfl | (go_simp; try simp [undef])
        intro K hK
        go_simp
        with_reducible refine hK _ ?_
        clear hK K
        with_reducible refine class_skipk ?_ ?_
        · first | exact rfl | (go_simp; try simp [undef])
        intro K hK
        go_simp
        with_reducible refine hK _ ?_
        clear hK K
        with_reducible refine class_skipk ?_ ?_
        · first | exact rfl | (go_simp; try simp [undef])
        intro K hK
        go_simp
        with_reducible refine hK _ ?_
        clear hK K
        with_reducible refine class_skipk ?_ ?_
        · first | exact rfl | (go_simp; try simp [undef])
        intro K hK
        go_simp
        with_reducible refine hK _ ?_
        clear hK K
        with_reducible refine class_skipk ?_ ?_
        · first | exact rfl | (go_simp; try simp [undef])
        intro K hK
        go_simp
        with_reducible refine hK _ ?_
        clear hK K
        with_reducible refine class_skipk ?_ ?_
        · first | exact rfl | (go_simp; try simp [undef])
        intro K hK
        go_simp
        with_reducible refine hK _ ?_
        clear hK K
        with_reducible refine class_skipk ?_ ?_
        · first | exact rfl | (go_simp; try simp [undef])
        intro K hK
        go_simp
        with_reducible refine hK _ ?_
        clear hK K
        with_reducible refine class_skipk ?_ ?_
        · first | exact rfl | (go_simp; try simp [undef])
        intro K hK
        go_simp
        with_reducible refine hK _ ?_
        clear hK K
        with_reducible refine class_skipk ?_ ?_
        · first | exact rfl | (go_simp; try simp [undef])
        intro K hK
        go_simp
        with_reducible refine hK _ ?_
        clear hK K
        with_reducible refine class_skipk ?_ ?_
        · first | exact rfl | (go_simp; try simp [undef])
        intro K hK
        go_simp
        with_reducible refine hK _ ?_
        clear hK K
        with_reducible refine class_opk (.bool true) ?_ ?_ ?_
        · first | exact rfl | go_simp
        · intro W hW
          go_simp
        intro K hK
        go_simp
        with_reducible refine hK _ ?_
        clear hK K
        with_reducible refine class_end ?_
        intro W1 hW1
        go_simp
        have HB1 : Hid (Below w.heap.size w W1) := Lib.hid (HQ.out.trans (hW1.mono HQ.out.size))
        clear hW1
        go_wp2_with fail
        go_ret
        exact ⟨ret_b (sq_bad HX.out (okW_b HK2.out)).symm, HB1.out⟩
      have HK2 := Lib.hid hk2
      by_cases h0 : 0 < k
      · obtain ⟨b', o', y, hbo, hbB', hy, d0, d1⟩ := (H1.out.below (below_le HB.out hB)).at_ (k := k - 1) (by omega)
        injection hbo with hbo
        injection hbo with e1 e2
        subst e1
        subst e2
        have HY := Lib.hid hy
        clear hy
        have s1 : IntKind.i64.wrap ((k : Int) - 1) = (k : Int) - 1 := IntWalk.i64_in _ (by omega)
        have s2 : (0 : Int) ≤ (k : Int) - 1 := by omega
        have s3 : ((k : Int) - 1).toNat = k - 1 := by omega
        have s4 : (k : Int) - 1 < (n : Int) := by omega
        have s5 : (1 : Int) ≤ (k : Int) := by omega
        have hg : decide (0 < k) = true := decide_eq_true h0
        by_cases hlt2 : y.a < x.a
        · have HF := Lib.hid (folW_yes hlt2)
          have s6 : decide (x.a ≤ y.a) = false := decide_eq_false (by omega)
          go_wp2_with fail
          have q0 := new1 wr (.cells #[.int .i64 x.a, .int .i64 x.b] 86)
          have q1 := boxed wr x 86
          have q2 : wr.heap.size < (wr.alloc (.cells #[.int .i64 x.a, .int .i64 x.b] 86)).heap.size := by simp
          have hbs := HB.out.size
          obtain ⟨N, hN⟩ : ∃ N, N = wr.heap.size := ⟨_, rfl⟩
          simp only [← hN] at q0 q1 q2 hbs ⊢
          generalize wr.alloc (.cells #[.int .i64 x.a, .int .i64 x.b] 86) = wq at q0 q1 q2 ⊢
          have E0 : Hid (At wq b (o + (k - 1) * 2) y) := Lib.hid (At.keep ⟨d0, d1⟩ (B := N) (by omega) q0)
          have E1 : b < wq.heap.size := by omega
          clear d0 d1
          have HQ : Hid (Below w.heap.size w wq) := Lib.hid (HB.out.trans (q0.mono hbs))
          have Q1 := Lib.hid q1
          clear a0 a1 hN q0 q1
          refine class_region wq.heap.size (by kernel_rfl) (by kernel_rfl) ?_
          with_reducible refine class_opk (.pointer (some ⟨N, 0, none⟩)) ?_ ?_ ?_
          · first | exact rfl | go_simp
          · intro W hW
            go_simp
          intro K hK
          go_simp
          with_reducible refine hK _ ?_
          clear hK K
          with_reducible refine class_opk (.int .i64 x.a) ?_ ?_ ?_
          · first | exact rfl | go_simp
          · intro W hW
            obtain ⟨g0, g1⟩ := atFlat (Q1.out.keep (B := wq.heap.size) q2 hW)
            go_simp
          intro K hK
          go_simp
          with_reducible refine hK _ ?_
          clear hK K
          with_reducible refine class_opk (.bool true) ?_ ?_ ?_
          · first | exact rfl | go_simp
          · intro W hW
            go_simp
            refine class_call0 hW ?_
            rw [← HK1.out]
            exact is_key _ _
          intro K hK
          go_simp
          with_reducible refine hK _ ?_
          clear hK K
          with_reducible refine class_opk (.bool false) ?_ ?_ ?_
          · first | exact rfl | go_simp
          · intro W hW
            go_simp
          intro K hK
          go_simp
          with_reducible refine hK _ ?_
          clear hK K
          with_reducible refine class_opk (.bool false) ?_ ?_ ?_
          · first | exact rfl | go_simp
          · intro W hW
            go_simp
          intro K hK
          go_simp
          with_reducible refine hK _ ?_
          clear hK K
          with_reducible refine class_opk (.pointer (some ⟨N, 1, none⟩)) ?_ ?_ ?_
          · first | exact rfl | go_simp
          · intro W hW
            go_simp
          intro K hK
          go_simp
          with_reducible refine hK _ ?_
          clear hK K
          with_reducible refine class_opk (.int .i64 x.b) ?_ ?_ ?_
          · first | exact rfl | go_simp
          · intro W hW
            obtain ⟨g0, g1⟩ := atFlat (Q1.out.keep (B := wq.heap.size) q2 hW)
            go_simp
          intro K hK
          go_simp
          with_reducible refine hK _ ?_
          clear hK K
          with_reducible refine class_opk (.bool true) ?_ ?_ ?_
          · first | exact rfl | go_simp
          · intro W hW
            go_simp
            refine class_call0 hW ?_
            rw [← HK2.out]
            exact value_range _ _
          intro K hK
          go_simp
          with_reducible refine hK _ ?_
          clear hK K
          with_reducible refine class_opk (.bool false) ?_ ?_ ?_
          · first | exact rfl | go_simp
          · intro W hW
            go_simp
          intro K hK
          go_simp
          with_reducible refine hK _ ?_
          clear hK K
          with_reducible refine class_opk (.bool false) ?_ ?_ ?_
          · first | exact rfl | go_simp
          · intro W hW
            go_simp
          intro K hK
          go_simp
          with_reducible refine hK _ ?_
          clear hK K
          with_reducible refine class_opk (.bool false) ?_ ?_ ?_
          · first | exact rfl | go_simp
          · intro W hW
            go_simp
          intro K hK
          go_simp
          with_reducible refine hK _ ?_
          clear hK K
          with_reducible refine class_opk (.int .i64 k) ?_ ?_ ?_
          · first | exact rfl | go_simp
          · intro W hW
            go_simp
          intro K hK
          go_simp
          with_reducible refine hK _ ?_
          clear hK K
          with_reducible refine class_opk (.bool true) ?_ ?_ ?_
          · first | exact rfl | go_simp
          · intro W hW
            go_simp
          intro K hK
          go_simp
          with_reducible refine hK _ ?_
          clear hK K
          with_reducible refine class_opk (.bool true) ?_ ?_ ?_
          · first | exact rfl | go_simp
          · intro W hW
            go_simp
          intro K hK
          go_simp
          with_reducible refine hK _ ?_
          clear hK K
          with_reducible refine class_opk (.slice (some ⟨b, o, none⟩) n c) ?_ ?_ ?_
          · first | exact rfl | go_simp
          · intro W hW
            go_simp
          intro K hK
          go_simp
          with_reducible refine hK _ ?_
          clear hK K
          with_reducible refine class_opk (.int .i64 k) ?_ ?_ ?_
          · first | exact rfl | go_simp
          · intro W hW
            go_simp
          intro K hK
          go_simp
          with_reducible refine hK _ ?_
          clear hK K
          with_reducible refine class_opk (.int .i64 ((k : Int) - 1)) ?_ ?_ ?_
          · first | exact rfl | go_simp
          · intro W hW
            go_simp
          intro K hK
          go_simp
          with_reducible refine hK _ ?_
          clear hK K
          with_reducible refine class_opk (.pointer (some ⟨b, o + (k - 1) * 2, none⟩)) ?_ ?_ ?_
          · first | exact rfl | go_simp
          · intro W hW
            go_simp
          intro K hK
          go_simp
          with_reducible refine hK _ ?_
          clear hK K
          with_reducible refine class_opk (.pointer (some ⟨b, o + (k - 1) * 2, none⟩)) ?_ ?_ ?_
          · first | exact rfl | go_simp
          · intro W hW
            go_simp
          intro K hK
          go_simp
          with_reducible refine hK _ ?_
          clear hK K
          with_reducible refine class_opk (.int .i64 y.a) ?_ ?_ ?_
          · first | exact rfl | go_simp
          · intro W hW
            obtain ⟨g0, g1⟩ := E0.out.keep (B := wq.heap.size) E1 hW
            go_simp
          intro K hK
          go_simp
          with_reducible refine hK _ ?_
          clear hK K
          with_reducible refine class_opk (.pointer (some ⟨N, 0, none⟩)) ?_ ?_ ?_
          · first | exact rfl | go_simp
          · intro W hW
            go_simp
          intro K hK
          go_simp
          with_reducible refine hK _ ?_
          clear hK K
          with_reducible refine class_opk (.int .i64 x.a) ?_ ?_ ?_
          · first | exact rfl | go_simp
          · intro W hW
            obtain ⟨g0, g1⟩ := atFlat (Q1.out.keep (B := wq.heap.size) q2 hW)
            go_simp
          intro K hK
          go_simp
          with_reducible refine hK _ ?_
          clear hK K
          with_reducible refine class_opk (.bool false) ?_ ?_ ?_
          · first | exact rfl | go_simp
          · intro W hW
            go_simp
          intro K hK
          go_simp
          with_reducible refine hK _ ?_
          clear hK K
          with_reducible refine class_opk (.bool false) ?_ ?_ ?_
          · first | exact rfl | go_simp
          · intro W hW
            go_simp
          intro K hK
          go_simp
          with_reducible refine hK _ ?_
          clear hK K
          with_reducible refine class_opk (.bool false) ?_ ?_ ?_
          · first | exact rfl | go_simp
          · intro W hW
            go_simp
          intro K hK
          go_simp
          with_reducible refine hK _ ?_
          clear hK K
          with_reducible refine class_end ?_
          intro W1 hW1
          go_simp
          have HB1 : Hid (Below w.heap.size w W1) := Lib.hid (HQ.out.trans (hW1.mono HQ.out.size))
          clear hW1
          go_wp2_with fail
          go_roundw
          case rel => exact ⟨k + 1, by omega, by go_num, pri_step HP.out HX.out (okW_yes HK1.out HK2.out) (fun _ z hz => by have := HY.out; rw [this] at hz; cases hz; exact HF.out), HB1.out⟩
          case measure => simp [intOf]; omega
        · have HF := Lib.hid (folW_no hlt2)
          have s6 : decide (x.a ≤ y.a) = true := decide_eq_true (by omega)
          go_wp2_with fail
          have q0 := new1 wr (.cells #[.int .i64 x.a, .int .i64 x.b] 86)
          have q1 := boxed wr x 86
          have q2 : wr.heap.size < (wr.alloc (.cells #[.int .i64 x.a, .int .i64 x.b] 86)).heap.size := by simp
          have hbs := HB.out.size
          obtain ⟨N, hN⟩ : ∃ N, N = wr.heap.size := ⟨_, rfl⟩
          simp only [← hN] at q0 q1 q2 hbs ⊢
          generalize wr.alloc (.cells #[.int .i64 x.a, .int .i64 x.b] 86) = wq at q0 q1 q2 ⊢
          have E0 : Hid (At wq b (o + (k - 1) * 2) y) := Lib.hid (At.keep ⟨d0, d1⟩ (B := N) (by omega) q0)
          have E1 : b < wq.heap.size := by omega
          clear d0 d1
          have HQ : Hid (Below w.heap.size w wq) := Lib.hid (HB.out.trans (q0.mono hbs))
          have Q1 := Lib.hid q1
          clear a0 a1 hN q0 q1
          refine class_region wq.heap.size (by kernel_rfl) (by kernel_rfl) ?_
          with_reducible refine class_opk (.pointer (some ⟨N, 0, none⟩)) ?_ ?_ ?_
          · first | exact rfl | go_simp
          · intro W hW
            go_simp
          intro K hK
          go_simp
          with_reducible refine hK _ ?_
          clear hK K
          with_reducible refine class_opk (.int .i64 x.a) ?_ ?_ ?_
          · first | exact rfl | go_simp
          · intro W hW
            obtain ⟨g0, g1⟩ := atFlat (Q1.out.keep (B := wq.heap.size) q2 hW)
            go_simp
          intro K hK
          go_simp
          with_reducible refine hK _ ?_
          clear hK K
          with_reducible refine class_opk (.bool true) ?_ ?_ ?_
          · first | exact rfl | go_simp
          · intro W hW
            go_simp
            refine class_call0 hW ?_
            rw [← HK1.out]
            exact is_key _ _
          intro K hK
          go_simp
          with_reducible refine hK _ ?_
          clear hK K
          with_reducible refine class_opk (.bool false) ?_ ?_ ?_
          · first | exact rfl | go_simp
          · intro W hW
            go_simp
          intro K hK
          go_simp
          with_reducible refine hK _ ?_
          clear hK K
          with_reducible refine class_opk (.bool false) ?_ ?_ ?_
          · first | exact rfl | go_simp
          · intro W hW
            go_simp
          intro K hK
          go_simp
          with_reducible refine hK _ ?_
          clear hK K
          with_reducible refine class_opk (.pointer (some ⟨N, 1, none⟩)) ?_ ?_ ?_
          · first | exact rfl | go_simp
          · intro W hW
            go_simp
          intro K hK
          go_simp
          with_reducible refine hK _ ?_
          clear hK K
          with_reducible refine class_opk (.int .i64 x.b) ?_ ?_ ?_
          · first | exact rfl | go_simp
          · intro W hW
            obtain ⟨g0, g1⟩ := atFlat (Q1.out.keep (B := wq.heap.size) q2 hW)
            go_simp
          intro K hK
          go_simp
          with_reducible refine hK _ ?_
          clear hK K
          with_reducible refine class_opk (.bool true) ?_ ?_ ?_
          · first | exact rfl | go_simp
          · intro W hW
            go_simp
            refine class_call0 hW ?_
            rw [← HK2.out]
            exact value_range _ _
          intro K hK
          go_simp
          with_reducible refine hK _ ?_
          clear hK K
          with_reducible refine class_opk (.bool false) ?_ ?_ ?_
          · first | exact rfl | go_simp
          · intro W hW
            go_simp
          intro K hK
          go_simp
          with_reducible refine hK _ ?_
          clear hK K
          with_reducible refine class_opk (.bool false) ?_ ?_ ?_
          · first | exact rfl | go_simp
          · intro W hW
            go_simp
          intro K hK
          go_simp
          with_reducible refine hK _ ?_
          clear hK K
          with_reducible refine class_opk (.bool false) ?_ ?_ ?_
          · first | exact rfl | go_simp
          · intro W hW
            go_simp
          intro K hK
          go_simp
          with_reducible refine hK _ ?_
          clear hK K
          with_reducible refine class_opk (.int .i64 k) ?_ ?_ ?_
          · first | exact rfl | go_simp
          · intro W hW
            go_simp
          intro K hK
          go_simp
          with_reducible refine hK _ ?_
          clear hK K
          with_reducible refine class_opk (.bool true) ?_ ?_ ?_
          · first | exact rfl | go_simp
          · intro W hW
            go_simp
          intro K hK
          go_simp
          with_reducible refine hK _ ?_
          clear hK K
          with_reducible refine class_opk (.bool true) ?_ ?_ ?_
          · first | exact rfl | go_simp
          · intro W hW
            go_simp
          intro K hK
          go_simp
          with_reducible refine hK _ ?_
          clear hK K
          with_reducible refine class_opk (.slice (some ⟨b, o, none⟩) n c) ?_ ?_ ?_
          · first | exact rfl | go_simp
          · intro W hW
            go_simp
          intro K hK
          go_simp
          with_reducible refine hK _ ?_
          clear hK K
          with_reducible refine class_opk (.int .i64 k) ?_ ?_ ?_
          · first | exact rfl | go_simp
          · intro W hW
            go_simp
          intro K hK
          go_simp
          with_reducible refine hK _ ?_
          clear hK K
          with_reducible refine class_opk (.int .i64 ((k : Int) - 1)) ?_ ?_ ?_
          · first | exact rfl | go_simp
          · intro W hW
            go_simp
          intro K hK
          go_simp
          with_reducible refine hK _ ?_
          clear hK K
          with_reducible refine class_opk (.pointer (some ⟨b, o + (k - 1) * 2, none⟩)) ?_ ?_ ?_
          · first | exact rfl | go_simp
          · intro W hW
            go_simp
          intro K hK
          go_simp
          with_reducible refine hK _ ?_
          clear hK K
          with_reducible refine class_opk (.pointer (some ⟨b, o + (k - 1) * 2, none⟩)) ?_ ?_ ?_
          · first | exact rfl | go_simp
          · intro W hW
            go_simp
          intro K hK
          go_simp
          with_reducible refine hK _ ?_
          clear hK K
          with_reducible refine class_opk (.int .i64 y.a) ?_ ?_ ?_
          · first | exact rfl | go_simp
          · intro W hW
            obtain ⟨g0, g1⟩ := E0.out.keep (B := wq.heap.size) E1 hW
            go_simp
          intro K hK
          go_simp
          with_reducible refine hK _ ?_
          clear hK K
          with_reducible refine class_opk (.pointer (some ⟨N, 0, none⟩)) ?_ ?_ ?_
          · first | exact rfl | go_simp
          · intro W hW
            go_simp
          intro K hK
          go_simp
          with_reducible refine hK _ ?_
          clear hK K
          with_reducible refine class_opk (.int .i64 x.a) ?_ ?_ ?_
          · first | exact rfl | go_simp
          · intro W hW
            obtain ⟨g0, g1⟩ := atFlat (Q1.out.keep (B := wq.heap.size) q2 hW)
            go_simp
          intro K hK
          go_simp
          with_reducible refine hK _ ?_
          clear hK K
          with_reducible refine class_opk (.bool true) ?_ ?_ ?_
          · first | exact rfl | go_simp
          · intro W hW
            go_simp
          intro K hK
          go_simp
          with_reducible refine hK _ ?_
          clear hK K
          with_reducible refine class_opk (.bool true) ?_ ?_ ?_
          · first | exact rfl | go_simp
          · intro W hW
            go_simp
          intro K hK
          go_simp
          with_reducible refine hK _ ?_
          clear hK K
          with_reducible refine class_opk (.bool true) ?_ ?_ ?_
          · first | exact rfl | go_simp
          · intro W hW
            go_simp
          intro K hK
          go_simp
          with_reducible refine hK _ ?_
          clear hK K
          with_reducible refine class_end ?_
          intro W1 hW1
          go_simp
          have HB1 : Hid (Below w.heap.size w W1) := Lib.hid (HQ.out.trans (hW1.mono HQ.out.size))
          clear hW1
          go_wp2_with fail
          go_ret
          exact ⟨ret_b (sq_off h0 HY.out HX.out HF.out).symm, HB1.out⟩
      · have hg : decide (0 < k) = false := decide_eq_false h0
        go_wp2_with fail
        have q0 := new1 wr (.cells #[.int .i64 x.a, .int .i64 x.b] 86)
        have q1 := boxed wr x 86
        have q2 : wr.heap.size < (wr.alloc (.cells #[.int .i64 x.a, .int .i64 x.b] 86)).heap.size := by simp
        have hbs := HB.out.size
        obtain ⟨N, hN⟩ : ∃ N, N = wr.heap.size := ⟨_, rfl⟩
        simp only [← hN] at q0 q1 q2 hbs ⊢
        generalize wr.alloc (.cells #[.int .i64 x.a, .int .i64 x.b] 86) = wq at q0 q1 q2 ⊢
        have HQ : Hid (Below w.heap.size w wq) := Lib.hid (HB.out.trans (q0.mono hbs))
        have Q1 := Lib.hid q1
        clear a0 a1 hN q0 q1
        refine class_region wq.heap.size (by kernel_rfl) (by kernel_rfl) ?_
        with_reducible refine class_opk (.pointer (some ⟨N, 0, none⟩)) ?_ ?_ ?_
        · first | exact rfl | go_simp
        · intro W hW
          go_simp
        intro K hK
        go_simp
        with_reducible refine hK _ ?_
        clear hK K
        with_reducible refine class_opk (.int .i64 x.a) ?_ ?_ ?_
        · first | exact rfl | go_simp
        · intro W hW
          obtain ⟨g0, g1⟩ := atFlat (Q1.out.keep (B := wq.heap.size) q2 hW)
          go_simp
        intro K hK
        go_simp
        with_reducible refine hK _ ?_
        clear hK K
        with_reducible refine class_opk (.bool true) ?_ ?_ ?_
        · first | exact rfl | go_simp
        · intro W hW
          go_simp
          refine class_call0 hW ?_
          rw [← HK1.out]
          exact is_key _ _
        intro K hK
        go_simp
        with_reducible refine hK _ ?_
        clear hK K
        with_reducible refine class_opk (.bool false) ?_ ?_ ?_
        · first | exact rfl | go_simp
        · intro W hW
          go_simp
        intro K hK
        go_simp
        with_reducible refine hK _ ?_
        clear hK K
        with_reducible refine class_opk (.bool false) ?_ ?_ ?_
        · first | exact rfl | go_simp
        · intro W hW
          go_simp
        intro K hK
        go_simp
        with_reducible refine hK _ ?_
        clear hK K
        with_reducible refine class_opk (.pointer (some ⟨N, 1, none⟩)) ?_ ?_ ?_
        · first | exact rfl | go_simp
        · intro W hW
          go_simp
        intro K hK
        go_simp
        with_reducible refine hK _ ?_
        clear hK K
        with_reducible refine class_opk (.int .i64 x.b) ?_ ?_ ?_
        · first | exact rfl | go_simp
        · intro W hW
          obtain ⟨g0, g1⟩ := atFlat (Q1.out.keep (B := wq.heap.size) q2 hW)
          go_simp
        intro K hK
        go_simp
        with_reducible refine hK _ ?_
        clear hK K
        with_reducible refine class_opk (.bool true) ?_ ?_ ?_
        · first | exact rfl | go_simp
        · intro W hW
          go_simp
          refine class_call0 hW ?_
          rw [← HK2.out]
          exact value_range _ _
        intro K hK
        go_simp
        with_reducible refine hK _ ?_
        clear hK K
        with_reducible refine class_opk (.bool false) ?_ ?_ ?_
        · first | exact rfl | go_simp
        · intro W hW
          go_simp
        intro K hK
        go_simp
        with_reducible refine hK _ ?_
        clear hK K
        with_reducible refine class_opk (.bool false) ?_ ?_ ?_
        · first | exact rfl | go_simp
        · intro W hW
          go_simp
        intro K hK
        go_simp
        with_reducible refine hK _ ?_
        clear hK K
        with_reducible refine class_opk (.bool false) ?_ ?_ ?_
        · first | exact rfl | go_simp
        · intro W hW
          go_simp
        intro K hK
        go_simp
        with_reducible refine hK _ ?_
        clear hK K
        with_reducible refine class_opk (.int .i64 k) ?_ ?_ ?_
        · first | exact rfl | go_simp
        · intro W hW
          go_simp
        intro K hK
        go_simp
        with_reducible refine hK _ ?_
        clear hK K
        with_reducible refine class_opk (.bool false) ?_ ?_ ?_
        · first | exact rfl | go_simp
        · intro W hW
          go_simp
        intro K hK
        go_simp
        with_reducible refine hK _ ?_
        clear hK K
        with_reducible refine class_opk (.bool false) ?_ ?_ ?_
        · first | exact rfl | go_simp
        · intro W hW
          go_simp
        intro K hK
        go_simp
        with_reducible refine hK _ ?_
        clear hK K
        with_reducible refine class_skipk ?_ ?_
        · first | exact rfl | (go_simp; try simp [undef])
        intro K hK
        go_simp
        with_reducible refine hK _ ?_
        clear hK K
        with_reducible refine class_skipk ?_ ?_
        · first | exact rfl | (go_simp; try simp [undef])
        intro K hK
        go_simp
        with_reducible refine hK _ ?_
        clear hK K
        with_reducible refine class_skipk ?_ ?_
        · first | exact rfl | (go_simp; try simp [undef])
        intro K hK
        go_simp
        with_reducible refine hK _ ?_
        clear hK K
        with_reducible refine class_skipk ?_ ?_
        · first | exact rfl | (go_simp; try simp [undef])
        intro K hK
        go_simp
        with_reducible refine hK _ ?_
        clear hK K
        with_reducible refine class_skipk ?_ ?_
        · first | exact rfl | (go_simp; try simp [undef])
        intro K hK
        go_simp
        with_reducible refine hK _ ?_
        clear hK K
        with_reducible refine class_skipk ?_ ?_
        · first | exact rfl | (go_simp; try simp [undef])
        intro K hK
        go_simp
        with_reducible refine hK _ ?_
        clear hK K
        with_reducible refine class_skipk ?_ ?_
        · first | exact rfl | (go_simp; try simp [undef])
        intro K hK
        go_simp
        with_reducible refine hK _ ?_
        clear hK K
        with_reducible refine class_skipk ?_ ?_
        · first | exact rfl | (go_simp; try simp [undef])
        intro K hK
        go_simp
        with_reducible refine hK _ ?_
        clear hK K
        with_reducible refine class_skipk ?_ ?_
        · first | exact rfl | (go_simp; try simp [undef])
        intro K hK
        go_simp
        with_reducible refine hK _ ?_
        clear hK K
        with_reducible refine class_opk (.bool false) ?_ ?_ ?_
        · first | exact rfl | go_simp
        · intro W hW
          go_simp
        intro K hK
        go_simp
        with_reducible refine hK _ ?_
        clear hK K
        with_reducible refine class_opk (.bool false) ?_ ?_ ?_
        · first | exact rfl | go_simp
        · intro W hW
          go_simp
        intro K hK
        go_simp
        with_reducible refine hK _ ?_
        clear hK K
        with_reducible refine class_end ?_
        intro W1 hW1
        go_simp
        have HB1 : Hid (Below w.heap.size w W1) := Lib.hid (HQ.out.trans (hW1.mono HQ.out.size))
        clear hW1
        go_wp2_with fail
        go_roundw
        case rel => exact ⟨k + 1, by omega, by go_num, pri_step HP.out HX.out (okW_yes HK1.out HK2.out) (fun h => absurd h h0), HB1.out⟩
        case measure => simp [intOf]; omega
    · obtain rfl : k = n := by omega
      have HB := Lib.hid hb
      have HL := Lib.hid (sq_all hln HP.out)
      clear hb
      go_wp2_with fail
      go_ret
      exact ⟨ret_b HL.out.symm, HB.out⟩
theorem txB_h {x : Hd} {R S : List E2} (h : hdB x = false) : txB x R S = false := by simp [txB, h]
theorem txB_r {x : Hd} {R S : List E2} (h : rdB R = false) : txB x R S = false := by simp [txB, h]
theorem txB_w {x : Hd} {R S : List E2} (h : hdB x = true) (h2 : rdB R = true) : wrB S = txB x R S := by simp [txB, h, h2]
set_option maxRecDepth 100000 in
set_option maxHeartbeats 1600000 in
theorem impl_tx {w : World} {B n c n2 c2 : Nat} {A A2 : Option Addr} {R S : List E2} (x : Hd) (hn : n ≤ 140737488355328) (hn2 : n2 ≤ 140737488355328) (h1 : Vs w B A n R) (h2 : Vs w B A2 n2 S) (hB : B ≤ w.heap.size) :
    Calls Tryz.prog 69 #[.agg #[.int .i64 x.i, .int .i64 x.s, .int .i64 x.t, .int .i64 x.b, .int .i64 x.l, .int .i64 x.h, .int .i64 x.c, .slice A n c, .slice A2 n2 c2]] w fun e w' => e = .returned (.bool (txB x R S)) ∧ Below w.heap.size w w' := by
  have H1 := Lib.hid h1
  have H2 := Lib.hid h2
  clear h1 h2
  rcases k0 : hdB x with _ | _
  · have K0 := Lib.hid k0
    clear k0
    go_enter Tryz.func69, Tryz.ntmps69
    go_wp2_with fail
    have hb := new1 w (.cells #[.int .i64 x.i, .int .i64 x.s, .int .i64 x.t, .int .i64 x.b, .int .i64 x.l, .int .i64 x.h, .int .i64 x.c, .slice A n c, .slice A2 n2 c2] 55)
    have tb := TB.new w x A n c A2 n2 c2 55
    have hs : (w.alloc (.cells #[.int .i64 x.i, .int .i64 x.s, .int .i64 x.t, .int .i64 x.b, .int .i64 x.l, .int .i64 x.h, .int .i64 x.c, .slice A n c, .slice A2 n2 c2] 55)).heap.size = w.heap.size + 1 := by simp
    generalize w.alloc _ = W0 at hb tb hs ⊢
    refine (header_of x A n c A2 n2 c2 _).mono ?_
    rintro e W1 ⟨rfl, hb1⟩
    have tb1 := tb.keep (by omega) hb1
    have HB1 := Lib.hid (hb.trans (hb1.mono (by omega)))
    have hs1 := hb1.size
    clear hb hb1 tb
    go_wp2_with fail
    refine (header_valid x _).mono ?_
    rintro e W2 ⟨rfl, hb2⟩
    obtain ⟨t0, t1, t2, t3, t4, t5, t6, t7, t8⟩ := tb1.keep (by omega) hb2
    have HB2 := Lib.hid (HB1.out.trans (hb2.mono HB1.out.size))
    have hs2 := hb2.size
    rw [K0.out]
    clear hb2 tb1 t0 t1 t2 t3 t4 t5 t6
    go_wp2_with fail
    go_ret
    exact ⟨ret_b (txB_h K0.out).symm, HB2.out⟩
  have K0 := Lib.hid k0
  clear k0
  rcases k1 : rdB R with _ | _
  · have K1 := Lib.hid k1
    clear k1
    go_enter Tryz.func69, Tryz.ntmps69
    go_wp2_with fail
    have hb := new1 w (.cells #[.int .i64 x.i, .int .i64 x.s, .int .i64 x.t, .int .i64 x.b, .int .i64 x.l, .int .i64 x.h, .int .i64 x.c, .slice A n c, .slice A2 n2 c2] 55)
    have tb := TB.new w x A n c A2 n2 c2 55
    have hs : (w.alloc (.cells #[.int .i64 x.i, .int .i64 x.s, .int .i64 x.t, .int .i64 x.b, .int .i64 x.l, .int .i64 x.h, .int .i64 x.c, .slice A n c, .slice A2 n2 c2] 55)).heap.size = w.heap.size + 1 := by simp
    generalize w.alloc _ = W0 at hb tb hs ⊢
    refine (header_of x A n c A2 n2 c2 _).mono ?_
    rintro e W1 ⟨rfl, hb1⟩
    have tb1 := tb.keep (by omega) hb1
    have HB1 := Lib.hid (hb.trans (hb1.mono (by omega)))
    have hs1 := hb1.size
    clear hb hb1 tb
    go_wp2_with fail
    refine (header_valid x _).mono ?_
    rintro e W2 ⟨rfl, hb2⟩
    obtain ⟨t0, t1, t2, t3, t4, t5, t6, t7, t8⟩ := tb1.keep (by omega) hb2
    have HB2 := Lib.hid (HB1.out.trans (hb2.mono HB1.out.size))
    have hs2 := hb2.size
    rw [K0.out]
    clear hb2 tb1 t0 t1 t2 t3 t4 t5 t6
    go_wp2_with fail
    refine (impl_reads hn (H1.out.below (below_le HB2.out hB)) (by omega)).mono ?_
    rintro e W3 ⟨rfl, hb3⟩
    have t8 := (hb3.cell (p := ⟨w.heap.size, 8, none⟩) (by simp; omega)).trans t8
    have HB3 := Lib.hid (HB2.out.trans (hb3.mono HB2.out.size))
    have hs3 := hb3.size
    rw [K1.out]
    clear hb3 t7
    go_wp2_with fail
    go_ret
    exact ⟨ret_b (txB_r K1.out).symm, HB3.out⟩
  have K1 := Lib.hid k1
  clear k1
  go_enter Tryz.func69, Tryz.ntmps69
  go_wp2_with fail
  have hb := new1 w (.cells #[.int .i64 x.i, .int .i64 x.s, .int .i64 x.t, .int .i64 x.b, .int .i64 x.l, .int .i64 x.h, .int .i64 x.c, .slice A n c, .slice A2 n2 c2] 55)
  have tb := TB.new w x A n c A2 n2 c2 55
  have hs : (w.alloc (.cells #[.int .i64 x.i, .int .i64 x.s, .int .i64 x.t, .int .i64 x.b, .int .i64 x.l, .int .i64 x.h, .int .i64 x.c, .slice A n c, .slice A2 n2 c2] 55)).heap.size = w.heap.size + 1 := by simp
  generalize w.alloc _ = W0 at hb tb hs ⊢
  refine (header_of x A n c A2 n2 c2 _).mono ?_
  rintro e W1 ⟨rfl, hb1⟩
  have tb1 := tb.keep (by omega) hb1
  have HB1 := Lib.hid (hb.trans (hb1.mono (by omega)))
  have hs1 := hb1.size
  clear hb hb1 tb
  go_wp2_with fail
  refine (header_valid x _).mono ?_
  rintro e W2 ⟨rfl, hb2⟩
  obtain ⟨t0, t1, t2, t3, t4, t5, t6, t7, t8⟩ := tb1.keep (by omega) hb2
  have HB2 := Lib.hid (HB1.out.trans (hb2.mono HB1.out.size))
  have hs2 := hb2.size
  rw [K0.out]
  clear hb2 tb1 t0 t1 t2 t3 t4 t5 t6
  go_wp2_with fail
  refine (impl_reads hn (H1.out.below (below_le HB2.out hB)) (by omega)).mono ?_
  rintro e W3 ⟨rfl, hb3⟩
  have t8 := (hb3.cell (p := ⟨w.heap.size, 8, none⟩) (by simp; omega)).trans t8
  have HB3 := Lib.hid (HB2.out.trans (hb3.mono HB2.out.size))
  have hs3 := hb3.size
  rw [K1.out]
  clear hb3 t7
  go_wp2_with fail
  refine (impl_writes hn2 (H2.out.below (below_le HB3.out hB)) (by omega)).mono ?_
  rintro e W4 ⟨rfl, hb4⟩
  have HB4 := Lib.hid (HB3.out.trans (hb4.mono HB3.out.size))
  clear hb4 t8
  go_wp2_with fail
  go_ret
  exact ⟨ret_b (txB_w K0.out K1.out), HB4.out⟩
end Go.Proofs.YtjnlbhmddhpmaaaGreat.tv
