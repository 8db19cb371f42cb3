/- When a list of versions is a chain; the program's and the model's IsValidChain, and what each answers; nothing that was there is written. -/
import Derived.Test.YtjnlbhmddhpmaaaGreatSl
import Derived.WalkKit
import Derived.ProofKit
import Derived.Below
import Derived.Lib.Hide
import Derived.LoopTactic
import Derived.Deep.QuietTactic
import Derived.BigQuiet
import Derived.StillTailTactics
import Derived.Outline
import Derived.IntWalk
import Derived.Deep.RegionHeld3
namespace Go.Proofs.YtjnlbhmddhpmaaaGreat.ch
open Go.ChangeShapes Go.WideShapes Go.ChangeAt Go.RowKit
open Go.Proofs.YtjnlbhmddhpmaaaGreat.vers Go.Proofs.YtjnlbhmddhpmaaaGreat.sl
set_option linter.unusedVariables false
set_option linter.unusedSimpArgs false
def okV (x : Ver) : Bool := vB x.a x.b x.c x.d x.e
def fol (x y : Ver) : Bool := fB x.c x.e y.c
def ChP (l : List Ver) : Prop :=
  (∀ (k : Nat) (x : Ver), l[k]? = some x → okV x = true) ∧ (∀ (k : Nat) (x y : Ver), l[k]? = some x → l[k + 1]? = some y → fol x y = true) ∧ ∃ x : Ver, l[l.length - 1]? = some x ∧ x.e = 1000
noncomputable def chB (l : List Ver) : Bool := @decide (ChP l) (Classical.propDecidable _)
theorem ch_yes {l : List Ver} (h : ChP l) : chB l = true := by unfold chB; exact @decide_eq_true _ (Classical.propDecidable _) h
theorem ch_no {l : List Ver} (h : ¬ ChP l) : chB l = false := by unfold chB; exact @decide_eq_false _ (Classical.propDecidable _) h
theorem ch_of {l : List Ver} (h : chB l = true) : ChP l := by unfold chB at h; exact @of_decide_eq_true _ (Classical.propDecidable _) h
theorem bdrewN {B : Nat} {w w' : World} (h : Below B w w') (n : Nat) : Below B w (w'.drewN n) := ⟨h.os, h.tape, h.output, h.size, h.block⟩
theorem ret_bool {a b : Bool} (h : a = b) : Ending.returned (.bool a) = .returned (.bool b) := by rw [h]
/-- the first k are valid, and each of them comes right before the next -/
def Pre (l : List Ver) (k : Nat) : Prop := (∀ (j : Nat) (x : Ver), j < k → l[j]? = some x → okV x = true) ∧ (∀ (j : Nat) (x y : Ver), j < k → l[j]? = some x → l[j + 1]? = some y → fol x y = true)
/-- the first k are valid and in order -/
def Pri (l : List Ver) (k : Nat) : Prop := (∀ (j : Nat) (x : Ver), j < k → l[j]? = some x → okV x = true) ∧ (∀ (j : Nat) (x y : Ver), j + 1 < k → l[j]? = some x → l[j + 1]? = some y → fol x y = true)
theorem pre_zero (l : List Ver) : Pre l 0 := ⟨fun j x h => absurd h (by omega), fun j x y h => absurd h (by omega)⟩
theorem pri_zero (l : List Ver) : Pri l 0 := ⟨fun j x h => absurd h (by omega), fun j x y h => absurd h (by omega)⟩
theorem pre_step {l : List Ver} {k : Nat} {x : Ver} (h : Pre l k) (hx : l[k]? = some x) (ho : okV x = true) (hf : ∀ y, l[k + 1]? = some y → fol x y = true) : Pre l (k + 1) := by
  refine ⟨fun j z hj hz => ?_, fun j z y hj hz hy => ?_⟩
  · by_cases e : j = k
    · subst e; rw [hx] at hz; cases hz; exact ho
    · exact h.1 j z (by omega) hz
  · by_cases e : j = k
    · subst e; rw [hx] at hz; cases hz; exact hf y hy
    · exact h.2 j z y (by omega) hz hy
theorem pri_step {l : List Ver} {k : Nat} {x : Ver} (h : Pri l k) (hx : l[k]? = some x) (ho : okV x = true) (hf : 0 < k → ∀ y, l[k - 1]? = some y → fol y x = true) : Pri l (k + 1) := by
  refine ⟨fun j z hj hz => ?_, fun j z y hj hz hy => ?_⟩
  · by_cases e : j = k
    · subst e; rw [hx] at hz; cases hz; exact ho
    · exact h.1 j z (by omega) hz
  · by_cases e : j + 1 = k
    · subst e; rw [hx] at hy; cases hy; exact hf (by omega) z (by simpa using hz)
    · exact h.2 j z y (by omega) hz hy
theorem lt_of_some {l : List Ver} {k : Nat} {x : Ver} (h : l[k]? = some x) : k < l.length := by
  rcases Nat.lt_or_ge k l.length with h' | h'
  · exact h'
  · rw [List.getElem?_eq_none h'] at h; cases h
theorem ch_pre {l : List Ver} {n : Nat} {x : Ver} (hn : l.length = n) (h : Pre l n) (hx : l[n - 1]? = some x) : (x.e == 1000) = chB l := by
  subst hn
  by_cases e : x.e = 1000
  · rw [ch_yes ⟨fun k z hz => h.1 k z (lt_of_some hz) hz, fun k z y hz hy => h.2 k z y (lt_of_some hz) hz hy, x, hx, e⟩]
    simpa using e
  · rw [ch_no (by rintro ⟨_, _, z, hz, he⟩; rw [hx] at hz; cases hz; exact e he)]
    simpa using e
theorem ch_pri {l : List Ver} {n : Nat} {x : Ver} (hn : l.length = n) (h : Pri l n) (hx : l[n - 1]? = some x) : (x.e == 1000) = chB l :=
  ch_pre hn ⟨h.1, fun j z y hj hz hy => h.2 j z y (by have := lt_of_some hy; omega) hz hy⟩ hx
theorem ch_none {l : List Ver} (hn : l.length = 0) : chB l = false := ch_no (by
  rintro ⟨_, _, z, hz, _⟩
  have := lt_of_some hz
  omega)
theorem ch_bad {l : List Ver} {k : Nat} {x : Ver} (hx : l[k]? = some x) (ho : okV x = false) : chB l = false := ch_no (by
  rintro ⟨h, _⟩
  have := h k x hx
  rw [ho] at this; cases this)
theorem ch_off {l : List Ver} {k : Nat} {x y : Ver} (hx : l[k]? = some x) (hy : l[k + 1]? = some y) (ho : fol x y = false) : chB l = false := ch_no (by
  rintro ⟨_, h, _⟩
  have := h k x y hx hy
  rw [ho] at this; cases this)

set_option maxRecDepth 100000 in
set_option maxHeartbeats 1600000 in
theorem spec_chain {w : World} {B n c : Nat} {A : Option Addr} {l : List Ver} (hn : n ≤ 140737488355328) (h1 : Vs w B A n l) (hB : B ≤ w.heap.size) :
    Calls Tryz.prog 37 #[.slice A n c] w fun e w' => e = .returned (.bool (chB l)) ∧ Below w.heap.size w w' := by
  have H1 := Lib.hid h1
  clear h1
  go_enter Tryz.func37, Tryz.ntmps37
  go_wp2
  go_loopw [3] (fun i wr => ∃ k : Nat, k ≤ n ∧ i = .int .i64 k ∧ Pre l k ∧ Below w.heap.size w wr) (fun i _ => n - (intOf i).toNat)
  case atStart => exact ⟨0, by omega, rfl, pre_zero l, Below.refl _ _⟩
  case round =>
    obtain ⟨k, hk, rfl, hP, hb⟩ := hrel
    have HP := Lib.hid hP
    clear hP
    by_cases hlt : k < n
    · obtain ⟨b, o, x, rfl, hbB, hx, a0, a1, a2, a3, a4⟩ := (H1.out.below (below_le hb hB)).at_ hlt
      have HB := Lib.hid hb
      have HX := Lib.hid hx
      clear hb hx
      rcases ho : okV x with _ | _
      · have HO := Lib.hid ho
        clear ho
        go_wp2_with fail
        refine (spec_version _ _ _ _ _ _).mono ?_
        rintro e W1 ⟨rfl, hb1⟩
        have hv : vB x.a x.b x.c x.d x.e = false := HO.out
        rw [hv]
        have HB1 := Lib.hid hb1
        clear hv hb1
        go_wp2_with fail
        go_ret
        exact ⟨ret_bool (ch_bad HX.out HO.out).symm, HB.out.trans (HB1.out.mono HB.out.size)⟩
      · have HO := Lib.hid ho
        clear ho
        go_wp2_with fail
        refine (spec_version _ _ _ _ _ _).mono ?_
        rintro e W1 ⟨rfl, hb1⟩
        have hv : vB x.a x.b x.c x.d x.e = true := HO.out
        rw [hv]
        have hB2 : Below w.heap.size w W1 := HB.out.trans (hb1.mono HB.out.size)
        clear hv a0 a1 a2 a3 a4
        have s1 : IntKind.i64.wrap ((k : Int) + 1) = (k : Int) + 1 := IntWalk.i64_in _ (by omega)
        have s2 : (0 : Int) ≤ (k : Int) + 1 := by omega
        have s3 : ((k : Int) + 1).toNat = k + 1 := by omega
        by_cases hl2 : k + 1 < n
        · obtain ⟨b', o', x', hbo, hbB', hx', a0, a1, a2, a3, a4⟩ := (H1.out.below (below_le hB2 hB)).at_ hlt
          injection hbo with hbo
          injection hbo with e1 e2
          subst e1
          subst e2
          obtain rfl : x = x' := by have := HX.out; rw [this] at hx'; exact Option.some.inj hx'
          obtain ⟨b', o', y, hbo, hbB', hy, d0, d1, d2, d3, d4⟩ := (H1.out.below (below_le hB2 hB)).at_ hl2
          injection hbo with hbo
          injection hbo with e1 e2
          subst e1
          subst e2
          have HY := Lib.hid hy
          have HB2 := Lib.hid hB2
          clear hy hx' hB2 hb1 a0 a1 a3 d0 d1 d3 d4
          have hg : decide ((k : Int) + 1 < (n : Int)) = true := decide_eq_true (by omega)
          by_cases hc : x.c < y.c
          · have t1 : decide (y.c ≤ x.c) = false := decide_eq_false (by omega)
            by_cases he : x.e ≤ y.c
            · have t2 : decide (y.c < x.e) = false := decide_eq_false (by omega)
              go_wp2_with fail
              go_quiet (fail)
              go_wp2_with fail
              go_roundw
              case rel => exact ⟨k + 1, by omega, by go_num, pre_step HP.out HX.out HO.out (fun z hz => by have := HY.out; rw [this] at hz; cases hz; simp [fol, fB, hc, he]), bdrewN HB2.out _⟩
              case measure => simp [intOf]; omega
            · have t2 : decide (y.c < x.e) = true := decide_eq_true (by omega)
              go_wp2_with fail
              go_quiet (fail)
              go_wp2_with fail
              go_ret
              exact ⟨ret_bool (ch_off HX.out HY.out (by simp [fol, fB]; omega)).symm, bdrewN HB2.out _⟩
          · have t1 : decide (y.c ≤ x.c) = true := decide_eq_true (by omega)
            go_wp2_with fail
            go_quiet (fail)
            go_wp2_with fail
            go_ret
            exact ⟨ret_bool (ch_off HX.out HY.out (by simp [fol, fB]; omega)).symm, bdrewN HB2.out _⟩
        · have hg : decide ((k : Int) + 1 < (n : Int)) = false := decide_eq_false (by omega)
          have HB2 := Lib.hid hB2
          clear hB2 hb1
          go_wp2_with fail
          go_quiet (fail)
          go_wp2_with fail
          go_roundw
          case rel => exact ⟨k + 1, by omega, by go_num, pre_step HP.out HX.out HO.out (fun z hz => absurd (lt_of_some hz) (by have := H1.out.1; omega)), bdrewN HB2.out _⟩
          case measure => simp [intOf]; omega
    · obtain rfl : k = n := by omega
      have HB := Lib.hid hb
      by_cases h0 : 0 < k
      · obtain ⟨b, o, x, rfl, hbB, hx, a0, a1, a2, a3, a4⟩ := (H1.out.below (below_le hb hB)).at_ (k := k - 1) (by omega)
        have HX := Lib.hid hx
        have s1 : IntKind.i64.wrap ((k : Int) - 1) = (k : Int) - 1 := IntWalk.i64_in _ (by omega)
        have s2 : (0 : Int) ≤ (k : Int) - 1 := by omega
        have s3 : ((k : Int) - 1).toNat = k - 1 := by omega
        have hg : decide (0 < k) = true := decide_eq_true h0
        clear hb hx
        go_wp2_with fail
        go_ret
        exact ⟨ret_bool (ch_pre H1.out.1 HP.out HX.out), HB.out⟩
      · have hg : decide (0 < k) = false := decide_eq_false h0
        clear hb
        go_wp2_with fail
        go_ret
        exact ⟨ret_bool (ch_none (by have := H1.out.1; omega)).symm, HB.out⟩
/-! a region whose order is drawn, its callees making memory: one walk, in every world that lies above -/
section
variable {P : Program} {ops : Array Oper} {C : World → Prop} {Q : Act → Prop} {a : Act} {o : Oper} {rest : List Oper}
theorem class_region {id : Nat} {Q : Exit → Act → World → Prop} {a : Act} {w : World} {l : List Oper} (B : Nat) (hm : P.follows .mixedOrders = true) (hB : Region.lexB .any l.toArray = true)
    (h : wpQuiet P l.toArray (fun w' => Below B w w') (fun a' => ∀ w', Below B w w' → Q .normal a' w') l a) : (Code.region id l.toArray true).wp P Q a w :=
  wp_region_quiet (C := fun w' => Below B w w') hm hB ((Below.refl B w).drew) (by simpa using h)
theorem class_skip (hw : Region.wanted o (yielded ops a.tmps) = false) (h : wpQuiet P ops C Q rest (a.put o.dst undef)) : wpQuiet P ops C Q (o :: rest) a := by
  simp only [wpQuiet, hw]
  exact h
theorem class_op (v : Value) (hw : Region.wanted o (yielded ops a.tmps) = true) (hv : ∀ w, C w → o.quietAt P a C w v) (h : wpQuiet P ops C Q rest (a.put o.dst v)) : wpQuiet P ops C Q (o :: rest) a := by
  simp only [wpQuiet, hw]
  exact ⟨v, hv, h⟩
theorem class_opk (v : Value) (hw : Region.wanted o (yielded ops a.tmps) = true) (hv : ∀ w, C w → o.quietAt P a C w v) (h : ∀ K : Act → Prop, (∀ a', wpQuiet P ops C Q rest a' → K a') → K (a.put o.dst v)) : wpQuiet P ops C Q (o :: rest) a :=
  class_op v hw hv (h _ fun _ h => h)
theorem class_call {f : FuncId} {args : Array Value} {w W : World} {v : Value} (hW : Below w.heap.size w W) (h : Calls P f args W fun e w' => e = .returned v ∧ Below W.heap.size W w') :
    Calls P f args W fun e w'' => e = .returned v ∧ Below w.heap.size w w'' := h.mono fun _ _ ⟨he, hb⟩ => ⟨he, hW.trans (hb.mono hW.size)⟩
theorem class_end (h : Q a) : wpQuiet P ops C Q [] a := h
end
theorem boxed (w : World) (x : Ver) (t : TypeId) : At (w.alloc (.cells #[.int .i64 x.a, .int .i64 x.b, .int .i64 x.c, .int .i64 x.d, .int .i64 x.e] t)) w.heap.size 0 x :=
  ⟨World.cell?_alloc_mark w _ t _ 0, World.cell?_alloc_mark w _ t _ 1, World.cell?_alloc_mark w _ t _ 2, World.cell?_alloc_mark w _ t _ 3, World.cell?_alloc_mark w _ t _ 4⟩
theorem atFlat {w : World} {b : Nat} {x : Ver} (h : At w b 0 x) : w.cell? ⟨b, 0, none⟩ = some (.int .i64 x.a) ∧ w.cell? ⟨b, 1, none⟩ = some (.int .i64 x.b) ∧ w.cell? ⟨b, 2, none⟩ = some (.int .i64 x.c) ∧ w.cell? ⟨b, 3, none⟩ = some (.int .i64 x.d) ∧ w.cell? ⟨b, 4, none⟩ = some (.int .i64 x.e) := h
set_option maxRecDepth 100000 in
set_option maxHeartbeats 1600000 in
theorem impl_chain {w : World} {B n c : Nat} {A : Option Addr} {l : List Ver} (hn : n ≤ 140737488355328) (h1 : Vs w B A n l) (hB : B ≤ w.heap.size) :
    Calls Tryz.prog 45 #[.slice A n c] w fun e w' => e = .returned (.bool (chB l)) ∧ Below w.heap.size w w' := by
  have H1 := Lib.hid h1
  clear h1
  go_enter Tryz.func45, Tryz.ntmps45
  go_wp2
  go_loopw [7] (fun i wr => ∃ k : Nat, k ≤ n ∧ i = .int .i64 k ∧ Pri l k ∧ Below w.heap.size w wr) (fun i _ => n - (intOf i).toNat)
  case atStart => exact ⟨0, by omega, rfl, pri_zero l, Below.refl _ _⟩
  case round =>
    obtain ⟨k, hk, rfl, hP, hb⟩ := hrel
    have HP := Lib.hid hP
    clear hP
    by_cases hlt : k < n
    · obtain ⟨b, o, x, rfl, hbB, hx, a0, a1, a2, a3, a4⟩ := (H1.out.below (below_le hb hB)).at_ hlt
      have HB := Lib.hid hb
      have HX := Lib.hid hx
      clear hb hx
      rcases ho : okV x with _ | _
      · have HO := Lib.hid ho
        clear ho
        go_wp2_with fail
        have q0 := new1 wr (.cells #[.int .i64 x.a, .int .i64 x.b, .int .i64 x.c, .int .i64 x.d, .int .i64 x.e] 81)
        have q1 := boxed wr x 81
        have q2 : wr.heap.size < (wr.alloc (.cells #[.int .i64 x.a, .int .i64 x.b, .int .i64 x.c, .int .i64 x.d, .int .i64 x.e] 81)).heap.size := by simp
        have hbs := HB.out.size
        obtain ⟨N, hN⟩ : ∃ N, N = wr.heap.size := ⟨_, rfl⟩
        simp only [← hN] at q0 q1 q2 hbs ⊢
        generalize wr.alloc (.cells #[.int .i64 x.a, .int .i64 x.b, .int .i64 x.c, .int .i64 x.d, .int .i64 x.e] 81) = wq at q0 q1 q2 ⊢
        have HQ : Hid (Below w.heap.size w wq) := Lib.hid (HB.out.trans (q0.mono hbs))
        have Q1 := Lib.hid q1
        have hv : vB x.a x.b x.c x.d x.e = false := HO.out
        have HV := Lib.hid hv
        clear a0 a1 a2 a3 a4 hN q0 q1 hv
        refine class_region wq.heap.size (by kernel_rfl) (by kernel_rfl) ?_
        with_reducible refine class_op (.agg #[.int .i64 x.a, .int .i64 x.b, .int .i64 x.c, .int .i64 x.d, .int .i64 x.e]) ?_ ?_ ?_
        · go_simp
        · intro W hW
          obtain ⟨g0, g1, g2, g3, g4⟩ := atFlat (Q1.out.keep (B := wq.heap.size) q2 hW)
          go_simp
        with_reducible refine class_op (.bool false) ?_ ?_ ?_
        · go_simp
        · intro W hW
          go_simp
          refine class_call hW ?_
          rw [← HV.out]
          exact impl_version _ _ _ _ _ _
        with_reducible refine class_op (.bool true) ?_ ?_ ?_
        · go_simp
        · intro W hW; go_simp
        with_reducible refine class_op (.bool true) ?_ ?_ ?_
        · go_simp
        · intro W hW; go_simp
        with_reducible refine class_skip ?_ ?_
        · (go_simp; try simp [undef])
        with_reducible refine class_skip ?_ ?_
        · (go_simp; try simp [undef])
        with_reducible refine class_skip ?_ ?_
        · (go_simp; try simp [undef])
        with_reducible refine class_skip ?_ ?_
        · (go_simp; try simp [undef])
        with_reducible refine class_skip ?_ ?_
        · (go_simp; try simp [undef])
        with_reducible refine class_skip ?_ ?_
        · (go_simp; try simp [undef])
        with_reducible refine class_skip ?_ ?_
        · (go_simp; try simp [undef])
        with_reducible refine class_skip ?_ ?_
        · (go_simp; try simp [undef])
        with_reducible refine class_skip ?_ ?_
        · (go_simp; try simp [undef])
        with_reducible refine class_skip ?_ ?_
        · (go_simp; try simp [undef])
        with_reducible refine class_skip ?_ ?_
        · (go_simp; try simp [undef])
        with_reducible refine class_skip ?_ ?_
        · (go_simp; try simp [undef])
        with_reducible refine class_op (.bool true) ?_ ?_ ?_
        · go_simp
        · intro W hW; go_simp
        with_reducible refine class_end ?_
        intro W1 hW1
        go_simp
        have HB1 : Hid (Below w.heap.size w W1) := Lib.hid (HQ.out.trans (hW1.mono HQ.out.size))
        clear hW1
        go_wp2_with fail
        go_ret
        exact ⟨ret_bool (ch_bad HX.out HO.out).symm, HB1.out⟩
      · have HO := Lib.hid ho
        clear ho
        by_cases h0 : 0 < k
        · obtain ⟨b', o', y, hbo, hbB', hy, d0, d1, d2, d3, d4⟩ := (H1.out.below (below_le HB.out hB)).at_ (k := k - 1) (by omega)
          injection hbo with hbo
          injection hbo with e1 e2
          subst e1
          subst e2
          have HY := Lib.hid hy
          clear hy
          have s1 : IntKind.i64.wrap ((k : Int) - 1) = (k : Int) - 1 := IntWalk.i64_in _ (by omega)
          have s2 : (0 : Int) ≤ (k : Int) - 1 := by omega
          have s3 : ((k : Int) - 1).toNat = k - 1 := by omega
          have s4 : (k : Int) - 1 < (n : Int) := by omega
          have s5 : (1 : Int) ≤ (k : Int) := by omega
          have hg : decide (0 < k) = true := decide_eq_true h0
          go_wp2_with fail
          have q0 := new1 wr (.cells #[.int .i64 x.a, .int .i64 x.b, .int .i64 x.c, .int .i64 x.d, .int .i64 x.e] 81)
          have q1 := boxed wr x 81
          have q2 : wr.heap.size < (wr.alloc (.cells #[.int .i64 x.a, .int .i64 x.b, .int .i64 x.c, .int .i64 x.d, .int .i64 x.e] 81)).heap.size := by simp
          have hbs := HB.out.size
          obtain ⟨N, hN⟩ : ∃ N, N = wr.heap.size := ⟨_, rfl⟩
          simp only [← hN] at q0 q1 q2 hbs ⊢
          generalize wr.alloc (.cells #[.int .i64 x.a, .int .i64 x.b, .int .i64 x.c, .int .i64 x.d, .int .i64 x.e] 81) = wq at q0 q1 q2 ⊢
          have e0 : At wq b (o + (k - 1) * 5) y := At.keep ⟨d0, d1, d2, d3, d4⟩ (B := N) (by omega) q0
          have HQ : Hid (Below w.heap.size w wq) := Lib.hid (HB.out.trans (q0.mono hbs))
          have Q1 := Lib.hid q1
          have E0 := Lib.hid e0
          clear d0 d1 d2 d3 d4 a0 a1 a2 a3 a4 hN q0
          obtain ⟨a0, a1, a2, a3, a4⟩ := atFlat q1
          obtain ⟨d0, d1, d2, d3, d4⟩ := e0
          have hv : vB x.a x.b x.c x.d x.e = true := HO.out
          have HV := Lib.hid hv
          clear q1 hv
          go_region_held3 (fun w' => w'.cell? ⟨N, 0, none⟩ = some (.int .i64 x.a) ∧ w'.cell? ⟨N, 1, none⟩ = some (.int .i64 x.b) ∧ w'.cell? ⟨N, 2, none⟩ = some (.int .i64 x.c) ∧ w'.cell? ⟨N, 3, none⟩ = some (.int .i64 x.d) ∧ w'.cell? ⟨N, 4, none⟩ = some (.int .i64 x.e) ∧ w'.cell? ⟨b, o + (k - 1) * 5, none⟩ = some (.int .i64 y.a) ∧ w'.cell? ⟨b, o + (k - 1) * 5 + 1, none⟩ = some (.int .i64 y.b) ∧ w'.cell? ⟨b, o + (k - 1) * 5 + 2, none⟩ = some (.int .i64 y.c) ∧ w'.cell? ⟨b, o + (k - 1) * 5 + 3, none⟩ = some (.int .i64 y.d) ∧ w'.cell? ⟨b, o + (k - 1) * 5 + 4, none⟩ = some (.int .i64 y.e)) (go_keep) (first | (go_at_call 66; refine (impl_version _ _ _ _ _ _).mono ?_; rintro e W1 ⟨rfl, hb1⟩; rw [HV.out]; replace hb1 := ((Below.refl wq.heap.size wq).drew).trans hb1; obtain ⟨g0, g1, g2, g3, g4⟩ := atFlat (Q1.out.keep (B := wq.heap.size) q2 hb1); obtain ⟨m0, m1, m2, m3, m4⟩ := E0.out.keep (B := wq.heap.size) (by omega) hb1) | (go_at_call 67; refine (may_follow _ _ _ _ _ _ _ _ _ _ _).mono ?_; rintro e W2 ⟨rfl, hb2⟩; obtain ⟨r0, r1, r2, r3, r4⟩ := atFlat ((Q1.out.keep (B := wq.heap.size) q2 hb1).keep (B := W1.heap.size) (by have := hb1.size; omega) hb2); obtain ⟨p0, p1, p2, p3, p4⟩ := (E0.out.keep (B := wq.heap.size) (by omega) hb1).keep (B := W1.heap.size) (by have := hb1.size; omega) hb2))
          have HB2 : Hid (Below w.heap.size w W2) := Lib.hid ((HQ.out.trans (hb1.mono HQ.out.size)).trans (hb2.mono ((HQ.out.trans (hb1.mono HQ.out.size)).size)))
          clear hb1 hb2
          rcases hf : fB y.c y.e x.c with _ | _
          · have HF := Lib.hid hf
            go_wp2_with fail
            go_ret
            exact ⟨ret_bool (ch_off HY.out (by rw [Nat.sub_add_cancel (by omega)]; exact HX.out) HF.out).symm, HB2.out⟩
          · have HF := Lib.hid hf
            go_wp2_with fail
            go_roundw
            case rel => exact ⟨k + 1, by omega, by go_num, pri_step HP.out HX.out HO.out (fun _ z hz => by have := HY.out; rw [this] at hz; cases hz; exact HF.out), HB2.out⟩
            case measure => simp [intOf]; omega
        · have hg : decide (0 < k) = false := decide_eq_false h0
          go_wp2_with fail
          have q0 := new1 wr (.cells #[.int .i64 x.a, .int .i64 x.b, .int .i64 x.c, .int .i64 x.d, .int .i64 x.e] 81)
          have q1 := boxed wr x 81
          have q2 : wr.heap.size < (wr.alloc (.cells #[.int .i64 x.a, .int .i64 x.b, .int .i64 x.c, .int .i64 x.d, .int .i64 x.e] 81)).heap.size := by simp
          have hbs := HB.out.size
          obtain ⟨N, hN⟩ : ∃ N, N = wr.heap.size := ⟨_, rfl⟩
          simp only [← hN] at q0 q1 q2 hbs ⊢
          generalize wr.alloc (.cells #[.int .i64 x.a, .int .i64 x.b, .int .i64 x.c, .int .i64 x.d, .int .i64 x.e] 81) = wq at q0 q1 q2 ⊢
          have HQ : Hid (Below w.heap.size w wq) := Lib.hid (HB.out.trans (q0.mono hbs))
          have Q1 := Lib.hid q1
          have hv : vB x.a x.b x.c x.d x.e = true := HO.out
          have HV := Lib.hid hv
          clear a0 a1 a2 a3 a4 hN q0 q1 hv
          refine class_region wq.heap.size (by kernel_rfl) (by kernel_rfl) ?_
          with_reducible refine class_op (.agg #[.int .i64 x.a, .int .i64 x.b, .int .i64 x.c, .int .i64 x.d, .int .i64 x.e]) ?_ ?_ ?_
          · go_simp
          · intro W hW
            obtain ⟨g0, g1, g2, g3, g4⟩ := atFlat (Q1.out.keep (B := wq.heap.size) q2 hW)
            go_simp
          with_reducible refine class_op (.bool true) ?_ ?_ ?_
          · go_simp
          · intro W hW
            go_simp
            refine class_call hW ?_
            rw [← HV.out]
            exact impl_version _ _ _ _ _ _
          with_reducible refine class_op (.bool false) ?_ ?_ ?_
          · go_simp
          · intro W hW; go_simp
          with_reducible refine class_op (.bool false) ?_ ?_ ?_
          · go_simp
          · intro W hW; go_simp
          with_reducible refine class_op (.int .i64 k) ?_ ?_ ?_
          · go_simp
          · intro W hW; go_simp
          with_reducible refine class_op (.bool false) ?_ ?_ ?_
          · go_simp
          · intro W hW; go_simp
          with_reducible refine class_op (.bool false) ?_ ?_ ?_
          · go_simp
          · intro W hW; go_simp
          with_reducible refine class_skip ?_ ?_
          · (go_simp; try simp [undef])
          with_reducible refine class_skip ?_ ?_
          · (go_simp; try simp [undef])
          with_reducible refine class_skip ?_ ?_
          · (go_simp; try simp [undef])
          with_reducible refine class_skip ?_ ?_
          · (go_simp; try simp [undef])
          with_reducible refine class_skip ?_ ?_
          · (go_simp; try simp [undef])
          with_reducible refine class_skip ?_ ?_
          · (go_simp; try simp [undef])
          with_reducible refine class_skip ?_ ?_
          · (go_simp; try simp [undef])
          with_reducible refine class_skip ?_ ?_
          · (go_simp; try simp [undef])
          with_reducible refine class_op (.bool false) ?_ ?_ ?_
          · go_simp
          · intro W hW; go_simp
          with_reducible refine class_op (.bool false) ?_ ?_ ?_
          · go_simp
          · intro W hW; go_simp
          with_reducible refine class_end ?_
          intro W1 hW1
          go_simp
          have HB1 : Hid (Below w.heap.size w W1) := Lib.hid (HQ.out.trans (hW1.mono HQ.out.size))
          clear hW1
          go_wp2_with fail
          go_roundw
          case rel => exact ⟨k + 1, by omega, by go_num, pri_step HP.out HX.out HO.out (fun h => absurd h h0), HB1.out⟩
          case measure => simp [intOf]; omega
    · obtain rfl : k = n := by omega
      have HB := Lib.hid hb
      by_cases h0 : 0 < k
      · obtain ⟨b, o, x, rfl, hbB, hx, a0, a1, a2, a3, a4⟩ := (H1.out.below (below_le hb hB)).at_ (k := k - 1) (by omega)
        have HX := Lib.hid hx
        have s1 : IntKind.i64.wrap ((k : Int) - 1) = (k : Int) - 1 := IntWalk.i64_in _ (by omega)
        have s2 : (0 : Int) ≤ (k : Int) - 1 := by omega
        have s3 : ((k : Int) - 1).toNat = k - 1 := by omega
        have hg : decide (0 < k) = true := decide_eq_true h0
        clear hb hx
        go_wp2_with fail
        go_ret
        exact ⟨ret_bool (ch_pri H1.out.1 HP.out HX.out), HB.out⟩
      · have hg : decide (0 < k) = false := decide_eq_false h0
        clear hb
        go_wp2_with fail
        go_ret
        exact ⟨ret_bool (ch_none (by have := H1.out.1; omega)).symm, HB.out⟩
end Go.Proofs.YtjnlbhmddhpmaaaGreat.ch
