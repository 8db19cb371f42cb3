/- AbortTransaction of both: in memory of its own; nothing that was there is written. -/
import Derived.Test.YtigbknmiidhblaaLc
import Derived.Test.YtigbknmiidhblaaTv
import Derived.Test.YtigbknmiidhblaaTvs
import Derived.Test.YtigbknmiidhblaaIa
import Derived.Test.YtigbknmiidhblaaLt
import Derived.Test.YtigbknmiidhblaaOq
namespace Go.Proofs.Ytigbknmiidhblaa.abt
open Go.ChangeShapes Go.WideShapes Go.ChangeAt Go.RowKit
open Go.Proofs.Ytigbknmiidhblaa.el2 Go.Proofs.Ytigbknmiidhblaa.tx Go.Proofs.Ytigbknmiidhblaa.fr Go.Proofs.Ytigbknmiidhblaa.ow2 Go.Proofs.Ytigbknmiidhblaa.ap Go.Proofs.Ytigbknmiidhblaa.bx Go.Proofs.Ytigbknmiidhblaa.cl
open Go.Proofs.Ytigbknmiidhblaa.vers (new2)
open Go.Proofs.Ytigbknmiidhblaa.tv (txB)
open Go.Proofs.Ytigbknmiidhblaa.ia (actB act_t act_f)
set_option linter.unusedVariables false
set_option linter.unusedSimpArgs false
set_option linter.constructorNameAsVariable false
/-- what an abort makes of a transaction -/
noncomputable def abX (x : Hd) (R S : List E2) : Hd := if actB x R S = true then { x with t := 3 } else x
theorem ab_yes {x : Hd} {R S : List E2} (h : actB x R S = true) : { x with t := 3 } = abX x R S := (if_pos h).symm
theorem ab_no {x : Hd} {R S : List E2} (h : actB x R S = false) : x = abX x R S := (if_neg (by rw [h]; exact Bool.false_ne_true)).symm
theorem Bx.set2 {w : World} {b : Nat} {x : Hd} {u v : Value} (h : Bx w b x u v) (z : Int) : Bx (w.setCell ⟨b, 2, none⟩ (.int .i64 z)) b { x with t := z } u v := (World.rowIs.set h 2 (.int .i64 z)).congr (nine_ext rfl rfl rfl rfl rfl rfl rfl rfl rfl)
def AbO (w : World) (n n2 : Nat) (R S : List E2) (y : Hd) (ok : Bool) (e : Ending) (w' : World) : Prop :=
  ∃ A2 c2 B2 d2, e = .returned (.tuple #[.agg #[.int .i64 y.i, .int .i64 y.s, .int .i64 y.t, .int .i64 y.b, .int .i64 y.l, .int .i64 y.h, .int .i64 y.c, .slice A2 n c2, .slice B2 n2 d2], .bool ok]) ∧ OwnT w' w.heap.size (.slice A2 n c2) n R (.slice B2 n2 d2) n2 S ∧ Below w.heap.size w w'
set_option maxRecDepth 100000 in
set_option maxHeartbeats 3200000 in
theorem impl_abort {w : World} {B n c n2 c2 : Nat} {A A2 : Option Addr} {R S : List E2} (x : Hd) (hn : n ≤ 1048576) (hn2 : n2 ≤ 1048576) (h1 : Vs w B A n R) (h2 : Vs w B A2 n2 S) (hB : B ≤ w.heap.size) :
    Calls Try.prog 9 #[.agg #[.int .i64 x.i, .int .i64 x.s, .int .i64 x.t, .int .i64 x.b, .int .i64 x.l, .int .i64 x.h, .int .i64 x.c, .slice A n c, .slice A2 n2 c2]] w (AbO w n n2 R S (abX x R S) (actB x R S)) := by
  have H1 := Lib.hid h1
  have H2 := Lib.hid h2
  have hl1 := h1.1
  have hl2 := h2.1
  clear h1 h2
  go_enter Try.func9, Try.ntmps9
  go_wp2_with fail
  have hb := new2 w (.cells #[.int .i64 x.i, .int .i64 x.s, .int .i64 x.t, .int .i64 x.b, .int .i64 x.l, .int .i64 x.h, .int .i64 x.c, .slice A n c, .slice A2 n2 c2] 30) (.cells #[.int .i64 0, .int .i64 0, .int .i64 0, .int .i64 0, .int .i64 0, .int .i64 0, .int .i64 0, .slice none 0 0, .slice none 0 0] 30)
  have tb := (Bx.new w x (.slice A n c) (.slice A2 n2 c2)).alloc (.cells #[.int .i64 0, .int .i64 0, .int .i64 0, .int .i64 0, .int .i64 0, .int .i64 0, .int .i64 0, .slice none 0 0, .slice none 0 0] 30)
  have rb := Bx.zero (w.alloc (.cells #[.int .i64 x.i, .int .i64 x.s, .int .i64 x.t, .int .i64 x.b, .int .i64 x.l, .int .i64 x.h, .int .i64 x.c, .slice A n c, .slice A2 n2 c2] 30))
  have hs : ((w.alloc (.cells #[.int .i64 x.i, .int .i64 x.s, .int .i64 x.t, .int .i64 x.b, .int .i64 x.l, .int .i64 x.h, .int .i64 x.c, .slice A n c, .slice A2 n2 c2] 30)).alloc (.cells #[.int .i64 0, .int .i64 0, .int .i64 0, .int .i64 0, .int .i64 0, .int .i64 0, .int .i64 0, .slice none 0 0, .slice none 0 0] 30)).heap.size = w.heap.size + 2 := by simp
  rw [show (w.alloc (.cells #[.int .i64 x.i, .int .i64 x.s, .int .i64 x.t, .int .i64 x.b, .int .i64 x.l, .int .i64 x.h, .int .i64 x.c, .slice A n c, .slice A2 n2 c2] 30)).heap.size = w.heap.size + 1 by simp] at rb
  generalize (w.alloc _).alloc _ = W0 at hb tb rb hs ⊢
  have HB0 := Lib.hid hb
  have T0 := Lib.hid tb
  have R0 := Lib.hid rb
  obtain ⟨t0, t1, t2, t3, t4, t5, t6, t7, t8⟩ := tb.tb
  clear hb tb rb
  go_wp2_with fail
  refine (copy_t x (by omega) (by omega) (H1.out.below (below_le HB0.out hB)) (H2.out.below (below_le HB0.out hB)) (by omega)).mono ?_
  rintro e W1 ⟨u, v, rfl, ho1, hb1⟩
  obtain ⟨A', c', rfl, _⟩ := own_vs ho1.1 hl1
  obtain ⟨B', d', rfl, _⟩ := own_vs ho1.2 hl2
  clear t0 t1 t2 t3 t4 t5 t6 t7 t8
  have hs1 := hb1.size
  have T1 := Lib.hid (T0.out.keep hb1 (by omega))
  have R1 := Lib.hid (R0.out.keep hb1 (by omega))
  have O1 := Lib.hid ho1
  have HB1 := Lib.hid (HB0.out.trans (hb1.mono (by omega)))
  have hbn := new1 W1 (.cells #[.int .i64 x.i, .int .i64 x.s, .int .i64 x.t, .int .i64 x.b, .int .i64 x.l, .int .i64 x.h, .int .i64 x.c, .slice A' n c', .slice B' n2 d'] 30)
  obtain ⟨t0, t1, t2, t3, t4, t5, t6, t7, t8⟩ := (T1.out.alloc (.cells #[.int .i64 x.i, .int .i64 x.s, .int .i64 x.t, .int .i64 x.b, .int .i64 x.l, .int .i64 x.h, .int .i64 x.c, .slice A' n c', .slice B' n2 d'] 30)).tb
  have hq1 : ∀ q, (Value.slice A' n c').ownBlock = some q → q < W1.heap.size := fun q e => (ho1.1.lt q e).2
  have hq2 : ∀ q, (Value.slice B' n2 d').ownBlock = some q → q < W1.heap.size := fun q e => (ho1.2.lt q e).2
  have hsn : (W1.alloc (.cells #[.int .i64 x.i, .int .i64 x.s, .int .i64 x.t, .int .i64 x.b, .int .i64 x.l, .int .i64 x.h, .int .i64 x.c, .slice A' n c', .slice B' n2 d'] 30)).heap.size = W1.heap.size + 1 := by simp
  clear hb1 ho1
  unfold txv
  go_wp2_with fail
  refine (Go.Proofs.Ytigbknmiidhblaa.ia.impl_active x (by omega) (by omega) ((H1.out.below (below_le HB1.out hB)).below (below_le hbn (by omega))) ((H2.out.below (below_le HB1.out hB)).below (below_le hbn (by omega))) (by omega)).mono ?_
  rintro e W2 ⟨rfl, hb2⟩
  have hb12 : Below W1.heap.size W1 W2 := hbn.trans (hb2.mono (by omega))
  have hs2 := hb2.size
  have X2 := Lib.hid ((Bx.new W1 x (.slice A' n c') (.slice B' n2 d')).keep hb2 (by omega))
  have R2 := Lib.hid (R1.out.keep hb12 (by omega))
  have O2 : Hid (OwnT W2 W0.heap.size (.slice A' n c') n R (.slice B' n2 d') n2 S) := Lib.hid (O1.out.keep hb12)
  have HB2 := Lib.hid (HB1.out.trans (hb12.mono (by omega)))
  clear t0 t1 t2 t3 t4 t5 t6 t7 t8
  obtain ⟨a0, a1, a2, a3, a4, a5, a6, a7, a8⟩ := (T1.out.keep hb12 (by omega)).tb
  obtain ⟨t0, t1, t2, t3, t4, t5, t6, t7, t8⟩ := X2.out.tb
  obtain ⟨z0, z1, z2, z3, z4, z5, z6, z7, z8⟩ := R2.out.tb
  have y0 := R2.out.fz 0
  have y1 := R2.out.fz 1
  have y2 := R2.out.fz 2
  have y3 := R2.out.fz 3
  have y4 := R2.out.fz 4
  have y5 := R2.out.fz 5
  have y6 := R2.out.fz 6
  have y7 := R2.out.fz 7
  have y8 := R2.out.fz 8
  have xf := X2.out.fz 2
  clear hb2 hb12 hbn
  rcases hq : actB x R S with _ | _
  · have HA : Hid (false = actB x R S) := Lib.hid hq.symm
    clear hq
    go_wp2_with fail
    have hgb := give_back (w := w) (x := x) (u := .slice A' n c') (v := .slice B' n2 d') R2.out O2.out (by omega) (by omega) HB2.out (by omega)
    obtain ⟨hT, hO, hB9⟩ := hgb
    (try simp only at hT hO hB9)
    generalize (((((((((World.setCell _ _ _).setCell _ _).setCell _ _).setCell _ _).setCell _ _).setCell _ _).setCell _ _).setCell _ _).setCell _ _) = W4 at hT hO hB9 ⊢
    obtain ⟨e0, e1, e2, e3, e4, e5, e6, e7, e8⟩ := hT
    (try simp only at e0 e1 e2 e3 e4 e5 e6)
    exact bodyPost_ret (v := .tuple #[txv x (.slice A' n c') (.slice B' n2 d'), .bool false]) (by simp [results, Try.results9, go_sem, txv, e0, e1, e2, e3, e4, e5, e6, e7, e8]) rfl (by rw [← HA.out, ← ab_no HA.out.symm]; exact ⟨_, _, _, _, rfl, hO, hB9⟩)
  · have HA : Hid (true = actB x R S) := Lib.hid hq.symm
    clear hq
    go_wp2_with fail
    have X3 := Lib.hid (Bx.set2 X2.out 3)
    have o9 := (Off.refl W1.heap.size W2).setCell (p := ⟨W1.heap.size, 2, none⟩) rfl (.int .i64 3)
    have R3 := Lib.hid (R2.out.other o9 (by omega))
    have O3 : Hid (OwnT (W2.setCell ⟨W1.heap.size, 2, none⟩ (.int .i64 3)) W0.heap.size (.slice A' n c') n R (.slice B' n2 d') n2 S) := Lib.hid ⟨oq.own_of O2.out.1 (fun q e => o9.block q (by have := hq1 q e; omega)), oq.own_of O2.out.2 (fun q e => o9.block q (by have := hq2 q e; omega))⟩
    have B3 := Lib.hid (HB2.out.trans (o9.below (B := w.heap.size) (by omega)))
    have hgb := give_back (w := w) (x := { x with t := 3 }) (u := .slice A' n c') (v := .slice B' n2 d') R3.out O3.out (by omega) (by omega) B3.out (by omega)
    obtain ⟨hT, hO, hB9⟩ := hgb
    (try simp only at hT hO hB9)
    generalize (((((((((World.setCell _ _ _).setCell _ _).setCell _ _).setCell _ _).setCell _ _).setCell _ _).setCell _ _).setCell _ _).setCell _ _) = W4 at hT hO hB9 ⊢
    obtain ⟨e0, e1, e2, e3, e4, e5, e6, e7, e8⟩ := hT
    (try simp only at e0 e1 e2 e3 e4 e5 e6)
    exact bodyPost_ret (v := .tuple #[txv { x with t := 3 } (.slice A' n c') (.slice B' n2 d'), .bool true]) (by simp [results, Try.results9, go_sem, txv, e0, e1, e2, e3, e4, e5, e6, e7, e8]) rfl (by rw [← HA.out, ← ab_yes HA.out.symm]; exact ⟨_, _, _, _, rfl, hO, hB9⟩)
set_option maxRecDepth 100000 in
set_option maxHeartbeats 3200000 in
theorem spec_abort {w : World} {B n c n2 c2 : Nat} {A A2 : Option Addr} {R S : List E2} (x : Hd) (hn : n ≤ 1048576) (hn2 : n2 ≤ 1048576) (h1 : Vs w B A n R) (h2 : Vs w B A2 n2 S) (hB : B ≤ w.heap.size) :
    Calls Try.prog 7 #[.agg #[.int .i64 x.i, .int .i64 x.s, .int .i64 x.t, .int .i64 x.b, .int .i64 x.l, .int .i64 x.h, .int .i64 x.c, .slice A n c, .slice A2 n2 c2]] w (AbO w n n2 R S (abX x R S) (actB x R S)) := by
  have H1 := Lib.hid h1
  have H2 := Lib.hid h2
  have hl1 := h1.1
  have hl2 := h2.1
  clear h1 h2
  go_enter Try.func7, Try.ntmps7
  go_wp2_with fail
  have hb := new2 w (.cells #[.int .i64 x.i, .int .i64 x.s, .int .i64 x.t, .int .i64 x.b, .int .i64 x.l, .int .i64 x.h, .int .i64 x.c, .slice A n c, .slice A2 n2 c2] 30) (.cells #[.int .i64 0, .int .i64 0, .int .i64 0, .int .i64 0, .int .i64 0, .int .i64 0, .int .i64 0, .slice none 0 0, .slice none 0 0] 30)
  have tb := (Bx.new w x (.slice A n c) (.slice A2 n2 c2)).alloc (.cells #[.int .i64 0, .int .i64 0, .int .i64 0, .int .i64 0, .int .i64 0, .int .i64 0, .int .i64 0, .slice none 0 0, .slice none 0 0] 30)
  have rb := Bx.zero (w.alloc (.cells #[.int .i64 x.i, .int .i64 x.s, .int .i64 x.t, .int .i64 x.b, .int .i64 x.l, .int .i64 x.h, .int .i64 x.c, .slice A n c, .slice A2 n2 c2] 30))
  have hs : ((w.alloc (.cells #[.int .i64 x.i, .int .i64 x.s, .int .i64 x.t, .int .i64 x.b, .int .i64 x.l, .int .i64 x.h, .int .i64 x.c, .slice A n c, .slice A2 n2 c2] 30)).alloc (.cells #[.int .i64 0, .int .i64 0, .int .i64 0, .int .i64 0, .int .i64 0, .int .i64 0, .int .i64 0, .slice none 0 0, .slice none 0 0] 30)).heap.size = w.heap.size + 2 := by simp
  rw [show (w.alloc (.cells #[.int .i64 x.i, .int .i64 x.s, .int .i64 x.t, .int .i64 x.b, .int .i64 x.l, .int .i64 x.h, .int .i64 x.c, .slice A n c, .slice A2 n2 c2] 30)).heap.size = w.heap.size + 1 by simp] at rb
  generalize (w.alloc _).alloc _ = W0 at hb tb rb hs ⊢
  have HB0 := Lib.hid hb
  have T0 := Lib.hid tb
  have R0 := Lib.hid rb
  obtain ⟨t0, t1, t2, t3, t4, t5, t6, t7, t8⟩ := tb.tb
  clear hb tb rb
  go_wp2_with fail
  refine (Go.Proofs.Ytigbknmiidhblaa.lc.copy_m x (by omega) (by omega) (H1.out.below (below_le HB0.out hB)) (H2.out.below (below_le HB0.out hB)) (by omega)).mono ?_
  rintro e W1 ⟨u, v, rfl, ho1, hb1⟩
  obtain ⟨A', c', rfl, _⟩ := own_vs ho1.1 hl1
  obtain ⟨B', d', rfl, _⟩ := own_vs ho1.2 hl2
  clear t0 t1 t2 t3 t4 t5 t6 t7 t8
  have hs1 := hb1.size
  have T1 := Lib.hid (T0.out.keep hb1 (by omega))
  have R1 := Lib.hid (R0.out.keep hb1 (by omega))
  have O1 := Lib.hid ho1
  have HB1 := Lib.hid (HB0.out.trans (hb1.mono (by omega)))
  have hbn := new1 W1 (.cells #[.int .i64 x.i, .int .i64 x.s, .int .i64 x.t, .int .i64 x.b, .int .i64 x.l, .int .i64 x.h, .int .i64 x.c, .slice A' n c', .slice B' n2 d'] 30)
  obtain ⟨t0, t1, t2, t3, t4, t5, t6, t7, t8⟩ := (T1.out.alloc (.cells #[.int .i64 x.i, .int .i64 x.s, .int .i64 x.t, .int .i64 x.b, .int .i64 x.l, .int .i64 x.h, .int .i64 x.c, .slice A' n c', .slice B' n2 d'] 30)).tb
  have hq1 : ∀ q, (Value.slice A' n c').ownBlock = some q → q < W1.heap.size := fun q e => (ho1.1.lt q e).2
  have hq2 : ∀ q, (Value.slice B' n2 d').ownBlock = some q → q < W1.heap.size := fun q e => (ho1.2.lt q e).2
  have hsn : (W1.alloc (.cells #[.int .i64 x.i, .int .i64 x.s, .int .i64 x.t, .int .i64 x.b, .int .i64 x.l, .int .i64 x.h, .int .i64 x.c, .slice A' n c', .slice B' n2 d'] 30)).heap.size = W1.heap.size + 1 := by simp
  clear hb1 ho1
  unfold txv
  go_wp2_with fail
  refine (Go.Proofs.Ytigbknmiidhblaa.tvs.spec_tx x (by omega) (by omega) ((H1.out.below (below_le HB1.out hB)).below (below_le hbn (by omega))) ((H2.out.below (below_le HB1.out hB)).below (below_le hbn (by omega))) (by omega)).mono ?_
  rintro e W2 ⟨rfl, hb2⟩
  have hb12 : Below W1.heap.size W1 W2 := hbn.trans (hb2.mono (by omega))
  have hs2 := hb2.size
  have X2 := Lib.hid ((Bx.new W1 x (.slice A' n c') (.slice B' n2 d')).keep hb2 (by omega))
  have R2 := Lib.hid (R1.out.keep hb12 (by omega))
  have O2 : Hid (OwnT W2 W0.heap.size (.slice A' n c') n R (.slice B' n2 d') n2 S) := Lib.hid (O1.out.keep hb12)
  have HB2 := Lib.hid (HB1.out.trans (hb12.mono (by omega)))
  clear t0 t1 t2 t3 t4 t5 t6 t7 t8
  obtain ⟨a0, a1, a2, a3, a4, a5, a6, a7, a8⟩ := (T1.out.keep hb12 (by omega)).tb
  obtain ⟨t0, t1, t2, t3, t4, t5, t6, t7, t8⟩ := X2.out.tb
  obtain ⟨z0, z1, z2, z3, z4, z5, z6, z7, z8⟩ := R2.out.tb
  have y0 := R2.out.fz 0
  have y1 := R2.out.fz 1
  have y2 := R2.out.fz 2
  have y3 := R2.out.fz 3
  have y4 := R2.out.fz 4
  have y5 := R2.out.fz 5
  have y6 := R2.out.fz 6
  have y7 := R2.out.fz 7
  have y8 := R2.out.fz 8
  have xf := X2.out.fz 2
  clear hb2 hb12 hbn
  rcases hq : txB x R S with _ | _
  · have HQ := Lib.hid hq
    have HA := Lib.hid (act_f (x := x) hq)
    clear hq
    go_wp2_with fail
    have hgb := give_back (w := w) (x := x) (u := .slice A' n c') (v := .slice B' n2 d') R2.out O2.out (by omega) (by omega) HB2.out (by omega)
    obtain ⟨hT, hO, hB9⟩ := hgb
    (try simp only at hT hO hB9)
    generalize (((((((((World.setCell _ _ _).setCell _ _).setCell _ _).setCell _ _).setCell _ _).setCell _ _).setCell _ _).setCell _ _).setCell _ _) = W4 at hT hO hB9 ⊢
    obtain ⟨e0, e1, e2, e3, e4, e5, e6, e7, e8⟩ := hT
    (try simp only at e0 e1 e2 e3 e4 e5 e6)
    exact bodyPost_ret (v := .tuple #[txv x (.slice A' n c') (.slice B' n2 d'), .bool false]) (by simp [results, Try.results7, go_sem, txv, e0, e1, e2, e3, e4, e5, e6, e7, e8]) rfl (by rw [← HA.out, ← ab_no HA.out.symm]; exact ⟨_, _, _, _, rfl, hO, hB9⟩)
  · have HQ := Lib.hid hq
    clear hq
    by_cases h2 : x.t = 1
    · have HA : Hid (true = actB x R S) := Lib.hid (by rw [← act_t HQ.out, h2]; rfl)
      have t : (x.t != 1) = false := by rw [h2]; rfl
      clear h2
      go_wp2_with fail
      have X3 := Lib.hid (Bx.set2 X2.out 3)
      have o9 := (Off.refl W1.heap.size W2).setCell (p := ⟨W1.heap.size, 2, none⟩) rfl (.int .i64 3)
      have R3 := Lib.hid (R2.out.other o9 (by omega))
      have O3 : Hid (OwnT (W2.setCell ⟨W1.heap.size, 2, none⟩ (.int .i64 3)) W0.heap.size (.slice A' n c') n R (.slice B' n2 d') n2 S) := Lib.hid ⟨oq.own_of O2.out.1 (fun q e => o9.block q (by have := hq1 q e; omega)), oq.own_of O2.out.2 (fun q e => o9.block q (by have := hq2 q e; omega))⟩
      have B3 := Lib.hid (HB2.out.trans (o9.below (B := w.heap.size) (by omega)))
      have hgb := give_back (w := w) (x := { x with t := 3 }) (u := .slice A' n c') (v := .slice B' n2 d') R3.out O3.out (by omega) (by omega) B3.out (by omega)
      obtain ⟨hT, hO, hB9⟩ := hgb
      (try simp only at hT hO hB9)
      generalize (((((((((World.setCell _ _ _).setCell _ _).setCell _ _).setCell _ _).setCell _ _).setCell _ _).setCell _ _).setCell _ _).setCell _ _) = W4 at hT hO hB9 ⊢
      obtain ⟨e0, e1, e2, e3, e4, e5, e6, e7, e8⟩ := hT
      (try simp only at e0 e1 e2 e3 e4 e5 e6)
      exact bodyPost_ret (v := .tuple #[txv { x with t := 3 } (.slice A' n c') (.slice B' n2 d'), .bool true]) (by simp [results, Try.results7, go_sem, txv, e0, e1, e2, e3, e4, e5, e6, e7, e8]) rfl (by rw [← HA.out, ← ab_yes HA.out.symm]; exact ⟨_, _, _, _, rfl, hO, hB9⟩)
    · have HA : Hid (false = actB x R S) := Lib.hid (by rw [← act_t HQ.out]; exact (decide_eq_false h2).symm)
      have t : (x.t != 1) = true := bne_iff_ne.2 h2
      clear h2
      go_wp2_with fail
      have hgb := give_back (w := w) (x := x) (u := .slice A' n c') (v := .slice B' n2 d') R2.out O2.out (by omega) (by omega) HB2.out (by omega)
      obtain ⟨hT, hO, hB9⟩ := hgb
      (try simp only at hT hO hB9)
      generalize (((((((((World.setCell _ _ _).setCell _ _).setCell _ _).setCell _ _).setCell _ _).setCell _ _).setCell _ _).setCell _ _).setCell _ _) = W4 at hT hO hB9 ⊢
      obtain ⟨e0, e1, e2, e3, e4, e5, e6, e7, e8⟩ := hT
      (try simp only at e0 e1 e2 e3 e4 e5 e6)
      exact bodyPost_ret (v := .tuple #[txv x (.slice A' n c') (.slice B' n2 d'), .bool false]) (by simp [results, Try.results7, go_sem, txv, e0, e1, e2, e3, e4, e5, e6, e7, e8]) rfl (by rw [← HA.out, ← ab_no HA.out.symm]; exact ⟨_, _, _, _, rfl, hO, hB9⟩)
end Go.Proofs.Ytigbknmiidhblaa.abt
