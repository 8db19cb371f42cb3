/- Two new boxes, of a store and of a transaction of one's own, laid in whatever order. -/
import Derived.Test.YthbbpfgjbidbhaaGreatDoorOq
import Derived.Test.YthbbpfgjbidbhaaGreatDoorLt
import Derived.Test.YthbbpfgjbidbhaaGreatDoorXga
namespace Go.Proofs.YthbbpfgjbidbhaaGreatDoor.rg
open Go.ChangeShapes Go.WideShapes Go.ChangeAt Go.RowKit
open Go.Proofs.YthbbpfgjbidbhaaGreatDoor.sl Go.Proofs.YthbbpfgjbidbhaaGreatDoor.st Go.Proofs.YthbbpfgjbidbhaaGreatDoor.flat Go.Proofs.YthbbpfgjbidbhaaGreatDoor.os Go.Proofs.YthbbpfgjbidbhaaGreatDoor.oq Go.Proofs.YthbbpfgjbidbhaaGreatDoor.av
open Go.Proofs.YthbbpfgjbidbhaaGreatDoor.el2 (new1 E2 Off)
open Go.Proofs.YthbbpfgjbidbhaaGreatDoor.tx (Hd TB)
open Go.Proofs.YthbbpfgjbidbhaaGreatDoor.bx (Bx OwnT CopO txv off_put)
open Go.Proofs.YthbbpfgjbidbhaaGreatDoor.tm (OwT)
open Go.Proofs.YthbbpfgjbidbhaaGreatDoor.fr (FR)
set_option linter.unusedVariables false
set_option linter.unusedSimpArgs false
/-- a new box of one cell -/
structure SBx (W V : World) (b : Nat) (u : Value) : Prop where
  lo : W.heap.size ≤ b
  lt : b < V.heap.size
  cell : V.cell? ⟨b, 0, none⟩ = some u
  free : V.frozen? ⟨b, 0, none⟩ = false
structure TBx (W V : World) (b : Nat) (x : Hd) (u v : Value) : Prop where
  lo : W.heap.size ≤ b
  bx : Bx V b x u v
section
variable {W V V' : World} {b b' lo hi N n n2 : Nat} {u u' v v' w9 : Value} {x x' : Hd} {C : List (List Ver)} {A A2 : Option Addr} {R S : List E2} {p : Addr}
theorem SBx.alloc (h : SBx W V b u) (o : Obj) : SBx W (V.alloc o) b u := ⟨h.lo, by simp; have := h.lt; omega, up o h.cell h.lt, free_up o h.free h.lt⟩
theorem SBx.call (h : SBx W V b u) (hb : Below V.heap.size V V') : SBx W V' b u := ⟨h.lo, Nat.lt_of_lt_of_le h.lt hb.size, (hb.cell (p := ⟨b, 0, none⟩) h.lt).trans h.cell, (hb.frozen (p := ⟨b, 0, none⟩) h.lt).trans h.free⟩
theorem SBx.drew (h : SBx W V b u) : SBx W V.drew b u := ⟨h.lo, h.lt, h.cell, h.free⟩
theorem SBx.zero (hb : Below W.heap.size W V) (h : b = V.heap.size) {t : TypeId} : SBx W (V.alloc (.cells #[u] t)) b u := by
  subst h
  exact ⟨hb.size, by simp, one_cell V u t, one_free V u t⟩
theorem SBx.putS (h : SBx W V b u) : SBx W (V.setCell ⟨b, 0, none⟩ u') b u' := ⟨h.lo, by simpa [World.setCell] using h.lt, set_same h.cell, set_free h.free⟩
theorem SBx.putO (hne : p.block ≠ b) (h : SBx W V b u) : SBx W (V.setCell p u') b u := ⟨h.lo, by simpa [World.setCell] using h.lt, set_other h.cell hne, set_free h.free⟩
theorem TBx.alloc (h : TBx W V b x u v) (o : Obj) : TBx W (V.alloc o) b x u v := ⟨h.lo, h.bx.alloc o⟩
theorem TBx.call (h : TBx W V b x u v) (hb : Below V.heap.size V V') : TBx W V' b x u v := ⟨h.lo, h.bx.keep hb h.bx.lt⟩
theorem TBx.drew (h : TBx W V b x u v) : TBx W V.drew b x u v := ⟨h.lo, h.bx.of_block rfl⟩
theorem TBx.zero (hb : Below W.heap.size W V) (h : b = V.heap.size) : TBx W (V.alloc (.cells #[.int .i64 0, .int .i64 0, .int .i64 0, .int .i64 0, .int .i64 0, .int .i64 0, .int .i64 0, .slice none 0 0, .slice none 0 0] 37)) b ⟨0, 0, 0, 0, 0, 0, 0⟩ (.slice none 0 0) (.slice none 0 0) := by
  subst h
  exact ⟨hb.size, Bx.zero V⟩
theorem TBx.new (hb : Below W.heap.size W V) (h : b = V.heap.size) : TBx W (V.alloc (.cells #[.int .i64 x.i, .int .i64 x.s, .int .i64 x.t, .int .i64 x.b, .int .i64 x.l, .int .i64 x.h, .int .i64 x.c, u, v] 37)) b x u v := by
  subst h
  exact ⟨hb.size, Bx.new V x u v⟩
theorem TBx.putS (h : TBx W V b x' u' v') : TBx W (World.setCell (World.setCell (World.setCell (World.setCell (World.setCell (World.setCell (World.setCell (World.setCell (World.setCell V ⟨b, 0, none⟩ (.int .i64 x.i)) ⟨b, 1, none⟩ (.int .i64 x.s)) ⟨b, 2, none⟩ (.int .i64 x.t)) ⟨b, 3, none⟩ (.int .i64 x.b)) ⟨b, 4, none⟩ (.int .i64 x.l)) ⟨b, 5, none⟩ (.int .i64 x.h)) ⟨b, 6, none⟩ (.int .i64 x.c)) ⟨b, 7, none⟩ (u)) ⟨b, 8, none⟩ (v)) b x u v := ⟨h.lo, h.bx.put x u v⟩
theorem TBx.putO (hne : p.block ≠ b) (h : TBx W V b x u v) : TBx W (V.setCell p u') b x u v := ⟨h.lo, h.bx.of_block (Below.heap_setCell V p u' b (fun e => hne e.symm))⟩
theorem both_put {sb tb : Nat} {s9 : Value} (hs : SBx W V sb s9) (ht : TBx W V tb x u v) (hne : sb ≠ tb) : ∀ u9, TBx W (V.setCell ⟨sb, 0, none⟩ u9) tb x u v := fun u9 => TBx.putO hne ht
theorem late_put {sb : Nat} {s9 : Value} (hb : Below W.heap.size W V) (hs : SBx W V sb s9) : ∀ u9, TBx W ((V.alloc (.cells #[.int .i64 0, .int .i64 0, .int .i64 0, .int .i64 0, .int .i64 0, .int .i64 0, .int .i64 0, .slice none 0 0, .slice none 0 0] 37)).setCell ⟨sb, 0, none⟩ u9) V.heap.size ⟨0, 0, 0, 0, 0, 0, 0⟩ (.slice none 0 0) (.slice none 0 0) := fun u9 => TBx.putO (by have := hs.lt; simp only; omega) (TBx.zero hb rfl)
theorem bel_set (hb : Below W.heap.size W V) (h : W.heap.size ≤ p.block) : Below W.heap.size W (V.setCell p u') := hb.setCell h u'
theorem bel_alloc (hb : Below W.heap.size W V) (o : Obj) : Below W.heap.size W (V.alloc o) := hb.alloc hb.size o
theorem oqA (h : OQ V (fun q => lo ≤ q ∧ q < hi) w9 N C) (o : Obj) : OQ (V.alloc o) (fun q => lo ≤ q ∧ q < hi) w9 N C := h.below (new1 V o)
theorem oqC (h : OQ V (fun q => lo ≤ q ∧ q < hi) w9 N C) (hb : Below V.heap.size V V') : OQ V' (fun q => lo ≤ q ∧ q < hi) w9 N C := h.below hb
theorem oqD (h : OQ V (fun q => lo ≤ q ∧ q < hi) w9 N C) : OQ V.drew (fun q => lo ≤ q ∧ q < hi) w9 N C := h.below ((Below.refl _ V).drew)
theorem oqS (hn : ¬ (lo ≤ p.block ∧ p.block < hi)) (h : OQ V (fun q => lo ≤ q ∧ q < hi) w9 N C) : OQ (V.setCell p u') (fun q => lo ≤ q ∧ q < hi) w9 N C := h.keep fun k _ hk => Below.heap_setCell V p u' k fun e => hn (e ▸ hk)
/-- lists of one's own between lo and hi -/
structure OT (V : World) (lo hi : Nat) (u : Value) (n : Nat) (R : List E2) (v : Value) (n2 : Nat) (S : List E2) : Prop where
  own : OwnT V lo u n R v n2 S
  q1 : ∀ q, u.ownBlock = some q → lo ≤ q ∧ q < hi
  q2 : ∀ q, v.ownBlock = some q → lo ≤ q ∧ q < hi
theorem OT.of (h : OwnT V lo u n R v n2 S) : OT V lo V.heap.size u n R v n2 S := ⟨h, fun q e => h.1.lt q e, fun q e => h.2.lt q e⟩
theorem OT.keep (h : OT V lo hi u n R v n2 S) (hk : ∀ q, lo ≤ q → q < hi → V'.heap[q]? = V.heap[q]?) : OT V' lo hi u n R v n2 S := ⟨⟨own_of h.own.1 fun q e => hk q (h.q1 q e).1 (h.q1 q e).2, own_of h.own.2 fun q e => hk q (h.q2 q e).1 (h.q2 q e).2⟩, h.q1, h.q2⟩
theorem OT.keepC (h : OT V lo hi u n R v n2 S) (hb : Below V.heap.size V V') : OT V' lo hi u n R v n2 S :=
  ⟨⟨own_of h.own.1 fun q e => hb.block q (h.own.1.lt q e).2, own_of h.own.2 fun q e => hb.block q (h.own.2.lt q e).2⟩, h.q1, h.q2⟩
theorem otA (h : OT V lo hi u n R v n2 S) (o : Obj) : OT (V.alloc o) lo hi u n R v n2 S := h.keepC (new1 V o)
theorem otD (h : OT V lo hi u n R v n2 S) : OT V.drew lo hi u n R v n2 S := h.keepC ((Below.refl _ V).drew)
theorem otS (hn : ¬ (lo ≤ p.block ∧ p.block < hi)) (h : OT V lo hi u n R v n2 S) : OT (V.setCell p u') lo hi u n R v n2 S := h.keep fun k h1 h2 => Below.heap_setCell V p u' k fun e => hn (e ▸ ⟨h1, h2⟩)
theorem vs_hi {V : World} {t : TypeId} {base hi n c : Nat} {A : Option Addr} {l : List E2} (h : V.ownsRow base t 2 (.slice A n c) n (Go.Proofs.YthbbpfgjbidbhaaGreatDoor.el2.flat l)) (hl : l.length = n) (hq : ∀ q, (Value.slice A n c).ownBlock = some q → q < hi) : el2.Vs V hi A n l := ⟨hl, fun hn => by
  obtain ⟨A9, c9, e, hv, _⟩ := Go.Proofs.YthbbpfgjbidbhaaGreatDoor.el2.own_vs h hl
  injection e with e1 _ e2
  subst e1
  obtain ⟨b9, o9, e9, hb9, hx⟩ := hv.2 hn
  refine ⟨b9, o9, e9, ?_, hx⟩
  subst e9
  exact hq b9 rfl⟩
theorem OT.form (h : OT V lo hi u n R v n2 S) (h1 : R.length = n) (h2 : S.length = n2) : ∃ A c A2 c2, u = .slice A n c ∧ v = .slice A2 n2 c2 ∧ el2.Vs V hi A n R ∧ el2.Vs V hi A2 n2 S := by
  obtain ⟨A, c, rfl, _⟩ := Go.Proofs.YthbbpfgjbidbhaaGreatDoor.el2.own_vs h.own.1 h1
  obtain ⟨A2, c2, rfl, _⟩ := Go.Proofs.YthbbpfgjbidbhaaGreatDoor.el2.own_vs h.own.2 h2
  exact ⟨A, c, A2, c2, rfl, rfl, vs_hi h.own.1 h1 fun q e => (h.q1 q e).2, vs_hi h.own.2 h2 fun q e => (h.q2 q e).2⟩
end
/-- what lies there behind the two boxes -/
structure Rg9 (W V : World) (sb tb lo hi lo2 hi2 : Nat) (s : Value) (N : Nat) (C : List (List Ver)) (x : Hd) (u : Value) (n : Nat) (R : List E2) (v : Value) (n2 : Nat) (S : List E2) : Prop where
  bel : Below W.heap.size W V
  sbx : SBx W V sb s
  tbx : TBx W V tb x u v
  oq : OQ V (fun q => lo ≤ q ∧ q < hi) s N C
  ot : OT V lo2 hi2 u n R v n2 S
  l0 : W.heap.size ≤ lo
  l1 : lo ≤ hi
  l2 : hi ≤ lo2
  l3 : lo2 ≤ hi2
  l4 : hi2 ≤ V.heap.size
  s1 : ¬ (lo ≤ sb ∧ sb < hi)
  s2 : ¬ (lo2 ≤ sb ∧ sb < hi2)
  t1 : ¬ (lo ≤ tb ∧ tb < hi)
  t2 : ¬ (lo2 ≤ tb ∧ tb < hi2)
  ne : sb ≠ tb
theorem Rg9.call {W V V' : World} {sb tb lo hi lo2 hi2 N n n2 : Nat} {s u v : Value} {C : List (List Ver)} {x : Hd} {R S : List E2} (h : Rg9 W V sb tb lo hi lo2 hi2 s N C x u n R v n2 S) (hb : Below V.heap.size V V') : Rg9 W V' sb tb lo hi lo2 hi2 s N C x u n R v n2 S where
  bel := h.bel.trans (hb.mono h.bel.size)
  sbx := h.sbx.call hb
  tbx := h.tbx.call hb
  oq := oqC h.oq hb
  ot := h.ot.keepC hb
  l0 := h.l0
  l1 := h.l1
  l2 := h.l2
  l3 := h.l3
  l4 := Nat.le_trans h.l4 hb.size
  s1 := h.s1
  s2 := h.s2
  t1 := h.t1
  t2 := h.t2
  ne := h.ne
/-- the two results lie in their boxes -/
structure Fin9 (V Wf : World) (rs rt : Nat) (s : Value) (x : Hd) (u v : Value) : Prop where
  st : Wf.cell? ⟨rs, 0, none⟩ = some s
  tb : TB Wf rt x u v
  agr : Agr (fun q => q ≠ rs ∧ q ≠ rt) V Wf
theorem fin1 {W V : World} {rs rt : Nat} {s s0 u v u0 v0 : Value} {x x0 : Hd} (hs : SBx W V rs s0) (ht : TBx W V rt x0 u0 v0) (hne : rs ≠ rt) : Fin9 V (World.setCell (World.setCell (World.setCell (World.setCell (World.setCell (World.setCell (World.setCell (World.setCell (World.setCell (World.setCell V ⟨rs, 0, none⟩ s) ⟨rt, 0, none⟩ (.int .i64 x.i)) ⟨rt, 1, none⟩ (.int .i64 x.s)) ⟨rt, 2, none⟩ (.int .i64 x.t)) ⟨rt, 3, none⟩ (.int .i64 x.b)) ⟨rt, 4, none⟩ (.int .i64 x.l)) ⟨rt, 5, none⟩ (.int .i64 x.h)) ⟨rt, 6, none⟩ (.int .i64 x.c)) ⟨rt, 7, none⟩ (u)) ⟨rt, 8, none⟩ (v)) rs rt s x u v where
  st := SBx.cell (W := W) (SBx.putO (p := ⟨rt, 8, none⟩) hne.symm (SBx.putO (p := ⟨rt, 7, none⟩) hne.symm (SBx.putO (p := ⟨rt, 6, none⟩) hne.symm (SBx.putO (p := ⟨rt, 5, none⟩) hne.symm (SBx.putO (p := ⟨rt, 4, none⟩) hne.symm (SBx.putO (p := ⟨rt, 3, none⟩) hne.symm (SBx.putO (p := ⟨rt, 2, none⟩) hne.symm (SBx.putO (p := ⟨rt, 1, none⟩) hne.symm (SBx.putO (p := ⟨rt, 0, none⟩) hne.symm hs.putS)))))))))
  tb := (TBx.putS (TBx.putO (p := ⟨rs, 0, none⟩) hne ht)).bx.tb
  agr := by
    have h0 : Agr (fun q => q ≠ rs ∧ q ≠ rt) V (V.setCell ⟨rs, 0, none⟩ s) := (Agr.refl _ V).set (p := ⟨rs, 0, none⟩) s (fun e => e.1 rfl)
    have ho := off_put (V.setCell ⟨rs, 0, none⟩ s) rt x u v
    exact h0.trans ⟨ho.os, ho.tape, ho.output, Nat.le_of_eq ho.size.symm, fun k _ hk => ho.block k hk.2⟩
theorem fin2 {W V : World} {rs rt : Nat} {s s0 u v u0 v0 : Value} {x x0 : Hd} (hs : SBx W V rs s0) (ht : TBx W V rt x0 u0 v0) (hne : rs ≠ rt) : Fin9 V (World.setCell (World.setCell (World.setCell (World.setCell (World.setCell (World.setCell (World.setCell (World.setCell (World.setCell (World.setCell V ⟨rt, 0, none⟩ (.int .i64 x.i)) ⟨rt, 1, none⟩ (.int .i64 x.s)) ⟨rt, 2, none⟩ (.int .i64 x.t)) ⟨rt, 3, none⟩ (.int .i64 x.b)) ⟨rt, 4, none⟩ (.int .i64 x.l)) ⟨rt, 5, none⟩ (.int .i64 x.h)) ⟨rt, 6, none⟩ (.int .i64 x.c)) ⟨rt, 7, none⟩ (u)) ⟨rt, 8, none⟩ (v)) ⟨rs, 0, none⟩ s) rs rt s x u v where
  st := SBx.cell (W := W) (SBx.putS (SBx.putO (p := ⟨rt, 8, none⟩) hne.symm (SBx.putO (p := ⟨rt, 7, none⟩) hne.symm (SBx.putO (p := ⟨rt, 6, none⟩) hne.symm (SBx.putO (p := ⟨rt, 5, none⟩) hne.symm (SBx.putO (p := ⟨rt, 4, none⟩) hne.symm (SBx.putO (p := ⟨rt, 3, none⟩) hne.symm (SBx.putO (p := ⟨rt, 2, none⟩) hne.symm (SBx.putO (p := ⟨rt, 1, none⟩) hne.symm (SBx.putO (p := ⟨rt, 0, none⟩) hne.symm hs))))))))))
  tb := (TBx.putO (p := ⟨rs, 0, none⟩) hne (TBx.putS ht)).bx.tb
  agr := by
    have ho := off_put V rt x u v
    exact Agr.set ⟨ho.os, ho.tape, ho.output, Nat.le_of_eq ho.size.symm, fun k _ hk => ho.block k hk.2⟩ (p := ⟨rs, 0, none⟩) s (fun e => e.1 rfl)
theorem Fin9.drew {V Wf : World} {rs rt : Nat} {s u v : Value} {x : Hd} (h : Fin9 V Wf rs rt s x u v) : Fin9 V Wf.drew rs rt s x u v := ⟨h.st, h.tb, h.agr.trans (Agr.of_below ((Below.refl _ Wf).drew) _)⟩
theorem Rg9.put1 {W V : World} {sb tb lo hi lo2 hi2 N n n2 i : Nat} {s u v z : Value} {C : List (List Ver)} {x x' : Hd} {R S : List E2} (h : Rg9 W V sb tb lo hi lo2 hi2 s N C x u n R v n2 S) (hx : Bx (V.setCell ⟨tb, i, none⟩ z) tb x' u v) : Rg9 W (V.setCell ⟨tb, i, none⟩ z) sb tb lo hi lo2 hi2 s N C x' u n R v n2 S where
  bel := bel_set h.bel h.tbx.lo
  sbx := SBx.putO (p := ⟨tb, i, none⟩) h.ne.symm h.sbx
  tbx := ⟨h.tbx.lo, hx⟩
  oq := oqS (p := ⟨tb, i, none⟩) h.t1 h.oq
  ot := otS (p := ⟨tb, i, none⟩) h.t2 h.ot
  l0 := h.l0
  l1 := h.l1
  l2 := h.l2
  l3 := h.l3
  l4 := by simpa [World.setCell] using h.l4
  s1 := h.s1
  s2 := h.s2
  t1 := h.t1
  t2 := h.t2
  ne := h.ne
theorem Bx.set2 {w : World} {b : Nat} {x : Hd} {u v : Value} (h : Bx w b x u v) (z : Int) : Bx (w.setCell ⟨b, 2, none⟩ (.int .i64 z)) b { x with t := z } u v := (World.rowIs.set h 2 (.int .i64 z)).congr (Go.Proofs.YthbbpfgjbidbhaaGreatDoor.bx.nine_ext rfl rfl rfl rfl rfl rfl rfl rfl rfl)
theorem Bx.set6 {w : World} {b : Nat} {x : Hd} {u v : Value} (h : Bx w b x u v) (z : Int) : Bx (w.setCell ⟨b, 6, none⟩ (.int .i64 z)) b { x with c := z } u v := (World.rowIs.set h 6 (.int .i64 z)).congr (Go.Proofs.YthbbpfgjbidbhaaGreatDoor.bx.nine_ext rfl rfl rfl rfl rfl rfl rfl rfl rfl)
/-- at the end: what the results own -/
theorem fin_end {w V Wf : World} {Q : Nat → Prop} {lo2 hi2 N n n2 : Nat} {s u v s9 u9 v9 : Value} {x9 : Hd} {C : List (List Ver)} {R S : List E2} (hq : OQ V Q s N C) (hQ : ∀ q, Q q → w.heap.size + 4 ≤ q) (ho : OT V lo2 hi2 u n R v n2 S) (h2 : w.heap.size + 4 ≤ lo2) (h4 : hi2 ≤ V.heap.size) (hb : Below w.heap.size w V) (F : Fin9 V Wf (w.heap.size + 1 + 1) (w.heap.size + 1 + 1 + 1) s9 x9 u9 v9) :
    OS Wf w.heap.size s N C ∧ OwnT Wf w.heap.size u n R v n2 S ∧ Below w.heap.size w Wf := by
  refine ⟨(hq.agr (F.agr.mono fun q _ h => by have := hQ q h; show q ≠ _ ∧ q ≠ _; omega)).os fun q h => by have := hQ q h; omega, (ho.keep (V' := Wf) fun q h h' => F.agr.block q (by omega) (by show q ≠ _ ∧ q ≠ _; omega)).own.more (by omega), hb.trans (F.agr.below (by have := hb.size; omega) fun q h => by show q ≠ _ ∧ q ≠ _; omega)⟩
end Go.Proofs.YthbbpfgjbidbhaaGreatDoor.rg
