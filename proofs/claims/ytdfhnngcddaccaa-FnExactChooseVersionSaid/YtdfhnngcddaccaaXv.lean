/- What a law holds behind a statement that lays a version into a box of its own, in whatever order. -/
import Derived.Test.YtdfhnngcddaccaaMx
import Derived.Test.YtdfhnngcddaccaaVers
import Derived.Deep.CutRange
namespace Go.Proofs.Ytdfhnngcddaccaa.xv
open Go.ChangeShapes Go.WideShapes Go.ChangeAt Go.RowKit
open Go.Proofs.Ytdfhnngcddaccaa.sl Go.Proofs.Ytdfhnngcddaccaa.tx
open Go.Proofs.Ytdfhnngcddaccaa.el2 (Off)
set_option linter.unusedVariables false
set_option linter.unusedSimpArgs false
/-- a box of a version -/
def Vx (w : World) (b : Nat) (m : Ver) : Prop := ∃ f, w.rowIs b 34 5 f ∧ f 0 = .int .i64 m.a ∧ f 1 = .int .i64 m.b ∧ f 2 = .int .i64 m.c ∧ f 3 = .int .i64 m.d ∧ f 4 = .int .i64 m.e
section
variable {w w' : World} {b : Nat} {x y : Ver}
theorem Vx.cells (h : Vx w b x) : w.cell? ⟨b, 0, none⟩ = some (.int .i64 x.a) ∧ w.cell? ⟨b, 1, none⟩ = some (.int .i64 x.b) ∧ w.cell? ⟨b, 2, none⟩ = some (.int .i64 x.c) ∧ w.cell? ⟨b, 3, none⟩ = some (.int .i64 x.d) ∧ w.cell? ⟨b, 4, none⟩ = some (.int .i64 x.e) := by
  obtain ⟨f, hf, h0, h1, h2, h3, h4⟩ := h
  exact ⟨(hf.cell (show 0 < 5 by decide)).trans (by rw [h0]), (hf.cell (show 1 < 5 by decide)).trans (by rw [h1]), (hf.cell (show 2 < 5 by decide)).trans (by rw [h2]), (hf.cell (show 3 < 5 by decide)).trans (by rw [h3]), (hf.cell (show 4 < 5 by decide)).trans (by rw [h4])⟩
theorem Vx.fz (h : Vx w b x) (i : Nat) : w.frozen? ⟨b, i, none⟩ = false := by obtain ⟨f, hf, _⟩ := h; exact hf.frozen i
theorem Vx.lt (h : Vx w b x) : b < w.heap.size := by obtain ⟨f, hf, _⟩ := h; exact hf.lt
theorem Vx.of_block (h : Vx w b x) (hk : w'.heap[b]? = w.heap[b]?) : Vx w' b x := by obtain ⟨f, hf, hr⟩ := h; exact ⟨f, hf.of_block hk, hr⟩
theorem Vx.new (w : World) (x : Ver) : Vx (w.alloc (.cells #[.int .i64 x.a, .int .i64 x.b, .int .i64 x.c, .int .i64 x.d, .int .i64 x.e] 34)) w.heap.size x :=
  ⟨fun i => if i = 0 then .int .i64 x.a else if i = 1 then .int .i64 x.b else if i = 2 then .int .i64 x.c else if i = 3 then .int .i64 x.d else .int .i64 x.e, World.rowIs_alloc w #[.int .i64 x.a, .int .i64 x.b, .int .i64 x.c, .int .i64 x.d, .int .i64 x.e] 34 _ (fun i hi => by
    have : i = 0 ∨ i = 1 ∨ i = 2 ∨ i = 3 ∨ i = 4 := by simp at hi; omega
    rcases this with rfl | rfl | rfl | rfl | rfl <;> rfl), rfl, rfl, rfl, rfl, rfl⟩
theorem Vx.put (h : Vx w b y) (x : Ver) : Vx (World.setCell (World.setCell (World.setCell (World.setCell (World.setCell w ⟨b, 0, none⟩ (.int .i64 x.a)) ⟨b, 1, none⟩ (.int .i64 x.b)) ⟨b, 2, none⟩ (.int .i64 x.c)) ⟨b, 3, none⟩ (.int .i64 x.d)) ⟨b, 4, none⟩ (.int .i64 x.e)) b x := by
  obtain ⟨f, hf, _⟩ := h
  exact ⟨_, (((((hf.set 0 (.int .i64 x.a)).set 1 (.int .i64 x.b)).set 2 (.int .i64 x.c)).set 3 (.int .i64 x.d)).set 4 (.int .i64 x.e)), rfl, rfl, rfl, rfl, rfl⟩
theorem off5 (V : World) (bb : Nat) (v0 v1 v2 v3 v4 : Value) : Off bb V (World.setCell (World.setCell (World.setCell (World.setCell (World.setCell V ⟨bb, 0, none⟩ v0) ⟨bb, 1, none⟩ v1) ⟨bb, 2, none⟩ v2) ⟨bb, 3, none⟩ v3) ⟨bb, 4, none⟩ v4) :=
  (((((Off.refl bb V).setCell (p := ⟨bb, 0, none⟩) rfl _).setCell (p := ⟨bb, 1, none⟩) rfl _).setCell (p := ⟨bb, 2, none⟩) rfl _).setCell (p := ⟨bb, 3, none⟩) rfl _).setCell (p := ⟨bb, 4, none⟩) rfl _
theorem Vx.keep {B : Nat} (h : Vx w b x) (hb : Below B w w') (hB : b < B) : Vx w' b x := h.of_block (hb.block b hB)
end
theorem Vx.at_ {w : World} {b : Nat} {m : Ver} (h : Vx w b m) : At w b 0 m := h.cells
/-- a box of a version that is new since W -/
structure RV (W V : World) (b : Nat) (m : Ver) : Prop where
  lo : W.heap.size ≤ b
  mx : Vx V b m
section
variable {W V V' : World} {b b' : Nat} {m m0 m' : Ver}
theorem RV.alloc (h : RV W V b m) (o : Obj) : RV W (V.alloc o) b m := ⟨h.lo, h.mx.keep (el2.new1 V o) h.mx.lt⟩
theorem RV.call (h : RV W V b m) (hb : Below V.heap.size V V') : RV W V' b m := ⟨h.lo, h.mx.keep hb h.mx.lt⟩
theorem RV.drew (h : RV W V b m) : RV W V.drew b m := ⟨h.lo, h.mx⟩
theorem RV.new (hb : Below W.heap.size W V) (h : b = V.heap.size) : RV W (V.alloc (.cells #[.int .i64 m.a, .int .i64 m.b, .int .i64 m.c, .int .i64 m.d, .int .i64 m.e] 34)) b m := by
  subst h
  exact ⟨hb.size, Vx.new V m⟩
theorem RV.zero (hb : Below W.heap.size W V) (h : b = V.heap.size) : RV W (V.alloc (.cells #[.int .i64 0, .int .i64 0, .int .i64 0, .int .i64 0, .int .i64 0] 34)) b ⟨0, 0, 0, 0, 0⟩ := by
  subst h
  exact ⟨hb.size, Vx.new V ⟨0, 0, 0, 0, 0⟩⟩
theorem RV.putS (h : RV W V b m0) : RV W (World.setCell (World.setCell (World.setCell (World.setCell (World.setCell V ⟨b, 0, none⟩ (.int .i64 m.a)) ⟨b, 1, none⟩ (.int .i64 m.b)) ⟨b, 2, none⟩ (.int .i64 m.c)) ⟨b, 3, none⟩ (.int .i64 m.d)) ⟨b, 4, none⟩ (.int .i64 m.e)) b m := ⟨h.lo, h.mx.put m⟩
theorem bel_put (hb : Below W.heap.size W V) (h : W.heap.size ≤ b') : Below W.heap.size W (World.setCell (World.setCell (World.setCell (World.setCell (World.setCell V ⟨b', 0, none⟩ (.int .i64 m'.a)) ⟨b', 1, none⟩ (.int .i64 m'.b)) ⟨b', 2, none⟩ (.int .i64 m'.c)) ⟨b', 3, none⟩ (.int .i64 m'.d)) ⟨b', 4, none⟩ (.int .i64 m'.e)) := mx.bel_off hb (off5 V b' _ _ _ _ _) h
theorem bel_alloc (hb : Below W.heap.size W V) (o : Obj) : Below W.heap.size W (V.alloc o) := hb.alloc hb.size o
end
theorem cell5 {V : World} {bb : Nat} {v0 v1 v2 v3 v4 : Value} {p : Addr} (h : p.block ≠ bb) : World.cell? (World.setCell (World.setCell (World.setCell (World.setCell (World.setCell V ⟨bb, 0, none⟩ v0) ⟨bb, 1, none⟩ v1) ⟨bb, 2, none⟩ v2) ⟨bb, 3, none⟩ v3) ⟨bb, 4, none⟩ v4) p = V.cell? p := World.cell?_of_block (a := p) ((off5 V bb v0 v1 v2 v3 v4).block _ h)
theorem cellA {V : World} {o : Obj} {p : Addr} (h : p.block < V.heap.size) : (V.alloc o).cell? p = V.cell? p := World.cell?_alloc_lt _ _ p h
theorem eq_self (m : Ver) (w : World) : Calls Try.prog 26 #[.agg #[.int .i64 m.a, .int .i64 m.b, .int .i64 m.c, .int .i64 m.d, .int .i64 m.e], .agg #[.int .i64 m.a, .int .i64 m.b, .int .i64 m.c, .int .i64 m.d, .int .i64 m.e]] w fun e w' => e = .returned (.bool true) ∧ Below w.heap.size w w' :=
  find.same_version m w
end Go.Proofs.Ytdfhnngcddaccaa.xv
