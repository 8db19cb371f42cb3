/- A box of a mark that is written; the boxes of a store, of a transaction and of a mark. -/
import Derived.Test.YtdfhnngcddaccaaBx
import Derived.Test.YtdfhnngcddaccaaRx
namespace Go.Proofs.Ytdfhnngcddaccaa.mx
open Go.ChangeShapes Go.WideShapes Go.ChangeAt Go.RowKit
open Go.Proofs.Ytdfhnngcddaccaa.el2 Go.Proofs.Ytdfhnngcddaccaa.tx Go.Proofs.Ytdfhnngcddaccaa.bx Go.Proofs.Ytdfhnngcddaccaa.rx
open Go.Proofs.Ytdfhnngcddaccaa.vers (new2 new3)
open Go.Proofs.Ytdfhnngcddaccaa.sl (Ver)
open Go.Proofs.Ytdfhnngcddaccaa.st (Rs)
set_option linter.unusedVariables false
set_option linter.unusedSimpArgs false
/-- a box of a mark -/
def Mx (w : World) (b : Nat) (m : E2) : Prop := ∃ f, w.rowIs b 125 2 f ∧ f 0 = .int .i64 m.a ∧ f 1 = .int .i64 m.b
section
variable {w w' : World} {b : Nat} {x y : E2}
theorem Mx.cells (h : Mx w b x) : w.cell? ⟨b, 0, none⟩ = some (.int .i64 x.a) ∧ w.cell? ⟨b, 1, none⟩ = some (.int .i64 x.b) := by
  obtain ⟨f, hf, h0, h1⟩ := h
  exact ⟨(hf.cell (show 0 < 2 by decide)).trans (by rw [h0]), (hf.cell (show 1 < 2 by decide)).trans (by rw [h1])⟩
theorem Mx.fz (h : Mx w b x) (i : Nat) : w.frozen? ⟨b, i, none⟩ = false := by obtain ⟨f, hf, _⟩ := h; exact hf.frozen i
theorem Mx.lt (h : Mx w b x) : b < w.heap.size := by obtain ⟨f, hf, _⟩ := h; exact hf.lt
theorem Mx.of_block (h : Mx w b x) (hk : w'.heap[b]? = w.heap[b]?) : Mx w' b x := by obtain ⟨f, hf, hr⟩ := h; exact ⟨f, hf.of_block hk, hr⟩
theorem Mx.new (w : World) (x : E2) : Mx (w.alloc (.cells #[.int .i64 x.a, .int .i64 x.b] 125)) w.heap.size x :=
  ⟨fun i => if i = 0 then .int .i64 x.a else .int .i64 x.b, World.rowIs_alloc w #[.int .i64 x.a, .int .i64 x.b] 125 _ (fun i hi => by
    have : i = 0 ∨ i = 1 := by simp at hi; omega
    rcases this with rfl | rfl <;> rfl), rfl, rfl⟩
theorem Mx.zero (w : World) : Mx (w.alloc (.cells #[.int .i64 0, .int .i64 0] 125)) w.heap.size ⟨0, 0⟩ := Mx.new w ⟨0, 0⟩
theorem Mx.put (h : Mx w b y) (x : E2) : Mx (World.setCell (World.setCell w ⟨b, 0, none⟩ (.int .i64 x.a)) ⟨b, 1, none⟩ (.int .i64 x.b)) b x := by
  obtain ⟨f, hf, _⟩ := h
  exact ⟨_, (hf.set 0 (.int .i64 x.a)).set 1 (.int .i64 x.b), rfl, rfl⟩
theorem off2 (V : World) (bb : Nat) (v0 v1 : Value) : Off bb V (World.setCell (World.setCell V ⟨bb, 0, none⟩ v0) ⟨bb, 1, none⟩ v1) :=
  ((Off.refl bb V).setCell (p := ⟨bb, 0, none⟩) rfl _).setCell (p := ⟨bb, 1, none⟩) rfl _
/-- writing a block that is new since the start -/
theorem bel_off {w0 W W' : World} {q : Nat} (h : Below w0.heap.size w0 W) (ho : Off q W W') (hq : w0.heap.size ≤ q) : Below w0.heap.size w0 W' := h.trans (ho.below hq)
theorem Mx.keep {B : Nat} (h : Mx w b x) (hb : Below B w w') (hB : b < B) : Mx w' b x := h.of_block (hb.block b hB)
end
/-- the boxes of a store, of a transaction and of a mark -/
structure LM (w : World) (sv : Value) (x : Hd) (u1 u2 : Value) (m : E2) (W : World) : Prop where
  ls : LS w sv x u1 u2 W
  size : w.heap.size + 3 ≤ W.heap.size
  rb : Mx W (w.heap.size + 2) m
section
variable {w W W' : World} {x : Hd} {u1 u2 sv : Value} {m m' : E2}
theorem LS.keep {w W W' : World} {x : Hd} {u1 u2 sv : Value} (h : LS w sv x u1 u2 W) (hb : Below (w.heap.size + 2) W W') : LS w sv x u1 u2 W' :=
  ⟨h.bel.trans (hb.mono (by omega)), Nat.le_trans h.size hb.size, (hb.cell (p := ⟨w.heap.size, 0, none⟩) (by simp only; omega)).trans h.st, h.tb.keep (by omega) hb⟩
theorem LM.keep (h : LM w sv x u1 u2 m W) (hb : Below (w.heap.size + 3) W W') : LM w sv x u1 u2 m W' :=
  ⟨LS.keep h.ls (hb.mono (by omega)), Nat.le_trans h.size hb.size, h.rb.keep hb (by omega)⟩
theorem LM.call (h : LM w sv x u1 u2 m W) (hb : Below W.heap.size W W') : LM w sv x u1 u2 m W' := h.keep (below_le hb h.size)
theorem LM.put (h : LM w sv x u1 u2 m W) (m' : E2) : LM w sv x u1 u2 m' (World.setCell (World.setCell W ⟨w.heap.size + 2, 0, none⟩ (.int .i64 m'.a)) ⟨w.heap.size + 2, 1, none⟩ (.int .i64 m'.b)) :=
  have ho := off2 W (w.heap.size + 2) (.int .i64 m'.a) (.int .i64 m'.b)
  ⟨LS.keep h.ls (ho.below (Nat.le_refl _)), by rw [ho.size]; exact h.size, h.rb.put m'⟩
theorem LM.drew (h : LM w sv x u1 u2 m W) : LM w sv x u1 u2 m W.drew := h.call ((Below.refl _ _).drew)
end
theorem LM.mk3 (w : World) (x : Hd) (A A2 D : Option Addr) (n c n2 c2 N cN : Nat) : LM w (.slice D N cN) x (.slice A n c) (.slice A2 n2 c2) ⟨0, 0⟩ (((w.alloc (.cells #[.slice D N cN] 26)).alloc (.cells #[.int .i64 x.i, .int .i64 x.s, .int .i64 x.t, .int .i64 x.b, .int .i64 x.l, .int .i64 x.h, .int .i64 x.c, .slice A n c, .slice A2 n2 c2] 30)).alloc (.cells #[.int .i64 0, .int .i64 0] 125)) where
  ls := (LS.mk2 w (.slice D N cN) 26 30 x A n c A2 n2 c2).call (new1 _ _)
  size := by simp
  rb := by
    have h := Mx.zero ((w.alloc (.cells #[.slice D N cN] 26)).alloc (.cells #[.int .i64 x.i, .int .i64 x.s, .int .i64 x.t, .int .i64 x.b, .int .i64 x.l, .int .i64 x.h, .int .i64 x.c, .slice A n c, .slice A2 n2 c2] 30))
    rw [show ((w.alloc (.cells #[.slice D N cN] 26)).alloc (.cells #[.int .i64 x.i, .int .i64 x.s, .int .i64 x.t, .int .i64 x.b, .int .i64 x.l, .int .i64 x.h, .int .i64 x.c, .slice A n c, .slice A2 n2 c2] 30)).heap.size = w.heap.size + 2 by simp] at h
    exact h
end Go.Proofs.Ytdfhnngcddaccaa.mx
