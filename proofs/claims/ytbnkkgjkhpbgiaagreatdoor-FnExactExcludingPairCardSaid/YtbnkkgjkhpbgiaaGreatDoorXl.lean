/- What a law holds behind a statement that lays two marks into boxes of its own, in whatever order; two equal marks are equal. -/
import Derived.Test.YtbnkkgjkhpbgiaaGreatDoorMx
import Derived.Test.YtbnkkgjkhpbgiaaGreatDoorRReadMark
import Derived.Deep.CutRange
namespace Go.Proofs.YtbnkkgjkhpbgiaaGreatDoor.xl
open Go.ChangeShapes Go.WideShapes Go.ChangeAt Go.RowKit
open Go.Proofs.YtbnkkgjkhpbgiaaGreatDoor.el2 Go.Proofs.YtbnkkgjkhpbgiaaGreatDoor.tx Go.Proofs.YtbnkkgjkhpbgiaaGreatDoor.mx
set_option linter.unusedVariables false
set_option linter.unusedSimpArgs false
theorem Mx.at_ {w : World} {b : Nat} {m : E2} (h : Mx w b m) : At w b 0 m := h.cells
/-- a box of a mark that is new since W -/
structure RB (W V : World) (b : Nat) (m : E2) : Prop where
  lo : W.heap.size ≤ b
  mx : Mx V b m
section
variable {W V V' : World} {b b' : Nat} {m m0 m' : E2}
theorem RB.alloc (h : RB W V b m) (o : Obj) : RB W (V.alloc o) b m := ⟨h.lo, h.mx.keep (new1 V o) h.mx.lt⟩
theorem RB.call (h : RB W V b m) (hb : Below V.heap.size V V') : RB W V' b m := ⟨h.lo, h.mx.keep hb h.mx.lt⟩
theorem RB.drew (h : RB W V b m) : RB W V.drew b m := ⟨h.lo, h.mx⟩
theorem RB.new (hb : Below W.heap.size W V) (h : b = V.heap.size) : RB W (V.alloc (.cells #[.int .i64 m.a, .int .i64 m.b] 38)) b m := by
  subst h
  exact ⟨hb.size, Mx.new V m⟩
theorem RB.zero (hb : Below W.heap.size W V) (h : b = V.heap.size) : RB W (V.alloc (.cells #[.int .i64 0, .int .i64 0] 38)) b ⟨0, 0⟩ := by
  subst h
  exact ⟨hb.size, Mx.zero V⟩
theorem RB.putS (h : RB W V b m0) : RB W (World.setCell (World.setCell V ⟨b, 0, none⟩ (.int .i64 m.a)) ⟨b, 1, none⟩ (.int .i64 m.b)) b m := ⟨h.lo, h.mx.put m⟩
theorem RB.putO (hne : b ≠ b') (h : RB W V b m) : RB W (World.setCell (World.setCell V ⟨b', 0, none⟩ (.int .i64 m'.a)) ⟨b', 1, none⟩ (.int .i64 m'.b)) b m := ⟨h.lo, h.mx.of_block ((off2 V b' (.int .i64 m'.a) (.int .i64 m'.b)).block b hne)⟩
theorem bel_put (hb : Below W.heap.size W V) (h : W.heap.size ≤ b') : Below W.heap.size W (World.setCell (World.setCell V ⟨b', 0, none⟩ (.int .i64 m'.a)) ⟨b', 1, none⟩ (.int .i64 m'.b)) := bel_off hb (off2 V b' _ _) h
theorem bel_alloc (hb : Below W.heap.size W V) (o : Obj) : Below W.heap.size W (V.alloc o) := hb.alloc hb.size o
end
theorem cell2 {V : World} {bb : Nat} {v0 v1 : Value} {p : Addr} (h : p.block ≠ bb) : World.cell? (World.setCell (World.setCell V ⟨bb, 0, none⟩ v0) ⟨bb, 1, none⟩ v1) p = V.cell? p := World.cell?_of_block (a := p) ((off2 V bb v0 v1).block _ h)
theorem cellA {V : World} {o : Obj} {p : Addr} (h : p.block < V.heap.size) : (V.alloc o).cell? p = V.cell? p := World.cell?_alloc_lt _ _ p h
theorem eq_self (m : E2) (w : World) : Calls Tryz.prog 20 #[.agg #[.int .i64 m.a, .int .i64 m.b], .agg #[.int .i64 m.a, .int .i64 m.b]] w fun e w' => e = .returned (.bool true) ∧ Below w.heap.size w w' :=
  (rReadMark.eq_one m m w).mono fun e w' ⟨he, hb⟩ => ⟨by rw [he, show rReadMark.eB m m = true by simp [rReadMark.eB]], hb⟩
end Go.Proofs.YtbnkkgjkhpbgiaaGreatDoor.xl
