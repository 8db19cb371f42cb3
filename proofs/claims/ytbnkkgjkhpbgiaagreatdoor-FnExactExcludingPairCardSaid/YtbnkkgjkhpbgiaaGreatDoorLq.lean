/- Boxes of a store, of a transaction and of two marks. -/
import Derived.Test.YtbnkkgjkhpbgiaaGreatDoorMx
import Derived.Test.YtbnkkgjkhpbgiaaGreatDoorEp
namespace Go.Proofs.YtbnkkgjkhpbgiaaGreatDoor.lq
open Go.ChangeShapes Go.WideShapes Go.ChangeAt Go.RowKit
open Go.Proofs.YtbnkkgjkhpbgiaaGreatDoor.el2 Go.Proofs.YtbnkkgjkhpbgiaaGreatDoor.tx Go.Proofs.YtbnkkgjkhpbgiaaGreatDoor.seq Go.Proofs.YtbnkkgjkhpbgiaaGreatDoor.tv Go.Proofs.YtbnkkgjkhpbgiaaGreatDoor.tf Go.Proofs.YtbnkkgjkhpbgiaaGreatDoor.rx Go.Proofs.YtbnkkgjkhpbgiaaGreatDoor.ri Go.Proofs.YtbnkkgjkhpbgiaaGreatDoor.rl Go.Proofs.YtbnkkgjkhpbgiaaGreatDoor.ov Go.Proofs.YtbnkkgjkhpbgiaaGreatDoor.bx Go.Proofs.YtbnkkgjkhpbgiaaGreatDoor.mx Go.Proofs.YtbnkkgjkhpbgiaaGreatDoor.em Go.Proofs.YtbnkkgjkhpbgiaaGreatDoor.ep
open Go.Proofs.YtbnkkgjkhpbgiaaGreatDoor.vers (new2)
open Go.Proofs.YtbnkkgjkhpbgiaaGreatDoor.sl (Ver)
open Go.Proofs.YtbnkkgjkhpbgiaaGreatDoor.st (Rs)
open Go.Proofs.YtbnkkgjkhpbgiaaGreatDoor.val (stB)
set_option linter.unusedVariables false
set_option linter.unusedSimpArgs false
structure LQ (w : World) (sv : Value) (x : Hd) (u1 u2 : Value) (m1 m2 : E2) (W : World) : Prop where
  ls : LS w sv x u1 u2 W
  size : w.heap.size + 4 ≤ W.heap.size
  r1 : Mx W (w.heap.size + 2) m1
  r2 : Mx W (w.heap.size + 3) m2
theorem cell2 {V : World} {bb : Nat} {v0 v1 : Value} {p : Addr} (h : p.block ≠ bb) : World.cell? (World.setCell (World.setCell V ⟨bb, 0, none⟩ v0) ⟨bb, 1, none⟩ v1) p = V.cell? p := World.cell?_of_block (a := p) ((off2 V bb v0 v1).block _ h)
section
variable {w W W' : World} {x : Hd} {u1 u2 sv : Value} {m1 m2 : E2}
theorem LQ.keep (h : LQ w sv x u1 u2 m1 m2 W) (hb : Below (w.heap.size + 4) W W') : LQ w sv x u1 u2 m1 m2 W' :=
  ⟨LS.keep h.ls (hb.mono (by omega)), Nat.le_trans h.size hb.size, h.r1.keep hb (by omega), h.r2.keep hb (by omega)⟩
theorem LQ.call (h : LQ w sv x u1 u2 m1 m2 W) (hb : Below W.heap.size W W') : LQ w sv x u1 u2 m1 m2 W' := h.keep (below_le hb h.size)
theorem LQ.drewN (h : LQ w sv x u1 u2 m1 m2 W) (n : Nat) : LQ w sv x u1 u2 m1 m2 (W.drewN n) := ⟨h.ls.drewN n, h.size, h.r1, h.r2⟩
theorem LQ.put1 (h : LQ w sv x u1 u2 m1 m2 W) (m : E2) : LQ w sv x u1 u2 m m2 (World.setCell (World.setCell W ⟨w.heap.size + 2, 0, none⟩ (.int .i64 m.a)) ⟨w.heap.size + 2, 1, none⟩ (.int .i64 m.b)) :=
  have ho := off2 W (w.heap.size + 2) (.int .i64 m.a) (.int .i64 m.b)
  ⟨LS.keep h.ls (ho.below (Nat.le_refl _)), by rw [ho.size]; exact h.size, h.r1.put m, h.r2.of_block (ho.block _ (by omega))⟩
theorem LQ.put2 (h : LQ w sv x u1 u2 m1 m2 W) (m : E2) : LQ w sv x u1 u2 m1 m (World.setCell (World.setCell W ⟨w.heap.size + 3, 0, none⟩ (.int .i64 m.a)) ⟨w.heap.size + 3, 1, none⟩ (.int .i64 m.b)) :=
  have ho := off2 W (w.heap.size + 3) (.int .i64 m.a) (.int .i64 m.b)
  ⟨LS.keep h.ls (ho.below (by omega)), by rw [ho.size]; exact h.size, h.r1.of_block (ho.block _ (by omega)), h.r2.put m⟩
end
theorem LQ.mk4 (w : World) (x : Hd) (A A2 D : Option Addr) (n c n2 c2 N cN : Nat) : LQ w (.slice D N cN) x (.slice A n c) (.slice A2 n2 c2) ⟨0, 0⟩ ⟨0, 0⟩ ((((w.alloc (.cells #[.slice D N cN] 26)).alloc (.cells #[.int .i64 x.i, .int .i64 x.s, .int .i64 x.t, .int .i64 x.b, .int .i64 x.l, .int .i64 x.h, .int .i64 x.c, .slice A n c, .slice A2 n2 c2] 30)).alloc (.cells #[.int .i64 0, .int .i64 0] 38)).alloc (.cells #[.int .i64 0, .int .i64 0] 38)) where
  ls := (LM.mk3 w x A A2 D n c n2 c2 N cN).ls.call (new1 _ _)
  size := by simp
  r1 := (LM.mk3 w x A A2 D n c n2 c2 N cN).rb.keep (new1 _ _) (by simp)
  r2 := by
    have h := Mx.zero (((w.alloc (.cells #[.slice D N cN] 26)).alloc (.cells #[.int .i64 x.i, .int .i64 x.s, .int .i64 x.t, .int .i64 x.b, .int .i64 x.l, .int .i64 x.h, .int .i64 x.c, .slice A n c, .slice A2 n2 c2] 30)).alloc (.cells #[.int .i64 0, .int .i64 0] 38))
    rw [show (((w.alloc (.cells #[.slice D N cN] 26)).alloc (.cells #[.int .i64 x.i, .int .i64 x.s, .int .i64 x.t, .int .i64 x.b, .int .i64 x.l, .int .i64 x.h, .int .i64 x.c, .slice A n c, .slice A2 n2 c2] 30)).alloc (.cells #[.int .i64 0, .int .i64 0] 38)).heap.size = w.heap.size + 3 by simp] at h
    exact h
end Go.Proofs.YtbnkkgjkhpbgiaaGreatDoor.lq
