/- What a law holds behind a statement that lays a transaction's value into a box of its own, in whatever order. -/
import Derived.Test.YtdfhnngcddaccaaAd
import Derived.Test.YtdfhnngcddaccaaTm
import Derived.Test.YtdfhnngcddaccaaSt
import Derived.Deep.CutRange
namespace Go.Proofs.Ytdfhnngcddaccaa.lt
open Go.ChangeShapes Go.WideShapes Go.ChangeAt Go.RowKit
open Go.Proofs.Ytdfhnngcddaccaa.el2 Go.Proofs.Ytdfhnngcddaccaa.tx Go.Proofs.Ytdfhnngcddaccaa.fr Go.Proofs.Ytdfhnngcddaccaa.ow2 Go.Proofs.Ytdfhnngcddaccaa.tm Go.Proofs.Ytdfhnngcddaccaa.bx
set_option linter.unusedVariables false
set_option linter.unusedSimpArgs false
/-- the box bb holds the transaction; its lists lie from lo to hi, the box elsewhere -/
structure Reg (W wx : World) (bb lo hi : Nat) (x : Hd) (A : Option Addr) (n c : Nat) (R : List E2) (A2 : Option Addr) (n2 c2 : Nat) (S : List E2) : Prop where
  bel : Below W.heap.size W wx
  b1 : W.heap.size ≤ bb
  b2 : bb < wx.heap.size
  l1 : W.heap.size ≤ lo
  l2 : lo ≤ hi
  l3 : hi ≤ wx.heap.size
  ne : bb < lo ∨ hi ≤ bb
  tb : TB wx bb x (.slice A n c) (.slice A2 n2 c2)
  own : OwT wx lo hi A n R A2 n2 S
section
variable {W V : World} {bb lo n c n2 c2 : Nat} {x : Hd} {A A2 : Option Addr} {R S : List E2}
theorem Reg.late (hb : Below W.heap.size W V) (h1 : W.heap.size ≤ lo) (h2 : lo ≤ V.heap.size) (ho : OwT V lo V.heap.size A n R A2 n2 S) :
    Reg W (V.alloc (.cells #[.int .i64 x.i, .int .i64 x.s, .int .i64 x.t, .int .i64 x.b, .int .i64 x.l, .int .i64 x.h, .int .i64 x.c, .slice A n c, .slice A2 n2 c2] 30)) V.heap.size lo V.heap.size x A n c R A2 n2 c2 S where
  bel := hb.alloc hb.size _
  b1 := hb.size
  b2 := by simp
  l1 := h1
  l2 := h2
  l3 := by simp
  ne := .inr (Nat.le_refl _)
  tb := TB.new V x A n c A2 n2 c2 30
  own := ho.fr (FR.of_below (lo := V.heap.size) (hi := V.heap.size) (new1 V _)) (.inl (Nat.le_refl _)) (Nat.le_refl _)
theorem Reg.early {x0 : Hd} {u0 v0 : Value} (hb : Below W.heap.size W V) (zb : Bx V bb x0 u0 v0) (h0 : W.heap.size ≤ bb) (h1 : bb < lo) (h2 : lo ≤ V.heap.size) (ho : OwT V lo V.heap.size A n R A2 n2 S) :
    Reg W (World.setCell (World.setCell (World.setCell (World.setCell (World.setCell (World.setCell (World.setCell (World.setCell (World.setCell V ⟨bb, 0, none⟩ (.int .i64 x.i)) ⟨bb, 1, none⟩ (.int .i64 x.s)) ⟨bb, 2, none⟩ (.int .i64 x.t)) ⟨bb, 3, none⟩ (.int .i64 x.b)) ⟨bb, 4, none⟩ (.int .i64 x.l)) ⟨bb, 5, none⟩ (.int .i64 x.h)) ⟨bb, 6, none⟩ (.int .i64 x.c)) ⟨bb, 7, none⟩ (.slice A n c)) ⟨bb, 8, none⟩ (.slice A2 n2 c2)) bb lo V.heap.size x A n c R A2 n2 c2 S where
  bel := hb.trans ((off_put V bb x _ _).below h0)
  b1 := h0
  b2 := by rw [(off_put V bb x (.slice A n c) (.slice A2 n2 c2)).size]; exact zb.lt
  l1 := by omega
  l2 := h2
  l3 := by rw [(off_put V bb x (.slice A n c) (.slice A2 n2 c2)).size]; exact Nat.le_refl _
  ne := .inl h1
  tb := (zb.put x _ _).tb
  own := ho.fr (a := bb) (b := bb + 1) ⟨(off_put V bb x _ _).os, (off_put V bb x _ _).tape, (off_put V bb x _ _).output, Nat.le_of_eq (off_put V bb x _ _).size.symm, fun k _ hk => (off_put V bb x _ _).block k (by omega)⟩ (.inr h1) (Nat.le_refl _)
end
theorem put_cell {V : World} {bb : Nat} {x : Hd} {u v : Value} {p : Addr} (h : p.block ≠ bb) : World.cell? (World.setCell (World.setCell (World.setCell (World.setCell (World.setCell (World.setCell (World.setCell (World.setCell (World.setCell V ⟨bb, 0, none⟩ (.int .i64 x.i)) ⟨bb, 1, none⟩ (.int .i64 x.s)) ⟨bb, 2, none⟩ (.int .i64 x.t)) ⟨bb, 3, none⟩ (.int .i64 x.b)) ⟨bb, 4, none⟩ (.int .i64 x.l)) ⟨bb, 5, none⟩ (.int .i64 x.h)) ⟨bb, 6, none⟩ (.int .i64 x.c)) ⟨bb, 7, none⟩ u) ⟨bb, 8, none⟩ v) p = V.cell? p := World.cell?_of_block (a := p) ((off_put V bb x u v).block _ h)
theorem own_of {w : World} {lo base n c n2 c2 : Nat} {A A2 : Option Addr} {R S : List E2} (h : OwnT w base (.slice A n c) n R (.slice A2 n2 c2) n2 S) (hl : lo ≤ base) (h1 : R.length = n) (h2 : S.length = n2) : OwT w lo w.heap.size A n R A2 n2 S := ⟨OwS.of_own h.1 h1 hl (Nat.le_refl _), OwS.of_own h.2 h2 hl (Nat.le_refl _)⟩
end Go.Proofs.Ytdfhnngcddaccaa.lt
