/- The model's DrawTrackWrite: a drawn store, a drawn transaction, a key, a value. -/
import Derived.Test.YtdfhnngcddaccaaDrh
namespace Go.Proofs.Ytdfhnngcddaccaa.dtw
open Go.ChangeShapes Go.WideShapes Go.ChangeAt Go.RowKit
open Go.Proofs.Ytdfhnngcddaccaa.el2 Go.Proofs.Ytdfhnngcddaccaa.tx Go.Proofs.Ytdfhnngcddaccaa.ap Go.Proofs.Ytdfhnngcddaccaa.bx Go.Proofs.Ytdfhnngcddaccaa.ad Go.Proofs.Ytdfhnngcddaccaa.sf Go.Proofs.Ytdfhnngcddaccaa.dr Go.Proofs.Ytdfhnngcddaccaa.drt Go.Proofs.Ytdfhnngcddaccaa.dpr Go.Proofs.Ytdfhnngcddaccaa.drh
open Go.Proofs.Ytdfhnngcddaccaa.cur (CurAt CodeAt Kp Only below_calls pick_calls new_calls cur_new)
open Go.Proofs.Ytdfhnngcddaccaa.vers (new2)
open Go.Proofs.Ytdfhnngcddaccaa.sl (Ver)
open Go.Proofs.Ytdfhnngcddaccaa.st (Rs)
set_option linter.unusedVariables false
set_option linter.unusedSimpArgs false
theorem list_w {W : World} {g : Nat} {t : TypeId} (h : W.heap[g]? = some (.cells #[.int .i64 (-1), .int .i64 0, .int .i64 7, .int .i64 99, .int .i64 (-2), .int .i64 100] t (0, 0))) : ∀ j, j < 6 → ∃ v : Int, W.cell? ⟨g, j, none⟩ = some (.int .i64 v) ∧ -2 ≤ v ∧ v ≤ 100 := by
  intro j hj
  have : j = 0 ∨ j = 1 ∨ j = 2 ∨ j = 3 ∨ j = 4 ∨ j = 5 := by omega
  rcases this with rfl | rfl | rfl | rfl | rfl | rfl
  · exact ⟨-1, by simp [World.cell?, h], by omega, by omega⟩
  · exact ⟨0, by simp [World.cell?, h], by omega, by omega⟩
  · exact ⟨7, by simp [World.cell?, h], by omega, by omega⟩
  · exact ⟨99, by simp [World.cell?, h], by omega, by omega⟩
  · exact ⟨-2, by simp [World.cell?, h], by omega, by omega⟩
  · exact ⟨100, by simp [World.cell?, h], by omega, by omega⟩
/-- what the region carries: the two boxes of the values, the two of the results, the lists, the cursor -/
structure ZZ (w W3 W : World) (b sb : Nat) (a : Option Addr) (len cap : Nat) (x : Hd) (A : Option Addr) (n c : Nat) (R : List E2) (A2 : Option Addr) (n2 c2 : Nat) (S : List E2) (D : Option Addr) (N cN : Nat) : Prop where
  st : W.cell? ⟨sb, 0, none⟩ = some (.slice D N cN)
  bxx : Bx W (sb + 1) x (.slice A n c) (.slice A2 n2 c2)
  zs : Sx W w.heap.size (.slice none 0 0)
  zr : Bx W (w.heap.size + 1) ⟨0, 0, 0, 0, 0, 0, 0⟩ (.slice none 0 0) (.slice none 0 0)
  own : OwnT W (w.heap.size + 5) (.slice A n c) n R (.slice A2 n2 c2) n2 S
  bel : Below w.heap.size w W
  cur : CurAt W b a len cap
  sz : W3.heap.size ≤ W.heap.size
  blk : ∀ q, q < W3.heap.size → q ≠ b → W.heap[q]? = W3.heap[q]?
section
variable {w W3 W W' : World} {b sb len cap n c n2 c2 N cN : Nat} {a A A2 D : Option Addr} {x : Hd} {R S : List E2}
theorem ZZ.only (h : ZZ w W3 W b sb a len cap x A n c R A2 n2 c2 S D N cN) (hb : w.heap.size + 2 ≤ b) (hb2 : b < w.heap.size + 5) (hb3 : b < sb) (ho : Only b W W') (hc : CurAt W' b a len cap) : ZZ w W3 W' b sb a len cap x A n c R A2 n2 c2 S D N cN where
  st := (World.cell?_of_block (w := W) (a := ⟨sb, 0, none⟩) (ho.block sb (by omega))).trans h.st
  bxx := h.bxx.of_block (ho.block (sb + 1) (by omega))
  zs := h.zs.of_block (ho.block _ (by omega))
  zr := h.zr.of_block (ho.block _ (by omega))
  own := h.own.off ⟨ho.os, ho.tape, ho.output, ho.size, ho.block⟩ hb2
  bel := h.bel.trans (ho.below (by omega))
  cur := hc
  sz := by rw [ho.size]; exact h.sz
  blk := fun q hq hne => (ho.block q hne).trans (h.blk q hq hne)
theorem ZZ.below (h : ZZ w W3 W b sb a len cap x A n c R A2 n2 c2 S D N cN) (hs : sb < W.heap.size) (hb : Below W.heap.size W W') : ZZ w W3 W' b sb a len cap x A n c R A2 n2 c2 S D N cN where
  st := (hb.cell (p := ⟨sb, 0, none⟩) hs).trans h.st
  bxx := h.bxx.keep hb h.bxx.lt
  zs := h.zs.of_block (hb.block _ h.zs.lt)
  zr := h.zr.keep hb h.zr.lt
  own := h.own.keep hb
  bel := h.bel.trans (hb.mono h.bel.size)
  cur := h.cur.grown (row := none) ⟨hb.os, hb.tape, hb.output, hb.size, fun k hk _ => hb.block k hk⟩ (by simp)
  sz := Nat.le_trans h.sz hb.size
  blk := fun q hq hne => (hb.block q (Nat.lt_of_lt_of_le hq h.sz)).trans (h.blk q hq hne)
theorem ZZ.drew (h : ZZ w W3 W b sb a len cap x A n c R A2 n2 c2 S D N cN) : ZZ w W3 W.drew b sb a len cap x A n c R A2 n2 c2 S D N cN := ⟨h.st, h.bxx, h.zs, h.zr, h.own, h.bel.drew, h.cur, h.sz, h.blk⟩
theorem ZZ.cells (h : ZZ w W3 W b sb a len cap x A n c R A2 n2 c2 S D N cN) : W.cell? ⟨sb, 0, none⟩ = some (.slice D N cN) ∧ W.cell? ⟨sb + 1, 0, none⟩ = some (.int .i64 x.i) ∧ W.cell? ⟨sb + 1, 1, none⟩ = some (.int .i64 x.s) ∧ W.cell? ⟨sb + 1, 2, none⟩ = some (.int .i64 x.t) ∧ W.cell? ⟨sb + 1, 3, none⟩ = some (.int .i64 x.b) ∧ W.cell? ⟨sb + 1, 4, none⟩ = some (.int .i64 x.l) ∧ W.cell? ⟨sb + 1, 5, none⟩ = some (.int .i64 x.h) ∧ W.cell? ⟨sb + 1, 6, none⟩ = some (.int .i64 x.c) ∧ W.cell? ⟨sb + 1, 7, none⟩ = some (.slice A n c) ∧ W.cell? ⟨sb + 1, 8, none⟩ = some (.slice A2 n2 c2) := ⟨h.st, h.bxx.tb⟩
end
/-- a drawn store, a drawn transaction, a key, a value -/
def DTW (w : World) (e : Ending) (w' : World) : Prop :=
  ∃ (D : Option Addr) (N cN : Nat) (C : List (List Ver)) (x : Hd) (A : Option Addr) (n c : Nat) (R : List E2) (A2 : Option Addr) (n2 c2 : Nat) (S : List E2) (k v : Int), e = .returned (.tuple #[.agg #[.slice D N cN], txv x (.slice A n c) (.slice A2 n2 c2), .int .i64 k, .int .i64 v]) ∧ N ≤ 6 ∧ n ≤ 5 ∧ n2 ≤ 5 ∧ Rs w' w'.heap.size D N C ∧ OwnT w' w.heap.size (.slice A n c) n R (.slice A2 n2 c2) n2 S ∧ Below w.heap.size w w'
end Go.Proofs.Ytdfhnngcddaccaa.dtw
