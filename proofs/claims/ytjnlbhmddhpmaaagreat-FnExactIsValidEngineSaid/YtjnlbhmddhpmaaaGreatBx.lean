/- A box of a transaction in the heap: set, kept, copied. -/
import Derived.Test.YtjnlbhmddhpmaaaGreatAp
import Derived.Test.YtjnlbhmddhpmaaaGreatTm
namespace Go.Proofs.YtjnlbhmddhpmaaaGreat.bx
open Go.ChangeShapes Go.WideShapes Go.ChangeAt Go.RowKit
open Go.Proofs.YtjnlbhmddhpmaaaGreat.el2 Go.Proofs.YtjnlbhmddhpmaaaGreat.tx Go.Proofs.YtjnlbhmddhpmaaaGreat.fr Go.Proofs.YtjnlbhmddhpmaaaGreat.ow2 Go.Proofs.YtjnlbhmddhpmaaaGreat.ap
set_option linter.unusedVariables false
set_option linter.unusedSimpArgs false
set_option linter.constructorNameAsVariable false
/-- block b is a transaction's box -/
def Bx (w : World) (b : Nat) (x : Hd) (u v : Value) : Prop := w.rowIs b 55 9 (xf x u v)
abbrev txv (x : Hd) (u v : Value) : Value := .agg #[.int .i64 x.i, .int .i64 x.s, .int .i64 x.t, .int .i64 x.b, .int .i64 x.l, .int .i64 x.h, .int .i64 x.c, u, v]
theorem nine_ext {f g : Nat → Value} (h0 : f 0 = g 0) (h1 : f 1 = g 1) (h2 : f 2 = g 2) (h3 : f 3 = g 3) (h4 : f 4 = g 4) (h5 : f 5 = g 5) (h6 : f 6 = g 6) (h7 : f 7 = g 7) (h8 : f 8 = g 8) : ∀ i, i < 9 → f i = g i := by
  intro i hi
  match i, hi with
  | 0, _ => exact h0
  | 1, _ => exact h1
  | 2, _ => exact h2
  | 3, _ => exact h3
  | 4, _ => exact h4
  | 5, _ => exact h5
  | 6, _ => exact h6
  | 7, _ => exact h7
  | 8, _ => exact h8
section
variable {w w' a : World} {b b' : Nat} {x x' : Hd} {u v u' v' : Value}
theorem Bx.new (w : World) (x : Hd) (u v : Value) : Bx (w.alloc (.cells #[.int .i64 x.i, .int .i64 x.s, .int .i64 x.t, .int .i64 x.b, .int .i64 x.l, .int .i64 x.h, .int .i64 x.c, u, v] 55)) w.heap.size x u v := World.rowIs_alloc w #[.int .i64 x.i, .int .i64 x.s, .int .i64 x.t, .int .i64 x.b, .int .i64 x.l, .int .i64 x.h, .int .i64 x.c, u, v] 55 (xf x u v) (nine_x x u v)
theorem Bx.zero (w : World) : Bx (w.alloc (.cells #[.int .i64 0, .int .i64 0, .int .i64 0, .int .i64 0, .int .i64 0, .int .i64 0, .int .i64 0, .slice none 0 0, .slice none 0 0] 55)) w.heap.size ⟨0, 0, 0, 0, 0, 0, 0⟩ (.slice none 0 0) (.slice none 0 0) := Bx.new w ⟨0, 0, 0, 0, 0, 0, 0⟩ (.slice none 0 0) (.slice none 0 0)
theorem Bx.tb (h : Bx w b x u v) : TB w b x u v := ⟨World.rowIs.cell h (show 0 < 9 by decide), World.rowIs.cell h (show 1 < 9 by decide), World.rowIs.cell h (show 2 < 9 by decide), World.rowIs.cell h (show 3 < 9 by decide), World.rowIs.cell h (show 4 < 9 by decide), World.rowIs.cell h (show 5 < 9 by decide), World.rowIs.cell h (show 6 < 9 by decide), World.rowIs.cell h (show 7 < 9 by decide), World.rowIs.cell h (show 8 < 9 by decide)⟩
theorem Bx.fz (h : Bx w b x u v) (i : Nat) : w.frozen? ⟨b, i, none⟩ = false := World.rowIs.frozen h i
theorem Bx.lt (h : Bx w b x u v) : b < w.heap.size := World.rowIs.lt h
theorem Bx.of_block (h : Bx w b x u v) (hk : w'.heap[b]? = w.heap[b]?) : Bx w' b x u v := World.rowIs.of_block h hk
theorem Bx.keep {B : Nat} (h : Bx w b x u v) (hk : Below B w w') (hb : b < B) : Bx w' b x u v := h.of_block (hk.block b hb)
theorem Bx.other (h : Bx w b x u v) (hk : Off b' w w') (hb : b ≠ b') : Bx w' b x u v := h.of_block (hk.block b hb)
theorem Bx.alloc (h : Bx w b x u v) (o : Obj) : Bx (w.alloc o) b x u v := World.rowIs.alloc h o
theorem Bx.drewN (h : Bx w b x u v) (n : Nat) : Bx (w.drewN n) b x u v := h
theorem Bx.set4 (h : Bx w b x u v) (z : Int) : Bx (w.setCell ⟨b, 4, none⟩ (.int .i64 z)) b { x with l := z } u v := (World.rowIs.set h 4 (.int .i64 z)).congr (nine_ext rfl rfl rfl rfl rfl rfl rfl rfl rfl)
theorem Bx.set5 (h : Bx w b x u v) (z : Int) : Bx (w.setCell ⟨b, 5, none⟩ (.int .i64 z)) b { x with h := z } u v := (World.rowIs.set h 5 (.int .i64 z)).congr (nine_ext rfl rfl rfl rfl rfl rfl rfl rfl rfl)
theorem Bx.set7 (h : Bx w b x u v) (z : Value) : Bx (w.setCell ⟨b, 7, none⟩ z) b x z v := (World.rowIs.set h 7 z).congr (nine_ext rfl rfl rfl rfl rfl rfl rfl rfl rfl)
theorem Bx.set8 (h : Bx w b x u v) (z : Value) : Bx (w.setCell ⟨b, 8, none⟩ z) b x u z := (World.rowIs.set h 8 z).congr (nine_ext rfl rfl rfl rfl rfl rfl rfl rfl rfl)
theorem Bx.put (h : Bx w b x' u' v') (x : Hd) (u v : Value) : Bx (World.setCell (World.setCell (World.setCell (World.setCell (World.setCell (World.setCell (World.setCell (World.setCell (World.setCell w ⟨b, 0, none⟩ (.int .i64 x.i)) ⟨b, 1, none⟩ (.int .i64 x.s)) ⟨b, 2, none⟩ (.int .i64 x.t)) ⟨b, 3, none⟩ (.int .i64 x.b)) ⟨b, 4, none⟩ (.int .i64 x.l)) ⟨b, 5, none⟩ (.int .i64 x.h)) ⟨b, 6, none⟩ (.int .i64 x.c)) ⟨b, 7, none⟩ (u)) ⟨b, 8, none⟩ (v)) b x u v :=
  World.rowIs.congr (((((((((World.rowIs.set h 0 (.int .i64 x.i)).set 1 (.int .i64 x.s)).set 2 (.int .i64 x.t)).set 3 (.int .i64 x.b)).set 4 (.int .i64 x.l)).set 5 (.int .i64 x.h)).set 6 (.int .i64 x.c)).set 7 u).set 8 v) (nine_ext rfl rfl rfl rfl rfl rfl rfl rfl rfl)
theorem off_put (w : World) (b : Nat) (x : Hd) (u v : Value) : Off b w (World.setCell (World.setCell (World.setCell (World.setCell (World.setCell (World.setCell (World.setCell (World.setCell (World.setCell w ⟨b, 0, none⟩ (.int .i64 x.i)) ⟨b, 1, none⟩ (.int .i64 x.s)) ⟨b, 2, none⟩ (.int .i64 x.t)) ⟨b, 3, none⟩ (.int .i64 x.b)) ⟨b, 4, none⟩ (.int .i64 x.l)) ⟨b, 5, none⟩ (.int .i64 x.h)) ⟨b, 6, none⟩ (.int .i64 x.c)) ⟨b, 7, none⟩ (u)) ⟨b, 8, none⟩ (v)) :=
  (((((((((Off.refl b w).setCell rfl _).setCell rfl _).setCell rfl _).setCell rfl _).setCell rfl _).setCell rfl _).setCell rfl _).setCell rfl _).setCell rfl _
theorem Off.trans (h : Off b a w) (h2 : Off b w w') : Off b a w' := ⟨h2.os.trans h.os, h2.tape.trans h.tape, h2.output.trans h.output, h2.size.trans h.size, fun k hk => (h2.block k hk).trans (h.block k hk)⟩
end
/-- a transaction with lists of its own, above base -/
def OwnT (w : World) (base : Nat) (u : Value) (n : Nat) (R : List E2) (v : Value) (n2 : Nat) (S : List E2) : Prop := w.ownsRow base 83 2 u n (flat R) ∧ w.ownsRow base 86 2 v n2 (flat S)
def CopO (x : Hd) (n : Nat) (R : List E2) (n2 : Nat) (S : List E2) (w : World) (e : Ending) (w' : World) : Prop :=
  ∃ u v, e = .returned (txv x u v) ∧ OwnT w' w.heap.size u n R v n2 S ∧ Below w.heap.size w w'
theorem own_more {w : World} {base b0 n size : Nat} {e : TypeId} {v : Value} {xs : List Value} (h : w.ownsRow base e size v n xs) (hb : b0 ≤ base) : w.ownsRow b0 e size v n xs :=
  ⟨h.1, by
    rcases h.2 with h0 | ⟨g, cap, cur, e1, h1, h2⟩
    · exact .inl h0
    · exact .inr ⟨g, cap, cur, e1, by omega, h2⟩⟩
theorem own_off {w w' : World} {base b n size : Nat} {e : TypeId} {v : Value} {xs : List Value} (h : w.ownsRow base e size v n xs) (ho : Off b w w') (hb : b < base) : w'.ownsRow base e size v n xs :=
  ⟨h.1, by
    rcases h.2 with h0 | ⟨g, cap, cur, e1, h1, h2, h3⟩
    · exact .inl h0
    · exact .inr ⟨g, cap, cur, e1, h1, (ho.block g (by omega)).trans h2, h3⟩⟩
theorem OwnT.more {w : World} {base b0 n n2 : Nat} {u v : Value} {R S : List E2} (h : OwnT w base u n R v n2 S) (hb : b0 ≤ base) : OwnT w b0 u n R v n2 S := ⟨own_more h.1 hb, own_more h.2 hb⟩
theorem OwnT.off {w w' : World} {base b n n2 : Nat} {u v : Value} {R S : List E2} (h : OwnT w base u n R v n2 S) (ho : Off b w w') (hb : b < base) : OwnT w' base u n R v n2 S := ⟨own_off h.1 ho hb, own_off h.2 ho hb⟩
theorem OwnT.keep {w w' : World} {base n n2 : Nat} {u v : Value} {R S : List E2} (h : OwnT w base u n R v n2 S) (hb : Below w.heap.size w w') : OwnT w' base u n R v n2 S := ⟨own_keep h.1 hb, own_keep h.2 hb⟩
/-- from the last world but one to the end: the value of box bx goes into the zero box br, which the call hands back -/
theorem give_back {w W : World} {x x0 : Hd} {u v u0 v0 : Value} {br base n n2 : Nat} {R S : List E2} (hr : Bx W br x0 u0 v0) (ho : OwnT W base u n R v n2 S) (h1 : br < base) (h2 : w.heap.size ≤ br) (hb : Below w.heap.size w W) (hw : w.heap.size ≤ base) :
    TB (World.setCell (World.setCell (World.setCell (World.setCell (World.setCell (World.setCell (World.setCell (World.setCell (World.setCell W ⟨br, 0, none⟩ (.int .i64 x.i)) ⟨br, 1, none⟩ (.int .i64 x.s)) ⟨br, 2, none⟩ (.int .i64 x.t)) ⟨br, 3, none⟩ (.int .i64 x.b)) ⟨br, 4, none⟩ (.int .i64 x.l)) ⟨br, 5, none⟩ (.int .i64 x.h)) ⟨br, 6, none⟩ (.int .i64 x.c)) ⟨br, 7, none⟩ (u)) ⟨br, 8, none⟩ (v)) br x u v ∧ OwnT (World.setCell (World.setCell (World.setCell (World.setCell (World.setCell (World.setCell (World.setCell (World.setCell (World.setCell W ⟨br, 0, none⟩ (.int .i64 x.i)) ⟨br, 1, none⟩ (.int .i64 x.s)) ⟨br, 2, none⟩ (.int .i64 x.t)) ⟨br, 3, none⟩ (.int .i64 x.b)) ⟨br, 4, none⟩ (.int .i64 x.l)) ⟨br, 5, none⟩ (.int .i64 x.h)) ⟨br, 6, none⟩ (.int .i64 x.c)) ⟨br, 7, none⟩ (u)) ⟨br, 8, none⟩ (v)) w.heap.size u n R v n2 S ∧ Below w.heap.size w (World.setCell (World.setCell (World.setCell (World.setCell (World.setCell (World.setCell (World.setCell (World.setCell (World.setCell W ⟨br, 0, none⟩ (.int .i64 x.i)) ⟨br, 1, none⟩ (.int .i64 x.s)) ⟨br, 2, none⟩ (.int .i64 x.t)) ⟨br, 3, none⟩ (.int .i64 x.b)) ⟨br, 4, none⟩ (.int .i64 x.l)) ⟨br, 5, none⟩ (.int .i64 x.h)) ⟨br, 6, none⟩ (.int .i64 x.c)) ⟨br, 7, none⟩ (u)) ⟨br, 8, none⟩ (v)) :=
  ⟨(hr.put x u v).tb, (ho.off (off_put W br x u v) h1).more hw, hb.trans ((off_put W br x u v).below h2)⟩
end Go.Proofs.YtjnlbhmddhpmaaaGreat.bx
