/- A box of a transaction in the heap: set, kept, copied. -/
import Derived.Test.YtjnlbhmddhpmaabDoorAp
import Derived.Test.YtjnlbhmddhpmaabDoorTm
namespace Go.Proofs.YtjnlbhmddhpmaabDoor.bx
open Go.ChangeShapes Go.WideShapes Go.ChangeAt Go.RowKit
open Go.Proofs.YtjnlbhmddhpmaabDoor.el2 Go.Proofs.YtjnlbhmddhpmaabDoor.tx Go.Proofs.YtjnlbhmddhpmaabDoor.fr Go.Proofs.YtjnlbhmddhpmaabDoor.ow2 Go.Proofs.YtjnlbhmddhpmaabDoor.ap
set_option linter.unusedVariables false
set_option linter.unusedSimpArgs false
set_option linter.constructorNameAsVariable false
abbrev txv (x : Hd) (u v : Value) : Value := .agg #[.int .i64 x.i, .int .i64 x.s, .int .i64 x.t, .int .i64 x.b, .int .i64 x.l, .int .i64 x.h, .int .i64 x.c, u, v]
theorem nine_ext {f g : Nat → Value} (h0 : f 0 = g 0) (h1 : f 1 = g 1) (h2 : f 2 = g 2) (h3 : f 3 = g 3) (h4 : f 4 = g 4) (h5 : f 5 = g 5) (h6 : f 6 = g 6) (h7 : f 7 = g 7) (h8 : f 8 = g 8) : ∀ i, i < 9 → f i = g i := by
  intro i hi
  match i, hi with
  | 0, _ => exact h0
  | 1, _ => exact h1
  | 2, _ => exact h2
  | 3, _ => exact h3
  | 4, _ => exact h4
  | 5, _ => exact h5
  | 6, _ => exact h6
  | 7, _ => exact h7
  | 8, _ => exact h8
section
variable {w w' a : World} {b b' : Nat} {x x' : Hd} {u v u' v' : Value}
theorem off_put (w : World) (b : Nat) (x : Hd) (u v : Value) : Off b w (World.setCell (World.setCell (World.setCell (World.setCell (World.setCell (World.setCell (World.setCell (World.setCell (World.setCell w ⟨b, 0, none⟩ (.int .i64 x.i)) ⟨b, 1, none⟩ (.int .i64 x.s)) ⟨b, 2, none⟩ (.int .i64 x.t)) ⟨b, 3, none⟩ (.int .i64 x.b)) ⟨b, 4, none⟩ (.int .i64 x.l)) ⟨b, 5, none⟩ (.int .i64 x.h)) ⟨b, 6, none⟩ (.int .i64 x.c)) ⟨b, 7, none⟩ (u)) ⟨b, 8, none⟩ (v)) :=
  (((((((((Off.refl b w).setCell rfl _).setCell rfl _).setCell rfl _).setCell rfl _).setCell rfl _).setCell rfl _).setCell rfl _).setCell rfl _).setCell rfl _
theorem Off.trans (h : Off b a w) (h2 : Off b w w') : Off b a w' := ⟨h2.os.trans h.os, h2.tape.trans h.tape, h2.output.trans h.output, h2.size.trans h.size, fun k hk => (h2.block k hk).trans (h.block k hk)⟩
end
theorem own_more {w : World} {base b0 n size : Nat} {e : TypeId} {v : Value} {xs : List Value} (h : w.ownsRow base e size v n xs) (hb : b0 ≤ base) : w.ownsRow b0 e size v n xs :=
  ⟨h.1, by
    rcases h.2 with h0 | ⟨g, cap, cur, e1, h1, h2⟩
    · exact .inl h0
    · exact .inr ⟨g, cap, cur, e1, by omega, h2⟩⟩
theorem own_off {w w' : World} {base b n size : Nat} {e : TypeId} {v : Value} {xs : List Value} (h : w.ownsRow base e size v n xs) (ho : Off b w w') (hb : b < base) : w'.ownsRow base e size v n xs :=
  ⟨h.1, by
    rcases h.2 with h0 | ⟨g, cap, cur, e1, h1, h2, h3⟩
    · exact .inl h0
    · exact .inr ⟨g, cap, cur, e1, h1, (ho.block g (by omega)).trans h2, h3⟩⟩
end Go.Proofs.YtjnlbhmddhpmaabDoor.bx
