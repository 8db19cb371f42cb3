/- A transaction: the law's own helpers over it: how much it counts, the copy, the comparison; opening a law's argument. Nothing that was there is written. -/
import Derived.Test.YtjnlbhmddhpmaabDoorRReadMark
import Derived.Test.YtjnlbhmddhpmaabDoorRWrite
import Derived.Test.YtjnlbhmddhpmaabDoorVers
import Derived.WalkKit
import Derived.ProofKit
import Derived.OpenShut
import Derived.ChangeOld
import Derived.Below
import Derived.Carry
import Derived.Lib.Hide
import Derived.LoopTactic
import Derived.Deep.QuietTactic
import Derived.BigQuiet
import Derived.StillTailTactics
import Derived.Outline
import Derived.IntWalk
import Derived.Deep.OwnRows
import Derived.Deep.Slices
import Derived.Deep.DeepHandedRow
import Derived.Laws.MakeOwn
import Derived.Laws.Entries
namespace Go.Proofs.YtjnlbhmddhpmaabDoor.tx
open Go.ChangeShapes Go.WideShapes Go.ChangeAt Go.RowKit
open Go.Deep (open_slice add_add)
open Go.Proofs.YtjnlbhmddhpmaabDoor.el2
open Go.Proofs.YtjnlbhmddhpmaabDoor.vers (new2 new3)
set_option linter.unusedVariables false
set_option linter.unusedSimpArgs false
set_option linter.constructorNameAsVariable false
/-- the seven numbers of a transaction -/
@[ext] structure Hd where
  i : Int
  s : Int
  t : Int
  b : Int
  l : Int
  h : Int
  c : Int
/-- the cells of block b -/
def TB (w : World) (b : Nat) (x : Hd) (u v : Value) : Prop := w.cell? ⟨b, 0, none⟩ = some (.int .i64 x.i) ∧ w.cell? ⟨b, 1, none⟩ = some (.int .i64 x.s) ∧ w.cell? ⟨b, 2, none⟩ = some (.int .i64 x.t) ∧ w.cell? ⟨b, 3, none⟩ = some (.int .i64 x.b) ∧ w.cell? ⟨b, 4, none⟩ = some (.int .i64 x.l) ∧ w.cell? ⟨b, 5, none⟩ = some (.int .i64 x.h) ∧ w.cell? ⟨b, 6, none⟩ = some (.int .i64 x.c) ∧ w.cell? ⟨b, 7, none⟩ = some u ∧ w.cell? ⟨b, 8, none⟩ = some v
section
variable {w w' : World} {B b : Nat} {x : Hd} {u v : Value}
theorem TB.of_block (h : TB w b x u v) (hk : w'.heap[b]? = w.heap[b]?) : TB w' b x u v := by
  obtain ⟨h0, h1, h2, h3, h4, h5, h6, h7, h8⟩ := h
  exact ⟨(World.cell?_of_block (w := w) (a := ⟨b, 0, none⟩) hk).trans h0, (World.cell?_of_block (w := w) (a := ⟨b, 1, none⟩) hk).trans h1, (World.cell?_of_block (w := w) (a := ⟨b, 2, none⟩) hk).trans h2, (World.cell?_of_block (w := w) (a := ⟨b, 3, none⟩) hk).trans h3, (World.cell?_of_block (w := w) (a := ⟨b, 4, none⟩) hk).trans h4, (World.cell?_of_block (w := w) (a := ⟨b, 5, none⟩) hk).trans h5, (World.cell?_of_block (w := w) (a := ⟨b, 6, none⟩) hk).trans h6, (World.cell?_of_block (w := w) (a := ⟨b, 7, none⟩) hk).trans h7, (World.cell?_of_block (w := w) (a := ⟨b, 8, none⟩) hk).trans h8⟩
theorem TB.keep (h : TB w b x u v) (hb : b < B) (hk : Below B w w') : TB w' b x u v := h.of_block (hk.block b hb)
theorem TB.new (w : World) (x : Hd) (A : Option Addr) (n c : Nat) (A2 : Option Addr) (n2 c2 : Nat) (t : TypeId) : TB (w.alloc (.cells #[.int .i64 x.i, .int .i64 x.s, .int .i64 x.t, .int .i64 x.b, .int .i64 x.l, .int .i64 x.h, .int .i64 x.c, .slice A n c, .slice A2 n2 c2] t)) w.heap.size x (.slice A n c) (.slice A2 n2 c2) :=
  ⟨World.cell?_alloc_mark w _ t _ 0, World.cell?_alloc_mark w _ t _ 1, World.cell?_alloc_mark w _ t _ 2, World.cell?_alloc_mark w _ t _ 3, World.cell?_alloc_mark w _ t _ 4, World.cell?_alloc_mark w _ t _ 5, World.cell?_alloc_mark w _ t _ 6, World.cell?_alloc_mark w _ t _ 7, World.cell?_alloc_mark w _ t _ 8⟩
end
theorem ret_i {a b : Int} (h : a = b) : Ending.returned (.int .i64 a) = .returned (.int .i64 b) := by rw [h]
/-! how much it counts -/
def szT (left : Int) (n n2 : Nat) : Int := if left < n + n2 then -1 else left - n - n2
theorem szT_no {left : Int} {n n2 : Nat} (h : left < n + n2) : szT left n n2 = -1 := if_pos h
theorem szT_yes {left : Int} {n n2 : Nat} (h : (n : Int) + n2 ≤ left) : szT left n n2 = left - n - n2 := if_neg (by omega)
/-! the copy -/
def xf (x : Hd) (u v : Value) : Nat → Value
  | 0 => .int .i64 x.i
  | 1 => .int .i64 x.s
  | 2 => .int .i64 x.t
  | 3 => .int .i64 x.b
  | 4 => .int .i64 x.l
  | 5 => .int .i64 x.h
  | 6 => .int .i64 x.c
  | 7 => u
  | _ => v
theorem nine_x (x : Hd) (u v : Value) : ∀ i, i < 9 → (#[.int .i64 x.i, .int .i64 x.s, .int .i64 x.t, .int .i64 x.b, .int .i64 x.l, .int .i64 x.h, .int .i64 x.c, u, v] : Array Value)[i]? = some (xf x u v i) := by
  intro i hi
  match i, hi with
  | 0, _ => rfl
  | 1, _ => rfl
  | 2, _ => rfl
  | 3, _ => rfl
  | 4, _ => rfl
  | 5, _ => rfl
  | 6, _ => rfl
  | 7, _ => rfl
  | 8, _ => rfl
def zf (i : Nat) : Value := if i < 7 then .int .i64 0 else .slice none 0 0
theorem nine : ∀ i, i < 9 → (#[.int .i64 0, .int .i64 0, .int .i64 0, .int .i64 0, .int .i64 0, .int .i64 0, .int .i64 0, .slice none 0 0, .slice none 0 0] : Array Value)[i]? = some (zf i) := by
  intro i hi
  match i, hi with
  | 0, _ => rfl
  | 1, _ => rfl
  | 2, _ => rfl
  | 3, _ => rfl
  | 4, _ => rfl
  | 5, _ => rfl
  | 6, _ => rfl
  | 7, _ => rfl
  | 8, _ => rfl
/-! the comparison -/
/-! a law's argument -/
section
variable {H : Type} {enc : TypeId × Value → H} {w : World} {base : Nat} {spare : Nat → Bool} {held : Bool}
end
end Go.Proofs.YtjnlbhmddhpmaabDoor.tx
