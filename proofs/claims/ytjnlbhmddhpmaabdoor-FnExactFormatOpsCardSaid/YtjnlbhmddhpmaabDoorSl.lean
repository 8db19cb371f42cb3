/- A slice of versions read as a list; the law's own helpers over such slices: how much they count, the copy, the comparison. Nothing that was there is written. -/
import Derived.Test.YtjnlbhmddhpmaabDoorVers
import Derived.WalkKit
import Derived.ProofKit
import Derived.Below
import Derived.Lib.Hide
import Derived.LoopTactic
import Derived.Deep.QuietTactic
import Derived.BigQuiet
import Derived.StillTailTactics
import Derived.Outline
import Derived.Deep.OwnRows
import Derived.Laws.MakeOwn
import Derived.Laws.Entries
namespace Go.Proofs.YtjnlbhmddhpmaabDoor.sl
open Go.ChangeShapes Go.WideShapes Go.ChangeAt Go.RowKit
open Go.Proofs.YtjnlbhmddhpmaabDoor.vers
set_option linter.unusedVariables false
set_option linter.unusedSimpArgs false
structure Ver where
  a : Int
  b : Int
  c : Int
  d : Int
  e : Int
instance : DecidableEq Ver := fun x y => decidable_of_iff (x.a = y.a ∧ x.b = y.b ∧ x.c = y.c ∧ x.d = y.d ∧ x.e = y.e) (by cases x; cases y; simp)
instance : Inhabited Ver := ⟨⟨0, 0, 0, 0, 0⟩⟩
/-- the five cells of a version -/
def At (w : World) (b o : Nat) (x : Ver) : Prop := w.cell? ⟨b, o, none⟩ = some (.int .i64 x.a) ∧ w.cell? ⟨b, o + 1, none⟩ = some (.int .i64 x.b) ∧ w.cell? ⟨b, o + 2, none⟩ = some (.int .i64 x.c) ∧ w.cell? ⟨b, o + 3, none⟩ = some (.int .i64 x.d) ∧ w.cell? ⟨b, o + 4, none⟩ = some (.int .i64 x.e)
/-- the slice value '.slice A n c' reads as the list l, in memory below B -/
def Vs (w : World) (B : Nat) (A : Option Addr) (n : Nat) (l : List Ver) : Prop :=
  l.length = n ∧ (0 < n → ∃ b o, A = some ⟨b, o, none⟩ ∧ b < B ∧ ∀ k x, l[k]? = some x → At w b (o + k * 5) x)
section
variable {w w' : World} {B B' n : Nat} {A : Option Addr} {l : List Ver}
theorem Vs.nil_ (w : World) (B : Nat) (A : Option Addr) : Vs w B A 0 [] := ⟨rfl, fun h => absurd h (by omega)⟩
theorem At.keep {b o : Nat} {x : Ver} (h : At w b o x) (hb : b < B) (hk : Below B w w') : At w' b o x :=
  ⟨(hk.cell (p := ⟨b, o, none⟩) hb).trans h.1, (hk.cell (p := ⟨b, o + 1, none⟩) hb).trans h.2.1, (hk.cell (p := ⟨b, o + 2, none⟩) hb).trans h.2.2.1, (hk.cell (p := ⟨b, o + 3, none⟩) hb).trans h.2.2.2.1, (hk.cell (p := ⟨b, o + 4, none⟩) hb).trans h.2.2.2.2⟩
theorem Vs.below (h : Vs w B A n l) (hk : Below B w w') : Vs w' B A n l := ⟨h.1, fun hn => by
  obtain ⟨b, o, e, hb, hc⟩ := h.2 hn
  exact ⟨b, o, e, hb, fun k x hx => (hc k x hx).keep hb hk⟩⟩
theorem Vs.more (h : Vs w B A n l) (hB : B ≤ B') : Vs w B' A n l := ⟨h.1, fun hn => by
  obtain ⟨b, o, e, hb, hc⟩ := h.2 hn
  exact ⟨b, o, e, by omega, hc⟩⟩
theorem Vs.at_ (h : Vs w B A n l) {k : Nat} (hk : k < n) : ∃ b o x, A = some ⟨b, o, none⟩ ∧ b < B ∧ l[k]? = some x ∧ At w b (o + k * 5) x := by
  obtain ⟨b, o, e, hb, hc⟩ := h.2 (by omega)
  have hl : k < l.length := by have := h.1; omega
  exact ⟨b, o, l[k], e, hb, List.getElem?_eq_getElem hl, hc k _ (List.getElem?_eq_getElem hl)⟩
end
theorem below_le {B B' : Nat} {w w' : World} (h : Below B w w') (hb : B' ≤ B) : Below B' w w' := ⟨h.os, h.tape, h.output, h.size, fun k hk => h.block k (by omega)⟩

/-! the copy -/
def fld (x : Ver) : Nat → Value
  | 0 => .int .i64 x.a
  | 1 => .int .i64 x.b
  | 2 => .int .i64 x.c
  | 3 => .int .i64 x.d
  | _ => .int .i64 x.e
section
variable {w w' : World} {N n k : Nat} {l : List Ver}
end
theorem zero5 (t : TypeId) (n : Nat) (l : List Ver) (w : World) : ∀ i, i < n * 5 → (madeCells #[.int .i64 0, .int .i64 0, .int .i64 0, .int .i64 0, .int .i64 0] (n * 5))[i]? = some (.int .i64 0) := by
  intro i hi
  have h5 : i % 5 = 0 ∨ i % 5 = 1 ∨ i % 5 = 2 ∨ i % 5 = 3 ∨ i % 5 = 4 := by omega
  simp only [madeCells, Array.getElem?_map, Array.getElem?_range, hi, if_true, Option.map_some]
  rcases h5 with h | h | h | h | h <;> simp [h]
/-- the copy, as a law takes it: a slice of its own that reads as the same list -/
def Copied (n : Nat) (l : List Ver) (w : World) (e : Ending) (w' : World) : Prop := ∃ N, e = .returned (.slice (some ⟨N, 0, none⟩) n n) ∧ w.heap.size ≤ N ∧ Vs w' w'.heap.size (some ⟨N, 0, none⟩) n l ∧ Below w.heap.size w w'
end Go.Proofs.YtjnlbhmddhpmaabDoor.sl
