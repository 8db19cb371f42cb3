/- A slice of integers read as a list; the law's comparison and marks of such slices; what may change: blocks of a given set. -/
import Derived.Test.YtjnlbhmddhpmaaaGreatSt
import Derived.WalkKit
import Derived.ProofKit
import Derived.Below
import Derived.Lib.Hide
import Derived.LoopTactic
import Derived.Deep.QuietTactic
import Derived.BigQuiet
import Derived.Outline
import Derived.IntWalk
import Derived.Deep.OwnRows
namespace Go.Proofs.YtjnlbhmddhpmaaaGreat.ints
open Go.ChangeShapes Go.WideShapes Go.ChangeAt Go.RowKit
open Go.Proofs.YtjnlbhmddhpmaaaGreat.vers Go.Proofs.YtjnlbhmddhpmaaaGreat.sl Go.Proofs.YtjnlbhmddhpmaaaGreat.ch Go.Proofs.YtjnlbhmddhpmaaaGreat.st
set_option linter.unusedVariables false
set_option linter.unusedSimpArgs false
/-- the slice value '.slice A n c' reads as the list of integers xs, in memory below B -/
def Is (w : World) (B : Nat) (A : Option Addr) (n : Nat) (xs : List Int) : Prop :=
  xs.length = n ∧ (0 < n → ∃ b o, A = some ⟨b, o, none⟩ ∧ b < B ∧ ∀ k x, xs[k]? = some x → w.cell? ⟨b, o + k, none⟩ = some (.int .i64 x))
section
variable {w w' : World} {B B' n : Nat} {A : Option Addr} {xs : List Int}
theorem Is.nil_ (w : World) (B : Nat) (A : Option Addr) : Is w B A 0 [] := ⟨rfl, fun h => absurd h (by omega)⟩
theorem Is.below (h : Is w B A n xs) (hk : Below B w w') : Is w' B A n xs := ⟨h.1, fun hn => by
  obtain ⟨b, o, e, hb, hc⟩ := h.2 hn
  exact ⟨b, o, e, hb, fun k x hx => (hk.cell hb).trans (hc k x hx)⟩⟩
theorem Is.more (h : Is w B A n xs) (hB : B ≤ B') : Is w B' A n xs := ⟨h.1, fun hn => by
  obtain ⟨b, o, e, hb, hc⟩ := h.2 hn
  exact ⟨b, o, e, by omega, hc⟩⟩
theorem Is.at_ (h : Is w B A n xs) {k : Nat} (hk : k < n) : ∃ b o x, A = some ⟨b, o, none⟩ ∧ b < B ∧ xs[k]? = some x ∧ w.cell? ⟨b, o + k, none⟩ = some (.int .i64 x) := by
  obtain ⟨b, o, e, hb, hc⟩ := h.2 (by omega)
  have hl : k < xs.length := by have := h.1; omega
  exact ⟨b, o, xs[k], e, hb, List.getElem?_eq_getElem hl, hc k _ (List.getElem?_eq_getElem hl)⟩
end
/-! what may change -/
/-- the blocks outside S are as they were -/
structure Off (S : Nat → Prop) (w w' : World) : Prop where
  os : w'.os = w.os
  tape : w'.tape = w.tape
  output : w'.output = w.output
  size : w'.heap.size = w.heap.size
  block : ∀ k, ¬ S k → w'.heap[k]? = w.heap[k]?
section
variable {S T : Nat → Prop} {a w w' : World}
theorem Off.refl (S : Nat → Prop) (w : World) : Off S w w := ⟨rfl, rfl, rfl, rfl, fun _ _ => rfl⟩
theorem Off.trans (h : Off S a w) (k : Off S w w') : Off S a w' := ⟨k.os.trans h.os, k.tape.trans h.tape, k.output.trans h.output, k.size.trans h.size, fun i hi => (k.block i hi).trans (h.block i hi)⟩
theorem Off.wide (h : Off S w w') (hs : ∀ k, S k → T k) : Off T w w' := ⟨h.os, h.tape, h.output, h.size, fun i hi => h.block i fun hs' => hi (hs i hs')⟩
theorem Off.setCell (h : Off S a w) {p : Addr} (hp : S p.block) (u : Value) : Off S a (w.setCell p u) :=
  ⟨h.os, h.tape, h.output, by simpa [World.setCell] using h.size, fun k hk => (Below.heap_setCell w p u k (fun e => hk (by rw [e]; exact hp))).trans (h.block k hk)⟩
theorem Off.below {B : Nat} (h : Off S w w') (hB : ∀ k, S k → B ≤ k) : Below B w w' := ⟨h.os, h.tape, h.output, by rw [h.size]; exact Nat.le_refl _, fun k hk => h.block k fun hs => by have := hB k hs; omega⟩
theorem Off.cell (h : Off S w w') {p : Addr} (hp : ¬ S p.block) : w'.cell? p = w.cell? p := World.cell?_of_block (w := w) (h.block p.block hp)
theorem Off.frozen (h : Off S w w') {p : Addr} (hp : ¬ S p.block) : w'.frozen? p = w.frozen? p := World.frozen?_of_block (w := w) (h.block p.block hp)
end
/-! marks -/
theorem ival {a b : Int} (h : a = b) : Value.int .i64 a = .int .i64 b := by rw [h]
/-- block g, a row of M integers of the call's own, bears the marks k0, k0 + 1, .. in its first j cells -/
def IR (w : World) (g M : Nat) (k0 : Int) (j : Nat) : Prop := ∃ f, w.rowIs g 3 M f ∧ ∀ i, i < j → f i = .int .i64 (k0 + i)
section
variable {w w' : World} {g M j : Nat} {k0 : Int}
theorem IR.lt (h : IR w g M k0 j) : g < w.heap.size := by obtain ⟨f, hf, _⟩ := h; exact hf.lt
theorem IR.zero (h : IR w g M k0 j) (k1 : Int) : IR w g M k1 0 := by obtain ⟨f, hf, _⟩ := h; exact ⟨f, hf, fun i hi => absurd hi (by omega)⟩
theorem IR.of_block (h : IR w g M k0 j) (hb : w'.heap[g]? = w.heap[g]?) : IR w' g M k0 j := by
  obtain ⟨f, hf, hm⟩ := h
  exact ⟨f, hf.of_block hb, hm⟩
theorem IR.below {B : Nat} (h : IR w g M k0 j) (hb : Below B w w') (hg : g < B) : IR w' g M k0 j := h.of_block (hb.block g hg)
theorem IR.cell (h : IR w g M k0 j) {i : Nat} (hi : i < j) (hM : j ≤ M) : w.cell? ⟨g, i, none⟩ = some (.int .i64 (k0 + i)) := by
  obtain ⟨f, hf, hm⟩ := h
  rw [hf.cell (by omega), hm i hi]
theorem IR.any (h : IR w g M k0 j) {i : Nat} (hi : i < M) : ∃ u, w.cell? ⟨g, i, none⟩ = some u := by
  obtain ⟨f, hf, hm⟩ := h
  exact ⟨_, hf.cell hi⟩
theorem IR.frozen (h : IR w g M k0 j) (i : Nat) : w.frozen? ⟨g, i, none⟩ = false := by
  obtain ⟨f, hf, hm⟩ := h
  exact hf.frozen i
theorem IR.step (h : IR w g M k0 j) {x : Int} (hx : x = k0 + j) : IR (w.setCell ⟨g, j, none⟩ (.int .i64 x)) g M k0 (j + 1) := by
  obtain ⟨f, hf, hm⟩ := h
  refine ⟨_, hf.set j _, fun i hi => ?_⟩
  by_cases e : i = j
  · rw [if_pos e]; exact ival (by omega)
  · rw [if_neg e]; exact hm i (by omega)
end
end Go.Proofs.YtjnlbhmddhpmaaaGreat.ints
