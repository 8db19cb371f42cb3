/- A law's argument that is a slice of integers: what it holds. -/
import Derived.Test.YtjnlbhmddhpmaaaDoorInts
import Derived.WalkKit
import Derived.ProofKit
import Derived.OpenShut
import Derived.ShutString
import Derived.ChangeOld
import Derived.Below
import Derived.Carry
import Derived.Lib.Hide
import Derived.Deep.Slices
import Derived.Deep.DeepHandedRow
namespace Go.Proofs.YtjnlbhmddhpmaaaDoor.opni
open Go.ChangeShapes Go.WideShapes Go.ChangeAt Go.RowKit
open Go.Deep (open_slice add_add)
open Go.Proofs.YtjnlbhmddhpmaaaDoor.vers Go.Proofs.YtjnlbhmddhpmaaaDoor.sl Go.Proofs.YtjnlbhmddhpmaaaDoor.ints
set_option linter.unusedVariables false
set_option linter.constructorNameAsVariable false
theorem laidOut : laidOutB Tryd.prog = true := by kernel_rfl
section
variable {H : Type} {enc : TypeId × Value → H} {w : World} {base : Nat} {spare : Nat → Bool} {held : Bool}
theorem cell_lt {a : Addr} {v : Value} (h : w.cell? a = some v) : a.block < w.heap.size := by
  rcases Nat.lt_or_ge a.block w.heap.size with h' | h'
  · exact h'
  · simp [World.cell?, Array.getElem?_eq_none h'] at h
set_option maxRecDepth 100000 in
theorem one {fuel : Nat} {cs : List Value} {x : DataW H × List MemPlace} (h : DataW.trod enc Tryd.prog w base spare held fuel 3 cs = some x) (hl : cs.length = 1) : ∃ v : Int, cs = [.int .i64 v] := by
  match cs, hl with
  | [c0], _ =>
    obtain ⟨a, ha, _, _⟩ := DataW.trod_int (cs := [c0]) Tryd.underlying3 h
    simp only [List.cons.injEq, and_true] at ha
    exact ⟨a, by rw [ha]⟩
set_option maxRecDepth 100000 in
theorem open_intS {A : Option Addr} {len cap : Nat} {d : DataW H} {p : List MemPlace} (h : DataW.Trod enc Tryd.prog w base spare held 22 (.slice A len cap) d p) :
    ∃ l : List Int, Is w w.heap.size A len l ∧ len ≤ maxLen := by
  obtain ⟨fuel, hf⟩ := h
  rcases open_slice Tryd.underlying22 hf with ⟨hcs, _⟩ | ⟨a, len', cap', m, n, D, Pl, hcs, _, hl, hm, hmm, _, hi⟩
  · simp [Value.cells] at hcs
    obtain ⟨rfl, rfl, rfl⟩ := hcs
    exact ⟨[], Is.nil_ _ _ _, by unfold maxLen; omega⟩
  · simp [Value.cells] at hcs
    obtain ⟨rfl, rfl, rfl⟩ := hcs
    have hC : Tryd.prog.cellsOf 3 = 1 := by kernel_rfl
    rw [hC] at hi
    have hle : len ≤ m := by rw [hmm]; split <;> omega
    obtain ⟨b, o, sp⟩ := a
    have hsp0 : 0 < len → sp = none := fun h0 => by
      obtain ⟨cs', hc, ht⟩ := hi 0 (by omega)
      obtain ⟨_, hlen, hat⟩ := World.cells?_some hc
      obtain ⟨x, rfl⟩ := one ht hlen
      exact World.cell?_spot (hat 0 (by omega))
    have hone : ∀ i, i < len → ∃ x : Int, sp = none ∧ b < w.heap.size ∧ w.cell? ⟨b, o + i, none⟩ = some (.int .i64 x) := by
      intro i hil
      obtain ⟨cs', hc, ht⟩ := hi i (by omega)
      obtain ⟨_, hlen, hat⟩ := World.cells?_some hc
      obtain ⟨x, rfl⟩ := one ht hlen
      have k0 := hat 0 (by omega)
      rw [add_add] at k0
      have hsp : sp = none := hsp0 (by omega)
      subst hsp
      have e : ∀ j, (⟨b, o, none⟩ : Addr).add j = ⟨b, o + j, none⟩ := fun j => by unfold Addr.add; split <;> simp_all
      rw [e] at k0
      have k1 : w.cell? ⟨b, o + i, none⟩ = some (.int .i64 x) := by simpa using k0
      exact ⟨x, rfl, cell_lt k1, k1⟩
    rcases Nat.eq_zero_or_pos len with h0 | h0
    · subst h0
      exact ⟨[], Is.nil_ _ _ _, by omega⟩
    · obtain ⟨_, hsp, hbl, _⟩ := hone 0 h0
      subst hsp
      have hone' : ∀ i : Fin len, ∃ x : Int, w.cell? ⟨b, o + i.val, none⟩ = some (.int .i64 x) := fun i => by
        obtain ⟨x, _, _, h1⟩ := hone i.val i.isLt
        exact ⟨x, h1⟩
      refine ⟨List.ofFn fun i => (hone' i).choose, ⟨by simp, fun _ => ⟨b, o, rfl, hbl, fun k x hx => ?_⟩⟩, by omega⟩
      have hk : k < len := by
        rcases Nat.lt_or_ge k len with h' | h'
        · exact h'
        · rw [List.getElem?_eq_none (by simpa using h')] at hx; cases hx
      rw [List.getElem?_eq_getElem (by simpa using hk)] at hx
      simp only [List.getElem_ofFn, Option.some.injEq] at hx
      rw [← hx]
      exact (hone' ⟨k, hk⟩).choose_spec
end
end Go.Proofs.YtjnlbhmddhpmaaaDoor.opni
