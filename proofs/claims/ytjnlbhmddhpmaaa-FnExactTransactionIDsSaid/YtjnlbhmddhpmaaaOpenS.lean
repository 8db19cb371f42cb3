/- A law's argument that is a store: what it holds. -/
import Derived.Test.YtjnlbhmddhpmaaaOpen
import Derived.Test.YtjnlbhmddhpmaaaSt
import Derived.WalkKit
import Derived.ProofKit
import Derived.OpenShut
import Derived.ShutString
import Derived.ChangeOld
import Derived.ChangeSame
import Derived.Below
import Derived.Carry
import Derived.Lib.Hide
import Derived.Deep.Slices
import Derived.Deep.DeepHandedRow
namespace Go.Proofs.Ytjnlbhmddhpmaaa.opns
open Go.ChangeShapes Go.WideShapes Go.ChangeAt Go.RowKit
open Go.Deep (open_slice add_add)
open Go.Proofs.Ytjnlbhmddhpmaaa.vers Go.Proofs.Ytjnlbhmddhpmaaa.sl Go.Proofs.Ytjnlbhmddhpmaaa.st Go.Proofs.Ytjnlbhmddhpmaaa.opn
set_option linter.unusedVariables false
set_option linter.constructorNameAsVariable false
section
variable {H : Type} {enc : TypeId × Value → H} {w : World} {base : Nat} {spare : Nat → Bool} {held : Bool}
set_option maxRecDepth 100000 in
theorem row_cell {fuel : Nat} {cs : List Value} {x : DataW H × List MemPlace} (h : DataW.trod enc Try.prog w base spare held fuel 135 cs = some x) :
    ∃ A n c, cs = [.slice A n c] := by
  rcases open_slice Try.underlying135 h with ⟨hcs, _⟩ | ⟨a, len', cap', m, n, D, Pl, hcs, _⟩
  · exact ⟨none, 0, 0, hcs⟩
  · exact ⟨some a, len', cap', hcs⟩
set_option maxRecDepth 100000 in
theorem open_rows {A : Option Addr} {len cap : Nat} {fuel : Nat} {x : DataW H × List MemPlace} (h : DataW.trod enc Try.prog w base spare held fuel 34 [.slice A len cap] = some x) :
    ∃ ll : List (List Ver), R0 w w.heap.size A len ll ∧ len ≤ maxLen := by
  rcases open_slice Try.underlying34 h with ⟨hcs, _⟩ | ⟨a, len', cap', m, n, D, Pl, hcs, _, hl, hm, hmm, _, hi⟩
  · simp at hcs
    obtain ⟨rfl, rfl, rfl⟩ := hcs
    exact ⟨[], ⟨rfl, fun h => absurd h (by omega)⟩, by unfold maxLen; omega⟩
  · simp at hcs
    obtain ⟨rfl, rfl, rfl⟩ := hcs
    have hC : Try.prog.cellsOf 135 = 1 := by kernel_rfl
    rw [hC] at hi
    have hle : len ≤ m := by rw [hmm]; split <;> omega
    obtain ⟨b, o, sp⟩ := a
    have hsp0 : 0 < len → sp = none := fun h0 => by
      obtain ⟨cs', hc, ht⟩ := hi 0 (by omega)
      obtain ⟨A1, n1, c1, rfl⟩ := row_cell ht
      obtain ⟨_, _, hat⟩ := World.cells?_some hc
      exact World.cell?_spot (hat 0 (by omega))
    have hone : ∀ i, i < len → ∃ (l : List Ver) (A' : Option Addr) (n' c' : Nat), sp = none ∧ b < w.heap.size ∧ w.cell? ⟨b, o + i, none⟩ = some (.slice A' n' c') ∧ n' ≤ maxLen ∧ Vs w w.heap.size A' n' l := by
      intro i hil
      obtain ⟨cs', hc, ht⟩ := hi i (by omega)
      obtain ⟨A1, n1, c1, rfl⟩ := row_cell ht
      obtain ⟨_, _, hat⟩ := World.cells?_some hc
      have k0 := hat 0 (by omega)
      rw [add_add] at k0
      have hsp : sp = none := hsp0 (by omega)
      subst hsp
      have e : ∀ j, (⟨b, o, none⟩ : Addr).add j = ⟨b, o + j, none⟩ := fun j => by unfold Addr.add; split <;> simp_all
      rw [e] at k0
      have k1 : w.cell? ⟨b, o + i, none⟩ = some (.slice A1 n1 c1) := by simpa using k0
      obtain ⟨l, hv, hm1⟩ := open_versions (A := A1) (len := n1) (cap := c1) ⟨n, ht⟩
      exact ⟨l, A1, n1, c1, rfl, cell_lt k1, k1, hm1, hv⟩
    rcases Nat.eq_zero_or_pos len with h0 | h0
    · subst h0
      exact ⟨[], ⟨rfl, fun h => absurd h (by omega)⟩, by omega⟩
    · obtain ⟨_, _, _, _, hsp, hbl, _⟩ := hone 0 h0
      subst hsp
      have hone' : ∀ i : Fin len, ∃ (l : List Ver), ∃ (A' : Option Addr) (n' c' : Nat), w.cell? ⟨b, o + i.val, none⟩ = some (.slice A' n' c') ∧ n' ≤ maxLen ∧ Vs w w.heap.size A' n' l := fun i => by
        obtain ⟨l, A', n', c', _, _, h1, h2, h3⟩ := hone i.val i.isLt
        exact ⟨l, A', n', c', h1, h2, h3⟩
      refine ⟨List.ofFn fun i => (hone' i).choose, ⟨by simp, fun _ => ⟨b, o, rfl, hbl, fun k x hx => ?_⟩⟩, by omega⟩
      have hk : k < len := by
        rcases Nat.lt_or_ge k len with h' | h'
        · exact h'
        · rw [List.getElem?_eq_none (by simpa using h')] at hx; cases hx
      rw [List.getElem?_eq_getElem (by simpa using hk)] at hx
      simp only [List.getElem_ofFn, Option.some.injEq] at hx
      rw [← hx]
      exact (hone' ⟨k, hk⟩).choose_spec
set_option maxRecDepth 100000 in
theorem open_store {r : Reach} {b0 : Nat} {v : Value} {d : DataW H} {p : List MemPlace} (hv : Value.okWide Try.prog w r b0 36 v) (h : DataW.Trod enc Try.prog w base spare held 36 v d p) :
    ∃ (A : Option Addr) (len cap : Nat) (ll : List (List Ver)), v = .agg #[.slice A len cap] ∧ R0 w w.heap.size A len ll ∧ len ≤ maxLen := by
  obtain ⟨cs, rfl, hsz⟩ := okWide_struct Try.underlying36 hv
  obtain ⟨l⟩ := cs
  obtain ⟨fuel, hf⟩ := h
  obtain ⟨y0, n, _, hlen, h0⟩ := trod_struct1 Try.underlying36 hf
  have hC : Try.prog.cellsOf 36 = 1 := by kernel_rfl
  have hC2 : Try.prog.cellsOf 34 = 1 := by kernel_rfl
  rw [hC] at hlen
  change l.length = 1 at hlen
  match l, hlen with
  | [c0], _ =>
    have h1 : DataW.trod enc Try.prog w base spare held n 34 [c0] = some y0 := by
      simpa [hC2, Value.cells] using h0
    have h2 : ∃ A len cap, c0 = .slice A len cap := by
      rcases open_slice Try.underlying34 h1 with ⟨hcs, _⟩ | ⟨a, len', cap', m, n, D, Pl, hcs, _⟩
      · simp at hcs; exact ⟨none, 0, 0, hcs⟩
      · simp at hcs; exact ⟨some a, len', cap', hcs⟩
    obtain ⟨A, len, cap, rfl⟩ := h2
    obtain ⟨ll, hr, hm⟩ := open_rows h1
    exact ⟨A, len, cap, ll, rfl, hr, hm⟩
end
end Go.Proofs.Ytjnlbhmddhpmaaa.opns
