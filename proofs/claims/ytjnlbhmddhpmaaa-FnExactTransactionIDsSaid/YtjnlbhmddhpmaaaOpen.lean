/- A law's argument that is a version, or a slice of versions: what it holds. -/
import Derived.Test.YtjnlbhmddhpmaaaSl
import Derived.WalkKit
import Derived.ProofKit
import Derived.OpenShut
import Derived.ShutString
import Derived.ChangeOld
import Derived.Below
import Derived.Carry
import Derived.Lib.Hide
import Derived.Deep.Slices
import Derived.Deep.DeepHandedRow
namespace Go.Proofs.Ytjnlbhmddhpmaaa.opn
open Go.ChangeShapes Go.WideShapes Go.ChangeAt Go.RowKit
open Go.Deep (open_slice add_add)
open Go.Proofs.Ytjnlbhmddhpmaaa.vers Go.Proofs.Ytjnlbhmddhpmaaa.sl
set_option linter.unusedVariables false
set_option linter.constructorNameAsVariable false
theorem laidOut : laidOutB Try.prog = true := by kernel_rfl
section
variable {H : Type} {enc : TypeId × Value → H} {w : World} {base : Nat} {spare : Nat → Bool} {held : Bool}
set_option maxRecDepth 100000 in
theorem five {fuel : Nat} {cs : List Value} {x : DataW H × List MemPlace} (h : DataW.trod enc Try.prog w base spare held fuel 145 cs = some x) :
    ∃ v : Ver, cs = [.int .i64 v.a, .int .i64 v.b, .int .i64 v.c, .int .i64 v.d, .int .i64 v.e] := by
  obtain ⟨xs, n, _, _, hlen, hxl, hf⟩ := DataW.trod_struct Try.underlying145 h
  have hC : Try.prog.cellsOf 145 = 5 := by kernel_rfl
  rw [hC] at hlen
  match cs, hlen with
  | [c0, c1, c2, c3, c4], _ =>
    match xs, hxl with
    | [y0, y1, y2, y3, y4], _ =>
      have g0 := hf 0 _ rfl
      have g1 := hf 1 _ rfl
      have g2 := hf 2 _ rfl
      have g3 := hf 3 _ rfl
      have g4 := hf 4 _ rfl
      obtain ⟨a, ha, _, _⟩ := DataW.trod_int (cs := [c0]) Try.underlying3 g0
      obtain ⟨b, hb, _, _⟩ := DataW.trod_int (cs := [c1]) Try.underlying3 g1
      obtain ⟨c, hc, _, _⟩ := DataW.trod_int (cs := [c2]) Try.underlying3 g2
      obtain ⟨d, hd, _, _⟩ := DataW.trod_int (cs := [c3]) Try.underlying3 g3
      obtain ⟨e, he, _, _⟩ := DataW.trod_int (cs := [c4]) Try.underlying3 g4
      simp only [List.cons.injEq, and_true] at ha hb hc hd he
      exact ⟨⟨a, b, c, d, e⟩, by rw [ha, hb, hc, hd, he]⟩
set_option maxRecDepth 100000 in
theorem open_version {r : Reach} {b0 : Nat} {v : Value} {d : DataW H} {p : List MemPlace} (hv : Value.okWide Try.prog w r b0 145 v) (h : DataW.Trod enc Try.prog w base spare held 145 v d p) :
    ∃ x : Ver, v = .agg #[.int .i64 x.a, .int .i64 x.b, .int .i64 x.c, .int .i64 x.d, .int .i64 x.e] := by
  obtain ⟨cs, rfl, hsz⟩ := okWide_struct Try.underlying145 hv
  obtain ⟨l⟩ := cs
  obtain ⟨fuel, hf⟩ := h
  obtain ⟨x, hx⟩ := five hf
  refine ⟨x, ?_⟩
  have : l = [.int .i64 x.a, .int .i64 x.b, .int .i64 x.c, .int .i64 x.d, .int .i64 x.e] := hx
  rw [this]
theorem cell_lt {a : Addr} {v : Value} (h : w.cell? a = some v) : a.block < w.heap.size := by
  rcases Nat.lt_or_ge a.block w.heap.size with h' | h'
  · exact h'
  · simp [World.cell?, Array.getElem?_eq_none h'] at h
set_option maxRecDepth 100000 in
theorem open_versions {A : Option Addr} {len cap : Nat} {d : DataW H} {p : List MemPlace} (h : DataW.Trod enc Try.prog w base spare held 135 (.slice A len cap) d p) :
    ∃ l : List Ver, Vs w w.heap.size A len l ∧ len ≤ maxLen := by
  obtain ⟨fuel, hf⟩ := h
  rcases open_slice Try.underlying135 hf with ⟨hcs, _⟩ | ⟨a, len', cap', m, n, D, Pl, hcs, _, hl, hm, hmm, _, hi⟩
  · simp [Value.cells] at hcs
    obtain ⟨rfl, rfl, rfl⟩ := hcs
    exact ⟨[], Vs.nil_ _ _ _, by unfold maxLen; omega⟩
  · simp [Value.cells] at hcs
    obtain ⟨rfl, rfl, rfl⟩ := hcs
    have hC : Try.prog.cellsOf 145 = 5 := by kernel_rfl
    rw [hC] at hi
    have hle : len ≤ m := by rw [hmm]; split <;> omega
    obtain ⟨b, o, sp⟩ := a
    have hsp0 : 0 < len → sp = none := fun h0 => by
      obtain ⟨cs', hc, ht⟩ := hi 0 (by omega)
      obtain ⟨x, rfl⟩ := five ht
      obtain ⟨_, _, hat⟩ := World.cells?_some hc
      have k0 := hat 0 (by omega)
      exact World.cell?_spot k0
    have hone : ∀ i, i < len → ∃ x : Ver, sp = none ∧ b < w.heap.size ∧ At w b (o + i * 5) x := by
      intro i hil
      obtain ⟨cs', hc, ht⟩ := hi i (by omega)
      obtain ⟨x, rfl⟩ := five ht
      obtain ⟨_, _, hat⟩ := World.cells?_some hc
      have k0 := hat 0 (by omega)
      have k1 := hat 1 (by omega)
      have k2 := hat 2 (by omega)
      have k3 := hat 3 (by omega)
      have k4 := hat 4 (by omega)
      rw [add_add] at k0 k1 k2 k3 k4
      have hsp : sp = none := hsp0 (by omega)
      subst hsp
      have e : ∀ j, (⟨b, o, none⟩ : Addr).add j = ⟨b, o + j, none⟩ := fun j => by unfold Addr.add; split <;> simp_all
      rw [e] at k0 k1 k2 k3 k4
      refine ⟨x, rfl, cell_lt k0, ?_⟩
      refine ⟨?_, ?_, ?_, ?_, ?_⟩
      · simpa using k0
      · simpa [Nat.add_assoc] using k1
      · simpa [Nat.add_assoc] using k2
      · simpa [Nat.add_assoc] using k3
      · simpa [Nat.add_assoc] using k4
    rcases Nat.eq_zero_or_pos len with h0 | h0
    · subst h0
      exact ⟨[], Vs.nil_ _ _ _, by omega⟩
    · have hsp := (hone 0 h0).choose_spec.1
      have hbl := (hone 0 h0).choose_spec.2.1
      subst hsp
      have hone' : ∀ i : Fin len, ∃ x : Ver, At w b (o + i.val * 5) x := fun i => ⟨_, (hone i.val i.isLt).choose_spec.2.2⟩
      refine ⟨List.ofFn fun i => (hone' i).choose, ⟨by simp, fun _ => ⟨b, o, rfl, hbl, fun k x hx => ?_⟩⟩, by omega⟩
      have hk : k < len := by
        rcases Nat.lt_or_ge k len with h' | h'
        · exact h'
        · rw [List.getElem?_eq_none (by simpa using h')] at hx; cases hx
      rw [List.getElem?_eq_getElem (by simpa using hk)] at hx
      simp only [List.getElem_ofFn, Option.some.injEq] at hx
      rw [← hx]
      exact (hone' ⟨k, hk⟩).choose_spec
end
end Go.Proofs.Ytjnlbhmddhpmaaa.opn
