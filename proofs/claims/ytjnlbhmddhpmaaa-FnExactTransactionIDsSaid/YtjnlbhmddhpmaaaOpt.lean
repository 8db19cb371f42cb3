/- A law's argument that is a list of transactions, or an engine: what it holds. -/
import Derived.Test.YtjnlbhmddhpmaaaTs
import Derived.Test.YtjnlbhmddhpmaaaOpenS
import Derived.Test.YtjnlbhmddhpmaaaRLock
import Derived.Test.YtjnlbhmddhpmaaaRWait
import Derived.ChangeArms
namespace Go.Proofs.Ytjnlbhmddhpmaaa.opt
open Go.ChangeShapes Go.WideShapes Go.ChangeAt Go.RowKit
open Go.Deep (open_slice add_add)
open Go.Proofs.Ytjnlbhmddhpmaaa.el2 Go.Proofs.Ytjnlbhmddhpmaaa.tx Go.Proofs.Ytjnlbhmddhpmaaa.ts
open Go.Proofs.Ytjnlbhmddhpmaaa.mkr (Tr)
open Go.Proofs.Ytjnlbhmddhpmaaa.sl (Ver)
open Go.Proofs.Ytjnlbhmddhpmaaa.st (R0)
open Go.Proofs.Ytjnlbhmddhpmaaa.opns (open_rows)
open Go.Proofs.Ytjnlbhmddhpmaaa.rLock (cell_lt)
set_option linter.unusedVariables false
set_option linter.constructorNameAsVariable false
section
variable {H : Type} {enc : TypeId × Value → H} {w : World} {base : Nat} {spare : Nat → Bool} {held : Bool}
set_option maxRecDepth 100000 in
set_option maxHeartbeats 1600000 in
theorem open_txs {fuel : Nat} {x : DataW H × List MemPlace} {A : Option Addr} {len cap : Nat} (hf : DataW.trod enc Try.prog w base spare held fuel 37 [.slice A len cap] = some x) :
    ∃ L : List Tr, Ts maxLen w w.heap.size A len L ∧ len ≤ maxLen := by
  rcases open_slice Try.underlying37 hf with ⟨hcs, _⟩ | ⟨a, len', cap', m, n, D, Pl, hcs, _, hl, hm, hmm, _, hi⟩
  · simp at hcs
    obtain ⟨rfl, rfl, rfl⟩ := hcs
    exact ⟨[], Ts.nil_ _ _ _ _, by unfold maxLen; omega⟩
  · simp at hcs
    obtain ⟨rfl, rfl, rfl⟩ := hcs
    have hC : Try.prog.cellsOf 112 = 9 := by kernel_rfl
    rw [hC] at hi
    have hle : len ≤ m := by rw [hmm]; split <;> omega
    obtain ⟨b, o, sp⟩ := a
    have hsp0 : 0 < len → sp = none := fun h0 => by
      obtain ⟨cs', hc, ht⟩ := hi 0 (by omega)
      obtain ⟨x, A1, n1, c1, R, A2, n2, c2, S, rfl, _⟩ := cells_tx ht
      obtain ⟨_, _, hat⟩ := World.cells?_some hc
      have k0 := hat 0 (by omega)
      exact World.cell?_spot k0
    have hone : ∀ i, i < len → ∃ t : Tr, sp = none ∧ b < w.heap.size ∧ TC maxLen w w.heap.size b (o + i * 9) t := by
      intro i hil
      obtain ⟨cs', hc, ht⟩ := hi i (by omega)
      obtain ⟨x, A1, n1, c1, R, A2, n2, c2, S, rfl, hv1, hm1, hv2, hm2⟩ := cells_tx ht
      obtain ⟨_, _, hat⟩ := World.cells?_some hc
      have k0 := hat 0 (by omega)
      have k1 := hat 1 (by omega)
      have k2 := hat 2 (by omega)
      have k3 := hat 3 (by omega)
      have k4 := hat 4 (by omega)
      have k5 := hat 5 (by omega)
      have k6 := hat 6 (by omega)
      have k7 := hat 7 (by omega)
      have k8 := hat 8 (by omega)
      rw [add_add] at k0 k1 k2 k3 k4 k5 k6 k7 k8
      have hsp : sp = none := hsp0 (by omega)
      subst hsp
      have e : ∀ j, (⟨b, o, none⟩ : Addr).add j = ⟨b, o + j, none⟩ := fun j => by unfold Addr.add; split <;> simp_all
      rw [e] at k0 k1 k2 k3 k4 k5 k6 k7 k8
      refine ⟨⟨x, R, S⟩, rfl, cell_lt k0, A1, n1, c1, A2, n2, c2, ⟨?_, ?_, ?_, ?_, ?_, ?_, ?_, ?_, ?_⟩, hm1, hm2, hv1, hv2⟩
      · simpa using k0
      · simpa [Nat.add_assoc] using k1
      · simpa [Nat.add_assoc] using k2
      · simpa [Nat.add_assoc] using k3
      · simpa [Nat.add_assoc] using k4
      · simpa [Nat.add_assoc] using k5
      · simpa [Nat.add_assoc] using k6
      · simpa [Nat.add_assoc] using k7
      · simpa [Nat.add_assoc] using k8
    rcases Nat.eq_zero_or_pos len with h0 | h0
    · subst h0
      exact ⟨[], Ts.nil_ _ _ _ _, by omega⟩
    · have hsp := (hone 0 h0).choose_spec.1
      have hbl := (hone 0 h0).choose_spec.2.1
      subst hsp
      have hone' : ∀ i : Fin len, ∃ t : Tr, TC maxLen w w.heap.size b (o + i.val * 9) t := fun i => ⟨_, (hone i.val i.isLt).choose_spec.2.2⟩
      refine ⟨List.ofFn fun i => (hone' i).choose, ⟨by simp, fun _ => ⟨b, o, rfl, hbl, fun k x hx => ?_⟩⟩, by omega⟩
      have hk : k < len := by
        rcases Nat.lt_or_ge k len with h' | h'
        · exact h'
        · rw [List.getElem?_eq_none (by simpa using h')] at hx; cases hx
      rw [List.getElem?_eq_getElem (by simpa using hk)] at hx
      simp only [List.getElem_ofFn, Option.some.injEq] at hx
      rw [← hx]
      exact (hone' ⟨k, hk⟩).choose_spec
set_option maxRecDepth 100000 in
theorem sl_tx {fuel : Nat} {cs : List Value} {x : DataW H × List MemPlace} (h : DataW.trod enc Try.prog w base spare held fuel 37 cs = some x) : ∃ A n c, cs = [.slice A n c] := by
  rcases open_slice Try.underlying37 h with ⟨hcs, _⟩ | ⟨a, len', cap', m, n, D, Pl, hcs, _⟩
  · exact ⟨none, 0, 0, hcs⟩
  · exact ⟨some a, len', cap', hcs⟩
set_option maxRecDepth 100000 in
theorem sl_lk {fuel : Nat} {cs : List Value} {x : DataW H × List MemPlace} (h : DataW.trod enc Try.prog w base spare held fuel 38 cs = some x) : ∃ A n c, cs = [.slice A n c] := by
  rcases open_slice Try.underlying38 h with ⟨hcs, _⟩ | ⟨a, len', cap', m, n, D, Pl, hcs, _⟩
  · exact ⟨none, 0, 0, hcs⟩
  · exact ⟨some a, len', cap', hcs⟩
set_option maxRecDepth 100000 in
theorem sl_wt {fuel : Nat} {cs : List Value} {x : DataW H × List MemPlace} (h : DataW.trod enc Try.prog w base spare held fuel 39 cs = some x) : ∃ A n c, cs = [.slice A n c] := by
  rcases open_slice Try.underlying39 h with ⟨hcs, _⟩ | ⟨a, len', cap', m, n, D, Pl, hcs, _⟩
  · exact ⟨none, 0, 0, hcs⟩
  · exact ⟨some a, len', cap', hcs⟩
set_option maxRecDepth 100000 in
theorem sl_st {fuel : Nat} {c0 : Value} {x : DataW H × List MemPlace} (h : DataW.trod enc Try.prog w base spare held fuel 36 [c0] = some x) : ∃ (A : Option Addr) (n c : Nat) (C : List (List Ver)), c0 = .slice A n c ∧ R0 w w.heap.size A n C ∧ n ≤ maxLen := by
  obtain ⟨y0, n, _, hlen, h0⟩ := trod_struct1 Try.underlying36 h
  have hC2 : Try.prog.cellsOf 34 = 1 := by kernel_rfl
  have h1 : DataW.trod enc Try.prog w base spare held n 34 [c0] = some y0 := by simpa [hC2, Value.cells] using h0
  have h2 : ∃ A len cap, c0 = .slice A len cap := by
    rcases open_slice Try.underlying34 h1 with ⟨hcs, _⟩ | ⟨a, len', cap', m, n, D, Pl, hcs, _⟩
    · simp at hcs; exact ⟨none, 0, 0, hcs⟩
    · simp at hcs; exact ⟨some a, len', cap', hcs⟩
  obtain ⟨A, len, cap, rfl⟩ := h2
  obtain ⟨C, hr, hm⟩ := open_rows h1
  exact ⟨A, len, cap, C, rfl, hr, hm⟩
set_option maxRecDepth 100000 in
set_option maxHeartbeats 1600000 in
theorem open_engine {r : Reach} {b0 : Nat} {v : Value} {d : DataW H} {p : List MemPlace} (hv : Value.okWide Try.prog w r b0 41 v) (h : DataW.Trod enc Try.prog w base spare held 41 v d p) :
    ∃ (q : Bool) (A1 : Option Addr) (n1 c1 : Nat) (C : List (List Ver)) (A2 : Option Addr) (n2 c2 : Nat) (L : List Tr) (A3 : Option Addr) (n3 c3 : Nat) (K : List E2) (A4 : Option Addr) (n4 c4 : Nat) (X : List E2) (z : Int), v = .agg #[.bool q, .slice A1 n1 c1, .slice A2 n2 c2, .slice A3 n3 c3, .slice A4 n4 c4, .int .i64 z] ∧ R0 w w.heap.size A1 n1 C ∧ n1 ≤ maxLen ∧ Ts maxLen w w.heap.size A2 n2 L ∧ n2 ≤ maxLen ∧ Vs w w.heap.size A3 n3 K ∧ n3 ≤ maxLen ∧ Vs w w.heap.size A4 n4 X ∧ n4 ≤ maxLen ∧ (Lit.int .i64 z).wf = true := by
  obtain ⟨cs, rfl, hsz⟩ := okWide_struct Try.underlying41 hv
  obtain ⟨l⟩ := cs
  obtain ⟨fuel, hf⟩ := h
  obtain ⟨xs, n, _, _, hlen, hxl, hf⟩ := DataW.trod_struct Try.underlying41 hf
  have hC : Try.prog.cellsOf 41 = 6 := by kernel_rfl
  rw [hC] at hlen
  change l.length = 6 at hlen
  match l, hlen with
  | [d0, d1, d2, d3, d4, d5], _ =>
    match xs, hxl with
    | [y0, y1, y2, y3, y4, y5], _ =>
      have g0 := hf 0 _ rfl
      have g1 := hf 1 _ rfl
      have g2 := hf 2 _ rfl
      have g3 := hf 3 _ rfl
      have g4 := hf 4 _ rfl
      have g5 := hf 5 _ rfl
      obtain ⟨q, ha0, _⟩ := DataW.trod_bool (cs := [d0]) Try.underlying4 g0
      obtain ⟨A1, n1, c1, C, ha1, hs, hn1⟩ := sl_st (c0 := d1) g1
      obtain ⟨A2, n2, c2, ha2⟩ := sl_tx (cs := [d2]) g2
      obtain ⟨A3, n3, c3, ha3⟩ := sl_lk (cs := [d3]) g3
      obtain ⟨A4, n4, c4, ha4⟩ := sl_wt (cs := [d4]) g4
      obtain ⟨z, ha5, _, hz⟩ := DataW.trod_int (cs := [d5]) Try.underlying3 g5
      simp only [List.cons.injEq, and_true] at ha0 ha2 ha3 ha4 ha5
      subst ha0 ha1 ha2 ha3 ha4 ha5
      obtain ⟨L, ht, hn2⟩ := open_txs (A := A2) (len := n2) (cap := c2) g2
      obtain ⟨K, hk, hn3⟩ := Go.Proofs.Ytjnlbhmddhpmaaa.rLock.open_row (A := A3) (len := n3) (cap := c3) g3
      obtain ⟨X, hx, hn4⟩ := Go.Proofs.Ytjnlbhmddhpmaaa.rWait.open_row (A := A4) (len := n4) (cap := c4) g4
      exact ⟨q, A1, n1, c1, C, A2, n2, c2, L, A3, n3, c3, K, A4, n4, c4, X, z, rfl, hs, hn1, ht, hn2, hk, hn3, hx, hn4, hz⟩
end
end Go.Proofs.Ytjnlbhmddhpmaaa.opt
