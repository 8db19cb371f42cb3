/- Own rows of six-integer structs: an element set, a row cut short, the built-in clear. -/
import Derived.Test.YtjnlbhmddhpmaabAp6
import Derived.Laws.CopyRow
namespace Go.Proofs.Ytjnlbhmddhpmaab.ro6
open Go.ChangeShapes Go.WideShapes Go.ChangeAt Go.RowKit
open Go.Proofs.Ytjnlbhmddhpmaab.el6 Go.Proofs.Ytjnlbhmddhpmaab.ap6
set_option linter.unusedVariables false
set_option linter.unusedSimpArgs false
theorem Rw.row {w : World} {e : TypeId} {g cap : Nat} {l : List E6} (h : Rw w e g cap l) : l.length ≤ cap ∧ cap ≤ maxLen ∧ ∃ f, w.rowIs g e (cap * 6) f ∧ ∀ (j : Nat) (u : Value), (flat l)[j]? = some u → f j = u := by
  obtain ⟨cur, h1, h2, h3, h4, h5⟩ := h
  refine ⟨h2, h3, fun i => cur[i]?.getD undef, ⟨cur, h1, h4, fun i hi => ?_⟩, fun j u hu => ?_⟩
  · have : i < cur.size := by omega
    simp [this]
  · have hj : j < (flat l).length := by
      obtain ⟨hh, _⟩ := List.getElem?_eq_some_iff.1 hu
      exact hh
    rw [← h5, List.getElem?_take] at hu
    rw [flat_len] at hj
    rw [if_pos hj, Array.getElem?_toList] at hu
    show cur[j]?.getD undef = u
    rw [hu]
    rfl
theorem Rw.of_row {w : World} {e : TypeId} {g cap : Nat} {l : List E6} {f : Nat → Value} (h2 : l.length ≤ cap) (h3 : cap ≤ maxLen) (h : w.rowIs g e (cap * 6) f) (hf : ∀ (j : Nat) (u : Value), (flat l)[j]? = some u → f j = u) : Rw w e g cap l := by
  obtain ⟨cur, h1, h4, h5⟩ := h
  refine ⟨cur, h1, h2, h3, h4, ?_⟩
  apply List.ext_getElem?
  intro j
  rw [List.getElem?_take]
  by_cases hj : j < l.length * 6
  · rw [if_pos hj, Array.getElem?_toList, h5 j (by omega)]
    have hl : j < (flat l).length := by rw [flat_len]; exact hj
    rw [List.getElem?_eq_getElem hl, hf j _ (List.getElem?_eq_getElem hl)]
  · rw [if_neg hj, List.getElem?_eq_none (by rw [flat_len]; omega)]
theorem Rw.cut {w : World} {e : TypeId} {g cap : Nat} {l : List E6} (h : Rw w e g cap l) (k : Nat) : Rw w e g cap (l.take k) := by
  obtain ⟨h2, h3, f, hf, hx⟩ := Rw.row h
  refine Rw.of_row (by rw [List.length_take]; omega) h3 hf fun j u hu => hx j u ?_
  rw [← flat_take, List.getElem?_take] at hu
  split at hu
  · exact hu
  · cases hu
theorem Rw.of_block {w w' : World} {e : TypeId} {g cap : Nat} {l : List E6} (h : Rw w e g cap l) (hk : w'.heap[g]? = w.heap[g]?) : Rw w' e g cap l := by
  obtain ⟨cur, h1, h2⟩ := h
  exact ⟨cur, hk.trans h1, h2⟩
theorem Rw.put {w : World} {e : TypeId} {g cap : Nat} {l : List E6} (h : Rw w e g cap l) {k : Nat} (hk : k < l.length) (y : E6) :
    Rw ((((((w.setCell ⟨g, k * 6, none⟩ (.int .i64 y.a)).setCell ⟨g, k * 6 + 1, none⟩ (.int .i64 y.b)).setCell ⟨g, k * 6 + 2, none⟩ (.int .i64 y.c)).setCell ⟨g, k * 6 + 3, none⟩ (.int .i64 y.d)).setCell ⟨g, k * 6 + 4, none⟩ (.int .i64 y.e)).setCell ⟨g, k * 6 + 5, none⟩ (.int .i64 y.f)) e g cap (l.set k y) := by
  obtain ⟨h2, h3, f, hf, hx⟩ := Rw.row h
  refine Rw.of_row (by rw [List.length_set]; exact h2) h3 (World.rowIs.set (World.rowIs.set (World.rowIs.set (World.rowIs.set (World.rowIs.set (World.rowIs.set hf (k * 6) (.int .i64 y.a)) (k * 6 + 1) (.int .i64 y.b)) (k * 6 + 2) (.int .i64 y.c)) (k * 6 + 3) (.int .i64 y.d)) (k * 6 + 4) (.int .i64 y.e)) (k * 6 + 5) (.int .i64 y.f)) fun j u hu => ?_
  obtain ⟨x, hx2, hu2⟩ := flat_nth hu
  rw [List.getElem?_set] at hx2
  by_cases hc : k = j / 6
  · rw [if_pos hc, if_pos (by omega)] at hx2
    injection hx2 with hx2
    subst hx2
    show (if j = k * 6 + 5 then _ else if j = k * 6 + 4 then _ else if j = k * 6 + 3 then _ else if j = k * 6 + 2 then _ else if j = k * 6 + 1 then _ else if j = k * 6 then _ else f j) = u
    rw [hu2]
    have hm : j % 6 = 0 ∨ j % 6 = 1 ∨ j % 6 = 2 ∨ j % 6 = 3 ∨ j % 6 = 4 ∨ j % 6 = 5 := by omega
    rcases hm with e6 | e6 | e6 | e6 | e6 | e6
    · rw [e6]
      rw [if_neg (by omega), if_neg (by omega), if_neg (by omega), if_neg (by omega), if_neg (by omega), if_pos (by omega)]
      try rfl
    · rw [e6]
      rw [if_neg (by omega), if_neg (by omega), if_neg (by omega), if_neg (by omega), if_pos (by omega)]
      try rfl
    · rw [e6]
      rw [if_neg (by omega), if_neg (by omega), if_neg (by omega), if_pos (by omega)]
      try rfl
    · rw [e6]
      rw [if_neg (by omega), if_neg (by omega), if_pos (by omega)]
      try rfl
    · rw [e6]
      rw [if_neg (by omega), if_pos (by omega)]
      try rfl
    · rw [e6]
      rw [if_pos (by omega)]
      try rfl

  · rw [if_neg hc] at hx2
    show (if j = k * 6 + 5 then _ else if j = k * 6 + 4 then _ else if j = k * 6 + 3 then _ else if j = k * 6 + 2 then _ else if j = k * 6 + 1 then _ else if j = k * 6 then _ else f j) = u
    rw [if_neg (by omega), if_neg (by omega), if_neg (by omega), if_neg (by omega), if_neg (by omega), if_neg (by omega)]
    refine hx j u ?_
    rw [hu2]
    obtain ⟨fa, fb, fc, fd, fe, ff⟩ := flat_at l (j / 6) x hx2
    have hm : j % 6 = 0 ∨ j % 6 = 1 ∨ j % 6 = 2 ∨ j % 6 = 3 ∨ j % 6 = 4 ∨ j % 6 = 5 := by omega
    rcases hm with e6 | e6 | e6 | e6 | e6 | e6
    · rw [e6]
      rw [show j / 6 * 6 = j by omega] at fa
      exact fa
    · rw [e6]
      rw [show j / 6 * 6 + 1 = j by omega] at fb
      exact fb
    · rw [e6]
      rw [show j / 6 * 6 + 2 = j by omega] at fc
      exact fc
    · rw [e6]
      rw [show j / 6 * 6 + 3 = j by omega] at fd
      exact fd
    · rw [e6]
      rw [show j / 6 * 6 + 4 = j by omega] at fe
      exact fe
    · rw [e6]
      rw [show j / 6 * 6 + 5 = j by omega] at ff
      exact ff

theorem Rw.cells {w : World} {e : TypeId} {g cap : Nat} {l : List E6} (h : Rw w e g cap l) {i : Nat} (hi : i < cap * 6) : ∃ u, w.cell? ⟨g, i, none⟩ = some u := by
  obtain ⟨h2, h3, f, hf, hx⟩ := Rw.row h
  exact ⟨_, World.rowIs.cell hf hi⟩
theorem Rw.fz {w : World} {e : TypeId} {g cap : Nat} {l : List E6} (h : Rw w e g cap l) (i : Nat) : w.frozen? ⟨g, i, none⟩ = false := by
  obtain ⟨h2, h3, f, hf, hx⟩ := Rw.row h
  exact World.rowIs.frozen hf i
theorem zero_cells (n : Nat) : (Builtin.zeroCells #[.int .i64 0, .int .i64 0, .int .i64 0, .int .i64 0, .int .i64 0, .int .i64 0] n).toList = flat (List.replicate n ⟨0, 0, 0, 0, 0, 0⟩) := by
  apply List.ext_getElem?
  intro j
  by_cases hj : j < n * 6
  · have hl : j < (flat (List.replicate n (⟨0, 0, 0, 0, 0, 0⟩ : E6))).length := by rw [flat_len, List.length_replicate]; exact hj
    rw [List.getElem?_eq_getElem hl]
    obtain ⟨x, hx, hu⟩ := flat_nth (List.getElem?_eq_getElem hl)
    rw [List.getElem?_replicate] at hx
    rw [if_pos (by omega)] at hx
    injection hx with hx
    subst hx
    rw [hu]
    have hm : j % 6 = 0 ∨ j % 6 = 1 ∨ j % 6 = 2 ∨ j % 6 = 3 ∨ j % 6 = 4 ∨ j % 6 = 5 := by omega
    rcases hm with hm | hm | hm | hm | hm | hm <;> simp [Builtin.zeroCells, hj, hm, fld]
  · have e2 : (flat (List.replicate n (⟨0, 0, 0, 0, 0, 0⟩ : E6)))[j]? = none := List.getElem?_eq_none (by rw [flat_len, List.length_replicate]; omega)
    rw [e2]
    simp [Builtin.zeroCells]
    omega
theorem run_clear_e6 {P : Program} (w : World) (t e ty : TypeId) (ht : P.underlying t = some (.slice e)) (hv : ∀ w, (zeroValue e).run P w = .ok (.agg #[.int .i64 0, .int .i64 0, .int .i64 0, .int .i64 0, .int .i64 0, .int .i64 0]) w) {g cap n c i : Nat} {l : List E6} (h : Rw w e g cap l) (hi : i < l.length) (hn : n = l.length - i) :
    ∃ w', (Builtin.clear_ #[t] ty #[.slice (some ⟨g, i * 6, none⟩) n c]).run P w = .ok (.tuple #[]) w' ∧ Rw w' e g cap (l.take i) ∧ Off g w w' := by
  obtain ⟨cur, h1, h2, h3, h4, h5⟩ := id h
  have hz : (flat (List.replicate n (⟨0, 0, 0, 0, 0, 0⟩ : E6))).length = n * 6 := by rw [flat_len, List.length_replicate]
  have hst := run_storeCells_at P g (i * 6) e (flat (List.replicate n ⟨0, 0, 0, 0, 0, 0⟩)) 0 cur w h1 (by rw [hz]; omega) (flat_one _)
  refine ⟨_, ?_, ?_, set_off (w := w) (g := g) ((cur.toList.take (i * 6) ++ flat (List.replicate n ⟨0, 0, 0, 0, 0, 0⟩) ++ cur.toList.drop (i * 6 + (flat (List.replicate n (⟨0, 0, 0, 0, 0, 0⟩ : E6))).length)).toArray)⟩
  · have hn0 : n ≠ 0 := by omega
    cases n with
    | zero => omega
    | succ m =>
      have hst' := hst
      simp at hst'
      simp [Builtin.clear_, run_underlying ht, hv, zero_cells, Value.cells, hst']
  · obtain ⟨hl, hx⟩ := lay_in (l := l) (p := List.replicate n ⟨0, 0, 0, 0, 0, 0⟩) (k := i) (cap := cap) h5 (by simpa using h4) h2 (by rw [List.length_replicate]; omega)
    have hr := Rw.lay (l := l) (l' := l.take i ++ List.replicate n ⟨0, 0, 0, 0, 0, 0⟩ ++ l.drop (i + (List.replicate n (⟨0, 0, 0, 0, 0, 0⟩ : E6)).length)) h1 h3 hl hx (by simp; omega)
    have hc := Rw.cut hr i
    have e9 : (l.take i ++ List.replicate n (⟨0, 0, 0, 0, 0, 0⟩ : E6) ++ l.drop (i + (List.replicate n (⟨0, 0, 0, 0, 0, 0⟩ : E6)).length)).take i = l.take i := by
      rw [List.append_assoc, List.take_append_of_le_length (by rw [List.length_take]; omega), List.take_take, Nat.min_self]
    rw [e9] at hc
    exact hc
end Go.Proofs.Ytjnlbhmddhpmaab.ro6
