/- A store of the call's own whose memory lies in a set of blocks: read, written in place, a row put, a row added; appends that say where their row lies. -/
import Derived.Test.YtjnlbhmddhpmaaaGreatOs
import Derived.Test.YtjnlbhmddhpmaaaGreatEl2
namespace Go.Proofs.YtjnlbhmddhpmaaaGreat.oq
open Go.ChangeShapes Go.WideShapes Go.ChangeAt Go.RowKit
open Go.Proofs.YtjnlbhmddhpmaaaGreat.sl Go.Proofs.YtjnlbhmddhpmaaaGreat.st Go.Proofs.YtjnlbhmddhpmaaaGreat.flat Go.Proofs.YtjnlbhmddhpmaaaGreat.os
open Go.Proofs.YtjnlbhmddhpmaaaGreat.el2 (new1)
set_option linter.unusedVariables false
set_option linter.unusedSimpArgs false
/-- the blocks of Q are as they were -/
structure Agr (Q : Nat → Prop) (w w' : World) : Prop where
  os : w'.os = w.os
  tape : w'.tape = w.tape
  output : w'.output = w.output
  size : w.heap.size ≤ w'.heap.size
  block : ∀ k, k < w.heap.size → Q k → w'.heap[k]? = w.heap[k]?
section
variable {w w' w'' : World} {Q Q' : Nat → Prop} {lo lo' n : Nat} {v : Value} {C : List (List Ver)}
theorem Agr.refl (Q : Nat → Prop) (w : World) : Agr Q w w := ⟨rfl, rfl, rfl, Nat.le_refl _, fun _ _ _ => rfl⟩
theorem Agr.trans (h : Agr Q w w') (h2 : Agr Q w' w'') : Agr Q w w'' := ⟨h2.os.trans h.os, h2.tape.trans h.tape, h2.output.trans h.output, Nat.le_trans h.size h2.size, fun k hk hq => (h2.block k (Nat.lt_of_lt_of_le hk h.size) hq).trans (h.block k hk hq)⟩
theorem Agr.mono (h : Agr Q w w') (hq : ∀ k, k < w.heap.size → Q' k → Q k) : Agr Q' w w' := ⟨h.os, h.tape, h.output, h.size, fun k hk hk2 => h.block k hk (hq k hk hk2)⟩
theorem Agr.of_below (h : Below w.heap.size w w') (Q : Nat → Prop) : Agr Q w w' := ⟨h.os, h.tape, h.output, h.size, fun k hk _ => h.block k hk⟩
theorem Agr.of_grown {row : Option Nat} (h : w.grownBy w' row) (hq : ∀ k, Q k → some k ≠ row) : Agr Q w w' := ⟨h.os, h.tape, h.output, h.size, fun k hk hk2 => h.block k hk (hq k hk2)⟩
theorem Agr.below {B : Nat} (h : Agr Q w w') (hB : B ≤ w.heap.size) (hq : ∀ k, k < B → Q k) : Below B w w' := ⟨h.os, h.tape, h.output, h.size, fun k hk => h.block k (by omega) (hq k hk)⟩
theorem Agr.set (h : Agr Q w w') {p : Addr} (u : Value) (hp : ¬ Q p.block) : Agr Q w (w'.setCell p u) := ⟨h.os, h.tape, h.output, by simpa [World.setCell] using h.size, fun k hk hq => (Below.heap_setCell w' p u k (fun e => hp (e ▸ hq))).trans (h.block k hk hq)⟩
theorem Agr.setNew (h : Agr Q w w') {p : Addr} (u : Value) (hp : w.heap.size ≤ p.block) : Agr Q w (w'.setCell p u) := ⟨h.os, h.tape, h.output, by simpa [World.setCell] using h.size, fun k hk hq => (Below.heap_setCell w' p u k (fun e => by omega)).trans (h.block k hk hq)⟩
theorem OffSet (w : World) (p : Addr) (u : Value) : Agr (fun q => q ≠ p.block) w (w.setCell p u) := ⟨rfl, rfl, rfl, by simp [World.setCell], fun k _ hq => Below.heap_setCell w p u k hq⟩
theorem Agr.alloc (h : Agr Q w w') (o : Obj) : Agr Q w (w'.alloc o) := h.trans (Agr.of_below (new1 w' o) Q)
/-- a store that is the call's own and lies in Q -/
def OQ (w : World) (Q : Nat → Prop) (v : Value) (n : Nat) (C : List (List Ver)) : Prop :=
  ∃ vals : List Value, w.ownsRow 0 79 1 v n vals ∧ C.length = n ∧ (∀ (i : Nat) (u : Value), vals[i]? = some u → ∃ l, C[i]? = some l ∧ w.ownsRow 0 81 5 u l.length (flat l)) ∧
    (∀ (i j : Nat) (u u' : Value), i ≠ j → vals[i]? = some u → vals[j]? = some u' → ∀ q, u.ownBlock = some q → u'.ownBlock ≠ some q) ∧
    (∀ q, v.ownBlock = some q → Q q) ∧ ∀ (i : Nat) (u : Value), vals[i]? = some u → ∀ q, u.ownBlock = some q → Q q
theorem own_of {e : TypeId} {size m : Nat} {u : Value} {xs : List Value} (h : w.ownsRow lo e size u m xs) (hk : ∀ q, u.ownBlock = some q → w'.heap[q]? = w.heap[q]?) : w'.ownsRow lo e size u m xs :=
  ⟨h.1, h.2.imp id fun ⟨g, cap, cur, e1, h1, h2, h3⟩ => ⟨g, cap, cur, e1, h1, (hk g (by rw [e1]; rfl)).trans h2, h3⟩⟩
theorem own_lo {e : TypeId} {size m : Nat} {u : Value} {xs : List Value} (h : w.ownsRow lo e size u m xs) (hk : ∀ q, u.ownBlock = some q → lo' ≤ q) : w.ownsRow lo' e size u m xs :=
  ⟨h.1, h.2.imp id fun ⟨g, cap, cur, e1, h1, h2, h3⟩ => ⟨g, cap, cur, e1, hk g (by rw [e1]; rfl), h2, h3⟩⟩
theorem OQ.of_os (h : OS w lo v n C) : OQ w (fun q => lo ≤ q ∧ q < w.heap.size) v n C := by
  obtain ⟨vals, h1, h2, h3, h4⟩ := h
  refine ⟨vals, own_lo h1 fun _ _ => Nat.zero_le _, h2, fun i u hu => ?_, h4, fun q hq => h1.lt q hq, fun i u hu q hq => ?_⟩
  · obtain ⟨l, hl, hr⟩ := h3 i u hu
    exact ⟨l, hl, own_lo hr fun _ _ => Nat.zero_le _⟩
  · obtain ⟨l, hl, hr⟩ := h3 i u hu
    exact hr.lt q hq
theorem OQ.os (h : OQ w Q v n C) (hq : ∀ q, Q q → lo ≤ q) : OS w lo v n C := by
  obtain ⟨vals, h1, h2, h3, h4, h5, h6⟩ := h
  refine ⟨vals, own_lo h1 fun q e => hq q (h5 q e), h2, fun i u hu => ?_, h4⟩
  obtain ⟨l, hl, hr⟩ := h3 i u hu
  exact ⟨l, hl, own_lo hr fun q e => hq q (h6 i u hu q e)⟩
theorem OQ.os0 (h : OQ w Q v n C) : OS w 0 v n C := h.os fun _ _ => Nat.zero_le _
theorem OQ.mono (h : OQ w Q v n C) (hq : ∀ q, q < w.heap.size → Q q → Q' q) : OQ w Q' v n C := by
  obtain ⟨vals, h1, h2, h3, h4, h5, h6⟩ := h
  refine ⟨vals, h1, h2, h3, h4, fun q e => hq q (h1.lt q e).2 (h5 q e), fun i u hu q e => ?_⟩
  obtain ⟨l, hl, hr⟩ := h3 i u hu
  exact hq q (hr.lt q e).2 (h6 i u hu q e)
theorem OQ.keep (h : OQ w Q v n C) (hk : ∀ k, k < w.heap.size → Q k → w'.heap[k]? = w.heap[k]?) : OQ w' Q v n C := by
  obtain ⟨vals, h1, h2, h3, h4, h5, h6⟩ := h
  refine ⟨vals, own_of h1 fun q e => hk q (h1.lt q e).2 (h5 q e), h2, fun i u hu => ?_, h4, h5, h6⟩
  obtain ⟨l, hl, hr⟩ := h3 i u hu
  exact ⟨l, hl, own_of hr fun q e => hk q (hr.lt q e).2 (h6 i u hu q e)⟩
theorem OQ.agr (h : OQ w Q v n C) (ha : Agr Q w w') : OQ w' Q v n C := h.keep ha.block
theorem OQ.below (h : OQ w Q v n C) (hb : Below w.heap.size w w') : OQ w' Q v n C := h.keep fun k hk _ => hb.block k hk
theorem OQ.len (h : OQ w Q v n C) : C.length = n := h.os0.len
theorem OQ.form (h : OQ w Q v n C) : ∃ A c, v = .slice A n c := by
  obtain ⟨vals, h1, _⟩ := h
  rcases h1.2 with ⟨rfl, rfl⟩ | ⟨g, cap, cur, rfl, _⟩
  · exact ⟨none, 0, rfl⟩
  · exact ⟨_, cap, rfl⟩
theorem OQ.rs (h : OQ w Q v n C) (hC : ∀ l ∈ C, l.length ≤ 140737488355328) {A : Option Addr} {c : Nat} (hv : v = .slice A n c) : Rs w w.heap.size A n C := h.os0.rs hC hv
/-- the row k of it -/
theorem OQ.at_ (h : OQ w Q v n C) {k : Nat} (hk : k < n) : ∃ g cap A m c l, v = .slice (some ⟨g, 0, none⟩) n cap ∧ Q g ∧ g < w.heap.size ∧ C[k]? = some l ∧ l.length = m ∧ w.cell? ⟨g, k, none⟩ = some (.slice A m c) ∧ w.frozen? ⟨g, k, none⟩ = false ∧ w.ownsRow 0 81 5 (.slice A m c) m (flat l) ∧ ∀ q, (Value.slice A m c).ownBlock = some q → Q q := by
  obtain ⟨g, cap, A, m, c, l, rfl, _, hlt, hl, hm, hc, hf, hr⟩ := h.os0.at_ hk
  obtain ⟨vals, h1, h2, h3, h4, h5, h6⟩ := h
  exact ⟨g, cap, A, m, c, l, rfl, h5 g rfl, hlt, hl, hm, hc, hf, hr, fun q hq => h6 k _ (vals_at h1 hk hc) q hq⟩
/-- a cell of the row k is written -/
theorem OQ.set {g cap k b m c j : Nat} {l l' : List Ver} {u : Value} (h : OQ w Q (.slice (some ⟨g, 0, none⟩) n cap) n C) (hk : k < n) (hc : w.cell? ⟨g, k, none⟩ = some (.slice (some ⟨b, 0, none⟩) m c)) (hl : C[k]? = some l) (hl' : l'.length = l.length) (hf : flat l' = (flat l).set j u) :
    OQ (w.setCell ⟨b, j, none⟩ u) Q (.slice (some ⟨g, 0, none⟩) n cap) n (C.set k l') := by
  obtain ⟨vals, h1, h2, h3, h4, h5, h6⟩ := h
  have hvk := vals_at h1 hk hc
  obtain ⟨l2, hl2, hr⟩ := h3 k _ hvk
  rw [hl] at hl2
  injection hl2 with hl2
  subst hl2
  have hm : m = l.length := by rcases hr.2 with ⟨e, _⟩ | ⟨_, _, _, e, _⟩ <;> · injection e with _ e2 _ <;> omega
  subst hm
  obtain ⟨hst, hg⟩ := hr.stored j u
  have hlen : vals.length = n := by have := h1.1; omega
  refine ⟨vals, h1.kept hg (.inr fun e => row_ne h1 hr rfl e), by simpa using h2, fun i u2 hu2 => ?_, h4, h5, h6⟩
  by_cases e : i = k
  · subst e
    rw [hvk] at hu2
    injection hu2 with hu2
    subst hu2
    refine ⟨l', ?_, ?_⟩
    · rw [List.getElem?_set_self (by rw [h2]; exact hk)]
    · rw [hl', hf]; exact hst
  · obtain ⟨l3, hl3, hr3⟩ := h3 i u2 hu2
    refine ⟨l3, ?_, hr3.kept hg ?_⟩
    · rw [List.getElem?_set_ne (fun e' => e e'.symm)]; exact hl3
    · rcases hb : u2.ownBlock with _ | q
      · exact .inl rfl
      · refine .inr fun e' => ?_
        rw [← hb] at e'
        exact h4 k i _ u2 (fun e2 => e e2.symm) hvk hu2 b rfl e'
/-- another row is put at k -/
theorem OQ.put {g cap k : Nat} {l' : List Ver} {u u' : Value} {row : Option Nat} (h : OQ w Q (.slice (some ⟨g, 0, none⟩) n cap) n C) (hk : k < n) (hc : w.cell? ⟨g, k, none⟩ = some u) (hg : w.grownBy w' row) (hrow : row = none ∨ row = u.ownBlock)
    (hu' : w'.ownsRow 0 81 5 u' l'.length (flat l')) (hnew : ∀ q, u'.ownBlock = some q → u.ownBlock = some q ∨ (w.heap.size ≤ q ∧ Q q)) :
    OQ (w'.setCell ⟨g, k, none⟩ u') Q (.slice (some ⟨g, 0, none⟩) n cap) n (C.set k l') := by
  have hq0 : ∃ vals : List Value, w.ownsRow 0 79 1 (.slice (some ⟨g, 0, none⟩) n cap) n vals ∧ ∀ (i : Nat) (u : Value), vals[i]? = some u → ∀ q, u.ownBlock = some q → Q q := by
    obtain ⟨vals, h1, h2, h3, h4, h5, h6⟩ := h
    exact ⟨vals, h1, h6⟩
  have hQg : Q g := by obtain ⟨vals, h1, h2, h3, h4, h5, h6⟩ := h; exact h5 g rfl
  have hos := OS.put h.os0 hk hc hg hrow hu' (fun q hq => (hnew q hq).imp id fun e => e.1)
  obtain ⟨vals', h1', h2', h3', h4'⟩ := hos
  obtain ⟨vals, h1, h6⟩ := hq0
  refine ⟨vals', h1', h2', h3', h4', fun q e => by injection e with e; exact e ▸ hQg, fun i u2 hu2 q hq => ?_⟩
  have hi : i < n := by have := lt_of_some hu2; have := h1'.1; omega
  have hc2 := h1'.cellAt (g := g) (cap := cap) i (by omega)
  rw [hu2] at hc2
  have hgne : row ≠ some g := by
    rcases hrow with e | e
    · rw [e]; simp
    · intro e2
      rw [e] at e2
      have hvk := vals_at h1 hk hc
      obtain ⟨vals3, k1, k2, k3, k4, k5, k6⟩ := h
      have hvk3 := vals_at k1 hk hc
      obtain ⟨l, hl, hr⟩ := k3 k _ hvk3
      exact row_ne k1 hr e2 rfl
  by_cases e : i = k
  · subst e
    have hsame : (w'.setCell ⟨g, i, none⟩ u').cell? ⟨g, i, none⟩ = some u' := by
      have hcw : w'.cell? ⟨g, i, none⟩ = w.cell? ⟨g, i, none⟩ := World.cell?_of_block (hg.block g (h1.lt g rfl).2 (fun e => hgne e.symm))
      rw [hc] at hcw
      exact st.set_same hcw
    rw [hsame] at hc2
    injection hc2 with hc2
    subst hc2
    rcases hnew q hq with e | e
    · exact h6 i u (vals_at h1 hk hc) q e
    · exact e.2
  · have hsame : (w'.setCell ⟨g, k, none⟩ u').cell? ⟨g, i, none⟩ = w'.cell? ⟨g, i, none⟩ := World.cell?_setCell_other _ _ _ _ (fun e' => by injection e' with _ e2 _; exact e e2.symm)
    rw [hsame, World.cell?_of_block (hg.block g (h1.lt g rfl).2 (fun e => hgne e.symm))] at hc2
    exact h6 i u2 (vals_at h1 hi hc2) q hq
end
/-! an append onto a row of one's own: the row lies where it lay, or in a new block -/
section
variable {P : Program} (w : World)
theorem run_append_at (t ty e : TypeId) (i : TypeInfo) (z : Value) (size bytes : Nat) (ht : P.underlying t = some (.slice e)) (hi : P.info? e = some i) (hz : i.zero = some z)
    (hsize : i.size = size) (hby : i.bytes = bytes) (hzs : z.cells.size = size) (hsz : 0 < size) (v : Value) (n : Nat) (xs : List Value) (hown : w.ownsRow 0 e size v n xs)
    (a : Addr) (m c : Nat) (news : List Value) (hl : news.length = m * size) (hnews : ∀ j u, news[j]? = some u → w.cell? (a.add j) = some u) (h1 : ∀ u ∈ news, u.oneCell' = true)
    (h63 : n + m ≤ maxLen) (hbytes : (n + m) * bytes ≤ 140737488355328) :
    ∃ v' w', (Builtin.append_ #[t, t] ty #[v, .slice (some a) m c]).run P w = .ok v' w' ∧ w'.ownsRow 0 e size v' (n + m) (xs ++ news) ∧ w.grownBy w' v.ownBlock ∧ ∀ q, v'.ownBlock = some q → v.ownBlock = some q ∨ w.heap.size ≤ q := by
  obtain ⟨v', w', hr, ho, hg, hnil⟩ := run_append_own (P := P) w 0 t ty e i z size bytes ht hi hz hsize hby hzs hsz v n xs hown a m c news hl hnews h1 h63 hbytes (Nat.zero_le _)
  refine ⟨v', w', hr, ho, hg, ?_⟩
  have hsmall : n + m ≤ 9223372036854775807 := by simp only [maxLen] at h63; omega
  have key : ∀ {x : Value} {wx : World}, (Builtin.append_ #[t, t] ty #[v, .slice (some a) m c]).run P w = .ok x wx → v' = x := by
    intro x wx h
    rw [hr] at h
    injection h
  rcases hown.2 with ⟨rfl, rfl⟩ | ⟨g, cap, cur, rfl, hbg, hgg, hnc, hcm, hcs, htake⟩
  · by_cases hm : m = 0
    · rw [hnil.2 ⟨rfl, hm⟩]
      intro q hq
      cases hq
    · have h2 := run_append_nil (P := P) w t ty e i z ht hi hz a m c news (by rw [hsize]; exact hl) hnews (by omega) (by omega) (by rw [hby]; have hb := hbytes; simp only [Nat.zero_add] at hb; omega)
      rw [key h2]
      intro q hq
      injection hq with hq
      exact .inr (by rw [← hq]; exact Nat.le_refl _)
  · by_cases hroom : n + m ≤ cap
    · obtain ⟨w2, h2, _⟩ := run_append_fits (P := P) w 0 t ty e i size ht hi hsize g n cap xs hown a m c news hl hnews h1 hroom
      rw [key h2]
      exact fun q hq => .inl hq
    · have h2 := run_append_grow (P := P) w t ty e i z ht hi hz ⟨g, 0, none⟩ n cap xs (by rw [hsize]; exact hown.1) (hown.cells (g := g) rfl) a m c news (by rw [hsize]; exact hl) hnews (by omega) (by omega) (growslice_fits (by omega) (by rw [hby]; exact hbytes))
      rw [key h2]
      intro q hq
      injection hq with hq
      exact .inr (by rw [← hq]; exact Nat.le_refl _)
end
end Go.Proofs.YtjnlbhmddhpmaaaGreat.oq
