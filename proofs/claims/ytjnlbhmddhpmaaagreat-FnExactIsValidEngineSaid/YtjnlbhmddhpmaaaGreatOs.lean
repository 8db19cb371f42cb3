/- A store of one's own: a row of rows, none of which shares memory; a field set, a row put, a row added. -/
import Derived.Test.YtjnlbhmddhpmaaaGreatFlat
import Derived.Test.YtjnlbhmddhpmaaaGreatSt
import Derived.Test.YtjnlbhmddhpmaaaGreatOw2
import Derived.Laws.OwnMore
namespace Go.Proofs.YtjnlbhmddhpmaaaGreat.os
open Go.ChangeShapes Go.WideShapes Go.ChangeAt Go.RowKit
open Go.Proofs.YtjnlbhmddhpmaaaGreat.sl Go.Proofs.YtjnlbhmddhpmaaaGreat.st Go.Proofs.YtjnlbhmddhpmaaaGreat.flat
set_option linter.unusedVariables false
set_option linter.unusedSimpArgs false
/-- the value v is a row of n rows that read as C, all of one's own, above lo -/
def OS (w : World) (lo : Nat) (v : Value) (n : Nat) (C : List (List Ver)) : Prop :=
  ∃ vals : List Value, w.ownsRow lo 79 1 v n vals ∧ C.length = n ∧ (∀ (i : Nat) (u : Value), vals[i]? = some u → ∃ l, C[i]? = some l ∧ w.ownsRow lo 81 5 u l.length (flat l)) ∧
    ∀ (i j : Nat) (u u' : Value), i ≠ j → vals[i]? = some u → vals[j]? = some u' → ∀ q, u.ownBlock = some q → u'.ownBlock ≠ some q
section
variable {w w' : World} {lo lo' n : Nat} {v : Value} {C : List (List Ver)}
theorem own_cells {e : TypeId} {size m : Nat} {u : Value} {xs : List Value} {q : Nat} (h : w.ownsRow lo e size u m xs) (hq : u.ownBlock = some q) : ∃ cur, w.heap[q]? = some (.cells cur e (0, 0)) := by
  rcases h.2 with ⟨rfl, _⟩ | ⟨g, cap, cur, rfl, _, hg, _⟩
  · cases hq
  · injection hq with hq
    subst hq
    exact ⟨cur, hg⟩
/-- an inner row is not the outer one -/
theorem row_ne {u : Value} {xs ys : List Value} {m k : Nat} {q : Nat} (h : w.ownsRow lo 79 1 v k xs) (h2 : w.ownsRow lo' 81 5 u m ys) (hq : u.ownBlock = some q) : v.ownBlock ≠ some q := by
  intro e
  obtain ⟨c1, e1⟩ := own_cells h e
  obtain ⟨c2, e2⟩ := own_cells h2 hq
  rw [e1] at e2
  injection e2 with e2
  injection e2 with _ e3 _
  exact absurd e3 (by decide)
theorem lt_of_some {α : Type} {l : List α} {k : Nat} {x : α} (h : l[k]? = some x) : k < l.length := by
  rcases Nat.lt_or_ge k l.length with h' | h'
  · exact h'
  · rw [List.getElem?_eq_none h'] at h; cases h
theorem OS.more (h : OS w lo v n C) (hl : lo' ≤ lo) : OS w lo' v n C := by
  obtain ⟨vals, h1, h2, h3, h4⟩ := h
  refine ⟨vals, ?_, h2, fun i u hu => ?_, h4⟩
  · exact ⟨h1.1, h1.2.imp id fun ⟨g, cap, cur, e, hb, r⟩ => ⟨g, cap, cur, e, by omega, r⟩⟩
  · obtain ⟨l, hl2, hr⟩ := h3 i u hu
    exact ⟨l, hl2, ⟨hr.1, hr.2.imp id fun ⟨g, cap, cur, e, hb, r⟩ => ⟨g, cap, cur, e, by omega, r⟩⟩⟩
theorem OS.grown {row : Option Nat} (h : OS w lo v n C) (hg : w.grownBy w' row) (hr : ∀ q, row = some q → q < lo) : OS w' lo v n C := by
  obtain ⟨vals, h1, h2, h3, h4⟩ := h
  have hne : ∀ {e : TypeId} {size m : Nat} {u : Value} {xs : List Value}, w.ownsRow lo e size u m xs → u.ownBlock = none ∨ u.ownBlock ≠ row := by
    intro e size m u xs hu
    rcases hb : u.ownBlock with _ | q
    · exact .inl rfl
    · exact .inr fun e => by have := hr q e.symm; have := hu.lt q hb; omega
  refine ⟨vals, h1.kept hg (hne h1), h2, fun i u hu => ?_, h4⟩
  obtain ⟨l, hl2, hr2⟩ := h3 i u hu
  exact ⟨l, hl2, hr2.kept hg (hne hr2)⟩
theorem OS.keep (h : OS w lo v n C) (hb : Below w.heap.size w w') : OS w' lo v n C :=
  h.grown (row := none) ⟨hb.os, hb.tape, hb.output, hb.size, fun k hk _ => hb.block k hk⟩ (by simp)
theorem OS.nil_ (w : World) (lo : Nat) : OS w lo (.slice none 0 0) 0 [] := ⟨[], World.ownsRow_nil _ _ _ _, rfl, fun i u h => by simp at h, fun i j u u' _ h => by simp at h⟩
theorem OS.len (h : OS w lo v n C) : C.length = n := by obtain ⟨_, _, h2, _⟩ := h; exact h2
/-- the row k of it -/
theorem OS.at_ (h : OS w lo v n C) {k : Nat} (hk : k < n) : ∃ g cap A m c l, v = .slice (some ⟨g, 0, none⟩) n cap ∧ lo ≤ g ∧ g < w.heap.size ∧ C[k]? = some l ∧ l.length = m ∧ w.cell? ⟨g, k, none⟩ = some (.slice A m c) ∧ w.frozen? ⟨g, k, none⟩ = false ∧ w.ownsRow lo 81 5 (.slice A m c) m (flat l) := by
  obtain ⟨vals, h1, h2, h3, h4⟩ := h
  have hl : k < vals.length := by have := h1.1; omega
  obtain ⟨l, hl2, hr⟩ := h3 k _ (List.getElem?_eq_getElem hl)
  obtain ⟨A, c, he, _⟩ := own_vs hr rfl
  rcases h1.2 with ⟨_, h0⟩ | ⟨g, cap, cur, rfl, hbg, hgg, _⟩
  · omega
  · have hlt := (h1.lt g rfl).2
    have hc := h1.cellAt (g := g) (cap := cap) k (by omega)
    rw [List.getElem?_eq_getElem hl, he] at hc
    rw [he] at hr
    exact ⟨g, cap, A, l.length, c, l, rfl, hbg, hlt, hl2, rfl, hc, h1.frozenAt k, hr⟩
theorem OS.rs (h : OS w lo v n C) (hC : ∀ l ∈ C, l.length ≤ 140737488355328) {A : Option Addr} {c : Nat} (hv : v = .slice A n c) : Rs w w.heap.size A n C := by
  refine ⟨h.len, fun hn => ?_⟩
  obtain ⟨g, cap, A', m, c', l, hv', _, hlt, _⟩ := h.at_ hn
  rw [hv] at hv'
  injection hv' with e1 _ _
  subst e1
  refine ⟨g, 0, rfl, hlt, fun k l hl => ?_⟩
  obtain ⟨g2, cap2, A2, m2, c2, l2, hv2, _, _, hl2, hm, hc, _, hr⟩ := h.at_ (k := k) (by have := lt_of_some hl; rw [h.len] at this; exact this)
  rw [hv] at hv2
  injection hv2 with e1 _ _
  injection e1 with e1
  injection e1 with e1
  subst e1
  rw [hl] at hl2
  injection hl2 with hl2
  subst hl2
  obtain ⟨A3, c3, he, hvs⟩ := own_vs hr hm
  refine ⟨A2, m2, c2, by rw [Nat.zero_add]; exact hc, ?_, ?_⟩
  · rw [← hm]; exact hC l (List.mem_of_getElem? hl)
  · injection he with e1 e2 e3
    subst e1
    exact hvs
theorem vals_at {vals : List Value} {g cap : Nat} {u : Value} (h1 : w.ownsRow lo 79 1 (.slice (some ⟨g, 0, none⟩) n cap) n vals) {k : Nat} (hk : k < n) (hc : w.cell? ⟨g, k, none⟩ = some u) : vals[k]? = some u := by
  rw [← hc]
  exact (h1.cellAt k (by omega)).symm
theorem set_at {α : Type} {l : List α} {k i : Nat} {x y : α} (h : (l.set k x)[i]? = some y) : (i = k ∧ y = x ∧ k < l.length) ∨ (i ≠ k ∧ l[i]? = some y) := by
  rw [List.getElem?_set] at h
  by_cases e : k = i
  · rw [if_pos e] at h
    split at h
    · injection h with h
      exact .inl ⟨e.symm, h.symm, by omega⟩
    · cases h
  · rw [if_neg e] at h
    exact .inr ⟨fun e' => e e'.symm, h⟩
/-- a cell of the row k is written -/
theorem OS.set {g cap k b m c j : Nat} {l l' : List Ver} {u : Value} (h : OS w lo (.slice (some ⟨g, 0, none⟩) n cap) n C) (hk : k < n) (hc : w.cell? ⟨g, k, none⟩ = some (.slice (some ⟨b, 0, none⟩) m c)) (hl : C[k]? = some l) (hl' : l'.length = l.length) (hf : flat l' = (flat l).set j u) :
    OS (w.setCell ⟨b, j, none⟩ u) lo (.slice (some ⟨g, 0, none⟩) n cap) n (C.set k l') ∧ w.grownBy (w.setCell ⟨b, j, none⟩ u) (some b) ∧ lo ≤ b := by
  obtain ⟨vals, h1, h2, h3, h4⟩ := h
  have hvk := vals_at h1 hk hc
  obtain ⟨l2, hl2, hr⟩ := h3 k _ hvk
  rw [hl] at hl2
  injection hl2 with hl2
  subst hl2
  have hm : m = l.length := by rcases hr.2 with ⟨e, _⟩ | ⟨_, _, _, e, _⟩ <;> · injection e with _ e2 _ <;> omega
  subst hm
  obtain ⟨hst, hg⟩ := hr.stored j u
  have hbl := (hr.lt b rfl).1
  have hlen : vals.length = n := by have := h1.1; omega
  refine ⟨⟨vals, h1.kept hg (.inr fun e => row_ne h1 hr rfl e), by simpa using h2, fun i u2 hu2 => ?_, h4⟩, hg, hbl⟩
  by_cases e : i = k
  · subst e
    rw [hvk] at hu2
    injection hu2 with hu2
    subst hu2
    refine ⟨l', ?_, ?_⟩
    · rw [List.getElem?_set_self (by rw [h2]; exact hk)]
    · rw [hl', hf]; exact hst
  · obtain ⟨l3, hl3, hr3⟩ := h3 i u2 hu2
    refine ⟨l3, ?_, hr3.kept hg ?_⟩
    · rw [List.getElem?_set_ne (fun e' => e e'.symm)]; exact hl3
    · rcases hb : u2.ownBlock with _ | q
      · exact .inl rfl
      · refine .inr fun e' => ?_
        rw [← hb] at e'
        exact h4 k i _ u2 (fun e2 => e e2.symm) hvk hu2 b rfl e'
/-- another row is put at k -/
theorem OS.put {g cap k : Nat} {l' : List Ver} {u u' : Value} {row : Option Nat} (h : OS w lo (.slice (some ⟨g, 0, none⟩) n cap) n C) (hk : k < n) (hc : w.cell? ⟨g, k, none⟩ = some u) (hg : w.grownBy w' row) (hrow : row = none ∨ row = u.ownBlock)
    (hu' : w'.ownsRow lo 81 5 u' l'.length (flat l')) (hnew : ∀ q, u'.ownBlock = some q → u.ownBlock = some q ∨ w.heap.size ≤ q) :
    OS (w'.setCell ⟨g, k, none⟩ u') lo (.slice (some ⟨g, 0, none⟩) n cap) n (C.set k l') := by
  obtain ⟨vals, h1, h2, h3, h4⟩ := h
  have hvk := vals_at h1 hk hc
  obtain ⟨l2, hl2, hr⟩ := h3 k _ hvk
  have hlen : vals.length = n := by have := h1.1; omega
  have hkept : ∀ {i : Nat} {u2 : Value} {e : TypeId} {size m2 : Nat} {xs : List Value}, w.ownsRow lo e size u2 m2 xs → (∀ q, u.ownBlock = some q → u2.ownBlock ≠ some q) → w'.ownsRow lo e size u2 m2 xs := by
    intro i u2 e size m2 xs ho hne
    refine ho.kept hg ?_
    rcases hb : u2.ownBlock with _ | q
    · exact .inl rfl
    · refine .inr fun e' => ?_
      rcases hrow with hr0 | hr0
      · rw [hr0] at e'; cases e'
      · rw [hr0] at e'
        exact hne q e'.symm hb
  have ho1 := hkept (i := 0) h1 (fun q hq => row_ne h1 hr hq)
  obtain ⟨hst, hg2⟩ := ho1.stored k u'
  have hin : ∀ {u2 : Value} {m2 : Nat} {xs : List Value}, w'.ownsRow lo 81 5 u2 m2 xs → (w'.setCell ⟨g, k, none⟩ u').ownsRow lo 81 5 u2 m2 xs := by
    intro u2 m2 xs ho
    refine ho.kept hg2 ?_
    rcases hb : u2.ownBlock with _ | q
    · exact .inl rfl
    · refine .inr fun e' => ?_
      injection e' with e'
      exact row_ne ho1 ho hb (by rw [e']; rfl)
  refine ⟨vals.set k u', hst, by simpa using h2, fun i u2 hu2 => ?_, fun i j u2 u3 hij hu2 hu3 q hq e => ?_⟩
  · rcases set_at hu2 with ⟨rfl, rfl, _⟩ | ⟨hne, hu⟩
    · exact ⟨l', by rw [List.getElem?_set_self (by rw [h2]; exact hk)], hin hu'⟩
    · obtain ⟨l3, hl3, hr3⟩ := h3 i u2 hu
      refine ⟨l3, by rw [List.getElem?_set_ne (fun e' => hne e'.symm)]; exact hl3, hin (hkept (i := 0) hr3 fun q hq => h4 k i u u2 (fun e => hne e.symm) hvk hu q hq)⟩
  · rcases set_at hu2 with ⟨rfl, rfl, _⟩ | ⟨hne2, hv2⟩
    · rcases set_at hu3 with ⟨e3, _, _⟩ | ⟨hne3, hv3⟩
      · exact hij e3.symm
      · obtain ⟨l3, _, hr3⟩ := h3 j u3 hv3
        rcases hnew q hq with h5 | h5
        · exact h4 i j u u3 hij hvk hv3 q h5 e
        · have := (hr3.lt q e).2
          omega
    · rcases set_at hu3 with ⟨rfl, rfl, _⟩ | ⟨hne3, hv3⟩
      · obtain ⟨l3, _, hr3⟩ := h3 i u2 hv2
        rcases hnew q e with h5 | h5
        · exact h4 j i u u2 (fun e => hij e.symm) hvk hv2 q h5 hq
        · have := (hr3.lt q hq).2
          omega
      · exact h4 i j u2 u3 hij hv2 hv3 q hq e
/-- a row is added at the end -/
theorem os_push {w0 : World} {vals : List Value} {v' : Value} {l : List Ver} {u : Value} (h1 : w0.ownsRow lo 79 1 v n vals) (h2 : C.length = n) (h3 : ∀ (i : Nat) (u : Value), vals[i]? = some u → ∃ l, C[i]? = some l ∧ w0.ownsRow lo 81 5 u l.length (flat l))
    (h4 : ∀ (i j : Nat) (u u' : Value), i ≠ j → vals[i]? = some u → vals[j]? = some u' → ∀ q, u.ownBlock = some q → u'.ownBlock ≠ some q) (hb : Below w0.heap.size w0 w) (hlo : lo ≤ w0.heap.size)
    (hu : w.ownsRow w0.heap.size 81 5 u l.length (flat l)) (ho : w'.ownsRow lo 79 1 v' (n + 1) (vals ++ [u])) (hg : w.grownBy w' v.ownBlock) : OS w' lo v' (n + 1) (C ++ [l]) := by
  have hlen : vals.length = n := by have := h1.1; omega
  have k0 : w0.grownBy w none := ⟨hb.os, hb.tape, hb.output, hb.size, fun k hk _ => hb.block k hk⟩
  have h1w : w.ownsRow lo 79 1 v n vals := h1.kept k0 (by cases v.ownBlock <;> simp)
  have up : ∀ {u2 : Value} {m : Nat} {xs : List Value} {lo2 : Nat}, w.ownsRow lo2 81 5 u2 m xs → w'.ownsRow lo2 81 5 u2 m xs := by
    intro u2 m xs lo2 hh
    refine hh.kept hg ?_
    rcases hq : u2.ownBlock with _ | q
    · exact .inl rfl
    · exact .inr fun e => row_ne h1w hh hq e.symm
  have hmore : w.ownsRow lo 81 5 u l.length (flat l) := ⟨hu.1, hu.2.imp id fun ⟨g, cap, cur, e, hb2, r⟩ => ⟨g, cap, cur, e, by omega, r⟩⟩
  refine ⟨vals ++ [u], ho, by simp [h2], fun i u2 hu2 => ?_, fun i j u2 u3 hij hu2 hu3 q hq e => ?_⟩
  · rcases Nat.lt_or_ge i n with hi | hi
    · rw [List.getElem?_append_left (by omega)] at hu2
      obtain ⟨l3, hl3, hr3⟩ := h3 i u2 hu2
      exact ⟨l3, by rw [List.getElem?_append_left (by omega)]; exact hl3, up (hr3.kept k0 (by cases u2.ownBlock <;> simp))⟩
    · have hi2 := lt_of_some hu2
      simp only [List.length_append, List.length_cons, List.length_nil] at hi2
      obtain rfl : i = n := by omega
      rw [List.getElem?_append_right (by omega)] at hu2
      simp only [hlen, Nat.sub_self, List.getElem?_cons_zero, Option.some.injEq] at hu2
      subst hu2
      exact ⟨l, by rw [List.getElem?_append_right (by omega)]; simp [h2], up hmore⟩
  · have one : ∀ {i : Nat} {u2 : Value}, (vals ++ [u])[i]? = some u2 → (i < n ∧ vals[i]? = some u2) ∨ (i = n ∧ u2 = u) := by
      intro i u2 h
      rcases Nat.lt_or_ge i n with hi | hi
      · rw [List.getElem?_append_left (by omega)] at h
        exact .inl ⟨hi, h⟩
      · have hi2 := lt_of_some h
        simp only [List.length_append, List.length_cons, List.length_nil] at hi2
        obtain rfl : i = n := by omega
        rw [List.getElem?_append_right (by omega)] at h
        simp only [hlen, Nat.sub_self, List.getElem?_cons_zero, Option.some.injEq] at h
        exact .inr ⟨rfl, h.symm⟩
    rcases one hu2 with ⟨hi, hv2⟩ | ⟨rfl, rfl⟩ <;> rcases one hu3 with ⟨hj, hv3⟩ | ⟨hj, rfl⟩
    · exact h4 i j u2 u3 hij hv2 hv3 q hq e
    · obtain ⟨l3, _, hr3⟩ := h3 i u2 hv2
      have := (hr3.lt q hq).2
      have := (hu.lt q e).1
      omega
    · obtain ⟨l3, _, hr3⟩ := h3 j u3 hv3
      have := (hr3.lt q e).2
      have := (hu.lt q hq).1
      omega
    · exact hij hj.symm
end
end Go.Proofs.YtjnlbhmddhpmaaaGreat.os
