/- AbortTransaction of both: in memory of its own; nothing that was there is written. -/
import Derived.Test.YtigbknmiidhblaaGreatDoorFlat
import Derived.Test.YtigbknmiidhblaaGreatDoorSt
import Derived.Test.YtigbknmiidhblaaGreatDoorOw2
import Derived.Laws.OwnMore
import Derived.Test.YtigbknmiidhblaaGreatDoorEl2
import Derived.Test.YtigbknmiidhblaaGreatDoorAo
import Derived.Test.YtigbknmiidhblaaGreatDoorRq
import Derived.Test.YtigbknmiidhblaaGreatDoorXga
import Derived.Deep.AppendLies
import Derived.Deep.RegionHeld3
import Derived.Test.YtigbknmiidhblaaGreatDoorXgb
import Derived.BigRegion
import Derived.Recover
import Derived.Test.YtigbknmiidhblaaGreatDoorLt
import Derived.Test.YtigbknmiidhblaaGreatDoorLc
import Derived.Test.YtigbknmiidhblaaGreatDoorTv
import Derived.Test.YtigbknmiidhblaaGreatDoorTvs
import Derived.Test.YtigbknmiidhblaaGreatDoorVal
/- A store of one's own: a row of rows, none of which shares memory; a field set, a row put, a row added. -/
namespace Go.Proofs.YtigbknmiidhblaaGreatDoor.os
open Go.ChangeShapes Go.WideShapes Go.ChangeAt Go.RowKit
open Go.Proofs.YtigbknmiidhblaaGreatDoor.sl Go.Proofs.YtigbknmiidhblaaGreatDoor.st Go.Proofs.YtigbknmiidhblaaGreatDoor.flat
set_option linter.unusedVariables false
set_option linter.unusedSimpArgs false
/-- the value v is a row of n rows that read as C, all of one's own, above lo -/
def OS (w : World) (lo : Nat) (v : Value) (n : Nat) (C : List (List Ver)) : Prop :=
  ∃ vals : List Value, w.ownsRow lo 37 1 v n vals ∧ C.length = n ∧ (∀ (i : Nat) (u : Value), vals[i]? = some u → ∃ l, C[i]? = some l ∧ w.ownsRow lo 43 5 u l.length (flat l)) ∧
    ∀ (i j : Nat) (u u' : Value), i ≠ j → vals[i]? = some u → vals[j]? = some u' → ∀ q, u.ownBlock = some q → u'.ownBlock ≠ some q
section
variable {w w' : World} {lo lo' n : Nat} {v : Value} {C : List (List Ver)}
theorem own_cells {e : TypeId} {size m : Nat} {u : Value} {xs : List Value} {q : Nat} (h : w.ownsRow lo e size u m xs) (hq : u.ownBlock = some q) : ∃ cur, w.heap[q]? = some (.cells cur e (0, 0)) := by
  rcases h.2 with ⟨rfl, _⟩ | ⟨g, cap, cur, rfl, _, hg, _⟩
  · cases hq
  · injection hq with hq
    subst hq
    exact ⟨cur, hg⟩
/-- an inner row is not the outer one -/
theorem row_ne {u : Value} {xs ys : List Value} {m k : Nat} {q : Nat} (h : w.ownsRow lo 37 1 v k xs) (h2 : w.ownsRow lo' 43 5 u m ys) (hq : u.ownBlock = some q) : v.ownBlock ≠ some q := by
  intro e
  obtain ⟨c1, e1⟩ := own_cells h e
  obtain ⟨c2, e2⟩ := own_cells h2 hq
  rw [e1] at e2
  injection e2 with e2
  injection e2 with _ e3 _
  exact absurd e3 (by decide)
theorem lt_of_some {α : Type} {l : List α} {k : Nat} {x : α} (h : l[k]? = some x) : k < l.length := by
  rcases Nat.lt_or_ge k l.length with h' | h'
  · exact h'
  · rw [List.getElem?_eq_none h'] at h; cases h
theorem OS.more (h : OS w lo v n C) (hl : lo' ≤ lo) : OS w lo' v n C := by
  obtain ⟨vals, h1, h2, h3, h4⟩ := h
  refine ⟨vals, ?_, h2, fun i u hu => ?_, h4⟩
  · exact ⟨h1.1, h1.2.imp id fun ⟨g, cap, cur, e, hb, r⟩ => ⟨g, cap, cur, e, by omega, r⟩⟩
  · obtain ⟨l, hl2, hr⟩ := h3 i u hu
    exact ⟨l, hl2, ⟨hr.1, hr.2.imp id fun ⟨g, cap, cur, e, hb, r⟩ => ⟨g, cap, cur, e, by omega, r⟩⟩⟩
theorem OS.grown {row : Option Nat} (h : OS w lo v n C) (hg : w.grownBy w' row) (hr : ∀ q, row = some q → q < lo) : OS w' lo v n C := by
  obtain ⟨vals, h1, h2, h3, h4⟩ := h
  have hne : ∀ {e : TypeId} {size m : Nat} {u : Value} {xs : List Value}, w.ownsRow lo e size u m xs → u.ownBlock = none ∨ u.ownBlock ≠ row := by
    intro e size m u xs hu
    rcases hb : u.ownBlock with _ | q
    · exact .inl rfl
    · exact .inr fun e => by have := hr q e.symm; have := hu.lt q hb; omega
  refine ⟨vals, h1.kept hg (hne h1), h2, fun i u hu => ?_, h4⟩
  obtain ⟨l, hl2, hr2⟩ := h3 i u hu
  exact ⟨l, hl2, hr2.kept hg (hne hr2)⟩
theorem OS.keep (h : OS w lo v n C) (hb : Below w.heap.size w w') : OS w' lo v n C :=
  h.grown (row := none) ⟨hb.os, hb.tape, hb.output, hb.size, fun k hk _ => hb.block k hk⟩ (by simp)
theorem OS.nil_ (w : World) (lo : Nat) : OS w lo (.slice none 0 0) 0 [] := ⟨[], World.ownsRow_nil _ _ _ _, rfl, fun i u h => by simp at h, fun i j u u' _ h => by simp at h⟩
theorem OS.len (h : OS w lo v n C) : C.length = n := by obtain ⟨_, _, h2, _⟩ := h; exact h2
/-- the row k of it -/
theorem OS.at_ (h : OS w lo v n C) {k : Nat} (hk : k < n) : ∃ g cap A m c l, v = .slice (some ⟨g, 0, none⟩) n cap ∧ lo ≤ g ∧ g < w.heap.size ∧ C[k]? = some l ∧ l.length = m ∧ w.cell? ⟨g, k, none⟩ = some (.slice A m c) ∧ w.frozen? ⟨g, k, none⟩ = false ∧ w.ownsRow lo 43 5 (.slice A m c) m (flat l) := by
  obtain ⟨vals, h1, h2, h3, h4⟩ := h
  have hl : k < vals.length := by have := h1.1; omega
  obtain ⟨l, hl2, hr⟩ := h3 k _ (List.getElem?_eq_getElem hl)
  obtain ⟨A, c, he, _⟩ := own_vs hr rfl
  rcases h1.2 with ⟨_, h0⟩ | ⟨g, cap, cur, rfl, hbg, hgg, _⟩
  · omega
  · have hlt := (h1.lt g rfl).2
    have hc := h1.cellAt (g := g) (cap := cap) k (by omega)
    rw [List.getElem?_eq_getElem hl, he] at hc
    rw [he] at hr
    exact ⟨g, cap, A, l.length, c, l, rfl, hbg, hlt, hl2, rfl, hc, h1.frozenAt k, hr⟩
theorem OS.rs (h : OS w lo v n C) (hC : ∀ l ∈ C, l.length ≤ 140737488355328) {A : Option Addr} {c : Nat} (hv : v = .slice A n c) : Rs w w.heap.size A n C := by
  refine ⟨h.len, fun hn => ?_⟩
  obtain ⟨g, cap, A', m, c', l, hv', _, hlt, _⟩ := h.at_ hn
  rw [hv] at hv'
  injection hv' with e1 _ _
  subst e1
  refine ⟨g, 0, rfl, hlt, fun k l hl => ?_⟩
  obtain ⟨g2, cap2, A2, m2, c2, l2, hv2, _, _, hl2, hm, hc, _, hr⟩ := h.at_ (k := k) (by have := lt_of_some hl; rw [h.len] at this; exact this)
  rw [hv] at hv2
  injection hv2 with e1 _ _
  injection e1 with e1
  injection e1 with e1
  subst e1
  rw [hl] at hl2
  injection hl2 with hl2
  subst hl2
  obtain ⟨A3, c3, he, hvs⟩ := own_vs hr hm
  refine ⟨A2, m2, c2, by rw [Nat.zero_add]; exact hc, ?_, ?_⟩
  · rw [← hm]; exact hC l (List.mem_of_getElem? hl)
  · injection he with e1 e2 e3
    subst e1
    exact hvs
theorem vals_at {vals : List Value} {g cap : Nat} {u : Value} (h1 : w.ownsRow lo 37 1 (.slice (some ⟨g, 0, none⟩) n cap) n vals) {k : Nat} (hk : k < n) (hc : w.cell? ⟨g, k, none⟩ = some u) : vals[k]? = some u := by
  rw [← hc]
  exact (h1.cellAt k (by omega)).symm
theorem set_at {α : Type} {l : List α} {k i : Nat} {x y : α} (h : (l.set k x)[i]? = some y) : (i = k ∧ y = x ∧ k < l.length) ∨ (i ≠ k ∧ l[i]? = some y) := by
  rw [List.getElem?_set] at h
  by_cases e : k = i
  · rw [if_pos e] at h
    split at h
    · injection h with h
      exact .inl ⟨e.symm, h.symm, by omega⟩
    · cases h
  · rw [if_neg e] at h
    exact .inr ⟨fun e' => e e'.symm, h⟩
/-- a cell of the row k is written -/
theorem OS.set {g cap k b m c j : Nat} {l l' : List Ver} {u : Value} (h : OS w lo (.slice (some ⟨g, 0, none⟩) n cap) n C) (hk : k < n) (hc : w.cell? ⟨g, k, none⟩ = some (.slice (some ⟨b, 0, none⟩) m c)) (hl : C[k]? = some l) (hl' : l'.length = l.length) (hf : flat l' = (flat l).set j u) :
    OS (w.setCell ⟨b, j, none⟩ u) lo (.slice (some ⟨g, 0, none⟩) n cap) n (C.set k l') ∧ w.grownBy (w.setCell ⟨b, j, none⟩ u) (some b) ∧ lo ≤ b := by
  obtain ⟨vals, h1, h2, h3, h4⟩ := h
  have hvk := vals_at h1 hk hc
  obtain ⟨l2, hl2, hr⟩ := h3 k _ hvk
  rw [hl] at hl2
  injection hl2 with hl2
  subst hl2
  have hm : m = l.length := by rcases hr.2 with ⟨e, _⟩ | ⟨_, _, _, e, _⟩ <;> · injection e with _ e2 _ <;> omega
  subst hm
  obtain ⟨hst, hg⟩ := hr.stored j u
  have hbl := (hr.lt b rfl).1
  have hlen : vals.length = n := by have := h1.1; omega
  refine ⟨⟨vals, h1.kept hg (.inr fun e => row_ne h1 hr rfl e), by simpa using h2, fun i u2 hu2 => ?_, h4⟩, hg, hbl⟩
  by_cases e : i = k
  · subst e
    rw [hvk] at hu2
    injection hu2 with hu2
    subst hu2
    refine ⟨l', ?_, ?_⟩
    · rw [List.getElem?_set_self (by rw [h2]; exact hk)]
    · rw [hl', hf]; exact hst
  · obtain ⟨l3, hl3, hr3⟩ := h3 i u2 hu2
    refine ⟨l3, ?_, hr3.kept hg ?_⟩
    · rw [List.getElem?_set_ne (fun e' => e e'.symm)]; exact hl3
    · rcases hb : u2.ownBlock with _ | q
      · exact .inl rfl
      · refine .inr fun e' => ?_
        rw [← hb] at e'
        exact h4 k i _ u2 (fun e2 => e e2.symm) hvk hu2 b rfl e'
/-- another row is put at k -/
theorem OS.put {g cap k : Nat} {l' : List Ver} {u u' : Value} {row : Option Nat} (h : OS w lo (.slice (some ⟨g, 0, none⟩) n cap) n C) (hk : k < n) (hc : w.cell? ⟨g, k, none⟩ = some u) (hg : w.grownBy w' row) (hrow : row = none ∨ row = u.ownBlock)
    (hu' : w'.ownsRow lo 43 5 u' l'.length (flat l')) (hnew : ∀ q, u'.ownBlock = some q → u.ownBlock = some q ∨ w.heap.size ≤ q) :
    OS (w'.setCell ⟨g, k, none⟩ u') lo (.slice (some ⟨g, 0, none⟩) n cap) n (C.set k l') := by
  obtain ⟨vals, h1, h2, h3, h4⟩ := h
  have hvk := vals_at h1 hk hc
  obtain ⟨l2, hl2, hr⟩ := h3 k _ hvk
  have hlen : vals.length = n := by have := h1.1; omega
  have hkept : ∀ {i : Nat} {u2 : Value} {e : TypeId} {size m2 : Nat} {xs : List Value}, w.ownsRow lo e size u2 m2 xs → (∀ q, u.ownBlock = some q → u2.ownBlock ≠ some q) → w'.ownsRow lo e size u2 m2 xs := by
    intro i u2 e size m2 xs ho hne
    refine ho.kept hg ?_
    rcases hb : u2.ownBlock with _ | q
    · exact .inl rfl
    · refine .inr fun e' => ?_
      rcases hrow with hr0 | hr0
      · rw [hr0] at e'; cases e'
      · rw [hr0] at e'
        exact hne q e'.symm hb
  have ho1 := hkept (i := 0) h1 (fun q hq => row_ne h1 hr hq)
  obtain ⟨hst, hg2⟩ := ho1.stored k u'
  have hin : ∀ {u2 : Value} {m2 : Nat} {xs : List Value}, w'.ownsRow lo 43 5 u2 m2 xs → (w'.setCell ⟨g, k, none⟩ u').ownsRow lo 43 5 u2 m2 xs := by
    intro u2 m2 xs ho
    refine ho.kept hg2 ?_
    rcases hb : u2.ownBlock with _ | q
    · exact .inl rfl
    · refine .inr fun e' => ?_
      injection e' with e'
      exact row_ne ho1 ho hb (by rw [e']; rfl)
  refine ⟨vals.set k u', hst, by simpa using h2, fun i u2 hu2 => ?_, fun i j u2 u3 hij hu2 hu3 q hq e => ?_⟩
  · rcases set_at hu2 with ⟨rfl, rfl, _⟩ | ⟨hne, hu⟩
    · exact ⟨l', by rw [List.getElem?_set_self (by rw [h2]; exact hk)], hin hu'⟩
    · obtain ⟨l3, hl3, hr3⟩ := h3 i u2 hu
      refine ⟨l3, by rw [List.getElem?_set_ne (fun e' => hne e'.symm)]; exact hl3, hin (hkept (i := 0) hr3 fun q hq => h4 k i u u2 (fun e => hne e.symm) hvk hu q hq)⟩
  · rcases set_at hu2 with ⟨rfl, rfl, _⟩ | ⟨hne2, hv2⟩
    · rcases set_at hu3 with ⟨e3, _, _⟩ | ⟨hne3, hv3⟩
      · exact hij e3.symm
      · obtain ⟨l3, _, hr3⟩ := h3 j u3 hv3
        rcases hnew q hq with h5 | h5
        · exact h4 i j u u3 hij hvk hv3 q h5 e
        · have := (hr3.lt q e).2
          omega
    · rcases set_at hu3 with ⟨rfl, rfl, _⟩ | ⟨hne3, hv3⟩
      · obtain ⟨l3, _, hr3⟩ := h3 i u2 hv2
        rcases hnew q e with h5 | h5
        · exact h4 j i u u2 (fun e => hij e.symm) hvk hv2 q h5 hq
        · have := (hr3.lt q hq).2
          omega
      · exact h4 i j u2 u3 hij hv2 hv3 q hq e
/-- a row is added at the end -/
theorem os_push {w0 : World} {vals : List Value} {v' : Value} {l : List Ver} {u : Value} (h1 : w0.ownsRow lo 37 1 v n vals) (h2 : C.length = n) (h3 : ∀ (i : Nat) (u : Value), vals[i]? = some u → ∃ l, C[i]? = some l ∧ w0.ownsRow lo 43 5 u l.length (flat l))
    (h4 : ∀ (i j : Nat) (u u' : Value), i ≠ j → vals[i]? = some u → vals[j]? = some u' → ∀ q, u.ownBlock = some q → u'.ownBlock ≠ some q) (hb : Below w0.heap.size w0 w) (hlo : lo ≤ w0.heap.size)
    (hu : w.ownsRow w0.heap.size 43 5 u l.length (flat l)) (ho : w'.ownsRow lo 37 1 v' (n + 1) (vals ++ [u])) (hg : w.grownBy w' v.ownBlock) : OS w' lo v' (n + 1) (C ++ [l]) := by
  have hlen : vals.length = n := by have := h1.1; omega
  have k0 : w0.grownBy w none := ⟨hb.os, hb.tape, hb.output, hb.size, fun k hk _ => hb.block k hk⟩
  have h1w : w.ownsRow lo 37 1 v n vals := h1.kept k0 (by cases v.ownBlock <;> simp)
  have up : ∀ {u2 : Value} {m : Nat} {xs : List Value} {lo2 : Nat}, w.ownsRow lo2 43 5 u2 m xs → w'.ownsRow lo2 43 5 u2 m xs := by
    intro u2 m xs lo2 hh
    refine hh.kept hg ?_
    rcases hq : u2.ownBlock with _ | q
    · exact .inl rfl
    · exact .inr fun e => row_ne h1w hh hq e.symm
  have hmore : w.ownsRow lo 43 5 u l.length (flat l) := ⟨hu.1, hu.2.imp id fun ⟨g, cap, cur, e, hb2, r⟩ => ⟨g, cap, cur, e, by omega, r⟩⟩
  refine ⟨vals ++ [u], ho, by simp [h2], fun i u2 hu2 => ?_, fun i j u2 u3 hij hu2 hu3 q hq e => ?_⟩
  · rcases Nat.lt_or_ge i n with hi | hi
    · rw [List.getElem?_append_left (by omega)] at hu2
      obtain ⟨l3, hl3, hr3⟩ := h3 i u2 hu2
      exact ⟨l3, by rw [List.getElem?_append_left (by omega)]; exact hl3, up (hr3.kept k0 (by cases u2.ownBlock <;> simp))⟩
    · have hi2 := lt_of_some hu2
      simp only [List.length_append, List.length_cons, List.length_nil] at hi2
      obtain rfl : i = n := by omega
      rw [List.getElem?_append_right (by omega)] at hu2
      simp only [hlen, Nat.sub_self, List.getElem?_cons_zero, Option.some.injEq] at hu2
      subst hu2
      exact ⟨l, by rw [List.getElem?_append_right (by omega)]; simp [h2], up hmore⟩
  · have one : ∀ {i : Nat} {u2 : Value}, (vals ++ [u])[i]? = some u2 → (i < n ∧ vals[i]? = some u2) ∨ (i = n ∧ u2 = u) := by
      intro i u2 h
      rcases Nat.lt_or_ge i n with hi | hi
      · rw [List.getElem?_append_left (by omega)] at h
        exact .inl ⟨hi, h⟩
      · have hi2 := lt_of_some h
        simp only [List.length_append, List.length_cons, List.length_nil] at hi2
        obtain rfl : i = n := by omega
        rw [List.getElem?_append_right (by omega)] at h
        simp only [hlen, Nat.sub_self, List.getElem?_cons_zero, Option.some.injEq] at h
        exact .inr ⟨rfl, h.symm⟩
    rcases one hu2 with ⟨hi, hv2⟩ | ⟨rfl, rfl⟩ <;> rcases one hu3 with ⟨hj, hv3⟩ | ⟨hj, rfl⟩
    · exact h4 i j u2 u3 hij hv2 hv3 q hq e
    · obtain ⟨l3, _, hr3⟩ := h3 i u2 hv2
      have := (hr3.lt q hq).2
      have := (hu.lt q e).1
      omega
    · obtain ⟨l3, _, hr3⟩ := h3 j u3 hv3
      have := (hr3.lt q e).2
      have := (hu.lt q hq).1
      omega
    · exact hij hj.symm
end
end Go.Proofs.YtigbknmiidhblaaGreatDoor.os
/- A store of the call's own whose memory lies in a set of blocks: read, written in place, a row put, a row added; appends that say where their row lies. -/
namespace Go.Proofs.YtigbknmiidhblaaGreatDoor.oq
open Go.ChangeShapes Go.WideShapes Go.ChangeAt Go.RowKit
open Go.Proofs.YtigbknmiidhblaaGreatDoor.sl Go.Proofs.YtigbknmiidhblaaGreatDoor.st Go.Proofs.YtigbknmiidhblaaGreatDoor.flat Go.Proofs.YtigbknmiidhblaaGreatDoor.os
open Go.Proofs.YtigbknmiidhblaaGreatDoor.el2 (new1)
set_option linter.unusedVariables false
set_option linter.unusedSimpArgs false
/-- the blocks of Q are as they were -/
structure Agr (Q : Nat → Prop) (w w' : World) : Prop where
  os : w'.os = w.os
  tape : w'.tape = w.tape
  output : w'.output = w.output
  size : w.heap.size ≤ w'.heap.size
  block : ∀ k, k < w.heap.size → Q k → w'.heap[k]? = w.heap[k]?
section
variable {w w' w'' : World} {Q Q' : Nat → Prop} {lo lo' n : Nat} {v : Value} {C : List (List Ver)}
theorem Agr.refl (Q : Nat → Prop) (w : World) : Agr Q w w := ⟨rfl, rfl, rfl, Nat.le_refl _, fun _ _ _ => rfl⟩
theorem Agr.trans (h : Agr Q w w') (h2 : Agr Q w' w'') : Agr Q w w'' := ⟨h2.os.trans h.os, h2.tape.trans h.tape, h2.output.trans h.output, Nat.le_trans h.size h2.size, fun k hk hq => (h2.block k (Nat.lt_of_lt_of_le hk h.size) hq).trans (h.block k hk hq)⟩
theorem Agr.mono (h : Agr Q w w') (hq : ∀ k, k < w.heap.size → Q' k → Q k) : Agr Q' w w' := ⟨h.os, h.tape, h.output, h.size, fun k hk hk2 => h.block k hk (hq k hk hk2)⟩
theorem Agr.of_below (h : Below w.heap.size w w') (Q : Nat → Prop) : Agr Q w w' := ⟨h.os, h.tape, h.output, h.size, fun k hk _ => h.block k hk⟩
theorem Agr.of_grown {row : Option Nat} (h : w.grownBy w' row) (hq : ∀ k, Q k → some k ≠ row) : Agr Q w w' := ⟨h.os, h.tape, h.output, h.size, fun k hk hk2 => h.block k hk (hq k hk2)⟩
theorem Agr.below {B : Nat} (h : Agr Q w w') (hB : B ≤ w.heap.size) (hq : ∀ k, k < B → Q k) : Below B w w' := ⟨h.os, h.tape, h.output, h.size, fun k hk => h.block k (by omega) (hq k hk)⟩
theorem Agr.set (h : Agr Q w w') {p : Addr} (u : Value) (hp : ¬ Q p.block) : Agr Q w (w'.setCell p u) := ⟨h.os, h.tape, h.output, by simpa [World.setCell] using h.size, fun k hk hq => (Below.heap_setCell w' p u k (fun e => hp (e ▸ hq))).trans (h.block k hk hq)⟩
theorem Agr.setNew (h : Agr Q w w') {p : Addr} (u : Value) (hp : w.heap.size ≤ p.block) : Agr Q w (w'.setCell p u) := ⟨h.os, h.tape, h.output, by simpa [World.setCell] using h.size, fun k hk hq => (Below.heap_setCell w' p u k (fun e => by omega)).trans (h.block k hk hq)⟩
theorem OffSet (w : World) (p : Addr) (u : Value) : Agr (fun q => q ≠ p.block) w (w.setCell p u) := ⟨rfl, rfl, rfl, by simp [World.setCell], fun k _ hq => Below.heap_setCell w p u k hq⟩
theorem Agr.alloc (h : Agr Q w w') (o : Obj) : Agr Q w (w'.alloc o) := h.trans (Agr.of_below (new1 w' o) Q)
/-- a store that is the call's own and lies in Q -/
def OQ (w : World) (Q : Nat → Prop) (v : Value) (n : Nat) (C : List (List Ver)) : Prop :=
  ∃ vals : List Value, w.ownsRow 0 37 1 v n vals ∧ C.length = n ∧ (∀ (i : Nat) (u : Value), vals[i]? = some u → ∃ l, C[i]? = some l ∧ w.ownsRow 0 43 5 u l.length (flat l)) ∧
    (∀ (i j : Nat) (u u' : Value), i ≠ j → vals[i]? = some u → vals[j]? = some u' → ∀ q, u.ownBlock = some q → u'.ownBlock ≠ some q) ∧
    (∀ q, v.ownBlock = some q → Q q) ∧ ∀ (i : Nat) (u : Value), vals[i]? = some u → ∀ q, u.ownBlock = some q → Q q
theorem own_of {e : TypeId} {size m : Nat} {u : Value} {xs : List Value} (h : w.ownsRow lo e size u m xs) (hk : ∀ q, u.ownBlock = some q → w'.heap[q]? = w.heap[q]?) : w'.ownsRow lo e size u m xs :=
  ⟨h.1, h.2.imp id fun ⟨g, cap, cur, e1, h1, h2, h3⟩ => ⟨g, cap, cur, e1, h1, (hk g (by rw [e1]; rfl)).trans h2, h3⟩⟩
theorem own_lo {e : TypeId} {size m : Nat} {u : Value} {xs : List Value} (h : w.ownsRow lo e size u m xs) (hk : ∀ q, u.ownBlock = some q → lo' ≤ q) : w.ownsRow lo' e size u m xs :=
  ⟨h.1, h.2.imp id fun ⟨g, cap, cur, e1, h1, h2, h3⟩ => ⟨g, cap, cur, e1, hk g (by rw [e1]; rfl), h2, h3⟩⟩
theorem OQ.of_os (h : OS w lo v n C) : OQ w (fun q => lo ≤ q ∧ q < w.heap.size) v n C := by
  obtain ⟨vals, h1, h2, h3, h4⟩ := h
  refine ⟨vals, own_lo h1 fun _ _ => Nat.zero_le _, h2, fun i u hu => ?_, h4, fun q hq => h1.lt q hq, fun i u hu q hq => ?_⟩
  · obtain ⟨l, hl, hr⟩ := h3 i u hu
    exact ⟨l, hl, own_lo hr fun _ _ => Nat.zero_le _⟩
  · obtain ⟨l, hl, hr⟩ := h3 i u hu
    exact hr.lt q hq
theorem OQ.os (h : OQ w Q v n C) (hq : ∀ q, Q q → lo ≤ q) : OS w lo v n C := by
  obtain ⟨vals, h1, h2, h3, h4, h5, h6⟩ := h
  refine ⟨vals, own_lo h1 fun q e => hq q (h5 q e), h2, fun i u hu => ?_, h4⟩
  obtain ⟨l, hl, hr⟩ := h3 i u hu
  exact ⟨l, hl, own_lo hr fun q e => hq q (h6 i u hu q e)⟩
theorem OQ.os0 (h : OQ w Q v n C) : OS w 0 v n C := h.os fun _ _ => Nat.zero_le _
theorem OQ.mono (h : OQ w Q v n C) (hq : ∀ q, q < w.heap.size → Q q → Q' q) : OQ w Q' v n C := by
  obtain ⟨vals, h1, h2, h3, h4, h5, h6⟩ := h
  refine ⟨vals, h1, h2, h3, h4, fun q e => hq q (h1.lt q e).2 (h5 q e), fun i u hu q e => ?_⟩
  obtain ⟨l, hl, hr⟩ := h3 i u hu
  exact hq q (hr.lt q e).2 (h6 i u hu q e)
theorem OQ.keep (h : OQ w Q v n C) (hk : ∀ k, k < w.heap.size → Q k → w'.heap[k]? = w.heap[k]?) : OQ w' Q v n C := by
  obtain ⟨vals, h1, h2, h3, h4, h5, h6⟩ := h
  refine ⟨vals, own_of h1 fun q e => hk q (h1.lt q e).2 (h5 q e), h2, fun i u hu => ?_, h4, h5, h6⟩
  obtain ⟨l, hl, hr⟩ := h3 i u hu
  exact ⟨l, hl, own_of hr fun q e => hk q (hr.lt q e).2 (h6 i u hu q e)⟩
theorem OQ.agr (h : OQ w Q v n C) (ha : Agr Q w w') : OQ w' Q v n C := h.keep ha.block
theorem OQ.below (h : OQ w Q v n C) (hb : Below w.heap.size w w') : OQ w' Q v n C := h.keep fun k hk _ => hb.block k hk
theorem OQ.len (h : OQ w Q v n C) : C.length = n := h.os0.len
theorem OQ.form (h : OQ w Q v n C) : ∃ A c, v = .slice A n c := by
  obtain ⟨vals, h1, _⟩ := h
  rcases h1.2 with ⟨rfl, rfl⟩ | ⟨g, cap, cur, rfl, _⟩
  · exact ⟨none, 0, rfl⟩
  · exact ⟨_, cap, rfl⟩
theorem OQ.rs (h : OQ w Q v n C) (hC : ∀ l ∈ C, l.length ≤ 140737488355328) {A : Option Addr} {c : Nat} (hv : v = .slice A n c) : Rs w w.heap.size A n C := h.os0.rs hC hv
/-- the row k of it -/
theorem OQ.at_ (h : OQ w Q v n C) {k : Nat} (hk : k < n) : ∃ g cap A m c l, v = .slice (some ⟨g, 0, none⟩) n cap ∧ Q g ∧ g < w.heap.size ∧ C[k]? = some l ∧ l.length = m ∧ w.cell? ⟨g, k, none⟩ = some (.slice A m c) ∧ w.frozen? ⟨g, k, none⟩ = false ∧ w.ownsRow 0 43 5 (.slice A m c) m (flat l) ∧ ∀ q, (Value.slice A m c).ownBlock = some q → Q q := by
  obtain ⟨g, cap, A, m, c, l, rfl, _, hlt, hl, hm, hc, hf, hr⟩ := h.os0.at_ hk
  obtain ⟨vals, h1, h2, h3, h4, h5, h6⟩ := h
  exact ⟨g, cap, A, m, c, l, rfl, h5 g rfl, hlt, hl, hm, hc, hf, hr, fun q hq => h6 k _ (vals_at h1 hk hc) q hq⟩
/-- a cell of the row k is written -/
theorem OQ.set {g cap k b m c j : Nat} {l l' : List Ver} {u : Value} (h : OQ w Q (.slice (some ⟨g, 0, none⟩) n cap) n C) (hk : k < n) (hc : w.cell? ⟨g, k, none⟩ = some (.slice (some ⟨b, 0, none⟩) m c)) (hl : C[k]? = some l) (hl' : l'.length = l.length) (hf : flat l' = (flat l).set j u) :
    OQ (w.setCell ⟨b, j, none⟩ u) Q (.slice (some ⟨g, 0, none⟩) n cap) n (C.set k l') := by
  obtain ⟨vals, h1, h2, h3, h4, h5, h6⟩ := h
  have hvk := vals_at h1 hk hc
  obtain ⟨l2, hl2, hr⟩ := h3 k _ hvk
  rw [hl] at hl2
  injection hl2 with hl2
  subst hl2
  have hm : m = l.length := by rcases hr.2 with ⟨e, _⟩ | ⟨_, _, _, e, _⟩ <;> · injection e with _ e2 _ <;> omega
  subst hm
  obtain ⟨hst, hg⟩ := hr.stored j u
  have hlen : vals.length = n := by have := h1.1; omega
  refine ⟨vals, h1.kept hg (.inr fun e => row_ne h1 hr rfl e), by simpa using h2, fun i u2 hu2 => ?_, h4, h5, h6⟩
  by_cases e : i = k
  · subst e
    rw [hvk] at hu2
    injection hu2 with hu2
    subst hu2
    refine ⟨l', ?_, ?_⟩
    · rw [List.getElem?_set_self (by rw [h2]; exact hk)]
    · rw [hl', hf]; exact hst
  · obtain ⟨l3, hl3, hr3⟩ := h3 i u2 hu2
    refine ⟨l3, ?_, hr3.kept hg ?_⟩
    · rw [List.getElem?_set_ne (fun e' => e e'.symm)]; exact hl3
    · rcases hb : u2.ownBlock with _ | q
      · exact .inl rfl
      · refine .inr fun e' => ?_
        rw [← hb] at e'
        exact h4 k i _ u2 (fun e2 => e e2.symm) hvk hu2 b rfl e'
/-- another row is put at k -/
theorem OQ.put {g cap k : Nat} {l' : List Ver} {u u' : Value} {row : Option Nat} (h : OQ w Q (.slice (some ⟨g, 0, none⟩) n cap) n C) (hk : k < n) (hc : w.cell? ⟨g, k, none⟩ = some u) (hg : w.grownBy w' row) (hrow : row = none ∨ row = u.ownBlock)
    (hu' : w'.ownsRow 0 43 5 u' l'.length (flat l')) (hnew : ∀ q, u'.ownBlock = some q → u.ownBlock = some q ∨ (w.heap.size ≤ q ∧ Q q)) :
    OQ (w'.setCell ⟨g, k, none⟩ u') Q (.slice (some ⟨g, 0, none⟩) n cap) n (C.set k l') := by
  have hq0 : ∃ vals : List Value, w.ownsRow 0 37 1 (.slice (some ⟨g, 0, none⟩) n cap) n vals ∧ ∀ (i : Nat) (u : Value), vals[i]? = some u → ∀ q, u.ownBlock = some q → Q q := by
    obtain ⟨vals, h1, h2, h3, h4, h5, h6⟩ := h
    exact ⟨vals, h1, h6⟩
  have hQg : Q g := by obtain ⟨vals, h1, h2, h3, h4, h5, h6⟩ := h; exact h5 g rfl
  have hos := OS.put h.os0 hk hc hg hrow hu' (fun q hq => (hnew q hq).imp id fun e => e.1)
  obtain ⟨vals', h1', h2', h3', h4'⟩ := hos
  obtain ⟨vals, h1, h6⟩ := hq0
  refine ⟨vals', h1', h2', h3', h4', fun q e => by injection e with e; exact e ▸ hQg, fun i u2 hu2 q hq => ?_⟩
  have hi : i < n := by have := lt_of_some hu2; have := h1'.1; omega
  have hc2 := h1'.cellAt (g := g) (cap := cap) i (by omega)
  rw [hu2] at hc2
  have hgne : row ≠ some g := by
    rcases hrow with e | e
    · rw [e]; simp
    · intro e2
      rw [e] at e2
      have hvk := vals_at h1 hk hc
      obtain ⟨vals3, k1, k2, k3, k4, k5, k6⟩ := h
      have hvk3 := vals_at k1 hk hc
      obtain ⟨l, hl, hr⟩ := k3 k _ hvk3
      exact row_ne k1 hr e2 rfl
  by_cases e : i = k
  · subst e
    have hsame : (w'.setCell ⟨g, i, none⟩ u').cell? ⟨g, i, none⟩ = some u' := by
      have hcw : w'.cell? ⟨g, i, none⟩ = w.cell? ⟨g, i, none⟩ := World.cell?_of_block (hg.block g (h1.lt g rfl).2 (fun e => hgne e.symm))
      rw [hc] at hcw
      exact st.set_same hcw
    rw [hsame] at hc2
    injection hc2 with hc2
    subst hc2
    rcases hnew q hq with e | e
    · exact h6 i u (vals_at h1 hk hc) q e
    · exact e.2
  · have hsame : (w'.setCell ⟨g, k, none⟩ u').cell? ⟨g, i, none⟩ = w'.cell? ⟨g, i, none⟩ := World.cell?_setCell_other _ _ _ _ (fun e' => by injection e' with _ e2 _; exact e e2.symm)
    rw [hsame, World.cell?_of_block (hg.block g (h1.lt g rfl).2 (fun e => hgne e.symm))] at hc2
    exact h6 i u2 (vals_at h1 hi hc2) q hq
end
/-! an append onto a row of one's own: the row lies where it lay, or in a new block -/
section
variable {P : Program} (w : World)
theorem run_append_at (t ty e : TypeId) (i : TypeInfo) (z : Value) (size bytes : Nat) (ht : P.underlying t = some (.slice e)) (hi : P.info? e = some i) (hz : i.zero = some z)
    (hsize : i.size = size) (hby : i.bytes = bytes) (hzs : z.cells.size = size) (hsz : 0 < size) (v : Value) (n : Nat) (xs : List Value) (hown : w.ownsRow 0 e size v n xs)
    (a : Addr) (m c : Nat) (news : List Value) (hl : news.length = m * size) (hnews : ∀ j u, news[j]? = some u → w.cell? (a.add j) = some u) (h1 : ∀ u ∈ news, u.oneCell' = true)
    (h63 : n + m ≤ maxLen) (hbytes : (n + m) * bytes ≤ 140737488355328) :
    ∃ v' w', (Builtin.append_ #[t, t] ty #[v, .slice (some a) m c]).run P w = .ok v' w' ∧ w'.ownsRow 0 e size v' (n + m) (xs ++ news) ∧ w.grownBy w' v.ownBlock ∧ ∀ q, v'.ownBlock = some q → v.ownBlock = some q ∨ w.heap.size ≤ q := by
  obtain ⟨v', w', hr, ho, hg, hnil⟩ := run_append_own (P := P) w 0 t ty e i z size bytes ht hi hz hsize hby hzs hsz v n xs hown a m c news hl hnews h1 h63 hbytes (Nat.zero_le _)
  refine ⟨v', w', hr, ho, hg, ?_⟩
  have hsmall : n + m ≤ 9223372036854775807 := by simp only [maxLen] at h63; omega
  have key : ∀ {x : Value} {wx : World}, (Builtin.append_ #[t, t] ty #[v, .slice (some a) m c]).run P w = .ok x wx → v' = x := by
    intro x wx h
    rw [hr] at h
    injection h
  rcases hown.2 with ⟨rfl, rfl⟩ | ⟨g, cap, cur, rfl, hbg, hgg, hnc, hcm, hcs, htake⟩
  · by_cases hm : m = 0
    · rw [hnil.2 ⟨rfl, hm⟩]
      intro q hq
      cases hq
    · have h2 := run_append_nil (P := P) w t ty e i z ht hi hz a m c news (by rw [hsize]; exact hl) hnews (by omega) (by omega) (by rw [hby]; have hb := hbytes; simp only [Nat.zero_add] at hb; omega)
      rw [key h2]
      intro q hq
      injection hq with hq
      exact .inr (by rw [← hq]; exact Nat.le_refl _)
  · by_cases hroom : n + m ≤ cap
    · obtain ⟨w2, h2, _⟩ := run_append_fits (P := P) w 0 t ty e i size ht hi hsize g n cap xs hown a m c news hl hnews h1 hroom
      rw [key h2]
      exact fun q hq => .inl hq
    · have h2 := run_append_grow (P := P) w t ty e i z ht hi hz ⟨g, 0, none⟩ n cap xs (by rw [hsize]; exact hown.1) (hown.cells (g := g) rfl) a m c news (by rw [hsize]; exact hl) hnews (by omega) (by omega) (growslice_fits (by omega) (by rw [hby]; exact hbytes))
      rw [key h2]
      intro q hq
      injection hq with hq
      exact .inr (by rw [← hq]; exact Nat.le_refl _)
end
end Go.Proofs.YtigbknmiidhblaaGreatDoor.oq
/- Appends of versions onto a row of one's own; copies of a list of versions: the library's slices.Clone, the model's l3Copy. -/
namespace Go.Proofs.YtigbknmiidhblaaGreatDoor.av
open Go.ChangeShapes Go.WideShapes Go.ChangeAt Go.RowKit
open Go.Proofs.YtigbknmiidhblaaGreatDoor.sl Go.Proofs.YtigbknmiidhblaaGreatDoor.st Go.Proofs.YtigbknmiidhblaaGreatDoor.flat Go.Proofs.YtigbknmiidhblaaGreatDoor.os Go.Proofs.YtigbknmiidhblaaGreatDoor.oq
open Go.Proofs.YtigbknmiidhblaaGreatDoor.el2 (new1)
open Go.Proofs.YtigbknmiidhblaaGreatDoor.bx (own_more)
set_option linter.unusedVariables false
set_option linter.unusedSimpArgs false
set_option linter.constructorNameAsVariable false
theorem flat_app (l m : List Ver) : flat (l ++ m) = flat l ++ flat m := by simp [flat]
theorem flat_one : ∀ (l : List Ver), ∀ u ∈ flat l, u.oneCell' = true
  | [], u, hu => by simp [flat] at hu
  | x :: r, u, hu => by
    have e : flat (x :: r) = [.int .i64 x.a, .int .i64 x.b, .int .i64 x.c, .int .i64 x.d, .int .i64 x.e] ++ flat r := by simp [flat]
    rw [e] at hu
    rcases List.mem_append.1 hu with hu | hu
    · exact one5 x u hu
    · exact flat_one r u hu
theorem cells_at {w : World} {b : Nat} : ∀ (l : List Ver) (o : Nat), (∀ k x, l[k]? = some x → At w b (o + k * 5) x) → ∀ (j : Nat) (u : Value), (flat l)[j]? = some u → w.cell? ⟨b, o + j, none⟩ = some u
  | [], o, h, j, u, hu => by simp [flat] at hu
  | x :: r, o, h, j, u, hu => by
    have e : flat (x :: r) = [.int .i64 x.a, .int .i64 x.b, .int .i64 x.c, .int .i64 x.d, .int .i64 x.e] ++ flat r := by simp [flat]
    rw [e] at hu
    rcases Nat.lt_or_ge j 5 with hj | hj
    · rw [List.getElem?_append_left (by simpa using hj)] at hu
      obtain ⟨a0, a1, a2, a3, a4⟩ := h 0 x rfl
      simp only [Nat.zero_mul, Nat.add_zero] at a0 a1 a2 a3 a4
      match j, hj with
      | 0, _ => injection hu with hu; subst hu; exact a0
      | 1, _ => injection hu with hu; subst hu; exact a1
      | 2, _ => injection hu with hu; subst hu; exact a2
      | 3, _ => injection hu with hu; subst hu; exact a3
      | 4, _ => injection hu with hu; subst hu; exact a4
    · rw [List.getElem?_append_right (by simpa using hj)] at hu
      have := cells_at r (o + 5) (fun k y hy => by
        have := h (k + 1) y (by simpa using hy)
        rw [show o + 5 + k * 5 = o + (k + 1) * 5 by omega]
        exact this) (j - 5) u (by simpa using hu)
      rw [show o + j = o + 5 + (j - 5) by omega]
      exact this
theorem add_off (b o j : Nat) : (⟨b, o, none⟩ : Addr).add j = ⟨b, o + j, none⟩ := by unfold Addr.add; split <;> simp_all
/-- an append of the versions that a slice reads as, onto a row of one's own -/
theorem run_append_v (w : World) {v : Value} {k n c B : Nat} {A : Option Addr} {xs l : List Ver} (hown : w.ownsRow 0 43 5 v k (flat xs)) (hv : Vs w B A n l) (hk : k + n ≤ 2097152) :
    ∃ v' w', (Builtin.append_ #[37, 37] 37 #[v, .slice A n c]).run Tryz.prog w = .ok v' w' ∧ w'.ownsRow 0 43 5 v' (k + n) (flat (xs ++ l)) ∧ w.grownBy w' v.ownBlock ∧ ∀ q, v'.ownBlock = some q → v.ownBlock = some q ∨ w.heap.size ≤ q := by
  obtain ⟨i, hi, hz, hs, hb⟩ := info_parts ver_info
  have hlen := hv.1
  rcases Nat.eq_zero_or_pos n with h0 | h0
  · subst h0
    obtain rfl : l = [] := List.eq_nil_of_length_eq_zero hlen
    refine ⟨v, w, ?_, by simpa using hown, ⟨rfl, rfl, rfl, Nat.le_refl _, fun _ _ _ => rfl⟩, fun q hq => .inl hq⟩
    cases A with
    | none =>
      rcases hown.2 with ⟨rfl, rfl⟩ | ⟨g, cap, cur, rfl, _, _, hnc, _⟩
      · simp [Builtin.append_, run_underlying Tryz.underlying37, sizeOf, typeInfo, hi, Builtin.lenOf, Builtin.firstCells]
      · simp [Builtin.append_, run_underlying Tryz.underlying37, sizeOf, typeInfo, hi, Builtin.lenOf, Builtin.firstCells, storeCells, hnc]
    | some a =>
      have hf := run_firstCells_some (P := Tryz.prog) w i.size 0 a 0 c [] (by simp) (by simp)
      rcases hown.2 with ⟨rfl, rfl⟩ | ⟨g, cap, cur, rfl, _, _, hnc, _⟩
      · simp [Builtin.append_, run_underlying Tryz.underlying37, sizeOf, typeInfo, hi, Builtin.lenOf, hf]
      · simp [Builtin.append_, run_underlying Tryz.underlying37, sizeOf, typeInfo, hi, Builtin.lenOf, hf, storeCells, hnc]
  · obtain ⟨b, o, rfl, _, hx⟩ := hv.2 h0
    have hr := run_append_at (P := Tryz.prog) w 37 37 43 i _ 5 40 Tryz.underlying37 hi hz hs hb rfl (by decide) v k (flat xs) hown ⟨b, o, none⟩ n c (flat l) (by rw [flat_len, hlen]) (fun j u hu => by rw [add_off]; exact cells_at l o hx j u hu) (flat_one l) (by unfold maxLen; omega) (by omega)
    rw [← flat_app] at hr
    exact hr
/-- .. of one version that lies in a block of its own -/
theorem one_vs {w : World} {q : Nat} {m : Ver} (h : At w q 0 m) : Vs w (q + 1) (some ⟨q, 0, none⟩) 1 [m] := ⟨rfl, fun _ => ⟨q, 0, rfl, by omega, fun k z hz => by
  match k, hz with
  | 0, hz => injection hz with hz; subst hz; exact h⟩⟩
theorem own_empty (w : World) : (w.alloc (.cells #[] 43)).ownsRow 0 43 5 (.slice (some ⟨w.heap.size, 0, none⟩) 0 0) 0 (flat []) := by
  have := World.ownsRow_made w (base := 0) (e := 43) (size := 5) #[] 0 (Nat.zero_le _) (by unfold maxLen; omega) rfl
  simpa [flat] using this
/-- an append of a list onto an empty row just laid -/
theorem app_empty (w : World) {A : Option Addr} {n c B : Nat} {l : List Ver} (hv : Vs w B A n l) (hn : n ≤ 2097152) (hB : B ≤ w.heap.size) :
    ∃ A' c' w', (Builtin.append_ #[37, 37] 37 #[.slice (some ⟨w.heap.size, 0, none⟩) 0 0, .slice A n c]).run Tryz.prog (w.alloc (.cells #[] 43)) = .ok (.slice A' n c') w' ∧ w'.ownsRow w.heap.size 43 5 (.slice A' n c') n (flat l) ∧ Below w.heap.size w w' := by
  obtain ⟨v', w', hr, ho, hg, hq⟩ := run_append_v (w.alloc (.cells #[] 43)) (own_empty w) (hv.below (below_le (new1 w _) hB)) (c := c) (by omega)
  have hb1 := (new1 w (.cells #[] 43)).grown hg (by simp) (fun k hk => by simp [Value.ownBlock] at hk; omega)
  rw [Nat.zero_add, List.nil_append] at ho
  obtain ⟨A', c', rfl, _⟩ := own_vs ho hv.1
  refine ⟨A', c', w', hr, own_lo ho fun q e => ?_, hb1⟩
  rcases hq q e with h | h
  · simp [Value.ownBlock] at h; omega
  · simp at h; omega
/-- a copy of a list of versions in memory of its own -/
def CopV (n : Nat) (l : List Ver) (w : World) (e : Ending) (w' : World) : Prop :=
  ∃ A' c', e = .returned (.slice A' n c') ∧ w'.ownsRow w.heap.size 43 5 (.slice A' n c') n (flat l) ∧ Below w.heap.size w w'
set_option maxRecDepth 100000 in
set_option maxHeartbeats 800000 in
theorem clone_v {w : World} {B n c : Nat} {A : Option Addr} {l : List Ver} (hn : n ≤ 2097152) (h1 : Vs w B A n l) (hB : B ≤ w.heap.size) :
    Calls Tryz.prog 70 #[.slice A n c] w (CopV n l w) := by
  have H1 := Lib.hid h1
  clear h1
  have q22 : ∀ (w : World) (a : Option Addr) (n c : Nat), (binOp .eql 37 (.slice a n c) (.slice none 0 0)).run Tryz.prog w = .ok (.bool a.isNone) w := fun w a n c => Go.run_eql_slice_nil w _ _ a n c Tryz.underlying37
  go_enter Tryz.func70, Tryz.ntmps70
  cases A with
  | none =>
    go_wp2_with fail
    go_ret
    obtain rfl : n = 0 := by
      rcases Nat.eq_zero_or_pos n with h | h
      · exact h
      · obtain ⟨_, _, e, _⟩ := H1.out.2 h; cases e
    obtain rfl : l = [] := List.eq_nil_of_length_eq_zero H1.out.1
    exact ⟨_, _, rfl, World.ownsRow_nil _ _ _ _, Below.refl _ _⟩
  | some a =>
    obtain ⟨A', c', w', hr, ho, hb1⟩ := app_empty (c := c) w H1.out hn hB
    obtain ⟨ab, ao, asp⟩ := a
    go_wp2_with (at_builtin; refine Lib.wpList_append_run _ rfl _ _ 37 37 rfl _ _ rfl rfl _ _ hr ?_)
    go_ret
    exact ⟨_, _, rfl, ho, hb1⟩
set_option maxRecDepth 100000 in
set_option maxHeartbeats 800000 in
theorem spec_copyv {w : World} {B n c : Nat} {A : Option Addr} {l : List Ver} (hn : n ≤ 2097152) (h1 : Vs w B A n l) (hB : B ≤ w.heap.size) :
    Calls Tryz.prog 84 #[.slice A n c] w (CopV n l w) := by
  obtain ⟨A', c', w', hr, ho, hb1⟩ := app_empty (c := c) w h1 hn hB
  go_enter Tryz.func84, Tryz.ntmps84
  go_wp2_with (at_builtin; refine Lib.wpList_append_run _ rfl _ _ 37 37 rfl _ _ rfl rfl _ _ hr ?_)
  go_ret
  exact ⟨_, _, rfl, ho, hb1⟩
end Go.Proofs.YtigbknmiidhblaaGreatDoor.av
/- The program's copyStore: a store of the call's own that reads as the same list of lists. -/
namespace Go.Proofs.YtigbknmiidhblaaGreatDoor.cs
open Go.ChangeShapes Go.WideShapes Go.ChangeAt Go.RowKit
open Go.Proofs.YtigbknmiidhblaaGreatDoor.sl Go.Proofs.YtigbknmiidhblaaGreatDoor.st Go.Proofs.YtigbknmiidhblaaGreatDoor.flat Go.Proofs.YtigbknmiidhblaaGreatDoor.os Go.Proofs.YtigbknmiidhblaaGreatDoor.oq Go.Proofs.YtigbknmiidhblaaGreatDoor.av
open Go.Proofs.YtigbknmiidhblaaGreatDoor.el2 (new1)
open Go.Proofs.YtigbknmiidhblaaGreatDoor.vers (new2)
open Go.Proofs.YtigbknmiidhblaaGreatDoor.bx (own_more)
set_option linter.unusedVariables false
set_option linter.unusedSimpArgs false
set_option linter.constructorNameAsVariable false
theorem grown_set (w : World) (p : Addr) (u : Value) : w.grownBy (w.setCell p u) (some p.block) := ⟨rfl, rfl, rfl, by simp [World.setCell], fun k _ hk => Below.heap_setCell _ _ _ _ (fun e => hk (by rw [e]))⟩
/-- what a copy of a store hands back -/
def CopS (N : Nat) (C : List (List Ver)) (w : World) (e : Ending) (w' : World) : Prop :=
  ∃ A c, e = .returned (.agg #[.slice A N c]) ∧ OS w' w.heap.size (.slice A N c) N C ∧ Below w.heap.size w w'
theorem toList_made (n : Nat) : (madeCells #[.slice none 0 0] n).toList = List.replicate n (.slice none 0 0) := by
  apply List.ext_getElem
  · simp [madeCells]
  · intro i h1 h2
    simp [madeCells, Nat.mod_one]
/-- a row of nil rows, just made, is a store of empty chains -/
theorem os_made (w : World) {lo n : Nat} (hlo : lo ≤ w.heap.size) (hn : n ≤ 2097152) : OS (w.alloc (.cells (madeCells #[.slice none 0 0] n) 37)) lo (.slice (some ⟨w.heap.size, 0, none⟩) n n) n (List.replicate n []) := by
  have ho := World.ownsRow_lit (base := lo) (e := 37) (size := 1) w (madeCells #[.slice none 0 0] n) n hlo (by unfold maxLen; omega) (by simp [size_madeCells])
  rw [toList_made] at ho
  refine ⟨_, ho, by simp, fun i u hu => ?_, fun i j u u' _ hu _ q hq => ?_⟩
  · rw [List.getElem?_replicate] at hu
    split at hu
    · rename_i hi
      injection hu with hu
      subst hu
      exact ⟨[], by rw [List.getElem?_replicate, if_pos hi], World.ownsRow_nil _ _ _ _⟩
    · cases hu
  · rw [List.getElem?_replicate] at hu
    split at hu
    · injection hu with hu
      subst hu
      cases hq
    · cases hu
theorem take_put {C : List (List Ver)} {k n : Nat} {l : List Ver} (hC : C.length = n) (hl : C[k]? = some l) : (C.take k ++ List.replicate (n - k) []).set k l = C.take (k + 1) ++ List.replicate (n - (k + 1)) [] := by
  have hk := Go.Proofs.YtigbknmiidhblaaGreatDoor.os.lt_of_some hl
  rw [List.set_append_right _ _ (by rw [List.length_take]; omega), List.length_take, Nat.min_eq_left (by omega), Nat.sub_self, show n - k = (n - (k + 1)) + 1 by omega, List.replicate_succ, List.set_cons_zero, List.take_add_one, hl]
  simp
set_option maxRecDepth 100000 in
set_option maxHeartbeats 1600000 in
theorem impl_copys {w : World} {B N cN : Nat} {D : Option Addr} {C : List (List Ver)} (hN : N ≤ 2097152) (hC : ∀ l ∈ C, l.length ≤ 2097152) (h3 : Rs w B D N C) (hB : B ≤ w.heap.size) :
    Calls Tryz.prog 31 #[.agg #[.slice D N cN]] w (CopS N C w) := by
  have H3 := Lib.hid h3
  have hCN := h3.1
  have HC := Lib.hid hC
  have hmk := make_rows N hN
  clear h3 hC
  go_enter Tryz.func31, Tryz.ntmps31
  go_wp2_with fail
  have z0 := up (.cells #[.slice none 0 0] 26) (one_cell w (.slice D N cN) 26) (by simp)
  have z1 := one_cell (w.alloc (.cells #[.slice D N cN] 26)) (.slice none 0 0) 26
  have f1 := one_free (w.alloc (.cells #[.slice D N cN] 26)) (.slice none 0 0) 26
  have hb0 := new2 w (.cells #[.slice D N cN] 26) (.cells #[.slice none 0 0] 26)
  have hs0 : ((w.alloc (.cells #[.slice D N cN] 26)).alloc (.cells #[.slice none 0 0] 26)).heap.size = w.heap.size + 1 + 1 := by simp
  simp only [World.size_alloc] at z1 f1
  generalize (w.alloc _).alloc _ = w0 at z0 z1 f1 hb0 hs0 ⊢
  have ho0 := os_made w0 (lo := w.heap.size + 1 + 1) (n := N) (by omega) hN
  have y0 := up (.cells (madeCells #[.slice none 0 0] N) 37) z0 (by simp; omega)
  have y1 := up (.cells (madeCells #[.slice none 0 0] N) 37) z1 (by simp; omega)
  have g1 := free_up (.cells (madeCells #[.slice none 0 0] N) 37) f1 (by simp; omega)
  have hb1 := hb0.trans ((new1 w0 (.cells (madeCells #[.slice none 0 0] N) 37)).mono (by omega))
  have hs1 : (w0.alloc (.cells (madeCells #[.slice none 0 0] N) 37)).heap.size = w.heap.size + 3 := by simp; omega
  rw [hs0] at ho0
  generalize w0.alloc _ = w1 at ho0 y0 y1 g1 hb1 hs1 ⊢
  clear z0 z1 f1 hb0 hmk
  have O0 := Lib.hid ho0
  clear ho0
  go_loopw [13] (fun i wr => ∃ k : Nat, k ≤ N ∧ i = .int .i64 k ∧ OS wr (w.heap.size + 1 + 1) (.slice (some ⟨w.heap.size + 1 + 1, 0, none⟩) N N) N (C.take k ++ List.replicate (N - k) []) ∧ wr.cell? ⟨w.heap.size, 0, none⟩ = some (.slice D N cN) ∧ wr.cell? ⟨w.heap.size + 1, 0, none⟩ = some (.slice none 0 0) ∧ wr.frozen? ⟨w.heap.size + 1, 0, none⟩ = false ∧ Below w.heap.size w wr ∧ w.heap.size + 3 ≤ wr.heap.size) (fun i _ => N - (intOf i).toNat)
  case atStart => exact ⟨0, by omega, rfl, by simpa using O0.out, y0, y1, g1, hb1, by omega⟩
  case round =>
    obtain ⟨k, hk, rfl, ho, c0, c1, fz, hb, hsz⟩ := hrel
    have O := Lib.hid ho
    have HB := Lib.hid hb
    clear y0 y1 g1 hb1 hs1 O0 ho hb
    by_cases hlt : k < N
    · have t : decide ((k : Int) < (N : Int)) = true := decide_eq_true (by omega)
      obtain ⟨b2, o2, l, A', n', c', rfl, hb2, hl, d0, hn', hv⟩ := (H3.out.below (below_le HB.out hB)).at_ hlt
      have HL := Lib.hid hl
      have HV := Lib.hid hv
      have hl2 : n' ≤ 2097152 := by have := HC.out l (List.mem_of_getElem? hl); rw [hv.1] at this; exact this
      have C0 := Lib.hid c0
      have C1 := Lib.hid c1
      have FZ := Lib.hid fz
      clear hl hv
      go_wp2_with fail
      refine (clone_v hl2 HV.out (by omega)).mono ?_
      rintro e W1 ⟨A9, c9, rfl, hr, hb9⟩
      have hs9 := hb9.size
      obtain ⟨g9, cap9, A8, m8, c8, l8, he8, hl8, hg8, hC8, hm8, hc8, hf8, hr8⟩ := O.out.at_ hlt
      injection he8 with he8 _ he9
      injection he8 with he8
      injection he8 with he8
      subst he8 he9
      have hput := OS.put O.out hlt hc8 (w' := W1) (row := none) ⟨hb9.os, hb9.tape, hb9.output, hb9.size, fun k hk _ => hb9.block k hk⟩ (.inl rfl) (u' := .slice A9 n' c9) (l' := l) (by rw [HV.out.1]; exact own_more hr (by omega)) (fun q hq => .inr (hr.lt q hq).1)
      rw [take_put hCN HL.out] at hput
      have P9 := Lib.hid hput
      have d8 := (hb9.cell (p := ⟨w.heap.size + 1 + 1, k, none⟩) (by simp; omega)).trans hc8
      have e8 := (hb9.frozen (p := ⟨w.heap.size + 1 + 1, k, none⟩) (by simp; omega)).trans hf8
      have D0 := Lib.hid (set_other (a := ⟨w.heap.size + 1 + 1, k, none⟩) (v := .slice A9 n' c9) ((hb9.cell (p := ⟨w.heap.size, 0, none⟩) (by simp; omega)).trans C0.out) (show w.heap.size + 1 + 1 ≠ w.heap.size by omega))
      have D1 := Lib.hid (set_other (a := ⟨w.heap.size + 1 + 1, k, none⟩) (v := .slice A9 n' c9) ((hb9.cell (p := ⟨w.heap.size + 1, 0, none⟩) (by simp; omega)).trans C1.out) (show w.heap.size + 1 + 1 ≠ w.heap.size + 1 by omega))
      have E1 := Lib.hid (set_free (a := ⟨w.heap.size + 1 + 1, k, none⟩) (v := .slice A9 n' c9) ((hb9.frozen (p := ⟨w.heap.size + 1, 0, none⟩) (by simp; omega)).trans FZ.out))
      have B9 := Lib.hid ((HB.out.trans (hb9.mono (by omega))).setCell (p := ⟨w.heap.size + 1 + 1, k, none⟩) (show w.heap.size ≤ w.heap.size + 1 + 1 by omega) (.slice A9 n' c9))
      have S9 : w.heap.size + 3 ≤ (W1.setCell ⟨w.heap.size + 1 + 1, k, none⟩ (.slice A9 n' c9)).heap.size := by simp [World.setCell]; omega
      clear hput hr hb9 hr8 hc8 hf8 hl8 hC8 hm8 hg8 c0 c1 fz
      go_wp2_with fail
      go_roundw
      case rel => exact ⟨k + 1, by omega, by go_num, P9.out, D0.out, D1.out, E1.out, B9.out, S9⟩
      case measure => simp [intOf]; omega
    · have t : decide ((k : Int) < (N : Int)) = false := decide_eq_false (by omega)
      obtain rfl : N = k := by omega
      go_wp2_with fail
      have hb := HB.out.setCell (p := ⟨w.heap.size + 1, 0, none⟩) (by simp) (.slice (some ⟨w.heap.size + 1 + 1, 0, none⟩) N N)
      have e1 := set_same (v := .slice (some ⟨w.heap.size + 1 + 1, 0, none⟩) N N) c1
      have ho := O.out.grown (row := some (w.heap.size + 1)) (w' := wr.setCell ⟨w.heap.size + 1, 0, none⟩ (.slice (some ⟨w.heap.size + 1 + 1, 0, none⟩) N N)) (grown_set _ _ _) (fun q hq => by injection hq with hq; omega)
      generalize wr.setCell _ _ = Wf at hb e1 ho ⊢
      refine bodyPost_ret (v := .agg #[.slice (some ⟨w.heap.size + 1 + 1, 0, none⟩) N N]) (by simp [results, Tryz.results31, go_sem, e1]) rfl ⟨_, _, rfl, ?_, hb⟩
      rw [Nat.sub_self, List.replicate_zero, List.append_nil, List.take_of_length_le (by omega)] at ho
      exact ho.more (by omega)
end Go.Proofs.YtigbknmiidhblaaGreatDoor.cs
/- Chapter 9, plain mathematics: what a commit makes of a store and of a transaction. -/
namespace Go.Proofs.YtigbknmiidhblaaGreatDoor.ct
open Go.Proofs.YtigbknmiidhblaaGreatDoor.el2 Go.Proofs.YtigbknmiidhblaaGreatDoor.tx Go.Proofs.YtigbknmiidhblaaGreatDoor.seq Go.Proofs.YtigbknmiidhblaaGreatDoor.tv Go.Proofs.YtigbknmiidhblaaGreatDoor.tf Go.Proofs.YtigbknmiidhblaaGreatDoor.rx Go.Proofs.YtigbknmiidhblaaGreatDoor.rl Go.Proofs.YtigbknmiidhblaaGreatDoor.rh Go.Proofs.YtigbknmiidhblaaGreatDoor.last Go.Proofs.YtigbknmiidhblaaGreatDoor.em
open Go.Proofs.YtigbknmiidhblaaGreatDoor.sl (Ver)
open Go.Proofs.YtigbknmiidhblaaGreatDoor.val (stB okL okL_ch_of st_ok st_six)
open Go.Proofs.YtigbknmiidhblaaGreatDoor.find (fndI lastV)
open Go.Proofs.YtigbknmiidhblaaGreatDoor.ch (chB ch_of ch_yes ChP okV fol)
set_option linter.unusedVariables false
set_option linter.unusedSimpArgs false
/-- a version that is read at the stamp -/
def rdV (z : Int) (v : Ver) : Ver := ⟨v.a, v.b, v.c, max v.d z, v.e⟩
/-- a version that is overwritten -/
def suV (h : Int) (v : Ver) : Ver := ⟨v.a, v.b, v.c, v.d, h⟩
/-- the version that a write installs -/
def nwV (i z : Int) (m : E2) : Ver := ⟨i, m.b, z, z, 1000⟩
/-- the row with its element j changed -/
def atJ (f : Ver → Ver) (l : List Ver) (j : Nat) : List Ver := l.set j (f (l.getD j default))
/-- a chain with the version created at c read -/
def rdL (z c : Int) (l : List Ver) : List Ver := atJ (rdV z) l (fndI c l 0).toNat
/-- a chain with a version appended -/
def wrL (h : Int) (v : Ver) (l : List Ver) : List Ver := atJ (suV h) l (l.length - 1) ++ [v]
/-- the store with the row k changed -/
def onK (f : List Ver → List Ver) (C : List (List Ver)) (k : Int) : List (List Ver) := C.set k.toNat (f (chOf C k))
def rdC (z : Int) (C : List (List Ver)) (m : E2) : List (List Ver) := onK (rdL z m.b) C m.a
def wrC (i z h : Int) (C : List (List Ver)) (m : E2) : List (List Ver) := onK (wrL h (nwV i z m)) C m.a
def rdK (z : Int) (C : List (List Ver)) (R : List E2) (k : Nat) : List (List Ver) := (R.take k).foldl (rdC z) C
def wrK (i z h : Int) (C : List (List Ver)) (S : List E2) (k : Nat) : List (List Ver) := (S.take k).foldl (wrC i z h) C
/-- the store behind the commit -/
def insC (C : List (List Ver)) (i z h : Int) (R S : List E2) : List (List Ver) := wrK i z h (rdK z C R R.length) S S.length
/-- no chain would be too long -/
def fitB (C : List (List Ver)) (S : List E2) : Bool := S.all fun m => decide ((chOf C m.a).length < 50)
noncomputable def cmB (C : List (List Ver)) (x : Hd) (R S : List E2) (z : Int) : Bool := mayB C x R S z && fitB C S
noncomputable def cmC (C : List (List Ver)) (x : Hd) (R S : List E2) (z : Int) : List (List Ver) := if cmB C x R S z = true then insC C x.i z (fwH C x R S z) R S else C
noncomputable def cmX (C : List (List Ver)) (x : Hd) (R S : List E2) (z : Int) : Hd := if cmB C x R S z = true then ⟨x.i, x.s, 2, x.b, fwL C x R S z, fwH C x R S z, z⟩ else x
section
variable {C : List (List Ver)} {x : Hd} {R S : List E2} {z h i : Int} {l : List Ver}
theorem rdK_step {k : Nat} {y : E2} (hx : R[k]? = some y) : rdK z C R (k + 1) = rdC z (rdK z C R k) y := by
  unfold rdK
  rw [List.take_add_one, hx]
  simp [List.foldl_append]
theorem wrK_step {k : Nat} {y : E2} (hx : S[k]? = some y) : wrK i z h C S (k + 1) = wrC i z h (wrK i z h C S k) y := by
  unfold wrK
  rw [List.take_add_one, hx]
  simp [List.foldl_append]
theorem atJ_len (f : Ver → Ver) (l : List Ver) (j : Nat) : (atJ f l j).length = l.length := by simp [atJ]
theorem atJ_at {f : Ver → Ver} {l : List Ver} {j : Nat} {v : Ver} (hv : l[j]? = some v) : atJ f l j = l.set j (f v) := by simp [atJ, List.getD, hv]
theorem atJ_get {f : Ver → Ver} {l : List Ver} {j k : Nat} {u : Ver} (hu : (atJ f l j)[k]? = some u) : ∃ v, l[k]? = some v ∧ u = (if k = j then f v else v) := by
  have hk : k < l.length := by have := lt_get hu; rw [atJ_len] at this; exact this
  refine ⟨l[k], List.getElem?_eq_getElem hk, ?_⟩
  unfold atJ at hu
  rw [List.getElem?_set] at hu
  by_cases e : j = k
  · subst e
    rw [if_pos rfl, if_pos hk] at hu
    injection hu with hu
    rw [if_pos rfl, ← hu]
    simp [List.getD, List.getElem?_eq_getElem hk]
  · rw [if_neg e, List.getElem?_eq_getElem hk] at hu
    injection hu with hu
    rw [if_neg (fun e' => e e'.symm)]
    exact hu.symm
theorem onK_len (f : List Ver → List Ver) (C : List (List Ver)) (k : Int) : (onK f C k).length = C.length := by simp [onK]
theorem chOf_onK {f : List Ver → List Ver} {C : List (List Ver)} {k k' : Int} (h0 : 0 ≤ k) (h0' : 0 ≤ k') (hk : k.toNat < C.length) : chOf (onK f C k) k' = if k' = k then f (chOf C k) else chOf C k' := by
  by_cases e : k' = k
  · subst e
    rw [if_pos rfl]
    simp [chOf, onK, List.getD, List.getElem?_set_self hk]
  · rw [if_neg e]
    have hne : k.toNat ≠ k'.toNat := by omega
    simp [chOf, onK, List.getD, List.getElem?_set_ne hne]
/-! what a chain keeps when it is read: all but the readers -/
/-- the same but for the readers, which are between the old one and z -/
def Like (z : Int) (l l' : List Ver) : Prop := l'.length = l.length ∧ ∀ (k : Nat) (v v' : Ver), l[k]? = some v → l'[k]? = some v' → v'.a = v.a ∧ v'.b = v.b ∧ v'.c = v.c ∧ v'.e = v.e ∧ v.d ≤ v'.d ∧ (v'.d = v.d ∨ v'.d ≤ z)
theorem Like.refl (z : Int) (l : List Ver) : Like z l l := ⟨rfl, fun k v v' h h' => by
  rw [h] at h'
  injection h' with h'
  subst h'
  exact ⟨rfl, rfl, rfl, rfl, Int.le_refl _, .inl rfl⟩⟩
theorem Like.trans {l l' l'' : List Ver} (h : Like z l l') (h2 : Like z l' l'') : Like z l l'' := ⟨h2.1.trans h.1, fun k v v'' hv hv'' => by
  have hk : k < l'.length := by have := lt_get hv; rw [h.1]; exact this
  have hv' := List.getElem?_eq_getElem hk
  obtain ⟨a1, a2, a3, a4, a5, a6⟩ := h.2 k v _ hv hv'
  obtain ⟨b1, b2, b3, b4, b5, b6⟩ := h2.2 k _ v'' hv' hv''
  refine ⟨b1.trans a1, b2.trans a2, b3.trans a3, b4.trans a4, Int.le_trans a5 b5, ?_⟩
  rcases b6 with e | e
  · rcases a6 with e2 | e2
    · exact .inl (e.trans e2)
    · exact .inr (by omega)
  · exact .inr e⟩
theorem like_rd {l : List Ver} (z c : Int) (hz : ∀ v ∈ l, v.d ≤ z) : Like z l (rdL z c l) := ⟨atJ_len _ _ _, fun k v v' hv hv' => by
  obtain ⟨u, hu, e⟩ := atJ_get hv'
  rw [hv] at hu
  injection hu with hu
  subst hu
  have := hz v (List.mem_of_getElem? hv)
  split at e
  · subst e
    exact ⟨rfl, rfl, rfl, rfl, by simp only [rdV]; omega, .inr (by simp only [rdV]; omega)⟩
  · subst e
    exact ⟨rfl, rfl, rfl, rfl, Int.le_refl _, .inl rfl⟩⟩
theorem like_le {l l' : List Ver} (h : Like z l l') (hz : ∀ v ∈ l, v.d ≤ z) : ∀ v ∈ l', v.d ≤ z := by
  intro v hv
  obtain ⟨k, hk, rfl⟩ := List.getElem_of_mem hv
  have hk2 : k < l.length := by rw [← h.1]; exact hk
  obtain ⟨_, _, _, _, _, e⟩ := h.2 k _ _ (List.getElem?_eq_getElem hk2) (List.getElem?_eq_getElem hk)
  rcases e with e | e
  · rw [e]; exact hz _ (List.getElem_mem hk2)
  · exact e
/-- where a creation stands does not turn -/
theorem like_fnd {c : Int} : ∀ {l l' : List Ver} (k : Nat), Like z l l' → fndI c l' k = fndI c l k
  | [], [], k, _ => rfl
  | [], _ :: _, k, h => by simp [Like] at h
  | _ :: _, [], k, h => by simp [Like] at h
  | v :: r, v' :: r', k, h => by
    obtain ⟨_, _, e, _⟩ := h.2 0 v v' (by simp) (by simp)
    have ht : Like z r r' := ⟨by have := h.1; simpa using this, fun j u u' hu hu' => h.2 (j + 1) u u' (by simpa using hu) (by simpa using hu')⟩
    unfold fndI
    rw [e, like_fnd (k + 1) ht]
/-- a chain that is like a valid one is valid -/
theorem like_ch {l l' : List Ver} (h : Like z l l') (hz : z ≤ 999) (hc : chB l = true) : chB l' = true := by
  obtain ⟨h1, h2, y, hy, he⟩ := ch_of hc
  refine ch_yes ⟨fun k v' hv' => ?_, fun k u' v' hu' hv' => ?_, ?_⟩
  · have hk : k < l.length := by have := lt_get hv'; rw [h.1] at this; exact this
    have hv := List.getElem?_eq_getElem hk
    obtain ⟨a1, a2, a3, a4, a5, a6⟩ := h.2 k _ v' hv hv'
    have ho := h1 k _ hv
    simp only [okV, Go.Proofs.YtigbknmiidhblaaGreatDoor.vers.vB, decide_eq_true_eq] at ho ⊢
    rw [a1, a2, a3, a4]
    obtain ⟨o1, o2, o3, o4, o5, o6, o7, o8, o9, o10⟩ := ho
    refine ⟨o1, o2, o3, o4, by omega, by omega, o7, o8, o9, o10⟩
  · have hk : k + 1 < l.length := by have := lt_get hv'; rw [h.1] at this; exact this
    have hu := List.getElem?_eq_getElem (show k < l.length by omega)
    have hv := List.getElem?_eq_getElem hk
    obtain ⟨_, _, u3, u4, _⟩ := h.2 k _ u' hu hu'
    obtain ⟨_, _, v3, _⟩ := h.2 (k + 1) _ v' hv hv'
    have hf := h2 k _ _ hu hv
    simp only [fol, Go.Proofs.YtigbknmiidhblaaGreatDoor.vers.fB] at hf ⊢
    rw [u3, u4, v3]
    exact hf
  · have hk := lt_get hy
    have hk' : l'.length - 1 < l'.length := by rw [h.1]; omega
    refine ⟨_, List.getElem?_eq_getElem hk', ?_⟩
    obtain ⟨_, _, _, e, _⟩ := h.2 (l'.length - 1) y _ (by rw [h.1]; exact hy) (List.getElem?_eq_getElem hk')
    rw [e]; exact he
end
/-- a version whose successor is set -/
theorem su_ok {h : Int} {v : Ver} (hv : okV v = true) (h1 : 1 ≤ h) (h2 : h ≤ 1000) : okV (suV h v) = true := by
  simp only [okV, Go.Proofs.YtigbknmiidhblaaGreatDoor.vers.vB, decide_eq_true_eq] at hv
  refine decide_eq_true (show Go.Proofs.YtigbknmiidhblaaGreatDoor.vers.vP v.a v.b v.c v.d h from ?_)
  obtain ⟨o1, o2, o3, o4, o5, o6, o7, o8, o9, o10⟩ := hv
  exact ⟨o1, o2, o3, o4, o5, o6, h1, h2, o9, o10⟩
/-- what a write makes of a valid chain is valid -/
theorem wr_ch {l : List Ver} {v : Ver} {h : Int} (hc : chB l = true) (hv : okV v = true) (he : v.e = 1000) (h1 : 1 ≤ h) (h2 : h ≤ v.c) (hl : (lastV l).c < v.c) : chB (wrL h v l) = true := by
  obtain ⟨p1, p2, _⟩ := ch_of hc
  obtain ⟨y, hy, hly, hyo, _⟩ := last_at hc
  rw [hly] at hl
  have hn := lt_get hy
  have hv9 : h ≤ 1000 := by have := okV_parts hv; omega
  have hw : wrL h v l = l.set (l.length - 1) (suV h y) ++ [v] := by unfold wrL; rw [atJ_at hy]
  have hlen : (wrL h v l).length = l.length + 1 := by rw [hw]; simp
  have hlast : (wrL h v l)[l.length]? = some v := by rw [hw, List.getElem?_append_right (by simp)]; simp
  have hbe : ∀ k, k < l.length → (wrL h v l)[k]? = if k = l.length - 1 then some (suV h y) else l[k]? := by
    intro k hk
    rw [hw, List.getElem?_append_left (by simpa using hk), List.getElem?_set]
    by_cases hj : l.length - 1 = k
    · rw [if_pos hj, if_pos (by omega), if_pos hj.symm]
    · rw [if_neg hj, if_neg (fun e => hj e.symm)]
  refine ch_yes ⟨fun k x hx => ?_, fun k x x' hx hx' => ?_, ⟨v, by rw [hlen]; exact hlast, he⟩⟩
  · have hk := lt_get hx
    rw [hlen] at hk
    by_cases hkl : k = l.length
    · subst hkl; rw [hlast] at hx; cases hx; exact hv
    · rw [hbe k (by omega)] at hx
      by_cases hj : k = l.length - 1
      · rw [if_pos hj] at hx; cases hx; exact su_ok hyo h1 hv9
      · rw [if_neg hj] at hx; exact p1 k x hx
  · have hk := lt_get hx'
    rw [hlen] at hk
    rw [hbe k (by omega)] at hx
    by_cases hj : k = l.length - 1
    · rw [if_pos hj] at hx; cases hx
      rw [show k + 1 = l.length by omega, hlast] at hx'; cases hx'
      show (decide (y.c < v.c) && decide (h ≤ v.c)) = true
      rw [decide_eq_true hl, decide_eq_true h2]; rfl
    · rw [if_neg hj] at hx
      rw [hbe (k + 1) (by omega)] at hx'
      by_cases hj' : k + 1 = l.length - 1
      · rw [if_pos hj'] at hx'; cases hx'
        have hf := p2 k x y hx (by rw [hj']; exact hy)
        exact hf
      · rw [if_neg hj'] at hx'
        exact p2 k x x' hx hx'
end Go.Proofs.YtigbknmiidhblaaGreatDoor.ct
/- A store of one's own: a chain of it; a version read, a version superseded, a version installed. -/
namespace Go.Proofs.YtigbknmiidhblaaGreatDoor.oc
open Go.ChangeShapes Go.WideShapes Go.ChangeAt Go.RowKit
open Go.Proofs.YtigbknmiidhblaaGreatDoor.sl Go.Proofs.YtigbknmiidhblaaGreatDoor.st Go.Proofs.YtigbknmiidhblaaGreatDoor.flat Go.Proofs.YtigbknmiidhblaaGreatDoor.os Go.Proofs.YtigbknmiidhblaaGreatDoor.oq Go.Proofs.YtigbknmiidhblaaGreatDoor.av
open Go.Proofs.YtigbknmiidhblaaGreatDoor.el2 (new1 E2)
open Go.Proofs.YtigbknmiidhblaaGreatDoor.rx (chOf ch_at)
open Go.Proofs.YtigbknmiidhblaaGreatDoor.find (fndI)
open Go.Proofs.YtigbknmiidhblaaGreatDoor.ct (rdV suV nwV atJ rdL wrL onK rdC wrC atJ_at atJ_len)
set_option linter.unusedVariables false
set_option linter.unusedSimpArgs false
theorem flat_cons (x : Ver) (l : List Ver) : flat (x :: l) = .int .i64 x.a :: .int .i64 x.b :: .int .i64 x.c :: .int .i64 x.d :: .int .i64 x.e :: flat l := by simp [flat]
theorem flat_set3 : ∀ (l : List Ver) (j : Nat) (x : Ver) (z : Int), l[j]? = some x → flat (l.set j ⟨x.a, x.b, x.c, z, x.e⟩) = (flat l).set (j * 5 + 3) (.int .i64 z)
  | [], j, x, z, h => by simp at h
  | y :: r, 0, x, z, h => by
    simp only [List.getElem?_cons_zero, Option.some.injEq] at h
    subst h
    rw [List.set_cons_zero, flat_cons, flat_cons]
    rfl
  | y :: r, j + 1, x, z, h => by
    have ih := flat_set3 r j x z (by simpa using h)
    rw [List.set_cons_succ, flat_cons, flat_cons, ih, show (j + 1) * 5 + 3 = (j * 5 + 3) + 1 + 1 + 1 + 1 + 1 by omega]
    rfl
theorem flat_set4 : ∀ (l : List Ver) (j : Nat) (x : Ver) (z : Int), l[j]? = some x → flat (l.set j ⟨x.a, x.b, x.c, x.d, z⟩) = (flat l).set (j * 5 + 4) (.int .i64 z)
  | [], j, x, z, h => by simp at h
  | y :: r, 0, x, z, h => by
    simp only [List.getElem?_cons_zero, Option.some.injEq] at h
    subst h
    rw [List.set_cons_zero, flat_cons, flat_cons]
    rfl
  | y :: r, j + 1, x, z, h => by
    have ih := flat_set4 r j x z (by simpa using h)
    rw [List.set_cons_succ, flat_cons, flat_cons, ih, show (j + 1) * 5 + 4 = (j * 5 + 4) + 1 + 1 + 1 + 1 + 1 by omega]
    rfl
section
variable {w w' : World} {Q : Nat → Prop} {n : Nat} {v : Value} {C : List (List Ver)}
/-- where a chain of it lies -/
structure Lies (w : World) (Q : Nat → Prop) (v : Value) (n k : Nat) (l : List Ver) (g cap b c : Nat) : Prop where
  out : v = .slice (some ⟨g, 0, none⟩) n cap
  qg : Q g
  gl : g < w.heap.size
  qb : Q b
  bl : b < w.heap.size
  ne : g ≠ b
  cell : w.cell? ⟨g, k, none⟩ = some (.slice (some ⟨b, 0, none⟩) l.length c)
  free : w.frozen? ⟨g, k, none⟩ = false
  free2 : ∀ i, w.frozen? ⟨b, i, none⟩ = false
  own : w.ownsRow 0 43 5 (.slice (some ⟨b, 0, none⟩) l.length c) l.length (flat l)
  vs : Vs w w.heap.size (some ⟨b, 0, none⟩) l.length l
theorem OQ.chain (h : OQ w Q v n C) {k : Nat} (hk : k < n) {l : List Ver} (hl : C[k]? = some l) (hp : 0 < l.length) : ∃ g cap b c, Lies w Q v n k l g cap b c := by
  obtain ⟨g, cap, A, m, c, l2, rfl, hqg, hgl, hl2, hm, hc, hf, hr, hq⟩ := h.at_ hk
  rw [hl] at hl2
  injection hl2 with hl2
  subst hl2
  subst hm
  obtain ⟨b, cb, hb, h0, hlt⟩ := hr.form hp
  injection hb with hb _ hb2
  subst hb hb2
  obtain ⟨A3, c3, he, hvs⟩ := own_vs hr rfl
  injection he with he _ _
  subst he
  obtain ⟨vals, h1, _⟩ := h
  exact ⟨g, cap, b, c, rfl, hqg, hgl, hq b rfl, hlt, fun e => row_ne h1 hr rfl (by rw [e]; rfl), hc, hf, fun i => hr.frozenAt i, hr, hvs⟩
variable {k g cap b c : Nat} {l : List Ver}
theorem Lies.at_ (h : Lies w Q v n k l g cap b c) {j : Nat} {x : Ver} (hx : l[j]? = some x) : At w b (j * 5) x := by
  have hj := lt_of_some hx
  obtain ⟨b', o', e, _, hat⟩ := h.vs.2 (by omega)
  injection e with e
  injection e with e1 e2
  subst e1 e2
  have := hat j x hx
  rw [Nat.zero_add] at this
  exact this
theorem Lies.keep (h : Lies w Q v n k l g cap b c) (hb : Below w.heap.size w w') : Lies w' Q v n k l g cap b c where
  out := h.out
  qg := h.qg
  gl := Nat.lt_of_lt_of_le h.gl hb.size
  qb := h.qb
  bl := Nat.lt_of_lt_of_le h.bl hb.size
  ne := h.ne
  cell := (hb.cell (p := ⟨g, k, none⟩) h.gl).trans h.cell
  free := (hb.frozen (p := ⟨g, k, none⟩) h.gl).trans h.free
  free2 := fun i => (hb.frozen (p := ⟨b, i, none⟩) h.bl).trans (h.free2 i)
  own := own_keep h.own hb
  vs := (h.vs.below hb).more hb.size
/-- it lies there when a cell of its row has been written -/
theorem Lies.set (h : Lies w Q v n k l g cap b c) {j : Nat} {l' : List Ver} {u : Value} (hl' : l'.length = l.length) (hf : flat l' = (flat l).set j u) : Lies (w.setCell ⟨b, j, none⟩ u) Q v n k l' g cap b c := by
  obtain ⟨hst, hg⟩ := h.own.stored j u
  have ho : (w.setCell ⟨b, j, none⟩ u).ownsRow 0 43 5 (.slice (some ⟨b, 0, none⟩) l'.length c) l'.length (flat l') := by rw [hl', hf]; exact hst
  obtain ⟨A3, c3, he, hvs⟩ := own_vs ho rfl
  injection he with he _ _
  subst he
  refine ⟨h.out, h.qg, by simpa [World.setCell] using h.gl, h.qb, by simpa [World.setCell] using h.bl, h.ne, ?_, set_free h.free, fun i => set_free (h.free2 i), ho, hvs⟩
  rw [hl']
  exact set_other h.cell (fun e => h.ne e.symm)
/-- a version is read -/
theorem OQ.read (h : OQ w Q v n C) {m : E2} (h0 : 0 ≤ m.a) (hk : m.a.toNat = k) (hkn : k < n) (hl : C[k]? = some l) (hL : Lies w Q v n k l g cap b c) {j : Nat} {x : Ver} (hj : fndI m.b l 0 = j) (hx : l[j]? = some x) (z : Int) :
    OQ (w.setCell ⟨b, j * 5 + 3, none⟩ (.int .i64 (max x.d z))) Q v n (rdC z C m) := by
  obtain rfl := hL.out
  have hch : chOf C m.a = l := ch_at (by rw [hk]; exact hl)
  have e : rdC z C m = C.set k (l.set j (rdV z x)) := by
    unfold rdC onK
    rw [hk, hch]
    unfold rdL
    rw [hj, Int.toNat_natCast, atJ_at hx]
  rw [e]
  exact OQ.set h hkn hL.cell hl (by simp) (flat_set3 l j x _ hx)
/-- the last version of a chain is superseded -/
theorem OQ.succ (h : OQ w Q v n C) (hkn : k < n) (hl : C[k]? = some l) (hp : 0 < l.length) (hL : Lies w Q v n k l g cap b c) (z : Int) :
    OQ (w.setCell ⟨b, (l.length - 1) * 5 + 4, none⟩ (.int .i64 z)) Q v n (C.set k (atJ (suV z) l (l.length - 1))) := by
  obtain rfl := hL.out
  have hx : l[l.length - 1]? = some l[l.length - 1] := List.getElem?_eq_getElem (by omega)
  rw [atJ_at hx]
  exact OQ.set h hkn hL.cell hl (by simp) (flat_set4 l _ _ _ hx)
/-- a version is appended to a chain of it: what the append hands back, and the store when it is put -/
theorem OQ.app (h : OQ w Q v n C) (hkn : k < n) (hl : C[k]? = some l) (hL : Lies w Q v n k l g cap b c) (hn : l.length + 1 ≤ 2097152) (hQ : ∀ q, w.heap.size ≤ q → Q q) {q : Nat} {m : Ver} (hm : At w q 0 m) (hq : q < w.heap.size) (hqb : q ≠ b) :
    ∃ A' c' w', (Builtin.append_ #[37, 37] 37 #[.slice (some ⟨b, 0, none⟩) l.length c, .slice (some ⟨q, 0, none⟩) 1 1]).run Tryz.prog w = .ok (.slice A' (l.length + 1) c') w' ∧
      w'.cell? ⟨g, k, none⟩ = some (.slice (some ⟨b, 0, none⟩) l.length c) ∧ w'.frozen? ⟨g, k, none⟩ = false ∧ w.grownBy w' (some b) ∧
      OQ (w'.setCell ⟨g, k, none⟩ (.slice A' (l.length + 1) c')) Q v n (C.set k (l ++ [m])) := by
  obtain rfl := hL.out
  obtain ⟨v', w', hr, ho, hg, hw⟩ := run_append_v w hL.own (c := 1) (one_vs hm) hn
  obtain ⟨A', c', rfl, _⟩ := own_vs ho (by simp)
  have hrow : (Value.slice (some ⟨b, 0, none⟩) l.length c).ownBlock = some b := rfl
  rw [hrow] at hg
  have hgb := hg.block g hL.gl (fun e => hL.ne (by injection e))
  refine ⟨A', c', w', hr, (World.cell?_of_block hgb).trans hL.cell, (World.frozen?_of_block hgb).trans hL.free, hg, ?_⟩
  · refine OQ.put h hkn hL.cell hg (.inr hrow.symm) (by rw [List.length_append]; exact ho) fun q' hq' => ?_
    rcases hw q' hq' with e | e
    · exact .inl e
    · exact .inr ⟨e, hQ _ e⟩
theorem wr_set {C : List (List Ver)} {m : E2} {k : Nat} {l : List Ver} {i z h : Int} (hk : m.a.toNat = k) (hl : C[k]? = some l) : (C.set k (atJ (suV h) l (l.length - 1))).set k (atJ (suV h) l (l.length - 1) ++ [nwV i z m]) = wrC i z h C m := by
  have hch : chOf C m.a = l := ch_at (by rw [hk]; exact hl)
  unfold wrC onK wrL
  rw [hk, hch, List.set_set]
end
end Go.Proofs.YtigbknmiidhblaaGreatDoor.oc
/- The model's l4Copy: a store of the call's own that reads as the same list of lists. -/
namespace Go.Proofs.YtigbknmiidhblaaGreatDoor.ls
open Go.ChangeShapes Go.WideShapes Go.ChangeAt Go.RowKit
open Go.Proofs.YtigbknmiidhblaaGreatDoor.sl Go.Proofs.YtigbknmiidhblaaGreatDoor.st Go.Proofs.YtigbknmiidhblaaGreatDoor.flat Go.Proofs.YtigbknmiidhblaaGreatDoor.os Go.Proofs.YtigbknmiidhblaaGreatDoor.oq Go.Proofs.YtigbknmiidhblaaGreatDoor.av Go.Proofs.YtigbknmiidhblaaGreatDoor.cs
open Go.Proofs.YtigbknmiidhblaaGreatDoor.el2 (new1)
open Go.Proofs.YtigbknmiidhblaaGreatDoor.vers (new3)
open Go.Proofs.YtigbknmiidhblaaGreatDoor.bx (own_more)
set_option linter.unusedVariables false
set_option linter.unusedSimpArgs false
set_option linter.constructorNameAsVariable false
theorem cell_one (w : World) (v : Value) (t : TypeId) : ∀ (j : Nat) (u : Value), [v][j]? = some u → (w.alloc (.cells #[v] t)).cell? ((⟨w.heap.size, 0, none⟩ : Addr).add j) = some u := by
  intro j u hu
  match j, hu with
  | 0, hu =>
    injection hu with hu
    subst hu
    rw [add_off]
    exact one_cell w v t
theorem one_slice (A : Option Addr) (n c : Nat) : ∀ u ∈ [Value.slice A n c], u.oneCell' = true := by
  intro u hu
  simp only [List.mem_singleton] at hu
  subst hu
  rfl
set_option maxRecDepth 100000 in
set_option maxHeartbeats 3200000 in
theorem spec_copys {w : World} {B N cN : Nat} {D : Option Addr} {C : List (List Ver)} (hN : N ≤ 2097152) (hC : ∀ l ∈ C, l.length ≤ 2097152) (h3 : Rs w B D N C) (hB : B ≤ w.heap.size) :
    Calls Tryz.prog 38 #[.agg #[.slice D N cN]] w (CopS N C w) := by
  have H3 := Lib.hid h3
  have hCN := h3.1
  have HC := Lib.hid hC
  obtain ⟨i0, hi, hz0, hz1, hz2⟩ := info_parts info_row
  have HI := Lib.hid hi
  have HZ0 := Lib.hid hz0
  have HZ1 := Lib.hid hz1
  have HZ2 := Lib.hid hz2
  clear h3 hC hi hz0 hz1 hz2
  go_enter Tryz.func38, Tryz.ntmps38
  go_wp2_with fail
  have z0 := up (.cells #[.slice none 0 0] 26) (up (.cells #[.slice none 0 0] 26) (one_cell w (.slice D N cN) 26) (by simp)) (by simp; omega)
  have z1 := up (.cells #[.slice none 0 0] 26) (one_cell (w.alloc (.cells #[.slice D N cN] 26)) (.slice none 0 0) 26) (by simp)
  have z2 := one_cell ((w.alloc (.cells #[.slice D N cN] 26)).alloc (.cells #[.slice none 0 0] 26)) (.slice none 0 0) 26
  have f1 := free_up (.cells #[.slice none 0 0] 26) (one_free (w.alloc (.cells #[.slice D N cN] 26)) (.slice none 0 0) 26) (by simp)
  have f2 := one_free ((w.alloc (.cells #[.slice D N cN] 26)).alloc (.cells #[.slice none 0 0] 26)) (.slice none 0 0) 26
  have hb0 := new3 w (.cells #[.slice D N cN] 26) (.cells #[.slice none 0 0] 26) (.cells #[.slice none 0 0] 26)
  have hs0 : (((w.alloc (.cells #[.slice D N cN] 26)).alloc (.cells #[.slice none 0 0] 26)).alloc (.cells #[.slice none 0 0] 26)).heap.size = w.heap.size + 3 := by simp
  simp only [World.size_alloc] at z1 z2 f1 f2
  generalize ((w.alloc _).alloc _).alloc _ = w0 at z0 z1 z2 f1 f2 hb0 hs0 ⊢
  have B0 := Lib.hid hb0
  clear hb0
  go_loopw [4] (fun i wr => ∃ (k : Nat) (v : Value), k ≤ N ∧ i = .int .i64 k ∧ OS wr (w.heap.size + 3) v k (C.take k) ∧ wr.cell? ⟨w.heap.size, 0, none⟩ = some (.slice D N cN) ∧ wr.cell? ⟨w.heap.size + 1, 0, none⟩ = some (.slice none 0 0) ∧ wr.cell? ⟨w.heap.size + 1 + 1, 0, none⟩ = some v ∧ wr.frozen? ⟨w.heap.size + 1, 0, none⟩ = false ∧ wr.frozen? ⟨w.heap.size + 1 + 1, 0, none⟩ = false ∧ Below w.heap.size w wr ∧ w.heap.size + 3 ≤ wr.heap.size) (fun i _ => N - (intOf i).toNat)
  case atStart => exact ⟨0, _, by omega, rfl, OS.nil_ _ _, z0, z1, z2, f1, f2, B0.out, by omega⟩
  case round =>
    obtain ⟨k, v, hk, rfl, ho, c0, c1, c2, fz1, fz2, hb, hsz⟩ := hrel
    have O := Lib.hid ho
    have HB := Lib.hid hb
    clear z0 z1 z2 f1 f2 ho hb
    by_cases hlt : k < N
    · have t : decide ((k : Int) < (N : Int)) = true := decide_eq_true (by omega)
      obtain ⟨b2, o2, l, A', n', c', rfl, hb2, hl, d0, hn', hv⟩ := (H3.out.below (below_le HB.out hB)).at_ hlt
      have HL := Lib.hid hl
      have HV := Lib.hid hv
      have hl2 : n' ≤ 2097152 := by have := HC.out l (List.mem_of_getElem? hl); rw [hv.1] at this; exact this
      obtain ⟨vals, ho1, ho2, ho3, ho4⟩ := O.out
      have OW := Lib.hid ho1
      have OR := Lib.hid (And.intro ho2 (And.intro ho3 ho4))
      have C0 := Lib.hid c0
      have C1 := Lib.hid c1
      have F1 := Lib.hid fz1
      have hmax : k + 1 ≤ maxLen := by unfold maxLen; omega
      have hbyt : (k + 1) * 24 ≤ 140737488355328 := by omega
      have hq : B ≤ wr.drew.heap.size := by have := HB.out.size; simp only [World.size_drew]; omega
      clear hl hv ho1 ho2 ho3 ho4 c1 fz1
      go_wp2_with fail
      go_region_law (first | (go_simp; go_at_call 84; refine (spec_copyv hl2 (show Vs wr.drew B A' n' l from HV.out) hq).mono ?_; rintro e W1 ⟨A9, c9, rfl, hr9, hb9⟩; have hb8 : Below wr.heap.size wr W1 := (Below.refl wr.heap.size wr).drew.trans hb9; have e2 := (hb8.cell (p := ⟨w.heap.size + 1 + 1, 0, none⟩) (by simp; omega)).trans c2; have g2 := (hb8.frozen (p := ⟨w.heap.size + 1 + 1, 0, none⟩) (by simp; omega)).trans fz2; have hs1 := hb8.size; have hown3 := OW.out.kept (row := none) (w' := W1) ⟨hb8.os, hb8.tape, hb8.output, hb8.size, fun k hk _ => hb8.block k hk⟩ (by cases v.ownBlock <;> simp); have hlt1 : w.heap.size + 1 + 1 < W1.heap.size := (by omega); have hne1 : some (w.heap.size + 1 + 1) ≠ v.ownBlock := (fun e => by have := (hown3.lt _ e.symm).1; omega)) | (refine step_append_lies _ (by rfl) _ _ _ (by rfl) (w.heap.size + 3) 37 i0 (.slice none 0 0) 1 24 Tryz.underlying24 HI.out HZ0.out HZ1.out HZ2.out rfl (by decide) _ k _ (by rfl) (hown3.alloc _) ⟨W1.heap.size, 0, none⟩ 1 1 [.slice A9 n' c9] (by rfl) (by rfl) (cell_one _ _ _) (one_slice _ _ _) (by decide) hmax hbyt (by simp; omega) (W1.heap.size + 1) (by simp) ?_; intro gg cp w1 hown4 hgrow hat hlt4; have d2 := hgrow.cell (up (.cells #[.slice A9 n' c9] 37) e2 hlt1) hne1; have k2 := (hgrow.frozen_far ⟨w.heap.size + 1 + 1, 0, none⟩ (by simp; omega) hne1).trans (free_up (.cells #[.slice A9 n' c9] 37) g2 hlt1)))
      all_goals
        have hne0 : some w.heap.size ≠ v.ownBlock := fun e => by have := (hown3.lt _ e.symm).1; omega
        have hne2 : some (w.heap.size + 1) ≠ v.ownBlock := fun e => by have := (hown3.lt _ e.symm).1; omega
        have d0' := hgrow.cell (up (.cells #[.slice A9 n' c9] 37) ((hb8.cell (p := ⟨w.heap.size, 0, none⟩) (by simp; omega)).trans C0.out) (by simp; omega)) hne0
        have d1 := hgrow.cell (up (.cells #[.slice A9 n' c9] 37) ((hb8.cell (p := ⟨w.heap.size + 1, 0, none⟩) (by simp; omega)).trans C1.out) (by simp; omega)) hne2
        have k1 := (hgrow.frozen_far ⟨w.heap.size + 1, 0, none⟩ (by simp; omega) hne2).trans (free_up (.cells #[.slice A9 n' c9] 37) ((hb8.frozen (p := ⟨w.heap.size + 1, 0, none⟩) (by simp; omega)).trans F1.out) (by simp; omega))
        have hbA : Below wr.heap.size wr (W1.alloc (.cells #[.slice A9 n' c9] 37)) := hb8.trans ((new1 W1 _).mono hs1)
        have hos := os_push OW.out OR.out.1 OR.out.2.1 OR.out.2.2 hbA (show w.heap.size + 3 ≤ wr.heap.size by omega) (by rw [HV.out.1]; exact own_more (own_keep hr9 (new1 W1 _)) (by simp)) hown4 hgrow
        have htk : C.take k ++ [l] = C.take (k + 1) := by rw [List.take_add_one, HL.out]; rfl
        rw [htk] at hos
        have hlt9 : wr.heap.size ≤ w1.heap.size := Nat.le_trans hbA.size hgrow.size
        have hos9 := hos.grown (row := some (w.heap.size + 1 + 1)) (w' := w1.setCell ⟨w.heap.size + 1 + 1, 0, none⟩ (.slice (some ⟨gg, 0, none⟩) (k + 1) cp)) (grown_set _ _ _) (fun q hq => by injection hq with hq; omega)
        have hb9' : Below w.heap.size w w1 := (HB.out.trans (hbA.mono HB.out.size)).grown hgrow (by have := HB.out.size; have := hbA.size; omega) (fun q hq => by have := (hown3.lt q hq).1; omega)
        have P9 := Lib.hid hos9
        have B9 := Lib.hid (hb9'.setCell (p := ⟨w.heap.size + 1 + 1, 0, none⟩) (show w.heap.size ≤ w.heap.size + 1 + 1 by omega) (.slice (some ⟨gg, 0, none⟩) (k + 1) cp))
        have D0 := Lib.hid (set_other (a := ⟨w.heap.size + 1 + 1, 0, none⟩) (v := .slice (some ⟨gg, 0, none⟩) (k + 1) cp) d0' (show w.heap.size + 1 + 1 ≠ w.heap.size by omega))
        have D1 := Lib.hid (set_other (a := ⟨w.heap.size + 1 + 1, 0, none⟩) (v := .slice (some ⟨gg, 0, none⟩) (k + 1) cp) d1 (show w.heap.size + 1 + 1 ≠ w.heap.size + 1 by omega))
        have D2 := Lib.hid (set_same (v := .slice (some ⟨gg, 0, none⟩) (k + 1) cp) d2)
        have E1 := Lib.hid (set_free (a := ⟨w.heap.size + 1 + 1, 0, none⟩) (v := .slice (some ⟨gg, 0, none⟩) (k + 1) cp) k1)
        have E2 := Lib.hid (set_free (a := ⟨w.heap.size + 1 + 1, 0, none⟩) (v := .slice (some ⟨gg, 0, none⟩) (k + 1) cp) k2)
        have S9 : w.heap.size + 3 ≤ (w1.setCell ⟨w.heap.size + 1 + 1, 0, none⟩ (.slice (some ⟨gg, 0, none⟩) (k + 1) cp)).heap.size := by simp [World.setCell]; omega
        clear hos hos9 hb9' hbA hown3 hown4 hgrow hat hr9 hb9 hb8 d0' d1 k1 e2 g2 c0 c2 fz2
        go_wp2_with fail
        go_roundw
        case rel => exact ⟨k + 1, _, by omega, by go_num, P9.out, D0.out, D1.out, D2.out, E1.out, E2.out, B9.out, S9⟩
        case measure => simp [intOf]; omega
    · have t : decide ((k : Int) < (N : Int)) = false := decide_eq_false (by omega)
      obtain rfl : N = k := by omega
      obtain ⟨A9, c9, rfl⟩ : ∃ A9 c9, v = .slice A9 N c9 := by
        obtain ⟨vals, h1, _⟩ := O.out
        rcases h1.2 with ⟨rfl, rfl⟩ | ⟨g, cap, cur, rfl, _⟩
        · exact ⟨none, 0, rfl⟩
        · exact ⟨_, cap, rfl⟩
      go_wp2_with fail
      have hb := HB.out.setCell (p := ⟨w.heap.size + 1, 0, none⟩) (by simp) (.slice A9 N c9)
      have e1 := set_same (v := .slice A9 N c9) c1
      have ho := O.out.grown (row := some (w.heap.size + 1)) (w' := wr.setCell ⟨w.heap.size + 1, 0, none⟩ (.slice A9 N c9)) (grown_set _ _ _) (fun q hq => by injection hq with hq; omega)
      generalize wr.setCell _ _ = Wf at hb e1 ho ⊢
      refine bodyPost_ret (v := .agg #[.slice A9 N c9]) (by simp [results, Tryz.results38, go_sem, e1]) rfl ⟨_, _, rfl, ?_, hb⟩
      rw [List.take_of_length_le (by omega)] at ho
      exact ho.more (by omega)
end Go.Proofs.YtigbknmiidhblaaGreatDoor.ls
/- The program's install: a written version goes into its chain, in a store of one's own. -/
namespace Go.Proofs.YtigbknmiidhblaaGreatDoor.ist
open Go.ChangeShapes Go.WideShapes Go.ChangeAt Go.RowKit
open Go.Proofs.YtigbknmiidhblaaGreatDoor.sl Go.Proofs.YtigbknmiidhblaaGreatDoor.st Go.Proofs.YtigbknmiidhblaaGreatDoor.flat Go.Proofs.YtigbknmiidhblaaGreatDoor.os Go.Proofs.YtigbknmiidhblaaGreatDoor.oq Go.Proofs.YtigbknmiidhblaaGreatDoor.av Go.Proofs.YtigbknmiidhblaaGreatDoor.oc
open Go.Proofs.YtigbknmiidhblaaGreatDoor.el2 (new1 E2)
open Go.Proofs.YtigbknmiidhblaaGreatDoor.tx (Hd TB)
open Go.Proofs.YtigbknmiidhblaaGreatDoor.vers (new2)
open Go.Proofs.YtigbknmiidhblaaGreatDoor.rx (chOf ch_at)
open Go.Proofs.YtigbknmiidhblaaGreatDoor.ao (step_append_run)
open Go.Proofs.YtigbknmiidhblaaGreatDoor.ct (rdV suV nwV atJ rdL wrL onK rdC wrC atJ_at atJ_len)
set_option linter.unusedVariables false
set_option linter.unusedSimpArgs false
set_option linter.constructorNameAsVariable false
set_option maxRecDepth 100000 in
set_option maxHeartbeats 3200000 in
theorem impl_inst {w : World} {Q : Nat → Prop} {N n1 c1 n2 c2 : Nat} {A1 A2 : Option Addr} {v : Value} {C : List (List Ver)} {l : List Ver} (x : Hd) (m : E2) (sb : Nat) (hs : w.cell? ⟨sb, 0, none⟩ = some v) (hsb : sb < w.heap.size) (hqs : ¬ Q sb) (hQ : ∀ q, w.heap.size ≤ q → Q q) (h : OQ w Q v N C) (h0 : 0 ≤ m.a) (hk : m.a.toNat < N) (hl : C[m.a.toNat]? = some l) (hp : 0 < l.length) (hm : l.length ≤ 2000000) :
    Calls Tryz.prog 79 #[.pointer (some ⟨sb, 0, none⟩), .agg #[.int .i64 x.i, .int .i64 x.s, .int .i64 x.t, .int .i64 x.b, .int .i64 x.l, .int .i64 x.h, .int .i64 x.c, .slice A1 n1 c1, .slice A2 n2 c2], .agg #[.int .i64 m.a, .int .i64 m.b]] w fun e w' =>
      (50 ≤ l.length ∧ e = .returned (.bool false) ∧ Below w.heap.size w w') ∨ (l.length < 50 ∧ e = .returned (.bool true) ∧ OQ w' Q v N (wrC x.i x.c x.h C m) ∧ Agr (fun q => ¬ Q q) w w') := by
  obtain ⟨k, hk2⟩ : ∃ k : Nat, m.a = (k : Int) := ⟨m.a.toNat, by omega⟩
  have hk3 : m.a.toNat = k := by omega
  rw [hk3] at hk hl
  have HQ := Lib.hid hQ
  have HL := Lib.hid hl
  obtain ⟨g, cap, b, c, hL⟩ := OQ.chain h hk hl hp
  obtain rfl := hL.out
  have O := Lib.hid h
  have LI := Lib.hid hL
  clear h hL hl hQ
  have k1 : (k : Int) < (N : Int) := by omega
  have LB := LI.out.bl
  have GL := LI.out.gl
  have O1len := O.out.len
  go_enter Tryz.func79, Tryz.ntmps79
  go_wp2_with fail
  have tb := (TB.new w x A1 n1 c1 A2 n2 c2 30).keep (B := w.heap.size + 1) (by omega) (el2.below_le (new1 (w.alloc (.cells #[.int .i64 x.i, .int .i64 x.s, .int .i64 x.t, .int .i64 x.b, .int .i64 x.l, .int .i64 x.h, .int .i64 x.c, .slice A1 n1 c1, .slice A2 n2 c2] 30)) (.cells #[.int .i64 m.a, .int .i64 m.b] 45)) (by simp))
  have mb := el2.boxed (w.alloc (.cells #[.int .i64 x.i, .int .i64 x.s, .int .i64 x.t, .int .i64 x.b, .int .i64 x.l, .int .i64 x.h, .int .i64 x.c, .slice A1 n1 c1, .slice A2 n2 c2] 30)) m 45
  have hb := new2 w (.cells #[.int .i64 x.i, .int .i64 x.s, .int .i64 x.t, .int .i64 x.b, .int .i64 x.l, .int .i64 x.h, .int .i64 x.c, .slice A1 n1 c1, .slice A2 n2 c2] 30) (.cells #[.int .i64 m.a, .int .i64 m.b] 45)
  have hsz : ((w.alloc (.cells #[.int .i64 x.i, .int .i64 x.s, .int .i64 x.t, .int .i64 x.b, .int .i64 x.l, .int .i64 x.h, .int .i64 x.c, .slice A1 n1 c1, .slice A2 n2 c2] 30)).alloc (.cells #[.int .i64 m.a, .int .i64 m.b] 45)).heap.size = w.heap.size + 2 := by simp
  rw [show (w.alloc (.cells #[.int .i64 x.i, .int .i64 x.s, .int .i64 x.t, .int .i64 x.b, .int .i64 x.l, .int .i64 x.h, .int .i64 x.c, .slice A1 n1 c1, .slice A2 n2 c2] 30)).heap.size = w.heap.size + 1 by simp] at mb
  rw [hk2] at mb tb hb hsz ⊢
  generalize (w.alloc _).alloc _ = W0 at tb mb hb hsz ⊢
  have c0 := (hb.cell (p := ⟨sb, 0, none⟩) hsb).trans hs
  have L0 := LI.out
  have gl := L0.gl
  have bl := L0.bl
  have c1' := (hb.cell (p := ⟨g, k, none⟩) gl).trans L0.cell
  have TBx := Lib.hid tb
  have MB := Lib.hid mb
  have HB := Lib.hid hb
  obtain ⟨m0, m1⟩ := el2.atFlat mb
  rw [hk2] at m0
  clear tb mb hb L0
  go_quiet (fail)
  generalize hW1 : W0.drewN _ = W1
  have B1 : Hid (Below w.heap.size w W1) := Lib.hid (by rw [← hW1]; exact ⟨HB.out.os, HB.out.tape, HB.out.output, HB.out.size, HB.out.block⟩)
  have T1 : Hid (TB W1 w.heap.size x (.slice A1 n1 c1) (.slice A2 n2 c2)) := Lib.hid (by rw [← hW1]; exact TBx.out)
  have M1 : Hid (el2.At W1 (w.heap.size + 1) 0 m) := Lib.hid (by rw [← hW1]; exact MB.out)
  have hsz1 : W1.heap.size = w.heap.size + 2 := by rw [← hW1]; exact hsz
  have L1 := Lib.hid (LI.out.keep B1.out)
  have O1 := Lib.hid (O.out.below B1.out)
  have S1 := Lib.hid ((B1.out.cell (p := ⟨sb, 0, none⟩) hsb).trans hs)
  clear hW1 m0 m1 c0 c1' TBx MB HB hsz LI O hs
  have s5 := L1.out.free2 ((l.length - 1) * 5 + 4)
  obtain ⟨e0, e1, e2, e3, e4⟩ := Lies.at_ L1.out (j := l.length - 1) (x := l[l.length - 1]) (List.getElem?_eq_getElem (by omega))
  obtain ⟨t0, t1, t2, t3, t4, t5, t6, t7, t8⟩ := T1.out
  have s1 : IntKind.i64.wrap ((l.length : Int) - 1) = (l.length : Int) - 1 := IntWalk.i64_in _ (by omega)
  have s2 : (0 : Int) ≤ (l.length : Int) - 1 := by omega
  have s3 : ((l.length : Int) - 1).toNat = l.length - 1 := by omega
  by_cases h50 : 50 ≤ l.length
  · have t : decide ((50 : Int) ≤ (l.length : Int)) = true := decide_eq_true (by omega)
    go_wp2_with fail
    go_ret
    exact .inl ⟨h50, rfl, B1.out⟩
  · have t : decide ((50 : Int) ≤ (l.length : Int)) = false := decide_eq_false (by omega)
    go_wp2_with fail
    have hlen1 : (atJ (suV x.h) l (l.length - 1)).length = l.length := atJ_len _ _ _
    have hfl : flat (atJ (suV x.h) l (l.length - 1)) = (flat l).set ((l.length - 1) * 5 + 4) (.int .i64 x.h) := by
      have hx : l[l.length - 1]? = some l[l.length - 1] := List.getElem?_eq_getElem (by omega)
      rw [atJ_at hx]
      exact flat_set4 l _ _ _ hx
    have hbs : b < w.heap.size := LB
    have O2 := Lib.hid (OQ.succ O1.out hk HL.out hp L1.out x.h)
    have L2 := Lib.hid (Lies.set L1.out hlen1 hfl)
    have T2 := Lib.hid (T1.out.of_block (w' := W1.setCell ⟨b, (l.length - 1) * 5 + 4, none⟩ (.int .i64 x.h)) (Below.heap_setCell W1 _ _ _ (show w.heap.size ≠ b by omega)))
    have M2 := Lib.hid (M1.out.of_block (w' := W1.setCell ⟨b, (l.length - 1) * 5 + 4, none⟩ (.int .i64 x.h)) (Below.heap_setCell W1 _ _ _ (show w.heap.size + 1 ≠ b by omega)))
    have hne : b ≠ sb := fun e => hqs (e ▸ L1.out.qb)
    have S2 := Lib.hid (set_other (a := ⟨b, (l.length - 1) * 5 + 4, none⟩) (v := .int .i64 x.h) S1.out hne)
    have A2' := Lib.hid (Agr.set ((Agr.of_below B1.out (fun q => ¬ Q q))) (p := ⟨b, (l.length - 1) * 5 + 4, none⟩) (.int .i64 x.h) (fun e => e L1.out.qb))
    have hsz2 : (W1.setCell ⟨b, (l.length - 1) * 5 + 4, none⟩ (.int .i64 x.h)).heap.size = w.heap.size + 2 := by simp [World.setCell]; omega
    generalize W1.setCell _ _ = W2 at O2 L2 T2 M2 S2 A2' hsz2 ⊢
    clear t0 t1 t2 t3 t4 t5 t6 t7 t8 e0 e1 e2 e3 e4 s5 O1 L1 T1 M1 S1 B1 hsz1
    have hd : Below W2.heap.size W2 ((W2.alloc (.cells #[.int .i64 x.i, .int .i64 m.b, .int .i64 x.c, .int .i64 x.c, .int .i64 1000] 43)).drew) := (new1 W2 _).drew
    have hmA : At ((W2.alloc (.cells #[.int .i64 x.i, .int .i64 m.b, .int .i64 x.c, .int .i64 x.c, .int .i64 1000] 43)).drew) W2.heap.size 0 (nwV x.i x.c m) := ch.boxed W2 (nwV x.i x.c m) 43
    have hsA : ((W2.alloc (.cells #[.int .i64 x.i, .int .i64 m.b, .int .i64 x.c, .int .i64 x.c, .int .i64 1000] 43)).drew).heap.size = W2.heap.size + 1 := by simp
    have hbW := L2.out.bl
    obtain ⟨A', c', w', hr, hc9, hf9, hg9, hoq⟩ := OQ.app (O2.out.below hd) hk (by rw [List.getElem?_set_self (by rw [O1len]; exact hk)]) (L2.out.keep hd) (by rw [hlen1]; omega) (fun q hq => HQ.out q (by omega)) (q := W2.heap.size) hmA (by omega) (by omega)
    rw [hlen1] at hr hc9 hoq
    rw [wr_set hk3 HL.out] at hoq
    have OF := Lib.hid hoq
    have GF := Lib.hid hg9
    clear hoq
    obtain ⟨t0, t1, t2, t3, t4, t5, t6, t7, t8⟩ := T2.out
    obtain ⟨m0, m1⟩ := el2.atFlat M2.out
    rw [hk2] at m0
    have c0 := S2.out
    have gA : ∀ {p : Addr} {u : Value}, W2.cell? p = some u → p.block < W2.heap.size → ((W2.alloc (.cells #[.int .i64 x.i, .int .i64 m.b, .int .i64 x.c, .int .i64 x.c, .int .i64 1000] 43)).drew).cell? p = some u := fun {p u} hp hl => (hd.cell (p := p) hl).trans hp
    have gD : ∀ {p : Addr} {u : Value}, W2.cell? p = some u → p.block < W2.heap.size → p.block ≠ b → w'.cell? p = some u := fun {p u} hp hl hn => GF.out.cell (gA hp hl) (fun e => hn (by injection e))
    have lsb : sb < W2.heap.size := by omega
    have lw0 : w.heap.size < W2.heap.size := by omega
    have lw1 : w.heap.size + 1 < W2.heap.size := by omega
    have nsb : sb ≠ b := fun e => hne e.symm
    have nw0 : w.heap.size ≠ b := by omega
    have nw1 : w.heap.size + 1 ≠ b := by omega
    have hgs : g ≠ sb := fun e => hqs (e ▸ L2.out.qg)
    have hgw : g < w.heap.size := GL
    have hS0 : W2.drew.cell? ⟨sb, 0, none⟩ = some (.slice (some ⟨g, 0, none⟩) N cap) ∧ W2.drew.cell? ⟨w.heap.size + 1, 0, none⟩ = some (.int .i64 (k : Int)) ∧ W2.drew.cell? ⟨w.heap.size + 1, 1, none⟩ = some (.int .i64 m.b) ∧ W2.drew.cell? ⟨w.heap.size, 0, none⟩ = some (.int .i64 x.i) ∧ W2.drew.cell? ⟨w.heap.size, 6, none⟩ = some (.int .i64 x.c) := ⟨c0, m0, m1, t0, t6⟩
    have hS1 : ((W2.alloc (.cells #[.int .i64 x.i, .int .i64 m.b, .int .i64 x.c, .int .i64 x.c, .int .i64 1000] 43)).drew).cell? ⟨sb, 0, none⟩ = some (.slice (some ⟨g, 0, none⟩) N cap) ∧ ((W2.alloc (.cells #[.int .i64 x.i, .int .i64 m.b, .int .i64 x.c, .int .i64 x.c, .int .i64 1000] 43)).drew).cell? ⟨w.heap.size + 1, 0, none⟩ = some (.int .i64 (k : Int)) ∧ ((W2.alloc (.cells #[.int .i64 x.i, .int .i64 m.b, .int .i64 x.c, .int .i64 x.c, .int .i64 1000] 43)).drew).cell? ⟨w.heap.size + 1, 1, none⟩ = some (.int .i64 m.b) ∧ ((W2.alloc (.cells #[.int .i64 x.i, .int .i64 m.b, .int .i64 x.c, .int .i64 x.c, .int .i64 1000] 43)).drew).cell? ⟨w.heap.size, 0, none⟩ = some (.int .i64 x.i) ∧ ((W2.alloc (.cells #[.int .i64 x.i, .int .i64 m.b, .int .i64 x.c, .int .i64 x.c, .int .i64 1000] 43)).drew).cell? ⟨w.heap.size, 6, none⟩ = some (.int .i64 x.c) := ⟨gA c0 lsb, gA m0 lw1, gA m1 lw1, gA t0 lw0, gA t6 lw0⟩
    have hS2 : w'.cell? ⟨sb, 0, none⟩ = some (.slice (some ⟨g, 0, none⟩) N cap) ∧ w'.cell? ⟨w.heap.size + 1, 0, none⟩ = some (.int .i64 (k : Int)) ∧ w'.cell? ⟨w.heap.size + 1, 1, none⟩ = some (.int .i64 m.b) ∧ w'.cell? ⟨w.heap.size, 0, none⟩ = some (.int .i64 x.i) ∧ w'.cell? ⟨w.heap.size, 6, none⟩ = some (.int .i64 x.c) := ⟨gD c0 lsb nsb, gD m0 lw1 nw1, gD m1 lw1 nw1, gD t0 lw0 nw0, gD t6 lw0 nw0⟩
    have hS3 : (w'.setCell ⟨g, k, none⟩ (.slice A' (l.length + 1) c')).cell? ⟨sb, 0, none⟩ = some (.slice (some ⟨g, 0, none⟩) N cap) ∧ (w'.setCell ⟨g, k, none⟩ (.slice A' (l.length + 1) c')).cell? ⟨w.heap.size + 1, 0, none⟩ = some (.int .i64 (k : Int)) ∧ (w'.setCell ⟨g, k, none⟩ (.slice A' (l.length + 1) c')).cell? ⟨w.heap.size + 1, 1, none⟩ = some (.int .i64 m.b) ∧ (w'.setCell ⟨g, k, none⟩ (.slice A' (l.length + 1) c')).cell? ⟨w.heap.size, 0, none⟩ = some (.int .i64 x.i) ∧ (w'.setCell ⟨g, k, none⟩ (.slice A' (l.length + 1) c')).cell? ⟨w.heap.size, 6, none⟩ = some (.int .i64 x.c) := ⟨set_other hS2.1 hgs, set_other hS2.2.1 (show g ≠ w.heap.size + 1 by omega), set_other hS2.2.2.1 (show g ≠ w.heap.size + 1 by omega), set_other hS2.2.2.2.1 (show g ≠ w.heap.size by omega), set_other hS2.2.2.2.2 (show g ≠ w.heap.size by omega)⟩
    have AF := Lib.hid ((A2'.out.trans ((Agr.of_below hd _).trans (Agr.of_grown GF.out (fun q hq e => hq (by injection e with e; rw [e]; exact L2.out.qb))))).set (p := ⟨g, k, none⟩) (.slice A' (l.length + 1) c') (fun e => e L2.out.qg))
    clear gA gD hd GF
    go_region_held3 (fun w' => w'.cell? ⟨sb, 0, none⟩ = some (.slice (some ⟨g, 0, none⟩) N cap) ∧ w'.cell? ⟨w.heap.size + 1, 0, none⟩ = some (.int .i64 (k : Int)) ∧ w'.cell? ⟨w.heap.size + 1, 1, none⟩ = some (.int .i64 m.b) ∧ w'.cell? ⟨w.heap.size, 0, none⟩ = some (.int .i64 x.i) ∧ w'.cell? ⟨w.heap.size, 6, none⟩ = some (.int .i64 x.c)) (first | with_reducible exact hS0 | with_reducible exact hS1 | with_reducible exact hS2 | with_reducible exact hS3) (refine step_append_run rfl (.tmp 33) (.tmp 43) 37 37 rfl _ _ (by simp [Act.eval, Act.put]) (by simp [Act.eval, Act.put]) hr ?_)
    all_goals
      clear hS0 hS1 hS2 hS3 c0 t0 t1 t2 t3 t4 t5 t6 t7 t8 m0 m1
      go_wp2_with fail
      go_ret
      exact .inr ⟨by omega, rfl, OF.out, AF.out⟩
end Go.Proofs.YtigbknmiidhblaaGreatDoor.ist
/- Chapter 9, plain mathematics: the store and the transaction behind a commit are valid; what was installed; counts and earlier states. -/
namespace Go.Proofs.YtigbknmiidhblaaGreatDoor.cq
open Go.Proofs.YtigbknmiidhblaaGreatDoor.el2 Go.Proofs.YtigbknmiidhblaaGreatDoor.tx Go.Proofs.YtigbknmiidhblaaGreatDoor.seq Go.Proofs.YtigbknmiidhblaaGreatDoor.tv Go.Proofs.YtigbknmiidhblaaGreatDoor.tf Go.Proofs.YtigbknmiidhblaaGreatDoor.rx Go.Proofs.YtigbknmiidhblaaGreatDoor.rl Go.Proofs.YtigbknmiidhblaaGreatDoor.rh Go.Proofs.YtigbknmiidhblaaGreatDoor.last Go.Proofs.YtigbknmiidhblaaGreatDoor.em Go.Proofs.YtigbknmiidhblaaGreatDoor.ct
open Go.Proofs.YtigbknmiidhblaaGreatDoor.sl (Ver)
open Go.Proofs.YtigbknmiidhblaaGreatDoor.st (cnt)
open Go.Proofs.YtigbknmiidhblaaGreatDoor.val (stB okL okL_ch_of okL_len okL_yes st_ok st_six)
open Go.Proofs.YtigbknmiidhblaaGreatDoor.find (fndI lastV atI vAt fnd_hit fnd_none)
open Go.Proofs.YtigbknmiidhblaaGreatDoor.ch (chB ch_of ch_yes ChP okV fol)
open Go.Proofs.YtigbknmiidhblaaGreatDoor.rd (raB raV rlB)
open Go.Proofs.YtigbknmiidhblaaGreatDoor.sa (saL saV RdOk saL_yes saL_not)
set_option linter.unusedVariables false
set_option linter.unusedSimpArgs false
/-- what a commit that happens rests on -/
structure Ok9 (C : List (List Ver)) (R S : List E2) (i z h : Int) : Prop where
  st : stB C = true
  rk : ∀ m ∈ R, 0 ≤ m.a ∧ m.a ≤ 5
  asc : wrB S = true
  idr : 1 ≤ i ∧ i ≤ 9
  zr : lstS C < z ∧ z ≤ 999
  hr : 1 ≤ h ∧ h ≤ z
  fit : fitB C S = true
theorem cm_ok {C : List (List Ver)} {x : Hd} {R S : List E2} {z : Int} (h : Go.Proofs.YtigbknmiidhblaaGreatDoor.ct.cmB C x R S z = true) : Ok9 C R S x.i z (fwH C x R S z) ∧ fwB C x R S z = true ∧ txB x R S = true ∧ x.t = 1 ∧ fwL C x R S z < fwH C x R S z := by
  simp only [Go.Proofs.YtigbknmiidhblaaGreatDoor.ct.cmB, mayB, Bool.and_eq_true, decide_eq_true_eq] at h
  obtain ⟨⟨hf, hl⟩, hfit⟩ := h
  obtain ⟨hr, ht, hu⟩ := fw_parts hf
  obtain ⟨hs, htx, _⟩ := rex_parts hr
  have hu2 := hu
  simp only [unB, Bool.and_eq_true, decide_eq_true_eq] at hu2
  have hl0 : 0 ≤ fwL C x R S z := by
    rw [fwL_yes hf]
    have := hdB_range htx
    have := rl_range C x R S
    omega
  have hh : fwH C x R S z ≤ z := by rw [fwH_yes hf]; omega
  have hi : 1 ≤ x.i ∧ x.i ≤ 9 := by
    have h2 := htx
    simp only [txB, hdB, Go.Proofs.YtigbknmiidhblaaGreatDoor.vers.In, Bool.and_eq_true, decide_eq_true_eq] at h2
    omega
  refine ⟨⟨hs, fun m hm => ?_, tx_wr htx, hi, hu2, ⟨by omega, hh⟩, hfit⟩, hf, htx, ht, hl⟩
  obtain ⟨j, hj, rfl⟩ := List.getElem_of_mem hm
  exact key_of htx (List.getElem?_eq_getElem hj)
/-- the transaction behind the commit is valid -/
theorem cm_tx {C : List (List Ver)} {x : Hd} {R S : List E2} {z : Int} (h : Go.Proofs.YtigbknmiidhblaaGreatDoor.ct.cmB C x R S z = true) : txB (cmX C x R S z) R S = true ∧ (cmX C x R S z).t = 2 ∧ (cmX C x R S z).i = x.i ∧ (cmX C x R S z).c = z ∧ 1 ≤ z := by
  obtain ⟨ok, hf, htx, ht, hl⟩ := cm_ok h
  have h0 := lst_range C
  have hz := ok.zr
  have hh := ok.hr
  have hl2 : 0 ≤ fwL C x R S z ∧ fwL C x R S z ≤ 999 := by
    rw [fwL_yes hf]
    have := hdB_range htx
    have := rl_range C x R S
    omega
  have e : cmX C x R S z = ⟨x.i, x.s, 2, x.b, fwL C x R S z, fwH C x R S z, z⟩ := if_pos h
  rw [e]
  refine ⟨?_, rfl, rfl, rfl, by omega⟩
  simp only [txB, hdB, Go.Proofs.YtigbknmiidhblaaGreatDoor.vers.In, Bool.and_eq_true, decide_eq_true_eq] at htx ⊢
  obtain ⟨⟨⟨⟨⟨⟨a1, a2⟩, a3⟩, _⟩, _⟩, a5⟩, a6⟩ := htx
  refine ⟨⟨⟨⟨⟨⟨a1, a2⟩, a3⟩, ⟨by omega, by omega⟩⟩, cm_yes (.inl ⟨rfl, by omega, by omega⟩)⟩, a5⟩, a6⟩
/-! the last stamp -/
theorem mxL_le : ∀ (l : List Ver) (m : Int), m ≤ mxL m l ∧ ∀ v ∈ l, v.c ≤ mxL m l ∧ v.d ≤ mxL m l
  | [], m => ⟨Int.le_refl _, fun v h => by cases h⟩
  | u :: r, m => by
    obtain ⟨h1, h2⟩ := mxL_le r (mxV m u)
    have e : mxL m (u :: r) = mxL (mxV m u) r := rfl
    rw [e]
    have hu : m ≤ mxV m u ∧ u.c ≤ mxV m u ∧ u.d ≤ mxV m u := by unfold mxV; omega
    refine ⟨by omega, fun v hv => ?_⟩
    rcases List.mem_cons.1 hv with rfl | hv
    · omega
    · exact h2 v hv
theorem mxS_le : ∀ (C : List (List Ver)) (m : Int), m ≤ C.foldl mxL m ∧ ∀ l ∈ C, ∀ v ∈ l, v.c ≤ C.foldl mxL m ∧ v.d ≤ C.foldl mxL m
  | [], m => ⟨Int.le_refl _, fun l h => by cases h⟩
  | u :: r, m => by
    obtain ⟨h1, h2⟩ := mxS_le r (mxL m u)
    obtain ⟨h3, h4⟩ := mxL_le u m
    have e : (u :: r).foldl mxL m = r.foldl mxL (mxL m u) := rfl
    rw [e]
    refine ⟨by omega, fun l hl v hv => ?_⟩
    rcases List.mem_cons.1 hl with rfl | hl
    · have := h4 v hv
      omega
    · exact h2 l hl v hv
theorem lst_le {C : List (List Ver)} (hs : stB C = true) : ∀ l ∈ C, ∀ v ∈ l, v.c ≤ lstS C ∧ v.d ≤ lstS C := by
  rw [lst_yes hs]
  exact (mxS_le C 0).2
section
variable {C : List (List Ver)} {R S : List E2} {i z h : Int}
theorem chOf_mem (hs : stB C = true) {k : Int} (h0 : 0 ≤ k) (h5 : k ≤ 5) : chOf C k ∈ C := by
  obtain ⟨l, hl, _, e⟩ := chain_key hs h0 h5
  rw [e]
  exact List.mem_of_getElem? hl
/-- behind the reads -/
theorem rd_all (hs : stB C = true) (hz : lstS C < z) (hR : ∀ m ∈ R, 0 ≤ m.a ∧ m.a ≤ 5) : ∀ n, n ≤ R.length → (rdK z C R n).length = C.length ∧ ∀ k : Int, 0 ≤ k → k ≤ 5 → Like z (chOf C k) (chOf (rdK z C R n) k)
  | 0, _ => ⟨rfl, fun k _ _ => Like.refl z _⟩
  | n + 1, hn => by
    obtain ⟨h1, h2⟩ := rd_all hs hz hR n (by omega)
    have hx : R[n]? = some R[n] := List.getElem?_eq_getElem (by omega)
    obtain ⟨m0, m5⟩ := hR _ (List.getElem_mem (show n < R.length by omega))
    rw [rdK_step hx]
    unfold rdC
    refine ⟨by rw [onK_len]; exact h1, fun k k0 k5 => ?_⟩
    rw [chOf_onK m0 k0 (by rw [h1, st_six hs]; omega)]
    have hk := h2 k k0 k5
    split
    · rename_i e
      subst e
      refine hk.trans (like_rd z _ (like_le hk fun v hv => ?_))
      have := (lst_le hs _ (chOf_mem hs k0 k5) v hv).2
      omega
    · exact hk
theorem wr_asc (h : wrB S = true) : ∀ (d i : Nat) (x y : E2), S[i]? = some x → S[i + d + 1]? = some y → x.a < y.a
  | 0, i, x, y, hx, hy => by
    have := (sq_of h).2 i x y hx hy
    simpa [folW] using this
  | d + 1, i, x, y, hx, hy => by
    have hl := lt_get hy
    have hz : S[i + 1]? = some (S[i + 1]'(by omega)) := List.getElem?_eq_getElem _
    have h1 := wr_asc h 0 i x _ hx hz
    have h2 := wr_asc h d (i + 1) _ y hz (by rw [show i + 1 + d + 1 = i + (d + 1) + 1 by omega]; exact hy)
    omega
theorem wr_ne (h : wrB S = true) {i j : Nat} {x y : E2} (hx : S[i]? = some x) (hy : S[j]? = some y) (hij : i < j) : x.a < y.a := wr_asc h (j - i - 1) i x y hx (by rw [show i + (j - i - 1) + 1 = j by omega]; exact hy)
theorem wr_key (h : wrB S = true) {j : Nat} {m : E2} (hm : S[j]? = some m) : 0 ≤ m.a ∧ m.a ≤ 5 ∧ -1 ≤ m.b ∧ m.b ≤ 99 := by
  have := (sq_of h).1 j m hm
  simp only [okW, Go.Proofs.YtigbknmiidhblaaGreatDoor.vers.In, Bool.and_eq_true, decide_eq_true_eq] at this
  omega
/-- behind the writes -/
theorem wr_all {C1 : List (List Ver)} (h6 : C1.length = 6) (hS : wrB S = true) : ∀ n, n ≤ S.length → (wrK i z h C1 S n).length = 6 ∧ (∀ j m, j < n → S[j]? = some m → chOf (wrK i z h C1 S n) m.a = wrL h (nwV i z m) (chOf C1 m.a)) ∧ ∀ k : Int, 0 ≤ k → (∀ j m, j < n → S[j]? = some m → m.a ≠ k) → chOf (wrK i z h C1 S n) k = chOf C1 k
  | 0, _ => ⟨h6, fun j m hj => absurd hj (by omega), fun k _ _ => rfl⟩
  | n + 1, hn => by
    obtain ⟨h1, h2, h3⟩ := wr_all h6 hS n (by omega)
    have hx : S[n]? = some S[n] := List.getElem?_eq_getElem (by omega)
    obtain ⟨m0, m5, _⟩ := wr_key hS hx
    rw [wrK_step hx]
    unfold wrC
    refine ⟨by rw [onK_len]; exact h1, fun j m hj hm => ?_, fun k k0 hk => ?_⟩
    · obtain ⟨q0, q5, _⟩ := wr_key hS hm
      rw [chOf_onK m0 q0 (by rw [h1]; omega)]
      by_cases e : j = n
      · subst e
        rw [hx] at hm
        injection hm with hm
        subst hm
        rw [if_pos rfl, h3 _ m0 fun j' m' hj' hm' e => ?_]
        have := wr_ne hS hm' hx hj'
        omega
      · have := wr_ne hS hm hx (by omega)
        rw [if_neg (by omega)]
        exact h2 j m (by omega) hm
    · rw [chOf_onK m0 k0 (by rw [h1]; omega), if_neg fun e => hk n _ (by omega) hx e.symm]
      exact h3 k k0 fun j m hj hm => hk j m (by omega) hm
/-- the chain of a key behind the commit -/
theorem ins_key (o : Ok9 C R S i z h) {k : Int} (k0 : 0 ≤ k) (k5 : k ≤ 5) : ∃ l1, Like z (chOf C k) l1 ∧ ((∃ m ∈ S, m.a = k ∧ chOf (insC C i z h R S) k = wrL h (nwV i z m) l1) ∨ ((∀ m ∈ S, m.a ≠ k) ∧ chOf (insC C i z h R S) k = l1)) := by
  obtain ⟨r1, r2⟩ := rd_all o.st o.zr.1 o.rk R.length (Nat.le_refl _)
  obtain ⟨w1, w2, w3⟩ := wr_all (i := i) (z := z) (h := h) (by rw [r1]; exact st_six o.st) o.asc S.length (Nat.le_refl _)
  refine ⟨_, r2 k k0 k5, ?_⟩
  by_cases e : ∃ m ∈ S, m.a = k
  · obtain ⟨m, hm, hk⟩ := e
    refine .inl ⟨m, hm, hk, ?_⟩
    obtain ⟨j, hj, rfl⟩ := List.getElem_of_mem hm
    subst hk
    exact w2 j _ hj (List.getElem?_eq_getElem hj)
  · have e2 : ∀ m ∈ S, m.a ≠ k := fun m hm hk => e ⟨m, hm, hk⟩
    exact .inr ⟨e2, w3 k k0 fun j m _ hm => e2 m (List.mem_of_getElem? hm)⟩
theorem ins_len (o : Ok9 C R S i z h) : (insC C i z h R S).length = 6 := by
  obtain ⟨r1, _⟩ := rd_all o.st o.zr.1 o.rk R.length (Nat.le_refl _)
  exact (wr_all (i := i) (z := z) (h := h) (by rw [r1]; exact st_six o.st) o.asc S.length (Nat.le_refl _)).1
/-- every creation that was there is before the stamp -/
theorem old_lt (o : Ok9 C R S i z h) {k : Int} (k0 : 0 ≤ k) (k5 : k ≤ 5) {l1 : List Ver} (hL : Like z (chOf C k) l1) : ∀ v ∈ l1, v.c < z := by
  intro v hv
  obtain ⟨j, hj, rfl⟩ := List.getElem_of_mem hv
  have hj2 : j < (chOf C k).length := by rw [← hL.1]; exact hj
  obtain ⟨_, _, e, _⟩ := hL.2 j _ _ (List.getElem?_eq_getElem hj2) (List.getElem?_eq_getElem hj)
  have := (lst_le o.st _ (chOf_mem o.st k0 k5) _ (List.getElem_mem hj2)).1
  have := o.zr.1
  omega
theorem nw_ok (o : Ok9 C R S i z h) {m : E2} (hm : m ∈ S) : okV (nwV i z m) = true := by
  obtain ⟨j, hj, rfl⟩ := List.getElem_of_mem hm
  obtain ⟨_, _, b1, b2⟩ := wr_key o.asc (List.getElem?_eq_getElem hj)
  obtain ⟨i1, i2⟩ := o.idr
  obtain ⟨z1, z2⟩ := o.zr
  have := lst_range C
  refine decide_eq_true (show Go.Proofs.YtigbknmiidhblaaGreatDoor.vers.vP i S[j].b z z 1000 from ?_)
  exact ⟨b1, b2, by omega, z2, Int.le_refl _, z2, by omega, by omega, fun e => by omega, fun _ => ⟨i1, i2⟩⟩
/-- the store behind the commit is valid -/
theorem ins_st (o : Ok9 C R S i z h) : stB (insC C i z h R S) = true := by
  have h6 := ins_len o
  simp only [stB, Bool.and_eq_true, decide_eq_true_eq, List.all_eq_true]
  refine ⟨h6, fun l hl => ?_⟩
  obtain ⟨j, hj, rfl⟩ := List.getElem_of_mem hl
  have k0 : (0 : Int) ≤ (j : Int) := by omega
  have k5 : (j : Int) ≤ 5 := by omega
  have hg := List.getElem?_eq_getElem hj
  have hc : chOf (insC C i z h R S) (j : Int) = (insC C i z h R S)[j] := ch_at hg
  obtain ⟨l0, hl0, hch0, e0⟩ := chain_key o.st k0 k5
  have hlen0 : l0.length ≤ 50 := okL_len (st_ok o.st hl0)
  obtain ⟨l1, hL, hw⟩ := ins_key o k0 k5
  rw [e0] at hL
  have hc1 := like_ch hL o.zr.2 hch0
  rcases hw with ⟨m, hm, hk, e⟩ | ⟨_, e⟩
  · rw [hc] at e
    rw [e]
    refine okL_yes (wr_ch hc1 (nw_ok o hm) rfl o.hr.1 o.hr.2 ?_) ?_
    · obtain ⟨y, hy, hly, _⟩ := last_at hc1
      rw [hly]
      exact old_lt o k0 k5 (by rw [e0]; exact hL) y (List.mem_of_getElem? hy)
    · have hf := o.fit
      simp only [fitB, List.all_eq_true, decide_eq_true_eq] at hf
      have := hf m hm
      rw [hk, e0] at this
      have := hL.1
      simp only [wrL, List.length_append, atJ_len, List.length_cons, List.length_nil]
      omega
  · rw [hc] at e
    rw [e]
    exact okL_yes hc1 (by rw [hL.1]; exact hlen0)
/-! what was installed -/
/-- the version of the key k that the transaction i installed at z -/
noncomputable def instV (C : List (List Ver)) (i z : Int) (k : Nat) : Option Ver := if hasV C ⟨k, z⟩ = true ∧ (verOf C ⟨k, z⟩).a = i then some (verOf C ⟨k, z⟩) else none
noncomputable def instK (C : List (List Ver)) (i z : Int) (n : Nat) : List Ver := (List.range n).filterMap (instV C i z)
/-- the commit stamp of a transaction, 0 without one -/
noncomputable def cstI (x : Hd) (R S : List E2) : Int := if txB x R S = true ∧ x.t = 2 then x.c else 0
noncomputable def instB (C : List (List Ver)) (x : Hd) (R S : List E2) : Bool := decide (cstI x R S ≠ 0) && stB C
noncomputable def instL (C : List (List Ver)) (x : Hd) (R S : List E2) : List Ver := if instB C x R S = true then instK C x.i (cstI x R S) 6 else []
theorem cst_yes {x : Hd} {R S : List E2} (h1 : txB x R S = true) (h2 : x.t = 2) : cstI x R S = x.c := if_pos ⟨h1, h2⟩
theorem cst_tx {x : Hd} {R S : List E2} (h1 : txB x R S = false) : cstI x R S = 0 := if_neg (by rw [h1]; simp)
theorem cst_t {x : Hd} {R S : List E2} (h2 : ¬ x.t = 2) : cstI x R S = 0 := if_neg fun h => h2 h.2
theorem cst_range (x : Hd) (R S : List E2) : 0 ≤ cstI x R S ∧ cstI x R S ≤ 999 := by
  unfold cstI
  split
  · rename_i h
    obtain ⟨h1, h2⟩ := h
    simp only [txB, hdB, Bool.and_eq_true] at h1
    have := of_decide_eq_true h1.1.1.2
    unfold cmP at this
    omega
  · omega
theorem instK_step (C : List (List Ver)) (i z : Int) (n : Nat) : instK C i z (n + 1) = instK C i z n ++ (instV C i z n).toList := by
  unfold instK
  rw [List.range_succ, List.filterMap_append]
  cases h : instV C i z n <;> simp [h]
theorem instV_no {C : List (List Ver)} {i z : Int} {k : Nat} (h : hasV C ⟨k, z⟩ = false) : instV C i z k = none := if_neg (by rw [h]; simp)
theorem instV_ne {C : List (List Ver)} {i z : Int} {k : Nat} (h : (verOf C ⟨k, z⟩).a ≠ i) : instV C i z k = none := if_neg fun e => h e.2
theorem instV_yes {C : List (List Ver)} {i z : Int} {k : Nat} {v : Ver} (h : hasV C ⟨k, z⟩ = true) (hv : verOf C ⟨k, z⟩ = v) (ha : v.a = i) : instV C i z k = some v := by
  unfold instV
  rw [hv, if_pos ⟨h, ha⟩]
theorem fnd_last {l : List Ver} {v : Ver} (hl : ∀ u ∈ l, u.c ≠ v.c) : fndI v.c (l ++ [v]) 0 = (l.length : Int) := by
  have hu := fnd_upto (l := l ++ [v]) (c := v.c) l.length (by simp) (fun j x hj hx => by
    rw [List.getElem?_append_left hj] at hx
    exact hl x (List.mem_of_getElem? hx))
  exact (fnd_hit hu (by rw [List.getElem?_append_right (Nat.le_refl _)]; simp) rfl).symm
theorem fnd_non {l : List Ver} {c : Int} (hl : ∀ u ∈ l, u.c ≠ c) : fndI c l 0 = -1 :=
  (fnd_none (fnd_upto l.length (Nat.le_refl _) (fun j x _ hx => hl x (List.mem_of_getElem? hx))) (Nat.le_refl _)).symm
theorem atJ_mem {f : Ver → Ver} {l : List Ver} {j : Nat} {u : Ver} (h : u ∈ atJ f l j) : ∃ v ∈ l, u = v ∨ u = f v := by
  obtain ⟨k, hk, rfl⟩ := List.getElem_of_mem h
  obtain ⟨v, hv, e⟩ := atJ_get (List.getElem?_eq_getElem hk)
  refine ⟨v, List.mem_of_getElem? hv, ?_⟩
  split at e
  · exact .inr e
  · exact .inl e
theorem inst_at (o : Ok9 C R S i z h) (k : Nat) (hk : k < 6) : instV (insC C i z h R S) i z k = ((S.find? fun m => decide (m.a = (k : Int))).map (nwV i z)) := by
  have k0 : (0 : Int) ≤ (k : Int) := by omega
  have k5 : (k : Int) ≤ 5 := by omega
  obtain ⟨l1, hL, hw⟩ := ins_key o k0 k5
  have hold := old_lt o k0 k5 hL
  rcases hw with ⟨m, hm, hmk, e⟩ | ⟨hno, e⟩
  · have hf : S.find? (fun m => decide (m.a = (k : Int))) = some m := by
      rcases hff : S.find? (fun m => decide (m.a = (k : Int))) with _ | m'
      · have := List.find?_eq_none.1 hff m hm
        simp [hmk] at this
      · have hm' := List.mem_of_find?_eq_some hff
        have he := List.find?_some hff
        simp only [decide_eq_true_eq] at he
        obtain ⟨j, hj, rfl⟩ := List.getElem_of_mem hm
        obtain ⟨j', hj', rfl⟩ := List.getElem_of_mem hm'
        rcases Nat.lt_trichotomy j j' with h1 | h1 | h1
        · have := wr_ne o.asc (List.getElem?_eq_getElem hj) (List.getElem?_eq_getElem hj') h1
          omega
        · subst h1; exact hff
        · have := wr_ne o.asc (List.getElem?_eq_getElem hj') (List.getElem?_eq_getElem hj) h1
          omega
    rw [hf]
    have hfn : fndI z (wrL h (nwV i z m) l1) 0 = ((atJ (suV h) l1 (l1.length - 1)).length : Int) := by
      refine fnd_last (v := nwV i z m) fun u hu => ?_
      obtain ⟨v, hv, e2⟩ := atJ_mem hu
      have := hold v hv
      have h3 : u.c = v.c := by rcases e2 with rfl | rfl <;> rfl
      show u.c ≠ z
      omega
    have hh : hasV (insC C i z h R S) ⟨(k : Int), z⟩ = true := by
      unfold hasV
      rw [e, hfn]
      exact decide_eq_true (by omega)
    refine instV_yes hh ?_ rfl
    unfold verOf
    rw [e, hfn]
    unfold wrL
    rw [Int.toNat_natCast]
    unfold List.getD
    rw [List.getElem?_append_right (Nat.le_refl _)]
    simp
  · have hf : S.find? (fun m => decide (m.a = (k : Int))) = none := by
      rw [List.find?_eq_none]
      intro m hm
      simp [hno m hm]
    rw [hf]
    refine instV_no ?_
    unfold hasV
    rw [e, fnd_non fun u hu => by have := hold u hu; show u.c ≠ z; omega]
    rfl
theorem find_split : ∀ {S : List E2} (n : Int), List.Pairwise (fun a b : E2 => a.a < b.a) S → S.filter (fun m => decide (m.a < n + 1)) = S.filter (fun m => decide (m.a < n)) ++ (S.find? fun m => decide (m.a = n)).toList
  | [], n, _ => rfl
  | m :: r, n, hp => by
    rw [List.pairwise_cons] at hp
    have ih := find_split n hp.2
    rcases Int.lt_trichotomy m.a n with h1 | h1 | h1
    · rw [List.filter_cons, if_pos (by simp; omega), List.filter_cons, if_pos (by simp; omega), List.find?_cons_of_neg (by simp; omega), ih]
      rfl
    · have he : ∀ n', n' ≤ m.a + 1 → r.filter (fun m => decide (m.a < n')) = [] := fun n' hn' => by
        rw [List.filter_eq_nil_iff]
        intro q hq
        have := hp.1 q hq
        simp
        omega
      rw [List.filter_cons, if_pos (by simp; omega), List.filter_cons, if_neg (by simp; omega), List.find?_cons_of_pos (by simp; omega), he _ (by omega), he _ (by omega)]
      rfl
    · have he : ∀ n', n' ≤ m.a → r.filter (fun m => decide (m.a < n')) = [] := fun n' hn' => by
        rw [List.filter_eq_nil_iff]
        intro q hq
        have := hp.1 q hq
        simp
        omega
      have hfn : r.find? (fun m => decide (m.a = n)) = none := by
        rw [List.find?_eq_none]
        intro q hq
        have := hp.1 q hq
        simp
        omega
      rw [List.filter_cons, if_neg (by simp; omega), List.filter_cons, if_neg (by simp; omega), List.find?_cons_of_neg (by simp; omega), he _ (by omega), he _ (by omega), hfn]
      rfl
theorem wr_pair (h : wrB S = true) : List.Pairwise (fun a b : E2 => a.a < b.a) S := by
  rw [List.pairwise_iff_getElem]
  intro i j hi hj hij
  exact wr_ne h (List.getElem?_eq_getElem hi) (List.getElem?_eq_getElem hj) hij
theorem inst_k (o : Ok9 C R S i z h) : ∀ n, n ≤ 6 → instK (insC C i z h R S) i z n = (S.filter (fun m => decide (m.a < (n : Int)))).map (nwV i z)
  | 0, _ => by
    have : S.filter (fun m => decide (m.a < ((0 : Nat) : Int))) = [] := by
      rw [List.filter_eq_nil_iff]
      intro m hm
      obtain ⟨j, hj, rfl⟩ := List.getElem_of_mem hm
      have := wr_key o.asc (List.getElem?_eq_getElem hj)
      simp
      omega
    rw [this]
    rfl
  | n + 1, hn => by
    rw [instK_step, inst_k o n (by omega), inst_at o n (by omega), Int.natCast_add, Int.natCast_one, find_split _ (wr_pair o.asc), List.map_append]
    congr 1
    cases S.find? _ <;> rfl
/-- one version for each write -/
theorem inst_all (o : Ok9 C R S i z h) : instK (insC C i z h R S) i z 6 = S.map (nwV i z) := by
  rw [inst_k o 6 (Nat.le_refl _)]
  congr 1
  rw [List.filter_eq_self]
  intro m hm
  obtain ⟨j, hj, rfl⟩ := List.getElem_of_mem hm
  have := wr_key o.asc (List.getElem?_eq_getElem hj)
  simp
  omega
theorem inst_cm {x : Hd} (hc : Go.Proofs.YtigbknmiidhblaaGreatDoor.ct.cmB C x R S z = true) : instL (cmC C x R S z) (cmX C x R S z) R S = S.map (nwV x.i z) ∧ cstI (cmX C x R S z) R S = z ∧ stB (cmC C x R S z) = true := by
  obtain ⟨ok, hf, htx, ht, hl⟩ := cm_ok hc
  obtain ⟨t1, t2, t3, t4, t5⟩ := cm_tx hc
  have e : cmC C x R S z = insC C x.i z (fwH C x R S z) R S := if_pos hc
  have hcs : cstI (cmX C x R S z) R S = z := by rw [cst_yes t1 t2, t4]
  have hst : stB (cmC C x R S z) = true := by rw [e]; exact ins_st ok
  have hb : instB (cmC C x R S z) (cmX C x R S z) R S = true := by
    unfold instB
    rw [hcs, hst, decide_eq_true (show z ≠ 0 by omega)]
    rfl
  refine ⟨?_, hcs, hst⟩
  unfold instL
  rw [if_pos hb, t3, hcs, e]
  exact inst_all ok
/-! counts -/
theorem sum_set : ∀ (l : List Nat) (k : Nat) (x : Nat), k < l.length → (l.set k x).sum + l.getD k 0 = l.sum + x
  | [], k, x, h => by simp at h
  | a :: r, 0, x, h => by simp [List.getD]; omega
  | a :: r, k + 1, x, h => by
    have := sum_set r k x (by simpa using h)
    simp only [List.getD] at this
    simp only [List.set_cons_succ, List.sum_cons, List.getD, List.getElem?_cons_succ]
    omega
theorem cnt_onK {f : List Ver → List Ver} {k : Int} (hk : k.toNat < C.length) : cnt (onK f C k) + (chOf C k).length = cnt C + (f (chOf C k)).length := by
  unfold cnt onK
  rw [List.map_set]
  have := sum_set (C.map List.length) k.toNat (f (chOf C k)).length (by simpa using hk)
  rw [← this]
  congr 1
  simp [chOf, List.getD, List.getElem?_map]
  cases C[k.toNat]? <;> rfl
theorem cnt_rd (h6 : C.length = 6) (hR : ∀ m ∈ R, 0 ≤ m.a ∧ m.a ≤ 5) : ∀ n, n ≤ R.length → (rdK z C R n).length = 6 ∧ cnt (rdK z C R n) = cnt C
  | 0, _ => ⟨h6, rfl⟩
  | n + 1, hn => by
    obtain ⟨h1, h2⟩ := cnt_rd h6 hR n (by omega)
    have hx : R[n]? = some R[n] := List.getElem?_eq_getElem (by omega)
    obtain ⟨m0, m5⟩ := hR _ (List.getElem_mem (show n < R.length by omega))
    rw [rdK_step hx]
    unfold rdC
    refine ⟨by rw [onK_len]; exact h1, ?_⟩
    have := cnt_onK (f := rdL z R[n].b) (C := rdK z C R n) (k := R[n].a) (by omega)
    have e1 : ∀ l, (rdL z R[n].b l).length = l.length := fun l => atJ_len _ _ _
    rw [e1] at this
    omega
theorem cnt_wr {C1 : List (List Ver)} (h6 : C1.length = 6) (hS : wrB S = true) : ∀ n, n ≤ S.length → (wrK i z h C1 S n).length = 6 ∧ cnt (wrK i z h C1 S n) = cnt C1 + n
  | 0, _ => ⟨h6, rfl⟩
  | n + 1, hn => by
    obtain ⟨h1, h2⟩ := cnt_wr h6 hS n (by omega)
    have hx : S[n]? = some S[n] := List.getElem?_eq_getElem (by omega)
    obtain ⟨m0, m5, _⟩ := wr_key hS hx
    rw [wrK_step hx]
    unfold wrC
    refine ⟨by rw [onK_len]; exact h1, ?_⟩
    have := cnt_onK (f := wrL h (nwV i z S[n])) (C := wrK i z h C1 S n) (k := S[n].a) (by omega)
    have e1 : ∀ l, (wrL h (nwV i z S[n]) l).length = l.length + 1 := fun l => by simp [wrL, atJ_len]
    rw [e1] at this
    omega
theorem ins_cnt (o : Ok9 C R S i z h) : cnt (insC C i z h R S) = cnt C + S.length := by
  obtain ⟨r1, r2⟩ := cnt_rd (z := z) (st_six o.st) o.rk R.length (Nat.le_refl _)
  rw [← r2]
  exact (cnt_wr (i := i) (z := z) (h := h) r1 o.asc S.length (Nat.le_refl _)).2
/-! earlier states -/
/-- l' begins with versions of the creations and values of l -/
def Beg (l l' : List Ver) : Prop := ∀ k, k < l.length → (l'.getD k default).c = (l.getD k default).c ∧ (l'.getD k default).b = (l.getD k default).b
theorem beg_at {l l' : List Ver} {s : Int} (h : Beg l l') : ∀ n, n ≤ l.length → atI s l' n = atI s l n
  | 0, _ => rfl
  | n + 1, hn => by
    unfold atI
    rw [(h n (by omega)).1, beg_at h n (by omega)]
theorem like_beg {l l' : List Ver} (h : Like z l l') : Beg l l' := fun k hk => by
  have hk' : k < l'.length := by rw [h.1]; exact hk
  obtain ⟨_, b, c, _⟩ := h.2 k _ _ (List.getElem?_eq_getElem hk) (List.getElem?_eq_getElem hk')
  simp only [List.getD, List.getElem?_eq_getElem hk, List.getElem?_eq_getElem hk', Option.getD_some]
  exact ⟨c, b⟩
theorem wr_beg {l : List Ver} (v : Ver) (h : Int) : Beg l (wrL h v l) := fun k hk => by
  have h1 : (wrL h v l).getD k default = (atJ (suV h) l (l.length - 1)).getD k default := by
    unfold wrL
    simp only [List.getD]
    rw [List.getElem?_append_left (by rw [atJ_len]; exact hk)]
  have hk' : k < (atJ (suV h) l (l.length - 1)).length := by rw [atJ_len]; exact hk
  obtain ⟨u, hu, e⟩ := atJ_get (List.getElem?_eq_getElem hk')
  rw [h1]
  simp only [List.getD, List.getElem?_eq_getElem hk', hu, Option.getD_some]
  rw [e]
  split <;> exact ⟨rfl, rfl⟩
theorem Beg.trans {l l' l'' : List Ver} (h : Beg l l') (h2 : Beg l' l'') (hl : l'.length = l.length) : Beg l l'' := fun k hk =>
  ⟨(h2 k (by omega)).1.trans (h k hk).1, (h2 k (by omega)).2.trans (h k hk).2⟩
/-- an earlier stamp finds the same place with the same value -/
theorem ins_at (o : Ok9 C R S i z h) {s k : Int} (hs : s < z) (k0 : 0 ≤ k) (k5 : k ≤ 5) : vAt (chOf (insC C i z h R S) k) s = vAt (chOf C k) s ∧ ∀ j : Nat, j < (chOf C k).length → ((chOf (insC C i z h R S) k).getD j default).b = ((chOf C k).getD j default).b := by
  obtain ⟨l0, hl0, hch0, e0⟩ := chain_key o.st k0 k5
  obtain ⟨l1, hL, hw⟩ := ins_key o k0 k5
  have h6 := ins_len o
  have hst := ins_st o
  obtain ⟨l9, _, hch9, e9⟩ := chain_key hst k0 k5
  have hb : Beg (chOf C k) (chOf (insC C i z h R S) k) := by
    rcases hw with ⟨m, hm, hk, e⟩ | ⟨_, e⟩
    · rw [e]; exact (like_beg hL).trans (wr_beg _ _) hL.1
    · rw [e]; exact like_beg hL
  refine ⟨?_, fun j hj => (hb j hj).2⟩
  have q0 : chB (chOf C k) = true := by rw [e0]; exact hch0
  have q9 : chB (chOf (insC C i z h R S) k) = true := by rw [e9]; exact hch9
  rw [vAt, if_pos q9, vAt, if_pos q0, ← beg_at hb _ (Nat.le_refl _)]
  rcases hw with ⟨m, hm, hk, e⟩ | ⟨_, e⟩
  · have hlen : (chOf (insC C i z h R S) k).length = (chOf C k).length + 1 := by
      rw [e]
      simp only [wrL, List.length_append, atJ_len, List.length_cons, List.length_nil, hL.1]
    rw [hlen]
    have hlast : (chOf (insC C i z h R S) k)[(chOf C k).length]? = some (nwV i z m) := by
      rw [e]
      unfold wrL
      rw [List.getElem?_append_right (by rw [atJ_len, hL.1]; exact Nat.le_refl _), atJ_len, hL.1]
      simp
    exact Go.Proofs.YtigbknmiidhblaaGreatDoor.find.at_miss hlast (by show ¬ z ≤ s; omega)
  · have hlen : (chOf (insC C i z h R S) k).length = (chOf C k).length := by rw [e]; exact hL.1
    rw [hlen]
theorem ins_ra (o : Ok9 C R S i z h) {s k : Int} (hs : s < z) (k0 : 0 ≤ k) (k5 : k ≤ 5) : raB (insC C i z h R S) k s = raB C k s ∧ (raV (insC C i z h R S) k s).b = (raV C k s).b := by
  obtain ⟨h1, h2⟩ := ins_at o hs k0 k5
  have hb : raB (insC C i z h R S) k s = raB C k s := by
    unfold raB rlB
    rw [ins_st o, o.st]
    show (_ && decide (0 ≤ vAt (chOf (insC C i z h R S) k) s)) = (_ && decide (0 ≤ vAt (chOf C k) s))
    rw [h1]
  refine ⟨hb, ?_⟩
  unfold raV
  rw [hb]
  split
  · rename_i hra
    show ((chOf (insC C i z h R S) k).getD (vAt (chOf (insC C i z h R S) k) s).toNat default).b = ((chOf C k).getD (vAt (chOf C k) s).toNat default).b
    rw [h1]
    refine h2 _ ?_
    obtain ⟨l0, hl0, hch0, e0⟩ := chain_key o.st k0 k5
    have hr := Go.Proofs.YtigbknmiidhblaaGreatDoor.rd.vAt_range s (l := chOf C k) (by rw [e0]; exact hch0)
    simp only [raB, Bool.and_eq_true, decide_eq_true_eq] at hra
    have := hra.2
    have h3 : 0 ≤ vAt (chOf C k) s := this
    omega
  · rfl
theorem ins_sa (o : Ok9 C R S i z h) : saL (insC C i z h R S) (z - 1) = saL C (z - 1) := by
  have hs : z - 1 < z := by omega
  have e : saV (insC C i z h R S) (z - 1) 6 = saV C (z - 1) 6 := by
    unfold saV
    refine List.map_congr_left fun k hk => ?_
    rw [List.mem_range] at hk
    exact (ins_ra o hs (by omega) (by omega)).2
  by_cases h1 : RdOk C (z - 1) 6
  · have h2 : RdOk (insC C i z h R S) (z - 1) 6 := fun k hk => by rw [(ins_ra o hs (by omega) (by omega)).1]; exact h1 k hk
    rw [saL_yes h1, saL_yes h2, e]
  · have h2 : ¬ RdOk (insC C i z h R S) (z - 1) 6 := fun hh => h1 fun k hk => by rw [← (ins_ra o hs (by omega) (by omega)).1]; exact hh k hk
    rw [saL_not h1, saL_not h2]
end
end Go.Proofs.YtigbknmiidhblaaGreatDoor.cq
/- The program's apply: it reads and installs in a store of one's own, and puts it back where a chain is full. -/
namespace Go.Proofs.YtigbknmiidhblaaGreatDoor.apl
open Go.ChangeShapes Go.WideShapes Go.ChangeAt Go.RowKit
open Go.Proofs.YtigbknmiidhblaaGreatDoor.sl Go.Proofs.YtigbknmiidhblaaGreatDoor.st Go.Proofs.YtigbknmiidhblaaGreatDoor.flat Go.Proofs.YtigbknmiidhblaaGreatDoor.os Go.Proofs.YtigbknmiidhblaaGreatDoor.oq Go.Proofs.YtigbknmiidhblaaGreatDoor.av Go.Proofs.YtigbknmiidhblaaGreatDoor.oc Go.Proofs.YtigbknmiidhblaaGreatDoor.ist Go.Proofs.YtigbknmiidhblaaGreatDoor.cs
open Go.Proofs.YtigbknmiidhblaaGreatDoor.el2 (new1 E2)
open Go.Proofs.YtigbknmiidhblaaGreatDoor.tx (Hd TB)
open Go.Proofs.YtigbknmiidhblaaGreatDoor.tv (wrB)
open Go.Proofs.YtigbknmiidhblaaGreatDoor.val (stB)
open Go.Proofs.YtigbknmiidhblaaGreatDoor.last (lstS)
open Go.Proofs.YtigbknmiidhblaaGreatDoor.find (fndI)
open Go.Proofs.YtigbknmiidhblaaGreatDoor.rx (chOf ch_at hasV vsd fnd_lt)
open Go.Proofs.YtigbknmiidhblaaGreatDoor.ct (rdV suV nwV atJ rdL wrL onK rdC wrC atJ_at atJ_len rdK wrK insC fitB rdK_step wrK_step Like like_fnd)
set_option linter.unusedVariables false
set_option linter.unusedSimpArgs false
set_option linter.constructorNameAsVariable false
/-! what the walk finds -/
section
variable {C : List (List Ver)} {R S : List E2} {i z h : Int}
theorem all_get {p : E2 → Bool} {l : List E2} (h : l.all p = true) {k : Nat} {m : E2} (hm : l[k]? = some m) : p m = true := by
  rw [List.all_eq_true] at h
  exact h m (List.mem_of_getElem? hm)
theorem get_key {C : List (List Ver)} (h6 : C.length = 6) {a : Int} (h0 : 0 ≤ a) (h5 : a ≤ 5) : ∃ kk : Nat, a = (kk : Int) ∧ kk < 6 ∧ C[kk]? = some (chOf C a) := by
  refine ⟨a.toNat, by omega, by omega, ?_⟩
  have hk : a.toNat < C.length := by omega
  rw [List.getElem?_eq_getElem hk]
  exact congrArg some (ch_at (List.getElem?_eq_getElem hk)).symm
theorem rd_at (hs : stB C = true) (hz : lstS C < z) (hR : ∀ m ∈ R, 0 ≤ m.a ∧ m.a ≤ 5) (hall : R.all (hasV C) = true) {k : Nat} {m : E2} (hm : R[k]? = some m) :
    ∃ (kk : Nat) (l : List Ver) (j : Nat) (x : Ver), m.a = (kk : Int) ∧ kk < 6 ∧ (rdK z C R k)[kk]? = some l ∧ l.length ≤ 50 ∧ 0 < l.length ∧ fndI m.b l 0 = (j : Int) ∧ l[j]? = some x := by
  have hk := Go.Proofs.YtigbknmiidhblaaGreatDoor.el2.lt_get hm
  obtain ⟨h1, h2⟩ := Go.Proofs.YtigbknmiidhblaaGreatDoor.cq.rd_all hs hz hR k (by omega)
  obtain ⟨m0, m5⟩ := hR m (List.mem_of_getElem? hm)
  have h6 := Go.Proofs.YtigbknmiidhblaaGreatDoor.val.st_six hs
  obtain ⟨kk, e1, e2, e3⟩ := get_key (C := rdK z C R k) (by rw [h1]; exact h6) m0 m5
  have hL := h2 m.a m0 m5
  obtain ⟨l0, hl0, hch0, e0⟩ := Go.Proofs.YtigbknmiidhblaaGreatDoor.em.chain_key hs m0 m5
  have hlen : l0.length ≤ 50 := Go.Proofs.YtigbknmiidhblaaGreatDoor.val.okL_len (Go.Proofs.YtigbknmiidhblaaGreatDoor.val.st_ok hs hl0)
  have hh := all_get hall hm
  unfold hasV at hh
  rw [decide_eq_true_eq] at hh
  have hf := like_fnd (c := m.b) 0 hL
  rw [← hf] at hh
  obtain ⟨j, hj, hjl⟩ := fnd_lt hh
  have hl1 := hL.1
  rw [e0] at hl1
  exact ⟨kk, _, j, _, e1, e2, e3, by omega, by omega, hj, List.getElem?_eq_getElem hjl⟩
theorem wr_at (hs : stB C = true) (hz : lstS C < z) (hR : ∀ m ∈ R, 0 ≤ m.a ∧ m.a ≤ 5) (hS : wrB S = true) {k : Nat} {m : E2} (hm : S[k]? = some m) :
    ∃ (kk : Nat) (l : List Ver), m.a = (kk : Int) ∧ kk < 6 ∧ (wrK i z h (rdK z C R R.length) S k)[kk]? = some l ∧ l.length ≤ 50 ∧ 0 < l.length ∧ l.length = (chOf C m.a).length := by
  have hk := Go.Proofs.YtigbknmiidhblaaGreatDoor.el2.lt_get hm
  obtain ⟨h1, h2⟩ := Go.Proofs.YtigbknmiidhblaaGreatDoor.cq.rd_all hs hz hR R.length (Nat.le_refl _)
  have h6 := Go.Proofs.YtigbknmiidhblaaGreatDoor.val.st_six hs
  obtain ⟨w1, w2, w3⟩ := Go.Proofs.YtigbknmiidhblaaGreatDoor.cq.wr_all (i := i) (z := z) (h := h) (C1 := rdK z C R R.length) (by rw [h1]; exact h6) hS k (by omega)
  obtain ⟨m0, m5, _⟩ := Go.Proofs.YtigbknmiidhblaaGreatDoor.cq.wr_key hS hm
  obtain ⟨kk, e1, e2, e3⟩ := get_key (C := wrK i z h (rdK z C R R.length) S k) w1 m0 m5
  have e4 := w3 m.a m0 fun j m' hj hm' e => by
    have := Go.Proofs.YtigbknmiidhblaaGreatDoor.cq.wr_ne hS hm' hm hj
    omega
  have hL := h2 m.a m0 m5
  obtain ⟨l0, hl0, hch0, e0⟩ := Go.Proofs.YtigbknmiidhblaaGreatDoor.em.chain_key hs m0 m5
  have hlen : l0.length ≤ 50 := Go.Proofs.YtigbknmiidhblaaGreatDoor.val.okL_len (Go.Proofs.YtigbknmiidhblaaGreatDoor.val.st_ok hs hl0)
  have hpos := Go.Proofs.YtigbknmiidhblaaGreatDoor.val.ch_len hch0
  have hl1 := hL.1
  rw [← e4] at hl1
  rw [e0] at hl1
  exact ⟨kk, _, e1, e2, e3, by omega, by omega, by rw [e0]; exact hl1⟩
theorem fit_yes (hf : ∀ (j : Nat) (m : E2), j < S.length → S[j]? = some m → (chOf C m.a).length < 50) : fitB C S = true := by
  simp only [fitB, List.all_eq_true, decide_eq_true_eq]
  intro m hm
  obtain ⟨j, hj, rfl⟩ := List.getElem_of_mem hm
  exact hf j _ hj (List.getElem?_eq_getElem hj)
theorem fit_no {j : Nat} {m : E2} (hm : S[j]? = some m) (hf : 50 ≤ (chOf C m.a).length) : fitB C S = false := by
  rw [Bool.eq_false_iff]
  intro h
  simp only [fitB, List.all_eq_true, decide_eq_true_eq] at h
  have := h m (List.mem_of_getElem? hm)
  omega
theorem st_len50 (hs : stB C = true) : ∀ l ∈ C, l.length ≤ 50 := by
  intro l hl
  obtain ⟨j, hj, rfl⟩ := List.getElem_of_mem hl
  exact Go.Proofs.YtigbknmiidhblaaGreatDoor.val.okL_len (Go.Proofs.YtigbknmiidhblaaGreatDoor.val.st_ok hs (List.getElem?_eq_getElem hj))
end
set_option maxRecDepth 100000 in
theorem undo {w : World} (ok : Bool) (ob bb pb sb : Nat) {A A2 : Option Addr} {n c n2 c2 : Nat} (h0 : w.cell? ⟨ob, 0, none⟩ = some (.bool ok)) (h1 : w.cell? ⟨bb, 0, none⟩ = some (.slice A n c)) (h2 : w.cell? ⟨pb, 0, none⟩ = some (.pointer (some ⟨sb, 0, none⟩))) (h3 : w.cell? ⟨sb, 0, none⟩ = some (.slice A2 n2 c2)) (h4 : w.frozen? ⟨sb, 0, none⟩ = false) :
    CallsD Tryz.prog 78 #[.pointer (some ⟨ob, 0, none⟩), .pointer (some ⟨bb, 0, none⟩), .pointer (some ⟨pb, 0, none⟩)] .returning w fun e u' w' => u' = .returning ∧ (e = .returned (.tuple #[]) ∧ w' = if ok = true then w else w.setCell ⟨sb, 0, none⟩ (.slice A n c)) := by
  cases ok
  · go_enter_d Tryz.func78, Tryz.ntmps78
    go_wp2
    first | go_end0 | refine bodyPost_ret (results_none rfl _ _ _) rfl ?_
    exact ⟨rfl, by simp⟩
  · go_enter_d Tryz.func78, Tryz.ntmps78
    go_wp2
    first | go_end0 | refine bodyPost_ret (results_none rfl _ _ _) rfl ?_
    exact ⟨rfl, by simp⟩
/-- versionOf in a store of one's own: the place of a version that is there -/
theorem impl_vofq {w : World} {Q : Nat → Prop} {N k : Nat} {v : Value} {l : List Ver} {g cap b c j : Nat} (m : E2) (sb : Nat) (hsb : sb < w.heap.size) (hs : w.cell? ⟨sb, 0, none⟩ = some v) (hk : m.a = (k : Int)) (hkn : k < N) (hl : l.length ≤ 2000000) (hL : Lies w Q v N k l g cap b c) (hj : fndI m.b l 0 = (j : Int)) (hjl : j < l.length) :
    Calls Tryz.prog 46 #[.pointer (some ⟨sb, 0, none⟩), .agg #[.int .i64 m.a, .int .i64 m.b]] w fun e w' => e = .returned (.pointer (some ⟨b, j * 5, none⟩)) ∧ Below w.heap.size w w' := by
  obtain rfl := hL.out
  have gl := hL.gl
  have d0 := hL.cell
  have HV0 := Lib.hid hL.vs
  have HZ := Lib.hid hj
  have k1 : (k : Int) < (N : Int) := by omega
  rw [hk]
  clear hL hj
  go_enter Tryz.func46, Tryz.ntmps46
  go_wp2_with fail
  have hb := new1 w (.cells #[.int .i64 (k : Int), .int .i64 m.b] 83)
  have mb := el2.boxed w ⟨(k : Int), m.b⟩ 83
  have hs' := st.up (.cells #[.int .i64 (k : Int), .int .i64 m.b] 83) hs hsb
  have d0' := st.up (.cells #[.int .i64 (k : Int), .int .i64 m.b] 83) d0 gl
  have hv' := HV0.out.below hb
  clear hs d0
  generalize w.alloc _ = W0 at hb mb hs' d0' hv' ⊢
  have HV := Lib.hid hv'
  have HB := Lib.hid hb
  obtain ⟨m0, m1⟩ := el2.atFlat mb
  clear hv' hb mb
  go_quiet (fail)
  go_wp2_with fail
  refine (find.impl_find m.b (by omega) (vsd HV.out _) HB.out.size).mono ?_
  rintro e W1 ⟨rfl, hb1⟩
  rw [HZ.out]
  have HB1 : Hid (Below w.heap.size w W1) := Lib.hid ((Go.Proofs.YtigbknmiidhblaaGreatDoor.tf.Off1 HB.out _).trans (hb1.mono HB.out.size))
  clear hb1 m0 m1 hs' d0'
  have t : decide ((j : Int) < 0) = false := decide_eq_false (by omega)
  have hjn : (j : Int) < (l.length : Int) := by omega
  go_wp2_with fail
  go_ret
  refine ⟨?_, HB1.out⟩
  first | rfl | simp
/-! the walk -/
/-- what apply leaves: whether every chain had room, and the store in the box -/
def ApO (w : World) (lo hi sb : Nat) (ok : Bool) (CF : List (List Ver)) (e : Ending) (w' : World) : Prop :=
  e = .returned (.bool ok) ∧ (∃ A' c', w'.cell? ⟨sb, 0, none⟩ = some (.slice A' 6 c') ∧ OQ w' (fun q => (lo ≤ q ∧ q < hi) ∨ w.heap.size ≤ q) (.slice A' 6 c') 6 CF) ∧ Agr (fun q => ¬ (lo ≤ q ∧ q < hi) ∧ q ≠ sb) w w'
noncomputable def apF (C : List (List Ver)) (x : Hd) (R S : List E2) : List (List Ver) := if fitB C S = true then insC C x.i x.c x.h R S else C
set_option maxRecDepth 100000 in
set_option maxHeartbeats 6400000 in
theorem impl_apply {w : World} {lo hi n c n2 c2 : Nat} {A A2 : Option Addr} {R S : List E2} {C : List (List Ver)} (x : Hd) (sb : Nat) {v : Value} (hs : w.cell? ⟨sb, 0, none⟩ = some v) (hsf : w.frozen? ⟨sb, 0, none⟩ = false) (hsb : sb < w.heap.size) (hsl : ¬ (lo ≤ sb ∧ sb < hi)) (hhi : hi ≤ w.heap.size)
    (h : OQ w (fun q => lo ≤ q ∧ q < hi) v 6 C) (hn : n ≤ 2097152) (hn2 : n2 ≤ 2097152) (hR : ∀ W, Agr (fun q => ¬ (lo ≤ q ∧ q < hi)) w W → el2.Vs W w.heap.size A n R) (hS : ∀ W, Agr (fun q => ¬ (lo ≤ q ∧ q < hi)) w W → el2.Vs W w.heap.size A2 n2 S)
    (hst : stB C = true) (hz : lstS C < x.c) (hrk : ∀ m ∈ R, 0 ≤ m.a ∧ m.a ≤ 5) (hall : R.all (hasV C) = true) (hw : wrB S = true) :
    Calls Tryz.prog 35 #[.pointer (some ⟨sb, 0, none⟩), .agg #[.int .i64 x.i, .int .i64 x.s, .int .i64 x.t, .int .i64 x.b, .int .i64 x.l, .int .i64 x.h, .int .i64 x.c, .slice A n c, .slice A2 n2 c2]] w (ApO w lo hi sb (fitB C S) (apF C x R S)) := by
  have hmf : ∀ (fn : Fn) (first cap : Array Value) (w : World), (Instr.makeFunc fn first cap).run Tryz.prog w = .ok (.func fn first cap) w := fun _ _ _ _ => rfl
  obtain ⟨D, cD, rfl⟩ := h.form
  have hlR := (hR w (Agr.refl _ _)).1
  have hlS := (hS w (Agr.refl _ _)).1
  have O := Lib.hid h
  have HR := Lib.hid hR
  have HS := Lib.hid hS
  have HST := Lib.hid hst
  have HZ := Lib.hid hz
  have HK := Lib.hid hrk
  have HA := Lib.hid hall
  have HW := Lib.hid hw
  clear h hR hS hst hz hrk hall hw
  go_enter_defers Tryz.func35, Tryz.ntmps35
  have hb0 := Go.Proofs.YtigbknmiidhblaaGreatDoor.vers.new3 w (.cells #[.pointer (some ⟨sb, 0, none⟩)] 115) (.cells #[.int .i64 x.i, .int .i64 x.s, .int .i64 x.t, .int .i64 x.b, .int .i64 x.l, .int .i64 x.h, .int .i64 x.c, .slice A n c, .slice A2 n2 c2] 30) (.cells #[.bool false] 4)
  have s0 := (hb0.cell (p := ⟨sb, 0, none⟩) hsb).trans hs
  go_wp2_with fail
  have p0 := up (.cells #[.bool false] 4) (up (.cells #[.int .i64 x.i, .int .i64 x.s, .int .i64 x.t, .int .i64 x.b, .int .i64 x.l, .int .i64 x.h, .int .i64 x.c, .slice A n c, .slice A2 n2 c2] 30) (one_cell w (.pointer (some ⟨sb, 0, none⟩)) 115) (by simp)) (by simp; omega)
  have tb := (TB.new (w.alloc (.cells #[.pointer (some ⟨sb, 0, none⟩)] 115)) x A n c A2 n2 c2 30).keep (B := w.heap.size + 1 + 1) (by simp) (Go.Proofs.YtigbknmiidhblaaGreatDoor.el2.below_le (new1 ((w.alloc (.cells #[.pointer (some ⟨sb, 0, none⟩)] 115)).alloc (.cells #[.int .i64 x.i, .int .i64 x.s, .int .i64 x.t, .int .i64 x.b, .int .i64 x.l, .int .i64 x.h, .int .i64 x.c, .slice A n c, .slice A2 n2 c2] 30)) (.cells #[.bool false] 4)) (by simp))
  have o0 := one_cell ((w.alloc (.cells #[.pointer (some ⟨sb, 0, none⟩)] 115)).alloc (.cells #[.int .i64 x.i, .int .i64 x.s, .int .i64 x.t, .int .i64 x.b, .int .i64 x.l, .int .i64 x.h, .int .i64 x.c, .slice A n c, .slice A2 n2 c2] 30)) (.bool false) 4
  have g0 := one_free ((w.alloc (.cells #[.pointer (some ⟨sb, 0, none⟩)] 115)).alloc (.cells #[.int .i64 x.i, .int .i64 x.s, .int .i64 x.t, .int .i64 x.b, .int .i64 x.l, .int .i64 x.h, .int .i64 x.c, .slice A n c, .slice A2 n2 c2] 30)) (.bool false) 4
  have hsz : (((w.alloc (.cells #[.pointer (some ⟨sb, 0, none⟩)] 115)).alloc (.cells #[.int .i64 x.i, .int .i64 x.s, .int .i64 x.t, .int .i64 x.b, .int .i64 x.l, .int .i64 x.h, .int .i64 x.c, .slice A n c, .slice A2 n2 c2] 30)).alloc (.cells #[.bool false] 4)).heap.size = w.heap.size + 3 := by simp
  simp only [World.size_alloc] at o0 g0 tb
  generalize ((w.alloc _).alloc _).alloc _ = W0 at hb0 s0 p0 tb o0 g0 hsz ⊢
  have B0 := Lib.hid hb0
  have P0 := Lib.hid p0
  have T0 := Lib.hid tb
  have OB0 := Lib.hid (And.intro o0 g0)
  have O0 := Lib.hid (O.out.below hb0)
  have S0 := Lib.hid (And.intro s0 ((hb0.frozen (p := ⟨sb, 0, none⟩) hsb).trans hsf))
  have hlen := st_len50 HST.out
  clear hs hsf hb0 s0 p0 tb o0 g0 O
  refine (impl_copys (by omega) (fun l hl => Nat.le_trans (hlen l hl) (by omega)) (O0.out.rs (fun l hl => Nat.le_trans (hlen l hl) (by omega)) rfl) (Nat.le_refl _)).mono ?_
  rintro e W1 ⟨A5, c5, rfl, ho5, hb1⟩
  have HO5 := Lib.hid ho5
  have HB1 := Lib.hid hb1
  clear ho5 hb1
  have hb2 : Below W0.heap.size W0 (W1.alloc (.cells #[.slice A5 6 c5] 26)) := HB1.out.trans ((new1 W1 _).mono HB1.out.size)
  have hs12 : (W1.alloc (.cells #[.slice A5 6 c5] 26)).heap.size = W1.heap.size + 1 := by simp
  have hs01 := HB1.out.size
  obtain ⟨t0, t1, t2, t3, t4, t5, t6, t7, t8⟩ := T0.out.keep (B := W0.heap.size) (by omega) hb2
  go_wp2_with fail
  have T2 := Lib.hid (T0.out.keep (B := W0.heap.size) (by omega) hb2)
  have P2 := Lib.hid ((hb2.cell (p := ⟨w.heap.size, 0, none⟩) (by simp; omega)).trans P0.out)
  have OB2 := Lib.hid (And.intro ((hb2.cell (p := ⟨w.heap.size + 1 + 1, 0, none⟩) (by simp; omega)).trans OB0.out.1) ((hb2.frozen (p := ⟨w.heap.size + 1 + 1, 0, none⟩) (by simp; omega)).trans OB0.out.2))
  have S2 := Lib.hid (And.intro ((hb2.cell (p := ⟨sb, 0, none⟩) (by simp; omega)).trans S0.out.1) ((hb2.frozen (p := ⟨sb, 0, none⟩) (by simp; omega)).trans S0.out.2))
  have O2 := Lib.hid (O0.out.below hb2)
  have X2 := Lib.hid ((OQ.of_os HO5.out).below (new1 W1 (.cells #[.slice A5 6 c5] 26)))
  have Y2 := Lib.hid (one_cell W1 (.slice A5 6 c5) 26)
  have B2 := Lib.hid (B0.out.trans (hb2.mono B0.out.size))
  generalize W1.alloc (.cells #[.slice A5 6 c5] 26) = W2 at hb2 hs12 t0 t1 t2 t3 t4 t5 t6 t7 t8 T2 P2 OB2 S2 O2 X2 Y2 B2 ⊢
  clear hb2 P0 T0 OB0 S0 O0 t0 t1 t2 t3 t4 t5 t6 t7 t8 HO5
  obtain ⟨Q, hQ⟩ : ∃ Q : Nat → Prop, Q = fun q => (lo ≤ q ∧ q < hi) ∨ W2.heap.size ≤ q := ⟨_, rfl⟩
  have qNo : ∀ q, q < W2.heap.size → ¬ (lo ≤ q ∧ q < hi) → ¬ Q q := fun q h1 h2 => by rw [hQ]; rintro (h | h); exact h2 h; omega
  have qBig : ∀ q, W2.heap.size ≤ q → Q q := fun q h1 => by rw [hQ]; exact .inr h1
  have O2' : Hid (OQ W2 Q (.slice D 6 cD) 6 C) := Lib.hid (O2.out.mono fun q _ h => by rw [hQ]; exact .inl h)
  have HQ := Lib.hid hQ
  have aW : ∀ {W : World}, Agr (fun q => ¬ Q q) W2 W → Agr (fun q => ¬ (lo ≤ q ∧ q < hi)) w W := fun {W} h => (Agr.of_below B2.out _).trans (h.mono fun q h1 h2 => qNo q h1 h2)
  have cW : ∀ {W : World} {p : Addr} {u : Value}, Agr (fun q => ¬ Q q) W2 W → W2.cell? p = some u → p.block < W2.heap.size → ¬ (lo ≤ p.block ∧ p.block < hi) → W.cell? p = some u := fun {W p u} h hp h1 h2 => (World.cell?_of_block (h.block p.block h1 (qNo _ h1 h2))).trans hp
  have fW : ∀ {W : World} {p : Addr} {u : Bool}, Agr (fun q => ¬ Q q) W2 W → W2.frozen? p = u → p.block < W2.heap.size → ¬ (lo ≤ p.block ∧ p.block < hi) → W.frozen? p = u := fun {W p u} h hp h1 h2 => (World.frozen?_of_block (h.block p.block h1 (qNo _ h1 h2))).trans hp
  have l0 : ¬ (lo ≤ w.heap.size ∧ w.heap.size < hi) := by omega
  have l1 : ¬ (lo ≤ w.heap.size + 1 ∧ w.heap.size + 1 < hi) := by omega
  have l2 : ¬ (lo ≤ w.heap.size + 1 + 1 ∧ w.heap.size + 1 + 1 < hi) := by omega
  have lb : ¬ (lo ≤ W1.heap.size ∧ W1.heap.size < hi) := by omega
  have z2 : w.heap.size + 3 < W2.heap.size := by omega
  have T2' : ∀ {W : World}, Agr (fun q => ¬ Q q) W2 W → TB W (w.heap.size + 1) x (.slice A n c) (.slice A2 n2 c2) := fun {W} h => T2.out.of_block (h.block _ (by omega) (qNo _ (by omega) l1))
  clear O2 hQ
  go_loopw [19] (fun i wr => ∃ k : Nat, k ≤ n ∧ i = .int .i64 k ∧ OQ wr Q (.slice D 6 cD) 6 (rdK x.c C R k) ∧ Agr (fun q => ¬ Q q) W2 wr) (fun i _ => n - (intOf i).toNat)
  case atStart => exact ⟨0, by omega, rfl, O2'.out, Agr.refl _ _⟩
  case round =>
    obtain ⟨k, hk, rfl, hoq, hag⟩ := hrel
    have OK := Lib.hid hoq
    have AK := Lib.hid hag
    clear hoq
    have hsz9 := hag.size
    by_cases hlt : k < n
    · have t : decide ((k : Int) < (n : Int)) = true := decide_eq_true (by omega)
      obtain ⟨b, o, m, rfl, hbB, hx, a0, a1⟩ := (HR.out wr (aW hag)).at_ (k := k) hlt
      obtain ⟨kk, l, j, y, hkk, hk6, hl, hl50, hl0, hj, hy⟩ := rd_at (k := k) HST.out HZ.out HK.out HA.out hx
      have HKK := Lib.hid hkk
      clear hkk
      have HX := Lib.hid hx
      have HY := Lib.hid hy
      have HJ := Lib.hid hj
      have HL := Lib.hid hl
      obtain ⟨g, cap, b', c', hL⟩ := OQ.chain OK.out hk6 hl hl0
      have LI := Lib.hid hL
      have hgl := hL.gl
      have hbl := hL.bl
      have hqb := hL.qb
      have p3 := up (.cells #[.int .i64 m.a, .int .i64 m.b] 83) (cW hag P2.out (show w.heap.size < _ by omega) l0) (show w.heap.size < wr.heap.size by omega)
      have s3 := up (.cells #[.int .i64 m.a, .int .i64 m.b] 83) (cW hag S2.out.1 (show sb < _ by omega) hsl) (show sb < wr.heap.size by omega)
      have mb := el2.boxed wr m 83
      obtain ⟨m0, m1⟩ := el2.atFlat mb
      have hn3 := new1 wr (.cells #[.int .i64 m.a, .int .i64 m.b] 83)
      clear hx hy hj hl hL
      go_wp2_with fail
      refine (impl_vofq (Q := Q) (N := 6) (v := .slice D 6 cD) m sb (by simp; omega) s3 HKK.out hk6 (by omega) (LI.out.keep hn3) HJ.out (Go.Proofs.YtigbknmiidhblaaGreatDoor.el2.lt_get HY.out)).mono ?_
      rintro e W4 ⟨rfl, hb4⟩
      have hb34 : Below wr.heap.size wr W4 := hn3.trans (hb4.mono (by simp))
      have L4 := Lib.hid (LI.out.keep hb34)
      have O4 := Lib.hid (OK.out.below hb34)
      have A4 := Lib.hid (AK.out.trans (Agr.of_below hb34 _))
      have f4 := L4.out.free2 (j * 5 + 3)
      obtain ⟨y0, y1, y2, y3, y4⟩ := L4.out.at_ HY.out
      obtain ⟨t0, t1, t2, t3, t4, t5, t6, t7, t8⟩ := T2' A4.out
      have hz4 := hb34.size
      clear p3 s3 mb m0 m1 hn3 hb4 hb34 a0 a1
      go_wp2_with fail
      go_region
      have O5 := Lib.hid (OQ.read O4.out (by have := HKK.out; omega) (by have := HKK.out; omega) hk6 HL.out L4.out HJ.out HY.out x.c)
      have A5' := Lib.hid (A4.out.set (p := ⟨b', j * 5 + 3, none⟩) (.int .i64 (max y.d x.c)) (fun e => e hqb))
      rw [show rdC x.c (rdK x.c C R k) m = rdK x.c C R (k + 1) from (rdK_step HX.out).symm] at O5
      generalize W4.setCell _ _ = W5 at O5 A5' ⊢
      clear t0 t1 t2 t3 t4 t5 t6 t7 t8 y0 y1 y2 y3 y4 f4 L4 O4 A4
      have O6 := Lib.hid (O5.out.below ((Below.refl _ W5).drew))
      have A6 := Lib.hid (A5'.out.trans (Agr.of_below ((Below.refl _ W5).drew) _))
      go_wp2_with fail
      go_roundw
      case rel => exact ⟨k + 1, by omega, by go_num, O6.out, A6.out⟩
      case measure => simp [intOf]; omega
    · have t : decide ((k : Int) < (n : Int)) = false := decide_eq_false (by omega)
      obtain rfl : n = k := by omega
      obtain ⟨t0, t1, t2, t3, t4, t5, t6, t7, t8⟩ := T2' hag
      go_wp2_with fail
      clear t0 t1 t2 t3 t4 t5 t6 t7 t8
      obtain ⟨C1, hC1⟩ : ∃ C1, C1 = rdK x.c C R R.length := ⟨_, rfl⟩
      rw [show rdK x.c C R n = C1 by rw [hC1, hlR]] at OK
      have HC1 := Lib.hid hC1
      clear hC1
      go_loopw [40] (fun i wr => ∃ k : Nat, k ≤ n2 ∧ i = .int .i64 k ∧ OQ wr Q (.slice D 6 cD) 6 (wrK x.i x.c x.h C1 S k) ∧ Agr (fun q => ¬ Q q) W2 wr ∧ ∀ (j : Nat) (m : E2), j < k → S[j]? = some m → (chOf C m.a).length < 50) (fun i _ => n2 - (intOf i).toNat)
      case atStart => exact ⟨0, by omega, rfl, OK.out, AK.out, fun j m hj => absurd hj (by omega)⟩
      case round =>
        obtain ⟨k, hk, rfl, hoq, hag2, hfit⟩ := hrel
        clear hag hsz9 OK AK
        have OK := Lib.hid hoq
        have AK := Lib.hid hag2
        have FK := Lib.hid hfit
        clear hoq hfit
        have hsz9 := hag2.size
        by_cases hlt : k < n2
        · have t : decide ((k : Int) < (n2 : Int)) = true := decide_eq_true (by omega)
          obtain ⟨b, o, m, rfl, hbB, hx, a0, a1⟩ := (HS.out wr (aW hag2)).at_ (k := k) hlt
          obtain ⟨kk, l, hkk, hk6, hl, hl50, hl0, hle⟩ := wr_at (i := x.i) (z := x.c) (h := x.h) (R := R) (k := k) HST.out HZ.out HK.out HW.out hx
          rw [← HC1.out] at hl
          have HKK := Lib.hid hkk
          have hkn : m.a.toNat = kk := by omega
          have hk0 : 0 ≤ m.a := by omega
          clear hkk
          have HX := Lib.hid hx
          have HL := Lib.hid hl
          have p3 := up (.cells #[.int .i64 m.a, .int .i64 m.b] 45) (cW hag2 P2.out (show w.heap.size < _ by omega) l0) (show w.heap.size < wr.heap.size by omega)
          have s3 := up (.cells #[.int .i64 m.a, .int .i64 m.b] 45) (cW hag2 S2.out.1 (show sb < _ by omega) hsl) (show sb < wr.heap.size by omega)
          have hn3 := new1 wr (.cells #[.int .i64 m.a, .int .i64 m.b] 45)
          obtain ⟨t0, t1, t2, t3, t4, t5, t6, t7, t8⟩ := (T2' hag2).keep (B := wr.heap.size) (by omega) hn3
          have mb := el2.boxed wr m 45
          obtain ⟨m0, m1⟩ := el2.atFlat mb
          clear hx hl
          go_wp2_with fail
          refine (impl_inst (Q := Q) (N := 6) (v := .slice D 6 cD) (C := wrK x.i x.c x.h C1 S k) (l := l) x m sb s3 (by simp; omega) (qNo sb (by omega) hsl) (fun q hq => qBig q (by simp at hq; omega)) (OK.out.below hn3) hk0 (by omega) (by rw [hkn]; exact HL.out) hl0 (by omega)).mono ?_
          rintro e W4 hres
          have hne3 : wr.heap.size ≤ (wr.alloc (.cells #[.int .i64 m.a, .int .i64 m.b] 45)).heap.size := by simp
          clear p3 mb m0 m1 t0 t1 t2 t3 t4 t5 t6 t7 t8 a0 a1
          rcases hres with ⟨h50, rfl, hb4⟩ | ⟨h50, rfl, ho4, ha4⟩
          · have hb34 := hn3.trans (hb4.mono hne3)
            have A4 := Lib.hid (AK.out.trans (Agr.of_below hb34 _))
            have HF : Hid (fitB C S = false) := Lib.hid (fit_no HX.out (by omega))
            have o4 := cW A4.out OB2.out.1 (show w.heap.size + 1 + 1 < _ by omega) l2
            have g4 := fW A4.out OB2.out.2 (show w.heap.size + 1 + 1 < _ by omega) l2
            clear hn3 hb4 hb34 s3
            have E0 := Lib.hid (set_same (v := .bool false) o4)
            have E1 := Lib.hid (set_other (a := ⟨w.heap.size + 1 + 1, 0, none⟩) (v := .bool false) (cW A4.out Y2.out (show W1.heap.size < _ by omega) lb) (show w.heap.size + 1 + 1 ≠ W1.heap.size by omega))
            have E2 := Lib.hid (set_other (a := ⟨w.heap.size + 1 + 1, 0, none⟩) (v := .bool false) (cW A4.out P2.out (show w.heap.size < _ by omega) l0) (show w.heap.size + 1 + 1 ≠ w.heap.size by omega))
            have E3 := Lib.hid (set_other (a := ⟨w.heap.size + 1 + 1, 0, none⟩) (v := .bool false) (cW A4.out S2.out.1 (show sb < _ by omega) hsl) (show w.heap.size + 1 + 1 ≠ sb by omega))
            have E4 := Lib.hid (set_free (a := ⟨w.heap.size + 1 + 1, 0, none⟩) (v := .bool false) (fW A4.out S2.out.2 (show sb < _ by omega) hsl))
            have EX := Lib.hid (((X2.out.agr (A4.out.mono fun q h1 h2 => qNo q h1 (by omega))).agr ((OffSet W4 ⟨w.heap.size + 1 + 1, 0, none⟩ (.bool false)).mono fun q _ h => by show q ≠ w.heap.size + 1 + 1; omega)))
            have EA := Lib.hid (((aW A4.out).mono fun q h1 (h2 : ¬ (lo ≤ q ∧ q < hi) ∧ q ≠ sb) => h2.1).setNew (p := ⟨w.heap.size + 1 + 1, 0, none⟩) (.bool false) (show w.heap.size ≤ w.heap.size + 1 + 1 by omega))
            go_wp2_with fail
            all_goals
              generalize W4.setCell _ _ = W5 at E0 E1 E2 E3 E4 EX EA ⊢
              refine leaves_cons (f := 78) (args := #[.pointer (some ⟨w.heap.size + 1 + 1, 0, none⟩), .pointer (some ⟨W1.heap.size, 0, none⟩), .pointer (some ⟨w.heap.size, 0, none⟩)]) (by simp) (by simp [go_sem]) ?_
              refine (undo false _ _ _ _ E0.out E1.out E2.out E3.out E4.out).mono ?_
              rintro e u' w'' ⟨rfl, rfl, hw9⟩
              rw [if_neg Bool.false_ne_true] at hw9
              subst hw9
              have F0 := set_other (a := ⟨sb, 0, none⟩) (v := .slice A5 6 c5) E0.out (show sb ≠ w.heap.size + 1 + 1 by omega)
              have F1 := set_same (v := .slice A5 6 c5) E3.out
              have FX := EX.out.agr ((OffSet W5 ⟨sb, 0, none⟩ (.slice A5 6 c5)).mono fun q _ h => by show q ≠ sb; omega)
              have FA := EA.out.set (p := ⟨sb, 0, none⟩) (.slice A5 6 c5) (fun e => e.2 rfl)
              refine ⟨.bool false, ?_, ?_⟩
              · simp [results, Tryz.results35, go_sem, F0]
              · refine ⟨by rw [HF.out], ⟨A5, c5, F1, ?_⟩, FA⟩
                rw [apF, HF.out, if_neg Bool.false_ne_true]
                exact FX.mono fun q _ h => .inr (by omega)
          · have A4 := Lib.hid ((AK.out.trans (Agr.of_below hn3 _)).trans ha4)
            have O4 := Lib.hid ho4
            rw [show wrC x.i x.c x.h (wrK x.i x.c x.h C1 S k) m = wrK x.i x.c x.h C1 S (k + 1) from (wrK_step HX.out).symm] at O4
            have F4 : Hid (∀ (j : Nat) (m : E2), j < k + 1 → S[j]? = some m → (chOf C m.a).length < 50) := Lib.hid fun j m' hj hm' => by
              by_cases e : j = k
              · subst e
                have e2 := HX.out
                rw [hm'] at e2
                injection e2 with e2
                rw [e2, ← hle]
                exact h50
              · exact FK.out j m' (by omega) hm'
            clear hn3 ho4 ha4 s3
            go_wp2_with fail
            go_roundw
            case rel => exact ⟨k + 1, by omega, by go_num, O4.out, A4.out, F4.out⟩
            case measure => simp [intOf]; omega
        · have t : decide ((k : Int) < (n2 : Int)) = false := decide_eq_false (by omega)
          obtain rfl : n2 = k := by omega
          have HF : Hid (fitB C S = true) := Lib.hid (fit_yes fun j m hj => FK.out j m (by omega))
          have o4 := cW AK.out OB2.out.1 (show w.heap.size + 1 + 1 < _ by omega) l2
          have g4 := fW AK.out OB2.out.2 (show w.heap.size + 1 + 1 < _ by omega) l2
          have E0 := Lib.hid (set_same (v := .bool true) o4)
          have E1 := Lib.hid (set_other (a := ⟨w.heap.size + 1 + 1, 0, none⟩) (v := .bool true) (cW AK.out Y2.out (show W1.heap.size < _ by omega) lb) (show w.heap.size + 1 + 1 ≠ W1.heap.size by omega))
          have E2 := Lib.hid (set_other (a := ⟨w.heap.size + 1 + 1, 0, none⟩) (v := .bool true) (cW AK.out P2.out (show w.heap.size < _ by omega) l0) (show w.heap.size + 1 + 1 ≠ w.heap.size by omega))
          have E3 := Lib.hid (set_other (a := ⟨w.heap.size + 1 + 1, 0, none⟩) (v := .bool true) (cW AK.out S2.out.1 (show sb < _ by omega) hsl) (show w.heap.size + 1 + 1 ≠ sb by omega))
          have E4 := Lib.hid (set_free (a := ⟨w.heap.size + 1 + 1, 0, none⟩) (v := .bool true) (fW AK.out S2.out.2 (show sb < _ by omega) hsl))
          have EX := Lib.hid (OK.out.agr ((OffSet wr ⟨w.heap.size + 1 + 1, 0, none⟩ (.bool true)).mono fun q _ h => fun e => qNo q (by rw [e]; show w.heap.size + 1 + 1 < _; omega) (by rw [e]; exact l2) h))
          have EA := Lib.hid (((aW AK.out).mono fun q h1 (h2 : ¬ (lo ≤ q ∧ q < hi) ∧ q ≠ sb) => h2.1).setNew (p := ⟨w.heap.size + 1 + 1, 0, none⟩) (.bool true) (show w.heap.size ≤ w.heap.size + 1 + 1 by omega))
          go_wp2_with fail
          all_goals
            generalize wr.setCell _ _ = W5 at E0 E1 E2 E3 E4 EX EA ⊢
            refine leaves_cons (f := 78) (args := #[.pointer (some ⟨w.heap.size + 1 + 1, 0, none⟩), .pointer (some ⟨W1.heap.size, 0, none⟩), .pointer (some ⟨w.heap.size, 0, none⟩)]) (by simp) (by simp [go_sem]) ?_
            refine (undo true _ _ _ _ E0.out E1.out E2.out E3.out E4.out).mono ?_
            rintro e u' w'' ⟨rfl, rfl, hw9⟩
            rw [if_pos rfl] at hw9
            subst hw9
            have F0 := E0.out
            refine ⟨.bool true, ?_, ?_⟩
            · simp [results, Tryz.results35, go_sem, F0]
            · refine ⟨by rw [HF.out], ⟨D, cD, E3.out, ?_⟩, EA.out⟩
              rw [apF, HF.out, if_pos rfl]
              have e : insC C x.i x.c x.h R S = wrK x.i x.c x.h C1 S n2 := by unfold insC; rw [HC1.out, hlS]
              rw [e]
              refine EX.out.mono fun q _ h => ?_
              rw [HQ.out] at h
              rcases h with h | h
              · exact .inl h
              · exact .inr (by omega)
end Go.Proofs.YtigbknmiidhblaaGreatDoor.apl
/- Two new boxes, of a store and of a transaction of one's own, laid in whatever order. -/
namespace Go.Proofs.YtigbknmiidhblaaGreatDoor.rg
open Go.ChangeShapes Go.WideShapes Go.ChangeAt Go.RowKit
open Go.Proofs.YtigbknmiidhblaaGreatDoor.sl Go.Proofs.YtigbknmiidhblaaGreatDoor.st Go.Proofs.YtigbknmiidhblaaGreatDoor.flat Go.Proofs.YtigbknmiidhblaaGreatDoor.os Go.Proofs.YtigbknmiidhblaaGreatDoor.oq Go.Proofs.YtigbknmiidhblaaGreatDoor.av
open Go.Proofs.YtigbknmiidhblaaGreatDoor.el2 (new1 E2 Off)
open Go.Proofs.YtigbknmiidhblaaGreatDoor.tx (Hd TB)
open Go.Proofs.YtigbknmiidhblaaGreatDoor.bx (Bx OwnT CopO txv off_put)
open Go.Proofs.YtigbknmiidhblaaGreatDoor.tm (OwT)
open Go.Proofs.YtigbknmiidhblaaGreatDoor.fr (FR)
set_option linter.unusedVariables false
set_option linter.unusedSimpArgs false
/-- a new box of one cell -/
structure SBx (W V : World) (b : Nat) (u : Value) : Prop where
  lo : W.heap.size ≤ b
  lt : b < V.heap.size
  cell : V.cell? ⟨b, 0, none⟩ = some u
  free : V.frozen? ⟨b, 0, none⟩ = false
structure TBx (W V : World) (b : Nat) (x : Hd) (u v : Value) : Prop where
  lo : W.heap.size ≤ b
  bx : Bx V b x u v
section
variable {W V V' : World} {b b' lo hi N n n2 : Nat} {u u' v v' w9 : Value} {x x' : Hd} {C : List (List Ver)} {A A2 : Option Addr} {R S : List E2} {p : Addr}
theorem SBx.alloc (h : SBx W V b u) (o : Obj) : SBx W (V.alloc o) b u := ⟨h.lo, by simp; have := h.lt; omega, up o h.cell h.lt, free_up o h.free h.lt⟩
theorem SBx.call (h : SBx W V b u) (hb : Below V.heap.size V V') : SBx W V' b u := ⟨h.lo, Nat.lt_of_lt_of_le h.lt hb.size, (hb.cell (p := ⟨b, 0, none⟩) h.lt).trans h.cell, (hb.frozen (p := ⟨b, 0, none⟩) h.lt).trans h.free⟩
theorem SBx.drew (h : SBx W V b u) : SBx W V.drew b u := ⟨h.lo, h.lt, h.cell, h.free⟩
theorem SBx.zero (hb : Below W.heap.size W V) (h : b = V.heap.size) {t : TypeId} : SBx W (V.alloc (.cells #[u] t)) b u := by
  subst h
  exact ⟨hb.size, by simp, one_cell V u t, one_free V u t⟩
theorem SBx.putS (h : SBx W V b u) : SBx W (V.setCell ⟨b, 0, none⟩ u') b u' := ⟨h.lo, by simpa [World.setCell] using h.lt, set_same h.cell, set_free h.free⟩
theorem SBx.putO (hne : p.block ≠ b) (h : SBx W V b u) : SBx W (V.setCell p u') b u := ⟨h.lo, by simpa [World.setCell] using h.lt, set_other h.cell hne, set_free h.free⟩
theorem TBx.alloc (h : TBx W V b x u v) (o : Obj) : TBx W (V.alloc o) b x u v := ⟨h.lo, h.bx.alloc o⟩
theorem TBx.call (h : TBx W V b x u v) (hb : Below V.heap.size V V') : TBx W V' b x u v := ⟨h.lo, h.bx.keep hb h.bx.lt⟩
theorem TBx.drew (h : TBx W V b x u v) : TBx W V.drew b x u v := ⟨h.lo, h.bx.of_block rfl⟩
theorem TBx.zero (hb : Below W.heap.size W V) (h : b = V.heap.size) : TBx W (V.alloc (.cells #[.int .i64 0, .int .i64 0, .int .i64 0, .int .i64 0, .int .i64 0, .int .i64 0, .int .i64 0, .slice none 0 0, .slice none 0 0] 30)) b ⟨0, 0, 0, 0, 0, 0, 0⟩ (.slice none 0 0) (.slice none 0 0) := by
  subst h
  exact ⟨hb.size, Bx.zero V⟩
theorem TBx.new (hb : Below W.heap.size W V) (h : b = V.heap.size) : TBx W (V.alloc (.cells #[.int .i64 x.i, .int .i64 x.s, .int .i64 x.t, .int .i64 x.b, .int .i64 x.l, .int .i64 x.h, .int .i64 x.c, u, v] 30)) b x u v := by
  subst h
  exact ⟨hb.size, Bx.new V x u v⟩
theorem TBx.putS (h : TBx W V b x' u' v') : TBx W (World.setCell (World.setCell (World.setCell (World.setCell (World.setCell (World.setCell (World.setCell (World.setCell (World.setCell V ⟨b, 0, none⟩ (.int .i64 x.i)) ⟨b, 1, none⟩ (.int .i64 x.s)) ⟨b, 2, none⟩ (.int .i64 x.t)) ⟨b, 3, none⟩ (.int .i64 x.b)) ⟨b, 4, none⟩ (.int .i64 x.l)) ⟨b, 5, none⟩ (.int .i64 x.h)) ⟨b, 6, none⟩ (.int .i64 x.c)) ⟨b, 7, none⟩ (u)) ⟨b, 8, none⟩ (v)) b x u v := ⟨h.lo, h.bx.put x u v⟩
theorem TBx.putO (hne : p.block ≠ b) (h : TBx W V b x u v) : TBx W (V.setCell p u') b x u v := ⟨h.lo, h.bx.of_block (Below.heap_setCell V p u' b (fun e => hne e.symm))⟩
theorem both_put {sb tb : Nat} {s9 : Value} (hs : SBx W V sb s9) (ht : TBx W V tb x u v) (hne : sb ≠ tb) : ∀ u9, TBx W (V.setCell ⟨sb, 0, none⟩ u9) tb x u v := fun u9 => TBx.putO hne ht
theorem late_put {sb : Nat} {s9 : Value} (hb : Below W.heap.size W V) (hs : SBx W V sb s9) : ∀ u9, TBx W ((V.alloc (.cells #[.int .i64 0, .int .i64 0, .int .i64 0, .int .i64 0, .int .i64 0, .int .i64 0, .int .i64 0, .slice none 0 0, .slice none 0 0] 30)).setCell ⟨sb, 0, none⟩ u9) V.heap.size ⟨0, 0, 0, 0, 0, 0, 0⟩ (.slice none 0 0) (.slice none 0 0) := fun u9 => TBx.putO (by have := hs.lt; simp only; omega) (TBx.zero hb rfl)
theorem bel_set (hb : Below W.heap.size W V) (h : W.heap.size ≤ p.block) : Below W.heap.size W (V.setCell p u') := hb.setCell h u'
theorem bel_alloc (hb : Below W.heap.size W V) (o : Obj) : Below W.heap.size W (V.alloc o) := hb.alloc hb.size o
theorem oqA (h : OQ V (fun q => lo ≤ q ∧ q < hi) w9 N C) (o : Obj) : OQ (V.alloc o) (fun q => lo ≤ q ∧ q < hi) w9 N C := h.below (new1 V o)
theorem oqC (h : OQ V (fun q => lo ≤ q ∧ q < hi) w9 N C) (hb : Below V.heap.size V V') : OQ V' (fun q => lo ≤ q ∧ q < hi) w9 N C := h.below hb
theorem oqD (h : OQ V (fun q => lo ≤ q ∧ q < hi) w9 N C) : OQ V.drew (fun q => lo ≤ q ∧ q < hi) w9 N C := h.below ((Below.refl _ V).drew)
theorem oqS (hn : ¬ (lo ≤ p.block ∧ p.block < hi)) (h : OQ V (fun q => lo ≤ q ∧ q < hi) w9 N C) : OQ (V.setCell p u') (fun q => lo ≤ q ∧ q < hi) w9 N C := h.keep fun k _ hk => Below.heap_setCell V p u' k fun e => hn (e ▸ hk)
/-- lists of one's own between lo and hi -/
structure OT (V : World) (lo hi : Nat) (u : Value) (n : Nat) (R : List E2) (v : Value) (n2 : Nat) (S : List E2) : Prop where
  own : OwnT V lo u n R v n2 S
  q1 : ∀ q, u.ownBlock = some q → lo ≤ q ∧ q < hi
  q2 : ∀ q, v.ownBlock = some q → lo ≤ q ∧ q < hi
theorem OT.of (h : OwnT V lo u n R v n2 S) : OT V lo V.heap.size u n R v n2 S := ⟨h, fun q e => h.1.lt q e, fun q e => h.2.lt q e⟩
theorem OT.keep (h : OT V lo hi u n R v n2 S) (hk : ∀ q, lo ≤ q → q < hi → V'.heap[q]? = V.heap[q]?) : OT V' lo hi u n R v n2 S := ⟨⟨own_of h.own.1 fun q e => hk q (h.q1 q e).1 (h.q1 q e).2, own_of h.own.2 fun q e => hk q (h.q2 q e).1 (h.q2 q e).2⟩, h.q1, h.q2⟩
theorem OT.keepC (h : OT V lo hi u n R v n2 S) (hb : Below V.heap.size V V') : OT V' lo hi u n R v n2 S :=
  ⟨⟨own_of h.own.1 fun q e => hb.block q (h.own.1.lt q e).2, own_of h.own.2 fun q e => hb.block q (h.own.2.lt q e).2⟩, h.q1, h.q2⟩
theorem otA (h : OT V lo hi u n R v n2 S) (o : Obj) : OT (V.alloc o) lo hi u n R v n2 S := h.keepC (new1 V o)
theorem otD (h : OT V lo hi u n R v n2 S) : OT V.drew lo hi u n R v n2 S := h.keepC ((Below.refl _ V).drew)
theorem otS (hn : ¬ (lo ≤ p.block ∧ p.block < hi)) (h : OT V lo hi u n R v n2 S) : OT (V.setCell p u') lo hi u n R v n2 S := h.keep fun k h1 h2 => Below.heap_setCell V p u' k fun e => hn (e ▸ ⟨h1, h2⟩)
theorem vs_hi {V : World} {t : TypeId} {base hi n c : Nat} {A : Option Addr} {l : List E2} (h : V.ownsRow base t 2 (.slice A n c) n (Go.Proofs.YtigbknmiidhblaaGreatDoor.el2.flat l)) (hl : l.length = n) (hq : ∀ q, (Value.slice A n c).ownBlock = some q → q < hi) : el2.Vs V hi A n l := ⟨hl, fun hn => by
  obtain ⟨A9, c9, e, hv, _⟩ := Go.Proofs.YtigbknmiidhblaaGreatDoor.el2.own_vs h hl
  injection e with e1 _ e2
  subst e1
  obtain ⟨b9, o9, e9, hb9, hx⟩ := hv.2 hn
  refine ⟨b9, o9, e9, ?_, hx⟩
  subst e9
  exact hq b9 rfl⟩
theorem OT.form (h : OT V lo hi u n R v n2 S) (h1 : R.length = n) (h2 : S.length = n2) : ∃ A c A2 c2, u = .slice A n c ∧ v = .slice A2 n2 c2 ∧ el2.Vs V hi A n R ∧ el2.Vs V hi A2 n2 S := by
  obtain ⟨A, c, rfl, _⟩ := Go.Proofs.YtigbknmiidhblaaGreatDoor.el2.own_vs h.own.1 h1
  obtain ⟨A2, c2, rfl, _⟩ := Go.Proofs.YtigbknmiidhblaaGreatDoor.el2.own_vs h.own.2 h2
  exact ⟨A, c, A2, c2, rfl, rfl, vs_hi h.own.1 h1 fun q e => (h.q1 q e).2, vs_hi h.own.2 h2 fun q e => (h.q2 q e).2⟩
end
/-- what lies there behind the two boxes -/
structure Rg9 (W V : World) (sb tb lo hi lo2 hi2 : Nat) (s : Value) (N : Nat) (C : List (List Ver)) (x : Hd) (u : Value) (n : Nat) (R : List E2) (v : Value) (n2 : Nat) (S : List E2) : Prop where
  bel : Below W.heap.size W V
  sbx : SBx W V sb s
  tbx : TBx W V tb x u v
  oq : OQ V (fun q => lo ≤ q ∧ q < hi) s N C
  ot : OT V lo2 hi2 u n R v n2 S
  l0 : W.heap.size ≤ lo
  l1 : lo ≤ hi
  l2 : hi ≤ lo2
  l3 : lo2 ≤ hi2
  l4 : hi2 ≤ V.heap.size
  s1 : ¬ (lo ≤ sb ∧ sb < hi)
  s2 : ¬ (lo2 ≤ sb ∧ sb < hi2)
  t1 : ¬ (lo ≤ tb ∧ tb < hi)
  t2 : ¬ (lo2 ≤ tb ∧ tb < hi2)
  ne : sb ≠ tb
theorem Rg9.call {W V V' : World} {sb tb lo hi lo2 hi2 N n n2 : Nat} {s u v : Value} {C : List (List Ver)} {x : Hd} {R S : List E2} (h : Rg9 W V sb tb lo hi lo2 hi2 s N C x u n R v n2 S) (hb : Below V.heap.size V V') : Rg9 W V' sb tb lo hi lo2 hi2 s N C x u n R v n2 S where
  bel := h.bel.trans (hb.mono h.bel.size)
  sbx := h.sbx.call hb
  tbx := h.tbx.call hb
  oq := oqC h.oq hb
  ot := h.ot.keepC hb
  l0 := h.l0
  l1 := h.l1
  l2 := h.l2
  l3 := h.l3
  l4 := Nat.le_trans h.l4 hb.size
  s1 := h.s1
  s2 := h.s2
  t1 := h.t1
  t2 := h.t2
  ne := h.ne
/-- the two results lie in their boxes -/
structure Fin9 (V Wf : World) (rs rt : Nat) (s : Value) (x : Hd) (u v : Value) : Prop where
  st : Wf.cell? ⟨rs, 0, none⟩ = some s
  tb : TB Wf rt x u v
  agr : Agr (fun q => q ≠ rs ∧ q ≠ rt) V Wf
theorem fin1 {W V : World} {rs rt : Nat} {s s0 u v u0 v0 : Value} {x x0 : Hd} (hs : SBx W V rs s0) (ht : TBx W V rt x0 u0 v0) (hne : rs ≠ rt) : Fin9 V (World.setCell (World.setCell (World.setCell (World.setCell (World.setCell (World.setCell (World.setCell (World.setCell (World.setCell (World.setCell V ⟨rs, 0, none⟩ s) ⟨rt, 0, none⟩ (.int .i64 x.i)) ⟨rt, 1, none⟩ (.int .i64 x.s)) ⟨rt, 2, none⟩ (.int .i64 x.t)) ⟨rt, 3, none⟩ (.int .i64 x.b)) ⟨rt, 4, none⟩ (.int .i64 x.l)) ⟨rt, 5, none⟩ (.int .i64 x.h)) ⟨rt, 6, none⟩ (.int .i64 x.c)) ⟨rt, 7, none⟩ (u)) ⟨rt, 8, none⟩ (v)) rs rt s x u v where
  st := SBx.cell (W := W) (SBx.putO (p := ⟨rt, 8, none⟩) hne.symm (SBx.putO (p := ⟨rt, 7, none⟩) hne.symm (SBx.putO (p := ⟨rt, 6, none⟩) hne.symm (SBx.putO (p := ⟨rt, 5, none⟩) hne.symm (SBx.putO (p := ⟨rt, 4, none⟩) hne.symm (SBx.putO (p := ⟨rt, 3, none⟩) hne.symm (SBx.putO (p := ⟨rt, 2, none⟩) hne.symm (SBx.putO (p := ⟨rt, 1, none⟩) hne.symm (SBx.putO (p := ⟨rt, 0, none⟩) hne.symm hs.putS)))))))))
  tb := (TBx.putS (TBx.putO (p := ⟨rs, 0, none⟩) hne ht)).bx.tb
  agr := by
    have h0 : Agr (fun q => q ≠ rs ∧ q ≠ rt) V (V.setCell ⟨rs, 0, none⟩ s) := (Agr.refl _ V).set (p := ⟨rs, 0, none⟩) s (fun e => e.1 rfl)
    have ho := off_put (V.setCell ⟨rs, 0, none⟩ s) rt x u v
    exact h0.trans ⟨ho.os, ho.tape, ho.output, Nat.le_of_eq ho.size.symm, fun k _ hk => ho.block k hk.2⟩
theorem fin2 {W V : World} {rs rt : Nat} {s s0 u v u0 v0 : Value} {x x0 : Hd} (hs : SBx W V rs s0) (ht : TBx W V rt x0 u0 v0) (hne : rs ≠ rt) : Fin9 V (World.setCell (World.setCell (World.setCell (World.setCell (World.setCell (World.setCell (World.setCell (World.setCell (World.setCell (World.setCell V ⟨rt, 0, none⟩ (.int .i64 x.i)) ⟨rt, 1, none⟩ (.int .i64 x.s)) ⟨rt, 2, none⟩ (.int .i64 x.t)) ⟨rt, 3, none⟩ (.int .i64 x.b)) ⟨rt, 4, none⟩ (.int .i64 x.l)) ⟨rt, 5, none⟩ (.int .i64 x.h)) ⟨rt, 6, none⟩ (.int .i64 x.c)) ⟨rt, 7, none⟩ (u)) ⟨rt, 8, none⟩ (v)) ⟨rs, 0, none⟩ s) rs rt s x u v where
  st := SBx.cell (W := W) (SBx.putS (SBx.putO (p := ⟨rt, 8, none⟩) hne.symm (SBx.putO (p := ⟨rt, 7, none⟩) hne.symm (SBx.putO (p := ⟨rt, 6, none⟩) hne.symm (SBx.putO (p := ⟨rt, 5, none⟩) hne.symm (SBx.putO (p := ⟨rt, 4, none⟩) hne.symm (SBx.putO (p := ⟨rt, 3, none⟩) hne.symm (SBx.putO (p := ⟨rt, 2, none⟩) hne.symm (SBx.putO (p := ⟨rt, 1, none⟩) hne.symm (SBx.putO (p := ⟨rt, 0, none⟩) hne.symm hs))))))))))
  tb := (TBx.putO (p := ⟨rs, 0, none⟩) hne (TBx.putS ht)).bx.tb
  agr := by
    have ho := off_put V rt x u v
    exact Agr.set ⟨ho.os, ho.tape, ho.output, Nat.le_of_eq ho.size.symm, fun k _ hk => ho.block k hk.2⟩ (p := ⟨rs, 0, none⟩) s (fun e => e.1 rfl)
theorem Fin9.drew {V Wf : World} {rs rt : Nat} {s u v : Value} {x : Hd} (h : Fin9 V Wf rs rt s x u v) : Fin9 V Wf.drew rs rt s x u v := ⟨h.st, h.tb, h.agr.trans (Agr.of_below ((Below.refl _ Wf).drew) _)⟩
theorem Rg9.put1 {W V : World} {sb tb lo hi lo2 hi2 N n n2 i : Nat} {s u v z : Value} {C : List (List Ver)} {x x' : Hd} {R S : List E2} (h : Rg9 W V sb tb lo hi lo2 hi2 s N C x u n R v n2 S) (hx : Bx (V.setCell ⟨tb, i, none⟩ z) tb x' u v) : Rg9 W (V.setCell ⟨tb, i, none⟩ z) sb tb lo hi lo2 hi2 s N C x' u n R v n2 S where
  bel := bel_set h.bel h.tbx.lo
  sbx := SBx.putO (p := ⟨tb, i, none⟩) h.ne.symm h.sbx
  tbx := ⟨h.tbx.lo, hx⟩
  oq := oqS (p := ⟨tb, i, none⟩) h.t1 h.oq
  ot := otS (p := ⟨tb, i, none⟩) h.t2 h.ot
  l0 := h.l0
  l1 := h.l1
  l2 := h.l2
  l3 := h.l3
  l4 := by simpa [World.setCell] using h.l4
  s1 := h.s1
  s2 := h.s2
  t1 := h.t1
  t2 := h.t2
  ne := h.ne
theorem Bx.set2 {w : World} {b : Nat} {x : Hd} {u v : Value} (h : Bx w b x u v) (z : Int) : Bx (w.setCell ⟨b, 2, none⟩ (.int .i64 z)) b { x with t := z } u v := (World.rowIs.set h 2 (.int .i64 z)).congr (Go.Proofs.YtigbknmiidhblaaGreatDoor.bx.nine_ext rfl rfl rfl rfl rfl rfl rfl rfl rfl)
theorem Bx.set6 {w : World} {b : Nat} {x : Hd} {u v : Value} (h : Bx w b x u v) (z : Int) : Bx (w.setCell ⟨b, 6, none⟩ (.int .i64 z)) b { x with c := z } u v := (World.rowIs.set h 6 (.int .i64 z)).congr (Go.Proofs.YtigbknmiidhblaaGreatDoor.bx.nine_ext rfl rfl rfl rfl rfl rfl rfl rfl rfl)
/-- at the end: what the results own -/
theorem fin_end {w V Wf : World} {Q : Nat → Prop} {lo2 hi2 N n n2 : Nat} {s u v s9 u9 v9 : Value} {x9 : Hd} {C : List (List Ver)} {R S : List E2} (hq : OQ V Q s N C) (hQ : ∀ q, Q q → w.heap.size + 4 ≤ q) (ho : OT V lo2 hi2 u n R v n2 S) (h2 : w.heap.size + 4 ≤ lo2) (h4 : hi2 ≤ V.heap.size) (hb : Below w.heap.size w V) (F : Fin9 V Wf (w.heap.size + 1 + 1) (w.heap.size + 1 + 1 + 1) s9 x9 u9 v9) :
    OS Wf w.heap.size s N C ∧ OwnT Wf w.heap.size u n R v n2 S ∧ Below w.heap.size w Wf := by
  refine ⟨(hq.agr (F.agr.mono fun q _ h => by have := hQ q h; show q ≠ _ ∧ q ≠ _; omega)).os fun q h => by have := hQ q h; omega, (ho.keep (V' := Wf) fun q h h' => F.agr.block q (by omega) (by show q ≠ _ ∧ q ≠ _; omega)).own.more (by omega), hb.trans (F.agr.below (by have := hb.size; omega) fun q h => by show q ≠ _ ∧ q ≠ _; omega)⟩
end Go.Proofs.YtigbknmiidhblaaGreatDoor.rg
/- The model's l9Fits and l9Install. -/
namespace Go.Proofs.YtigbknmiidhblaaGreatDoor.li
open Go.ChangeShapes Go.WideShapes Go.ChangeAt Go.RowKit
open Go.Proofs.YtigbknmiidhblaaGreatDoor.sl Go.Proofs.YtigbknmiidhblaaGreatDoor.st Go.Proofs.YtigbknmiidhblaaGreatDoor.flat Go.Proofs.YtigbknmiidhblaaGreatDoor.os Go.Proofs.YtigbknmiidhblaaGreatDoor.oq Go.Proofs.YtigbknmiidhblaaGreatDoor.av Go.Proofs.YtigbknmiidhblaaGreatDoor.oc Go.Proofs.YtigbknmiidhblaaGreatDoor.ist Go.Proofs.YtigbknmiidhblaaGreatDoor.cs Go.Proofs.YtigbknmiidhblaaGreatDoor.apl Go.Proofs.YtigbknmiidhblaaGreatDoor.rg
open Go.Proofs.YtigbknmiidhblaaGreatDoor.el2 (new1 E2)
open Go.Proofs.YtigbknmiidhblaaGreatDoor.tx (Hd TB)
open Go.Proofs.YtigbknmiidhblaaGreatDoor.tv (wrB)
open Go.Proofs.YtigbknmiidhblaaGreatDoor.val (stB)
open Go.Proofs.YtigbknmiidhblaaGreatDoor.last (lstS)
open Go.Proofs.YtigbknmiidhblaaGreatDoor.find (fndI)
open Go.Proofs.YtigbknmiidhblaaGreatDoor.rx (LS chOf ch_at hasV)
open Go.Proofs.YtigbknmiidhblaaGreatDoor.ao (step_append_run)
open Go.Proofs.YtigbknmiidhblaaGreatDoor.bx (Bx OwnT CopO txv)
open Go.Proofs.YtigbknmiidhblaaGreatDoor.ct (rdV suV nwV atJ rdL wrL onK rdC wrC atJ_at atJ_len rdK wrK insC fitB rdK_step wrK_step)
set_option linter.unusedVariables false
set_option linter.unusedSimpArgs false
set_option linter.constructorNameAsVariable false
set_option maxRecDepth 100000 in
set_option maxHeartbeats 3200000 in
theorem spec_fits {w : World} {B cN n c n2 c2 : Nat} {D A A2 : Option Addr} {S : List E2} {C : List (List Ver)} (x : Hd) (hn2 : n2 ≤ 1048576) (h2 : el2.Vs w B A2 n2 S) (h3 : Rs w B D 6 C) (hB : B ≤ w.heap.size) (hw : wrB S = true) :
    Calls Tryz.prog 37 #[.agg #[.slice D 6 cN], .agg #[.int .i64 x.i, .int .i64 x.s, .int .i64 x.t, .int .i64 x.b, .int .i64 x.l, .int .i64 x.h, .int .i64 x.c, .slice A n c, .slice A2 n2 c2]] w fun e w' => e = .returned (.bool (fitB C S)) ∧ Below w.heap.size w w' := by
  have H2 := Lib.hid h2
  have H3 := Lib.hid h3
  have HW := Lib.hid hw
  have hl2 := h2.1
  have hC6 := h3.1
  clear h2 h3 hw
  go_enter Tryz.func37, Tryz.ntmps37
  go_wp2_with fail
  have hL := LS.mk2 w (.slice D 6 cN) 26 30 x A n c A2 n2 c2
  generalize ((w.alloc _).alloc _) = W0 at hL ⊢
  have L0 := Lib.hid hL
  clear hL
  go_loopw [5] (fun i wr => ∃ k : Nat, k ≤ n2 ∧ i = .int .i64 k ∧ LS w (.slice D 6 cN) x (.slice A n c) (.slice A2 n2 c2) wr ∧ ∀ (j : Nat) (m : E2), j < k → S[j]? = some m → (chOf C m.a).length < 50) (fun i _ => n2 - (intOf i).toNat)
  case atStart => exact ⟨0, by omega, rfl, L0.out, fun j m h => absurd h (by omega)⟩
  case round =>
    obtain ⟨k, hk, rfl, hL, hf⟩ := hrel
    have LW := Lib.hid hL
    have FK := Lib.hid hf
    obtain ⟨t0, t1, t2, t3, t4, t5, t6, t7, t8⟩ := hL.tb
    have d0 := hL.st
    clear hL hf t0 t1 t2 t3 t4 t5 t6 t7
    by_cases hlt : k < n2
    · have t : decide ((k : Int) < (n2 : Int)) = true := decide_eq_true (by omega)
      obtain ⟨b, o, m, rfl, hbB, hx, a0, a1⟩ := (H2.out.below (Go.Proofs.YtigbknmiidhblaaGreatDoor.el2.below_le LW.out.bel hB)).at_ (k := k) hlt
      obtain ⟨m0, m5, _⟩ := Go.Proofs.YtigbknmiidhblaaGreatDoor.cq.wr_key HW.out hx
      obtain ⟨kk, hkk, hk6, hl⟩ := get_key (C := C) hC6 m0 m5
      obtain ⟨b2, o2, l, A', n', c', rfl, hb2, hl2', d1, hn', hv⟩ := (H3.out.below (Go.Proofs.YtigbknmiidhblaaGreatDoor.el2.below_le LW.out.bel hB)).at_ hk6
      rw [hl] at hl2'
      injection hl2' with hl2'
      subst hl2'
      have HX := Lib.hid hx
      have hln := hv.1
      have k1 : (kk : Int) < ((6 : Nat) : Int) := by omega
      rw [hkk] at a0
      have hkn : (k : Int) < (n2 : Int) := by omega
      clear hx hv a1 hl hkk
      by_cases h50 : 50 ≤ n'
      · have t5 : decide ((50 : Int) ≤ (n' : Int)) = true := decide_eq_true (by omega)
        have HF : Hid (fitB C S = false) := Lib.hid (fit_no HX.out (by omega))
        go_wp2_with fail
        go_quiet (fail)
        go_wp2_with fail
        go_ret
        exact ⟨by rw [HF.out]; rfl, (Go.Proofs.YtigbknmiidhblaaGreatDoor.tf.Off1 LW.out.bel _)⟩
      · have t5 : decide ((50 : Int) ≤ (n' : Int)) = false := decide_eq_false (by omega)
        have F2 : Hid (∀ (j : Nat) (m : E2), j < k + 1 → S[j]? = some m → (chOf C m.a).length < 50) := Lib.hid fun j m' hj hm' => by
          by_cases e : j = k
          · subst e
            have e2 := HX.out
            rw [hm'] at e2
            injection e2 with e2
            rw [e2]
            omega
          · exact FK.out j m' (by omega) hm'
        go_wp2_with fail
        go_quiet (fail)
        go_wp2_with fail
        go_roundw
        case rel => exact ⟨k + 1, by omega, by go_num, LW.out.drewN _, F2.out⟩
        case measure => simp [intOf]; omega
    · have t : decide ((k : Int) < (n2 : Int)) = false := decide_eq_false (by omega)
      have HF : Hid (fitB C S = true) := Lib.hid (fit_yes fun j m hj => FK.out j m (by omega))
      go_wp2_with fail
      go_ret
      exact ⟨by rw [HF.out]; rfl, LW.out.bel⟩
/-- what an install hands back -/
def InR (w : World) (n n2 : Nat) (R S : List E2) (CF : List (List Ver)) (y : Hd) (e : Ending) (w' : World) : Prop :=
  ∃ A' c' A2 c2 B2 d2, e = .returned (.tuple #[.agg #[.slice A' 6 c'], .agg #[.int .i64 y.i, .int .i64 y.s, .int .i64 y.t, .int .i64 y.b, .int .i64 y.l, .int .i64 y.h, .int .i64 y.c, .slice A2 n c2, .slice B2 n2 d2]]) ∧ OS w' w.heap.size (.slice A' 6 c') 6 CF ∧ OwnT w' w.heap.size (.slice A2 n c2) n R (.slice B2 n2 d2) n2 S ∧ Below w.heap.size w w'
set_option maxRecDepth 100000 in
set_option maxHeartbeats 12800000 in
theorem spec_install {w : World} {B cN n c n2 c2 : Nat} {D A A2 : Option Addr} {R S : List E2} {C : List (List Ver)} (x : Hd) (z L H : Int) (hn : n ≤ 1048576) (hn2 : n2 ≤ 1048576) (h1 : el2.Vs w B A n R) (h2 : el2.Vs w B A2 n2 S) (h3 : Rs w B D 6 C) (hB : B ≤ w.heap.size)
    (hst : stB C = true) (hz : lstS C < z) (hrk : ∀ m ∈ R, 0 ≤ m.a ∧ m.a ≤ 5) (hall : R.all (hasV C) = true) (hw : wrB S = true) (hfit : fitB C S = true) :
    Calls Tryz.prog 40 #[.agg #[.slice D 6 cN], .agg #[.int .i64 x.i, .int .i64 x.s, .int .i64 x.t, .int .i64 x.b, .int .i64 x.l, .int .i64 x.h, .int .i64 x.c, .slice A n c, .slice A2 n2 c2], .int .i64 z, .int .i64 L, .int .i64 H] w (InR w n n2 R S (insC C x.i z H R S) ⟨x.i, x.s, 2, x.b, L, H, z⟩) := by
  have H1 := Lib.hid h1
  have H2 := Lib.hid h2
  have H3 := Lib.hid h3
  have hlR := h1.1
  have hlS := h2.1
  have HST := Lib.hid hst
  have HZ := Lib.hid hz
  have HK := Lib.hid hrk
  have HA := Lib.hid hall
  have HW := Lib.hid hw
  have HFT := Lib.hid hfit
  have hlen := st_len50 hst
  clear h1 h2 h3 hst hz hrk hall hw hfit
  go_enter Tryz.func40, Tryz.ntmps40
  go_wp2_with fail
  have hL := LS.mk2 w (.slice D 6 cN) 26 30 x A n c A2 n2 c2
  have hs0 : ((w.alloc (.cells #[.slice D 6 cN] 26)).alloc (.cells #[.int .i64 x.i, .int .i64 x.s, .int .i64 x.t, .int .i64 x.b, .int .i64 x.l, .int .i64 x.h, .int .i64 x.c, .slice A n c, .slice A2 n2 c2] 30)).heap.size = w.heap.size + 2 := by simp
  generalize ((w.alloc _).alloc _) = W0 at hL hs0 ⊢
  have hz0 : SBx w ((W0.alloc (.cells #[.slice none 0 0] 26)).alloc (.cells #[.int .i64 0, .int .i64 0, .int .i64 0, .int .i64 0, .int .i64 0, .int .i64 0, .int .i64 0, .slice none 0 0, .slice none 0 0] 30)) (w.heap.size + 1 + 1) (.slice none 0 0) := (SBx.zero hL.bel (by omega)).alloc _
  have hz1 : TBx w ((W0.alloc (.cells #[.slice none 0 0] 26)).alloc (.cells #[.int .i64 0, .int .i64 0, .int .i64 0, .int .i64 0, .int .i64 0, .int .i64 0, .int .i64 0, .slice none 0 0, .slice none 0 0] 30)) (w.heap.size + 1 + 1 + 1) ⟨0, 0, 0, 0, 0, 0, 0⟩ (.slice none 0 0) (.slice none 0 0) := TBx.zero (bel_alloc hL.bel _) (by simp; omega)
  have hL1 := (hL.call (new1 W0 (.cells #[.slice none 0 0] 26))).call (new1 (W0.alloc (.cells #[.slice none 0 0] 26)) (.cells #[.int .i64 0, .int .i64 0, .int .i64 0, .int .i64 0, .int .i64 0, .int .i64 0, .int .i64 0, .slice none 0 0, .slice none 0 0] 30))
  have hs1 : w.heap.size + 4 ≤ ((W0.alloc (.cells #[.slice none 0 0] 26)).alloc (.cells #[.int .i64 0, .int .i64 0, .int .i64 0, .int .i64 0, .int .i64 0, .int .i64 0, .int .i64 0, .slice none 0 0, .slice none 0 0] 30)).heap.size := by simp; omega
  generalize ((W0.alloc _).alloc _) = W1 at hz0 hz1 hL1 hs1 ⊢
  have HB1 := Lib.hid hL1.bel
  have Z0 := Lib.hid hz0
  have Z1 := Lib.hid hz1
  have L1 := Lib.hid hL1
  have c0 := hL1.st
  clear hL hz0 hz1 hs0 hL1
  go_wp2_with fail
  refine (Go.Proofs.YtigbknmiidhblaaGreatDoor.ls.spec_copys (by omega) (fun l hl => Nat.le_trans (hlen l hl) (by omega)) (H3.out.below (Go.Proofs.YtigbknmiidhblaaGreatDoor.el2.below_le HB1.out hB)) (by omega)).mono ?_
  rintro e V1 ⟨A5, c5, rfl, ho1, hb1⟩
  have OQ1 := Lib.hid (OQ.of_os ho1)
  have L2 := Lib.hid ((L1.out.call hb1).call (new1 V1 (.cells #[.slice A5 6 c5] 26)))
  have hv1 := hb1.size
  have HBV := Lib.hid hb1
  clear c0 ho1 hb1
  have hs2 : (V1.alloc (.cells #[.slice A5 6 c5] 26)).heap.size = V1.heap.size + 1 := by simp
  have hBW2 : Below W1.heap.size W1 (V1.alloc (.cells #[.slice A5 6 c5] 26)) := bel_alloc HBV.out _
  obtain ⟨t0, t1, t2, t3, t4, t5, t6, t7, t8⟩ := L2.out.tb
  go_wp2_with fail
  refine (Go.Proofs.YtigbknmiidhblaaGreatDoor.lc.copy_m x (by omega) (by omega) (H1.out.below (Go.Proofs.YtigbknmiidhblaaGreatDoor.el2.below_le L2.out.bel hB)) (H2.out.below (Go.Proofs.YtigbknmiidhblaaGreatDoor.el2.below_le L2.out.bel hB)) (by omega)).mono ?_
  rintro e V2 ⟨u2, v2, rfl, ho2, hb2⟩
  have hq2 := OT.of ho2
  obtain ⟨A9, c9, B9, d9, rfl, rfl, _, _⟩ := hq2.form hlR hlS
  have hv2 := hb2.size
  have hsx : SBx W1 V2 V1.heap.size (.slice A5 6 c5) := (SBx.zero (u := .slice A5 6 c5) (t := 26) HBV.out rfl).call hb2
  have hBW3 : Below W1.heap.size W1 V2 := hBW2.trans (hb2.mono (by omega))
  have hoq : OQ V2 (fun q => W1.heap.size ≤ q ∧ q < V1.heap.size) (.slice A5 6 c5) 6 C := oqC (oqA OQ1.out _) hb2
  have hR0 : Rg9 W1 (V2.alloc (.cells #[.int .i64 x.i, .int .i64 x.s, .int .i64 2, .int .i64 x.b, .int .i64 L, .int .i64 H, .int .i64 z, .slice A9 n c9, .slice B9 n2 d9] 30)) V1.heap.size V2.heap.size W1.heap.size V1.heap.size (V1.heap.size + 1) V2.heap.size (.slice A5 6 c5) 6 C ⟨x.i, x.s, 2, x.b, L, H, z⟩ (.slice A9 n c9) n R (.slice B9 n2 d9) n2 S := by
    rw [hs2] at hq2 hv2
    exact ⟨bel_alloc hBW3 _, hsx.alloc _, TBx.new (x := ⟨x.i, x.s, 2, x.b, L, H, z⟩) hBW3 rfl, oqA hoq _, otA hq2 _, Nat.le_refl _, hv1, by omega, by omega, by simp, by omega, by omega, by omega, by omega, by omega⟩
  have hZ0' := (Z0.out.call hBW3).alloc (.cells #[.int .i64 x.i, .int .i64 x.s, .int .i64 2, .int .i64 x.b, .int .i64 L, .int .i64 H, .int .i64 z, .slice A9 n c9, .slice B9 n2 d9] 30)
  have hZ1' := (Z1.out.call hBW3).alloc (.cells #[.int .i64 x.i, .int .i64 x.s, .int .i64 2, .int .i64 x.b, .int .i64 L, .int .i64 H, .int .i64 z, .slice A9 n c9, .slice B9 n2 d9] 30)
  have hL3 := (L2.out.call hb2).call (new1 V2 (.cells #[.int .i64 x.i, .int .i64 x.s, .int .i64 2, .int .i64 x.b, .int .i64 L, .int .i64 H, .int .i64 z, .slice A9 n c9, .slice B9 n2 d9] 30))
  have hv12 : V1.heap.size + 1 ≤ V2.heap.size := by omega
  unfold txv
  clear t0 t1 t2 t3 t4 t5 t6 t7 t8 ho2 hb2 hsx hoq hBW2 hBW3 hq2 OQ1 L2 HBV hs2 hv2
  go_wp2_with fail
  generalize V2.alloc _ = W4 at hR0 hZ0' hZ1' hL3 ⊢
  have R4 := Lib.hid hR0
  have Z04 := Lib.hid hZ0'
  have Z14 := Lib.hid hZ1'
  have L4 := Lib.hid hL3
  have hl45 := hR0.l4
  have hxl := hR0.sbx.lt
  have hyl := hR0.tbx.bx.lt
  have hsz4 := hL3.size
  clear hR0 hZ0' hZ1' hL3
  obtain ⟨Q, hQ⟩ : ∃ Q : Nat → Prop, Q = fun q => (W1.heap.size ≤ q ∧ q < V1.heap.size) ∨ W4.heap.size ≤ q := ⟨_, rfl⟩
  have qNo : ∀ q, q < W4.heap.size → ¬ (W1.heap.size ≤ q ∧ q < V1.heap.size) → ¬ Q q := fun q h1 h2 => by rw [hQ]; rintro (h | h); exact h2 h; omega
  have qBig : ∀ q, W4.heap.size ≤ q → Q q := fun q h1 => by rw [hQ]; exact .inr h1
  have O4 : Hid (OQ W4 Q (.slice A5 6 c5) 6 C) := Lib.hid (R4.out.oq.mono fun q _ h => by rw [hQ]; exact .inl h)
  have HQ := Lib.hid hQ
  have bW : ∀ {W : World}, Agr (fun q => ¬ Q q) W4 W → Below w.heap.size w W := fun {W} h => L4.out.bel.trans (h.below (B := w.heap.size) (by omega) fun q hq => qNo q (by omega) (by omega))
  have xW : ∀ {W : World}, Agr (fun q => ¬ Q q) W4 W → W.cell? ⟨V1.heap.size, 0, none⟩ = some (.slice A5 6 c5) := fun {W} h => (World.cell?_of_block (a := ⟨V1.heap.size, 0, none⟩) (h.block V1.heap.size (by omega) (qNo _ (by omega) (by omega)))).trans R4.out.sbx.cell
  have tW : ∀ {W : World}, Agr (fun q => ¬ Q q) W4 W → TB W (w.heap.size + 1) x (.slice A n c) (.slice A2 n2 c2) := fun {W} h => L4.out.tb.of_block (h.block (w.heap.size + 1) (by omega) (qNo _ (by omega) (by omega)))
  clear hQ
  go_loopw [14] (fun i wr => ∃ k : Nat, k ≤ n ∧ i = .int .i64 k ∧ OQ wr Q (.slice A5 6 c5) 6 (rdK z C R k) ∧ Agr (fun q => ¬ Q q) W4 wr) (fun i _ => n - (intOf i).toNat)
  case atStart => exact ⟨0, by omega, rfl, O4.out, Agr.refl _ _⟩
  case round =>
    obtain ⟨k, hk, rfl, hoq, hag⟩ := hrel
    have OK := Lib.hid hoq
    have AK := Lib.hid hag
    have hsz9 := hag.size
    obtain ⟨t0, t1, t2, t3, t4, t5, t6, t7, t8⟩ := tW hag
    clear hoq t0 t1 t2 t3 t4 t5 t6
    by_cases hlt : k < n
    · have t : decide ((k : Int) < (n : Int)) = true := decide_eq_true (by omega)
      obtain ⟨b, o, m, rfl, hbB, hx, a0, a1⟩ := (H1.out.below (Go.Proofs.YtigbknmiidhblaaGreatDoor.el2.below_le (bW hag) hB)).at_ (k := k) hlt
      obtain ⟨kk, l, j, y, hkk, hk6, hl, hl50, hl0, hj, hy⟩ := rd_at (k := k) HST.out HZ.out HK.out HA.out hx
      obtain ⟨g, cap, b', c', hL⟩ := OQ.chain OK.out hk6 hl hl0
      have ho := hL.out
      injection ho with ho1 _ ho3
      subst ho1 ho3
      have hjl := Go.Proofs.YtigbknmiidhblaaGreatDoor.el2.lt_get hy
      rw [hkk] at a0
      have k1 : (kk : Int) < 6 := by omega
      have k2 : (j : Int) < (l.length : Int) := by omega
      have hl9 : l.length ≤ 140737488355328 := by omega
      have HKK := Lib.hid hkk
      have HX := Lib.hid hx
      have HY := Lib.hid hy
      have HJ := Lib.hid hj
      have HL := Lib.hid hl
      have LI := Lib.hid hL
      have hqb := hL.qb
      have x0 := xW hag
      have d0 := hL.cell
      clear hx hy hj hl hL hkk
      go_wp2_with fail
      go_quiet ((go_at_call 85; exact Go.Proofs.YtigbknmiidhblaaGreatDoor.rx.qleft (Go.Proofs.YtigbknmiidhblaaGreatDoor.rx.spec_findq _ HJ.out hl9 (Go.Proofs.YtigbknmiidhblaaGreatDoor.rx.vsd LI.out.vs _))))
      go_wp2_with fail
      generalize hW : wr.drewN _ = W5
      have hb5 : Below wr.heap.size wr W5 := by rw [← hW]; exact ⟨rfl, rfl, rfl, Nat.le_refl _, fun _ _ => rfl⟩
      clear hW x0 d0 a0 a1 t7 t8
      have L5 := Lib.hid (LI.out.keep hb5)
      have O5 := Lib.hid (OK.out.below hb5)
      have A5' := Lib.hid (AK.out.trans (Agr.of_below hb5 _))
      have x0 := xW A5'.out
      have d0 := L5.out.cell
      have f4 := L5.out.free2 (j * 5 + 3)
      obtain ⟨y0, y1, y2, y3, y4⟩ := L5.out.at_ HY.out
      clear y0 y1 y2 y4 hb5
      go_region
      have O6 := Lib.hid (OQ.read O5.out (by have := HKK.out; omega) (by have := HKK.out; omega) hk6 HL.out L5.out HJ.out HY.out z)
      have A6 := Lib.hid (A5'.out.set (p := ⟨b', j * 5 + 3, none⟩) (.int .i64 (max y.d z)) (fun e => e hqb))
      rw [show rdC z (rdK z C R k) m = rdK z C R (k + 1) from (rdK_step HX.out).symm] at O6
      clear x0 d0 f4 y3 L5 O5 A5'
      generalize W5.setCell _ _ = W6 at O6 A6 ⊢
      have O7 := Lib.hid (O6.out.below ((Below.refl _ W6).drew))
      have A7 := Lib.hid (A6.out.trans (Agr.of_below ((Below.refl _ W6).drew) _))
      go_wp2_with fail
      go_roundw
      case rel => exact ⟨k + 1, by omega, by go_num, O7.out, A7.out⟩
      case measure => simp [intOf]; omega
    · have t : decide ((k : Int) < (n : Int)) = false := decide_eq_false (by omega)
      obtain rfl : n = k := by omega
      go_wp2_with fail
      clear t7 t8
      obtain ⟨C1, hC1⟩ : ∃ C1, C1 = rdK z C R R.length := ⟨_, rfl⟩
      rw [show rdK z C R n = C1 by rw [hC1, hlR]] at OK
      have HC1 := Lib.hid hC1
      clear hC1
      go_loopw [17] (fun i wr => ∃ k : Nat, k ≤ n2 ∧ i = .int .i64 k ∧ OQ wr Q (.slice A5 6 c5) 6 (wrK x.i z H C1 S k) ∧ Agr (fun q => ¬ Q q) W4 wr) (fun i _ => n2 - (intOf i).toNat)
      case atStart => exact ⟨0, by omega, rfl, OK.out, AK.out⟩
      case round =>
        obtain ⟨k, hk, rfl, hoq, hag2⟩ := hrel
        clear hag hsz9 OK AK
        have OK := Lib.hid hoq
        have AK := Lib.hid hag2
        have hsz9 := hag2.size
        obtain ⟨t0, t1, t2, t3, t4, t5, t6, t7, t8⟩ := tW hag2
        clear hoq t1 t2 t3 t4 t5 t6 t7
        by_cases hlt : k < n2
        · have t : decide ((k : Int) < (n2 : Int)) = true := decide_eq_true (by omega)
          obtain ⟨b, o, m, rfl, hbB, hx, a0, a1⟩ := (H2.out.below (Go.Proofs.YtigbknmiidhblaaGreatDoor.el2.below_le (bW hag2) hB)).at_ (k := k) hlt
          obtain ⟨kk, l, hkk, hk6, hl, hl50, hl0, hle⟩ := wr_at (i := x.i) (z := z) (h := H) (R := R) (k := k) HST.out HZ.out HK.out HW.out hx
          rw [← HC1.out] at hl
          obtain ⟨g, cap, b', c', hL⟩ := OQ.chain OK.out hk6 hl hl0
          have ho := hL.out
          injection ho with ho1 _ ho3
          subst ho1 ho3
          have hkn : m.a.toNat = kk := by omega
          rw [hkk] at a0
          have k1 : (kk : Int) < 6 := by omega
          have HX := Lib.hid hx
          have HL := Lib.hid hl
          have LI := Lib.hid hL
          have hqb := hL.qb
          have x0 := xW hag2
          have d0 := hL.cell
          have f0 := hL.free
          have s5 := hL.free2 ((l.length - 1) * 5 + 4)
          have HLE := Lib.hid hle
          have hl6 : l.length ≤ 50 := hl50
          clear hle
          obtain ⟨yl, hyl⟩ : ∃ y, l[l.length - 1]? = some y := ⟨_, List.getElem?_eq_getElem (by omega)⟩
          obtain ⟨e0, e1, e2, e3, e4⟩ := Lies.at_ hL hyl
          have s1 : IntKind.i64.wrap ((l.length : Int) - 1) = (l.length : Int) - 1 := IntWalk.i64_in _ (by omega)
          have s2 : (0 : Int) ≤ (l.length : Int) - 1 := by omega
          have s3 : ((l.length : Int) - 1).toNat = l.length - 1 := by omega
          have s4 : (l.length : Int) - 1 < (l.length : Int) := by omega
          clear hx hl hL hkk e0 e1 e2 e3 hyl
          go_wp2_with fail
          have hbl := LI.out.bl
          have hgl := LI.out.gl
          have hfl : flat (atJ (suV H) l (l.length - 1)) = (flat l).set ((l.length - 1) * 5 + 4) (.int .i64 H) := by
            have hx : l[l.length - 1]? = some l[l.length - 1] := List.getElem?_eq_getElem (by omega)
            rw [atJ_at hx]
            exact flat_set4 l _ _ _ hx
          have hlen1 : (atJ (suV H) l (l.length - 1)).length = l.length := atJ_len _ _ _
          have O5 := Lib.hid (OQ.succ OK.out hk6 HL.out hl0 LI.out H)
          have L5 := Lib.hid (Lies.set LI.out hlen1 hfl)
          have A5' := Lib.hid (AK.out.set (p := ⟨b', (l.length - 1) * 5 + 4, none⟩) (.int .i64 H) (fun e => e hqb))
          clear x0 d0 f0 s5 e4 t0 t8
          generalize wr.setCell _ _ = W5 at O5 L5 A5' ⊢
          have hsz5 := A5'.out.size
          obtain ⟨_, _, e9, hbB9, hx9⟩ := (H2.out.below (Go.Proofs.YtigbknmiidhblaaGreatDoor.el2.below_le (bW A5'.out) hB)).2 (by omega)
          injection e9 with e9
          injection e9 with e91 e92
          subst e91 e92
          have a1' := (hx9 k m HX.out).2
          have x0 := xW A5'.out
          obtain ⟨t0, t1, t2, t3, t4, t5, t6, t7, t8⟩ := tW A5'.out
          clear t1 t2 t3 t4 t5 t6 t7 hx9
          have hd : Below W5.heap.size W5 ((W5.alloc (.cells #[.int .i64 x.i, .int .i64 m.b, .int .i64 z, .int .i64 z, .int .i64 1000] 43)).drew) := (new1 W5 _).drew
          have hmA : At ((W5.alloc (.cells #[.int .i64 x.i, .int .i64 m.b, .int .i64 z, .int .i64 z, .int .i64 1000] 43)).drew) W5.heap.size 0 (nwV x.i z m) := ch.boxed W5 (nwV x.i z m) 43
          have hbl5 := L5.out.bl
          have hgl5 := L5.out.gl
          have hO6 := OK.out.len
          obtain ⟨A6, c6, w', hr, hc9, hf9, hg9, hoq⟩ := OQ.app (O5.out.below hd) hk6 (by rw [List.getElem?_set_self (by rw [hO6]; exact hk6)]) (L5.out.keep hd) (by rw [hlen1]; omega) (fun q hq => qBig q (by simp only [World.size_drew, World.size_alloc] at hq; omega)) (q := W5.heap.size) hmA (by simp) (by omega)
          rw [hlen1] at hr hc9 hoq
          rw [wr_set hkn HL.out, show wrC x.i z H (wrK x.i z H C1 S k) m = wrK x.i z H C1 S (k + 1) from (wrK_step HX.out).symm] at hoq
          have OF := Lib.hid hoq
          have GF := Lib.hid hg9
          have AF := Lib.hid ((A5'.out.trans ((Agr.of_below hd _).trans (Agr.of_grown GF.out (fun q hq e => hq (by injection e with e; rw [e]; exact hqb))))).set (p := ⟨g, kk, none⟩) (.slice A6 (l.length + 1) c6) (fun e => e LI.out.qg))
          have nq : ∀ q, q < W4.heap.size → ¬ (W1.heap.size ≤ q ∧ q < V1.heap.size) → q ≠ b' ∧ q ≠ g := fun q h1 h2 => ⟨fun e => qNo q h1 h2 (e ▸ hqb), fun e => qNo q h1 h2 (e ▸ LI.out.qg)⟩
          have gA : ∀ {p : Addr} {u : Value}, W5.cell? p = some u → p.block < W5.heap.size → ((W5.alloc (.cells #[.int .i64 x.i, .int .i64 m.b, .int .i64 z, .int .i64 z, .int .i64 1000] 43)).drew).cell? p = some u := fun {p u} hp hl => (hd.cell (p := p) hl).trans hp
          have gD : ∀ {p : Addr} {u : Value}, W5.cell? p = some u → p.block < W5.heap.size → p.block ≠ b' → w'.cell? p = some u := fun {p u} hp hl hn => GF.out.cell (gA hp hl) (fun e => hn (by injection e))
          have n1 := nq V1.heap.size (by omega) (by omega)
          have n2' := nq (w.heap.size + 1) (by omega) (by omega)
          have n3 := nq b (by omega) (by omega)
          have hS0 : W5.drew.cell? ⟨V1.heap.size, 0, none⟩ = some (.slice (some ⟨g, 0, none⟩) 6 c5) ∧ W5.drew.cell? ⟨w.heap.size + 1, 0, none⟩ = some (.int .i64 x.i) ∧ W5.drew.cell? ⟨w.heap.size + 1, 8, none⟩ = some (.slice (some ⟨b, o, none⟩) n2 c2) ∧ W5.drew.cell? ⟨b, o + k * 2 + 1, none⟩ = some (.int .i64 m.b) := ⟨x0, t0, t8, a1'⟩
          have hS1 : ((W5.alloc (.cells #[.int .i64 x.i, .int .i64 m.b, .int .i64 z, .int .i64 z, .int .i64 1000] 43)).drew).cell? ⟨V1.heap.size, 0, none⟩ = some (.slice (some ⟨g, 0, none⟩) 6 c5) ∧ ((W5.alloc (.cells #[.int .i64 x.i, .int .i64 m.b, .int .i64 z, .int .i64 z, .int .i64 1000] 43)).drew).cell? ⟨w.heap.size + 1, 0, none⟩ = some (.int .i64 x.i) ∧ ((W5.alloc (.cells #[.int .i64 x.i, .int .i64 m.b, .int .i64 z, .int .i64 z, .int .i64 1000] 43)).drew).cell? ⟨w.heap.size + 1, 8, none⟩ = some (.slice (some ⟨b, o, none⟩) n2 c2) ∧ ((W5.alloc (.cells #[.int .i64 x.i, .int .i64 m.b, .int .i64 z, .int .i64 z, .int .i64 1000] 43)).drew).cell? ⟨b, o + k * 2 + 1, none⟩ = some (.int .i64 m.b) := ⟨gA x0 (by show V1.heap.size < _; omega), gA t0 (by show w.heap.size + 1 < _; omega), gA t8 (by show w.heap.size + 1 < _; omega), gA a1' (by show b < _; omega)⟩
          have hS2 : w'.cell? ⟨V1.heap.size, 0, none⟩ = some (.slice (some ⟨g, 0, none⟩) 6 c5) ∧ w'.cell? ⟨w.heap.size + 1, 0, none⟩ = some (.int .i64 x.i) ∧ w'.cell? ⟨w.heap.size + 1, 8, none⟩ = some (.slice (some ⟨b, o, none⟩) n2 c2) ∧ w'.cell? ⟨b, o + k * 2 + 1, none⟩ = some (.int .i64 m.b) := ⟨gD x0 (by show V1.heap.size < _; omega) n1.1, gD t0 (by show w.heap.size + 1 < _; omega) n2'.1, gD t8 (by show w.heap.size + 1 < _; omega) n2'.1, gD a1' (by show b < _; omega) n3.1⟩
          have hS3 : (w'.setCell ⟨g, kk, none⟩ (.slice A6 (l.length + 1) c6)).cell? ⟨V1.heap.size, 0, none⟩ = some (.slice (some ⟨g, 0, none⟩) 6 c5) ∧ (w'.setCell ⟨g, kk, none⟩ (.slice A6 (l.length + 1) c6)).cell? ⟨w.heap.size + 1, 0, none⟩ = some (.int .i64 x.i) ∧ (w'.setCell ⟨g, kk, none⟩ (.slice A6 (l.length + 1) c6)).cell? ⟨w.heap.size + 1, 8, none⟩ = some (.slice (some ⟨b, o, none⟩) n2 c2) ∧ (w'.setCell ⟨g, kk, none⟩ (.slice A6 (l.length + 1) c6)).cell? ⟨b, o + k * 2 + 1, none⟩ = some (.int .i64 m.b) := ⟨set_other hS2.1 n1.2.symm, set_other hS2.2.1 n2'.2.symm, set_other hS2.2.2.1 n2'.2.symm, set_other hS2.2.2.2 n3.2.symm⟩
          have d0 := L5.out.cell
          rw [hlen1] at d0
          have d1 : ((W5.alloc (.cells #[.int .i64 x.i, .int .i64 m.b, .int .i64 z, .int .i64 z, .int .i64 1000] 43)).drew).cell? ⟨g, kk, none⟩ = some (.slice (some ⟨b', 0, none⟩) l.length c') := gA d0 hgl5
          clear gA gD hd hmA hg9 hoq nq n1 n2' n3
          refine wp_region_held_drew (S := fun w' => w'.cell? ⟨V1.heap.size, 0, none⟩ = some (.slice (some ⟨g, 0, none⟩) 6 c5) ∧ w'.cell? ⟨w.heap.size + 1, 0, none⟩ = some (.int .i64 x.i) ∧ w'.cell? ⟨w.heap.size + 1, 8, none⟩ = some (.slice (some ⟨b, o, none⟩) n2 c2) ∧ w'.cell? ⟨b, o + k * 2 + 1, none⟩ = some (.int .i64 m.b)) (by kernel_rfl) hS0 (fun hHeld => ?_)
          refine wpAnyH_take (i := 0) (oi := { dst := some 104, op := Op.fieldAddr 26 (Operand.tmp 12) 0, type := 0, pos := "l09_commit.go:31", after := #[], guard := none }) (v := ?_) rfl (by kernel_rfl) (by kernel_rfl) (by kernel_rfl) (fun _ _ _ h => h) (Or.inl ⟨by rfl, ?_⟩) (by assumption) ?_
          rotate_left
          · intro w9 hSw
            (try dsimp only at hSw)
            go_simp
            (try with_reducible rfl)
          (try simp only [Act.put, List.setIfInBounds_toArray, List.set_cons_zero, List.set_cons_succ])
          refine wpAnyH_take (i := 1) (oi := { dst := some 105, op := Op.load 24 (Operand.tmp 104), type := 24, pos := "l09_commit.go:31", after := #[{ on := 0, ground := Ground.data }], guard := none }) (v := ?_) rfl (by kernel_rfl) (by kernel_rfl) (by kernel_rfl) (fun _ _ _ h => h) (Or.inl ⟨by rfl, ?_⟩) (by assumption) ?_
          rotate_left
          · intro w9 hSw
            (try dsimp only at hSw)
            go_simp
            (try with_reducible rfl)
          (try simp only [Act.put, List.setIfInBounds_toArray, List.set_cons_zero, List.set_cons_succ])
          refine wpAnyH_take (i := 2) (oi := { dst := some 106, op := Op.move (Operand.tmp 18), type := 3, pos := "l09_commit.go:31", after := #[], guard := none }) (v := ?_) rfl (by kernel_rfl) (by kernel_rfl) (by kernel_rfl) (fun _ _ _ h => h) (Or.inl ⟨by rfl, ?_⟩) (by assumption) ?_
          rotate_left
          · intro w9 hSw
            (try dsimp only at hSw)
            go_simp
            (try with_reducible rfl)
          (try simp only [Act.put, List.setIfInBounds_toArray, List.set_cons_zero, List.set_cons_succ])
          refine wpAnyH_take (i := 3) (oi := { dst := some 107, op := Op.fieldAddr 26 (Operand.tmp 12) 0, type := 0, pos := "l09_commit.go:31", after := #[], guard := none }) (v := ?_) rfl (by kernel_rfl) (by kernel_rfl) (by kernel_rfl) (fun _ _ _ h => h) (Or.inl ⟨by rfl, ?_⟩) (by assumption) ?_
          rotate_left
          · intro w9 hSw
            (try dsimp only at hSw)
            go_simp
            (try with_reducible rfl)
          (try simp only [Act.put, List.setIfInBounds_toArray, List.set_cons_zero, List.set_cons_succ])
          refine wpAnyH_take (i := 4) (oi := { dst := some 108, op := Op.load 24 (Operand.tmp 107), type := 24, pos := "l09_commit.go:31", after := #[{ on := 3, ground := Ground.data }], guard := none }) (v := ?_) rfl (by kernel_rfl) (by kernel_rfl) (by kernel_rfl) (fun _ _ _ h => h) (Or.inl ⟨by rfl, ?_⟩) (by assumption) ?_
          rotate_left
          · intro w9 hSw
            (try dsimp only at hSw)
            go_simp
            (try with_reducible rfl)
          (try simp only [Act.put, List.setIfInBounds_toArray, List.set_cons_zero, List.set_cons_succ])
          refine wpAnyH_take (i := 5) (oi := { dst := some 109, op := Op.move (Operand.tmp 18), type := 3, pos := "l09_commit.go:31", after := #[], guard := none }) (v := ?_) rfl (by kernel_rfl) (by kernel_rfl) (by kernel_rfl) (fun _ _ _ h => h) (Or.inl ⟨by rfl, ?_⟩) (by assumption) ?_
          rotate_left
          · intro w9 hSw
            (try dsimp only at hSw)
            go_simp
            (try with_reducible rfl)
          (try simp only [Act.put, List.setIfInBounds_toArray, List.set_cons_zero, List.set_cons_succ])
          refine wpAnyH_take (i := 6) (oi := { dst := some 110, op := Op.indexAddr 24 (Operand.tmp 108) (Operand.tmp 109), type := 0, pos := "l09_commit.go:31", after := #[{ on := 4, ground := Ground.data }, { on := 5, ground := Ground.data }], guard := none }) (v := ?_) rfl (by kernel_rfl) (by kernel_rfl) (by kernel_rfl) (fun _ _ _ h => h) (Or.inl ⟨by rfl, ?_⟩) (by assumption) ?_
          rotate_left
          · intro w9 hSw
            (try dsimp only at hSw)
            go_simp
            (try with_reducible rfl)
          (try simp only [Act.put, List.setIfInBounds_toArray, List.set_cons_zero, List.set_cons_succ])
          refine wpAnyH_take (i := 8) (oi := { dst := some 112, op := Op.fieldAddr 30 (Operand.tmp 6) 0, type := 0, pos := "l09_commit.go:31", after := #[], guard := none }) (v := ?_) rfl (by kernel_rfl) (by kernel_rfl) (by kernel_rfl) (fun _ _ _ h => h) (Or.inl ⟨by rfl, ?_⟩) (by assumption) ?_
          rotate_left
          · intro w9 hSw
            (try dsimp only at hSw)
            go_simp
            (try with_reducible rfl)
          (try simp only [Act.put, List.setIfInBounds_toArray, List.set_cons_zero, List.set_cons_succ])
          refine wpAnyH_take (i := 9) (oi := { dst := some 113, op := Op.load 3 (Operand.tmp 112), type := 3, pos := "l09_commit.go:31", after := #[{ on := 8, ground := Ground.data }], guard := none }) (v := ?_) rfl (by kernel_rfl) (by kernel_rfl) (by kernel_rfl) (fun _ _ _ h => h) (Or.inl ⟨by rfl, ?_⟩) (by assumption) ?_
          rotate_left
          · intro w9 hSw
            (try dsimp only at hSw)
            go_simp
            (try with_reducible rfl)
          (try simp only [Act.put, List.setIfInBounds_toArray, List.set_cons_zero, List.set_cons_succ])
          refine wpAnyH_take (i := 10) (oi := { dst := some 114, op := Op.fieldAddr 30 (Operand.tmp 6) 8, type := 0, pos := "l09_commit.go:31", after := #[], guard := none }) (v := ?_) rfl (by kernel_rfl) (by kernel_rfl) (by kernel_rfl) (fun _ _ _ h => h) (Or.inl ⟨by rfl, ?_⟩) (by assumption) ?_
          rotate_left
          · intro w9 hSw
            (try dsimp only at hSw)
            go_simp
            (try with_reducible rfl)
          (try simp only [Act.put, List.setIfInBounds_toArray, List.set_cons_zero, List.set_cons_succ])
          refine wpAnyH_take (i := 11) (oi := { dst := some 115, op := Op.load 28 (Operand.tmp 114), type := 28, pos := "l09_commit.go:31", after := #[{ on := 10, ground := Ground.data }], guard := none }) (v := ?_) rfl (by kernel_rfl) (by kernel_rfl) (by kernel_rfl) (fun _ _ _ h => h) (Or.inl ⟨by rfl, ?_⟩) (by assumption) ?_
          rotate_left
          · intro w9 hSw
            (try dsimp only at hSw)
            go_simp
            (try with_reducible rfl)
          (try simp only [Act.put, List.setIfInBounds_toArray, List.set_cons_zero, List.set_cons_succ])
          refine wpAnyH_take (i := 12) (oi := { dst := some 116, op := Op.move (Operand.tmp 17), type := 3, pos := "l09_commit.go:31", after := #[], guard := none }) (v := ?_) rfl (by kernel_rfl) (by kernel_rfl) (by kernel_rfl) (fun _ _ _ h => h) (Or.inl ⟨by rfl, ?_⟩) (by assumption) ?_
          rotate_left
          · intro w9 hSw
            (try dsimp only at hSw)
            go_simp
            (try with_reducible rfl)
          (try simp only [Act.put, List.setIfInBounds_toArray, List.set_cons_zero, List.set_cons_succ])
          refine wpAnyH_take (i := 13) (oi := { dst := some 117, op := Op.indexAddr 28 (Operand.tmp 115) (Operand.tmp 116), type := 0, pos := "l09_commit.go:31", after := #[{ on := 11, ground := Ground.data }, { on := 12, ground := Ground.data }], guard := none }) (v := ?_) rfl (by kernel_rfl) (by kernel_rfl) (by kernel_rfl) (fun _ _ _ h => h) (Or.inl ⟨by rfl, ?_⟩) (by assumption) ?_
          rotate_left
          · intro w9 hSw
            (try dsimp only at hSw)
            go_simp
            (try with_reducible rfl)
          (try simp only [Act.put, List.setIfInBounds_toArray, List.set_cons_zero, List.set_cons_succ])
          refine wpAnyH_take (i := 14) (oi := { dst := some 118, op := Op.fieldAddr 45 (Operand.tmp 117) 1, type := 0, pos := "l09_commit.go:31", after := #[{ on := 13, ground := Ground.data }], guard := none }) (v := ?_) rfl (by kernel_rfl) (by kernel_rfl) (by kernel_rfl) (fun _ _ _ h => h) (Or.inl ⟨by rfl, ?_⟩) (by assumption) ?_
          rotate_left
          · intro w9 hSw
            (try dsimp only at hSw)
            go_simp
            (try with_reducible rfl)
          (try simp only [Act.put, List.setIfInBounds_toArray, List.set_cons_zero, List.set_cons_succ])
          refine wpAnyH_take (i := 15) (oi := { dst := some 119, op := Op.load 3 (Operand.tmp 118), type := 3, pos := "l09_commit.go:31", after := #[{ on := 14, ground := Ground.data }], guard := none }) (v := ?_) rfl (by kernel_rfl) (by kernel_rfl) (by kernel_rfl) (fun _ _ _ h => h) (Or.inl ⟨by rfl, ?_⟩) (by assumption) ?_
          rotate_left
          · intro w9 hSw
            (try dsimp only at hSw)
            go_simp
            (try with_reducible rfl)
          (try simp only [Act.put, List.setIfInBounds_toArray, List.set_cons_zero, List.set_cons_succ])
          refine wpAnyH_take (i := 16) (oi := { dst := some 120, op := Op.move (Operand.tmp 2), type := 3, pos := "l09_commit.go:31", after := #[], guard := none }) (v := ?_) rfl (by kernel_rfl) (by kernel_rfl) (by kernel_rfl) (fun _ _ _ h => h) (Or.inl ⟨by rfl, ?_⟩) (by assumption) ?_
          rotate_left
          · intro w9 hSw
            (try dsimp only at hSw)
            go_simp
            (try with_reducible rfl)
          (try simp only [Act.put, List.setIfInBounds_toArray, List.set_cons_zero, List.set_cons_succ])
          refine wpAnyH_take (i := 17) (oi := { dst := some 121, op := Op.move (Operand.tmp 2), type := 3, pos := "l09_commit.go:31", after := #[], guard := none }) (v := ?_) rfl (by kernel_rfl) (by kernel_rfl) (by kernel_rfl) (fun _ _ _ h => h) (Or.inl ⟨by rfl, ?_⟩) (by assumption) ?_
          rotate_left
          · intro w9 hSw
            (try dsimp only at hSw)
            go_simp
            (try with_reducible rfl)
          (try simp only [Act.put, List.setIfInBounds_toArray, List.set_cons_zero, List.set_cons_succ])
          refine wpAnyH_take (i := 18) (oi := { dst := some 122, op := Op.build 43 #[(0, Operand.tmp 113), (1, Operand.tmp 119), (2, Operand.tmp 120), (3, Operand.tmp 121), (4, Operand.const (Value.int IntKind.i64 1000))], type := 43, pos := "l09_commit.go:31", after := #[{ on := 9, ground := Ground.data }, { on := 15, ground := Ground.data }, { on := 16, ground := Ground.data }, { on := 17, ground := Ground.data }], guard := none }) (v := ?_) rfl (by kernel_rfl) (by kernel_rfl) (by kernel_rfl) (fun _ _ _ h => h) (Or.inl ⟨by rfl, ?_⟩) (by assumption) ?_
          rotate_left
          · intro w9 hSw
            (try dsimp only at hSw)
            go_simp
            (try with_reducible rfl)
          (try simp only [Act.put, List.setIfInBounds_toArray, List.set_cons_zero, List.set_cons_succ])
          refine wpAnyH_ready (rs := [7, 19]) (by kernel_rfl) (by simp) ?_
          refine AllReadyH.cons (o := { dst := some 111, op := Op.load 37 (Operand.tmp 110), type := 37, pos := "l09_commit.go:31", after := #[{ on := 6, ground := Ground.data }], guard := none }) rfl (fun K hK => ?_) (AllReadyH.cons (o := { dst := some 123, op := Op.buildSlice 37 1 #[(0, Operand.tmp 122)], type := 37, pos := "l09_commit.go:31", after := #[{ on := 18, ground := Ground.data }], guard := none }) rfl (fun K hK => ?_) AllReadyH.nil)
          · go_simp
            refine hK.out _ _ hS0 (fun hHeld => ?_)
            clear hK K
            (try simp only [Act.put, List.setIfInBounds_toArray, List.set_cons_zero, List.set_cons_succ])
            refine wpAnyH_ready (rs := [19]) (by kernel_rfl) (by simp) ?_
            refine AllReadyH.cons (o := { dst := some 123, op := Op.buildSlice 37 1 #[(0, Operand.tmp 122)], type := 37, pos := "l09_commit.go:31", after := #[{ on := 18, ground := Ground.data }], guard := none }) rfl (fun K hK => ?_) AllReadyH.nil
            go_simp
            refine hK.out _ _ hS1 (fun hHeld => ?_)
            clear hK K
            (try simp only [Act.put, List.setIfInBounds_toArray, List.set_cons_zero, List.set_cons_succ])
            refine wpAnyH_ready (rs := [20]) (by kernel_rfl) (by simp) ?_
            refine AllReadyH.cons (o := { dst := some 124, op := Op.call { callee := Callee.builtin Builtin.append, args := #[Operand.tmp 111, Operand.tmp 123], argTypes := #[37, 37] }, type := 37, pos := "l09_commit.go:31", after := #[{ on := 7, ground := Ground.data }, { on := 19, ground := Ground.data }], guard := none }) rfl (fun K hK => ?_) AllReadyH.nil
            refine step_append_run rfl (.tmp 111) (.tmp 123) 37 37 rfl _ _ (by simp [Act.eval, Act.put]) (by simp [Act.eval, Act.put]) hr ?_
            refine hK.out _ _ hS2 (fun hHeld => ?_)
            clear hK K
            (try simp only [Act.put, List.setIfInBounds_toArray, List.set_cons_zero, List.set_cons_succ])
            refine wpAnyH_take (i := 21) (oi := { dst := some 125, op := Op.indexAddr 24 (Operand.tmp 105) (Operand.tmp 106), type := 0, pos := "l09_commit.go:31", after := #[{ on := 1, ground := Ground.data }, { on := 2, ground := Ground.data }, { on := 0, ground := Ground.phase }, { on := 1, ground := Ground.phase }, { on := 2, ground := Ground.phase }, { on := 3, ground := Ground.phase }, { on := 4, ground := Ground.phase }, { on := 5, ground := Ground.phase }, { on := 6, ground := Ground.phase }, { on := 7, ground := Ground.phase }, { on := 8, ground := Ground.phase }, { on := 9, ground := Ground.phase }, { on := 10, ground := Ground.phase }, { on := 11, ground := Ground.phase }, { on := 12, ground := Ground.phase }, { on := 13, ground := Ground.phase }, { on := 14, ground := Ground.phase }, { on := 15, ground := Ground.phase }, { on := 16, ground := Ground.phase }, { on := 17, ground := Ground.phase }, { on := 18, ground := Ground.phase }, { on := 19, ground := Ground.phase }, { on := 20, ground := Ground.phase }], guard := none }) (v := ?_) rfl (by kernel_rfl) (by kernel_rfl) (by kernel_rfl) (fun _ _ _ h => h) (Or.inl ⟨by rfl, ?_⟩) (by assumption) ?_
            rotate_left
            · intro w9 hSw
              (try dsimp only at hSw)
              go_simp
              (try with_reducible rfl)
            (try simp only [Act.put, List.setIfInBounds_toArray, List.set_cons_zero, List.set_cons_succ])
            refine wpAnyH_ready (rs := [22]) (by kernel_rfl) (by simp) ?_
            refine AllReadyH.cons (o := { dst := none, op := Op.store 37 (Operand.tmp 125) (Operand.tmp 124), type := 0, pos := "l09_commit.go:31", after := #[{ on := 21, ground := Ground.data }, { on := 20, ground := Ground.data }, { on := 20, ground := Ground.chain }, { on := 0, ground := Ground.phase }, { on := 1, ground := Ground.phase }, { on := 2, ground := Ground.phase }, { on := 3, ground := Ground.phase }, { on := 4, ground := Ground.phase }, { on := 5, ground := Ground.phase }, { on := 6, ground := Ground.phase }, { on := 7, ground := Ground.phase }, { on := 8, ground := Ground.phase }, { on := 9, ground := Ground.phase }, { on := 10, ground := Ground.phase }, { on := 11, ground := Ground.phase }, { on := 12, ground := Ground.phase }, { on := 13, ground := Ground.phase }, { on := 14, ground := Ground.phase }, { on := 15, ground := Ground.phase }, { on := 16, ground := Ground.phase }, { on := 17, ground := Ground.phase }, { on := 18, ground := Ground.phase }, { on := 19, ground := Ground.phase }, { on := 20, ground := Ground.phase }], guard := none }) rfl (fun K hK => ?_) AllReadyH.nil
            go_simp
            refine hK.out _ _ hS3 (fun hHeld => ?_)
            clear hK K
            (try simp only [Act.put, List.setIfInBounds_toArray, List.set_cons_zero, List.set_cons_succ])
            refine wpAnyH_done (by kernel_rfl) ?_ _
            clear hHeld hS0 hS1 hS2 hS3 hr hc9 hf9 x0 d0 d1 a1' t0 t8
            have hOF := OF.out
            have hAF := AF.out
            clear OF AF GF
            generalize World.setCell w' _ _ = W9 at hOF hAF ⊢
            have OF := Lib.hid hOF
            have AF := Lib.hid hAF
            clear hOF hAF
            go_wp2_with fail
            go_roundw
            case rel => exact ⟨k + 1, by omega, by go_num, OF.out, AF.out⟩
            case measure => simp [intOf]; omega
          · go_simp
            refine hK.out _ _ hS1 (fun hHeld => ?_)
            clear hK K
            (try simp only [Act.put, List.setIfInBounds_toArray, List.set_cons_zero, List.set_cons_succ])
            refine wpAnyH_ready (rs := [7]) (by kernel_rfl) (by simp) ?_
            refine AllReadyH.cons (o := { dst := some 111, op := Op.load 37 (Operand.tmp 110), type := 37, pos := "l09_commit.go:31", after := #[{ on := 6, ground := Ground.data }], guard := none }) rfl (fun K hK => ?_) AllReadyH.nil
            go_simp
            refine hK.out _ _ hS1 (fun hHeld => ?_)
            clear hK K
            (try simp only [Act.put, List.setIfInBounds_toArray, List.set_cons_zero, List.set_cons_succ])
            refine wpAnyH_ready (rs := [20]) (by kernel_rfl) (by simp) ?_
            refine AllReadyH.cons (o := { dst := some 124, op := Op.call { callee := Callee.builtin Builtin.append, args := #[Operand.tmp 111, Operand.tmp 123], argTypes := #[37, 37] }, type := 37, pos := "l09_commit.go:31", after := #[{ on := 7, ground := Ground.data }, { on := 19, ground := Ground.data }], guard := none }) rfl (fun K hK => ?_) AllReadyH.nil
            refine step_append_run rfl (.tmp 111) (.tmp 123) 37 37 rfl _ _ (by simp [Act.eval, Act.put]) (by simp [Act.eval, Act.put]) hr ?_
            refine hK.out _ _ hS2 (fun hHeld => ?_)
            clear hK K
            (try simp only [Act.put, List.setIfInBounds_toArray, List.set_cons_zero, List.set_cons_succ])
            refine wpAnyH_take (i := 21) (oi := { dst := some 125, op := Op.indexAddr 24 (Operand.tmp 105) (Operand.tmp 106), type := 0, pos := "l09_commit.go:31", after := #[{ on := 1, ground := Ground.data }, { on := 2, ground := Ground.data }, { on := 0, ground := Ground.phase }, { on := 1, ground := Ground.phase }, { on := 2, ground := Ground.phase }, { on := 3, ground := Ground.phase }, { on := 4, ground := Ground.phase }, { on := 5, ground := Ground.phase }, { on := 6, ground := Ground.phase }, { on := 7, ground := Ground.phase }, { on := 8, ground := Ground.phase }, { on := 9, ground := Ground.phase }, { on := 10, ground := Ground.phase }, { on := 11, ground := Ground.phase }, { on := 12, ground := Ground.phase }, { on := 13, ground := Ground.phase }, { on := 14, ground := Ground.phase }, { on := 15, ground := Ground.phase }, { on := 16, ground := Ground.phase }, { on := 17, ground := Ground.phase }, { on := 18, ground := Ground.phase }, { on := 19, ground := Ground.phase }, { on := 20, ground := Ground.phase }], guard := none }) (v := ?_) rfl (by kernel_rfl) (by kernel_rfl) (by kernel_rfl) (fun _ _ _ h => h) (Or.inl ⟨by rfl, ?_⟩) (by assumption) ?_
            rotate_left
            · intro w9 hSw
              (try dsimp only at hSw)
              go_simp
              (try with_reducible rfl)
            (try simp only [Act.put, List.setIfInBounds_toArray, List.set_cons_zero, List.set_cons_succ])
            refine wpAnyH_ready (rs := [22]) (by kernel_rfl) (by simp) ?_
            refine AllReadyH.cons (o := { dst := none, op := Op.store 37 (Operand.tmp 125) (Operand.tmp 124), type := 0, pos := "l09_commit.go:31", after := #[{ on := 21, ground := Ground.data }, { on := 20, ground := Ground.data }, { on := 20, ground := Ground.chain }, { on := 0, ground := Ground.phase }, { on := 1, ground := Ground.phase }, { on := 2, ground := Ground.phase }, { on := 3, ground := Ground.phase }, { on := 4, ground := Ground.phase }, { on := 5, ground := Ground.phase }, { on := 6, ground := Ground.phase }, { on := 7, ground := Ground.phase }, { on := 8, ground := Ground.phase }, { on := 9, ground := Ground.phase }, { on := 10, ground := Ground.phase }, { on := 11, ground := Ground.phase }, { on := 12, ground := Ground.phase }, { on := 13, ground := Ground.phase }, { on := 14, ground := Ground.phase }, { on := 15, ground := Ground.phase }, { on := 16, ground := Ground.phase }, { on := 17, ground := Ground.phase }, { on := 18, ground := Ground.phase }, { on := 19, ground := Ground.phase }, { on := 20, ground := Ground.phase }], guard := none }) rfl (fun K hK => ?_) AllReadyH.nil
            go_simp
            refine hK.out _ _ hS3 (fun hHeld => ?_)
            clear hK K
            (try simp only [Act.put, List.setIfInBounds_toArray, List.set_cons_zero, List.set_cons_succ])
            refine wpAnyH_done (by kernel_rfl) ?_ _
            clear hHeld hS0 hS1 hS2 hS3 hr hc9 hf9 x0 d0 d1 a1' t0 t8
            have hOF := OF.out
            have hAF := AF.out
            clear OF AF GF
            generalize World.setCell w' _ _ = W9 at hOF hAF ⊢
            have OF := Lib.hid hOF
            have AF := Lib.hid hAF
            clear hOF hAF
            go_wp2_with fail
            go_roundw
            case rel => exact ⟨k + 1, by omega, by go_num, OF.out, AF.out⟩
            case measure => simp [intOf]; omega
        · have t : decide ((k : Int) < (n2 : Int)) = false := decide_eq_false (by omega)
          obtain rfl : n2 = k := by omega
          go_wp2_with fail
          clear t0 t8
          have hT9 := OT.keep (V' := wr) R4.out.ot fun q h h' => hag2.block q (by omega) (qNo q (by omega) (by omega))
          have blk : ∀ q, q < W4.heap.size → ¬ (W1.heap.size ≤ q ∧ q < V1.heap.size) → wr.heap[q]? = W4.heap[q]? := fun q h1 h2 => hag2.block q h1 (qNo q h1 h2)
          have T5 := Lib.hid (TBx.mk R4.out.tbx.lo (R4.out.tbx.bx.of_block (blk V2.heap.size (by omega) (by omega))))
          have Z05 : Hid (SBx w wr (w.heap.size + 1 + 1) (.slice none 0 0)) := Lib.hid ⟨Z04.out.lo, Nat.lt_of_lt_of_le Z04.out.lt hsz9, (World.cell?_of_block (a := ⟨w.heap.size + 1 + 1, 0, none⟩) (blk (w.heap.size + 1 + 1) Z04.out.lt (by omega))).trans Z04.out.cell, (World.frozen?_of_block (a := ⟨w.heap.size + 1 + 1, 0, none⟩) (blk (w.heap.size + 1 + 1) Z04.out.lt (by omega))).trans Z04.out.free⟩
          have Z15 : Hid (TBx w wr (w.heap.size + 1 + 1 + 1) ⟨0, 0, 0, 0, 0, 0, 0⟩ (.slice none 0 0) (.slice none 0 0)) := Lib.hid ⟨Z14.out.lo, Z14.out.bx.of_block (blk (w.heap.size + 1 + 1 + 1) Z14.out.bx.lt (by omega))⟩
          have HB5 := Lib.hid (bW hag2)
          have OT5 := Lib.hid hT9
          have k0 := xW hag2
          have OK2 := OK.out
          have hQ5 : ∀ q, Q q → w.heap.size + 4 ≤ q := fun q h => by rw [HQ.out] at h; omega
          clear hT9 blk hag2 AK OK bW xW tW Z04 Z14
          rw [show wrK x.i z H C1 S n2 = insC C x.i z H R S by rw [HC1.out, ← hlS]; rfl] at OK2
          have OK := Lib.hid OK2
          clear OK2
          obtain ⟨b0, b1, b2, b3, b4, b5, b6, b7, b8⟩ := T5.out.bx.tb
          have r0 := Z05.out.cell
          have r1 := Z05.out.free
          obtain ⟨z0, z1, z2, z3, z4, z5, z6, z7, z8⟩ := Z15.out.bx.tb
          have y0 := Z15.out.bx.fz 0
          have y1 := Z15.out.bx.fz 1
          have y2 := Z15.out.bx.fz 2
          have y3 := Z15.out.bx.fz 3
          have y4 := Z15.out.bx.fz 4
          have y5 := Z15.out.bx.fz 5
          have y6 := Z15.out.bx.fz 6
          have y7 := Z15.out.bx.fz 7
          have y8 := Z15.out.bx.fz 8
          go_region
          have F0 := (fin1 (s := .slice A5 6 c5) (x := ⟨x.i, x.s, 2, x.b, L, H, z⟩) (u := .slice A9 n c9) (v := .slice B9 n2 d9) Z05.out Z15.out (by omega)).drew
          clear k0 b0 b1 b2 b3 b4 b5 b6 b7 b8 r0 r1 z0 z1 z2 z3 z4 z5 z6 z7 z8 y0 y1 y2 y3 y4 y5 y6 y7 y8
          generalize World.drew _ = Wf at F0 ⊢
          have F := Lib.hid F0
          clear F0
          go_wp2_with fail
          have es := F.out.st
          obtain ⟨e0, e1, e2, e3, e4, e5, e6, e7, e8⟩ := F.out.tb
          obtain ⟨hO, hT, hB9⟩ := fin_end OK.out hQ5 OT5.out (by omega) (by omega) HB5.out F.out
          refine bodyPost_ret (v := .tuple #[.agg #[.slice A5 6 c5], .agg #[.int .i64 x.i, .int .i64 x.s, .int .i64 2, .int .i64 x.b, .int .i64 L, .int .i64 H, .int .i64 z, .slice A9 n c9, .slice B9 n2 d9]]) (by simp [results, Tryz.results40, go_sem, es, e0, e1, e2, e3, e4, e5, e6, e7, e8]) rfl ?_
          exact ⟨_, _, _, _, _, _, rfl, hO, hT, hB9⟩
end Go.Proofs.YtigbknmiidhblaaGreatDoor.li
/- CommittedStamp of both: what each answers; nothing that was there is written. -/
namespace Go.Proofs.YtigbknmiidhblaaGreatDoor.cst
open Go.ChangeShapes Go.WideShapes Go.ChangeAt Go.RowKit
open Go.Proofs.YtigbknmiidhblaaGreatDoor.el2 Go.Proofs.YtigbknmiidhblaaGreatDoor.tx Go.Proofs.YtigbknmiidhblaaGreatDoor.seq Go.Proofs.YtigbknmiidhblaaGreatDoor.tv
open Go.Proofs.YtigbknmiidhblaaGreatDoor.cq (cstI cst_yes cst_tx cst_t)
set_option linter.unusedVariables false
set_option linter.unusedSimpArgs false
set_option maxRecDepth 100000 in
set_option maxHeartbeats 1600000 in
theorem impl_cst {w : World} {B n c n2 c2 : Nat} {A A2 : Option Addr} {R S : List E2} (x : Hd) (hn : n ≤ 1048576) (hn2 : n2 ≤ 1048576) (h1 : Vs w B A n R) (h2 : Vs w B A2 n2 S) (hB : B ≤ w.heap.size) :
    Calls Tryz.prog 14 #[.agg #[.int .i64 x.i, .int .i64 x.s, .int .i64 x.t, .int .i64 x.b, .int .i64 x.l, .int .i64 x.h, .int .i64 x.c, .slice A n c, .slice A2 n2 c2]] w fun e w' => e = .returned (.int .i64 (cstI x R S)) ∧ Below w.heap.size w w' := by
  have H1 := Lib.hid h1
  have H2 := Lib.hid h2
  clear h1 h2
  go_enter Tryz.func14, Tryz.ntmps14
  go_wp2_with fail
  have hb := new1 w (.cells #[.int .i64 x.i, .int .i64 x.s, .int .i64 x.t, .int .i64 x.b, .int .i64 x.l, .int .i64 x.h, .int .i64 x.c, .slice A n c, .slice A2 n2 c2] 30)
  have tb := TB.new w x A n c A2 n2 c2 30
  have hs : (w.alloc (.cells #[.int .i64 x.i, .int .i64 x.s, .int .i64 x.t, .int .i64 x.b, .int .i64 x.l, .int .i64 x.h, .int .i64 x.c, .slice A n c, .slice A2 n2 c2] 30)).heap.size = w.heap.size + 1 := by simp
  generalize w.alloc _ = W0 at hb tb hs ⊢
  have HB0 := Lib.hid hb
  have HT0 := Lib.hid tb
  obtain ⟨t0, t1, t2, t3, t4, t5, t6, t7, t8⟩ := tb
  clear hb
  go_wp2_with fail
  refine (Go.Proofs.YtigbknmiidhblaaGreatDoor.tv.impl_tx x (by omega) (by omega) (H1.out.below (below_le HB0.out hB)) (H2.out.below (below_le HB0.out hB)) (by omega)).mono ?_
  rintro e W1 ⟨rfl, hb1⟩
  clear t0 t1 t2 t3 t4 t5 t6 t7 t8
  obtain ⟨t0, t1, t2, t3, t4, t5, t6, t7, t8⟩ := HT0.out.keep (by omega) hb1
  have HB1 := Lib.hid (HB0.out.trans (hb1.mono (by omega)))
  clear hb1 t0 t1 t3 t4 t5 t7 t8
  rcases hq : txB x R S with _ | _
  · have HQ := Lib.hid hq
    clear hq
    go_wp2_with fail
    go_ret
    exact ⟨ret_i (cst_tx HQ.out).symm, HB1.out⟩
  · have HQ := Lib.hid hq
    clear hq
    by_cases h2 : x.t = 2
    · have HT := Lib.hid h2
      have t : (x.t != 2) = false := by rw [h2]; rfl
      clear h2
      go_wp2_with fail
      go_ret
      exact ⟨ret_i (cst_yes HQ.out HT.out).symm, HB1.out⟩
    · have HT := Lib.hid h2
      have t : (x.t != 2) = true := bne_iff_ne.2 h2
      clear h2
      go_wp2_with fail
      go_ret
      exact ⟨ret_i (cst_t HT.out).symm, HB1.out⟩
end Go.Proofs.YtigbknmiidhblaaGreatDoor.cst
/- InstalledVersions of both: in memory of its own; nothing that was there is written. -/
namespace Go.Proofs.YtigbknmiidhblaaGreatDoor.inv
open Go.ChangeShapes Go.WideShapes Go.ChangeAt Go.RowKit
open Go.Proofs.YtigbknmiidhblaaGreatDoor.el2 Go.Proofs.YtigbknmiidhblaaGreatDoor.tx Go.Proofs.YtigbknmiidhblaaGreatDoor.seq Go.Proofs.YtigbknmiidhblaaGreatDoor.tv Go.Proofs.YtigbknmiidhblaaGreatDoor.rx Go.Proofs.YtigbknmiidhblaaGreatDoor.cq
open Go.Proofs.YtigbknmiidhblaaGreatDoor.sl (Ver)
open Go.Proofs.YtigbknmiidhblaaGreatDoor.st (Rs)
open Go.Proofs.YtigbknmiidhblaaGreatDoor.val (stB)
open Go.Proofs.YtigbknmiidhblaaGreatDoor.find (fndI)
open Go.Proofs.YtigbknmiidhblaaGreatDoor.av (run_append_v one_vs)
open Go.Proofs.YtigbknmiidhblaaGreatDoor.oq (own_lo)
set_option linter.unusedVariables false
set_option linter.unusedSimpArgs false
set_option linter.constructorNameAsVariable false
/-- a list of versions in memory of the call's own -/
def VlO (w : World) (l : List Ver) (e : Ending) (w' : World) : Prop :=
  ∃ A' c', e = .returned (.slice A' l.length c') ∧ w'.ownsRow w.heap.size 43 5 (.slice A' l.length c') l.length (flat.flat l) ∧ Below w.heap.size w w'
theorem inst_no {C : List (List Ver)} {x : Hd} {R S : List E2} (h : instB C x R S = false) : [] = instL C x R S := (if_neg (by rw [h]; exact Bool.false_ne_true)).symm
theorem inst_yes {C : List (List Ver)} {x : Hd} {R S : List E2} {z : Int} (h : instB C x R S = true) (hz : cstI x R S = z) : instK C x.i z 6 = instL C x R S := by subst hz; exact (if_pos h).symm
theorem instB_0 {C : List (List Ver)} {x : Hd} {R S : List E2} (h : cstI x R S = 0) : instB C x R S = false := by simp [instB, h]
theorem instB_s {C : List (List Ver)} {x : Hd} {R S : List E2} (h : stB C = false) : instB C x R S = false := by simp [instB, h]
theorem instB_y {C : List (List Ver)} {x : Hd} {R S : List E2} (h : cstI x R S ≠ 0) (h2 : stB C = true) : instB C x R S = true := by simp [instB, h, h2]
theorem ist_none {C : List (List Ver)} {i z : Int} {k : Nat} (h : instV C i z k = none) : instK C i z (k + 1) = instK C i z k := by rw [instK_step, h]; simp
theorem ist_some {C : List (List Ver)} {i z : Int} {k : Nat} {v : Ver} (h : instV C i z k = some v) : instK C i z (k + 1) = instK C i z k ++ [v] := by rw [instK_step, h]; rfl
theorem instK_len (C : List (List Ver)) (i z : Int) : ∀ k, (instK C i z k).length ≤ k
  | 0 => Nat.le_refl _
  | k + 1 => by
    have := instK_len C i z k
    rcases h : instV C i z k with _ | v
    · rw [ist_none h]; omega
    · rw [ist_some h, List.length_append]; simp; omega
theorem instL_len (C : List (List Ver)) (x : Hd) (R S : List E2) : (instL C x R S).length ≤ 6 := by
  unfold instL
  split
  · exact instK_len _ _ _ 6
  · simp
theorem own_form {w : World} {base n : Nat} {v : Value} {xs : List Value} {t : TypeId} (h : w.ownsRow base t 5 v n xs) : ∃ A c, v = .slice A n c := by
  rcases h.2 with ⟨rfl, rfl⟩ | ⟨g, cap, cur, rfl, _⟩
  · exact ⟨none, 0, rfl⟩
  · exact ⟨_, cap, rfl⟩
/-- one version more: what the append hands back -/
theorem app_one (W : World) {base k c0 : Nat} {A0 : Option Addr} {xs : List Ver} (v : Ver) (ho : W.ownsRow base 43 5 (.slice A0 k c0) k (flat.flat xs)) (hk : k ≤ 6) (hb : base ≤ W.heap.size) :
    ∃ A' c' V', (Builtin.append_ #[37, 37] 37 #[.slice A0 k c0, .slice (some ⟨W.heap.size, 0, none⟩) 1 1]).run Tryz.prog (W.alloc (.cells #[.int .i64 v.a, .int .i64 v.b, .int .i64 v.c, .int .i64 v.d, .int .i64 v.e] 43)) = .ok (.slice A' (k + 1) c') V' ∧ V'.ownsRow base 43 5 (.slice A' (k + 1) c') (k + 1) (flat.flat (xs ++ [v])) ∧ Below base W V' := by
  have hn := new1 W (.cells #[.int .i64 v.a, .int .i64 v.b, .int .i64 v.c, .int .i64 v.d, .int .i64 v.e] 43)
  have ho' := flat.own_keep ho hn
  have hs : (W.alloc (.cells #[.int .i64 v.a, .int .i64 v.b, .int .i64 v.c, .int .i64 v.d, .int .i64 v.e] 43)).heap.size = W.heap.size + 1 := by simp
  obtain ⟨v', V', hr, ho2, hg, hq⟩ := run_append_v (W.alloc (.cells #[.int .i64 v.a, .int .i64 v.b, .int .i64 v.c, .int .i64 v.d, .int .i64 v.e] 43)) (own_lo ho' fun q _ => Nat.zero_le q) (c := 1) (one_vs (ch.boxed W v 43)) (by omega)
  obtain ⟨A', c', rfl⟩ := own_form ho2
  refine ⟨A', c', V', hr, own_lo ho2 fun q e => ?_, (hn.mono hb).grown hg (by omega) fun q e => (ho'.lt q e).1⟩
  rcases hq q e with h | h
  · exact (ho'.lt q h).1
  · omega
theorem ls_low {w W W' : World} {sv u v : Value} {x : Hd} (h : LS w sv x u v W) (hb : Below (w.heap.size + 2) W W') : LS w sv x u v W' where
  bel := h.bel.trans (hb.mono (by omega))
  size := Nat.le_trans h.size hb.size
  st := (hb.cell (p := ⟨w.heap.size, 0, none⟩) (by simp)).trans h.st
  tb := h.tb.keep (by omega) hb
set_option maxRecDepth 100000 in
set_option maxHeartbeats 6400000 in
theorem impl_inst {w : World} {B n c n2 c2 N cN : Nat} {A A2 D : Option Addr} {R S : List E2} {C : List (List Ver)} (x : Hd) (hn : n ≤ 1048576) (hn2 : n2 ≤ 1048576) (hN : N ≤ 1048576) (h1 : Vs w B A n R) (h2 : Vs w B A2 n2 S) (h3 : Rs w B D N C) (hB : B ≤ w.heap.size) :
    Calls Tryz.prog 11 #[.agg #[.slice D N cN], .agg #[.int .i64 x.i, .int .i64 x.s, .int .i64 x.t, .int .i64 x.b, .int .i64 x.l, .int .i64 x.h, .int .i64 x.c, .slice A n c, .slice A2 n2 c2]] w (VlO w (instL C x R S)) := by
  have H1 := Lib.hid h1
  have H2 := Lib.hid h2
  have H3 := Lib.hid h3
  have hCN := h3.1
  obtain ⟨z, hz⟩ : ∃ z, cstI x R S = z := ⟨_, rfl⟩
  have hzr := cst_range x R S
  rw [hz] at hzr
  have HZ := Lib.hid hz
  clear h1 h2 h3 hz
  go_enter Tryz.func11, Tryz.ntmps11
  go_wp2_with fail
  have hL := LS.mk2 w (.slice D N cN) 26 30 x A n c A2 n2 c2
  generalize ((w.alloc _).alloc _) = W0 at hL ⊢
  have L0 := Lib.hid hL
  obtain ⟨t0, t1, t2, t3, t4, t5, t6, t7, t8⟩ := hL.tb
  clear hL
  go_wp2_with fail
  refine (Go.Proofs.YtigbknmiidhblaaGreatDoor.cst.impl_cst x (by omega) (by omega) (H1.out.below (below_le L0.out.bel hB)) (H2.out.below (below_le L0.out.bel hB)) (by have := L0.out.size; omega)).mono ?_
  rintro e W1 ⟨rfl, hb1⟩
  rw [HZ.out]
  have L1 := Lib.hid (L0.out.call hb1)
  clear hb1 t0 t1 t2 t3 t4 t5 t6 t7 t8
  have c0 := L1.out.st
  by_cases hz0 : z = 0
  · have t : (z == 0) = true := by rw [hz0]; rfl
    have HE : Hid ([] = instL C x R S) := Lib.hid (inst_no (instB_0 (HZ.out.trans hz0)))
    clear hz0
    go_wp2_with fail
    go_ret
    rw [← HE.out]
    exact ⟨_, _, rfl, World.ownsRow_nil _ _ _ _, L1.out.bel⟩
  · have t : (z == 0) = false := beq_eq_false_iff_ne.2 hz0
    go_wp2_with fail
    refine (Go.Proofs.YtigbknmiidhblaaGreatDoor.val.impl_store (by omega) (H3.out.below (below_le L1.out.bel hB)) (by have := L1.out.size; omega)).mono ?_
    rintro e W2 ⟨rfl, hb2⟩
    have L2 := Lib.hid (L1.out.call hb2)
    clear hb2 c0
    rcases hq : stB C with _ | _
    · have HE : Hid ([] = instL C x R S) := Lib.hid (inst_no (instB_s hq))
      go_wp2_with fail
      go_ret
      rw [← HE.out]
      exact ⟨_, _, rfl, World.ownsRow_nil _ _ _ _, L2.out.bel⟩
    · have HE : Hid (instK C x.i z 6 = instL C x R S) := Lib.hid (inst_yes (instB_y (by rw [HZ.out]; exact hz0) hq) HZ.out)
      have h6 := Go.Proofs.YtigbknmiidhblaaGreatDoor.val.st_six hq
      obtain rfl : N = 6 := by omega
      have c0 := L2.out.st
      clear hq hz0 t
      go_wp2_with fail
      clear c0
      go_loopw [21, 6] (fun i u wr => ∃ (k m : Nat) (A0 : Option Addr) (c0 : Nat), k ≤ 6 ∧ m = (instK C x.i z k).length ∧ i = .int .i64 k ∧ u = .slice A0 m c0 ∧ wr.ownsRow (w.heap.size + 2) 43 5 (.slice A0 m c0) m (flat.flat (instK C x.i z k)) ∧ LS w (.slice D 6 cN) x (.slice A n c) (.slice A2 n2 c2) wr) (fun i _ _ => 6 - (intOf i).toNat)
      case atStart => exact ⟨0, 0, none, 0, by omega, rfl, rfl, rfl, World.ownsRow_nil _ _ _ _, L2.out⟩
      case round =>
        obtain ⟨k, m, A0, c0, hk, hm, rfl, rfl, ho, hL⟩ := hrel
        have OW := Lib.hid ho
        have LW := Lib.hid hL
        have HM := Lib.hid hm
        have hmk : m ≤ 6 := by have := instK_len C x.i z k; omega
        clear ho hL hm
        by_cases hlt : k < 6
        · have t : decide ((k : Int) < 6) = true := decide_eq_true (by omega)
          go_wp2_with fail
          refine (Go.Proofs.YtigbknmiidhblaaGreatDoor.ri.impl_vof (B := B) (C := C) ⟨(k : Int), z⟩ w.heap.size (by have := LW.out.size; omega) LW.out.st (by show (0 : Int) ≤ (k : Int); omega) (by show (k : Int) < ((6 : Nat) : Int); omega) (H3.out.below (below_le LW.out.bel hB)) (by have := LW.out.size; omega)).mono ?_
          rintro e W3 ⟨hvo, hb3⟩
          have L3 := Lib.hid (LW.out.call hb3)
          have O3 := Lib.hid (flat.own_keep OW.out hb3)
          clear hb3
          rcases hvo with ⟨hh, rfl⟩ | ⟨hh, b, o, rfl, hbB, hat⟩
          · have HN : Hid (instK C x.i z (k + 1) = instK C x.i z k) := Lib.hid (ist_none (instV_no hh))
            clear hh
            go_wp2_with fail
            go_quiet (fail)
            go_wp2_with fail
            go_roundw
            case rel => exact ⟨k + 1, m, A0, c0, by omega, by rw [HN.out]; exact HM.out, by go_num, rfl, by rw [HN.out]; exact O3.out, L3.out.drewN _⟩
            case measure => simp [intOf]; omega
          · obtain ⟨v, hv⟩ : ∃ v, verOf C ⟨(k : Int), z⟩ = v := ⟨_, rfl⟩
            rw [hv] at hat
            have AT := Lib.hid hat
            obtain ⟨v0, v1, v2, v3, v4⟩ := hat
            obtain ⟨t0, t1, t2, t3, t4, t5, t6, t7, t8⟩ := L3.out.tb
            by_cases hi : v.a = x.i
            · have HN : Hid (instK C x.i z (k + 1) = instK C x.i z k ++ [v]) := Lib.hid (ist_some (instV_yes hh hv hi))
              have t9 : (v.a == x.i) = true := by rw [hi]; simp
              clear hh hv hi t1 t2 t3 t4 t5 t6 t7 t8 v1 v2 v3 v4
              go_wp2_with fail
              go_quiet (fail)
              generalize hW : W3.drewN _ = W4
              have L4 : Hid (LS w (.slice D 6 cN) x (.slice A n c) (.slice A2 n2 c2) W4) := Lib.hid (by rw [← hW]; exact L3.out.drewN _)
              have O4 : Hid (W4.ownsRow (w.heap.size + 2) 43 5 (.slice A0 m c0) m (flat.flat (instK C x.i z k))) := Lib.hid (by rw [← hW]; exact O3.out)
              have A4 : Hid (sl.At W4 b o v) := Lib.hid (by rw [← hW]; exact AT.out)
              clear hW v0 t0
              obtain ⟨v0, v1, v2, v3, v4⟩ := A4.out
              obtain ⟨A', c', W5, hr, ho5, hb5⟩ := app_one W4 v O4.out hmk L4.out.size
              go_wp2_with (at_builtin; refine Lib.wpList_append_run _ rfl _ _ 37 37 rfl _ _ rfl rfl _ _ hr ?_)
              have L5 := Lib.hid (ls_low L4.out hb5)
              have O5 := Lib.hid ho5
              clear v0 v1 v2 v3 v4 hr ho5 hb5
              go_roundw
              case rel => exact ⟨k + 1, m + 1, A', c', by omega, by rw [HN.out, List.length_append, ← HM.out]; rfl, by go_num, rfl, by rw [HN.out]; exact O5.out, L5.out⟩
              case measure => simp [intOf]; omega
            · have HN : Hid (instK C x.i z (k + 1) = instK C x.i z k) := Lib.hid (ist_none (instV_ne (by rw [hv]; exact hi)))
              have t9 : (v.a == x.i) = false := beq_eq_false_iff_ne.2 hi
              clear hh hv hi t1 t2 t3 t4 t5 t6 t7 t8 v1 v2 v3 v4
              go_wp2_with fail
              go_quiet (fail)
              go_wp2_with fail
              go_roundw
              case rel => exact ⟨k + 1, m, A0, c0, by omega, by rw [HN.out]; exact HM.out, by go_num, rfl, by rw [HN.out]; exact O3.out, L3.out.drewN _⟩
              case measure => simp [intOf]; omega
        · obtain rfl : k = 6 := by omega
          have t : decide (((6 : Nat) : Int) < 6) = false := by decide
          go_wp2_with fail
          go_ret
          have hm := HM.out
          subst hm
          rw [← HE.out]
          exact ⟨A0, c0, rfl, own_lo OW.out fun q e => by have := (OW.out.lt q e).1; omega, LW.out.bel⟩
end Go.Proofs.YtigbknmiidhblaaGreatDoor.inv
namespace Go.Proofs.YtigbknmiidhblaaGreatDoor.abt
open Go.ChangeShapes Go.WideShapes Go.ChangeAt Go.RowKit
open Go.Proofs.YtigbknmiidhblaaGreatDoor.el2 Go.Proofs.YtigbknmiidhblaaGreatDoor.tx Go.Proofs.YtigbknmiidhblaaGreatDoor.fr Go.Proofs.YtigbknmiidhblaaGreatDoor.ow2 Go.Proofs.YtigbknmiidhblaaGreatDoor.ap Go.Proofs.YtigbknmiidhblaaGreatDoor.bx Go.Proofs.YtigbknmiidhblaaGreatDoor.cl
open Go.Proofs.YtigbknmiidhblaaGreatDoor.vers (new2)
open Go.Proofs.YtigbknmiidhblaaGreatDoor.tv (txB)
open Go.Proofs.YtigbknmiidhblaaGreatDoor.ia (actB act_t act_f)
set_option linter.unusedVariables false
set_option linter.unusedSimpArgs false
set_option linter.constructorNameAsVariable false
/-- what an abort makes of a transaction -/
noncomputable def abX (x : Hd) (R S : List E2) : Hd := if actB x R S = true then { x with t := 3 } else x
theorem ab_yes {x : Hd} {R S : List E2} (h : actB x R S = true) : { x with t := 3 } = abX x R S := (if_pos h).symm
theorem ab_no {x : Hd} {R S : List E2} (h : actB x R S = false) : x = abX x R S := (if_neg (by rw [h]; exact Bool.false_ne_true)).symm
theorem Bx.set2 {w : World} {b : Nat} {x : Hd} {u v : Value} (h : Bx w b x u v) (z : Int) : Bx (w.setCell ⟨b, 2, none⟩ (.int .i64 z)) b { x with t := z } u v := (World.rowIs.set h 2 (.int .i64 z)).congr (nine_ext rfl rfl rfl rfl rfl rfl rfl rfl rfl)
def AbO (w : World) (n n2 : Nat) (R S : List E2) (y : Hd) (ok : Bool) (e : Ending) (w' : World) : Prop :=
  ∃ A2 c2 B2 d2, e = .returned (.tuple #[.agg #[.int .i64 y.i, .int .i64 y.s, .int .i64 y.t, .int .i64 y.b, .int .i64 y.l, .int .i64 y.h, .int .i64 y.c, .slice A2 n c2, .slice B2 n2 d2], .bool ok]) ∧ OwnT w' w.heap.size (.slice A2 n c2) n R (.slice B2 n2 d2) n2 S ∧ Below w.heap.size w w'
set_option maxRecDepth 100000 in
set_option maxHeartbeats 3200000 in
theorem impl_abort {w : World} {B n c n2 c2 : Nat} {A A2 : Option Addr} {R S : List E2} (x : Hd) (hn : n ≤ 1048576) (hn2 : n2 ≤ 1048576) (h1 : Vs w B A n R) (h2 : Vs w B A2 n2 S) (hB : B ≤ w.heap.size) :
    Calls Tryz.prog 16 #[.agg #[.int .i64 x.i, .int .i64 x.s, .int .i64 x.t, .int .i64 x.b, .int .i64 x.l, .int .i64 x.h, .int .i64 x.c, .slice A n c, .slice A2 n2 c2]] w (AbO w n n2 R S (abX x R S) (actB x R S)) := by
  have H1 := Lib.hid h1
  have H2 := Lib.hid h2
  have hl1 := h1.1
  have hl2 := h2.1
  clear h1 h2
  go_enter Tryz.func16, Tryz.ntmps16
  go_wp2_with fail
  have hb := new2 w (.cells #[.int .i64 x.i, .int .i64 x.s, .int .i64 x.t, .int .i64 x.b, .int .i64 x.l, .int .i64 x.h, .int .i64 x.c, .slice A n c, .slice A2 n2 c2] 30) (.cells #[.int .i64 0, .int .i64 0, .int .i64 0, .int .i64 0, .int .i64 0, .int .i64 0, .int .i64 0, .slice none 0 0, .slice none 0 0] 30)
  have tb := (Bx.new w x (.slice A n c) (.slice A2 n2 c2)).alloc (.cells #[.int .i64 0, .int .i64 0, .int .i64 0, .int .i64 0, .int .i64 0, .int .i64 0, .int .i64 0, .slice none 0 0, .slice none 0 0] 30)
  have rb := Bx.zero (w.alloc (.cells #[.int .i64 x.i, .int .i64 x.s, .int .i64 x.t, .int .i64 x.b, .int .i64 x.l, .int .i64 x.h, .int .i64 x.c, .slice A n c, .slice A2 n2 c2] 30))
  have hs : ((w.alloc (.cells #[.int .i64 x.i, .int .i64 x.s, .int .i64 x.t, .int .i64 x.b, .int .i64 x.l, .int .i64 x.h, .int .i64 x.c, .slice A n c, .slice A2 n2 c2] 30)).alloc (.cells #[.int .i64 0, .int .i64 0, .int .i64 0, .int .i64 0, .int .i64 0, .int .i64 0, .int .i64 0, .slice none 0 0, .slice none 0 0] 30)).heap.size = w.heap.size + 2 := by simp
  rw [show (w.alloc (.cells #[.int .i64 x.i, .int .i64 x.s, .int .i64 x.t, .int .i64 x.b, .int .i64 x.l, .int .i64 x.h, .int .i64 x.c, .slice A n c, .slice A2 n2 c2] 30)).heap.size = w.heap.size + 1 by simp] at rb
  generalize (w.alloc _).alloc _ = W0 at hb tb rb hs ⊢
  have HB0 := Lib.hid hb
  have T0 := Lib.hid tb
  have R0 := Lib.hid rb
  obtain ⟨t0, t1, t2, t3, t4, t5, t6, t7, t8⟩ := tb.tb
  clear hb tb rb
  go_wp2_with fail
  refine (copy_t x (by omega) (by omega) (H1.out.below (below_le HB0.out hB)) (H2.out.below (below_le HB0.out hB)) (by omega)).mono ?_
  rintro e W1 ⟨u, v, rfl, ho1, hb1⟩
  obtain ⟨A', c', rfl, _⟩ := own_vs ho1.1 hl1
  obtain ⟨B', d', rfl, _⟩ := own_vs ho1.2 hl2
  clear t0 t1 t2 t3 t4 t5 t6 t7 t8
  have hs1 := hb1.size
  have T1 := Lib.hid (T0.out.keep hb1 (by omega))
  have R1 := Lib.hid (R0.out.keep hb1 (by omega))
  have O1 := Lib.hid ho1
  have HB1 := Lib.hid (HB0.out.trans (hb1.mono (by omega)))
  have hbn := new1 W1 (.cells #[.int .i64 x.i, .int .i64 x.s, .int .i64 x.t, .int .i64 x.b, .int .i64 x.l, .int .i64 x.h, .int .i64 x.c, .slice A' n c', .slice B' n2 d'] 30)
  obtain ⟨t0, t1, t2, t3, t4, t5, t6, t7, t8⟩ := (T1.out.alloc (.cells #[.int .i64 x.i, .int .i64 x.s, .int .i64 x.t, .int .i64 x.b, .int .i64 x.l, .int .i64 x.h, .int .i64 x.c, .slice A' n c', .slice B' n2 d'] 30)).tb
  have hq1 : ∀ q, (Value.slice A' n c').ownBlock = some q → q < W1.heap.size := fun q e => (ho1.1.lt q e).2
  have hq2 : ∀ q, (Value.slice B' n2 d').ownBlock = some q → q < W1.heap.size := fun q e => (ho1.2.lt q e).2
  have hsn : (W1.alloc (.cells #[.int .i64 x.i, .int .i64 x.s, .int .i64 x.t, .int .i64 x.b, .int .i64 x.l, .int .i64 x.h, .int .i64 x.c, .slice A' n c', .slice B' n2 d'] 30)).heap.size = W1.heap.size + 1 := by simp
  clear hb1 ho1
  unfold txv
  go_wp2_with fail
  refine (Go.Proofs.YtigbknmiidhblaaGreatDoor.ia.impl_active x (by omega) (by omega) ((H1.out.below (below_le HB1.out hB)).below (below_le hbn (by omega))) ((H2.out.below (below_le HB1.out hB)).below (below_le hbn (by omega))) (by omega)).mono ?_
  rintro e W2 ⟨rfl, hb2⟩
  have hb12 : Below W1.heap.size W1 W2 := hbn.trans (hb2.mono (by omega))
  have hs2 := hb2.size
  have X2 := Lib.hid ((Bx.new W1 x (.slice A' n c') (.slice B' n2 d')).keep hb2 (by omega))
  have R2 := Lib.hid (R1.out.keep hb12 (by omega))
  have O2 : Hid (OwnT W2 W0.heap.size (.slice A' n c') n R (.slice B' n2 d') n2 S) := Lib.hid (O1.out.keep hb12)
  have HB2 := Lib.hid (HB1.out.trans (hb12.mono (by omega)))
  clear t0 t1 t2 t3 t4 t5 t6 t7 t8
  obtain ⟨a0, a1, a2, a3, a4, a5, a6, a7, a8⟩ := (T1.out.keep hb12 (by omega)).tb
  obtain ⟨t0, t1, t2, t3, t4, t5, t6, t7, t8⟩ := X2.out.tb
  obtain ⟨z0, z1, z2, z3, z4, z5, z6, z7, z8⟩ := R2.out.tb
  have y0 := R2.out.fz 0
  have y1 := R2.out.fz 1
  have y2 := R2.out.fz 2
  have y3 := R2.out.fz 3
  have y4 := R2.out.fz 4
  have y5 := R2.out.fz 5
  have y6 := R2.out.fz 6
  have y7 := R2.out.fz 7
  have y8 := R2.out.fz 8
  have xf := X2.out.fz 2
  clear hb2 hb12 hbn
  rcases hq : actB x R S with _ | _
  · have HA : Hid (false = actB x R S) := Lib.hid hq.symm
    clear hq
    go_wp2_with fail
    have hgb := give_back (w := w) (x := x) (u := .slice A' n c') (v := .slice B' n2 d') R2.out O2.out (by omega) (by omega) HB2.out (by omega)
    obtain ⟨hT, hO, hB9⟩ := hgb
    (try simp only at hT hO hB9)
    generalize (((((((((World.setCell _ _ _).setCell _ _).setCell _ _).setCell _ _).setCell _ _).setCell _ _).setCell _ _).setCell _ _).setCell _ _) = W4 at hT hO hB9 ⊢
    obtain ⟨e0, e1, e2, e3, e4, e5, e6, e7, e8⟩ := hT
    (try simp only at e0 e1 e2 e3 e4 e5 e6)
    exact bodyPost_ret (v := .tuple #[txv x (.slice A' n c') (.slice B' n2 d'), .bool false]) (by simp [results, Tryz.results16, go_sem, txv, e0, e1, e2, e3, e4, e5, e6, e7, e8]) rfl (by rw [← HA.out, ← ab_no HA.out.symm]; exact ⟨_, _, _, _, rfl, hO, hB9⟩)
  · have HA : Hid (true = actB x R S) := Lib.hid hq.symm
    clear hq
    go_wp2_with fail
    have X3 := Lib.hid (Bx.set2 X2.out 3)
    have o9 := (Off.refl W1.heap.size W2).setCell (p := ⟨W1.heap.size, 2, none⟩) rfl (.int .i64 3)
    have R3 := Lib.hid (R2.out.other o9 (by omega))
    have O3 : Hid (OwnT (W2.setCell ⟨W1.heap.size, 2, none⟩ (.int .i64 3)) W0.heap.size (.slice A' n c') n R (.slice B' n2 d') n2 S) := Lib.hid ⟨oq.own_of O2.out.1 (fun q e => o9.block q (by have := hq1 q e; omega)), oq.own_of O2.out.2 (fun q e => o9.block q (by have := hq2 q e; omega))⟩
    have B3 := Lib.hid (HB2.out.trans (o9.below (B := w.heap.size) (by omega)))
    have hgb := give_back (w := w) (x := { x with t := 3 }) (u := .slice A' n c') (v := .slice B' n2 d') R3.out O3.out (by omega) (by omega) B3.out (by omega)
    obtain ⟨hT, hO, hB9⟩ := hgb
    (try simp only at hT hO hB9)
    generalize (((((((((World.setCell _ _ _).setCell _ _).setCell _ _).setCell _ _).setCell _ _).setCell _ _).setCell _ _).setCell _ _).setCell _ _) = W4 at hT hO hB9 ⊢
    obtain ⟨e0, e1, e2, e3, e4, e5, e6, e7, e8⟩ := hT
    (try simp only at e0 e1 e2 e3 e4 e5 e6)
    exact bodyPost_ret (v := .tuple #[txv { x with t := 3 } (.slice A' n c') (.slice B' n2 d'), .bool true]) (by simp [results, Tryz.results16, go_sem, txv, e0, e1, e2, e3, e4, e5, e6, e7, e8]) rfl (by rw [← HA.out, ← ab_yes HA.out.symm]; exact ⟨_, _, _, _, rfl, hO, hB9⟩)
end Go.Proofs.YtigbknmiidhblaaGreatDoor.abt
