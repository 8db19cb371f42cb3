/- Chapter 11: what the functions of waits answer. Plain mathematics. -/
import Derived.Test.YtjnlbhmddhpmaaaGreatLk
namespace Go.Proofs.YtjnlbhmddhpmaaaGreat.wt
open Go.Proofs.YtjnlbhmddhpmaaaGreat.el2 Go.Proofs.YtjnlbhmddhpmaaaGreat.seq Go.Proofs.YtjnlbhmddhpmaaaGreat.pw Go.Proofs.YtjnlbhmddhpmaaaGreat.mw
open Go.Proofs.YtjnlbhmddhpmaaaGreat.vers (In in_yes in_no in_of in_off)
open Go.Proofs.YtjnlbhmddhpmaaaGreat.lk (ownI folK folK_yes folK_no asc_adj own_none own_mem own_hit)
set_option linter.unusedVariables false
set_option linter.unusedSimpArgs false
def okT (x : E2) : Bool := In 1 9 x.a && In 1 9 x.b && !decide (x.a = x.b)
noncomputable def wtB (l : List E2) : Bool := sqB okT folK l
noncomputable def setB (l : List E2) (i o : Int) : Bool := wtB l && In 1 9 i && In 1 9 o && !decide (i = o)
noncomputable def setL (l : List E2) (i o : Int) : List E2 := if setB l i o = true then insW ⟨i, o⟩ l else l
def clrL (i : Int) (l : List E2) : List E2 := l.filter fun x => !decide (x.a = i) && !decide (x.b = i)
theorem okT_a {x : E2} (h : In 1 9 x.a = false) : okT x = false := by simp [okT, h]
theorem okT_b {x : E2} (h : In 1 9 x.b = false) : okT x = false := by simp [okT, h]
theorem okT_c {x : E2} (h : x.a = x.b) : okT x = false := by simp [okT, h]
theorem okT_yes {x : E2} (h : In 1 9 x.a = true) (h2 : In 1 9 x.b = true) (h3 : x.a ≠ x.b) : okT x = true := by simp [okT, h, h2, h3]
theorem wt_asc {l : List E2} (h : wtB l = true) : Asc l := asc_adj fun j a b ha hb => of_decide_eq_true ((sq_of h).2 j a b ha hb)
theorem wt_ok {l : List E2} (h : wtB l = true) {x : E2} (hx : x ∈ l) : (1 ≤ x.a ∧ x.a ≤ 9) ∧ (1 ≤ x.b ∧ x.b ≤ 9) ∧ x.a ≠ x.b := by
  obtain ⟨j, hj, rfl⟩ := List.getElem_of_mem hx
  have h1 := (sq_of h).1 j _ (List.getElem?_eq_getElem hj)
  simp only [okT, Bool.and_eq_true] at h1
  exact ⟨in_yes h1.1.1, in_yes h1.1.2, by simpa using h1.2⟩
theorem wt_of {l : List E2} (ha : Asc l) (hm : ∀ x ∈ l, okT x = true) : wtB l = true := sq_yes ⟨fun k x hx => hm x (List.mem_of_getElem? hx), fun k x y hx hy => by
  have h1 := lt_of_some hx
  have h2 := lt_of_some hy
  rw [List.getElem?_eq_getElem h1] at hx
  rw [List.getElem?_eq_getElem h2] at hy
  injection hx with hx
  injection hy with hy
  have := (List.pairwise_iff_getElem.1 ha) k (k + 1) h1 h2 (by omega)
  rw [hx, hy] at this
  exact folK_yes this⟩
theorem asc_len9 : ∀ (l : List E2) (lo : Int), Asc l → (∀ m ∈ l, lo ≤ m.a ∧ m.a ≤ 9) → (l.length : Int) ≤ max 0 (10 - lo)
  | [], lo, _, _ => by simp; omega
  | x :: r, lo, ha, hm => by
    obtain ⟨h1, h2⟩ := List.pairwise_cons.1 ha
    have ih := asc_len9 r (x.a + 1) h2 fun m hmr => ⟨by have := h1 m hmr; omega, (hm m (List.mem_cons_of_mem _ hmr)).2⟩
    have := hm x (by simp)
    simp only [List.length_cons]
    omega
theorem wt_len {l : List E2} (h : wtB l = true) : l.length ≤ 9 := by
  have := asc_len9 l 1 (wt_asc h) fun m hm => (wt_ok h hm).1
  omega
theorem set_bad {l : List E2} {i o : Int} (h : wtB l = false ∨ In 1 9 i = false ∨ In 1 9 o = false ∨ i = o) : setB l i o = false ∧ setL l i o = l := by
  have e : setB l i o = false := by rcases h with h | h | h | h <;> simp [setB, h]
  exact ⟨e, by unfold setL; rw [e]; exact if_neg fun hh => by cases hh⟩
theorem set_good {l : List E2} {i o : Int} (hl : wtB l = true) (hi : In 1 9 i = true) (ho : In 1 9 o = true) (hne : i ≠ o) : setB l i o = true ∧ setL l i o = insW ⟨i, o⟩ l := by
  have e : setB l i o = true := by simp [setB, hl, hi, ho, hne]
  exact ⟨e, by unfold setL; rw [e]; exact if_pos rfl⟩
theorem set_parts {l : List E2} {i o : Int} (h : setB l i o = true) : wtB l = true ∧ In 1 9 i = true ∧ In 1 9 o = true ∧ i ≠ o := by
  simp only [setB, Bool.and_eq_true] at h
  exact ⟨h.1.1.1, h.1.1.2, h.1.2, by simpa using h.2⟩
theorem set_small (l : List E2) (i o : Int) : (setL l i o).length ≤ max l.length 10 := by
  by_cases h : setB l i o = true
  · unfold setL
    rw [if_pos h]
    have h1 := wt_len (set_parts h).1
    have h2 := insW_len ⟨i, o⟩ l
    omega
  · unfold setL
    rw [if_neg h]
    omega
theorem set_mem {l : List E2} {i o : Int} (h : setB l i o = true) {x : E2} : x ∈ setL l i o ↔ (x = ⟨i, o⟩ ∨ (x ∈ l ∧ x.a ≠ i)) := by
  unfold setL
  rw [if_pos h]
  exact insW_mem (wt_asc (set_parts h).1)
theorem set_wt {l : List E2} {i o : Int} (h : setB l i o = true) : wtB (setL l i o) = true := by
  obtain ⟨h1, h2, h3, h4⟩ := set_parts h
  refine wt_of ?_ fun x hx => ?_
  · unfold setL
    rw [if_pos h]
    exact insW_asc (wt_asc h1)
  · rcases (set_mem h).1 hx with rfl | hx
    · exact okT_yes h2 h3 h4
    · have := wt_ok h1 hx.1
      exact okT_yes (in_of this.1) (in_of this.2.1) this.2.2
theorem set_for {l : List E2} {i o : Int} (h : setB l i o = true) : ownI i (setL l i o) = o := own_mem (wt_asc (set_wt h)) ((set_mem h).2 (.inl rfl) : (⟨i, o⟩ : E2) ∈ _)
theorem clr_len (i : Int) (l : List E2) : (clrL i l).length ≤ l.length := List.length_filter_le _ _
theorem clr_no {i : Int} {l : List E2} {x : E2} (h : x ∈ clrL i l) : x.a ≠ i ∧ x.b ≠ i := by
  have := (List.mem_filter.1 h).2
  simpa using this
/-! the chain -/
/-- what a chain goes on with: f steps at most, out so far, n the next -/
def chF (l : List E2) : Nat → List Int → Int → List Int
  | 0, out, _ => out
  | f + 1, out, n => if 0 < n ∧ n ≤ 9 then (if n ∈ out then out ++ [n] else chF l f (out ++ [n]) (ownI n l)) else out
noncomputable def chL (l : List E2) (i : Int) : List Int := if wtB l = true then chF l 10 [] i else []
theorem pigeon : ∀ (m : Nat) (xs : List Int), xs.Nodup → (∀ x ∈ xs, 1 ≤ x ∧ x ≤ (m : Int)) → xs.length ≤ m
  | 0, xs, _, h => by
    cases xs with
    | nil => exact Nat.le_refl _
    | cons x r => have := h x (by simp); omega
  | m + 1, xs, hn, h => by
    have h2 := pigeon m (xs.erase ((m : Int) + 1)) (hn.erase _) fun x hx => by
      have h3 := (hn.mem_erase_iff).1 hx
      have h4 := h x h3.2
      have := h3.1
      omega
    by_cases hm : ((m : Int) + 1) ∈ xs
    · rw [List.length_erase_of_mem hm] at h2
      omega
    · rw [List.erase_of_not_mem hm] at h2
      omega
/-- the state of the walk along a chain -/
structure Ch (l : List E2) (i : Int) (out : List Int) (n : Int) : Prop where
  eq : chL l i = chF l (10 - out.length) out n
  nodup : out.Nodup
  rng : ∀ x ∈ out, 1 ≤ x ∧ x ≤ 9
theorem Ch.len {l : List E2} {i n : Int} {out : List Int} (h : Ch l i out n) : out.length ≤ 9 := pigeon 9 out h.nodup fun x hx => by have := h.rng x hx; omega
theorem Ch.start {l : List E2} {i : Int} (h : wtB l = true) : Ch l i [] i := ⟨by unfold chL; rw [if_pos h]; rfl, List.nodup_nil, fun x hx => by simp at hx⟩
theorem Ch.stop {l : List E2} {i n : Int} {out : List Int} (h : Ch l i out n) (hn : ¬ (0 < n ∧ n ≤ 9)) : chL l i = out := by
  have hl := h.len
  rw [h.eq, show 10 - out.length = (9 - out.length) + 1 by omega]
  unfold chF
  rw [if_neg hn]
theorem Ch.twice {l : List E2} {i n : Int} {out : List Int} (h : Ch l i out n) (hn : 0 < n ∧ n ≤ 9) (hm : n ∈ out) : chL l i = out ++ [n] := by
  have hl := h.len
  rw [h.eq, show 10 - out.length = (9 - out.length) + 1 by omega]
  unfold chF
  rw [if_pos hn, if_pos hm]
theorem Ch.next {l : List E2} {i n : Int} {out : List Int} (h : Ch l i out n) (hn : 0 < n ∧ n ≤ 9) (hm : ¬ n ∈ out) : Ch l i (out ++ [n]) (ownI n l) where
  eq := by
    have hl := h.len
    rw [h.eq, show 10 - out.length = (9 - out.length) + 1 by omega]
    conv => lhs; unfold chF
    rw [if_pos hn, if_neg hm, List.length_append, List.length_singleton, show 10 - (out.length + 1) = 9 - out.length by omega]
  nodup := List.nodup_append.2 ⟨h.nodup, by simp, fun a ha b hb => by
    simp at hb
    subst hb
    exact fun e => hm (e ▸ ha)⟩
  rng := fun x hx => by
    rcases List.mem_append.1 hx with hx | hx
    · exact h.rng x hx
    · simp at hx; omega
theorem chF_pre (l : List E2) : ∀ (f : Nat) (out : List Int) (n : Int), ∃ r, chF l f out n = out ++ r
  | 0, out, n => ⟨[], by simp [chF]⟩
  | f + 1, out, n => by
    unfold chF
    split
    · split
      · exact ⟨[n], rfl⟩
      · obtain ⟨r, hr⟩ := chF_pre l f (out ++ [n]) (ownI n l)
        exact ⟨n :: r, by rw [hr]; simp⟩
    · exact ⟨[], by simp⟩
theorem ch_len (l : List E2) : ∀ (f : Nat) (out : List Int) (n : Int), (chF l f out n).length ≤ out.length + f
  | 0, out, n => by simp [chF]
  | f + 1, out, n => by
    unfold chF
    split
    · split
      · simp
      · have := ch_len l f (out ++ [n]) (ownI n l)
        simp only [List.length_append, List.length_singleton] at this
        omega
    · omega
theorem chL_len (l : List E2) (i : Int) : (chL l i).length ≤ 10 := by
  unfold chL
  split
  · exact ch_len l 10 [] i
  · simp
theorem ch_bad {l : List E2} {i : Int} (h : wtB l = false) : chL l i = [] := by unfold chL; rw [h]; exact if_neg fun hh => by cases hh
/-- behind a wait that is set the chain begins with it -/
theorem ch_set {l : List E2} {i o : Int} (h : setB l i o = true) : ∃ r, chL (setL l i o) i = i :: o :: r := by
  obtain ⟨h1, h2, h3, h4⟩ := set_parts h
  have hi := in_yes h2
  have ho := in_yes h3
  unfold chL
  rw [if_pos (set_wt h)]
  unfold chF
  rw [if_pos (by omega), if_neg (by simp), set_for h]
  unfold chF
  rw [if_pos (by omega), if_neg (by simpa using fun e : o = i => h4 e.symm)]
  obtain ⟨r, hr⟩ := chF_pre (setL l i o) 8 ([] ++ [i] ++ [o]) (ownI o (setL l i o))
  exact ⟨r, by rw [hr]; simp⟩
/-- a deadlock -/
noncomputable def ddB (l : List E2) (i o : Int) : Bool := setB l i o && decide ((chL (setL l i o) i).getLast? = some i)
end Go.Proofs.YtjnlbhmddhpmaaaGreat.wt
