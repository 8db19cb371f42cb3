/- Chapter 10: what the functions of locks answer. Plain mathematics. -/
import Derived.Test.YtjnlbhmddhpmaaaGreatTv
import Derived.Test.YtjnlbhmddhpmaaaGreatMw
namespace Go.Proofs.YtjnlbhmddhpmaaaGreat.lk
open Go.Proofs.YtjnlbhmddhpmaaaGreat.el2 Go.Proofs.YtjnlbhmddhpmaaaGreat.seq Go.Proofs.YtjnlbhmddhpmaaaGreat.pw Go.Proofs.YtjnlbhmddhpmaaaGreat.mw
open Go.Proofs.YtjnlbhmddhpmaaaGreat.vers (In in_yes in_no in_of in_off)
set_option linter.unusedVariables false
set_option linter.unusedSimpArgs false
def okK (x : E2) : Bool := In 0 5 x.a && In 1 9 x.b
def folK (a b : E2) : Bool := decide (a.a < b.a)
noncomputable def lkB (l : List E2) : Bool := sqB okK folK l
def ownI (key : Int) : List E2 → Int
  | [] => 0
  | x :: r => if x.a = key then x.b else ownI key r
def ofL (o : Int) (l : List E2) : List Int := (l.filter fun x => decide (x.b = o)).map (·.a)
def relL (o : Int) (l : List E2) : List E2 := l.filter fun x => !decide (x.b = o)
noncomputable def acB (l : List E2) (key o : Int) : Bool := lkB l && In 0 5 key && In 1 9 o && (decide (ownI key l = 0) || decide (ownI key l = o))
noncomputable def acL (l : List E2) (key o : Int) : List E2 := if acB l key o = true ∧ ownI key l ≠ o then insW ⟨key, o⟩ l else l
theorem okK_a {x : E2} (h : In 0 5 x.a = false) : okK x = false := by simp [okK, h]
theorem okK_b {x : E2} (h : In 1 9 x.b = false) : okK x = false := by simp [okK, h]
theorem okK_yes {x : E2} (h : In 0 5 x.a = true) (h2 : In 1 9 x.b = true) : okK x = true := by simp [okK, h, h2]
theorem folK_yes {x y : E2} (h : x.a < y.a) : folK x y = true := decide_eq_true h
theorem folK_no {x y : E2} (h : ¬ x.a < y.a) : folK x y = false := decide_eq_false h
theorem asc_adj : ∀ {l : List E2}, (∀ (j : Nat) (a b : E2), l[j]? = some a → l[j + 1]? = some b → a.a < b.a) → Asc l
  | [], _ => List.Pairwise.nil
  | [x], _ => List.pairwise_singleton _ _
  | a :: b :: r, h => by
    have ih : Asc (b :: r) := asc_adj fun j p q hp hq => h (j + 1) p q (by simpa using hp) (by simpa using hq)
    have hab := h 0 a b (by simp) (by simp)
    refine List.pairwise_cons.2 ⟨fun z hz => ?_, ih⟩
    rcases List.mem_cons.1 hz with e | hz
    · subst e; exact hab
    · have := (List.pairwise_cons.1 ih).1 z hz
      omega
theorem lk_asc {l : List E2} (h : lkB l = true) : Asc l := asc_adj fun j a b ha hb => of_decide_eq_true ((sq_of h).2 j a b ha hb)
theorem lk_ok {l : List E2} (h : lkB l = true) {x : E2} (hx : x ∈ l) : (0 ≤ x.a ∧ x.a ≤ 5) ∧ (1 ≤ x.b ∧ x.b ≤ 9) := by
  obtain ⟨j, hj, rfl⟩ := List.getElem_of_mem hx
  have h1 := (sq_of h).1 j _ (List.getElem?_eq_getElem hj)
  simp only [okK, Bool.and_eq_true] at h1
  exact ⟨in_yes h1.1, in_yes h1.2⟩
theorem lk_of {l : List E2} (ha : Asc l) (hm : ∀ x ∈ l, okK x = true) : lkB l = true := sq_yes ⟨fun k x hx => hm x (List.mem_of_getElem? hx), fun k x y hx hy => by
  have h1 := lt_of_some hx
  have h2 := lt_of_some hy
  rw [List.getElem?_eq_getElem h1] at hx
  rw [List.getElem?_eq_getElem h2] at hy
  injection hx with hx
  injection hy with hy
  have := (List.pairwise_iff_getElem.1 ha) k (k + 1) h1 h2 (by omega)
  rw [hx, hy] at this
  exact folK_yes this⟩
theorem asc_len : ∀ (l : List E2) (lo : Int), Asc l → (∀ m ∈ l, lo ≤ m.a ∧ m.a ≤ 5) → (l.length : Int) ≤ max 0 (6 - lo)
  | [], lo, _, _ => by simp; omega
  | x :: r, lo, ha, hm => by
    obtain ⟨h1, h2⟩ := List.pairwise_cons.1 ha
    have ih := asc_len r (x.a + 1) h2 fun m hmr => ⟨by have := h1 m hmr; omega, (hm m (List.mem_cons_of_mem _ hmr)).2⟩
    have := hm x (by simp)
    simp only [List.length_cons]
    omega
theorem lk_len {l : List E2} (h : lkB l = true) : l.length ≤ 6 := by
  have := asc_len l 0 (lk_asc h) fun m hm => ⟨(lk_ok h hm).1.1, (lk_ok h hm).1.2⟩
  omega
theorem own_none {key : Int} : ∀ {l : List E2}, (∀ y ∈ l, y.a ≠ key) → ownI key l = 0
  | [], _ => rfl
  | x :: r, h => by
    unfold ownI
    rw [if_neg (h x (by simp)), own_none fun y hy => h y (List.mem_cons_of_mem _ hy)]
theorem own_mem : ∀ {l : List E2}, Asc l → ∀ {x : E2}, x ∈ l → ownI x.a l = x.b
  | y :: r, ha, x, hx => by
    obtain ⟨h1, h2⟩ := List.pairwise_cons.1 ha
    unfold ownI
    rcases List.mem_cons.1 hx with e | hx
    · subst e; simp
    · rw [if_neg (by have := h1 x hx; omega)]
      exact own_mem h2 hx
theorem own_hit {key o : Int} {l : List E2} (h : ownI key l = o) (ho : o ≠ 0) : (⟨key, o⟩ : E2) ∈ l := by
  induction l with
  | nil => exact absurd h.symm ho
  | cons x r ih =>
    unfold ownI at h
    split at h
    · rename_i he
      have : x = ⟨key, o⟩ := by cases x; simp_all
      rw [this]; simp
    · exact List.mem_cons_of_mem _ (ih h)
theorem own_zero {key : Int} {l : List E2} (hl : lkB l = true) (h : ownI key l = 0) : ∀ y ∈ l, y.a ≠ key := by
  intro y hy e
  subst e
  rw [own_mem (lk_asc hl) hy] at h
  have := (lk_ok hl hy).2
  omega
/-! as the map of the locks says -/
theorem mf_none {l : List E2} {key : Int} (ha : Asc l) (h : mf l key = none) : ∀ y ∈ l, y.a ≠ key := by
  intro y hy e
  subst e
  have := (mf_get ha y.a y.b).2 hy
  rw [h] at this; cases this
theorem mf_own {l : List E2} {key u : Int} (ha : Asc l) (h : mf l key = some u) : ownI key l = u := own_mem ha ((mf_get ha key u).1 h)
theorem ac_some {l : List E2} {key o u : Int} (hl : lkB l = true) (hk : In 0 5 key = true) (ho : In 1 9 o = true) (h : mf l key = some u) : acB l key o = decide (u = o) ∧ acL l key o = l := by
  have h1 := mf_own (lk_asc hl) h
  have h2 := (lk_ok hl ((mf_get (lk_asc hl) key u).1 h)).2
  have e : acB l key o = decide (u = o) := by
    have : decide (u = 0) = false := decide_eq_false (by simp only at h2; omega)
    simp [acB, hl, hk, ho, h1, this]
  refine ⟨e, ?_⟩
  unfold acL
  rw [e, h1]
  exact if_neg fun hh => hh.2 (of_decide_eq_true hh.1)
theorem ac_none {l : List E2} {key o : Int} (hl : lkB l = true) (hk : In 0 5 key = true) (ho : In 1 9 o = true) (h : mf l key = none) : acB l key o = true ∧ acL l key o = insW ⟨key, o⟩ l := by
  have h1 := own_none (mf_none (lk_asc hl) h)
  have h2 := in_yes ho
  have e : acB l key o = true := by simp [acB, hl, hk, ho, h1]
  refine ⟨e, ?_⟩
  unfold acL
  rw [e, h1]
  exact if_pos ⟨rfl, by omega⟩
theorem ac_bad {l : List E2} {key o : Int} (h : lkB l = false ∨ In 0 5 key = false ∨ In 1 9 o = false) : acB l key o = false ∧ acL l key o = l := by
  have e : acB l key o = false := by rcases h with h | h | h <;> simp [acB, h]
  exact ⟨e, by unfold acL; rw [e]; exact if_neg fun hh => by cases hh.1⟩
/-- the sorted entries -/
theorem sort_same {l r : List E2} (ha : Asc l) (hr : Asc r) (h : ∀ x u, mf l x = some u ↔ (⟨x, u⟩ : E2) ∈ r) : r = l := asc_ext hr ha fun z => by
  rw [← h z.a z.b, mf_get ha]
/-! as the model goes -/
theorem ac_off {l : List E2} {key o : Int} (hl : lkB l = true) (hk : In 0 5 key = true) (ho : In 1 9 o = true) (h0 : ownI key l ≠ 0) (h1 : ownI key l ≠ o) : acB l key o = false ∧ acL l key o = l := by
  have e : acB l key o = false := by simp [acB, h0, h1]
  exact ⟨e, by unfold acL; rw [e]; exact if_neg fun hh => by cases hh.1⟩
theorem ac_own {l : List E2} {key o : Int} (hl : lkB l = true) (hk : In 0 5 key = true) (ho : In 1 9 o = true) (h1 : ownI key l = o) : acB l key o = true ∧ acL l key o = l := by
  have e : acB l key o = true := by simp [acB, hl, hk, ho, h1]
  exact ⟨e, by unfold acL; exact if_neg fun hh => hh.2 h1⟩
theorem ac_new {l : List E2} {key o : Int} (hl : lkB l = true) (hk : In 0 5 key = true) (ho : In 1 9 o = true) (h0 : ownI key l = 0) : acB l key o = true ∧ acL l key o = l.take (posW key l) ++ ⟨key, o⟩ :: l.drop (posW key l) := by
  have h2 := in_yes ho
  have e : acB l key o = true := by simp [acB, hl, hk, ho, h0]
  refine ⟨e, ?_⟩
  unfold acL
  rw [e, if_pos ⟨rfl, by omega⟩]
  rcases hg : l[posW key l]? with _ | y
  · have hn : l.length ≤ posW key l := by
      rcases Nat.lt_or_ge (posW key l) l.length with h | h
      · rw [List.getElem?_eq_getElem h] at hg; cases hg
      · exact h
    rw [insW_end (m := ⟨key, o⟩) rfl hn, List.drop_eq_nil_of_le (by exact hn)]
  · exact insW_miss (m := ⟨key, o⟩) rfl hg (own_zero hl h0 y (List.mem_of_getElem? hg))
theorem ac_len (l : List E2) (key o : Int) : (acL l key o).length ≤ l.length + 1 := by
  unfold acL
  split
  · exact insW_len _ _
  · omega
theorem rel_len (o : Int) (l : List E2) : (relL o l).length ≤ l.length := List.length_filter_le _ _
theorem of_len (o : Int) (l : List E2) : (ofL o l).length ≤ l.length := by
  unfold ofL
  rw [List.length_map]
  exact List.length_filter_le _ _
/-! what the law says of them -/
section
variable {l : List E2} {key o : Int} (h : acB l key o = true)
include h
theorem ac_parts : lkB l = true ∧ In 0 5 key = true ∧ In 1 9 o = true ∧ (ownI key l = 0 ∨ ownI key l = o) := by
  simp only [acB, Bool.and_eq_true, Bool.or_eq_true, decide_eq_true_eq] at h
  exact ⟨h.1.1.1, h.1.1.2, h.1.2, h.2⟩
theorem ac_mem {x : E2} : x ∈ acL l key o ↔ (x = ⟨key, o⟩ ∨ (x ∈ l ∧ x.a ≠ key)) := by
  obtain ⟨h1, h2, h3, h4⟩ := ac_parts h
  unfold acL
  split
  · exact insW_mem (lk_asc h1)
  · rename_i hn
    have he : ownI key l = o := Classical.byContradiction fun e => hn ⟨h, e⟩
    have ho := in_yes h3
    have hm := own_hit he (by omega)
    refine ⟨fun hx => ?_, fun hx => ?_⟩
    · by_cases e : x.a = key
      · left
        have := own_mem (lk_asc h1) hx
        rw [e, he] at this
        cases x; simp_all
      · exact .inr ⟨hx, e⟩
    · rcases hx with rfl | hx
      · exact hm
      · exact hx.1
theorem ac_lk : lkB (acL l key o) = true := by
  obtain ⟨h1, h2, h3, h4⟩ := ac_parts h
  refine lk_of ?_ fun x hx => ?_
  · unfold acL
    split
    · exact insW_asc (lk_asc h1)
    · exact lk_asc h1
  · rcases (ac_mem h).1 hx with rfl | hx
    · exact okK_yes h2 h3
    · have := lk_ok h1 hx.1
      exact okK_yes (in_of this.1) (in_of this.2)
theorem ac_owner : ownI key (acL l key o) = o := own_mem (lk_asc (ac_lk h)) ((ac_mem h).2 (.inl rfl) : (⟨key, o⟩ : E2) ∈ _)
theorem ac_of : key ∈ ofL o (acL l key o) := List.mem_map.2 ⟨⟨key, o⟩, List.mem_filter.2 ⟨(ac_mem h).2 (.inl rfl), by simp⟩, rfl⟩
theorem ac_again : acB (acL l key o) key o = true := by
  obtain ⟨h1, h2, h3, h4⟩ := ac_parts h
  simp [acB, ac_lk h, h2, h3, ac_owner h]
theorem ac_other {p : Int} (hp : p ≠ o) : acB (acL l key o) key p = false := by
  obtain ⟨h1, h2, h3, h4⟩ := ac_parts h
  have ho := in_yes h3
  have e0 : decide (o = 0) = false := decide_eq_false (by omega)
  have e1 : decide (o = p) = false := decide_eq_false fun e => hp e.symm
  simp [acB, ac_owner h, e0, e1]
theorem ac_free : ownI key (relL o (acL l key o)) = 0 := own_none fun y hy e => by
  obtain ⟨hm, hn⟩ := List.mem_filter.1 hy
  have := own_mem (lk_asc (ac_lk h)) hm
  rw [e, ac_owner h] at this
  simp [this] at hn
end
theorem of_rel (o : Int) (l : List E2) : ofL o (relL o l) = [] := by
  unfold ofL relL
  rw [List.filter_filter, List.filter_eq_nil_iff.2 fun x _ => by simp]
  rfl
theorem rel_of (o : Int) (l : List E2) : (relL o l).length + (ofL o l).length = l.length := by
  unfold ofL relL
  induction l with
  | nil => rfl
  | cons x r ih =>
    simp only [List.length_map] at ih ⊢
    by_cases e : x.b = o <;> simp [List.filter_cons, e] at ih ⊢ <;> omega
end Go.Proofs.YtjnlbhmddhpmaaaGreat.lk
