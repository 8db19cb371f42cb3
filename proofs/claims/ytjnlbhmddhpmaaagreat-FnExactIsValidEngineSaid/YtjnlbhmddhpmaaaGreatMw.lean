/- What a map of writes holds, and what its entries are in rising order: the list with the write put in its place. Plain mathematics. -/
import Derived.Test.YtjnlbhmddhpmaaaGreatPw
import Derived.Maps.OwnSet
import Derived.Maps.Range
namespace Go.Proofs.YtjnlbhmddhpmaaaGreat.mw
open Go.Maps
open Go.Proofs.YtjnlbhmddhpmaaaGreat.el2 Go.Proofs.YtjnlbhmddhpmaaaGreat.pw
set_option linter.unusedVariables false
set_option linter.unusedSimpArgs false
abbrev kl (x : Int) : Lit := .int .i64 x
theorem isk (x : Int) : WideAt.IsKeyLit (kl x) := trivial
theorem kl_ne {x y : Int} (h : x ≠ y) : kl x ≠ kl y := fun e => h (by injection e)
theorem kl_same (x y : Int) : (kl x).sameKey (kl y) = decide (x = y) := by simp [Lit.sameKey]
/-- at integer keys the map holds what f says -/
def MI (D : DataW Unit) (f : Int → Option Int) : Prop := IsMap D ∧ ∀ x, has D (kl x) = (f x).isSome ∧ ∀ v z, f x = some v → D.atKey (kl x) z = .lit (kl v)
def upd (f : Int → Option Int) (k v : Int) : Int → Option Int := fun x => if x = k then some v else f x
theorem MI.empty : MI (.map []) (fun _ => none) := ⟨isMap_empty, fun x => ⟨rfl, fun v z h => by cases h⟩⟩
theorem MI.put {D : DataW Unit} {f : Int → Option Int} (h : MI D f) (k v : Int) : MI (D.put (kl k) (.lit (kl v))) (upd f k v) := by
  refine ⟨h.1.put _ _, fun x => ?_⟩
  by_cases e : x = k
  · subst e
    refine ⟨by rw [has_put_same h.1 (isk x)]; simp [upd], fun v' z hv => ?_⟩
    rw [atKey_put_same h.1 (isk x)]
    simp [upd] at hv
    rw [hv]
  · refine ⟨by rw [has_put_other (kl_ne e)]; simp [upd, e, (h.2 x).1], fun v' z hv => ?_⟩
    rw [atKey_put_other (kl_ne e)]
    simp [upd, e] at hv
    exact (h.2 x).2 v' z hv
/-- what a list of writes says, the last of a key last -/
def mf : List E2 → Int → Option Int := fun l => l.foldl (fun f y => upd f y.a y.b) (fun _ => none)
theorem mf_snoc (l : List E2) (y : E2) : mf (l ++ [y]) = upd (mf l) y.a y.b := by simp [mf, List.foldl_append]
theorem mf_step {l : List E2} {k : Nat} {y : E2} (h : l[k]? = some y) : mf (l.take (k + 1)) = upd (mf (l.take k)) y.a y.b := by
  rw [List.take_add_one, h]
  exact mf_snoc _ _
/-- rising by key -/
abbrev Asc (l : List E2) : Prop := l.Pairwise (fun x y => x.a < y.a)
theorem upd_get {f : Int → Option Int} {k v x u : Int} : upd f k v x = some u ↔ (x = k ∧ u = v) ∨ (x ≠ k ∧ f x = some u) := by
  unfold upd
  split
  · rename_i h; subst h; constructor
    · intro e; injection e with e; exact .inl ⟨rfl, e.symm⟩
    · rintro (⟨_, e⟩ | ⟨e, _⟩)
      · rw [e]
      · exact absurd rfl e
  · rename_i h; constructor
    · intro e; exact .inr ⟨h, e⟩
    · rintro (⟨e, _⟩ | ⟨_, e⟩)
      · exact absurd e h
      · exact e
theorem fold_get : ∀ (l : List E2) (f : Int → Option Int), l.Pairwise (fun x y => x.a ≠ y.a) → ∀ x u, l.foldl (fun f y => upd f y.a y.b) f x = some u ↔ (⟨x, u⟩ ∈ l ∨ ((∀ y ∈ l, y.a ≠ x) ∧ f x = some u))
  | [], f, _, x, u => by simp
  | y :: r, f, h, x, u => by
    obtain ⟨h1, h2⟩ := List.pairwise_cons.1 h
    rw [List.foldl_cons, fold_get r _ h2 x u, upd_get]
    constructor
    · rintro (hm | ⟨ha, (⟨e1, e2⟩ | ⟨e1, e2⟩)⟩)
      · exact .inl (List.mem_cons_of_mem _ hm)
      · subst e1 e2; exact .inl (by simp)
      · exact .inr ⟨fun z hz => by
          rcases List.mem_cons.1 hz with e | hz
          · subst e; exact fun e => e1 e.symm
          · exact ha z hz, e2⟩
    · rintro (hm | ⟨ha, e⟩)
      · rcases List.mem_cons.1 hm with e | hm
        · subst e; exact .inr ⟨fun z hz => fun e => h1 z hz e.symm, .inl ⟨rfl, rfl⟩⟩
        · exact .inl hm
      · exact .inr ⟨fun z hz => ha z (List.mem_cons_of_mem _ hz), .inr ⟨fun e => ha y (by simp) e.symm, e⟩⟩
theorem asc_ne {l : List E2} (h : Asc l) : l.Pairwise (fun x y => x.a ≠ y.a) := h.imp fun {x y} h => by omega
theorem mf_get {l : List E2} (h : Asc l) (x u : Int) : mf l x = some u ↔ (⟨x, u⟩ : E2) ∈ l := by
  unfold mf
  rw [fold_get l _ (asc_ne h) x u]
  simp
/-- two rising lists with the same members -/
theorem asc_ext : ∀ {l m : List E2}, Asc l → Asc m → (∀ x, x ∈ l ↔ x ∈ m) → l = m
  | [], [], _, _, _ => rfl
  | [], y :: s, _, _, h => absurd ((h y).2 (by simp)) (by simp)
  | x :: r, [], _, _, h => absurd ((h x).1 (by simp)) (by simp)
  | x :: r, y :: s, h1, h2, h => by
    obtain ⟨a1, a2⟩ := List.pairwise_cons.1 h1
    obtain ⟨b1, b2⟩ := List.pairwise_cons.1 h2
    have hx := (h x).1 (by simp)
    have hy := (h y).2 (by simp)
    have e : x = y := by
      rcases List.mem_cons.1 hx with e | hx
      · exact e
      · rcases List.mem_cons.1 hy with e | hy
        · exact e.symm
        · have := b1 x hx; have := a1 y hy; omega
    subst e
    rw [asc_ext a2 b2 fun z => ⟨fun hz => by
      rcases List.mem_cons.1 ((h z).1 (List.mem_cons_of_mem _ hz)) with e | hm
      · subst e; have := a1 z hz; omega
      · exact hm, fun hz => by
      rcases List.mem_cons.1 ((h z).2 (List.mem_cons_of_mem _ hz)) with e | hm
      · subst e; have := b1 z hz; omega
      · exact hm⟩]
theorem posW_lt {key : Int} : ∀ {l : List E2} {x : E2}, x ∈ l.take (posW key l) → x.a < key
  | [], x, h => by simp at h
  | y :: r, x, h => by
    unfold posW at h
    split at h
    · rename_i hlt
      rw [List.take_succ_cons] at h
      rcases List.mem_cons.1 h with e | h
      · subst e; exact hlt
      · exact posW_lt h
    · simp at h
theorem posW_ge {key : Int} : ∀ {l : List E2}, Asc l → ∀ {x : E2}, x ∈ l.drop (posW key l) → key ≤ x.a
  | [], _, x, h => by simp at h
  | y :: r, ha, x, h => by
    obtain ⟨h1, h2⟩ := List.pairwise_cons.1 ha
    unfold posW at h
    split at h
    · rw [List.drop_succ_cons] at h
      exact posW_ge h2 h
    · rename_i hge
      rw [List.drop_zero] at h
      rcases List.mem_cons.1 h with e | h
      · subst e; omega
      · have := h1 x h; omega
/-- what stands behind the place: nothing of the key, all that is greater -/
theorem tail_mem {m : E2} {l : List E2} (ha : Asc l) {x : E2} : x ∈ (if ((l[posW m.a l]?).map (·.a)) = some m.a then l.drop (posW m.a l + 1) else l.drop (posW m.a l)) ↔ (x ∈ l.drop (posW m.a l) ∧ x.a ≠ m.a) := by
  have hd : (l.drop (posW m.a l)).Pairwise (fun x y => x.a < y.a) := ha.sublist (List.drop_sublist _ _)
  cases hg : l[posW m.a l]? with
  | none =>
    have hl : l.length ≤ posW m.a l := by
      rcases Nat.lt_or_ge (posW m.a l) l.length with h | h
      · rw [List.getElem?_eq_getElem h] at hg; cases hg
      · exact h
    simp [List.drop_of_length_le hl]
  | some y =>
    have hlt := lt_get hg
    have hc : l.drop (posW m.a l) = y :: l.drop (posW m.a l + 1) := by
      rw [List.drop_eq_getElem_cons hlt]
      rw [List.getElem?_eq_getElem hlt] at hg
      injection hg with hg
      rw [hg]
    rw [hc] at hd
    obtain ⟨d1, d2⟩ := List.pairwise_cons.1 hd
    have hyge := posW_ge (key := m.a) ha (x := y) (by rw [hc]; simp)
    by_cases e : y.a = m.a
    · simp only [Option.map_some, e, if_true, hc]
      constructor
      · intro h; exact ⟨List.mem_cons_of_mem _ h, by have := d1 x h; omega⟩
      · rintro ⟨h, hne⟩
        rcases List.mem_cons.1 h with e2 | h
        · subst e2; exact absurd e hne
        · exact h
    · rw [if_neg (by simp [e]), hc]
      constructor
      · intro h
        refine ⟨h, ?_⟩
        rcases List.mem_cons.1 h with e2 | h
        · subst e2; exact e
        · have := d1 x h; omega
      · exact fun h => h.1
theorem insW_mem {m : E2} {l : List E2} (ha : Asc l) {x : E2} : x ∈ insW m l ↔ (x = m ∨ (x ∈ l ∧ x.a ≠ m.a)) := by
  unfold insW
  rw [List.mem_append, List.mem_cons, tail_mem ha]
  constructor
  · rintro (h | h | h)
    · exact .inr ⟨List.mem_of_mem_take h, by have := posW_lt h; omega⟩
    · exact .inl h
    · exact .inr ⟨List.mem_of_mem_drop h.1, h.2⟩
  · rintro (h | ⟨h, hne⟩)
    · exact .inr (.inl h)
    · rw [← List.take_append_drop (posW m.a l) l] at h
      rcases List.mem_append.1 h with h | h
      · exact .inl h
      · exact .inr (.inr ⟨h, hne⟩)
theorem insW_asc {m : E2} {l : List E2} (ha : Asc l) : Asc (insW m l) := by
  have hs : (if ((l[posW m.a l]?).map (·.a)) = some m.a then l.drop (posW m.a l + 1) else l.drop (posW m.a l)).Sublist l := by
    split <;> exact List.drop_sublist _ _
  unfold insW
  refine List.pairwise_append.2 ⟨ha.sublist (List.take_sublist _ _), List.pairwise_cons.2 ⟨fun x hx => ?_, ha.sublist hs⟩, fun x hx y hy => ?_⟩
  · obtain ⟨h1, h2⟩ := (tail_mem ha).1 hx
    have := posW_ge ha h1
    omega
  · have h1 := posW_lt hx
    rcases List.mem_cons.1 hy with e | hy
    · subst e; exact h1
    · have := posW_ge ha ((tail_mem ha).1 hy).1
      omega
/-- the entries of the map, in rising order -/
theorem asc_insW {m : E2} {l r : List E2} (ha : Asc l) (hr : Asc r) (h : ∀ x u, upd (mf l) m.a m.b x = some u ↔ (⟨x, u⟩ : E2) ∈ r) : r = insW m l := by
  refine asc_ext hr (insW_asc ha) fun z => ?_
  rw [← h z.a z.b, upd_get, mf_get ha, insW_mem ha]
  constructor
  · rintro (⟨h1, h2⟩ | ⟨h1, h2⟩)
    · exact .inl (by ext <;> assumption)
    · exact .inr ⟨h2, h1⟩
  · rintro (e | ⟨h1, h2⟩)
    · subst e; exact .inl ⟨rfl, rfl⟩
    · exact .inr ⟨h2, h1⟩
/-! what the range over the map has gathered -/
/-- r: what has come so far; left: which keys are still to come -/
def Got (f : Int → Option Int) (left : Lit → Bool) (r : List E2) : Prop :=
  r.Pairwise (fun x y => x.a ≠ y.a) ∧ (∀ y ∈ r, f y.a = some y.b ∧ left (kl y.a) = false) ∧ ∀ x u, f x = some u → left (kl x) = true ∨ (⟨x, u⟩ : E2) ∈ r
theorem Got.start {D : DataW Unit} {f : Int → Option Int} (h : MI D f) : Got f (has D) [] :=
  ⟨List.Pairwise.nil, fun y hy => by simp at hy, fun x u hu => .inl (by rw [(h.2 x).1, hu]; rfl)⟩
theorem Got.step {D : DataW Unit} {f : Int → Option Int} {left : Lit → Bool} {r : List E2} {x c : Int} (hm : MI D f) (h : Got f left r) (hl : left (kl x) = true) (hle : ∀ k, left k = true → has D k = true) (hat : ∀ zd, D.atKey (kl x) zd = .lit (kl c)) :
    Got f (fun z => left z && !z.sameKey (kl x)) (r ++ [⟨x, c⟩]) := by
  have hx : f x = some c := by
    have h1 := hle _ hl
    rw [(hm.2 x).1] at h1
    cases hf : f x with
    | none => rw [hf] at h1; cases h1
    | some v =>
      have h2 := (hm.2 x).2 v .nil hf
      rw [hat] at h2
      injection h2 with h2
      injection h2 with _ h2
      rw [h2]
  refine ⟨List.pairwise_append.2 ⟨h.1, List.pairwise_singleton _ _, fun y hy z hz => ?_⟩, fun y hy => ?_, fun y u hu => ?_⟩
  · rw [List.mem_singleton] at hz
    subst hz
    intro e
    have := (h.2.1 y hy).2
    rw [show y.a = x from e, hl] at this
    cases this
  · rcases List.mem_append.1 hy with hy | hy
    · exact ⟨(h.2.1 y hy).1, by show (left _ && _) = false; rw [(h.2.1 y hy).2]; rfl⟩
    · rw [List.mem_singleton] at hy
      subst hy
      exact ⟨hx, by show (left _ && !(kl x).sameKey (kl x)) = false; rw [kl_same]; simp⟩
  · by_cases e : y = x
    · subst e
      rw [hx] at hu
      injection hu with hu
      subst hu
      exact .inr (by simp)
    · rcases h.2.2 y u hu with hh | hh
      · exact .inl (by show (left _ && !(kl y).sameKey (kl x)) = true; rw [hh, kl_same]; simp [e])
      · exact .inr (List.mem_append_left _ hh)
theorem Got.all {f : Int → Option Int} {left : Lit → Bool} {r : List E2} (h : Got f left r) (hl : ∀ k, left k = false) (x u : Int) : f x = some u ↔ (⟨x, u⟩ : E2) ∈ r :=
  ⟨fun hu => (h.2.2 x u hu).resolve_left (by rw [hl]; simp), fun hm => (h.2.1 _ hm).1⟩
theorem left_le {left : Lit → Bool} {D : DataW Unit} {kx : Lit} (h : ∀ k, left k = true → has D k = true) : ∀ k, (fun z => left z && !z.sameKey kx) k = true → has D k = true := fun k hk => h k (by simp at hk; exact hk.1)
end Go.Proofs.YtjnlbhmddhpmaaaGreat.mw
