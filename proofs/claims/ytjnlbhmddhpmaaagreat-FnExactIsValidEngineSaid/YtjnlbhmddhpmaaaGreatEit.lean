/- Chapter 13, plain mathematics: the IDs of an engine's transactions. -/
import Derived.Test.YtjnlbhmddhpmaaaGreatEnt
import Derived.Test.YtjnlbhmddhpmaaaGreatSeq
namespace Go.Proofs.YtjnlbhmddhpmaaaGreat.eid
open Go.Proofs.YtjnlbhmddhpmaaaGreat.el2 Go.Proofs.YtjnlbhmddhpmaaaGreat.tx Go.Proofs.YtjnlbhmddhpmaaaGreat.seq Go.Proofs.YtjnlbhmddhpmaaaGreat.mkr Go.Proofs.YtjnlbhmddhpmaaaGreat.en
set_option linter.unusedVariables false
set_option linter.unusedSimpArgs false
/-- the IDs of the transactions of a state -/
def idsT (s : Int) (L : List Tr) : List Int := (L.filter fun t => decide (t.x.t = s)).map fun t => t.x.i
theorem ids_nil (s : Int) : idsT s [] = [] := rfl
theorem ids_hit {s : Int} {L : List Tr} {k : Nat} {t : Tr} (h : L[k]? = some t) (e : t.x.t = s) : idsT s (L.take (k + 1)) = idsT s (L.take k) ++ [t.x.i] := by
  have hk := lt_of_some h
  rw [List.getElem?_eq_getElem hk] at h
  unfold idsT
  rw [List.take_succ_eq_append_getElem hk, Option.some.inj h]
  simp [e]
theorem ids_miss {s : Int} {L : List Tr} {k : Nat} {t : Tr} (h : L[k]? = some t) (e : ¬ t.x.t = s) : idsT s (L.take (k + 1)) = idsT s (L.take k) := by
  have hk := lt_of_some h
  rw [List.getElem?_eq_getElem hk] at h
  unfold idsT
  rw [List.take_succ_eq_append_getElem hk, Option.some.inj h]
  simp [e]
theorem ids_all {s : Int} {L : List Tr} {n : Nat} (h : L.length = n) : idsT s (L.take n) = idsT s L := by rw [List.take_of_length_le (by omega)]
theorem ids_len (s : Int) (L : List Tr) : (idsT s L).length ≤ L.length := by
  unfold idsT
  rw [List.length_map]
  exact List.length_filter_le _ _
/-- the search, step by step -/
theorem fnd_go {i : Int} : ∀ {L : List Tr} {k j : Nat}, (∀ (m : Nat) (t : Tr), m < k → L[m]? = some t → t.x.i ≠ i) → k ≤ L.length → fndT i L j = fndT i (L.drop k) (j + k)
  | L, 0, j, _, _ => by simp
  | [], k + 1, j, _, h => by simp at h
  | x :: r, k + 1, j, hn, h => by
    have h0 := hn 0 x (by omega) rfl
    show (if x.x.i = i then _ else _) = _
    rw [if_neg h0, List.drop_succ_cons, fnd_go (k := k) (fun m t hm ht => hn (m + 1) t (by omega) (by simpa using ht)) (by simpa using h)]
    congr 1
    omega
theorem fnd_hit {i : Int} {L : List Tr} {k : Nat} {t : Tr} (hn : ∀ m t, m < k → L[m]? = some t → t.x.i ≠ i) (h : L[k]? = some t) (e : t.x.i = i) : fndT i L 0 = (k : Int) := by
  have hk := lt_of_some h
  rw [fnd_go hn (by omega), List.drop_eq_getElem_cons hk]
  rw [List.getElem?_eq_getElem hk] at h
  show (if (L[k]).x.i = i then _ else _) = _
  rw [Option.some.inj h, if_pos e]
  simp
theorem fnd_none {i : Int} {L : List Tr} (hn : ∀ (m : Nat) (t : Tr), m < L.length → L[m]? = some t → t.x.i ≠ i) : fndT i L 0 = -1 := by
  rw [fnd_go hn (Nat.le_refl _), List.drop_length]
  rfl
theorem fnd_cases (i : Int) (L : List Tr) : (∃ (k : Nat) (t : Tr), L[k]? = some t ∧ t.x.i = i ∧ (∀ (m : Nat) (t : Tr), m < k → L[m]? = some t → t.x.i ≠ i) ∧ fndT i L 0 = (k : Int)) ∨ ((∀ (m : Nat) (t : Tr), L[m]? = some t → t.x.i ≠ i) ∧ fndT i L 0 = -1) := by
  rcases Classical.em (∃ (k : Nat) (t : Tr), L[k]? = some t ∧ t.x.i = i) with h | h
  · have key : ∀ k : Nat, (∃ t : Tr, L[k]? = some t ∧ t.x.i = i) → ∃ (k : Nat) (t : Tr), L[k]? = some t ∧ t.x.i = i ∧ ∀ (m : Nat) (t : Tr), m < k → L[m]? = some t → t.x.i ≠ i := by
      intro k
      induction k using Nat.strongRecOn with
      | _ k ih =>
        rintro ⟨t, h1, h2⟩
        rcases Classical.em (∃ m : Nat, m < k ∧ ∃ t : Tr, L[m]? = some t ∧ t.x.i = i) with ⟨m, hm, h3⟩ | h3
        · exact ih m hm h3
        · exact ⟨k, t, h1, h2, fun m u hm hu he => h3 ⟨m, hm, u, hu, he⟩⟩
    obtain ⟨k, t, h1, h2⟩ := h
    obtain ⟨k, t, h1, h2, h3⟩ := key k ⟨t, h1, h2⟩
    exact .inl ⟨k, t, h1, h2, h3, fnd_hit h3 h1 h2⟩
  · exact .inr ⟨fun m t ht he => h ⟨m, t, ht, he⟩, fnd_none fun m t _ ht he => h ⟨m, t, ht, he⟩⟩
end Go.Proofs.YtjnlbhmddhpmaaaGreat.eid
