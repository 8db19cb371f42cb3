/- Chapter 8, plain mathematics: the marks of an excluding pair. -/
import Derived.Test.YtbnkkgjkhpbgiaaGreatDoorEm
import Derived.Test.YtbnkkgjkhpbgiaaGreatDoorOv
namespace Go.Proofs.YtbnkkgjkhpbgiaaGreatDoor.ep
open Go.Proofs.YtbnkkgjkhpbgiaaGreatDoor.el2 Go.Proofs.YtbnkkgjkhpbgiaaGreatDoor.tx Go.Proofs.YtbnkkgjkhpbgiaaGreatDoor.seq Go.Proofs.YtbnkkgjkhpbgiaaGreatDoor.tv Go.Proofs.YtbnkkgjkhpbgiaaGreatDoor.tf Go.Proofs.YtbnkkgjkhpbgiaaGreatDoor.rx Go.Proofs.YtbnkkgjkhpbgiaaGreatDoor.rl Go.Proofs.YtbnkkgjkhpbgiaaGreatDoor.rh Go.Proofs.YtbnkkgjkhpbgiaaGreatDoor.ov Go.Proofs.YtbnkkgjkhpbgiaaGreatDoor.last Go.Proofs.YtbnkkgjkhpbgiaaGreatDoor.em
open Go.Proofs.YtbnkkgjkhpbgiaaGreatDoor.sl (Ver)
open Go.Proofs.YtbnkkgjkhpbgiaaGreatDoor.val (stB okL_ch_of st_ok st_six)
open Go.Proofs.YtbnkkgjkhpbgiaaGreatDoor.find (fndI lastV last_yes fnd_hit fnd_step)
open Go.Proofs.YtbnkkgjkhpbgiaaGreatDoor.ch (chB ch_of okV fol)
set_option linter.unusedVariables false
set_option linter.unusedSimpArgs false
/-! a list of marks with what each asks: the first of the greatest -/
def up (s : Int × E2) (p : E2 × Int) : Int × E2 := if s.1 < p.2 then (p.2, p.1) else s
def fstAt (P : List (E2 × Int)) (v : Int) : E2 := match P.find? (fun p => decide (p.2 = v)) with
  | some p => p.1
  | none => ⟨0, 0⟩
theorem up_one (n : Int) (b : E2) (p : E2 × Int) : (up (n, b) p).1 = max n p.2 := by
  unfold up
  split <;> simp only at * <;> omega
theorem up_max (P : List (E2 × Int)) : ∀ (n : Int) (b : E2), (P.foldl up (n, b)).1 = P.foldl (fun a p => max a p.2) n := by
  induction P with
  | nil => intro n b; rfl
  | cons p r ih =>
    intro n b
    simp only [List.foldl_cons]
    rw [← up_one n b p]
    exact ih (up (n, b) p).1 (up (n, b) p).2
theorem max_ge (P : List (E2 × Int)) : ∀ n : Int, n ≤ P.foldl (fun a p => max a p.2) n := by
  induction P with
  | nil => intro n; exact Int.le_refl _
  | cons p r ih =>
    intro n
    have := ih (max n p.2)
    simp only [List.foldl_cons]
    omega
theorem up_fst (P : List (E2 × Int)) : ∀ (n : Int) (b : E2), ((P.foldl up (n, b)).1 = n ∧ (P.foldl up (n, b)).2 = b) ∨ (n < (P.foldl up (n, b)).1 ∧ fstAt P (P.foldl up (n, b)).1 = (P.foldl up (n, b)).2) := by
  induction P with
  | nil => intro n b; exact .inl ⟨rfl, rfl⟩
  | cons p r ih =>
    intro n b
    simp only [List.foldl_cons]
    by_cases h : n < p.2
    · have hu : up (n, b) p = (p.2, p.1) := if_pos h
      rw [hu]
      right
      rcases ih p.2 p.1 with ⟨h1, h2⟩ | ⟨h1, h2⟩
      · refine ⟨by omega, ?_⟩
        rw [h1, h2]
        simp [fstAt]
      · refine ⟨by omega, ?_⟩
        rw [← h2]
        have hne : decide (p.2 = (r.foldl up (p.2, p.1)).1) = false := decide_eq_false (by omega)
        simp only [fstAt, List.find?_cons, hne]
    · have hu : up (n, b) p = (n, b) := if_neg h
      rw [hu]
      rcases ih n b with h1 | ⟨h1, h2⟩
      · exact .inl h1
      · right
        refine ⟨h1, ?_⟩
        rw [← h2]
        have hne : decide (p.2 = (r.foldl up (n, b)).1) = false := decide_eq_false (by omega)
        simp only [fstAt, List.find?_cons, hne]
theorem max_start (P : List (E2 × Int)) (h0 : ∀ p ∈ P, 0 ≤ p.2) (hne : P ≠ []) : P.foldl (fun a p => max a p.2) (-1) = P.foldl (fun a p => max a p.2) 0 := by
  cases P with
  | nil => exact absurd rfl hne
  | cons p r =>
    have := h0 p (by simp)
    simp only [List.foldl_cons]
    rw [show max (-1) p.2 = max 0 p.2 by omega]
/-- the first of the greatest, as the model keeps it -/
theorem up_all (P : List (E2 × Int)) (h0 : ∀ p ∈ P, 0 ≤ p.2) (hne : P ≠ []) : (P.foldl up (-1, ⟨0, 0⟩)).2 = fstAt P (P.foldl (fun a p => max a p.2) 0) := by
  rw [← max_start P h0 hne, ← up_max P (-1) ⟨0, 0⟩]
  rcases up_fst P (-1) ⟨0, 0⟩ with ⟨h1, h2⟩ | ⟨h1, h2⟩
  · have h3 := up_max P (-1) ⟨0, 0⟩
    rw [max_start P h0 hne] at h3
    have := max_ge P 0
    omega
  · exact h2.symm
theorem fst_hit {P : List (E2 × Int)} {v : Int} {k : Nat} {p : E2 × Int} (hx : P[k]? = some p) (hv : p.2 = v) (hn : ∀ (j : Nat) (q : E2 × Int), j < k → P[j]? = some q → q.2 ≠ v) : fstAt P v = p.1 := by
  induction P generalizing k with
  | nil => simp at hx
  | cons q r ih =>
    cases k with
    | zero =>
      simp only [List.getElem?_cons_zero, Option.some.injEq] at hx
      subst hx
      simp [fstAt, hv]
    | succ k =>
      have hq : decide (q.2 = v) = false := decide_eq_false (hn 0 q (by omega) (by simp))
      have := ih (k := k) (by simpa using hx) (fun j y hj hy => hn (j + 1) y (by omega) (by simpa using hy))
      simp only [fstAt, List.find?_cons, hq] at this ⊢
      exact this
theorem fst_none {P : List (E2 × Int)} {v : Int} (hn : ∀ (j : Nat) (q : E2 × Int), P[j]? = some q → q.2 ≠ v) : fstAt P v = ⟨0, 0⟩ := by
  have : P.find? (fun p => decide (p.2 = v)) = none := by
    rw [List.find?_eq_none]
    intro q hq
    obtain ⟨j, hj, rfl⟩ := List.getElem_of_mem hq
    simp only [decide_eq_true_eq]
    exact hn j _ (List.getElem?_eq_getElem hj)
  simp [fstAt, this]
/-- of two lists laid one behind the other -/
theorem two_fst {P Q : List (E2 × Int)} {n : Nat} (hn : P.length = n) {k : Nat} : (P ++ Q)[n + k]? = Q[k]? := by
  rw [List.getElem?_append_right (by omega)]
  congr 1
  omega
section
variable {C : List (List Ver)} {x : Hd} {R S : List E2}
theorem ver_lat (hs : stB C = true) {m : E2} (h0 : 0 ≤ m.a) (h5 : m.a ≤ 5) : verOf C (ovM C m) = latOf C m ∧ hasV C (ovM C m) = true := by
  obtain ⟨l, hl, hc, hch⟩ := chain_key hs h0 h5
  obtain ⟨y, hy, hy2, ho, hf⟩ := last_at hc
  have hlat : latOf C m = y := by unfold latOf; rw [hch, hy2]
  refine ⟨?_, ?_⟩
  · unfold verOf
    simp only [ovM, hlat]
    rw [hch, hf]
    simp [List.getD, hy]
  · unfold hasV
    simp only [ovM, hlat]
    rw [hch, hf]
    exact decide_eq_true (by omega)
/-! the pair -/
noncomputable def candR (R : List E2) : List (E2 × Int) := R.map fun m => (m, m.b)
noncomputable def candS (C : List (List Ver)) (S : List E2) : List (E2 × Int) := S.map fun m => (ovM C m, (latOf C m).d)
noncomputable def cand (C : List (List Ver)) (R S : List E2) : List (E2 × Int) := candR R ++ candS C S
noncomputable def sucR (C : List (List Ver)) (R : List E2) : List (E2 × Int) := R.map fun m => (m, (verOf C m).e)
theorem candR_at {k : Nat} {y : E2} (h : R[k]? = some y) : (candR R)[k]? = some (y, y.b) := by simp [candR, h]
theorem candS_at {k : Nat} {y : E2} (h : S[k]? = some y) : (candS C S)[k]? = some (ovM C y, (latOf C y).d) := by simp [candS, h]
theorem sucR_at {k : Nat} {y : E2} (h : R[k]? = some y) : (sucR C R)[k]? = some (y, (verOf C y).e) := by simp [sucR, h]
theorem candR_len : (candR R).length = R.length := by simp [candR]
theorem candS_len : (candS C S).length = S.length := by simp [candS]
theorem cand_len : (cand C R S).length = R.length + S.length := by simp [cand, candR, candS]
theorem sucR_len : (sucR C R).length = R.length := by simp [sucR]
theorem cand_r {k : Nat} {y : E2} (h : R[k]? = some y) : (cand C R S)[k]? = some (y, y.b) := by
  have hk := lt_get h
  unfold cand
  rw [List.getElem?_append_left (by rw [candR_len]; exact hk)]
  exact candR_at h
theorem cand_s {n k : Nat} {y : E2} (hn : R.length = n) (h : S[k]? = some y) : (cand C R S)[n + k]? = some (ovM C y, (latOf C y).d) := by
  unfold cand
  rw [two_fst (by rw [candR_len]; exact hn)]
  exact candS_at h
noncomputable def xpB (C : List (List Ver)) (x : Hd) (R S : List E2) (z : Int) : Bool := fwB C x R S z && decide (rhI C x R S ≤ rlI C x R S)
noncomputable def xpL (C : List (List Ver)) (x : Hd) (R S : List E2) (z : Int) : E2 := if xpB C x R S z = true then fstAt (cand C R S) (rlI C x R S) else ⟨0, 0⟩
noncomputable def xpH (C : List (List Ver)) (x : Hd) (R S : List E2) (z : Int) : E2 := if xpB C x R S z = true then fstAt (sucR C R) (rhI C x R S) else ⟨0, 0⟩
theorem xp_no {z : Int} (h : fwB C x R S z = false) : xpB C x R S z = false := by simp [xpB, h]
theorem xp_lt {z : Int} (h : rlI C x R S < rhI C x R S) : xpB C x R S z = false := by simp [xpB]; intro _; omega
theorem xp_yes {z : Int} (h : fwB C x R S z = true) (h1 : rhI C x R S ≤ rlI C x R S) : xpB C x R S z = true := by simp [xpB, h, h1]
theorem xpL_no {z : Int} (h : xpB C x R S z = false) : xpL C x R S z = ⟨0, 0⟩ := if_neg (by rw [h]; exact Bool.false_ne_true)
theorem xpH_no {z : Int} (h : xpB C x R S z = false) : xpH C x R S z = ⟨0, 0⟩ := if_neg (by rw [h]; exact Bool.false_ne_true)
theorem xpL_yes {z : Int} (h : xpB C x R S z = true) : xpL C x R S z = fstAt (cand C R S) (rlI C x R S) := if_pos h
theorem xpH_yes {z : Int} (h : xpB C x R S z = true) : xpH C x R S z = fstAt (sucR C R) (rhI C x R S) := if_pos h
/-- RefreshLow is the greatest that is asked -/
theorem rl_cand (h : bothB C x R S = true) : rlI C x R S = (cand C R S).foldl (fun a p => max a p.2) 0 := by
  rw [rlI, if_pos h]
  unfold loW loR cand candR candS
  rw [List.take_of_length_le (Nat.le_refl _), List.take_of_length_le (Nat.le_refl _), List.foldl_append, List.foldl_map, List.foldl_map]
theorem cand_range (h : bothB C x R S = true) : ∀ p ∈ cand C R S, 0 ≤ p.2 ∧ p.2 ≤ 999 := by
  obtain ⟨hs, ht⟩ := both_parts h
  intro p hp
  unfold cand candR candS at hp
  simp only [List.mem_append, List.mem_map] at hp
  rcases hp with ⟨m, hm, rfl⟩ | ⟨m, hm, rfl⟩
  · obtain ⟨j, hj, rfl⟩ := List.getElem_of_mem hm
    have := rd_ok (tx_rd ht) (List.getElem?_eq_getElem hj)
    simp only [okR, Go.Proofs.YtbnkkgjkhpbgiaaGreatDoor.vers.In, Bool.and_eq_true, decide_eq_true_eq] at this
    simp only
    omega
  · obtain ⟨j, hj, rfl⟩ := List.getElem_of_mem hm
    have hk := wkey_of ht (List.getElem?_eq_getElem hj)
    have := okV_parts (lat_ok hs hk.1 hk.2)
    simp only
    omega
theorem max_le (P : List (E2 × Int)) {b : Int} (h : ∀ p ∈ P, p.2 ≤ b) : ∀ n : Int, n ≤ b → P.foldl (fun a p => max a p.2) n ≤ b := by
  induction P with
  | nil => intro n hn; exact hn
  | cons p r ih =>
    intro n hn
    have := h p (by simp)
    exact ih (fun q hq => h q (by simp [hq])) (max n p.2) (by omega)
theorem rl_le (h : bothB C x R S = true) : 0 ≤ rlI C x R S ∧ rlI C x R S ≤ 999 := by
  rw [rl_cand h]
  exact ⟨max_ge _ 0, max_le _ (fun p hp => (cand_range h p hp).2) 0 (by omega)⟩
/-! how the program finds the marks -/
theorem lm_read {k : Nat} {y : E2} {v : Int} (hx : R[k]? = some y) (hv : y.b = v) (hn : ∀ (j : Nat) (z : E2), j < k → R[j]? = some z → z.b ≠ v) : fstAt (cand C R S) v = y :=
  fst_hit (cand_r hx) hv fun j q hj hq => by
    have hjl : j < R.length := by have := lt_get hx; omega
    have hz := List.getElem?_eq_getElem hjl
    rw [cand_r (C := C) (S := S) hz] at hq
    cases hq
    exact hn j _ hj hz
theorem cand_cases {n k : Nat} {v : Int} (hn : R.length = n) (h1 : ∀ (j : Nat) (z : E2), R[j]? = some z → z.b ≠ v) (h2 : ∀ (j : Nat) (z : E2), j < k → S[j]? = some z → (latOf C z).d ≠ v) : ∀ (j : Nat) (q : E2 × Int), j < n + k → (cand C R S)[j]? = some q → q.2 ≠ v := by
  intro j q hj hq
  rcases Nat.lt_or_ge j n with hjn | hjn
  · have hz := List.getElem?_eq_getElem (show j < R.length by omega)
    rw [cand_r (C := C) (S := S) hz] at hq
    cases hq
    exact h1 j _ hz
  · obtain ⟨i, rfl⟩ : ∃ i, j = n + i := ⟨j - n, by omega⟩
    have hl := lt_get hq
    rw [cand_len] at hl
    have hz := List.getElem?_eq_getElem (show i < S.length by omega)
    rw [cand_s (C := C) hn hz] at hq
    cases hq
    exact h2 i _ (by omega) hz
theorem lm_over {n k : Nat} {y : E2} {v : Int} (hn : R.length = n) (hx : S[k]? = some y) (hv : (latOf C y).d = v) (h1 : ∀ (j : Nat) (z : E2), R[j]? = some z → z.b ≠ v) (h2 : ∀ (j : Nat) (z : E2), j < k → S[j]? = some z → (latOf C z).d ≠ v) : fstAt (cand C R S) v = ovM C y :=
  fst_hit (cand_s hn hx) hv fun j q hj hq => cand_cases hn h1 h2 j q hj hq
theorem lm_none {n n2 : Nat} {v : Int} (hn : R.length = n) (hn2 : S.length = n2) (h1 : ∀ (j : Nat) (z : E2), R[j]? = some z → z.b ≠ v) (h2 : ∀ (j : Nat) (z : E2), j < n2 → S[j]? = some z → (latOf C z).d ≠ v) : fstAt (cand C R S) v = ⟨0, 0⟩ :=
  fst_none fun j q hq => cand_cases hn h1 h2 j q (by have := lt_get hq; rw [cand_len] at this; omega) hq
theorem hm_hit {k : Nat} {y : E2} {v : Int} (hx : R[k]? = some y) (hv : (verOf C y).e = v) (hn : ∀ (j : Nat) (z : E2), j < k → R[j]? = some z → (verOf C z).e ≠ v) : fstAt (sucR C R) v = y :=
  fst_hit (sucR_at hx) hv fun j q hj hq => by
    have hjl : j < R.length := by have := lt_get hx; omega
    have hz := List.getElem?_eq_getElem hjl
    rw [sucR_at (C := C) hz] at hq
    cases hq
    exact hn j _ hj hz
theorem hm_none {n : Nat} {v : Int} (hl : R.length = n) (hn : ∀ (j : Nat) (z : E2), j < n → R[j]? = some z → (verOf C z).e ≠ v) : fstAt (sucR C R) v = ⟨0, 0⟩ :=
  fst_none fun j q hq => by
    have hjl := lt_get hq
    rw [sucR_len] at hjl
    have hz := List.getElem?_eq_getElem hjl
    rw [sucR_at (C := C) hz] at hq
    cases hq
    exact hn j _ (by omega) hz
theorem ne_step {α : Type} {l : List α} {f : α → Int} {v : Int} {k : Nat} {x : α} (h : ∀ (j : Nat) (z : α), j < k → l[j]? = some z → f z ≠ v) (hx : l[k]? = some x) (hv : f x ≠ v) : ∀ (j : Nat) (z : α), j < k + 1 → l[j]? = some z → f z ≠ v := by
  intro j z hj hz
  by_cases e : j = k
  · subst e
    rw [hx] at hz
    cases hz
    exact hv
  · exact h j z (by omega) hz
theorem ne_all {α : Type} {l : List α} {f : α → Int} {v : Int} {n : Nat} (hn : l.length = n) (h : ∀ (j : Nat) (z : α), j < n → l[j]? = some z → f z ≠ v) : ∀ (j : Nat) (z : α), l[j]? = some z → f z ≠ v := fun j z hz => h j z (by have := lt_get hz; omega) hz
theorem ret_m {m m' : E2} (h : m = m') : Ending.returned (.agg #[.int .i64 m.a, .int .i64 m.b]) = .returned (.agg #[.int .i64 m'.a, .int .i64 m'.b]) := by rw [h]
theorem ret_z {m' : E2} (h : ⟨0, 0⟩ = m') : Ending.returned (.agg #[.int .i64 0, .int .i64 0]) = .returned (.agg #[.int .i64 m'.a, .int .i64 m'.b]) := by rw [← h]
/-- the model's greatest, the program's first -/
theorem low_mark (h : bothB C x R S = true) (hne : R ≠ []) : (((cand C R S)).foldl up (-1, ⟨0, 0⟩)).2 = fstAt (cand C R S) (rlI C x R S) := by
  rw [rl_cand h]
  refine up_all _ (fun p hp => (cand_range h p hp).1) ?_
  intro e
  have := congrArg List.length e
  rw [cand_len] at this
  cases R with
  | nil => exact hne rfl
  | cons a b => simp at this
/-- RefreshHigh is Infinity or what a read's version has -/
theorem hi_att (C : List (List Ver)) (R : List E2) : hiK C R R.length = 1000 ∨ ∃ (k : Nat) (y : E2), R[k]? = some y ∧ (verOf C y).e = hiK C R R.length := by
  unfold hiK
  rw [List.take_of_length_le (Nat.le_refl _)]
  have key : ∀ (L : List E2) (n : Int), L.foldl (fun h m => min h (verOf C m).e) n = n ∨ ∃ y ∈ L, (verOf C y).e = L.foldl (fun h m => min h (verOf C m).e) n := by
    intro L
    induction L with
    | nil => intro n; exact .inl rfl
    | cons a b ih =>
      intro n
      simp only [List.foldl_cons]
      rcases ih (min n (verOf C a).e) with h | ⟨y, hy, he⟩
      · rw [h]
        by_cases hm : n ≤ (verOf C a).e
        · left; omega
        · right; exact ⟨a, by simp, by omega⟩
      · right; exact ⟨y, by simp [hy], he⟩
  rcases key R 1000 with h | ⟨y, hy, he⟩
  · exact .inl h
  · obtain ⟨j, hj, rfl⟩ := List.getElem_of_mem hy
    exact .inr ⟨j, _, List.getElem?_eq_getElem hj, he⟩
/-- of a pair there is a read that sets the high end -/
theorem xp_read {z : Int} (h : xpB C x R S z = true) : ∃ (k : Nat) (y : E2), R[k]? = some y ∧ (verOf C y).e = rhI C x R S := by
  simp only [xpB, Bool.and_eq_true, decide_eq_true_eq] at h
  obtain ⟨hr, _, _⟩ := fw_parts h.1
  have hl := rl_le (rex_both hr)
  have he : rhI C x R S = hiK C R R.length := if_pos hr
  rw [he] at h ⊢
  rcases hi_att C R with h1 | h1
  · omega
  · exact h1
theorem xp_parts {z : Int} (h : xpB C x R S z = true) : fwB C x R S z = true ∧ rhI C x R S ≤ rlI C x R S := by
  simp only [xpB, Bool.and_eq_true, decide_eq_true_eq] at h
  exact h
theorem xp_ne {z : Int} (h : xpB C x R S z = true) : R ≠ [] := by
  obtain ⟨k, y, hy, _⟩ := xp_read h
  rintro rfl
  simp at hy
/-- the mark that sets the high end is one of the reads -/
theorem xp_mem {z : Int} (h : xpB C x R S z = true) : xpH C x R S z ∈ R := by
  rw [xpH_yes h]
  obtain ⟨k, y, hy, he⟩ := xp_read h
  unfold fstAt
  rcases hf : (sucR C R).find? (fun p => decide (p.2 = rhI C x R S)) with _ | p
  · rw [List.find?_eq_none] at hf
    have := hf _ (List.mem_of_getElem? (sucR_at (C := C) hy))
    simp [he] at this
  · have := List.mem_of_find?_eq_some hf
    simp only [sucR, List.mem_map] at this
    obtain ⟨m, hm, rfl⟩ := this
    rw [hf]
    exact hm
theorem may_xp {z : Int} (h : xpB C x R S z = true) : mayB C x R S z = false := by
  obtain ⟨h1, h2⟩ := xp_parts h
  rw [may_is h1, fwL_yes h1, fwH_yes h1]
  exact decide_eq_false (by omega)
end
end Go.Proofs.YtbnkkgjkhpbgiaaGreatDoor.ep
