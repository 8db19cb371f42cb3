/- Chapter 8, plain mathematics: the final window of a transaction. -/
import Derived.Test.YtigbknmiidhblaaRl
import Derived.Test.YtigbknmiidhblaaRh
import Derived.Test.YtigbknmiidhblaaLast
namespace Go.Proofs.Ytigbknmiidhblaa.em
open Go.Proofs.Ytigbknmiidhblaa.el2 Go.Proofs.Ytigbknmiidhblaa.tx Go.Proofs.Ytigbknmiidhblaa.seq Go.Proofs.Ytigbknmiidhblaa.tv Go.Proofs.Ytigbknmiidhblaa.tf Go.Proofs.Ytigbknmiidhblaa.rx Go.Proofs.Ytigbknmiidhblaa.rl Go.Proofs.Ytigbknmiidhblaa.rh Go.Proofs.Ytigbknmiidhblaa.last
open Go.Proofs.Ytigbknmiidhblaa.sl (Ver)
open Go.Proofs.Ytigbknmiidhblaa.val (stB okL_ch_of st_ok st_six)
open Go.Proofs.Ytigbknmiidhblaa.find (fndI lastV last_yes fnd_hit fnd_step)
open Go.Proofs.Ytigbknmiidhblaa.ch (chB ch_of okV fol)
set_option linter.unusedVariables false
set_option linter.unusedSimpArgs false
/-! the store's latest version of a written key is the one that its mark names -/
theorem asc {l : List Ver} (h : chB l = true) : ∀ (d i : Nat) (x y : Ver), l[i]? = some x → l[i + d + 1]? = some y → x.c < y.c
  | 0, i, x, y, hx, hy => by
    have := (ch_of h).2.1 i x y hx hy
    simp [fol, Go.Proofs.Ytigbknmiidhblaa.vers.fB] at this
    exact this.1
  | d + 1, i, x, y, hx, hy => by
    have hl := lt_get hy
    have hz : l[i + 1]? = some (l[i + 1]'(by omega)) := List.getElem?_eq_getElem _
    have h1 := asc h 0 i x _ hx hz
    have h2 := asc h d (i + 1) _ y hz (by rw [show i + 1 + d + 1 = i + (d + 1) + 1 by omega]; exact hy)
    omega
theorem fnd_upto {l : List Ver} {c : Int} : ∀ k, k ≤ l.length → (∀ (j : Nat) (x : Ver), j < k → l[j]? = some x → x.c ≠ c) → fndI c l 0 = fndI c (l.drop k) k
  | 0, _, _ => rfl
  | k + 1, h, hn => by
    have hx : l[k]? = some l[k] := List.getElem?_eq_getElem (by omega)
    exact fnd_step (fnd_upto k (by omega) (fun j x hj => hn j x (by omega))) hx (hn k _ (by omega) hx)
theorem okV_parts {x : Ver} (h : okV x = true) : 0 ≤ x.c ∧ x.c ≤ 999 ∧ 0 ≤ x.d ∧ x.d ≤ 999 ∧ 1 ≤ x.e ∧ x.e ≤ 1000 := by
  simp only [okV, Go.Proofs.Ytigbknmiidhblaa.vers.vB, decide_eq_true_eq] at h
  obtain ⟨_, _, c1, c2, c3, c4, c5, c6, _⟩ := h
  omega
section
variable {C : List (List Ver)} {x : Hd} {R S : List E2}
theorem chain_key (hs : stB C = true) {k : Int} (h0 : 0 ≤ k) (h5 : k ≤ 5) : ∃ l, C[k.toNat]? = some l ∧ chB l = true ∧ chOf C k = l := by
  have h6 := st_six hs
  have hk : k.toNat < C.length := by omega
  have hg := List.getElem?_eq_getElem hk
  exact ⟨_, hg, okL_ch_of (st_ok hs hg), ch_at hg⟩
theorem last_at {l : List Ver} (hc : chB l = true) : ∃ y, l[l.length - 1]? = some y ∧ lastV l = y ∧ okV y = true ∧ fndI y.c l 0 = ((l.length - 1 : Nat) : Int) := by
  obtain ⟨h1, _, y, hy, _⟩ := ch_of hc
  refine ⟨y, hy, last_yes hc hy, h1 _ _ hy, ?_⟩
  have hu := fnd_upto (l := l) (c := y.c) (l.length - 1) (by omega) (fun j z hj hz e => by
    have := asc hc (l.length - 1 - j - 1) j z y hz (by rw [show j + (l.length - 1 - j - 1) + 1 = l.length - 1 by omega]; exact hy)
    omega)
  exact (fnd_hit hu hy rfl).symm
theorem lat_ok (hs : stB C = true) {m : E2} (h0 : 0 ≤ m.a) (h5 : m.a ≤ 5) : okV (latOf C m) = true := by
  obtain ⟨l, hl, hc, hch⟩ := chain_key hs h0 h5
  obtain ⟨y, _, hy, ho, _⟩ := last_at hc
  unfold latOf
  rw [hch, hy]; exact ho
/-! the ends of the final window -/
/-- the stamp may be given to a commit now -/
noncomputable def unB (C : List (List Ver)) (z : Int) : Bool := decide (lstS C < z) && decide (z ≤ 999)
noncomputable def fwB (C : List (List Ver)) (x : Hd) (R S : List E2) (z : Int) : Bool := rexB C x R S && decide (x.t = 1) && unB C z
noncomputable def fwL (C : List (List Ver)) (x : Hd) (R S : List E2) (z : Int) : Int := if fwB C x R S z = true then max x.l (rlI C x R S) else 0
noncomputable def fwH (C : List (List Ver)) (x : Hd) (R S : List E2) (z : Int) : Int := if fwB C x R S z = true then min (min x.h (rhI C x R S)) z else 0
theorem fwL_yes {z : Int} (h : fwB C x R S z = true) : fwL C x R S z = max x.l (rlI C x R S) := if_pos h
theorem fwH_yes {z : Int} (h : fwB C x R S z = true) : fwH C x R S z = min (min x.h (rhI C x R S)) z := if_pos h
theorem fwL_no {z : Int} (h : fwB C x R S z = false) : fwL C x R S z = 0 := if_neg (by rw [h]; exact Bool.false_ne_true)
theorem fwH_no {z : Int} (h : fwB C x R S z = false) : fwH C x R S z = 0 := if_neg (by rw [h]; exact Bool.false_ne_true)
theorem fw_rex {z : Int} (h : rexB C x R S = false) : fwB C x R S z = false := by simp [fwB, h]
theorem fw_act {z : Int} (h : ¬ x.t = 1) : fwB C x R S z = false := by simp [fwB, h]
theorem fw_un {z : Int} (h : unB C z = false) : fwB C x R S z = false := by simp [fwB, h]
theorem fw_all {z : Int} (h : rexB C x R S = true) (h1 : x.t = 1) (h2 : unB C z = true) : fwB C x R S z = true := by simp [fwB, h, h1, h2]
theorem fw_parts {z : Int} (h : fwB C x R S z = true) : rexB C x R S = true ∧ x.t = 1 ∧ unB C z = true := by
  simp only [fwB, Bool.and_eq_true, decide_eq_true_eq] at h
  exact ⟨h.1.1, h.1.2, h.2⟩
theorem rex_both (h : rexB C x R S = true) : bothB C x R S = true := by
  obtain ⟨h1, h2, _⟩ := rex_parts h
  exact both_yes h1 h2
/-! bounds -/
theorem mxL_range {l : List Ver} (h : ∀ v ∈ l, okV v = true) : ∀ m : Int, 0 ≤ m → m ≤ 999 → 0 ≤ mxL m l ∧ mxL m l ≤ 999 := by
  induction l with
  | nil => intro m h0 h1; exact ⟨h0, h1⟩
  | cons v r ih =>
    intro m h0 h1
    obtain ⟨a1, a2, a3, a4, _⟩ := okV_parts (h v (by simp))
    exact ih (fun u hu => h u (by simp [hu])) (mxV m v) (by unfold mxV; omega) (by unfold mxV; omega)
theorem mxS_range {C : List (List Ver)} (h : ∀ l ∈ C, ∀ v ∈ l, okV v = true) : ∀ m : Int, 0 ≤ m → m ≤ 999 → 0 ≤ C.foldl mxL m ∧ C.foldl mxL m ≤ 999 := by
  induction C with
  | nil => intro m h0 h1; exact ⟨h0, h1⟩
  | cons l r ih =>
    intro m h0 h1
    obtain ⟨b0, b1⟩ := mxL_range (h l (by simp)) m h0 h1
    exact ih (fun u hu => h u (by simp [hu])) (mxL m l) b0 b1
theorem st_vers (hs : stB C = true) : ∀ l ∈ C, ∀ v ∈ l, okV v = true := by
  intro l hl v hv
  obtain ⟨j, hj, rfl⟩ := List.getElem_of_mem hl
  obtain ⟨i, hi, rfl⟩ := List.getElem_of_mem hv
  exact (ch_of (okL_ch_of (st_ok hs (List.getElem?_eq_getElem hj)))).1 i _ (List.getElem?_eq_getElem hi)
theorem lst_range (C : List (List Ver)) : 0 ≤ lstS C ∧ lstS C ≤ 999 := by
  rcases hs : stB C with _ | _
  · rw [lst_no hs]; omega
  · rw [lst_yes hs]; exact mxS_range (st_vers hs) 0 (by omega) (by omega)
/-- the model's own test of the stamp -/
theorem un_spec (C : List (List Ver)) (z : Int) : (decide (lstS C + 1 ≤ z) && decide (z ≤ 999)) = unB C z := by
  unfold unB
  congr 1
theorem hdB_range {x : Hd} {R S : List E2} (h : txB x R S = true) : 0 ≤ x.l ∧ x.l ≤ 999 ∧ 1 ≤ x.h ∧ x.h ≤ 1000 := by
  simp only [txB, hdB, Go.Proofs.Ytigbknmiidhblaa.vers.In, Bool.and_eq_true, decide_eq_true_eq] at h
  omega
theorem foldmax_range (P : List Int) (h : ∀ p ∈ P, p ≤ 999) : ∀ n : Int, 0 ≤ n → n ≤ 999 → 0 ≤ P.foldl (fun a p => max a p) n ∧ P.foldl (fun a p => max a p) n ≤ 999 := by
  induction P with
  | nil => intro n h0 h1; exact ⟨h0, h1⟩
  | cons p r ih =>
    intro n h0 h1
    have := h p (by simp)
    exact ih (fun q hq => h q (by simp [hq])) (max n p) (by omega) (by omega)
theorem rl_range (C : List (List Ver)) (x : Hd) (R S : List E2) : 0 ≤ rlI C x R S ∧ rlI C x R S ≤ 999 := by
  rcases hb : bothB C x R S with _ | _
  · rw [← rl_no hb]; omega
  · obtain ⟨hs, ht⟩ := both_parts hb
    have hR : ∀ p ∈ R.map (fun m => m.b), p ≤ 999 := by
      intro p hp
      rw [List.mem_map] at hp
      obtain ⟨m, hm, rfl⟩ := hp
      obtain ⟨j, hj, rfl⟩ := List.getElem_of_mem hm
      have := rd_ok (tx_rd ht) (List.getElem?_eq_getElem hj)
      simp only [okR, Go.Proofs.Ytigbknmiidhblaa.vers.In, Bool.and_eq_true, decide_eq_true_eq] at this
      exact this.2.2
    have hS : ∀ p ∈ S.map (fun m => (latOf C m).d), p ≤ 999 := by
      intro p hp
      rw [List.mem_map] at hp
      obtain ⟨m, hm, rfl⟩ := hp
      obtain ⟨j, hj, rfl⟩ := List.getElem_of_mem hm
      have hk := wkey_of ht (List.getElem?_eq_getElem hj)
      have := okV_parts (lat_ok hs hk.1 hk.2)
      omega
    have h1 := foldmax_range _ hR 0 (by omega) (by omega)
    have h2 := foldmax_range _ hS _ h1.1 h1.2
    rw [List.foldl_map, List.foldl_map] at h2
    rw [rlI, if_pos hb]
    unfold loW loR
    rw [List.take_of_length_le (Nat.le_refl _), List.take_of_length_le (Nat.le_refl _)]
    exact h2
theorem hi_range (C : List (List Ver)) (L : List E2) (h : ∀ m ∈ L, 1 ≤ (verOf C m).e) : ∀ n : Int, 0 ≤ n → n ≤ 1000 → 0 ≤ L.foldl (fun h m => min h (verOf C m).e) n ∧ L.foldl (fun h m => min h (verOf C m).e) n ≤ 1000 := by
  induction L with
  | nil => intro n h0 h1; exact ⟨h0, h1⟩
  | cons m r ih =>
    intro n h0 h1
    have := h m (by simp)
    exact ih (fun q hq => h q (by simp [hq])) (min n (verOf C m).e) (by omega) (by omega)
theorem rh_range (C : List (List Ver)) (x : Hd) (R S : List E2) : 0 ≤ rhI C x R S ∧ rhI C x R S ≤ 1000 := by
  rcases hb : rexB C x R S with _ | _
  · rw [← rh_no hb]; omega
  · obtain ⟨hs, ht, hall⟩ := rex_parts hb
    rw [rhI, if_pos hb]
    unfold hiK
    rw [List.take_of_length_le (Nat.le_refl _)]
    refine hi_range C R (fun m hm => ?_) 1000 (by omega) (by omega)
    obtain ⟨j, hj, rfl⟩ := List.getElem_of_mem hm
    have hx := List.getElem?_eq_getElem hj
    have hk := key_of ht hx
    have hh := all_at hall hx
    obtain ⟨l, hl, hc, hch⟩ := chain_key hs hk.1 hk.2
    unfold hasV at hh
    rw [hch] at hh
    obtain ⟨i, hi, hil⟩ := fnd_lt (of_decide_eq_true hh)
    have hv := List.getElem?_eq_getElem hil
    rw [ver_at hl hi hv]
    exact (okV_parts ((ch_of hc).1 i _ hv)).2.2.2.2.1
theorem fwL_range (C : List (List Ver)) (x : Hd) (R S : List E2) (z : Int) : 0 ≤ fwL C x R S z ∧ fwL C x R S z ≤ 999 := by
  rcases h : fwB C x R S z with _ | _
  · rw [fwL_no h]; omega
  · rw [fwL_yes h]
    have h1 := rl_range C x R S
    have h2 := hdB_range (rex_parts (fw_parts h).1).2.1
    omega
theorem fwH_range (C : List (List Ver)) (x : Hd) (R S : List E2) (z : Int) : 0 ≤ fwH C x R S z ∧ fwH C x R S z ≤ 1000 := by
  rcases h : fwB C x R S z with _ | _
  · rw [fwH_no h]; omega
  · rw [fwH_yes h]
    have h1 := rh_range C x R S
    have h2 := hdB_range (rex_parts (fw_parts h).1).2.1
    have h3 := (fw_parts h).2.2
    have h4 := lst_range C
    simp only [unB, Bool.and_eq_true, decide_eq_true_eq] at h3
    omega
/-- may the transaction commit -/
noncomputable def mayB (C : List (List Ver)) (x : Hd) (R S : List E2) (z : Int) : Bool := fwB C x R S z && decide (fwL C x R S z < fwH C x R S z)
theorem may_no {z : Int} (h : fwB C x R S z = false) : mayB C x R S z = false := by simp [mayB, h]
theorem may_is {z : Int} (h : fwB C x R S z = true) : mayB C x R S z = decide (fwL C x R S z < fwH C x R S z) := by simp [mayB, h]
/-- the room -/
noncomputable def roomI (C : List (List Ver)) (x : Hd) (R S : List E2) (z : Int) : Int := fwH C x R S z - fwL C x R S z
theorem room_may {z : Int} : decide (0 < roomI C x R S z) = mayB C x R S z := by
  rcases h : fwB C x R S z with _ | _
  · rw [may_no h]
    unfold roomI
    rw [fwL_no h, fwH_no h]
    rfl
  · rw [may_is h]
    unfold roomI
    exact decide_eq_decide.2 (by omega)
end
end Go.Proofs.Ytigbknmiidhblaa.em
