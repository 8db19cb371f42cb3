/- Chapter 9, plain mathematics: what a commit makes of a store and of a transaction. -/
import Derived.Test.YtigbknmiidhblaaEm
namespace Go.Proofs.Ytigbknmiidhblaa.ct
open Go.Proofs.Ytigbknmiidhblaa.el2 Go.Proofs.Ytigbknmiidhblaa.tx Go.Proofs.Ytigbknmiidhblaa.seq Go.Proofs.Ytigbknmiidhblaa.tv Go.Proofs.Ytigbknmiidhblaa.tf Go.Proofs.Ytigbknmiidhblaa.rx Go.Proofs.Ytigbknmiidhblaa.rl Go.Proofs.Ytigbknmiidhblaa.rh Go.Proofs.Ytigbknmiidhblaa.last Go.Proofs.Ytigbknmiidhblaa.em
open Go.Proofs.Ytigbknmiidhblaa.sl (Ver)
open Go.Proofs.Ytigbknmiidhblaa.val (stB okL okL_ch_of st_ok st_six)
open Go.Proofs.Ytigbknmiidhblaa.find (fndI lastV)
open Go.Proofs.Ytigbknmiidhblaa.ch (chB ch_of ch_yes ChP okV fol)
set_option linter.unusedVariables false
set_option linter.unusedSimpArgs false
/-- a version that is read at the stamp -/
def rdV (z : Int) (v : Ver) : Ver := ⟨v.a, v.b, v.c, max v.d z, v.e⟩
/-- a version that is overwritten -/
def suV (h : Int) (v : Ver) : Ver := ⟨v.a, v.b, v.c, v.d, h⟩
/-- the version that a write installs -/
def nwV (i z : Int) (m : E2) : Ver := ⟨i, m.b, z, z, 1000⟩
/-- the row with its element j changed -/
def atJ (f : Ver → Ver) (l : List Ver) (j : Nat) : List Ver := l.set j (f (l.getD j default))
/-- a chain with the version created at c read -/
def rdL (z c : Int) (l : List Ver) : List Ver := atJ (rdV z) l (fndI c l 0).toNat
/-- a chain with a version appended -/
def wrL (h : Int) (v : Ver) (l : List Ver) : List Ver := atJ (suV h) l (l.length - 1) ++ [v]
/-- the store with the row k changed -/
def onK (f : List Ver → List Ver) (C : List (List Ver)) (k : Int) : List (List Ver) := C.set k.toNat (f (chOf C k))
def rdC (z : Int) (C : List (List Ver)) (m : E2) : List (List Ver) := onK (rdL z m.b) C m.a
def wrC (i z h : Int) (C : List (List Ver)) (m : E2) : List (List Ver) := onK (wrL h (nwV i z m)) C m.a
def rdK (z : Int) (C : List (List Ver)) (R : List E2) (k : Nat) : List (List Ver) := (R.take k).foldl (rdC z) C
def wrK (i z h : Int) (C : List (List Ver)) (S : List E2) (k : Nat) : List (List Ver) := (S.take k).foldl (wrC i z h) C
/-- the store behind the commit -/
def insC (C : List (List Ver)) (i z h : Int) (R S : List E2) : List (List Ver) := wrK i z h (rdK z C R R.length) S S.length
/-- no chain would be too long -/
def fitB (C : List (List Ver)) (S : List E2) : Bool := S.all fun m => decide ((chOf C m.a).length < 50)
noncomputable def cmB (C : List (List Ver)) (x : Hd) (R S : List E2) (z : Int) : Bool := mayB C x R S z && fitB C S
noncomputable def cmC (C : List (List Ver)) (x : Hd) (R S : List E2) (z : Int) : List (List Ver) := if cmB C x R S z = true then insC C x.i z (fwH C x R S z) R S else C
noncomputable def cmX (C : List (List Ver)) (x : Hd) (R S : List E2) (z : Int) : Hd := if cmB C x R S z = true then ⟨x.i, x.s, 2, x.b, fwL C x R S z, fwH C x R S z, z⟩ else x
section
variable {C : List (List Ver)} {x : Hd} {R S : List E2} {z h i : Int} {l : List Ver}
theorem rdK_step {k : Nat} {y : E2} (hx : R[k]? = some y) : rdK z C R (k + 1) = rdC z (rdK z C R k) y := by
  unfold rdK
  rw [List.take_add_one, hx]
  simp [List.foldl_append]
theorem wrK_step {k : Nat} {y : E2} (hx : S[k]? = some y) : wrK i z h C S (k + 1) = wrC i z h (wrK i z h C S k) y := by
  unfold wrK
  rw [List.take_add_one, hx]
  simp [List.foldl_append]
theorem atJ_len (f : Ver → Ver) (l : List Ver) (j : Nat) : (atJ f l j).length = l.length := by simp [atJ]
theorem atJ_at {f : Ver → Ver} {l : List Ver} {j : Nat} {v : Ver} (hv : l[j]? = some v) : atJ f l j = l.set j (f v) := by simp [atJ, List.getD, hv]
theorem atJ_get {f : Ver → Ver} {l : List Ver} {j k : Nat} {u : Ver} (hu : (atJ f l j)[k]? = some u) : ∃ v, l[k]? = some v ∧ u = (if k = j then f v else v) := by
  have hk : k < l.length := by have := lt_get hu; rw [atJ_len] at this; exact this
  refine ⟨l[k], List.getElem?_eq_getElem hk, ?_⟩
  unfold atJ at hu
  rw [List.getElem?_set] at hu
  by_cases e : j = k
  · subst e
    rw [if_pos rfl, if_pos hk] at hu
    injection hu with hu
    rw [if_pos rfl, ← hu]
    simp [List.getD, List.getElem?_eq_getElem hk]
  · rw [if_neg e, List.getElem?_eq_getElem hk] at hu
    injection hu with hu
    rw [if_neg (fun e' => e e'.symm)]
    exact hu.symm
theorem onK_len (f : List Ver → List Ver) (C : List (List Ver)) (k : Int) : (onK f C k).length = C.length := by simp [onK]
theorem chOf_onK {f : List Ver → List Ver} {C : List (List Ver)} {k k' : Int} (h0 : 0 ≤ k) (h0' : 0 ≤ k') (hk : k.toNat < C.length) : chOf (onK f C k) k' = if k' = k then f (chOf C k) else chOf C k' := by
  by_cases e : k' = k
  · subst e
    rw [if_pos rfl]
    simp [chOf, onK, List.getD, List.getElem?_set_self hk]
  · rw [if_neg e]
    have hne : k.toNat ≠ k'.toNat := by omega
    simp [chOf, onK, List.getD, List.getElem?_set_ne hne]
/-! what a chain keeps when it is read: all but the readers -/
/-- the same but for the readers, which are between the old one and z -/
def Like (z : Int) (l l' : List Ver) : Prop := l'.length = l.length ∧ ∀ (k : Nat) (v v' : Ver), l[k]? = some v → l'[k]? = some v' → v'.a = v.a ∧ v'.b = v.b ∧ v'.c = v.c ∧ v'.e = v.e ∧ v.d ≤ v'.d ∧ (v'.d = v.d ∨ v'.d ≤ z)
theorem Like.refl (z : Int) (l : List Ver) : Like z l l := ⟨rfl, fun k v v' h h' => by
  rw [h] at h'
  injection h' with h'
  subst h'
  exact ⟨rfl, rfl, rfl, rfl, Int.le_refl _, .inl rfl⟩⟩
theorem Like.trans {l l' l'' : List Ver} (h : Like z l l') (h2 : Like z l' l'') : Like z l l'' := ⟨h2.1.trans h.1, fun k v v'' hv hv'' => by
  have hk : k < l'.length := by have := lt_get hv; rw [h.1]; exact this
  have hv' := List.getElem?_eq_getElem hk
  obtain ⟨a1, a2, a3, a4, a5, a6⟩ := h.2 k v _ hv hv'
  obtain ⟨b1, b2, b3, b4, b5, b6⟩ := h2.2 k _ v'' hv' hv''
  refine ⟨b1.trans a1, b2.trans a2, b3.trans a3, b4.trans a4, Int.le_trans a5 b5, ?_⟩
  rcases b6 with e | e
  · rcases a6 with e2 | e2
    · exact .inl (e.trans e2)
    · exact .inr (by omega)
  · exact .inr e⟩
theorem like_rd {l : List Ver} (z c : Int) (hz : ∀ v ∈ l, v.d ≤ z) : Like z l (rdL z c l) := ⟨atJ_len _ _ _, fun k v v' hv hv' => by
  obtain ⟨u, hu, e⟩ := atJ_get hv'
  rw [hv] at hu
  injection hu with hu
  subst hu
  have := hz v (List.mem_of_getElem? hv)
  split at e
  · subst e
    exact ⟨rfl, rfl, rfl, rfl, by simp only [rdV]; omega, .inr (by simp only [rdV]; omega)⟩
  · subst e
    exact ⟨rfl, rfl, rfl, rfl, Int.le_refl _, .inl rfl⟩⟩
theorem like_le {l l' : List Ver} (h : Like z l l') (hz : ∀ v ∈ l, v.d ≤ z) : ∀ v ∈ l', v.d ≤ z := by
  intro v hv
  obtain ⟨k, hk, rfl⟩ := List.getElem_of_mem hv
  have hk2 : k < l.length := by rw [← h.1]; exact hk
  obtain ⟨_, _, _, _, _, e⟩ := h.2 k _ _ (List.getElem?_eq_getElem hk2) (List.getElem?_eq_getElem hk)
  rcases e with e | e
  · rw [e]; exact hz _ (List.getElem_mem hk2)
  · exact e
/-- where a creation stands does not turn -/
theorem like_fnd {c : Int} : ∀ {l l' : List Ver} (k : Nat), Like z l l' → fndI c l' k = fndI c l k
  | [], [], k, _ => rfl
  | [], _ :: _, k, h => by simp [Like] at h
  | _ :: _, [], k, h => by simp [Like] at h
  | v :: r, v' :: r', k, h => by
    obtain ⟨_, _, e, _⟩ := h.2 0 v v' (by simp) (by simp)
    have ht : Like z r r' := ⟨by have := h.1; simpa using this, fun j u u' hu hu' => h.2 (j + 1) u u' (by simpa using hu) (by simpa using hu')⟩
    unfold fndI
    rw [e, like_fnd (k + 1) ht]
/-- a chain that is like a valid one is valid -/
theorem like_ch {l l' : List Ver} (h : Like z l l') (hz : z ≤ 999) (hc : chB l = true) : chB l' = true := by
  obtain ⟨h1, h2, y, hy, he⟩ := ch_of hc
  refine ch_yes ⟨fun k v' hv' => ?_, fun k u' v' hu' hv' => ?_, ?_⟩
  · have hk : k < l.length := by have := lt_get hv'; rw [h.1] at this; exact this
    have hv := List.getElem?_eq_getElem hk
    obtain ⟨a1, a2, a3, a4, a5, a6⟩ := h.2 k _ v' hv hv'
    have ho := h1 k _ hv
    simp only [okV, Go.Proofs.Ytigbknmiidhblaa.vers.vB, decide_eq_true_eq] at ho ⊢
    rw [a1, a2, a3, a4]
    obtain ⟨o1, o2, o3, o4, o5, o6, o7, o8, o9, o10⟩ := ho
    refine ⟨o1, o2, o3, o4, by omega, by omega, o7, o8, o9, o10⟩
  · have hk : k + 1 < l.length := by have := lt_get hv'; rw [h.1] at this; exact this
    have hu := List.getElem?_eq_getElem (show k < l.length by omega)
    have hv := List.getElem?_eq_getElem hk
    obtain ⟨_, _, u3, u4, _⟩ := h.2 k _ u' hu hu'
    obtain ⟨_, _, v3, _⟩ := h.2 (k + 1) _ v' hv hv'
    have hf := h2 k _ _ hu hv
    simp only [fol, Go.Proofs.Ytigbknmiidhblaa.vers.fB] at hf ⊢
    rw [u3, u4, v3]
    exact hf
  · have hk := lt_get hy
    have hk' : l'.length - 1 < l'.length := by rw [h.1]; omega
    refine ⟨_, List.getElem?_eq_getElem hk', ?_⟩
    obtain ⟨_, _, _, e, _⟩ := h.2 (l'.length - 1) y _ (by rw [h.1]; exact hy) (List.getElem?_eq_getElem hk')
    rw [e]; exact he
end
/-- a version whose successor is set -/
theorem su_ok {h : Int} {v : Ver} (hv : okV v = true) (h1 : 1 ≤ h) (h2 : h ≤ 1000) : okV (suV h v) = true := by
  simp only [okV, Go.Proofs.Ytigbknmiidhblaa.vers.vB, decide_eq_true_eq] at hv
  refine decide_eq_true (show Go.Proofs.Ytigbknmiidhblaa.vers.vP v.a v.b v.c v.d h from ?_)
  obtain ⟨o1, o2, o3, o4, o5, o6, o7, o8, o9, o10⟩ := hv
  exact ⟨o1, o2, o3, o4, o5, o6, h1, h2, o9, o10⟩
/-- what a write makes of a valid chain is valid -/
theorem wr_ch {l : List Ver} {v : Ver} {h : Int} (hc : chB l = true) (hv : okV v = true) (he : v.e = 1000) (h1 : 1 ≤ h) (h2 : h ≤ v.c) (hl : (lastV l).c < v.c) : chB (wrL h v l) = true := by
  obtain ⟨p1, p2, _⟩ := ch_of hc
  obtain ⟨y, hy, hly, hyo, _⟩ := last_at hc
  rw [hly] at hl
  have hn := lt_get hy
  have hv9 : h ≤ 1000 := by have := okV_parts hv; omega
  have hw : wrL h v l = l.set (l.length - 1) (suV h y) ++ [v] := by unfold wrL; rw [atJ_at hy]
  have hlen : (wrL h v l).length = l.length + 1 := by rw [hw]; simp
  have hlast : (wrL h v l)[l.length]? = some v := by rw [hw, List.getElem?_append_right (by simp)]; simp
  have hbe : ∀ k, k < l.length → (wrL h v l)[k]? = if k = l.length - 1 then some (suV h y) else l[k]? := by
    intro k hk
    rw [hw, List.getElem?_append_left (by simpa using hk), List.getElem?_set]
    by_cases hj : l.length - 1 = k
    · rw [if_pos hj, if_pos (by omega), if_pos hj.symm]
    · rw [if_neg hj, if_neg (fun e => hj e.symm)]
  refine ch_yes ⟨fun k x hx => ?_, fun k x x' hx hx' => ?_, ⟨v, by rw [hlen]; exact hlast, he⟩⟩
  · have hk := lt_get hx
    rw [hlen] at hk
    by_cases hkl : k = l.length
    · subst hkl; rw [hlast] at hx; cases hx; exact hv
    · rw [hbe k (by omega)] at hx
      by_cases hj : k = l.length - 1
      · rw [if_pos hj] at hx; cases hx; exact su_ok hyo h1 hv9
      · rw [if_neg hj] at hx; exact p1 k x hx
  · have hk := lt_get hx'
    rw [hlen] at hk
    rw [hbe k (by omega)] at hx
    by_cases hj : k = l.length - 1
    · rw [if_pos hj] at hx; cases hx
      rw [show k + 1 = l.length by omega, hlast] at hx'; cases hx'
      show (decide (y.c < v.c) && decide (h ≤ v.c)) = true
      rw [decide_eq_true hl, decide_eq_true h2]; rfl
    · rw [if_neg hj] at hx
      rw [hbe (k + 1) (by omega)] at hx'
      by_cases hj' : k + 1 = l.length - 1
      · rw [if_pos hj'] at hx'; cases hx'
        have hf := p2 k x y hx (by rw [hj']; exact hy)
        exact hf
      · rw [if_neg hj'] at hx'
        exact p2 k x x' hx hx'
end Go.Proofs.Ytigbknmiidhblaa.ct
