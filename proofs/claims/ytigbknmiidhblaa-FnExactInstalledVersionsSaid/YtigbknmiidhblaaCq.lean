/- Chapter 9, plain mathematics: the store and the transaction behind a commit are valid; what was installed; counts and earlier states. -/
import Derived.Test.YtigbknmiidhblaaCt
import Derived.Test.YtigbknmiidhblaaRd
import Derived.Test.YtigbknmiidhblaaSa
namespace Go.Proofs.Ytigbknmiidhblaa.cq
open Go.Proofs.Ytigbknmiidhblaa.el2 Go.Proofs.Ytigbknmiidhblaa.tx Go.Proofs.Ytigbknmiidhblaa.seq Go.Proofs.Ytigbknmiidhblaa.tv Go.Proofs.Ytigbknmiidhblaa.tf Go.Proofs.Ytigbknmiidhblaa.rx Go.Proofs.Ytigbknmiidhblaa.rl Go.Proofs.Ytigbknmiidhblaa.rh Go.Proofs.Ytigbknmiidhblaa.last Go.Proofs.Ytigbknmiidhblaa.em Go.Proofs.Ytigbknmiidhblaa.ct
open Go.Proofs.Ytigbknmiidhblaa.sl (Ver)
open Go.Proofs.Ytigbknmiidhblaa.st (cnt)
open Go.Proofs.Ytigbknmiidhblaa.val (stB okL okL_ch_of okL_len okL_yes st_ok st_six)
open Go.Proofs.Ytigbknmiidhblaa.find (fndI lastV atI vAt fnd_hit fnd_none)
open Go.Proofs.Ytigbknmiidhblaa.ch (chB ch_of ch_yes ChP okV fol)
open Go.Proofs.Ytigbknmiidhblaa.rd (raB raV rlB)
open Go.Proofs.Ytigbknmiidhblaa.sa (saL saV RdOk saL_yes saL_not)
set_option linter.unusedVariables false
set_option linter.unusedSimpArgs false
/-- what a commit that happens rests on -/
structure Ok9 (C : List (List Ver)) (R S : List E2) (i z h : Int) : Prop where
  st : stB C = true
  rk : ∀ m ∈ R, 0 ≤ m.a ∧ m.a ≤ 5
  asc : wrB S = true
  idr : 1 ≤ i ∧ i ≤ 9
  zr : lstS C < z ∧ z ≤ 999
  hr : 1 ≤ h ∧ h ≤ z
  fit : fitB C S = true
theorem cm_ok {C : List (List Ver)} {x : Hd} {R S : List E2} {z : Int} (h : Go.Proofs.Ytigbknmiidhblaa.ct.cmB C x R S z = true) : Ok9 C R S x.i z (fwH C x R S z) ∧ fwB C x R S z = true ∧ txB x R S = true ∧ x.t = 1 ∧ fwL C x R S z < fwH C x R S z := by
  simp only [Go.Proofs.Ytigbknmiidhblaa.ct.cmB, mayB, Bool.and_eq_true, decide_eq_true_eq] at h
  obtain ⟨⟨hf, hl⟩, hfit⟩ := h
  obtain ⟨hr, ht, hu⟩ := fw_parts hf
  obtain ⟨hs, htx, _⟩ := rex_parts hr
  have hu2 := hu
  simp only [unB, Bool.and_eq_true, decide_eq_true_eq] at hu2
  have hl0 : 0 ≤ fwL C x R S z := by
    rw [fwL_yes hf]
    have := hdB_range htx
    have := rl_range C x R S
    omega
  have hh : fwH C x R S z ≤ z := by rw [fwH_yes hf]; omega
  have hi : 1 ≤ x.i ∧ x.i ≤ 9 := by
    have h2 := htx
    simp only [txB, hdB, Go.Proofs.Ytigbknmiidhblaa.vers.In, Bool.and_eq_true, decide_eq_true_eq] at h2
    omega
  refine ⟨⟨hs, fun m hm => ?_, tx_wr htx, hi, hu2, ⟨by omega, hh⟩, hfit⟩, hf, htx, ht, hl⟩
  obtain ⟨j, hj, rfl⟩ := List.getElem_of_mem hm
  exact key_of htx (List.getElem?_eq_getElem hj)
/-- the transaction behind the commit is valid -/
theorem cm_tx {C : List (List Ver)} {x : Hd} {R S : List E2} {z : Int} (h : Go.Proofs.Ytigbknmiidhblaa.ct.cmB C x R S z = true) : txB (cmX C x R S z) R S = true ∧ (cmX C x R S z).t = 2 ∧ (cmX C x R S z).i = x.i ∧ (cmX C x R S z).c = z ∧ 1 ≤ z := by
  obtain ⟨ok, hf, htx, ht, hl⟩ := cm_ok h
  have h0 := lst_range C
  have hz := ok.zr
  have hh := ok.hr
  have hl2 : 0 ≤ fwL C x R S z ∧ fwL C x R S z ≤ 999 := by
    rw [fwL_yes hf]
    have := hdB_range htx
    have := rl_range C x R S
    omega
  have e : cmX C x R S z = ⟨x.i, x.s, 2, x.b, fwL C x R S z, fwH C x R S z, z⟩ := if_pos h
  rw [e]
  refine ⟨?_, rfl, rfl, rfl, by omega⟩
  simp only [txB, hdB, Go.Proofs.Ytigbknmiidhblaa.vers.In, Bool.and_eq_true, decide_eq_true_eq] at htx ⊢
  obtain ⟨⟨⟨⟨⟨⟨a1, a2⟩, a3⟩, _⟩, _⟩, a5⟩, a6⟩ := htx
  refine ⟨⟨⟨⟨⟨⟨a1, a2⟩, a3⟩, ⟨by omega, by omega⟩⟩, cm_yes (.inl ⟨rfl, by omega, by omega⟩)⟩, a5⟩, a6⟩
/-! the last stamp -/
theorem mxL_le : ∀ (l : List Ver) (m : Int), m ≤ mxL m l ∧ ∀ v ∈ l, v.c ≤ mxL m l ∧ v.d ≤ mxL m l
  | [], m => ⟨Int.le_refl _, fun v h => by cases h⟩
  | u :: r, m => by
    obtain ⟨h1, h2⟩ := mxL_le r (mxV m u)
    have e : mxL m (u :: r) = mxL (mxV m u) r := rfl
    rw [e]
    have hu : m ≤ mxV m u ∧ u.c ≤ mxV m u ∧ u.d ≤ mxV m u := by unfold mxV; omega
    refine ⟨by omega, fun v hv => ?_⟩
    rcases List.mem_cons.1 hv with rfl | hv
    · omega
    · exact h2 v hv
theorem mxS_le : ∀ (C : List (List Ver)) (m : Int), m ≤ C.foldl mxL m ∧ ∀ l ∈ C, ∀ v ∈ l, v.c ≤ C.foldl mxL m ∧ v.d ≤ C.foldl mxL m
  | [], m => ⟨Int.le_refl _, fun l h => by cases h⟩
  | u :: r, m => by
    obtain ⟨h1, h2⟩ := mxS_le r (mxL m u)
    obtain ⟨h3, h4⟩ := mxL_le u m
    have e : (u :: r).foldl mxL m = r.foldl mxL (mxL m u) := rfl
    rw [e]
    refine ⟨by omega, fun l hl v hv => ?_⟩
    rcases List.mem_cons.1 hl with rfl | hl
    · have := h4 v hv
      omega
    · exact h2 l hl v hv
theorem lst_le {C : List (List Ver)} (hs : stB C = true) : ∀ l ∈ C, ∀ v ∈ l, v.c ≤ lstS C ∧ v.d ≤ lstS C := by
  rw [lst_yes hs]
  exact (mxS_le C 0).2
section
variable {C : List (List Ver)} {R S : List E2} {i z h : Int}
theorem chOf_mem (hs : stB C = true) {k : Int} (h0 : 0 ≤ k) (h5 : k ≤ 5) : chOf C k ∈ C := by
  obtain ⟨l, hl, _, e⟩ := chain_key hs h0 h5
  rw [e]
  exact List.mem_of_getElem? hl
/-- behind the reads -/
theorem rd_all (hs : stB C = true) (hz : lstS C < z) (hR : ∀ m ∈ R, 0 ≤ m.a ∧ m.a ≤ 5) : ∀ n, n ≤ R.length → (rdK z C R n).length = C.length ∧ ∀ k : Int, 0 ≤ k → k ≤ 5 → Like z (chOf C k) (chOf (rdK z C R n) k)
  | 0, _ => ⟨rfl, fun k _ _ => Like.refl z _⟩
  | n + 1, hn => by
    obtain ⟨h1, h2⟩ := rd_all hs hz hR n (by omega)
    have hx : R[n]? = some R[n] := List.getElem?_eq_getElem (by omega)
    obtain ⟨m0, m5⟩ := hR _ (List.getElem_mem (show n < R.length by omega))
    rw [rdK_step hx]
    unfold rdC
    refine ⟨by rw [onK_len]; exact h1, fun k k0 k5 => ?_⟩
    rw [chOf_onK m0 k0 (by rw [h1, st_six hs]; omega)]
    have hk := h2 k k0 k5
    split
    · rename_i e
      subst e
      refine hk.trans (like_rd z _ (like_le hk fun v hv => ?_))
      have := (lst_le hs _ (chOf_mem hs k0 k5) v hv).2
      omega
    · exact hk
theorem wr_asc (h : wrB S = true) : ∀ (d i : Nat) (x y : E2), S[i]? = some x → S[i + d + 1]? = some y → x.a < y.a
  | 0, i, x, y, hx, hy => by
    have := (sq_of h).2 i x y hx hy
    simpa [folW] using this
  | d + 1, i, x, y, hx, hy => by
    have hl := lt_get hy
    have hz : S[i + 1]? = some (S[i + 1]'(by omega)) := List.getElem?_eq_getElem _
    have h1 := wr_asc h 0 i x _ hx hz
    have h2 := wr_asc h d (i + 1) _ y hz (by rw [show i + 1 + d + 1 = i + (d + 1) + 1 by omega]; exact hy)
    omega
theorem wr_ne (h : wrB S = true) {i j : Nat} {x y : E2} (hx : S[i]? = some x) (hy : S[j]? = some y) (hij : i < j) : x.a < y.a := wr_asc h (j - i - 1) i x y hx (by rw [show i + (j - i - 1) + 1 = j by omega]; exact hy)
theorem wr_key (h : wrB S = true) {j : Nat} {m : E2} (hm : S[j]? = some m) : 0 ≤ m.a ∧ m.a ≤ 5 ∧ -1 ≤ m.b ∧ m.b ≤ 99 := by
  have := (sq_of h).1 j m hm
  simp only [okW, Go.Proofs.Ytigbknmiidhblaa.vers.In, Bool.and_eq_true, decide_eq_true_eq] at this
  omega
/-- behind the writes -/
theorem wr_all {C1 : List (List Ver)} (h6 : C1.length = 6) (hS : wrB S = true) : ∀ n, n ≤ S.length → (wrK i z h C1 S n).length = 6 ∧ (∀ j m, j < n → S[j]? = some m → chOf (wrK i z h C1 S n) m.a = wrL h (nwV i z m) (chOf C1 m.a)) ∧ ∀ k : Int, 0 ≤ k → (∀ j m, j < n → S[j]? = some m → m.a ≠ k) → chOf (wrK i z h C1 S n) k = chOf C1 k
  | 0, _ => ⟨h6, fun j m hj => absurd hj (by omega), fun k _ _ => rfl⟩
  | n + 1, hn => by
    obtain ⟨h1, h2, h3⟩ := wr_all h6 hS n (by omega)
    have hx : S[n]? = some S[n] := List.getElem?_eq_getElem (by omega)
    obtain ⟨m0, m5, _⟩ := wr_key hS hx
    rw [wrK_step hx]
    unfold wrC
    refine ⟨by rw [onK_len]; exact h1, fun j m hj hm => ?_, fun k k0 hk => ?_⟩
    · obtain ⟨q0, q5, _⟩ := wr_key hS hm
      rw [chOf_onK m0 q0 (by rw [h1]; omega)]
      by_cases e : j = n
      · subst e
        rw [hx] at hm
        injection hm with hm
        subst hm
        rw [if_pos rfl, h3 _ m0 fun j' m' hj' hm' e => ?_]
        have := wr_ne hS hm' hx hj'
        omega
      · have := wr_ne hS hm hx (by omega)
        rw [if_neg (by omega)]
        exact h2 j m (by omega) hm
    · rw [chOf_onK m0 k0 (by rw [h1]; omega), if_neg fun e => hk n _ (by omega) hx e.symm]
      exact h3 k k0 fun j m hj hm => hk j m (by omega) hm
/-- the chain of a key behind the commit -/
theorem ins_key (o : Ok9 C R S i z h) {k : Int} (k0 : 0 ≤ k) (k5 : k ≤ 5) : ∃ l1, Like z (chOf C k) l1 ∧ ((∃ m ∈ S, m.a = k ∧ chOf (insC C i z h R S) k = wrL h (nwV i z m) l1) ∨ ((∀ m ∈ S, m.a ≠ k) ∧ chOf (insC C i z h R S) k = l1)) := by
  obtain ⟨r1, r2⟩ := rd_all o.st o.zr.1 o.rk R.length (Nat.le_refl _)
  obtain ⟨w1, w2, w3⟩ := wr_all (i := i) (z := z) (h := h) (by rw [r1]; exact st_six o.st) o.asc S.length (Nat.le_refl _)
  refine ⟨_, r2 k k0 k5, ?_⟩
  by_cases e : ∃ m ∈ S, m.a = k
  · obtain ⟨m, hm, hk⟩ := e
    refine .inl ⟨m, hm, hk, ?_⟩
    obtain ⟨j, hj, rfl⟩ := List.getElem_of_mem hm
    subst hk
    exact w2 j _ hj (List.getElem?_eq_getElem hj)
  · have e2 : ∀ m ∈ S, m.a ≠ k := fun m hm hk => e ⟨m, hm, hk⟩
    exact .inr ⟨e2, w3 k k0 fun j m _ hm => e2 m (List.mem_of_getElem? hm)⟩
theorem ins_len (o : Ok9 C R S i z h) : (insC C i z h R S).length = 6 := by
  obtain ⟨r1, _⟩ := rd_all o.st o.zr.1 o.rk R.length (Nat.le_refl _)
  exact (wr_all (i := i) (z := z) (h := h) (by rw [r1]; exact st_six o.st) o.asc S.length (Nat.le_refl _)).1
/-- every creation that was there is before the stamp -/
theorem old_lt (o : Ok9 C R S i z h) {k : Int} (k0 : 0 ≤ k) (k5 : k ≤ 5) {l1 : List Ver} (hL : Like z (chOf C k) l1) : ∀ v ∈ l1, v.c < z := by
  intro v hv
  obtain ⟨j, hj, rfl⟩ := List.getElem_of_mem hv
  have hj2 : j < (chOf C k).length := by rw [← hL.1]; exact hj
  obtain ⟨_, _, e, _⟩ := hL.2 j _ _ (List.getElem?_eq_getElem hj2) (List.getElem?_eq_getElem hj)
  have := (lst_le o.st _ (chOf_mem o.st k0 k5) _ (List.getElem_mem hj2)).1
  have := o.zr.1
  omega
theorem nw_ok (o : Ok9 C R S i z h) {m : E2} (hm : m ∈ S) : okV (nwV i z m) = true := by
  obtain ⟨j, hj, rfl⟩ := List.getElem_of_mem hm
  obtain ⟨_, _, b1, b2⟩ := wr_key o.asc (List.getElem?_eq_getElem hj)
  obtain ⟨i1, i2⟩ := o.idr
  obtain ⟨z1, z2⟩ := o.zr
  have := lst_range C
  refine decide_eq_true (show Go.Proofs.Ytigbknmiidhblaa.vers.vP i S[j].b z z 1000 from ?_)
  exact ⟨b1, b2, by omega, z2, Int.le_refl _, z2, by omega, by omega, fun e => by omega, fun _ => ⟨i1, i2⟩⟩
/-- the store behind the commit is valid -/
theorem ins_st (o : Ok9 C R S i z h) : stB (insC C i z h R S) = true := by
  have h6 := ins_len o
  simp only [stB, Bool.and_eq_true, decide_eq_true_eq, List.all_eq_true]
  refine ⟨h6, fun l hl => ?_⟩
  obtain ⟨j, hj, rfl⟩ := List.getElem_of_mem hl
  have k0 : (0 : Int) ≤ (j : Int) := by omega
  have k5 : (j : Int) ≤ 5 := by omega
  have hg := List.getElem?_eq_getElem hj
  have hc : chOf (insC C i z h R S) (j : Int) = (insC C i z h R S)[j] := ch_at hg
  obtain ⟨l0, hl0, hch0, e0⟩ := chain_key o.st k0 k5
  have hlen0 : l0.length ≤ 50 := okL_len (st_ok o.st hl0)
  obtain ⟨l1, hL, hw⟩ := ins_key o k0 k5
  rw [e0] at hL
  have hc1 := like_ch hL o.zr.2 hch0
  rcases hw with ⟨m, hm, hk, e⟩ | ⟨_, e⟩
  · rw [hc] at e
    rw [e]
    refine okL_yes (wr_ch hc1 (nw_ok o hm) rfl o.hr.1 o.hr.2 ?_) ?_
    · obtain ⟨y, hy, hly, _⟩ := last_at hc1
      rw [hly]
      exact old_lt o k0 k5 (by rw [e0]; exact hL) y (List.mem_of_getElem? hy)
    · have hf := o.fit
      simp only [fitB, List.all_eq_true, decide_eq_true_eq] at hf
      have := hf m hm
      rw [hk, e0] at this
      have := hL.1
      simp only [wrL, List.length_append, atJ_len, List.length_cons, List.length_nil]
      omega
  · rw [hc] at e
    rw [e]
    exact okL_yes hc1 (by rw [hL.1]; exact hlen0)
/-! what was installed -/
/-- the version of the key k that the transaction i installed at z -/
noncomputable def instV (C : List (List Ver)) (i z : Int) (k : Nat) : Option Ver := if hasV C ⟨k, z⟩ = true ∧ (verOf C ⟨k, z⟩).a = i then some (verOf C ⟨k, z⟩) else none
noncomputable def instK (C : List (List Ver)) (i z : Int) (n : Nat) : List Ver := (List.range n).filterMap (instV C i z)
/-- the commit stamp of a transaction, 0 without one -/
noncomputable def cstI (x : Hd) (R S : List E2) : Int := if txB x R S = true ∧ x.t = 2 then x.c else 0
noncomputable def instB (C : List (List Ver)) (x : Hd) (R S : List E2) : Bool := decide (cstI x R S ≠ 0) && stB C
noncomputable def instL (C : List (List Ver)) (x : Hd) (R S : List E2) : List Ver := if instB C x R S = true then instK C x.i (cstI x R S) 6 else []
theorem cst_yes {x : Hd} {R S : List E2} (h1 : txB x R S = true) (h2 : x.t = 2) : cstI x R S = x.c := if_pos ⟨h1, h2⟩
theorem cst_tx {x : Hd} {R S : List E2} (h1 : txB x R S = false) : cstI x R S = 0 := if_neg (by rw [h1]; simp)
theorem cst_t {x : Hd} {R S : List E2} (h2 : ¬ x.t = 2) : cstI x R S = 0 := if_neg fun h => h2 h.2
theorem cst_range (x : Hd) (R S : List E2) : 0 ≤ cstI x R S ∧ cstI x R S ≤ 999 := by
  unfold cstI
  split
  · rename_i h
    obtain ⟨h1, h2⟩ := h
    simp only [txB, hdB, Bool.and_eq_true] at h1
    have := of_decide_eq_true h1.1.1.2
    unfold cmP at this
    omega
  · omega
theorem instK_step (C : List (List Ver)) (i z : Int) (n : Nat) : instK C i z (n + 1) = instK C i z n ++ (instV C i z n).toList := by
  unfold instK
  rw [List.range_succ, List.filterMap_append]
  cases h : instV C i z n <;> simp [h]
theorem instV_no {C : List (List Ver)} {i z : Int} {k : Nat} (h : hasV C ⟨k, z⟩ = false) : instV C i z k = none := if_neg (by rw [h]; simp)
theorem instV_ne {C : List (List Ver)} {i z : Int} {k : Nat} (h : (verOf C ⟨k, z⟩).a ≠ i) : instV C i z k = none := if_neg fun e => h e.2
theorem instV_yes {C : List (List Ver)} {i z : Int} {k : Nat} {v : Ver} (h : hasV C ⟨k, z⟩ = true) (hv : verOf C ⟨k, z⟩ = v) (ha : v.a = i) : instV C i z k = some v := by
  unfold instV
  rw [hv, if_pos ⟨h, ha⟩]
theorem fnd_last {l : List Ver} {v : Ver} (hl : ∀ u ∈ l, u.c ≠ v.c) : fndI v.c (l ++ [v]) 0 = (l.length : Int) := by
  have hu := fnd_upto (l := l ++ [v]) (c := v.c) l.length (by simp) (fun j x hj hx => by
    rw [List.getElem?_append_left hj] at hx
    exact hl x (List.mem_of_getElem? hx))
  exact (fnd_hit hu (by rw [List.getElem?_append_right (Nat.le_refl _)]; simp) rfl).symm
theorem fnd_non {l : List Ver} {c : Int} (hl : ∀ u ∈ l, u.c ≠ c) : fndI c l 0 = -1 :=
  (fnd_none (fnd_upto l.length (Nat.le_refl _) (fun j x _ hx => hl x (List.mem_of_getElem? hx))) (Nat.le_refl _)).symm
theorem atJ_mem {f : Ver → Ver} {l : List Ver} {j : Nat} {u : Ver} (h : u ∈ atJ f l j) : ∃ v ∈ l, u = v ∨ u = f v := by
  obtain ⟨k, hk, rfl⟩ := List.getElem_of_mem h
  obtain ⟨v, hv, e⟩ := atJ_get (List.getElem?_eq_getElem hk)
  refine ⟨v, List.mem_of_getElem? hv, ?_⟩
  split at e
  · exact .inr e
  · exact .inl e
theorem inst_at (o : Ok9 C R S i z h) (k : Nat) (hk : k < 6) : instV (insC C i z h R S) i z k = ((S.find? fun m => decide (m.a = (k : Int))).map (nwV i z)) := by
  have k0 : (0 : Int) ≤ (k : Int) := by omega
  have k5 : (k : Int) ≤ 5 := by omega
  obtain ⟨l1, hL, hw⟩ := ins_key o k0 k5
  have hold := old_lt o k0 k5 hL
  rcases hw with ⟨m, hm, hmk, e⟩ | ⟨hno, e⟩
  · have hf : S.find? (fun m => decide (m.a = (k : Int))) = some m := by
      rcases hff : S.find? (fun m => decide (m.a = (k : Int))) with _ | m'
      · have := List.find?_eq_none.1 hff m hm
        simp [hmk] at this
      · have hm' := List.mem_of_find?_eq_some hff
        have he := List.find?_some hff
        simp only [decide_eq_true_eq] at he
        obtain ⟨j, hj, rfl⟩ := List.getElem_of_mem hm
        obtain ⟨j', hj', rfl⟩ := List.getElem_of_mem hm'
        rcases Nat.lt_trichotomy j j' with h1 | h1 | h1
        · have := wr_ne o.asc (List.getElem?_eq_getElem hj) (List.getElem?_eq_getElem hj') h1
          omega
        · subst h1; exact hff
        · have := wr_ne o.asc (List.getElem?_eq_getElem hj') (List.getElem?_eq_getElem hj) h1
          omega
    rw [hf]
    have hfn : fndI z (wrL h (nwV i z m) l1) 0 = ((atJ (suV h) l1 (l1.length - 1)).length : Int) := by
      refine fnd_last (v := nwV i z m) fun u hu => ?_
      obtain ⟨v, hv, e2⟩ := atJ_mem hu
      have := hold v hv
      have h3 : u.c = v.c := by rcases e2 with rfl | rfl <;> rfl
      show u.c ≠ z
      omega
    have hh : hasV (insC C i z h R S) ⟨(k : Int), z⟩ = true := by
      unfold hasV
      rw [e, hfn]
      exact decide_eq_true (by omega)
    refine instV_yes hh ?_ rfl
    unfold verOf
    rw [e, hfn]
    unfold wrL
    rw [Int.toNat_natCast]
    unfold List.getD
    rw [List.getElem?_append_right (Nat.le_refl _)]
    simp
  · have hf : S.find? (fun m => decide (m.a = (k : Int))) = none := by
      rw [List.find?_eq_none]
      intro m hm
      simp [hno m hm]
    rw [hf]
    refine instV_no ?_
    unfold hasV
    rw [e, fnd_non fun u hu => by have := hold u hu; show u.c ≠ z; omega]
    rfl
theorem find_split : ∀ {S : List E2} (n : Int), List.Pairwise (fun a b : E2 => a.a < b.a) S → S.filter (fun m => decide (m.a < n + 1)) = S.filter (fun m => decide (m.a < n)) ++ (S.find? fun m => decide (m.a = n)).toList
  | [], n, _ => rfl
  | m :: r, n, hp => by
    rw [List.pairwise_cons] at hp
    have ih := find_split n hp.2
    rcases Int.lt_trichotomy m.a n with h1 | h1 | h1
    · rw [List.filter_cons, if_pos (by simp; omega), List.filter_cons, if_pos (by simp; omega), List.find?_cons_of_neg (by simp; omega), ih]
      rfl
    · have he : ∀ n', n' ≤ m.a + 1 → r.filter (fun m => decide (m.a < n')) = [] := fun n' hn' => by
        rw [List.filter_eq_nil_iff]
        intro q hq
        have := hp.1 q hq
        simp
        omega
      rw [List.filter_cons, if_pos (by simp; omega), List.filter_cons, if_neg (by simp; omega), List.find?_cons_of_pos (by simp; omega), he _ (by omega), he _ (by omega)]
      rfl
    · have he : ∀ n', n' ≤ m.a → r.filter (fun m => decide (m.a < n')) = [] := fun n' hn' => by
        rw [List.filter_eq_nil_iff]
        intro q hq
        have := hp.1 q hq
        simp
        omega
      have hfn : r.find? (fun m => decide (m.a = n)) = none := by
        rw [List.find?_eq_none]
        intro q hq
        have := hp.1 q hq
        simp
        omega
      rw [List.filter_cons, if_neg (by simp; omega), List.filter_cons, if_neg (by simp; omega), List.find?_cons_of_neg (by simp; omega), he _ (by omega), he _ (by omega), hfn]
      rfl
theorem wr_pair (h : wrB S = true) : List.Pairwise (fun a b : E2 => a.a < b.a) S := by
  rw [List.pairwise_iff_getElem]
  intro i j hi hj hij
  exact wr_ne h (List.getElem?_eq_getElem hi) (List.getElem?_eq_getElem hj) hij
theorem inst_k (o : Ok9 C R S i z h) : ∀ n, n ≤ 6 → instK (insC C i z h R S) i z n = (S.filter (fun m => decide (m.a < (n : Int)))).map (nwV i z)
  | 0, _ => by
    have : S.filter (fun m => decide (m.a < ((0 : Nat) : Int))) = [] := by
      rw [List.filter_eq_nil_iff]
      intro m hm
      obtain ⟨j, hj, rfl⟩ := List.getElem_of_mem hm
      have := wr_key o.asc (List.getElem?_eq_getElem hj)
      simp
      omega
    rw [this]
    rfl
  | n + 1, hn => by
    rw [instK_step, inst_k o n (by omega), inst_at o n (by omega), Int.natCast_add, Int.natCast_one, find_split _ (wr_pair o.asc), List.map_append]
    congr 1
    cases S.find? _ <;> rfl
/-- one version for each write -/
theorem inst_all (o : Ok9 C R S i z h) : instK (insC C i z h R S) i z 6 = S.map (nwV i z) := by
  rw [inst_k o 6 (Nat.le_refl _)]
  congr 1
  rw [List.filter_eq_self]
  intro m hm
  obtain ⟨j, hj, rfl⟩ := List.getElem_of_mem hm
  have := wr_key o.asc (List.getElem?_eq_getElem hj)
  simp
  omega
theorem inst_cm {x : Hd} (hc : Go.Proofs.Ytigbknmiidhblaa.ct.cmB C x R S z = true) : instL (cmC C x R S z) (cmX C x R S z) R S = S.map (nwV x.i z) ∧ cstI (cmX C x R S z) R S = z ∧ stB (cmC C x R S z) = true := by
  obtain ⟨ok, hf, htx, ht, hl⟩ := cm_ok hc
  obtain ⟨t1, t2, t3, t4, t5⟩ := cm_tx hc
  have e : cmC C x R S z = insC C x.i z (fwH C x R S z) R S := if_pos hc
  have hcs : cstI (cmX C x R S z) R S = z := by rw [cst_yes t1 t2, t4]
  have hst : stB (cmC C x R S z) = true := by rw [e]; exact ins_st ok
  have hb : instB (cmC C x R S z) (cmX C x R S z) R S = true := by
    unfold instB
    rw [hcs, hst, decide_eq_true (show z ≠ 0 by omega)]
    rfl
  refine ⟨?_, hcs, hst⟩
  unfold instL
  rw [if_pos hb, t3, hcs, e]
  exact inst_all ok
/-! counts -/
theorem sum_set : ∀ (l : List Nat) (k : Nat) (x : Nat), k < l.length → (l.set k x).sum + l.getD k 0 = l.sum + x
  | [], k, x, h => by simp at h
  | a :: r, 0, x, h => by simp [List.getD]; omega
  | a :: r, k + 1, x, h => by
    have := sum_set r k x (by simpa using h)
    simp only [List.getD] at this
    simp only [List.set_cons_succ, List.sum_cons, List.getD, List.getElem?_cons_succ]
    omega
theorem cnt_onK {f : List Ver → List Ver} {k : Int} (hk : k.toNat < C.length) : cnt (onK f C k) + (chOf C k).length = cnt C + (f (chOf C k)).length := by
  unfold cnt onK
  rw [List.map_set]
  have := sum_set (C.map List.length) k.toNat (f (chOf C k)).length (by simpa using hk)
  rw [← this]
  congr 1
  simp [chOf, List.getD, List.getElem?_map]
  cases C[k.toNat]? <;> rfl
theorem cnt_rd (h6 : C.length = 6) (hR : ∀ m ∈ R, 0 ≤ m.a ∧ m.a ≤ 5) : ∀ n, n ≤ R.length → (rdK z C R n).length = 6 ∧ cnt (rdK z C R n) = cnt C
  | 0, _ => ⟨h6, rfl⟩
  | n + 1, hn => by
    obtain ⟨h1, h2⟩ := cnt_rd h6 hR n (by omega)
    have hx : R[n]? = some R[n] := List.getElem?_eq_getElem (by omega)
    obtain ⟨m0, m5⟩ := hR _ (List.getElem_mem (show n < R.length by omega))
    rw [rdK_step hx]
    unfold rdC
    refine ⟨by rw [onK_len]; exact h1, ?_⟩
    have := cnt_onK (f := rdL z R[n].b) (C := rdK z C R n) (k := R[n].a) (by omega)
    have e1 : ∀ l, (rdL z R[n].b l).length = l.length := fun l => atJ_len _ _ _
    rw [e1] at this
    omega
theorem cnt_wr {C1 : List (List Ver)} (h6 : C1.length = 6) (hS : wrB S = true) : ∀ n, n ≤ S.length → (wrK i z h C1 S n).length = 6 ∧ cnt (wrK i z h C1 S n) = cnt C1 + n
  | 0, _ => ⟨h6, rfl⟩
  | n + 1, hn => by
    obtain ⟨h1, h2⟩ := cnt_wr h6 hS n (by omega)
    have hx : S[n]? = some S[n] := List.getElem?_eq_getElem (by omega)
    obtain ⟨m0, m5, _⟩ := wr_key hS hx
    rw [wrK_step hx]
    unfold wrC
    refine ⟨by rw [onK_len]; exact h1, ?_⟩
    have := cnt_onK (f := wrL h (nwV i z S[n])) (C := wrK i z h C1 S n) (k := S[n].a) (by omega)
    have e1 : ∀ l, (wrL h (nwV i z S[n]) l).length = l.length + 1 := fun l => by simp [wrL, atJ_len]
    rw [e1] at this
    omega
theorem ins_cnt (o : Ok9 C R S i z h) : cnt (insC C i z h R S) = cnt C + S.length := by
  obtain ⟨r1, r2⟩ := cnt_rd (z := z) (st_six o.st) o.rk R.length (Nat.le_refl _)
  rw [← r2]
  exact (cnt_wr (i := i) (z := z) (h := h) r1 o.asc S.length (Nat.le_refl _)).2
/-! earlier states -/
/-- l' begins with versions of the creations and values of l -/
def Beg (l l' : List Ver) : Prop := ∀ k, k < l.length → (l'.getD k default).c = (l.getD k default).c ∧ (l'.getD k default).b = (l.getD k default).b
theorem beg_at {l l' : List Ver} {s : Int} (h : Beg l l') : ∀ n, n ≤ l.length → atI s l' n = atI s l n
  | 0, _ => rfl
  | n + 1, hn => by
    unfold atI
    rw [(h n (by omega)).1, beg_at h n (by omega)]
theorem like_beg {l l' : List Ver} (h : Like z l l') : Beg l l' := fun k hk => by
  have hk' : k < l'.length := by rw [h.1]; exact hk
  obtain ⟨_, b, c, _⟩ := h.2 k _ _ (List.getElem?_eq_getElem hk) (List.getElem?_eq_getElem hk')
  simp only [List.getD, List.getElem?_eq_getElem hk, List.getElem?_eq_getElem hk', Option.getD_some]
  exact ⟨c, b⟩
theorem wr_beg {l : List Ver} (v : Ver) (h : Int) : Beg l (wrL h v l) := fun k hk => by
  have h1 : (wrL h v l).getD k default = (atJ (suV h) l (l.length - 1)).getD k default := by
    unfold wrL
    simp only [List.getD]
    rw [List.getElem?_append_left (by rw [atJ_len]; exact hk)]
  have hk' : k < (atJ (suV h) l (l.length - 1)).length := by rw [atJ_len]; exact hk
  obtain ⟨u, hu, e⟩ := atJ_get (List.getElem?_eq_getElem hk')
  rw [h1]
  simp only [List.getD, List.getElem?_eq_getElem hk', hu, Option.getD_some]
  rw [e]
  split <;> exact ⟨rfl, rfl⟩
theorem Beg.trans {l l' l'' : List Ver} (h : Beg l l') (h2 : Beg l' l'') (hl : l'.length = l.length) : Beg l l'' := fun k hk =>
  ⟨(h2 k (by omega)).1.trans (h k hk).1, (h2 k (by omega)).2.trans (h k hk).2⟩
/-- an earlier stamp finds the same place with the same value -/
theorem ins_at (o : Ok9 C R S i z h) {s k : Int} (hs : s < z) (k0 : 0 ≤ k) (k5 : k ≤ 5) : vAt (chOf (insC C i z h R S) k) s = vAt (chOf C k) s ∧ ∀ j : Nat, j < (chOf C k).length → ((chOf (insC C i z h R S) k).getD j default).b = ((chOf C k).getD j default).b := by
  obtain ⟨l0, hl0, hch0, e0⟩ := chain_key o.st k0 k5
  obtain ⟨l1, hL, hw⟩ := ins_key o k0 k5
  have h6 := ins_len o
  have hst := ins_st o
  obtain ⟨l9, _, hch9, e9⟩ := chain_key hst k0 k5
  have hb : Beg (chOf C k) (chOf (insC C i z h R S) k) := by
    rcases hw with ⟨m, hm, hk, e⟩ | ⟨_, e⟩
    · rw [e]; exact (like_beg hL).trans (wr_beg _ _) hL.1
    · rw [e]; exact like_beg hL
  refine ⟨?_, fun j hj => (hb j hj).2⟩
  have q0 : chB (chOf C k) = true := by rw [e0]; exact hch0
  have q9 : chB (chOf (insC C i z h R S) k) = true := by rw [e9]; exact hch9
  rw [vAt, if_pos q9, vAt, if_pos q0, ← beg_at hb _ (Nat.le_refl _)]
  rcases hw with ⟨m, hm, hk, e⟩ | ⟨_, e⟩
  · have hlen : (chOf (insC C i z h R S) k).length = (chOf C k).length + 1 := by
      rw [e]
      simp only [wrL, List.length_append, atJ_len, List.length_cons, List.length_nil, hL.1]
    rw [hlen]
    have hlast : (chOf (insC C i z h R S) k)[(chOf C k).length]? = some (nwV i z m) := by
      rw [e]
      unfold wrL
      rw [List.getElem?_append_right (by rw [atJ_len, hL.1]; exact Nat.le_refl _), atJ_len, hL.1]
      simp
    exact Go.Proofs.Ytigbknmiidhblaa.find.at_miss hlast (by show ¬ z ≤ s; omega)
  · have hlen : (chOf (insC C i z h R S) k).length = (chOf C k).length := by rw [e]; exact hL.1
    rw [hlen]
theorem ins_ra (o : Ok9 C R S i z h) {s k : Int} (hs : s < z) (k0 : 0 ≤ k) (k5 : k ≤ 5) : raB (insC C i z h R S) k s = raB C k s ∧ (raV (insC C i z h R S) k s).b = (raV C k s).b := by
  obtain ⟨h1, h2⟩ := ins_at o hs k0 k5
  have hb : raB (insC C i z h R S) k s = raB C k s := by
    unfold raB rlB
    rw [ins_st o, o.st]
    show (_ && decide (0 ≤ vAt (chOf (insC C i z h R S) k) s)) = (_ && decide (0 ≤ vAt (chOf C k) s))
    rw [h1]
  refine ⟨hb, ?_⟩
  unfold raV
  rw [hb]
  split
  · rename_i hra
    show ((chOf (insC C i z h R S) k).getD (vAt (chOf (insC C i z h R S) k) s).toNat default).b = ((chOf C k).getD (vAt (chOf C k) s).toNat default).b
    rw [h1]
    refine h2 _ ?_
    obtain ⟨l0, hl0, hch0, e0⟩ := chain_key o.st k0 k5
    have hr := Go.Proofs.Ytigbknmiidhblaa.rd.vAt_range s (l := chOf C k) (by rw [e0]; exact hch0)
    simp only [raB, Bool.and_eq_true, decide_eq_true_eq] at hra
    have := hra.2
    have h3 : 0 ≤ vAt (chOf C k) s := this
    omega
  · rfl
theorem ins_sa (o : Ok9 C R S i z h) : saL (insC C i z h R S) (z - 1) = saL C (z - 1) := by
  have hs : z - 1 < z := by omega
  have e : saV (insC C i z h R S) (z - 1) 6 = saV C (z - 1) 6 := by
    unfold saV
    refine List.map_congr_left fun k hk => ?_
    rw [List.mem_range] at hk
    exact (ins_ra o hs (by omega) (by omega)).2
  by_cases h1 : RdOk C (z - 1) 6
  · have h2 : RdOk (insC C i z h R S) (z - 1) 6 := fun k hk => by rw [(ins_ra o hs (by omega) (by omega)).1]; exact h1 k hk
    rw [saL_yes h1, saL_yes h2, e]
  · have h2 : ¬ RdOk (insC C i z h R S) (z - 1) 6 := fun hh => h1 fun k hk => by rw [← (ins_ra o hs (by omega) (by omega)).1]; exact hh k hk
    rw [saL_not h1, saL_not h2]
end
end Go.Proofs.Ytigbknmiidhblaa.cq
