/- Lists of transactions that a call made: owned (OwL), marked up to an element (ML); plain. -/
import Derived.Test.YtjnlbhmddhpmaaaGreatTs
namespace Go.Proofs.YtjnlbhmddhpmaaaGreat.tl
open Go.ChangeShapes Go.WideShapes Go.ChangeAt Go.RowKit
open Go.Proofs.YtjnlbhmddhpmaaaGreat.el2 Go.Proofs.YtjnlbhmddhpmaaaGreat.fr Go.Proofs.YtjnlbhmddhpmaaaGreat.ow2 Go.Proofs.YtjnlbhmddhpmaaaGreat.tx Go.Proofs.YtjnlbhmddhpmaaaGreat.tm Go.Proofs.YtjnlbhmddhpmaaaGreat.ts
open Go.Proofs.YtjnlbhmddhpmaaaGreat.mkr (Tr)
set_option linter.unusedVariables false
set_option linter.unusedSimpArgs false
set_option linter.constructorNameAsVariable false
/-- rows of different elements lie in different blocks -/
def Dis (L : List Tr) (len : Tr → Nat) (P : Nat → Option Addr) : Prop := ∀ i k t u g, i ≠ k → L[i]? = some t → L[k]? = some u → 0 < len t → 0 < len u → P i = some ⟨g, 0, none⟩ → P k ≠ some ⟨g, 0, none⟩
/-- the slice is a row of its own that reads as L -/
def OwL (w : World) (lo hi : Nat) (A : Option Addr) (n : Nat) (L : List Tr) : Prop :=
  L.length = n ∧ (0 < n → ∃ (g M : Nat) (f : Nat → Value) (P Q : Nat → Option Addr) (c d : Nat → Nat), A = some ⟨g, 0, none⟩ ∧ lo ≤ g ∧ g < hi ∧ w.rowIs g 55 M f ∧ n * 9 ≤ M ∧
    (∀ k t, L[k]? = some t → (∀ j, j < 9 → f (k * 9 + j) = xf t.x (.slice (P k) t.R.length (c k)) (.slice (Q k) t.S.length (d k)) j) ∧ OwS 83 w lo hi (P k) t.R.length t.R ∧ OwS 86 w lo hi (Q k) t.S.length t.S) ∧
    Dis L (fun t => t.R.length) P ∧ Dis L (fun t => t.S.length) Q)
/-- the first mark of element i -/
def elk (k0 : Int) (L : List Tr) (i : Nat) : Int := k0 + ((i * 7 + cntT (L.take i) * 2 : Nat) : Int)
/-- seven numbers from z on -/
def mh (z : Int) : Hd := ⟨z, z + 1, z + 2, z + 3, z + 4, z + 5, z + 6⟩
/-- the first j elements bear their marks, the others are as they were -/
def ML (w : World) (lo hi : Nat) (A : Option Addr) (n : Nat) (L : List Tr) (k0 : Int) (j : Nat) : Prop :=
  L.length = n ∧ (0 < n → ∃ (g M : Nat) (f : Nat → Value) (hd : Nat → Hd) (P Q : Nat → Option Addr) (c d : Nat → Nat), A = some ⟨g, 0, none⟩ ∧ lo ≤ g ∧ g < hi ∧ w.rowIs g 55 M f ∧ n * 9 ≤ M ∧
    (∀ k t, L[k]? = some t → (∀ i, i < 9 → f (k * 9 + i) = xf (hd k) (.slice (P k) t.R.length (c k)) (.slice (Q k) t.S.length (d k)) i) ∧
      (k < j → hd k = mh (elk k0 L k) ∧ MkS 83 w lo hi (P k) t.R.length (elk k0 L k + 7) ∧ MkS 86 w lo hi (Q k) t.S.length (elk k0 L k + 7 + ((t.R.length * 2 : Nat) : Int))) ∧
      (j ≤ k → OwS 83 w lo hi (P k) t.R.length t.R ∧ OwS 86 w lo hi (Q k) t.S.length t.S)) ∧
    Dis L (fun t => t.R.length) P ∧ Dis L (fun t => t.S.length) Q)
theorem elk_step {k0 : Int} {L : List Tr} {j : Nat} {t : Tr} (h : L[j]? = some t) : elk k0 L (j + 1) = elk k0 L j + 7 + ((t.R.length * 2 : Nat) : Int) + ((t.S.length * 2 : Nat) : Int) := by
  unfold elk
  have := cnt_take h
  omega
theorem elk_0 (k0 : Int) (L : List Tr) : elk k0 L 0 = k0 := by simp [elk, cntT]
section
variable {w w' : World} {lo hi a b n j : Nat} {A : Option Addr} {L : List Tr} {k0 : Int}
theorem OwL.nil_ (w : World) (lo hi : Nat) (A : Option Addr) : OwL w lo hi A 0 [] := ⟨rfl, fun h => absurd h (by omega)⟩
theorem OwL.wide {lo' hi' : Nat} (h : OwL w lo hi A n L) (h1 : lo' ≤ lo) (h2 : hi ≤ hi') : OwL w lo' hi' A n L := ⟨h.1, fun hn => by
  obtain ⟨g, M, f, P, Q, c, d, e, h3, h4, hr, hM, hx, d1, d2⟩ := h.2 hn
  exact ⟨g, M, f, P, Q, c, d, e, by omega, by omega, hr, hM, fun k t hk => ⟨(hx k t hk).1, (hx k t hk).2.1.wide h1 h2, (hx k t hk).2.2.wide h1 h2⟩, d1, d2⟩⟩
theorem OwL.fr (h : OwL w lo hi A n L) (hf : FR a b w w') (hd : hi ≤ a ∨ b ≤ lo) (hs : hi ≤ w.heap.size) : OwL w' lo hi A n L := ⟨h.1, fun hn => by
  obtain ⟨g, M, f, P, Q, c, d, e, h3, h4, hr, hM, hx, d1, d2⟩ := h.2 hn
  exact ⟨g, M, f, P, Q, c, d, e, h3, h4, hr.of_block (hf.block _ (by omega) (by omega)), hM, fun k t hk => ⟨(hx k t hk).1, (hx k t hk).2.1.fr hf hd hs, (hx k t hk).2.2.fr hf hd hs⟩, d1, d2⟩⟩
theorem ML.fr (h : ML w lo hi A n L k0 j) (hf : FR a b w w') (hd : hi ≤ a ∨ b ≤ lo) (hs : hi ≤ w.heap.size) : ML w' lo hi A n L k0 j := ⟨h.1, fun hn => by
  obtain ⟨g, M, f, hh, P, Q, c, d, e, h3, h4, hr, hM, hx, d1, d2⟩ := h.2 hn
  exact ⟨g, M, f, hh, P, Q, c, d, e, h3, h4, hr.of_block (hf.block _ (by omega) (by omega)), hM, fun k t hk => ⟨(hx k t hk).1, fun hj => ⟨((hx k t hk).2.1 hj).1, ((hx k t hk).2.1 hj).2.1.fr hf hd hs, ((hx k t hk).2.1 hj).2.2.fr hf hd hs⟩, fun hj => ⟨((hx k t hk).2.2 hj).1.fr hf hd hs, ((hx k t hk).2.2 hj).2.fr hf hd hs⟩⟩, d1, d2⟩⟩
theorem ML.of_own (h : OwL w lo hi A n L) (k0 : Int) : ML w lo hi A n L k0 0 := ⟨h.1, fun hn => by
  obtain ⟨g, M, f, P, Q, c, d, e, h3, h4, hr, hM, hx, d1, d2⟩ := h.2 hn
  exact ⟨g, M, f, fun k => (L.getD k ⟨⟨0, 0, 0, 0, 0, 0, 0⟩, [], []⟩).x, P, Q, c, d, e, h3, h4, hr, hM, fun k t hk => ⟨fun i hi => by rw [(hx k t hk).1 i hi]; simp [List.getD, hk], fun hj => absurd hj (by omega), fun _ => (hx k t hk).2⟩, d1, d2⟩⟩
/-- what a copy made is owned -/
theorem OwL.of_rt {N : Nat} (h : RT w N n L n) (hl : L.length = n) (h1 : lo ≤ N) (h2 : w.heap.size ≤ hi) : OwL w lo hi (some ⟨N, 0, none⟩) n L := ⟨hl, fun hn => by
  have hN := h.lt
  obtain ⟨f, lw, hf, hz, h0, hm, hs, hr⟩ := h
  have hex : ∀ i : Nat, ∃ gg : Nat × Nat, ∀ t, i < n → L[i]? = some t → (∀ j, j < 9 → f (i * 9 + j) = xf t.x (.slice (some ⟨gg.1, 0, none⟩) t.R.length t.R.length) (.slice (some ⟨gg.2, 0, none⟩) t.S.length t.S.length) j) ∧ OwT w (lw i) (lw (i + 1)) (some ⟨gg.1, 0, none⟩) t.R.length t.R (some ⟨gg.2, 0, none⟩) t.S.length t.S := fun i => by
    by_cases hi : i < n
    · obtain ⟨g, g2, q1, q2⟩ := hr i L[i] hi (List.getElem?_eq_getElem (by omega))
      refine ⟨(g, g2), fun t _ ht => ?_⟩
      rw [List.getElem?_eq_getElem (by omega)] at ht
      injection ht with ht
      subst ht
      exact ⟨q1, q2⟩
    · exact ⟨(0, 0), fun t h => absurd h hi⟩
  have hlo : ∀ i, i ≤ n → lw 0 ≤ lw i := fun i hi => lo_le hm (by omega) hi
  have hhi : ∀ i, i < n → lw (i + 1) ≤ w.heap.size := fun i hi => Nat.le_trans (lo_le hm (by omega) (Nat.le_refl _)) hs
  have hin : ∀ i t, L[i]? = some t → i < n := fun i t ht => by have := ts.lt_get ht; omega
  have hd : ∀ (e : TypeId) (A1 A2 : Option Addr) (l1 l2 : List E2) (n1 n2 i k g : Nat), i ≠ k → i < n → k < n → 0 < n1 → 0 < n2 → OwS e w (lw i) (lw (i + 1)) A1 n1 l1 → OwS e w (lw k) (lw (k + 1)) A2 n2 l2 → A1 = some ⟨g, 0, none⟩ → A2 ≠ some ⟨g, 0, none⟩ := by
    intro e A1 A2 l1 l2 n1 n2 i k g hne hi hk p1 p2 o1 o2 e1 e2
    obtain ⟨g1, _, _, f1, a1, b1, _⟩ := o1.2 p1
    obtain ⟨g2, _, _, f2, a2, b2, _⟩ := o2.2 p2
    rw [e1] at f1
    rw [e2] at f2
    injection f1 with f1
    injection f1 with f1
    injection f2 with f2
    injection f2 with f2
    subst f1 f2
    rcases Nat.lt_or_gt_of_ne hne with q | q
    · have := lo_le hm (show i + 1 ≤ k by omega) (by omega); omega
    · have := lo_le hm (show k + 1 ≤ i by omega) (by omega); omega
  refine ⟨N, n * 9, f, fun i => some ⟨(hex i).choose.1, 0, none⟩, fun i => some ⟨(hex i).choose.2, 0, none⟩, fun i => (L.getD i ⟨⟨0, 0, 0, 0, 0, 0, 0⟩, [], []⟩).R.length, fun i => (L.getD i ⟨⟨0, 0, 0, 0, 0, 0, 0⟩, [], []⟩).S.length, rfl, h1, by omega, hf, Nat.le_refl _, fun k t hk => ?_, ?_, ?_⟩
  · have hkn := hin k t hk
    have hq := (hex k).choose_spec t hkn hk
    have hg : L.getD k ⟨⟨0, 0, 0, 0, 0, 0, 0⟩, [], []⟩ = t := by simp [List.getD, hk]
    refine ⟨fun i hi9 => ?_, hq.2.1.wide ?_ ?_, hq.2.2.wide ?_ ?_⟩
    · show _ = xf t.x (.slice _ _ (L.getD k _).R.length) (.slice _ _ (L.getD k _).S.length) i
      rw [hg]
      exact hq.1 i hi9
    all_goals first | (have := hlo k (by omega); omega) | (have := hhi k hkn; omega)
  · intro i k t u g hne hi hk p1 p2 e1
    exact hd _ _ _ _ _ _ _ i k g hne (hin i t hi) (hin k u hk) p1 p2 ((hex i).choose_spec t (hin i t hi) hi).2.1 ((hex k).choose_spec u (hin k u hk) hk).2.1 e1
  · intro i k t u g hne hi hk p1 p2 e1
    exact hd _ _ _ _ _ _ _ i k g hne (hin i t hi) (hin k u hk) p1 p2 ((hex i).choose_spec t (hin i t hi) hi).2.2 ((hex k).choose_spec u (hin k u hk) hk).2.2 e1⟩
theorem OwL.ts (h : OwL w lo hi A n L) {M B : Nat} (hc : cntT L ≤ M) (hB : hi ≤ B) : Ts M w B A n L := ⟨h.1, fun hn => by
  obtain ⟨g, M2, f, P, Q, c, d, e, h3, h4, hr, hM, hx, d1, d2⟩ := h.2 hn
  refine ⟨g, 0, e, by omega, fun k t hk => ?_⟩
  have hkn : k < n := by have := ts.lt_get hk; have := h.1; omega
  obtain ⟨q1, q2, q3⟩ := hx k t hk
  have hl := len_le hk
  have q : ∀ j, j < 9 → w.cell? ⟨g, 0 + k * 9 + j, none⟩ = some (xf t.x (.slice (P k) t.R.length (c k)) (.slice (Q k) t.S.length (d k)) j) := fun j hj => by
    rw [show 0 + k * 9 + j = k * 9 + j by omega, hr.cell (by omega), q1 j hj]
  exact ⟨_, _, _, _, _, _, ⟨q 0 (by omega), q 1 (by omega), q 2 (by omega), q 3 (by omega), q 4 (by omega), q 5 (by omega), q 6 (by omega), q 7 (by omega), q 8 (by omega)⟩, by omega, by omega, q2.vs hB, q3.vs hB⟩⟩
end
theorem put7_row {V : World} {g k M : Nat} {e : TypeId} {f : Nat → Value} (h : V.rowIs g e M f) (z : Int) : World.rowIs (World.setCell (World.setCell (World.setCell (World.setCell (World.setCell (World.setCell (World.setCell V ⟨g, k * 9, none⟩ (.int .i64 (z))) ⟨g, k * 9 + 1, none⟩ (.int .i64 (z + 1))) ⟨g, k * 9 + 2, none⟩ (.int .i64 (z + 2))) ⟨g, k * 9 + 3, none⟩ (.int .i64 (z + 3))) ⟨g, k * 9 + 4, none⟩ (.int .i64 (z + 4))) ⟨g, k * 9 + 5, none⟩ (.int .i64 (z + 5))) ⟨g, k * 9 + 6, none⟩ (.int .i64 (z + 6))) g e M (fun i => if k * 9 ≤ i ∧ i < k * 9 + 7 then .int .i64 (z + ((i - k * 9 : Nat) : Int)) else f i) :=
  (((((((h.set (k * 9) (.int .i64 (z))).set (k * 9 + 1) (.int .i64 (z + 1))).set (k * 9 + 2) (.int .i64 (z + 2))).set (k * 9 + 3) (.int .i64 (z + 3))).set (k * 9 + 4) (.int .i64 (z + 4))).set (k * 9 + 5) (.int .i64 (z + 5))).set (k * 9 + 6) (.int .i64 (z + 6))).congr (fun i hi => by
    by_cases hq : k * 9 ≤ i ∧ i < k * 9 + 7
    · rw [if_pos hq]
      obtain ⟨d, rfl⟩ : ∃ d, i = k * 9 + d := ⟨i - k * 9, by omega⟩
      have hd : d < 7 := by omega
      rw [show k * 9 + d - k * 9 = d by omega]
      have : d = 0 ∨ d = 1 ∨ d = 2 ∨ d = 3 ∨ d = 4 ∨ d = 5 ∨ d = 6 := by omega
      rcases this with rfl | rfl | rfl | rfl | rfl | rfl | rfl <;> simp
    · rw [if_neg hq]
      rw [if_neg (show ¬ i = k * 9 + 6 by omega)]; rw [if_neg (show ¬ i = k * 9 + 5 by omega)]; rw [if_neg (show ¬ i = k * 9 + 4 by omega)]; rw [if_neg (show ¬ i = k * 9 + 3 by omega)]; rw [if_neg (show ¬ i = k * 9 + 2 by omega)]; rw [if_neg (show ¬ i = k * 9 + 1 by omega)]; rw [if_neg (show ¬ i = k * 9 by omega)])
theorem put7_off (V : World) (g k : Nat) (z : Int) : Off g V (World.setCell (World.setCell (World.setCell (World.setCell (World.setCell (World.setCell (World.setCell V ⟨g, k * 9, none⟩ (.int .i64 (z))) ⟨g, k * 9 + 1, none⟩ (.int .i64 (z + 1))) ⟨g, k * 9 + 2, none⟩ (.int .i64 (z + 2))) ⟨g, k * 9 + 3, none⟩ (.int .i64 (z + 3))) ⟨g, k * 9 + 4, none⟩ (.int .i64 (z + 4))) ⟨g, k * 9 + 5, none⟩ (.int .i64 (z + 5))) ⟨g, k * 9 + 6, none⟩ (.int .i64 (z + 6))) :=
  (((((((Off.refl g V).setCell (p := ⟨g, k * 9, none⟩) rfl _).setCell (p := ⟨g, k * 9 + 1, none⟩) rfl _).setCell (p := ⟨g, k * 9 + 2, none⟩) rfl _).setCell (p := ⟨g, k * 9 + 3, none⟩) rfl _).setCell (p := ⟨g, k * 9 + 4, none⟩) rfl _).setCell (p := ⟨g, k * 9 + 5, none⟩) rfl _).setCell (p := ⟨g, k * 9 + 6, none⟩) rfl _
/-- element j, before it is marked -/
theorem ML.at_ {w : World} {lo hi n j : Nat} {A : Option Addr} {L : List Tr} {k0 : Int} (h : ML w lo hi A n L k0 j) (hj : j < n) : ∃ (g : Nat) (t : Tr) (x : Hd) (P Q : Option Addr) (c d : Nat), A = some ⟨g, 0, none⟩ ∧ lo ≤ g ∧ g < hi ∧ g < w.heap.size ∧ L[j]? = some t ∧ T9 w g (j * 9) x (.slice P t.R.length c) (.slice Q t.S.length d) ∧ (∀ i, w.frozen? ⟨g, i, none⟩ = false) ∧ OwS 83 w lo hi P t.R.length t.R ∧ OwS 86 w lo hi Q t.S.length t.S := by
  obtain ⟨g, M, f, hd, P, Q, c, d, e, h3, h4, hr, hM, hx, d1, d2⟩ := h.2 (by omega)
  have hl : j < L.length := by have := h.1; omega
  have ht := List.getElem?_eq_getElem hl
  obtain ⟨q1, _, q3⟩ := hx j L[j] ht
  obtain ⟨o1, o2⟩ := q3 (Nat.le_refl _)
  have q : ∀ i, i < 9 → w.cell? ⟨g, j * 9 + i, none⟩ = some (xf (hd j) (.slice (P j) L[j].R.length (c j)) (.slice (Q j) L[j].S.length (d j)) i) := fun i hi => by
    rw [hr.cell (by omega), q1 i hi]
  exact ⟨g, L[j], hd j, P j, Q j, c j, d j, e, h3, h4, hr.lt, ht, ⟨q 0 (by omega), q 1 (by omega), q 2 (by omega), q 3 (by omega), q 4 (by omega), q 5 (by omega), q 6 (by omega), q 7 (by omega), q 8 (by omega)⟩, fun i => hr.frozen i, o1, o2⟩
/-- element j, marked -/
theorem ML.at_m {w : World} {lo hi n j k : Nat} {A : Option Addr} {L : List Tr} {k0 : Int} (h : ML w lo hi A n L k0 j) (hk : k < n) (hkj : k < j) : ∃ (g : Nat) (t : Tr) (P Q : Option Addr) (c d : Nat), A = some ⟨g, 0, none⟩ ∧ L[k]? = some t ∧ T9 w g (k * 9) (mh (elk k0 L k)) (.slice P t.R.length c) (.slice Q t.S.length d) ∧ MkS 83 w lo hi P t.R.length (elk k0 L k + 7) ∧ MkS 86 w lo hi Q t.S.length (elk k0 L k + 7 + ((t.R.length * 2 : Nat) : Int)) := by
  obtain ⟨g, M, f, hd, P, Q, c, d, e, h3, h4, hr, hM, hx, d1, d2⟩ := h.2 (by omega)
  have hl : k < L.length := by have := h.1; omega
  have ht := List.getElem?_eq_getElem hl
  obtain ⟨q1, q2, _⟩ := hx k L[k] ht
  obtain ⟨e1, m1, m2⟩ := q2 hkj
  have q : ∀ i, i < 9 → w.cell? ⟨g, k * 9 + i, none⟩ = some (xf (mh (elk k0 L k)) (.slice (P k) L[k].R.length (c k)) (.slice (Q k) L[k].S.length (d k)) i) := fun i hi => by
    rw [hr.cell (by omega), q1 i hi, e1]
  exact ⟨g, L[k], P k, Q k, c k, d k, e, ht, ⟨q 0 (by omega), q 1 (by omega), q 2 (by omega), q 3 (by omega), q 4 (by omega), q 5 (by omega), q 6 (by omega), q 7 (by omega), q 8 (by omega)⟩, m1, m2⟩
theorem ows_of {e : TypeId} {w w' : World} {lo hi n : Nat} {A : Option Addr} {l : List E2} (h : OwS e w lo hi A n l) (hk : ∀ g, A = some ⟨g, 0, none⟩ → 0 < n → w'.heap[g]? = w.heap[g]?) : OwS e w' lo hi A n l := ⟨h.1, fun hn => by
  obtain ⟨g, M, f, e1, h1, h2, hr, hM⟩ := h.2 hn
  exact ⟨g, M, f, e1, h1, h2, hr.of_block (hk g e1 hn), hM⟩⟩
theorem mks_of {e : TypeId} {w w' : World} {lo hi n : Nat} {A : Option Addr} {k0 : Int} (h : MkS e w lo hi A n k0) (hk : ∀ g, A = some ⟨g, 0, none⟩ → 0 < n → w'.heap[g]? = w.heap[g]?) : MkS e w' lo hi A n k0 := fun hn => by
  obtain ⟨g, M, e1, h1, h2, hM, hm⟩ := h hn
  exact ⟨g, M, e1, h1, h2, hM, hm.of_block (hk g e1 hn)⟩
theorem ows_ne {e e' : TypeId} {w : World} {lo hi n g M : Nat} {A : Option Addr} {l : List E2} {f : Nat → Value} (h : OwS e w lo hi A n l) (hr : w.rowIs g e' M f) (ht : e ≠ e') {g' : Nat} (hA : A = some ⟨g', 0, none⟩) (hn : 0 < n) : g' ≠ g := by
  obtain ⟨g2, M2, f2, e1, _, _, hr2, _⟩ := h.2 hn
  rw [hA] at e1
  injection e1 with e1
  injection e1 with e1
  subst e1
  exact row_ne hr2 hr ht
theorem mks_row {e : TypeId} {w : World} {lo hi n : Nat} {A : Option Addr} {k0 : Int} (h : MkS e w lo hi A n k0) (hn : 0 < n) : ∃ g M f, A = some ⟨g, 0, none⟩ ∧ w.rowIs g e M f := by
  obtain ⟨g, M, e1, _, _, _, f, hf, _⟩ := h hn
  exact ⟨g, M, f, e1, hf⟩
theorem mks_ne {e e' : TypeId} {w : World} {lo hi n g M : Nat} {A : Option Addr} {k0 : Int} {f : Nat → Value} (h : MkS e w lo hi A n k0) (hr : w.rowIs g e' M f) (ht : e ≠ e') {g' : Nat} (hA : A = some ⟨g', 0, none⟩) (hn : 0 < n) : g' ≠ g := by
  obtain ⟨g2, M2, f2, e1, hr2⟩ := mks_row h hn
  rw [hA] at e1
  injection e1 with e1
  injection e1 with e1
  subst e1
  exact row_ne hr2 hr ht
theorem row_any {e : TypeId} {w : World} {lo hi n : Nat} {A : Option Addr} {l : List E2} (h : OwS e w lo hi A n l) (hn : 0 < n) : ∃ g M f, A = some ⟨g, 0, none⟩ ∧ w.rowIs g e M f := by
  obtain ⟨g, M, f, e1, _, _, hf, _⟩ := h.2 hn
  exact ⟨g, M, f, e1, hf⟩
set_option maxHeartbeats 1600000 in
/-- element j is marked: its seven numbers, its reads, its writes -/
theorem ML.step {w w2 w3 : World} {lo hi n j g c d : Nat} {L : List Tr} {k0 z : Int} {t : Tr} {P Q : Option Addr} (h : ML w lo hi (some ⟨g, 0, none⟩) n L k0 j) (hj : j < n) (ht : L[j]? = some t) (hz : z = elk k0 L j)
    (c7 : w.cell? ⟨g, j * 9 + 7, none⟩ = some (.slice P t.R.length c)) (c8 : w.cell? ⟨g, j * 9 + 8, none⟩ = some (.slice Q t.S.length d))
    (hm1 : MkS 83 w2 lo hi P t.R.length (z + 7)) (hk1 : ∀ k, (∀ g', P = some ⟨g', 0, none⟩ → 0 < t.R.length → k ≠ g') → w2.heap[k]? = (World.setCell (World.setCell (World.setCell (World.setCell (World.setCell (World.setCell (World.setCell w ⟨g, j * 9, none⟩ (.int .i64 (z))) ⟨g, j * 9 + 1, none⟩ (.int .i64 (z + 1))) ⟨g, j * 9 + 2, none⟩ (.int .i64 (z + 2))) ⟨g, j * 9 + 3, none⟩ (.int .i64 (z + 3))) ⟨g, j * 9 + 4, none⟩ (.int .i64 (z + 4))) ⟨g, j * 9 + 5, none⟩ (.int .i64 (z + 5))) ⟨g, j * 9 + 6, none⟩ (.int .i64 (z + 6))).heap[k]?)
    (hm2 : MkS 86 w3 lo hi Q t.S.length (z + 7 + ((t.R.length * 2 : Nat) : Int))) (hk2 : ∀ k, (∀ g', Q = some ⟨g', 0, none⟩ → 0 < t.S.length → k ≠ g') → w3.heap[k]? = w2.heap[k]?) :
    ML w3 lo hi (some ⟨g, 0, none⟩) n L k0 (j + 1) := ⟨h.1, fun hn => by
  obtain ⟨g9, M, f, hd, Pf, Qf, cf, df, e, h3, h4, hr, hM, hx, d1, d2⟩ := h.2 hn
  injection e with e
  injection e with e
  subst e
  have ho := put7_off w g j z
  have hrow := put7_row (k := j) hr z
  obtain ⟨W, hW⟩ : ∃ W, W = (World.setCell (World.setCell (World.setCell (World.setCell (World.setCell (World.setCell (World.setCell w ⟨g, j * 9, none⟩ (.int .i64 (z))) ⟨g, j * 9 + 1, none⟩ (.int .i64 (z + 1))) ⟨g, j * 9 + 2, none⟩ (.int .i64 (z + 2))) ⟨g, j * 9 + 3, none⟩ (.int .i64 (z + 3))) ⟨g, j * 9 + 4, none⟩ (.int .i64 (z + 4))) ⟨g, j * 9 + 5, none⟩ (.int .i64 (z + 5))) ⟨g, j * 9 + 6, none⟩ (.int .i64 (z + 6))) := ⟨_, rfl⟩
  rw [← hW] at ho hrow hk1
  clear hW
  obtain ⟨qj, _, oj⟩ := hx j t ht
  obtain ⟨o1, o2⟩ := oj (Nat.le_refl _)
  -- the slices of element j are P and Q
  have eP : Value.slice (Pf j) t.R.length (cf j) = .slice P t.R.length c := by
    have := hr.cell (show j * 9 + 7 < M by omega)
    rw [c7, qj 7 (by omega)] at this
    exact (Option.some.inj this).symm
  have eQ : Value.slice (Qf j) t.S.length (df j) = .slice Q t.S.length d := by
    have := hr.cell (show j * 9 + 8 < M by omega)
    rw [c8, qj 8 (by omega)] at this
    exact (Option.some.inj this).symm
  injection eP with eP _ eC
  injection eQ with eQ _ eD
  have tRT : 83 ≠ 55 := by decide
  have tWT : 86 ≠ 55 := by decide
  have tRW : 83 ≠ 86 := by decide
  have tWR : 86 ≠ 83 := by decide
  -- block g
  have g1 : w2.heap[g]? = W.heap[g]? := hk1 g fun g' e p => (ows_ne o1 hr tRT (by rw [eP]; exact e) p).symm
  have g2 : w3.heap[g]? = w2.heap[g]? := hk2 g fun g' e p => (ows_ne o2 hr tWT (by rw [eQ]; exact e) p).symm
  have hr3 := (hrow.of_block g1).of_block g2
  refine ⟨g, M, _, fun k => if k = j then mh z else hd k, Pf, Qf, cf, df, rfl, h3, h4, hr3, hM, fun k u hu => ?_, d1, d2⟩
  obtain ⟨q1, q2, q3⟩ := hx k u hu
  by_cases ek : k = j
  · subst ek
    rw [ht] at hu
    injection hu with hu
    subst hu
    refine ⟨fun i hi => ?_, fun _ => ?_, fun hh => absurd hh (by omega)⟩
    · show (if _ then _ else _) = xf (if k = k then mh z else hd k) _ _ i
      rw [if_pos rfl]
      by_cases h7 : i < 7
      · rw [if_pos (by omega), show k * 9 + i - k * 9 = i by omega]
        have : i = 0 ∨ i = 1 ∨ i = 2 ∨ i = 3 ∨ i = 4 ∨ i = 5 ∨ i = 6 := by omega
        rcases this with rfl | rfl | rfl | rfl | rfl | rfl | rfl <;> simp [xf, mh]
      · rw [if_neg (by omega), q1 i hi]
        have : i = 7 ∨ i = 8 := by omega
        rcases this with rfl | rfl <;> rfl
    · refine ⟨?_, ?_, ?_⟩
      · show (if k = k then mh z else hd k) = _
        rw [if_pos rfl, hz]
      · rw [← hz, eP]
        exact mks_of hm1 fun g' e p => hk2 g' fun g'' e' p' => by
          obtain ⟨ga, _, _, ea, ra⟩ := mks_row hm1 p
          rw [e] at ea
          injection ea with ea
          injection ea with ea
          subst ea
          have o2' := ows_of o2 (w' := w2) fun gq eq pq => by
            obtain ⟨gb, _, _, eb, rb⟩ := row_any o2 pq
            rw [eq] at eb
            injection eb with eb
            injection eb with eb
            subst eb
            rw [hk1 gq fun g5 e5 p5 => ?_, ho.block gq ?_]
            · exact row_ne rb hr tWT
            · exact (ows_ne o1 rb tRW (by rw [eP]; exact e5) p5).symm
          exact (ows_ne o2' ra tWR (by rw [eQ]; exact e') p').symm
      · rw [← hz, eQ]
        exact hm2
  · -- another element: its rows stay
    have keepR : ∀ g', Pf k = some ⟨g', 0, none⟩ → 0 < u.R.length → (∃ M f, w.rowIs g' 83 M f) → w3.heap[g']? = w.heap[g']? := fun g' e p ⟨_, _, rr⟩ => by
      rw [hk2 g' fun g5 e5 p5 => (ows_ne o2 rr tWR (by rw [eQ]; exact e5) p5).symm, hk1 g' fun g5 e5 p5 => ?_, ho.block g' (row_ne rr hr tRT)]
      rintro rfl
      exact d1 k j u t g' ek hu ht p p5 e (by rw [eP]; exact e5)
    have keepW : ∀ g', Qf k = some ⟨g', 0, none⟩ → 0 < u.S.length → (∃ M f, w.rowIs g' 86 M f) → w3.heap[g']? = w.heap[g']? := fun g' e p ⟨_, _, rr⟩ => by
      rw [hk2 g' fun g5 e5 p5 => ?_, hk1 g' fun g5 e5 p5 => (ows_ne o1 rr tRW (by rw [eP]; exact e5) p5).symm, ho.block g' (row_ne rr hr tWT)]
      rintro rfl
      exact d2 k j u t g' ek hu ht p p5 e (by rw [eQ]; exact e5)
    refine ⟨fun i hi => ?_, fun hh => ?_, fun hh => ?_⟩
    · show (if _ then _ else _) = xf (if k = j then mh z else hd k) _ _ i
      rw [if_neg ek, if_neg (by omega)]
      exact q1 i hi
    · obtain ⟨e1, m1, m2⟩ := q2 (by omega)
      refine ⟨?_, mks_of m1 fun g' e p => keepR g' e p ?_, mks_of m2 fun g' e p => keepW g' e p ?_⟩
      · show (if k = j then mh z else hd k) = _
        rw [if_neg ek, e1]
      · obtain ⟨ga, Ma, fa, ea, ra⟩ := mks_row m1 p
        rw [e] at ea
        injection ea with ea
        injection ea with ea
        subst ea
        exact ⟨Ma, fa, ra⟩
      · obtain ⟨ga, Ma, fa, ea, ra⟩ := mks_row m2 p
        rw [e] at ea
        injection ea with ea
        injection ea with ea
        subst ea
        exact ⟨Ma, fa, ra⟩
    · obtain ⟨m1, m2⟩ := q3 (by omega)
      refine ⟨ows_of m1 fun g' e p => keepR g' e p ?_, ows_of m2 fun g' e p => keepW g' e p ?_⟩
      · obtain ⟨ga, Ma, fa, ea, ra⟩ := row_any m1 p
        rw [e] at ea
        injection ea with ea
        injection ea with ea
        subst ea
        exact ⟨Ma, fa, ra⟩
      · obtain ⟨ga, Ma, fa, ea, ra⟩ := row_any m2 p
        rw [e] at ea
        injection ea with ea
        injection ea with ea
        subst ea
        exact ⟨Ma, fa, ra⟩⟩
end Go.Proofs.YtjnlbhmddhpmaaaGreat.tl
