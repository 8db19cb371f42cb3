/- An engine's four lists: read (ER), owned (EO), marked (EM); what a frame keeps of them. Plain. -/
import Derived.Test.YtjnlbhmddhpmaaaGreatTlm
import Derived.Test.YtjnlbhmddhpmaaaGreatMo
import Derived.Test.YtjnlbhmddhpmaaaGreatRLock
import Derived.Test.YtjnlbhmddhpmaaaGreatRWait
namespace Go.Proofs.YtjnlbhmddhpmaaaGreat.ego
open Go.ChangeShapes Go.WideShapes Go.ChangeAt Go.RowKit
open Go.Proofs.YtjnlbhmddhpmaaaGreat.el2 Go.Proofs.YtjnlbhmddhpmaaaGreat.fr Go.Proofs.YtjnlbhmddhpmaaaGreat.ow2 Go.Proofs.YtjnlbhmddhpmaaaGreat.tx Go.Proofs.YtjnlbhmddhpmaaaGreat.tm Go.Proofs.YtjnlbhmddhpmaaaGreat.ts Go.Proofs.YtjnlbhmddhpmaaaGreat.tl Go.Proofs.YtjnlbhmddhpmaaaGreat.tlm
open Go.Proofs.YtjnlbhmddhpmaaaGreat.mkr (Tr)
open Go.Proofs.YtjnlbhmddhpmaaaGreat.sl (Ver)
open Go.Proofs.YtjnlbhmddhpmaaaGreat.st (Rs RR cnt)
open Go.Proofs.YtjnlbhmddhpmaaaGreat.mo (MO Off9)
open Go.Proofs.YtjnlbhmddhpmaaaGreat.mv (OvS MvS)
open Go.Proofs.YtjnlbhmddhpmaaaGreat.os (OS)
set_option linter.unusedVariables false
set_option linter.unusedSimpArgs false
/-! a store -/
def SO (w : World) (lo hi : Nat) (A : Option Addr) (n : Nat) (C : List (List Ver)) : Prop :=
  C.length = n ∧ (0 < n → ∃ g F D, A = some ⟨g, 0, none⟩ ∧ MO w lo hi g n F D C 0 0 ∧ (∃ cur, w.heap[g]? = some (Obj.cells cur 79 (0, 0))) ∧ ∀ q, ¬ Off9 F C q → ∃ cur, w.heap[q]? = some (Obj.cells cur 81 (0, 0)))
def SM (w : World) (lo hi : Nat) (A : Option Addr) (n : Nat) (C : List (List Ver)) (k0 : Int) : Prop :=
  C.length = n ∧ (0 < n → ∃ g F D, A = some ⟨g, 0, none⟩ ∧ MO w lo hi g n F D C k0 n ∧ ∃ cur, w.heap[g]? = some (Obj.cells cur 79 (0, 0)))
section
variable {w w' : World} {lo hi a b n g : Nat} {A : Option Addr} {C : List (List Ver)} {k0 : Int} {F : Nat → Option Addr} {D : Nat → Nat} {S : TypeId → Prop}
theorem not_off {q : Nat} (h : ¬ Off9 F C q) : ∃ i l, C[i]? = some l ∧ F i = some ⟨q, 0, none⟩ := Classical.byContradiction fun h2 => h fun i l hl e => h2 ⟨i, l, hl, e⟩
theorem off_in {q : Nat} (hm : MO w lo hi g n F D C k0 0) (h : ¬ Off9 F C q) : lo ≤ q ∧ q < hi := by
  obtain ⟨i, l, hl, e⟩ := not_off h
  obtain ⟨_, c, ho, hq⟩ := hm.rowO i l hl (by omega)
  rw [e] at ho hq
  exact ⟨(ho.lt q rfl).1, hq q rfl⟩
theorem any0 {k1 : Int} (m : MO w lo hi g n F D C k0 0) : MO w lo hi g n F D C k1 0 := ⟨m.len, m.gl, m.gh, m.cell, fun i l hl hi => absurd hi (by omega), m.rowO, m.ne, m.apart⟩
theorem SO.nil_ (w : World) (lo hi : Nat) (A : Option Addr) : SO w lo hi A 0 [] := ⟨rfl, fun h => absurd h (by omega)⟩
theorem SO.fr (h : SO w lo hi A n C) (hf : FR a b w w') (hd : hi ≤ a ∨ b ≤ lo) (hs : hi ≤ w.heap.size) : SO w' lo hi A n C := ⟨h.1, fun hn => by
  obtain ⟨g, F, D, e, m, hg, hq⟩ := h.2 hn
  have hgb : w'.heap[g]? = w.heap[g]? := hf.block g (by have := m.gh; omega) (by have := m.gh; have := m.gl; omega)
  have hqb : ∀ q, ¬ Off9 F C q → w'.heap[q]? = w.heap[q]? := fun q ho => by
    obtain ⟨h1, h2⟩ := off_in m ho
    exact hf.block q (by omega) (by omega)
  exact ⟨g, F, D, e, m.kept hgb hqb, by rw [hgb]; exact hg, fun q ho => by rw [hqb q ho]; exact hq q ho⟩⟩
theorem SM.of (h : SM w lo hi A n C k0) (hg : ∀ g cur, lo ≤ g → g < hi → w.heap[g]? = some (Obj.cells cur 79 (0, 0)) → w'.heap[g]? = w.heap[g]?) (hr : ∀ A' m k, MvS w lo hi A' m k → MvS w' lo hi A' m k) : SM w' lo hi A n C k0 := ⟨h.1, fun hn => by
  obtain ⟨g, F, D, e, m, cur, hc⟩ := h.2 hn
  have hgb := hg g cur m.gl m.gh hc
  have hlen := m.len
  exact ⟨g, F, D, e, ⟨m.len, m.gl, m.gh, fun i l hl => (World.cell?_of_block (a := ⟨g, i, none⟩) hgb).trans (m.cell i l hl), fun i l hl hi => hr _ _ _ (m.rowM i l hl hi), fun i l hl hi => absurd (Go.Proofs.YtjnlbhmddhpmaaaGreat.st.lt_get hl) (by omega), m.ne, m.apart⟩, cur, by rw [hgb]; exact hc⟩⟩
theorem SM.fr (h : SM w lo hi A n C k0) (hf : FR a b w w') (hd : hi ≤ a ∨ b ≤ lo) (hs : hi ≤ w.heap.size) : SM w' lo hi A n C k0 :=
  h.of (fun g cur h1 h2 _ => hf.block g (by omega) (by omega)) fun A' m k hm => hm.fr hf hd hs
theorem SM.kt {lo2 hi2 : Nat} (h : SM w lo hi A n C k0) (hk : KT S lo2 hi2 w w') (h1 : ¬ S 81) (h2 : ¬ S 79) : SM w' lo hi A n C k0 :=
  h.of (fun g cur _ _ hc => hk.ty g _ _ _ hc h2) fun A' m k hm => fun h0 => by
    obtain ⟨g, M, e, a1, a2, a3, f, hf, hx⟩ := hm h0
    exact ⟨g, M, e, a1, a2, a3, f, hf.of_block (hk.row hf h1), hx⟩
theorem lt_any {w : World} {k : Nat} {o : Obj} (h : w.heap[k]? = some o) : k < w.heap.size := by
  rcases Nat.lt_or_ge k w.heap.size with h9 | h9
  · exact h9
  · rw [Array.getElem?_eq_none h9] at h; cases h
theorem SO.wide {lo' hi' : Nat} (h : SO w lo hi A n C) (h1 : lo' ≤ lo) (h2 : hi ≤ hi') : SO w lo' hi' A n C := ⟨h.1, fun hn => by
  obtain ⟨g, F, D, e, m, hg, hq⟩ := h.2 hn
  refine ⟨g, F, D, e, ?_, hg, hq⟩
  exact ⟨m.len, by have := m.gl; omega, by have := m.gh; omega, m.cell, fun i l hl hi => absurd hi (by omega), fun i l hl hi => by
    obtain ⟨e1, c, ⟨ho1, ho2⟩, hq⟩ := m.rowO i l hl hi
    exact ⟨e1, c, ⟨ho1, ho2.imp id fun ⟨g, cap, cur, e, hb, r⟩ => ⟨g, cap, cur, e, by omega, r⟩⟩, fun q e => by have := hq q e; omega⟩, m.ne, m.apart⟩⟩
theorem SO.rs {B : Nat} (h : SO w lo hi A n C) (hB : hi ≤ B) (hc : cnt C ≤ 140737488355328) : Rs w B A n C := ⟨h.1, fun hn => by
  obtain ⟨g, F, D, e, m, hg, hq⟩ := h.2 hn
  refine ⟨g, 0, e, by have := m.gh; omega, fun k l hl => ?_⟩
  have h1 := m.cell k l hl
  have h2 := m.rowO k l hl (by omega)
  have := Go.Proofs.YtjnlbhmddhpmaaaGreat.st.len_le hl
  exact ⟨F k, l.length, D k, by rw [Nat.zero_add]; exact h1, by omega, h2.vs hB⟩⟩
theorem SO.of_os {c : Nat} (h : OS w lo (.slice A n c) n C) (hh : w.heap.size ≤ hi) : SO w lo hi A n C := ⟨h.len, fun hn => by
  obtain ⟨g, cap, F, D, e, m, hg, hq⟩ := MO.of_os h hn hh 0
  injection e with e1 _ _
  exact ⟨g, F, D, e1, m, hg, hq⟩⟩
theorem flat_get : ∀ (l : List Ver) (i : Nat), i < l.length * 5 → (Go.Proofs.YtjnlbhmddhpmaaaGreat.flat.flat l)[i]? = some (Go.Proofs.YtjnlbhmddhpmaaaGreat.sl.fld (l.getD (i / 5) default) (i % 5)) := fun l i hi => by
  obtain ⟨k, j, rfl, hj⟩ : ∃ k j, i = k * 5 + j ∧ j < 5 := ⟨i / 5, i % 5, by omega, by omega⟩
  have hk : k < l.length := by omega
  have hx := List.getElem?_eq_getElem hk
  obtain ⟨h0, h1, h2, h3, h4⟩ := Go.Proofs.YtjnlbhmddhpmaaaGreat.flat.flat_at l k _ hx
  rw [show (k * 5 + j) / 5 = k by omega, show (k * 5 + j) % 5 = j by omega, show l.getD k default = l[k] by simp [List.getD, hx]]
  have : j = 0 ∨ j = 1 ∨ j = 2 ∨ j = 3 ∨ j = 4 := by omega
  rcases this with rfl | rfl | rfl | rfl | rfl
  · exact h0
  · exact h1
  · exact h2
  · exact h3
  · exact h4
/-- a copied row is owned -/
theorem own_row {N : Nat} {l : List Ver} (h : Go.Proofs.YtjnlbhmddhpmaaaGreat.sl.Row w N l.length l l.length) (h1 : lo ≤ N) (hl : l.length ≤ maxLen) : w.ownsRow lo 81 5 (.slice (some ⟨N, 0, none⟩) l.length l.length) l.length (Go.Proofs.YtjnlbhmddhpmaaaGreat.flat.flat l) := by
  obtain ⟨cur, hc, hs, hx⟩ := h
  refine ⟨Go.Proofs.YtjnlbhmddhpmaaaGreat.flat.flat_len l, .inr ⟨N, l.length, cur, rfl, h1, hc, Nat.le_refl _, hl, hs, ?_⟩⟩
  apply List.ext_getElem?
  intro i
  rw [List.getElem?_take]
  split
  · rename_i hi
    have h2 := hx i hi
    simp only [if_pos hi] at h2
    rw [Array.getElem?_toList, h2, flat_get l i hi]
  · rename_i hi
    rw [List.getElem?_eq_none (by rw [Go.Proofs.YtjnlbhmddhpmaaaGreat.flat.flat_len]; omega)]
/-- a copied store is owned -/
theorem SO.of_rr {N : Nat} (h : RR w N n C n) (hl : C.length = n) (h1 : lo ≤ N) (h2 : w.heap.size ≤ hi) (hc : cnt C ≤ 2097152) : SO w lo hi (some ⟨N, 0, none⟩) n C := ⟨hl, fun hn => by
  have hN := h.lt
  obtain ⟨f, Mf, hf, hz, hd, hr⟩ := h
  have ex : ∀ {i l}, C[i]? = some l → i < n := fun hx => by have := Go.Proofs.YtjnlbhmddhpmaaaGreat.st.lt_get hx; omega
  refine ⟨N, fun i => some ⟨Mf i, 0, none⟩, fun i => (C.getD i []).length, rfl, ⟨hl, h1, by omega, fun i l hx => ?_, fun i l hx hl0 => absurd hl0 (by omega), fun i l hx _ => ?_, fun i l hx e => ?_, fun i i' l l' q hne hx hx' e e' => ?_⟩, ?_, fun q hq => ?_⟩
  · obtain ⟨g1, g2, g3⟩ := hr i l (ex hx) hx
    rw [hf.cell (ex hx), g1]
    simp [List.getD, hx]
  · obtain ⟨g1, g2, g3⟩ := hr i l (ex hx) hx
    have := Go.Proofs.YtjnlbhmddhpmaaaGreat.st.len_le hx
    refine ⟨rfl, l.length, own_row g3 (by omega) (by unfold maxLen; omega), fun q e => ?_⟩
    injection e with e
    subst e
    have := g3.lt
    show Mf i < hi
    omega
  · obtain ⟨g1, g2, g3⟩ := hr i l (ex hx) hx
    injection e with e
    injection e with e
    omega
  · injection e with e
    injection e with e
    injection e' with e'
    injection e' with e'
    have := ex hx
    have := ex hx'
    rcases Nat.lt_or_gt_of_ne hne with h9 | h9
    · have := hd i i' h9 (by omega); omega
    · have := hd i' i h9 (by omega); omega
  · obtain ⟨c, hc, _⟩ := hf
    exact ⟨c, hc⟩
  · obtain ⟨i, l, hx, e⟩ := not_off hq
    obtain ⟨g1, g2, g3⟩ := hr i l (ex hx) hx
    injection e with e
    injection e with e
    subst e
    obtain ⟨c, hc, _⟩ := g3
    exact ⟨c, hc⟩⟩
end
/-! the other lists under typed frames -/
section
variable {w w' : World} {lo hi lo2 hi2 n j : Nat} {A : Option Addr} {L : List Tr} {l : List E2} {k0 : Int} {S : TypeId → Prop} {t : TypeId}
theorem ows_kt (h : OwS t w lo hi A n l) (hk : KT S lo2 hi2 w w') (ht : ¬ S t) : OwS t w' lo hi A n l := ows_of h fun g e p => by
  obtain ⟨g', M, f, e', hr⟩ := row_any h p
  rw [e] at e'
  injection e' with e'
  injection e' with e'
  subst e'
  exact hk.row hr ht
theorem mks_kt (h : MkS t w lo hi A n k0) (hk : KT S lo2 hi2 w w') (ht : ¬ S t) : MkS t w' lo hi A n k0 := mks_of h fun g e p => by
  obtain ⟨g', M, f, e', hr⟩ := mks_row h p
  rw [e] at e'
  injection e' with e'
  injection e' with e'
  subst e'
  exact hk.row hr ht
theorem owl_kt (h : OwL w lo hi A n L) (hk : KT S lo2 hi2 w w') (h1 : ¬ S 55) (h2 : ¬ S 83) (h3 : ¬ S 86) : OwL w' lo hi A n L := ⟨h.1, fun hn => by
  obtain ⟨g, M, f, P, Q, c, d, e, a1, a2, hr, hM, hx, d1, d2⟩ := h.2 hn
  exact ⟨g, M, f, P, Q, c, d, e, a1, a2, hr.of_block (hk.row hr h1), hM, fun k t ht => ⟨(hx k t ht).1, ows_kt (hx k t ht).2.1 hk h2, ows_kt (hx k t ht).2.2 hk h3⟩, d1, d2⟩⟩
theorem ml_kt (h : ML w lo hi A n L k0 j) (hk : KT S lo2 hi2 w w') (h1 : ¬ S 55) (h2 : ¬ S 83) (h3 : ¬ S 86) : ML w' lo hi A n L k0 j := ⟨h.1, fun hn => by
  obtain ⟨g, M, f, hd, P, Q, c, d, e, a1, a2, hr, hM, hx, d1, d2⟩ := h.2 hn
  exact ⟨g, M, f, hd, P, Q, c, d, e, a1, a2, hr.of_block (hk.row hr h1), hM, fun k t ht => ⟨(hx k t ht).1, fun hj => ⟨((hx k t ht).2.1 hj).1, mks_kt ((hx k t ht).2.1 hj).2.1 hk h2, mks_kt ((hx k t ht).2.1 hj).2.2 hk h3⟩, fun hj => ⟨ows_kt ((hx k t ht).2.2 hj).1 hk h2, ows_kt ((hx k t ht).2.2 hj).2 hk h3⟩⟩, d1, d2⟩⟩
end
/-! an engine -/
structure ER (w : World) (B : Nat) (A1 : Option Addr) (n1 : Nat) (C : List (List Ver)) (A2 : Option Addr) (n2 : Nat) (L : List Tr) (A3 : Option Addr) (n3 : Nat) (K : List E2) (A4 : Option Addr) (n4 : Nat) (X : List E2) : Prop where
  s : Rs w B A1 n1 C
  t : Ts 2097152 w B A2 n2 L
  k : Vs w B A3 n3 K
  x : Vs w B A4 n4 X
structure EO (w : World) (lo hi : Nat) (A1 : Option Addr) (n1 : Nat) (C : List (List Ver)) (A2 : Option Addr) (n2 : Nat) (L : List Tr) (A3 : Option Addr) (n3 : Nat) (K : List E2) (A4 : Option Addr) (n4 : Nat) (X : List E2) : Prop where
  s : SO w lo hi A1 n1 C
  t : OwL w lo hi A2 n2 L
  k : OwS 60 w lo hi A3 n3 K
  x : OwS 62 w lo hi A4 n4 X
/-- how many marks lie ahead of the transactions, of the locks, of the waits, and in all -/
def k1 (k0 : Int) (C : List (List Ver)) : Int := k0 + ((cnt C * 5 : Nat) : Int)
def k2 (k0 : Int) (C : List (List Ver)) (L : List Tr) : Int := elk (k1 k0 C) L L.length
def k3 (k0 : Int) (C : List (List Ver)) (L : List Tr) (n3 : Nat) : Int := k2 k0 C L + ((n3 * 2 : Nat) : Int)
def k4 (k0 : Int) (C : List (List Ver)) (L : List Tr) (n3 n4 : Nat) : Int := k3 k0 C L n3 + ((n4 * 2 : Nat) : Int)
structure EM (w : World) (lo hi : Nat) (A1 : Option Addr) (n1 : Nat) (C : List (List Ver)) (A2 : Option Addr) (n2 : Nat) (L : List Tr) (A3 : Option Addr) (n3 : Nat) (A4 : Option Addr) (n4 : Nat) (k0 : Int) : Prop where
  s : SM w lo hi A1 n1 C k0
  t : ML w lo hi A2 n2 L (k1 k0 C) n2
  k : MkS 60 w lo hi A3 n3 (k2 k0 C L)
  x : MkS 62 w lo hi A4 n4 (k3 k0 C L n3)
section
variable {w w' : World} {lo hi lo2 hi2 a b B n1 n2 n3 n4 : Nat} {A1 A2 A3 A4 : Option Addr} {C : List (List Ver)} {L : List Tr} {K X : List E2} {k0 : Int} {S : TypeId → Prop}
theorem ER.below (h : ER w B A1 n1 C A2 n2 L A3 n3 K A4 n4 X) (hk : Below B w w') : ER w' B A1 n1 C A2 n2 L A3 n3 K A4 n4 X := ⟨h.s.below hk, h.t.below hk, h.k.below hk, h.x.below hk⟩
theorem ER.more {B' : Nat} (h : ER w B A1 n1 C A2 n2 L A3 n3 K A4 n4 X) (hB : B ≤ B') : ER w B' A1 n1 C A2 n2 L A3 n3 K A4 n4 X := ⟨h.s.more hB, h.t.more hB, h.k.more hB, h.x.more hB⟩
theorem EO.fr (h : EO w lo hi A1 n1 C A2 n2 L A3 n3 K A4 n4 X) (hf : FR a b w w') (hd : hi ≤ a ∨ b ≤ lo) (hs : hi ≤ w.heap.size) : EO w' lo hi A1 n1 C A2 n2 L A3 n3 K A4 n4 X := ⟨h.s.fr hf hd hs, h.t.fr hf hd hs, h.k.fr hf hd hs, h.x.fr hf hd hs⟩
theorem EO.wide {lo' hi' : Nat} (h : EO w lo hi A1 n1 C A2 n2 L A3 n3 K A4 n4 X) (h1 : lo' ≤ lo) (h2 : hi ≤ hi') : EO w lo' hi' A1 n1 C A2 n2 L A3 n3 K A4 n4 X := ⟨h.s.wide h1 h2, h.t.wide h1 h2, h.k.wide h1 h2, h.x.wide h1 h2⟩
theorem EO.er (h : EO w lo hi A1 n1 C A2 n2 L A3 n3 K A4 n4 X) (hB : hi ≤ B) (hc : cnt C ≤ 2097152) (hl : cntT L ≤ 2097152) : ER w B A1 n1 C A2 n2 L A3 n3 K A4 n4 X := ⟨h.s.rs hB (by omega), h.t.ts hl hB, h.k.vs hB, h.x.vs hB⟩
theorem EM.fr (h : EM w lo hi A1 n1 C A2 n2 L A3 n3 A4 n4 k0) (hf : FR a b w w') (hd : hi ≤ a ∨ b ≤ lo) (hs : hi ≤ w.heap.size) : EM w' lo hi A1 n1 C A2 n2 L A3 n3 A4 n4 k0 := ⟨h.s.fr hf hd hs, h.t.fr hf hd hs, h.k.fr hf hd hs, h.x.fr hf hd hs⟩
end
/-- an engine that is read from the blocks between lo and hi alone -/
structure EF (w : World) (lo hi : Nat) (A1 : Option Addr) (n1 : Nat) (C : List (List Ver)) (A2 : Option Addr) (n2 : Nat) (L : List Tr) (A3 : Option Addr) (n3 : Nat) (K : List E2) (A4 : Option Addr) (n4 : Nat) (X : List E2) : Prop where
  rd : ∀ w2 : World, hi ≤ w2.heap.size → (∀ k, lo ≤ k → k < hi → w2.heap[k]? = w.heap[k]?) → ER w2 w2.heap.size A1 n1 C A2 n2 L A3 n3 K A4 n4 X
section
variable {w w' : World} {lo hi a b B n1 n2 n3 n4 : Nat} {A1 A2 A3 A4 : Option Addr} {C : List (List Ver)} {L : List Tr} {K X : List E2}
theorem EF.fr (h : EF w lo hi A1 n1 C A2 n2 L A3 n3 K A4 n4 X) (hf : FR a b w w') (hd : hi ≤ a ∨ b ≤ lo) (hs : hi ≤ w.heap.size) : EF w' lo hi A1 n1 C A2 n2 L A3 n3 K A4 n4 X :=
  ⟨fun w2 h2 hk => h.rd w2 h2 fun k h3 h4 => (hk k h3 h4).trans (hf.block k (by omega) (by omega))⟩
theorem EF.er (h : EF w lo hi A1 n1 C A2 n2 L A3 n3 K A4 n4 X) (hs : hi ≤ w.heap.size) : ER w w.heap.size A1 n1 C A2 n2 L A3 n3 K A4 n4 X := h.rd w hs fun _ _ _ => rfl
end
end Go.Proofs.YtjnlbhmddhpmaaaGreat.ego
