/- Marks of a store of one's own, row by row: only the rows' own blocks change. -/
import Derived.Test.YtjnlbhmddhpmaaaGreatMv
import Derived.Test.YtjnlbhmddhpmaaaGreatOs
import Derived.LoopTactic
import Derived.Lib.Hide
namespace Go.Proofs.YtjnlbhmddhpmaaaGreat.mo
open Go.ChangeShapes Go.WideShapes Go.ChangeAt Go.RowKit
open Go.Proofs.YtjnlbhmddhpmaaaGreat.vers Go.Proofs.YtjnlbhmddhpmaaaGreat.sl Go.Proofs.YtjnlbhmddhpmaaaGreat.st Go.Proofs.YtjnlbhmddhpmaaaGreat.flat Go.Proofs.YtjnlbhmddhpmaaaGreat.os Go.Proofs.YtjnlbhmddhpmaaaGreat.marks Go.Proofs.YtjnlbhmddhpmaaaGreat.mv
open Go.Proofs.YtjnlbhmddhpmaaaGreat.fr (FR)
open Go.Proofs.YtjnlbhmddhpmaaaGreat.el2 (E2)
open Go.Proofs.YtjnlbhmddhpmaaaGreat.ints (ival)
set_option linter.unusedVariables false
set_option linter.unusedSimpArgs false
/-- the block k is none of the rows' -/
def Off9 (F : Nat → Option Addr) (C : List (List Ver)) (k : Nat) : Prop := ∀ i l, C[i]? = some l → F i ≠ some ⟨k, 0, none⟩
structure MO (W : World) (lo hi g n : Nat) (F : Nat → Option Addr) (D : Nat → Nat) (C : List (List Ver)) (k0 : Int) (j : Nat) : Prop where
  len : C.length = n
  gl : lo ≤ g
  gh : g < hi
  cell : ∀ i l, C[i]? = some l → W.cell? ⟨g, i, none⟩ = some (.slice (F i) l.length (D i))
  rowM : ∀ i l, C[i]? = some l → i < j → MvS W lo hi (F i) l.length (k0 + ((cnt (C.take i) * 5 : Nat) : Int))
  rowO : ∀ i l, C[i]? = some l → ¬ i < j → OvS W lo hi (F i) l.length l
  ne : Off9 F C g
  apart : ∀ i i' l l' q, i ≠ i' → C[i]? = some l → C[i']? = some l' → F i = some ⟨q, 0, none⟩ → F i' ≠ some ⟨q, 0, none⟩
section
variable {W W' : World} {lo hi g n j : Nat} {F : Nat → Option Addr} {D : Nat → Nat} {C : List (List Ver)} {k0 : Int} {v : Value}
theorem OvS.kept {A : Option Addr} {m : Nat} {l : List Ver} (h : OvS W lo hi A m l) (hk : ∀ q, A = some ⟨q, 0, none⟩ → W'.heap[q]? = W.heap[q]?) : OvS W' lo hi A m l := by
  obtain ⟨hl2, c, ho, hq⟩ := h
  refine ⟨hl2, c, Go.Proofs.YtjnlbhmddhpmaaaGreat.oq.own_of ho fun q e => ?_, hq⟩
  rcases ho.2 with ⟨h0, h1⟩ | ⟨b, cap, cur, e2, hb, hh, hr⟩
  · rw [h0] at e; cases e
  · rw [e2] at e
    injection e with e
    subst e
    injection e2 with e3 _ _
    exact hk _ e3
theorem MvS.kept {A : Option Addr} {m : Nat} {k1 : Int} (h : MvS W lo hi A m k1) (hk : ∀ q, A = some ⟨q, 0, none⟩ → W'.heap[q]? = W.heap[q]?) : MvS W' lo hi A m k1 := fun hm => by
  obtain ⟨b, M, e, h1, h2, hM, hx⟩ := h hm
  exact ⟨b, M, e, h1, h2, hM, hx.of_block (hk b e)⟩
theorem MO.kept (h : MO W lo hi g n F D C k0 j) (hg : W'.heap[g]? = W.heap[g]?) (hk : ∀ q, ¬ Off9 F C q → W'.heap[q]? = W.heap[q]?) : MO W' lo hi g n F D C k0 j where
  len := h.len
  gl := h.gl
  gh := h.gh
  cell := fun i l hl => (World.cell?_of_block (a := ⟨g, i, none⟩) hg).trans (h.cell i l hl)
  rowM := fun i l hl hi => MvS.kept (h.rowM i l hl hi) fun q e => hk q fun o => o i l hl e
  rowO := fun i l hl hi => OvS.kept (h.rowO i l hl hi) fun q e => hk q fun o => o i l hl e
  ne := h.ne
  apart := h.apart
theorem MO.below (h : MO W lo hi g n F D C k0 j) (hh : hi ≤ W.heap.size) (hb : Below W.heap.size W W') (hlt : ∀ q, ¬ Off9 F C q → q < W.heap.size) : MO W' lo hi g n F D C k0 j :=
  h.kept (hb.block g (by have := h.gh; omega)) fun q hq => hb.block q (hlt q hq)
/-- a row has been marked -/
theorem MO.step {l : List Ver} (h : MO W lo hi g n F D C k0 j) (hl : C[j]? = some l) (hm : MvS W' lo hi (F j) l.length (k0 + ((cnt (C.take j) * 5 : Nat) : Int))) (hk : ∀ k, (∀ b, F j = some ⟨b, 0, none⟩ → 0 < l.length → k ≠ b) → W'.heap[k]? = W.heap[k]?) : MO W' lo hi g n F D C k0 (j + 1) where
  len := h.len
  gl := h.gl
  gh := h.gh
  cell := fun i l' hl' => (World.cell?_of_block (a := ⟨g, i, none⟩) (hk g fun b e _ e2 => h.ne j l hl (e2 ▸ e))).trans (h.cell i l' hl')
  rowM := fun i l' hl' hi => by
    rcases Nat.lt_or_ge i j with hlt | hge
    · exact MvS.kept (h.rowM i l' hl' hlt) fun q e => hk q fun b e2 _ e3 => h.apart i j l' l q (by omega) hl' hl e (e3 ▸ e2)
    · obtain rfl : i = j := by omega
      rw [hl] at hl'
      injection hl' with hl'
      subst hl'
      exact hm
  rowO := fun i l' hl' hi => OvS.kept (h.rowO i l' hl' (by omega)) fun q e => hk q fun b e2 _ e3 => h.apart i j l' l q (by omega) hl' hl e (e3 ▸ e2)
  ne := h.ne
  apart := h.apart
theorem MO.of_os (h : OS W lo v n C) (hn : 0 < n) (hh : W.heap.size ≤ hi) (k0 : Int) : ∃ g cap F D, v = .slice (some ⟨g, 0, none⟩) n cap ∧ MO W lo hi g n F D C k0 0 ∧ (∃ cur, W.heap[g]? = some (.cells cur 79 (0, 0))) ∧ (∀ q, ¬ Off9 F C q → ∃ cur, W.heap[q]? = some (.cells cur 81 (0, 0))) := by
  obtain ⟨vals, h1, h2, h3, h4⟩ := h
  rcases h1.2 with ⟨_, h0⟩ | ⟨g, cap, cur, rfl, hbg, hgg, _⟩
  · have := h1.1
    rw [h0] at this
    simp at this
    omega
  · have hgl := (h1.lt g rfl).2
    have key : ∀ i l, C[i]? = some l → ∃ A c, vals[i]? = some (Value.slice A l.length c) ∧ W.ownsRow lo 81 5 (.slice A l.length c) l.length (flat l) := fun i l hl => by
      have hi : i < vals.length := by have := lt_of_some hl; have := h1.1; omega
      obtain ⟨l2, hl2, hr⟩ := h3 i _ (List.getElem?_eq_getElem hi)
      rw [hl] at hl2
      injection hl2 with hl2
      subst hl2
      obtain ⟨A, c, he, _⟩ := own_vs hr rfl
      rw [he] at hr
      exact ⟨A, c, by rw [List.getElem?_eq_getElem hi, he], hr⟩
    obtain ⟨F, hF⟩ : ∃ F : Nat → Option Addr, ∀ i A m c, vals[i]? = some (Value.slice A m c) → F i = A := ⟨fun i => match vals[i]? with | some (Value.slice A _ _) => A | _ => none, fun i A m c e => by simp only [e]⟩
    obtain ⟨D, hD⟩ : ∃ D : Nat → Nat, ∀ i A m c, vals[i]? = some (Value.slice A m c) → D i = c := ⟨fun i => match vals[i]? with | some (Value.slice _ _ c) => c | _ => 0, fun i A m c e => by simp only [e]⟩
    have own : ∀ {A : Option Addr} {m c q : Nat} {xs : List Value}, W.ownsRow lo 81 5 (.slice A m c) m xs → A = some ⟨q, 0, none⟩ → (Value.slice A m c).ownBlock = some q := fun hr e => by subst e; rfl
    refine ⟨g, cap, F, D, rfl, ⟨h2, hbg, by omega, fun i l hl => ?_, fun _ _ _ hi => absurd hi (by omega), fun i l hl _ => ?_, fun i l hl e => ?_, fun i i' l l' q hne hl hl' e e' => ?_⟩, ⟨cur, hgg⟩, fun q hq => ?_⟩
    · obtain ⟨A, c, hv, hr⟩ := key i l hl
      rw [hF _ _ _ _ hv, hD _ _ _ _ hv]
      have hc := h1.cellAt (g := g) (cap := cap) i (by have := lt_of_some hl; omega)
      rw [hv] at hc
      exact hc
    · obtain ⟨A, c, hv, hr⟩ := key i l hl
      rw [hF _ _ _ _ hv]
      exact OvS.of_own hr rfl hh
    · obtain ⟨A, c, hv, hr⟩ := key i l hl
      rw [hF _ _ _ _ hv] at e
      exact Go.Proofs.YtjnlbhmddhpmaaaGreat.os.row_ne h1 hr (own hr e) rfl
    · obtain ⟨A, c, hv, hr⟩ := key i l hl
      obtain ⟨A', c', hv', hr'⟩ := key i' l' hl'
      rw [hF _ _ _ _ hv] at e
      rw [hF _ _ _ _ hv'] at e'
      exact h4 i i' _ _ hne hv hv' q (own hr e) (own hr' e')
    · rcases Classical.em (∃ cur, W.heap[q]? = some (.cells cur 81 (0, 0))) with h9 | h9
      · exact h9
      · exact absurd (fun i l hl e => by
          obtain ⟨A, c, hv, hr⟩ := key i l hl
          rw [hF _ _ _ _ hv] at e
          exact h9 (own_cells hr (own hr e))) hq
theorem lt_of_cells {q : Nat} {cur : Array Value} {t : TypeId} (h : W.heap[q]? = some (.cells cur t (0, 0))) : q < W.heap.size := by
  rcases Nat.lt_or_ge q W.heap.size with h9 | h9
  · exact h9
  · rw [Array.getElem?_eq_none h9] at h; cases h
/-- a list of another type lies elsewhere -/
theorem apart_list {t t' : TypeId} {lo2 hi2 m q b : Nat} {A : Option Addr} {R : List E2} {cur : Array Value} (ho : Go.Proofs.YtjnlbhmddhpmaaaGreat.ow2.OwS t W lo2 hi2 A m R) (ht : t ≠ t') (hq : W.heap[q]? = some (.cells cur t' (0, 0))) (e : A = some ⟨b, 0, none⟩) (hm : 0 < m) : q ≠ b := by
  rintro rfl
  obtain ⟨g, M, f, e2, _, _, ⟨c2, hc2, _⟩, _⟩ := ho.2 hm
  rw [e] at e2
  injection e2 with e2
  injection e2 with e2
  subst e2
  rw [hq] at hc2
  injection hc2 with e3
  injection e3 with _ e4 _
  exact ht e4.symm
end
/-! a store -/
end Go.Proofs.YtjnlbhmddhpmaaaGreat.mo
