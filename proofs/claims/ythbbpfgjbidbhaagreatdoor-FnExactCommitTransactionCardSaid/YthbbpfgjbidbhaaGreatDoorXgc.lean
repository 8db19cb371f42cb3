/- Marks of a transaction that a call made, from any number on: only the rows' own blocks change. -/
import Derived.Test.YthbbpfgjbidbhaaGreatDoorMarkS
import Derived.Test.YthbbpfgjbidbhaaGreatDoorOq
import Derived.Test.YthbbpfgjbidbhaaGreatDoorFr
import Derived.Test.YthbbpfgjbidbhaaGreatDoorOs
import Derived.LoopTactic
import Derived.Lib.Hide
import Derived.Test.YthbbpfgjbidbhaaGreatDoorTm
/- Owned lists of versions, as a law marks them and looks at the marks. -/
namespace Go.Proofs.YthbbpfgjbidbhaaGreatDoor.mv
open Go.ChangeShapes Go.WideShapes Go.ChangeAt Go.RowKit
open Go.Proofs.YthbbpfgjbidbhaaGreatDoor.vers Go.Proofs.YthbbpfgjbidbhaaGreatDoor.sl Go.Proofs.YthbbpfgjbidbhaaGreatDoor.st Go.Proofs.YthbbpfgjbidbhaaGreatDoor.flat Go.Proofs.YthbbpfgjbidbhaaGreatDoor.oq Go.Proofs.YthbbpfgjbidbhaaGreatDoor.marks
open Go.Proofs.YthbbpfgjbidbhaaGreatDoor.fr (FR)
set_option linter.unusedVariables false
set_option linter.unusedSimpArgs false
def OvS (w : World) (lo hi : Nat) (A : Option Addr) (n : Nat) (l : List Ver) : Prop :=
  l.length = n ∧ ∃ c, w.ownsRow lo 81 5 (.slice A n c) n (flat l) ∧ ∀ q, (Value.slice A n c).ownBlock = some q → q < hi
def MvS (w : World) (lo hi : Nat) (A : Option Addr) (n : Nat) (k0 : Int) : Prop := 0 < n → ∃ g M, A = some ⟨g, 0, none⟩ ∧ lo ≤ g ∧ g < hi ∧ n * 5 ≤ M ∧ MK w g M k0 n
section
variable {w w' : World} {lo hi a b n c B : Nat} {A : Option Addr} {l : List Ver} {k0 : Int}
theorem OvS.vs (h : OvS w lo hi A n l) (hB : hi ≤ B) : Vs w B A n l := ⟨h.1, fun hn => by
  obtain ⟨hl, c, ho, hq⟩ := h
  obtain ⟨A9, c9, e, hv⟩ := own_vs ho hl
  injection e with e1 _ e2
  subst e1
  obtain ⟨b9, o9, e9, hb9, hx⟩ := hv.2 hn
  refine ⟨b9, o9, e9, ?_, hx⟩
  subst e9
  have := hq b9 rfl
  omega⟩
theorem OvS.fr (h : OvS w lo hi A n l) (hf : FR a b w w') (hd : hi ≤ a ∨ b ≤ lo) (hs : hi ≤ w.heap.size) : OvS w' lo hi A n l := by
  obtain ⟨hl, c, ho, hq⟩ := h
  exact ⟨hl, c, own_of ho fun q e => hf.block q (by have := hq q e; omega) (by have := hq q e; have := (ho.lt q e).1; omega), hq⟩
theorem MvS.fr (h : MvS w lo hi A n k0) (hf : FR a b w w') (hd : hi ≤ a ∨ b ≤ lo) (hs : hi ≤ w.heap.size) : MvS w' lo hi A n k0 := fun hn => by
  obtain ⟨g, M, e, h1, h2, hM, hk⟩ := h hn
  exact ⟨g, M, e, h1, h2, hM, hk.of_block (hf.block _ (by omega) (by omega))⟩
theorem OvS.of_own (h : w.ownsRow lo 81 5 (.slice A n c) n (flat l)) (hl : l.length = n) (h2 : w.heap.size ≤ hi) : OvS w lo hi A n l := ⟨hl, c, h, fun q e => by have := (h.lt q e).2; omega⟩
theorem mk_of {g cap : Nat} {cur : Array Value} (hg : w.heap[g]? = some (.cells cur 81 (0, 0))) (k0 : Int) : MK w g cur.size k0 0 :=
  ⟨fun i => cur[i]?.getD undef, ⟨cur, hg, rfl, fun i hi => by show cur[i]? = some (cur[i]?.getD undef); rw [Array.getElem?_eq_getElem hi]; rfl⟩, fun i hi => absurd hi (by omega)⟩
end
theorem mark0 (A : Option Addr) (c : Nat) (k0 : Int) (w : World) :
    Calls Tryz.prog 67 #[.slice A 0 c, .int .i64 k0] w fun e w' => e = .returned (.int .i64 k0) ∧ w = w' := by
  go_enter Tryz.func67, Tryz.ntmps67
  go_wp2
  go_loop [1, 5] (fun k i => k = .int .i64 k0 ∧ i = .int .i64 0) (fun _ _ => 0)
  case atStart => exact ⟨rfl, rfl⟩
  case round =>
    obtain ⟨rfl, rfl⟩ := hrel
    go_wp2
    go_ret
    exact ⟨rfl, rfl⟩
theorem held0 (A : Option Addr) (c : Nat) (k0 : Int) (w : World) :
    Calls Tryz.prog 68 #[.slice A 0 c, .int .i64 k0] w fun e w' => e = .returned (.int .i64 k0) ∧ w = w' := by
  go_enter Tryz.func68, Tryz.ntmps68
  go_wp2
  go_loop [1, 5] (fun k i => k = .int .i64 k0 ∧ i = .int .i64 0) (fun _ _ => 0)
  case atStart => exact ⟨rfl, rfl⟩
  case round =>
    obtain ⟨rfl, rfl⟩ := hrel
    go_wp2
    go_ret
    exact ⟨rfl, rfl⟩
/-- marks of a list: of what was there only the row's block has changed -/
theorem mark_v {w : World} {lo hi n c : Nat} {A : Option Addr} {l : List Ver} {k0 : Int} (h0 : 0 ≤ k0) (h1 : k0 ≤ 1152921504606846976) (hn : n ≤ 1048576) (h : OvS w lo hi A n l) :
    Calls Tryz.prog 67 #[.slice A n c, .int .i64 k0] w fun e w' => e = .returned (.int .i64 (k0 + (n * 5 : Nat))) ∧ MvS w' lo hi A n k0 ∧ FR lo hi w w' ∧ w'.heap.size = w.heap.size ∧ ∀ k, (∀ g, A = some ⟨g, 0, none⟩ → 0 < n → k ≠ g) → w'.heap[k]? = w.heap[k]? := by
  rcases Nat.eq_zero_or_pos n with rfl | hp
  · exact (mark0 A c k0 w).mono fun e w' ⟨he, hw⟩ => by
      subst hw
      exact ⟨by rw [he]; simp, fun h => absurd h (by omega), FR.same _, rfl, fun _ _ => rfl⟩
  · obtain ⟨hl, c9, ho, hq⟩ := h
    rcases ho.2 with ⟨_, e⟩ | ⟨g, cap, cur, e, hb, hg, hnc, hcm, hsz, hx⟩
    · omega
    · injection e with e0 e1 e2
      subst e0
      have hgh := hq g rfl
      exact (mark_from h0 h1 hn (by rw [hsz]; exact Nat.mul_le_mul_right 5 hnc) (mk_of (cap := cap) hg k0)).mono fun e w' ⟨he, hm, ho⟩ =>
        ⟨he, fun _ => ⟨g, cur.size, rfl, hb, hgh, by rw [hsz]; exact Nat.mul_le_mul_right 5 hnc, hm⟩, ⟨ho.os, ho.tape, ho.output, Nat.le_of_eq ho.size.symm, fun k _ hk => ho.block k (by omega)⟩, ho.size, fun k hk => ho.block k (hk g rfl hp)⟩
theorem held_v {w : World} {lo hi n c : Nat} {A : Option Addr} {k0 : Int} (h0 : 0 ≤ k0) (h1 : k0 ≤ 1152921504606846976) (hn : n ≤ 1048576) (h : MvS w lo hi A n k0) :
    Calls Tryz.prog 68 #[.slice A n c, .int .i64 k0] w fun e w' => e = .returned (.int .i64 (k0 + (n * 5 : Nat))) ∧ w = w' := by
  rcases Nat.eq_zero_or_pos n with rfl | hp
  · exact (held0 A c k0 w).mono fun e w' ⟨he, hw⟩ => ⟨by rw [he]; simp, hw⟩
  · obtain ⟨g, M, rfl, hl, hh, hM, hm⟩ := h hp
    exact held_from h0 h1 hn hM hm
theorem mark_l {w : World} {lo hi n c : Nat} {A : Option Addr} {l : List Ver} (hn : n ≤ 1048576) (h : OvS w lo hi A n l) (hw : hi ≤ w.heap.size) :
    Calls Tryz.prog 67 #[.slice A n c, .int .i64 1] w fun e w' => e = .returned (.int .i64 (1 + ((n * 5 : Nat) : Int))) ∧ MvS w' lo hi A n 1 ∧ FR lo hi w w' :=
  (mark_v (by omega) (by omega) hn h).mono fun e w' ⟨he, hm, hf, _⟩ => ⟨he, hm, hf⟩
theorem held_l {w : World} {lo hi n c : Nat} {A : Option Addr} (hn : n ≤ 1048576) (h : MvS w lo hi A n 1) (hw : hi ≤ w.heap.size) :
    Calls Tryz.prog 68 #[.slice A n c, .int .i64 1] w fun e w' => e = .returned (.int .i64 (1 + ((n * 5 : Nat) : Int))) ∧ Below w.heap.size w w' :=
  (held_v (by omega) (by omega) hn h).mono fun e w' ⟨he, hw⟩ => ⟨he, by rw [← hw]; exact Below.refl _ _⟩
theorem same_l {w : World} {n c c2 : Nat} {A A2 : Option Addr} {l : List Ver} (hn : n ≤ 140737488355328) (h1 : Vs w w.heap.size A n l) (h2 : Vs w w.heap.size A2 n l) :
    Calls Tryz.prog 64 #[.slice A n c, .slice A2 n c2] w fun e w' => e = .returned (.bool true) ∧ Below w.heap.size w w' :=
  same_versions hn h1 h2 (Nat.le_refl _)
end Go.Proofs.YthbbpfgjbidbhaaGreatDoor.mv
/- Marks of a store of one's own, row by row: only the rows' own blocks change. -/
namespace Go.Proofs.YthbbpfgjbidbhaaGreatDoor.mo
open Go.ChangeShapes Go.WideShapes Go.ChangeAt Go.RowKit
open Go.Proofs.YthbbpfgjbidbhaaGreatDoor.vers Go.Proofs.YthbbpfgjbidbhaaGreatDoor.sl Go.Proofs.YthbbpfgjbidbhaaGreatDoor.st Go.Proofs.YthbbpfgjbidbhaaGreatDoor.flat Go.Proofs.YthbbpfgjbidbhaaGreatDoor.os Go.Proofs.YthbbpfgjbidbhaaGreatDoor.marks Go.Proofs.YthbbpfgjbidbhaaGreatDoor.mv
open Go.Proofs.YthbbpfgjbidbhaaGreatDoor.fr (FR)
open Go.Proofs.YthbbpfgjbidbhaaGreatDoor.el2 (E2)
open Go.Proofs.YthbbpfgjbidbhaaGreatDoor.ints (ival)
set_option linter.unusedVariables false
set_option linter.unusedSimpArgs false
/-- the block k is none of the rows' -/
def Off9 (F : Nat → Option Addr) (C : List (List Ver)) (k : Nat) : Prop := ∀ i l, C[i]? = some l → F i ≠ some ⟨k, 0, none⟩
structure MO (W : World) (lo hi g n : Nat) (F : Nat → Option Addr) (D : Nat → Nat) (C : List (List Ver)) (k0 : Int) (j : Nat) : Prop where
  len : C.length = n
  gl : lo ≤ g
  gh : g < hi
  cell : ∀ i l, C[i]? = some l → W.cell? ⟨g, i, none⟩ = some (.slice (F i) l.length (D i))
  rowM : ∀ i l, C[i]? = some l → i < j → MvS W lo hi (F i) l.length (k0 + ((cnt (C.take i) * 5 : Nat) : Int))
  rowO : ∀ i l, C[i]? = some l → ¬ i < j → OvS W lo hi (F i) l.length l
  ne : Off9 F C g
  apart : ∀ i i' l l' q, i ≠ i' → C[i]? = some l → C[i']? = some l' → F i = some ⟨q, 0, none⟩ → F i' ≠ some ⟨q, 0, none⟩
section
variable {W W' : World} {lo hi g n j : Nat} {F : Nat → Option Addr} {D : Nat → Nat} {C : List (List Ver)} {k0 : Int} {v : Value}
theorem OvS.kept {A : Option Addr} {m : Nat} {l : List Ver} (h : OvS W lo hi A m l) (hk : ∀ q, A = some ⟨q, 0, none⟩ → W'.heap[q]? = W.heap[q]?) : OvS W' lo hi A m l := by
  obtain ⟨hl2, c, ho, hq⟩ := h
  refine ⟨hl2, c, Go.Proofs.YthbbpfgjbidbhaaGreatDoor.oq.own_of ho fun q e => ?_, hq⟩
  rcases ho.2 with ⟨h0, h1⟩ | ⟨b, cap, cur, e2, hb, hh, hr⟩
  · rw [h0] at e; cases e
  · rw [e2] at e
    injection e with e
    subst e
    injection e2 with e3 _ _
    exact hk _ e3
theorem MvS.kept {A : Option Addr} {m : Nat} {k1 : Int} (h : MvS W lo hi A m k1) (hk : ∀ q, A = some ⟨q, 0, none⟩ → W'.heap[q]? = W.heap[q]?) : MvS W' lo hi A m k1 := fun hm => by
  obtain ⟨b, M, e, h1, h2, hM, hx⟩ := h hm
  exact ⟨b, M, e, h1, h2, hM, hx.of_block (hk b e)⟩
theorem MO.kept (h : MO W lo hi g n F D C k0 j) (hg : W'.heap[g]? = W.heap[g]?) (hk : ∀ q, ¬ Off9 F C q → W'.heap[q]? = W.heap[q]?) : MO W' lo hi g n F D C k0 j where
  len := h.len
  gl := h.gl
  gh := h.gh
  cell := fun i l hl => (World.cell?_of_block (a := ⟨g, i, none⟩) hg).trans (h.cell i l hl)
  rowM := fun i l hl hi => MvS.kept (h.rowM i l hl hi) fun q e => hk q fun o => o i l hl e
  rowO := fun i l hl hi => OvS.kept (h.rowO i l hl hi) fun q e => hk q fun o => o i l hl e
  ne := h.ne
  apart := h.apart
theorem MO.below (h : MO W lo hi g n F D C k0 j) (hh : hi ≤ W.heap.size) (hb : Below W.heap.size W W') (hlt : ∀ q, ¬ Off9 F C q → q < W.heap.size) : MO W' lo hi g n F D C k0 j :=
  h.kept (hb.block g (by have := h.gh; omega)) fun q hq => hb.block q (hlt q hq)
/-- a row has been marked -/
theorem MO.step {l : List Ver} (h : MO W lo hi g n F D C k0 j) (hl : C[j]? = some l) (hm : MvS W' lo hi (F j) l.length (k0 + ((cnt (C.take j) * 5 : Nat) : Int))) (hk : ∀ k, (∀ b, F j = some ⟨b, 0, none⟩ → 0 < l.length → k ≠ b) → W'.heap[k]? = W.heap[k]?) : MO W' lo hi g n F D C k0 (j + 1) where
  len := h.len
  gl := h.gl
  gh := h.gh
  cell := fun i l' hl' => (World.cell?_of_block (a := ⟨g, i, none⟩) (hk g fun b e _ e2 => h.ne j l hl (e2 ▸ e))).trans (h.cell i l' hl')
  rowM := fun i l' hl' hi => by
    rcases Nat.lt_or_ge i j with hlt | hge
    · exact MvS.kept (h.rowM i l' hl' hlt) fun q e => hk q fun b e2 _ e3 => h.apart i j l' l q (by omega) hl' hl e (e3 ▸ e2)
    · obtain rfl : i = j := by omega
      rw [hl] at hl'
      injection hl' with hl'
      subst hl'
      exact hm
  rowO := fun i l' hl' hi => OvS.kept (h.rowO i l' hl' (by omega)) fun q e => hk q fun b e2 _ e3 => h.apart i j l' l q (by omega) hl' hl e (e3 ▸ e2)
  ne := h.ne
  apart := h.apart
theorem MO.of_os (h : OS W lo v n C) (hn : 0 < n) (hh : W.heap.size ≤ hi) (k0 : Int) : ∃ g cap F D, v = .slice (some ⟨g, 0, none⟩) n cap ∧ MO W lo hi g n F D C k0 0 ∧ (∃ cur, W.heap[g]? = some (.cells cur 73 (0, 0))) ∧ (∀ q, ¬ Off9 F C q → ∃ cur, W.heap[q]? = some (.cells cur 81 (0, 0))) := by
  obtain ⟨vals, h1, h2, h3, h4⟩ := h
  rcases h1.2 with ⟨_, h0⟩ | ⟨g, cap, cur, rfl, hbg, hgg, _⟩
  · have := h1.1
    rw [h0] at this
    simp at this
    omega
  · have hgl := (h1.lt g rfl).2
    have key : ∀ i l, C[i]? = some l → ∃ A c, vals[i]? = some (Value.slice A l.length c) ∧ W.ownsRow lo 81 5 (.slice A l.length c) l.length (flat l) := fun i l hl => by
      have hi : i < vals.length := by have := lt_of_some hl; have := h1.1; omega
      obtain ⟨l2, hl2, hr⟩ := h3 i _ (List.getElem?_eq_getElem hi)
      rw [hl] at hl2
      injection hl2 with hl2
      subst hl2
      obtain ⟨A, c, he, _⟩ := own_vs hr rfl
      rw [he] at hr
      exact ⟨A, c, by rw [List.getElem?_eq_getElem hi, he], hr⟩
    obtain ⟨F, hF⟩ : ∃ F : Nat → Option Addr, ∀ i A m c, vals[i]? = some (Value.slice A m c) → F i = A := ⟨fun i => match vals[i]? with | some (Value.slice A _ _) => A | _ => none, fun i A m c e => by simp only [e]⟩
    obtain ⟨D, hD⟩ : ∃ D : Nat → Nat, ∀ i A m c, vals[i]? = some (Value.slice A m c) → D i = c := ⟨fun i => match vals[i]? with | some (Value.slice _ _ c) => c | _ => 0, fun i A m c e => by simp only [e]⟩
    have own : ∀ {A : Option Addr} {m c q : Nat} {xs : List Value}, W.ownsRow lo 81 5 (.slice A m c) m xs → A = some ⟨q, 0, none⟩ → (Value.slice A m c).ownBlock = some q := fun hr e => by subst e; rfl
    refine ⟨g, cap, F, D, rfl, ⟨h2, hbg, by omega, fun i l hl => ?_, fun _ _ _ hi => absurd hi (by omega), fun i l hl _ => ?_, fun i l hl e => ?_, fun i i' l l' q hne hl hl' e e' => ?_⟩, ⟨cur, hgg⟩, fun q hq => ?_⟩
    · obtain ⟨A, c, hv, hr⟩ := key i l hl
      rw [hF _ _ _ _ hv, hD _ _ _ _ hv]
      have hc := h1.cellAt (g := g) (cap := cap) i (by have := lt_of_some hl; omega)
      rw [hv] at hc
      exact hc
    · obtain ⟨A, c, hv, hr⟩ := key i l hl
      rw [hF _ _ _ _ hv]
      exact OvS.of_own hr rfl hh
    · obtain ⟨A, c, hv, hr⟩ := key i l hl
      rw [hF _ _ _ _ hv] at e
      exact Go.Proofs.YthbbpfgjbidbhaaGreatDoor.os.row_ne h1 hr (own hr e) rfl
    · obtain ⟨A, c, hv, hr⟩ := key i l hl
      obtain ⟨A', c', hv', hr'⟩ := key i' l' hl'
      rw [hF _ _ _ _ hv] at e
      rw [hF _ _ _ _ hv'] at e'
      exact h4 i i' _ _ hne hv hv' q (own hr e) (own hr' e')
    · rcases Classical.em (∃ cur, W.heap[q]? = some (.cells cur 81 (0, 0))) with h9 | h9
      · exact h9
      · exact absurd (fun i l hl e => by
          obtain ⟨A, c, hv, hr⟩ := key i l hl
          rw [hF _ _ _ _ hv] at e
          exact h9 (own_cells hr (own hr e))) hq
theorem lt_of_cells {q : Nat} {cur : Array Value} {t : TypeId} (h : W.heap[q]? = some (.cells cur t (0, 0))) : q < W.heap.size := by
  rcases Nat.lt_or_ge q W.heap.size with h9 | h9
  · exact h9
  · rw [Array.getElem?_eq_none h9] at h; cases h
/-- a list of another type lies elsewhere -/
theorem apart_list {t t' : TypeId} {lo2 hi2 m q b : Nat} {A : Option Addr} {R : List E2} {cur : Array Value} (ho : Go.Proofs.YthbbpfgjbidbhaaGreatDoor.ow2.OwS t W lo2 hi2 A m R) (ht : t ≠ t') (hq : W.heap[q]? = some (.cells cur t' (0, 0))) (e : A = some ⟨b, 0, none⟩) (hm : 0 < m) : q ≠ b := by
  rintro rfl
  obtain ⟨g, M, f, e2, _, _, ⟨c2, hc2, _⟩, _⟩ := ho.2 hm
  rw [e] at e2
  injection e2 with e2
  injection e2 with e2
  subst e2
  rw [hq] at hc2
  injection hc2 with e3
  injection e3 with _ e4 _
  exact ht e4.symm
end
set_option maxRecDepth 100000 in
set_option maxHeartbeats 1600000 in
theorem mark_os {w : World} {lo hi g n c : Nat} {F : Nat → Option Addr} {D : Nat → Nat} {C : List (List Ver)} {k0 : Int} (h0 : 0 ≤ k0) (h1 : k0 ≤ 1048576) (hn : n ≤ 1048576) (hc : cnt C ≤ 1048576) (h : MO w lo hi g n F D C k0 0) :
    Calls Tryz.prog 35 #[.slice (some ⟨g, 0, none⟩) n c, .int .i64 k0] w fun e w' => e = .returned (.int .i64 (k0 + ((cnt C * 5 : Nat) : Int))) ∧ MO w' lo hi g n F D C k0 n ∧ FR lo hi w w' ∧ w'.heap.size = w.heap.size ∧ ∀ k, Off9 F C k → w'.heap[k]? = w.heap[k]? := by
  have H := Lib.hid h
  have hl := h.len
  clear h
  go_enter Tryz.func35, Tryz.ntmps35
  go_wp2
  go_loopw [1, 5] (fun k i wr => ∃ j : Nat, j ≤ n ∧ i = .int .i64 j ∧ k = .int .i64 (k0 + ((cnt (C.take j) * 5 : Nat) : Int)) ∧ MO wr lo hi g n F D C k0 j ∧ FR lo hi w wr ∧ wr.heap.size = w.heap.size ∧ ∀ k, Off9 F C k → wr.heap[k]? = w.heap[k]?) (fun _ i _ => n - (intOf i).toNat)
  case atStart => exact ⟨0, by omega, rfl, ival (by simp [cnt]), H.out, FR.same _, rfl, fun _ _ => rfl⟩
  case round =>
    obtain ⟨j, hj, rfl, rfl, hm, hf, hs, hk⟩ := hrel
    have HM := Lib.hid hm
    have HF := Lib.hid hf
    have HK := Lib.hid hk
    by_cases hlt : j < n
    · obtain ⟨l, hx⟩ : ∃ l, C[j]? = some l := ⟨_, List.getElem?_eq_getElem (by omega)⟩
      have hcell := hm.cell j l hx
      have HR := Lib.hid (hm.rowO j l hx (by omega))
      have HX := Lib.hid hx
      have hlen := len_le hx
      have hct := cnt_take hx
      have hcl := cnt_le C j
      obtain ⟨x, hxx⟩ : ∃ x : Int, x = k0 + ((cnt (C.take j) * 5 : Nat) : Int) := ⟨_, rfl⟩
      have x0 : 0 ≤ x := by omega
      have x1 : x ≤ 1152921504606846976 := by omega
      rw [← hxx]
      have HXX := Lib.hid hxx
      clear hm hf hk hx hxx
      go_wp2_with fail
      refine (mark_v x0 x1 (by omega) HR.out).mono ?_
      rintro e W1 ⟨rfl, hm1, hf1, hs1, hk1⟩
      have HM2 := Lib.hid (HM.out.step HX.out (by rw [← HXX.out]; exact hm1) hk1)
      have HF2 := Lib.hid (HF.out.trans hf1)
      have HK2 := Lib.hid (fun (k : Nat) (ho : Off9 F C k) => (hk1 k fun b e _ e2 => ho j l HX.out (e2 ▸ e)).trans (HK.out k ho))
      have hs2 : W1.heap.size = w.heap.size := by omega
      clear hm1 hf1 hk1 hcell hs1
      go_wp2_with fail
      go_roundw
      case rel => exact ⟨j + 1, by omega, by go_num, ival (by have := HXX.out; omega), HM2.out, HF2.out, hs2, HK2.out⟩
      case measure => simp [intOf]; omega
    · obtain rfl : j = n := by omega
      have ha := cnt_all hl
      rw [ha]
      clear hm hf hk
      go_wp2_with fail
      go_ret
      exact ⟨rfl, HM.out, HF.out, hs, HK.out⟩
set_option maxRecDepth 100000 in
set_option maxHeartbeats 1600000 in
theorem held_os {w : World} {lo hi g n c : Nat} {F : Nat → Option Addr} {D : Nat → Nat} {C : List (List Ver)} {k0 : Int} (h0 : 0 ≤ k0) (h1 : k0 ≤ 1048576) (hn : n ≤ 1048576) (hc : cnt C ≤ 1048576) (h : MO w lo hi g n F D C k0 n) :
    Calls Tryz.prog 38 #[.slice (some ⟨g, 0, none⟩) n c, .int .i64 k0] w fun e w' => e = .returned (.int .i64 (k0 + ((cnt C * 5 : Nat) : Int))) ∧ w = w' := by
  have H := Lib.hid h
  have hl := h.len
  clear h
  go_enter Tryz.func38, Tryz.ntmps38
  go_wp2
  go_loop [1, 5] (fun k i => ∃ j : Nat, j ≤ n ∧ i = .int .i64 j ∧ k = .int .i64 (k0 + ((cnt (C.take j) * 5 : Nat) : Int))) (fun _ i => n - (intOf i).toNat)
  case atStart => exact ⟨0, by omega, rfl, ival (by simp [cnt])⟩
  case round =>
    obtain ⟨j, hj, rfl, rfl⟩ := hrel
    by_cases hlt : j < n
    · obtain ⟨l, hx⟩ : ∃ l, C[j]? = some l := ⟨_, List.getElem?_eq_getElem (by omega)⟩
      have hcell := H.out.cell j l hx
      have HR := Lib.hid (H.out.rowM j l hx hlt)
      have hlen := len_le hx
      have hct := cnt_take hx
      have hcl := cnt_le C j
      obtain ⟨x, hxx⟩ : ∃ x : Int, x = k0 + ((cnt (C.take j) * 5 : Nat) : Int) := ⟨_, rfl⟩
      have x0 : 0 ≤ x := by omega
      have x1 : x ≤ 1152921504606846976 := by omega
      have x2 : decide (x + ((l.length * 5 : Nat) : Int) < 0) = false := decide_eq_false (by omega)
      rw [← hxx]
      have HXX := Lib.hid hxx
      clear hx hxx
      go_wp2_with fail
      refine (held_v x0 x1 (by omega) (by rw [HXX.out]; exact HR.out)).mono ?_
      rintro e W1 ⟨rfl, rfl⟩
      go_wp2_with fail
      go_round
      case rel => exact ⟨j + 1, by omega, by go_num, ival (by have := HXX.out; omega)⟩
      case measure => simp [intOf]; omega
    · obtain rfl : j = n := by omega
      have ha := cnt_all hl
      rw [ha]
      go_wp2_with fail
      go_ret
      exact ⟨rfl, rfl⟩
theorem mark_s0 {w : World} {c : Nat} {A : Option Addr} (k0 : Int) :
    Calls Tryz.prog 12 #[.agg #[.slice A 0 c], .int .i64 k0] w fun e w' => e = .returned (.int .i64 k0) ∧ Below w.heap.size w w' := by
  have HR := Lib.hid (fun (W : World) => show Calls Tryz.prog 35 #[.slice A 0 c, .int .i64 k0] W fun e w' => e = .returned (.int .i64 k0) ∧ W = w' by
    go_enter Tryz.func35, Tryz.ntmps35
    go_wp2
    go_loop [1, 5] (fun k i => k = .int .i64 k0 ∧ i = .int .i64 0) (fun _ _ => 0)
    case atStart => exact ⟨rfl, rfl⟩
    case round =>
      obtain ⟨rfl, rfl⟩ := hrel
      go_wp2
      go_ret
      exact ⟨rfl, rfl⟩)
  go_enter Tryz.func12, Tryz.ntmps12
  go_wp2_with fail
  have hb := new1 w (.cells #[.slice A 0 c] 33)
  generalize w.alloc _ = W0 at hb ⊢
  have HB := Lib.hid hb
  clear hb
  refine (HR.out W0).mono ?_
  rintro e W1 ⟨rfl, rfl⟩
  go_wp2_with fail
  go_ret
  exact ⟨rfl, HB.out⟩
theorem held_s0 {w : World} {c : Nat} {A : Option Addr} (k0 : Int) (h0 : 0 ≤ k0) :
    Calls Tryz.prog 14 #[.agg #[.slice A 0 c], .int .i64 k0] w fun e w' => e = .returned (.int .i64 k0) ∧ Below w.heap.size w w' := by
  have x2 : decide (k0 < 0) = false := decide_eq_false (by omega)
  have HR := Lib.hid (fun (W : World) => show Calls Tryz.prog 38 #[.slice A 0 c, .int .i64 k0] W fun e w' => e = .returned (.int .i64 k0) ∧ W = w' by
    go_enter Tryz.func38, Tryz.ntmps38
    go_wp2
    go_loop [1, 5] (fun k i => k = .int .i64 k0 ∧ i = .int .i64 0) (fun _ _ => 0)
    case atStart => exact ⟨rfl, rfl⟩
    case round =>
      obtain ⟨rfl, rfl⟩ := hrel
      go_wp2
      go_ret
      exact ⟨rfl, rfl⟩)
  go_enter Tryz.func14, Tryz.ntmps14
  go_wp2_with fail
  have hb := new1 w (.cells #[.slice A 0 c] 33)
  generalize w.alloc _ = W0 at hb ⊢
  have HB := Lib.hid hb
  clear hb
  refine (HR.out W0).mono ?_
  rintro e W1 ⟨rfl, rfl⟩
  go_wp2_with fail
  go_ret
  exact ⟨rfl, HB.out⟩
/-! a store -/
theorem mark_s {w : World} {lo hi g n c : Nat} {F : Nat → Option Addr} {D : Nat → Nat} {C : List (List Ver)} {k0 : Int} (h0 : 0 ≤ k0) (h1 : k0 ≤ 1048576) (hn : n ≤ 1048576) (hc : cnt C ≤ 1048576) (h : MO w lo hi g n F D C k0 0) (hh : hi ≤ w.heap.size) (hlt : ∀ q, ¬ Off9 F C q → q < w.heap.size) :
    Calls Tryz.prog 12 #[.agg #[.slice (some ⟨g, 0, none⟩) n c], .int .i64 k0] w fun e w' => e = .returned (.int .i64 (k0 + ((cnt C * 5 : Nat) : Int))) ∧ MO w' lo hi g n F D C k0 n ∧ FR lo hi w w' ∧ ∀ k, k < w.heap.size → Off9 F C k → w'.heap[k]? = w.heap[k]? := by
  have H := Lib.hid h
  have HLT := Lib.hid hlt
  clear h hlt
  go_enter Tryz.func12, Tryz.ntmps12
  go_wp2_with fail
  have hb := new1 w (.cells #[.slice (some ⟨g, 0, none⟩) n c] 33)
  generalize w.alloc _ = W0 at hb ⊢
  have HB := Lib.hid hb
  have h2 := H.out.below hh hb HLT.out
  clear hb
  refine (mark_os h0 h1 hn hc h2).mono ?_
  rintro e W1 ⟨rfl, hm, hf, hs, hk⟩
  have HM := Lib.hid hm
  have HF := Lib.hid ((FR.of_below (lo := lo) (hi := hi) HB.out).trans hf)
  have HK := Lib.hid hk
  clear hm hf hk h2
  go_wp2_with fail
  go_ret
  exact ⟨rfl, HM.out, HF.out, fun k hk ho => (HK.out k ho).trans (HB.out.block k hk)⟩
theorem held_s {w : World} {lo hi g n c : Nat} {F : Nat → Option Addr} {D : Nat → Nat} {C : List (List Ver)} {k0 : Int} (h0 : 0 ≤ k0) (h1 : k0 ≤ 1048576) (hn : n ≤ 1048576) (hc : cnt C ≤ 1048576) (h : MO w lo hi g n F D C k0 n) (hh : hi ≤ w.heap.size) (hlt : ∀ q, ¬ Off9 F C q → q < w.heap.size) :
    Calls Tryz.prog 14 #[.agg #[.slice (some ⟨g, 0, none⟩) n c], .int .i64 k0] w fun e w' => e = .returned (.int .i64 (k0 + ((cnt C * 5 : Nat) : Int))) ∧ Below w.heap.size w w' := by
  have H := Lib.hid h
  have HLT := Lib.hid hlt
  have x2 : decide (k0 + ((cnt C * 5 : Nat) : Int) < 0) = false := decide_eq_false (by omega)
  clear h hlt
  go_enter Tryz.func14, Tryz.ntmps14
  go_wp2_with fail
  have hb := new1 w (.cells #[.slice (some ⟨g, 0, none⟩) n c] 33)
  generalize w.alloc _ = W0 at hb ⊢
  have HB := Lib.hid hb
  have h2 := H.out.below hh hb HLT.out
  clear hb
  refine (held_os h0 h1 hn hc h2).mono ?_
  rintro e W1 ⟨rfl, rfl⟩
  clear h2
  go_wp2_with fail
  go_ret
  exact ⟨rfl, HB.out⟩
end Go.Proofs.YthbbpfgjbidbhaaGreatDoor.mo
namespace Go.Proofs.YthbbpfgjbidbhaaGreatDoor.mt
open Go.ChangeShapes Go.WideShapes Go.ChangeAt Go.RowKit
open Go.Proofs.YthbbpfgjbidbhaaGreatDoor.el2 Go.Proofs.YthbbpfgjbidbhaaGreatDoor.fr Go.Proofs.YthbbpfgjbidbhaaGreatDoor.ow2 Go.Proofs.YthbbpfgjbidbhaaGreatDoor.tx Go.Proofs.YthbbpfgjbidbhaaGreatDoor.tm
set_option linter.unusedVariables false
def MkG (w : World) (lo hi : Nat) (A : Option Addr) (n : Nat) (A2 : Option Addr) (n2 : Nat) (k0 : Int) : Prop := MkS 78 w lo hi A n k0 ∧ MkS 75 w lo hi A2 n2 (k0 + (n * 2 : Nat))
set_option maxHeartbeats 800000 in
theorem mark_g {w : World} {lo hi n c n2 c2 : Nat} {A A2 : Option Addr} {R S : List E2} (x : Hd) {k0 : Int} (h0 : 0 ≤ k0) (hk0 : k0 ≤ 1125899906842624) (hn : n ≤ 1048576) (hn2 : n2 ≤ 1048576) (h : OwT w lo hi A n R A2 n2 S) (hw : hi ≤ w.heap.size) :
    Calls Tryz.prog 13 #[.agg #[.int .i64 x.i, .int .i64 x.s, .int .i64 x.t, .int .i64 x.b, .int .i64 x.l, .int .i64 x.h, .int .i64 x.c, .slice A n c, .slice A2 n2 c2], .int .i64 k0] w fun e w' => e = .returned (.int .i64 (k0 + (n * 2 : Nat) + (n2 * 2 : Nat))) ∧ MkG w' lo hi A n A2 n2 k0 ∧ FR lo hi w w' ∧ ∀ k, k < w.heap.size → (∀ g, A = some ⟨g, 0, none⟩ → 0 < n → k ≠ g) → (∀ g, A2 = some ⟨g, 0, none⟩ → 0 < n2 → k ≠ g) → w'.heap[k]? = w.heap[k]? := by
  have H1 := Lib.hid h.1
  have H2 := Lib.hid h.2
  clear h
  go_enter Tryz.func13, Tryz.ntmps13
  go_wp2_with fail
  have hb := new1 w (.cells #[.int .i64 x.i, .int .i64 x.s, .int .i64 x.t, .int .i64 x.b, .int .i64 x.l, .int .i64 x.h, .int .i64 x.c, .slice A n c, .slice A2 n2 c2] 37)
  have tb := TB.new w x A n c A2 n2 c2 37
  have hs : (w.alloc (.cells #[.int .i64 x.i, .int .i64 x.s, .int .i64 x.t, .int .i64 x.b, .int .i64 x.l, .int .i64 x.h, .int .i64 x.c, .slice A n c, .slice A2 n2 c2] 37)).heap.size = w.heap.size + 1 := by simp
  generalize w.alloc (.cells #[.int .i64 x.i, .int .i64 x.s, .int .i64 x.t, .int .i64 x.b, .int .i64 x.l, .int .i64 x.h, .int .i64 x.c, .slice A n c, .slice A2 n2 c2] 37) = W0 at hb tb hs ⊢
  have HK0 := Lib.hid (fun (k : Nat) (hk : k < w.heap.size) => hb.block k hk)
  have HF0 : Hid (FR lo hi w W0) := Lib.hid (FR.of_below hb)
  have h1 := H1.out.fr (FR.of_below (lo := hi) (hi := hi) hb) (.inl (Nat.le_refl _)) hw
  have h2 := H2.out.fr (FR.of_below (lo := hi) (hi := hi) hb) (.inl (Nat.le_refl _)) hw
  clear H1 H2 hb
  have hne : ∀ g g2, A = some ⟨g, 0, none⟩ → 0 < n → A2 = some ⟨g2, 0, none⟩ → 0 < n2 → g ≠ g2 := by
    intro g g2 e p e2 p2
    obtain ⟨g', M, f, e', _, _, hr, _⟩ := h1.2 p
    obtain ⟨g2', M2, f2, e2', _, _, hr2, _⟩ := h2.2 p2
    rw [e] at e'
    rw [e2] at e2'
    injection e' with e'
    injection e2' with e2'
    injection e' with e'
    injection e2' with e2'
    subst e' e2'
    exact row_ne hr hr2 (by decide)
  have HN := Lib.hid hne
  have HT2 := Lib.hid h2
  have HT := Lib.hid tb
  clear hne h2 tb
  refine (mark_r h0 (by omega) hn h1).mono ?_
  rintro e W1 ⟨rfl, hm, hf, hz, hk⟩
  have hbl : ∀ k, w.heap.size ≤ k → W1.heap[k]? = W0.heap[k]? := fun k hge => hk k fun g e p => by
    obtain ⟨g', M, f, e', _, hlt, _⟩ := h1.2 p
    rw [e] at e'
    injection e' with e'
    injection e' with e'
    omega
  obtain ⟨t0, t1, t2, t3, t4, t5, t6, t7, t8⟩ := HT.out.of_block (hbl _ (Nat.le_refl _))
  have h2 : OwS 75 W1 lo hi A2 n2 S := ⟨HT2.out.1, fun p2 => by
    obtain ⟨g2, M2, f2, e2, a1, a2, hr2, hM2⟩ := HT2.out.2 p2
    exact ⟨g2, M2, f2, e2, a1, a2, hr2.of_block (hk g2 fun g e p => (HN.out g g2 e p e2 p2).symm), hM2⟩⟩
  have HK1 := Lib.hid hk
  have HF1 : Hid (FR lo hi w W1) := Lib.hid (HF0.out.trans hf)
  have HM := Lib.hid hm
  have H2 := Lib.hid h2
  have hz1 : W1.heap.size = w.heap.size + 1 := by omega
  clear hm hf hk hbl h2 HT HT2 hz t0 t1 t2 t3 t4 t5 t6 t7
  obtain ⟨k1, hk1⟩ : ∃ k1 : Int, k1 = k0 + ((n * 2 : Nat) : Int) := ⟨_, rfl⟩
  rw [← hk1]
  have HK := Lib.hid hk1
  have k10 : 0 ≤ k1 := by omega
  have k11 : k1 ≤ 1152921504606846976 := by omega
  clear hk1
  go_wp2_with fail
  refine (mark_w k10 k11 hn2 H2.out).mono ?_
  rintro e W2 ⟨rfl, hm, hf, hz, hk⟩
  have hm1 : MkS 78 W2 lo hi A n k0 := fun p => by
    obtain ⟨g, M, e, a1, a2, hM, hmk⟩ := HM.out p
    exact ⟨g, M, e, a1, a2, hM, hmk.of_block (hk g fun g2 e2 p2 => HN.out g g2 e p e2 p2)⟩
  rw [HK.out] at hm
  have HK2 := Lib.hid hk
  have HF2 : Hid (FR lo hi w W2) := Lib.hid (HF1.out.trans hf)
  have HR := Lib.hid (show MkG W2 lo hi A n A2 n2 k0 from ⟨hm1, hm⟩)
  clear hm hm1 hf hk
  go_wp2_with fail
  go_ret
  exact ⟨ret_i (by have := HK.out; omega), HR.out, HF2.out, fun k hk h1 h2 => ((HK2.out k h2).trans (HK1.out k h1)).trans (HK0.out k hk)⟩
set_option maxHeartbeats 800000 in
theorem held_g {w : World} {lo hi n c n2 c2 : Nat} {A A2 : Option Addr} (x : Hd) {k0 : Int} (h0 : 0 ≤ k0) (hk0 : k0 ≤ 1125899906842624) (hn : n ≤ 1048576) (hn2 : n2 ≤ 1048576) (h : MkG w lo hi A n A2 n2 k0) (hw : hi ≤ w.heap.size) :
    Calls Tryz.prog 15 #[.agg #[.int .i64 x.i, .int .i64 x.s, .int .i64 x.t, .int .i64 x.b, .int .i64 x.l, .int .i64 x.h, .int .i64 x.c, .slice A n c, .slice A2 n2 c2], .int .i64 k0] w fun e w' => e = .returned (.int .i64 (k0 + (n * 2 : Nat) + (n2 * 2 : Nat))) ∧ Below w.heap.size w w' := by
  have H1 := Lib.hid h.1
  have H2 := Lib.hid h.2
  clear h
  obtain ⟨k1, hk1⟩ : ∃ k1 : Int, k1 = k0 + ((n * 2 : Nat) : Int) := ⟨_, rfl⟩
  have t1 : decide (k1 < 0) = false := decide_eq_false (by omega)
  have t2 : decide (k1 + ((n2 * 2 : Nat) : Int) < 0) = false := decide_eq_false (by omega)
  have k10 : 0 ≤ k1 := by omega
  have k11 : k1 ≤ 1152921504606846976 := by omega
  have HK := Lib.hid hk1
  clear hk1
  go_enter Tryz.func15, Tryz.ntmps15
  go_wp2_with fail
  have hb := new1 w (.cells #[.int .i64 x.i, .int .i64 x.s, .int .i64 x.t, .int .i64 x.b, .int .i64 x.l, .int .i64 x.h, .int .i64 x.c, .slice A n c, .slice A2 n2 c2] 37)
  have tb := TB.new w x A n c A2 n2 c2 37
  generalize w.alloc (.cells #[.int .i64 x.i, .int .i64 x.s, .int .i64 x.t, .int .i64 x.b, .int .i64 x.l, .int .i64 x.h, .int .i64 x.c, .slice A n c, .slice A2 n2 c2] 37) = W0 at hb tb ⊢
  have h1 := H1.out.fr (FR.of_below (lo := hi) (hi := hi) hb) (.inl (Nat.le_refl _)) hw
  have h2 := Lib.hid (H2.out.fr (FR.of_below (lo := hi) (hi := hi) hb) (.inl (Nat.le_refl _)) hw)
  have HB := Lib.hid hb
  obtain ⟨t0, t1', t2', t3, t4, t5, t6, t7, t8⟩ := tb
  clear H1 H2 hb t0 t1' t2' t3 t4 t5 t6 t7
  refine (held_r h0 (by omega) hn h1).mono ?_
  rintro e W ⟨rfl, rfl⟩
  rw [← HK.out]
  clear h1
  go_wp2_with fail
  refine (held_w k10 k11 hn2 (by have := h2.out; rw [← HK.out] at this; exact this)).mono ?_
  rintro e W ⟨rfl, rfl⟩
  go_wp2_with fail
  go_ret
  exact ⟨ret_i (by have := HK.out; omega), HB.out⟩
end Go.Proofs.YthbbpfgjbidbhaaGreatDoor.mt
