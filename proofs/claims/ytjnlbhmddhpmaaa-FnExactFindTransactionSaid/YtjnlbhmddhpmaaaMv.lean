/- Owned lists of versions, as a law marks them and looks at the marks. -/
import Derived.Test.YtjnlbhmddhpmaaaMarkS
import Derived.Test.YtjnlbhmddhpmaaaOq
import Derived.Test.YtjnlbhmddhpmaaaFr
namespace Go.Proofs.Ytjnlbhmddhpmaaa.mv
open Go.ChangeShapes Go.WideShapes Go.ChangeAt Go.RowKit
open Go.Proofs.Ytjnlbhmddhpmaaa.vers Go.Proofs.Ytjnlbhmddhpmaaa.sl Go.Proofs.Ytjnlbhmddhpmaaa.st Go.Proofs.Ytjnlbhmddhpmaaa.flat Go.Proofs.Ytjnlbhmddhpmaaa.oq Go.Proofs.Ytjnlbhmddhpmaaa.marks
open Go.Proofs.Ytjnlbhmddhpmaaa.fr (FR)
set_option linter.unusedVariables false
set_option linter.unusedSimpArgs false
def OvS (w : World) (lo hi : Nat) (A : Option Addr) (n : Nat) (l : List Ver) : Prop :=
  l.length = n ∧ ∃ c, w.ownsRow lo 99 5 (.slice A n c) n (flat l) ∧ ∀ q, (Value.slice A n c).ownBlock = some q → q < hi
def MvS (w : World) (lo hi : Nat) (A : Option Addr) (n : Nat) (k0 : Int) : Prop := 0 < n → ∃ g M, A = some ⟨g, 0, none⟩ ∧ lo ≤ g ∧ g < hi ∧ n * 5 ≤ M ∧ MK w g M k0 n
section
variable {w w' : World} {lo hi a b n c B : Nat} {A : Option Addr} {l : List Ver} {k0 : Int}
theorem OvS.vs (h : OvS w lo hi A n l) (hB : hi ≤ B) : Vs w B A n l := ⟨h.1, fun hn => by
  obtain ⟨hl, c, ho, hq⟩ := h
  obtain ⟨A9, c9, e, hv⟩ := own_vs ho hl
  injection e with e1 _ e2
  subst e1
  obtain ⟨b9, o9, e9, hb9, hx⟩ := hv.2 hn
  refine ⟨b9, o9, e9, ?_, hx⟩
  subst e9
  have := hq b9 rfl
  omega⟩
theorem OvS.fr (h : OvS w lo hi A n l) (hf : FR a b w w') (hd : hi ≤ a ∨ b ≤ lo) (hs : hi ≤ w.heap.size) : OvS w' lo hi A n l := by
  obtain ⟨hl, c, ho, hq⟩ := h
  exact ⟨hl, c, own_of ho fun q e => hf.block q (by have := hq q e; omega) (by have := hq q e; have := (ho.lt q e).1; omega), hq⟩
theorem MvS.fr (h : MvS w lo hi A n k0) (hf : FR a b w w') (hd : hi ≤ a ∨ b ≤ lo) (hs : hi ≤ w.heap.size) : MvS w' lo hi A n k0 := fun hn => by
  obtain ⟨g, M, e, h1, h2, hM, hk⟩ := h hn
  exact ⟨g, M, e, h1, h2, hM, hk.of_block (hf.block _ (by omega) (by omega))⟩
theorem OvS.of_own (h : w.ownsRow lo 99 5 (.slice A n c) n (flat l)) (hl : l.length = n) (h2 : w.heap.size ≤ hi) : OvS w lo hi A n l := ⟨hl, c, h, fun q e => by have := (h.lt q e).2; omega⟩
theorem mk_of {g cap : Nat} {cur : Array Value} (hg : w.heap[g]? = some (.cells cur 99 (0, 0))) (k0 : Int) : MK w g cur.size k0 0 :=
  ⟨fun i => cur[i]?.getD undef, ⟨cur, hg, rfl, fun i hi => by show cur[i]? = some (cur[i]?.getD undef); rw [Array.getElem?_eq_getElem hi]; rfl⟩, fun i hi => absurd hi (by omega)⟩
end
theorem mark0 (A : Option Addr) (c : Nat) (k0 : Int) (w : World) :
    Calls Try.prog 99 #[.slice A 0 c, .int .i64 k0] w fun e w' => e = .returned (.int .i64 k0) ∧ w = w' := by
  go_enter Try.func99, Try.ntmps99
  go_wp2
  go_loop [1, 5] (fun k i => k = .int .i64 k0 ∧ i = .int .i64 0) (fun _ _ => 0)
  case atStart => exact ⟨rfl, rfl⟩
  case round =>
    obtain ⟨rfl, rfl⟩ := hrel
    go_wp2
    go_ret
    exact ⟨rfl, rfl⟩
theorem held0 (A : Option Addr) (c : Nat) (k0 : Int) (w : World) :
    Calls Try.prog 100 #[.slice A 0 c, .int .i64 k0] w fun e w' => e = .returned (.int .i64 k0) ∧ w = w' := by
  go_enter Try.func100, Try.ntmps100
  go_wp2
  go_loop [1, 5] (fun k i => k = .int .i64 k0 ∧ i = .int .i64 0) (fun _ _ => 0)
  case atStart => exact ⟨rfl, rfl⟩
  case round =>
    obtain ⟨rfl, rfl⟩ := hrel
    go_wp2
    go_ret
    exact ⟨rfl, rfl⟩
/-- marks of a list: of what was there only the row's block has changed -/
theorem mark_v {w : World} {lo hi n c : Nat} {A : Option Addr} {l : List Ver} {k0 : Int} (h0 : 0 ≤ k0) (h1 : k0 ≤ 1152921504606846976) (hn : n ≤ 1048576) (h : OvS w lo hi A n l) :
    Calls Try.prog 99 #[.slice A n c, .int .i64 k0] w fun e w' => e = .returned (.int .i64 (k0 + (n * 5 : Nat))) ∧ MvS w' lo hi A n k0 ∧ FR lo hi w w' ∧ w'.heap.size = w.heap.size ∧ ∀ k, (∀ g, A = some ⟨g, 0, none⟩ → 0 < n → k ≠ g) → w'.heap[k]? = w.heap[k]? := by
  rcases Nat.eq_zero_or_pos n with rfl | hp
  · exact (mark0 A c k0 w).mono fun e w' ⟨he, hw⟩ => by
      subst hw
      exact ⟨by rw [he]; simp, fun h => absurd h (by omega), FR.same _, rfl, fun _ _ => rfl⟩
  · obtain ⟨hl, c9, ho, hq⟩ := h
    rcases ho.2 with ⟨_, e⟩ | ⟨g, cap, cur, e, hb, hg, hnc, hcm, hsz, hx⟩
    · omega
    · injection e with e0 e1 e2
      subst e0
      have hgh := hq g rfl
      exact (mark_from h0 h1 hn (by rw [hsz]; exact Nat.mul_le_mul_right 5 hnc) (mk_of (cap := cap) hg k0)).mono fun e w' ⟨he, hm, ho⟩ =>
        ⟨he, fun _ => ⟨g, cur.size, rfl, hb, hgh, by rw [hsz]; exact Nat.mul_le_mul_right 5 hnc, hm⟩, ⟨ho.os, ho.tape, ho.output, Nat.le_of_eq ho.size.symm, fun k _ hk => ho.block k (by omega)⟩, ho.size, fun k hk => ho.block k (hk g rfl hp)⟩
theorem held_v {w : World} {lo hi n c : Nat} {A : Option Addr} {k0 : Int} (h0 : 0 ≤ k0) (h1 : k0 ≤ 1152921504606846976) (hn : n ≤ 1048576) (h : MvS w lo hi A n k0) :
    Calls Try.prog 100 #[.slice A n c, .int .i64 k0] w fun e w' => e = .returned (.int .i64 (k0 + (n * 5 : Nat))) ∧ w = w' := by
  rcases Nat.eq_zero_or_pos n with rfl | hp
  · exact (held0 A c k0 w).mono fun e w' ⟨he, hw⟩ => ⟨by rw [he]; simp, hw⟩
  · obtain ⟨g, M, rfl, hl, hh, hM, hm⟩ := h hp
    exact held_from h0 h1 hn hM hm
theorem mark_l {w : World} {lo hi n c : Nat} {A : Option Addr} {l : List Ver} (hn : n ≤ 1048576) (h : OvS w lo hi A n l) (hw : hi ≤ w.heap.size) :
    Calls Try.prog 99 #[.slice A n c, .int .i64 1] w fun e w' => e = .returned (.int .i64 (1 + ((n * 5 : Nat) : Int))) ∧ MvS w' lo hi A n 1 ∧ FR lo hi w w' :=
  (mark_v (by omega) (by omega) hn h).mono fun e w' ⟨he, hm, hf, _⟩ => ⟨he, hm, hf⟩
theorem held_l {w : World} {lo hi n c : Nat} {A : Option Addr} (hn : n ≤ 1048576) (h : MvS w lo hi A n 1) (hw : hi ≤ w.heap.size) :
    Calls Try.prog 100 #[.slice A n c, .int .i64 1] w fun e w' => e = .returned (.int .i64 (1 + ((n * 5 : Nat) : Int))) ∧ Below w.heap.size w w' :=
  (held_v (by omega) (by omega) hn h).mono fun e w' ⟨he, hw⟩ => ⟨he, by rw [← hw]; exact Below.refl _ _⟩
theorem same_l {w : World} {n c c2 : Nat} {A A2 : Option Addr} {l : List Ver} (hn : n ≤ 140737488355328) (h1 : Vs w w.heap.size A n l) (h2 : Vs w w.heap.size A2 n l) :
    Calls Try.prog 96 #[.slice A n c, .slice A2 n c2] w fun e w' => e = .returned (.bool true) ∧ Below w.heap.size w w' :=
  same_versions hn h1 h2 (Nat.le_refl _)
end Go.Proofs.Ytjnlbhmddhpmaaa.mv
