/- The law's own marks on a store: what it writes and what it reads back. -/
import Derived.Test.YtjnlbhmddhpmaaaGreatInts
import Derived.WalkKit
import Derived.ProofKit
import Derived.Below
import Derived.Lib.Hide
import Derived.LoopTactic
import Derived.Outline
import Derived.IntWalk
import Derived.Deep.OwnRows
namespace Go.Proofs.YtjnlbhmddhpmaaaGreat.marks
open Go.ChangeShapes Go.WideShapes Go.ChangeAt Go.RowKit
open Go.Proofs.YtjnlbhmddhpmaaaGreat.vers Go.Proofs.YtjnlbhmddhpmaaaGreat.sl Go.Proofs.YtjnlbhmddhpmaaaGreat.ch Go.Proofs.YtjnlbhmddhpmaaaGreat.st Go.Proofs.YtjnlbhmddhpmaaaGreat.ints
set_option linter.unusedVariables false
set_option linter.unusedSimpArgs false
/-- block g, of M cells, bears the marks k0, k0 + 1, .. of the first j versions -/
def MK (w : World) (g M : Nat) (k0 : Int) (j : Nat) : Prop := ∃ f, w.rowIs g 81 M f ∧ ∀ i, i < j * 5 → f i = .int .i64 (k0 + i)
section
variable {w w' : World} {g M j : Nat} {k0 : Int}
theorem MK.lt (h : MK w g M k0 j) : g < w.heap.size := by obtain ⟨f, hf, _⟩ := h; exact hf.lt
theorem MK.of_block (h : MK w g M k0 j) (hb : w'.heap[g]? = w.heap[g]?) : MK w' g M k0 j := by
  obtain ⟨f, hf, hm⟩ := h
  exact ⟨f, hf.of_block hb, hm⟩
theorem MK.cell (h : MK w g M k0 j) {i : Nat} (hi : i < j * 5) (hM : j * 5 ≤ M) : w.cell? ⟨g, i, none⟩ = some (.int .i64 (k0 + i)) := by
  obtain ⟨f, hf, hm⟩ := h
  rw [hf.cell (by omega), hm i hi]
theorem MK.any (h : MK w g M k0 j) {i : Nat} (hi : i < M) : ∃ u, w.cell? ⟨g, i, none⟩ = some u := by
  obtain ⟨f, hf, hm⟩ := h
  exact ⟨_, hf.cell hi⟩
theorem MK.frozen (h : MK w g M k0 j) (i : Nat) : w.frozen? ⟨g, i, none⟩ = false := by
  obtain ⟨f, hf, hm⟩ := h
  exact hf.frozen i
theorem MK.step {x : Int} (h : MK w g M k0 j) (hx : x = k0 + (j * 5 : Nat)) :
    MK (((((w.setCell ⟨g, j * 5, none⟩ (.int .i64 x)).setCell ⟨g, j * 5 + 1, none⟩ (.int .i64 (x + 1))).setCell ⟨g, j * 5 + 2, none⟩ (.int .i64 (x + 1 + 1))).setCell ⟨g, j * 5 + 3, none⟩ (.int .i64 (x + 1 + 1 + 1))).setCell ⟨g, j * 5 + 4, none⟩ (.int .i64 (x + 1 + 1 + 1 + 1))) g M k0 (j + 1) := by
  obtain ⟨f, hf, hm⟩ := h
  refine ⟨_, ((((hf.set (j * 5) _).set (j * 5 + 1) _).set (j * 5 + 2) _).set (j * 5 + 3) _).set (j * 5 + 4) _, fun i hi => ?_⟩
  by_cases h4 : i = j * 5 + 4
  · rw [if_pos h4]; exact congrArg (Value.int .i64) (by omega)
  · rw [if_neg h4]
    by_cases h3 : i = j * 5 + 3
    · rw [if_pos h3]; exact congrArg (Value.int .i64) (by omega)
    · rw [if_neg h3]
      by_cases h2 : i = j * 5 + 2
      · rw [if_pos h2]; exact congrArg (Value.int .i64) (by omega)
      · rw [if_neg h2]
        by_cases h1 : i = j * 5 + 1
        · rw [if_pos h1]; exact congrArg (Value.int .i64) (by omega)
        · rw [if_neg h1]
          by_cases h0 : i = j * 5
          · rw [if_pos h0]; exact congrArg (Value.int .i64) (by omega)
          · rw [if_neg h0]
            exact hm i (by omega)
theorem MK.of_row {n : Nat} {l : List Ver} {k : Nat} (h : Row w g n l k) (k0 : Int) : MK w g (n * 5) k0 0 := ⟨_, h, fun i hi => absurd hi (by omega)⟩
end
/-! a slice of slices -/
/-- block N holds the n rows; the first j of them bear the marks from k0 on, one behind the other -/
def MS (w : World) (N n : Nat) (ll : List (List Ver)) (k0 : Int) (j : Nat) : Prop :=
  ∃ (f : Nat → Value) (Mf : Nat → Nat), w.rowIs N 79 n f ∧ (∀ i j, i < j → j < n → Mf i < Mf j) ∧ ∀ i l, ll[i]? = some l → f i = .slice (some ⟨Mf i, 0, none⟩) l.length l.length ∧ N < Mf i ∧ MK w (Mf i) (l.length * 5) (k0 + ((cnt (ll.take i) * 5 : Nat) : Int)) (if i < j then l.length else 0)
section
variable {w w' : World} {N n j : Nat} {ll : List (List Ver)} {k0 : Int}
theorem MS.of_rr (h : RR w N n ll n) (hl : ll.length = n) (k0 : Int) : MS w N n ll k0 0 := by
  obtain ⟨f, Mf, hf, hz, hd, hr⟩ := h
  refine ⟨f, Mf, hf, hd, fun i l hx => ?_⟩
  have hk := lt_get hx
  obtain ⟨h1, h2, h3⟩ := hr i l (by omega) hx
  exact ⟨h1, h2, by rw [if_neg (by omega)]; exact MK.of_row h3 _⟩
theorem MS.lt (h : MS w N n ll k0 j) : N < w.heap.size := by obtain ⟨f, Mf, hf, _⟩ := h; exact hf.lt
theorem MS.at_ (h : MS w N n ll k0 j) (hl : ll.length = n) {i : Nat} (hi : i < n) : ∃ l M, ll[i]? = some l ∧ w.cell? ⟨N, i, none⟩ = some (.slice (some ⟨M, 0, none⟩) l.length l.length) ∧ N < M ∧ M < w.heap.size ∧ MK w M (l.length * 5) (k0 + ((cnt (ll.take i) * 5 : Nat) : Int)) (if i < j then l.length else 0) := by
  obtain ⟨f, Mf, hf, hd, hr⟩ := h
  have hg : ll[i]? = some (ll[i]'(by omega)) := List.getElem?_eq_getElem (by omega)
  obtain ⟨h1, h2, h3⟩ := hr i _ hg
  exact ⟨_, Mf i, hg, by rw [hf.cell hi, h1], h2, h3.lt, h3⟩
theorem MS.below (h : MS w N n ll k0 j) (hb : Below w.heap.size w w') : MS w' N n ll k0 j := by
  obtain ⟨f, Mf, hf, hd, hr⟩ := h
  refine ⟨f, Mf, hf.of_block (hb.block N hf.lt), hd, fun i l hx => ?_⟩
  obtain ⟨h1, h2, h3⟩ := hr i l hx
  exact ⟨h1, h2, h3.of_block (hb.block _ h3.lt)⟩
theorem MS.off {S : Nat → Prop} (h : MS w N n ll k0 j) (hb : Off S w w') (hS : ∀ k, S k → k < N) : MS w' N n ll k0 j := by
  obtain ⟨f, Mf, hf, hd, hr⟩ := h
  refine ⟨f, Mf, hf.of_block (hb.block N fun hs => by have := hS N hs; omega), hd, fun i l hx => ?_⟩
  obtain ⟨h1, h2, h3⟩ := hr i l hx
  exact ⟨h1, h2, h3.of_block (hb.block _ fun hs => by have := hS _ hs; omega)⟩
/-- row j is marked -/
theorem MS.step (h : MS w N n ll k0 j) (hl : ll.length = n) (hj : j < n) {l : List Ver} {M : Nat} (hx : ll[j]? = some l) (hc : w.cell? ⟨N, j, none⟩ = some (.slice (some ⟨M, 0, none⟩) l.length l.length)) (ho : Off (fun k => k = M) w w') (hm : MK w' M (l.length * 5) (k0 + ((cnt (ll.take j) * 5 : Nat) : Int)) l.length) : MS w' N n ll k0 (j + 1) := by
  obtain ⟨f, Mf, hf, hd, hr⟩ := h
  obtain ⟨g1, g2, g3⟩ := hr j l hx
  rw [hf.cell hj, g1] at hc
  simp only [Option.some.injEq, Value.slice.injEq, Addr.mk.injEq, and_true, true_and] at hc
  obtain rfl := hc
  refine ⟨f, Mf, hf.of_block (ho.block N (fun e => absurd (show N = Mf j from e) (by omega))), hd, fun i l' hx' => ?_⟩
  obtain ⟨h1, h2, h3⟩ := hr i l' hx'
  have hi := lt_get hx'
  by_cases e : i = j
  · subst e
    rw [hx] at hx'
    injection hx' with hx'
    subst hx'
    exact ⟨h1, h2, by rw [if_pos (by omega)]; exact hm⟩
  · have hne : Mf i ≠ Mf j := by
      rcases Nat.lt_or_gt_of_ne e with h | h
      · have := hd i j h hj; omega
      · have := hd j i h (by omega); omega
    refine ⟨h1, h2, ?_⟩
    have h4 := h3.of_block (ho.block (Mf i) hne)
    by_cases hlt : i < j
    · rw [if_pos hlt] at h4; rw [if_pos (by omega)]; exact h4
    · rw [if_neg hlt] at h4; rw [if_neg (by omega)]; exact h4
end
/-! a store -/
end Go.Proofs.YtjnlbhmddhpmaaaGreat.marks
