/- The cells of a list of versions, one after the other; a row of the call's own of such cells. -/
import Derived.Test.YtjnlbhmddhpmaaaGreatSl
import Derived.Laws.AppendOwn
import Derived.Laws.OwnMore
import Derived.WalkKit
import Derived.ProofKit
import Derived.Below
import Derived.Lib.Hide
namespace Go.Proofs.YtjnlbhmddhpmaaaGreat.flat
open Go.ChangeShapes Go.WideShapes Go.ChangeAt Go.RowKit
open Go.Proofs.YtjnlbhmddhpmaaaGreat.vers Go.Proofs.YtjnlbhmddhpmaaaGreat.sl
set_option linter.unusedVariables false
set_option linter.unusedSimpArgs false
theorem ver_info : (Tryz.prog.info? 81).map (fun i => (i.zero, i.size, i.bytes)) = some (some (.agg #[.int .i64 0, .int .i64 0, .int .i64 0, .int .i64 0, .int .i64 0]), 5, 40) := by kernel_rfl
theorem own_keep {w w' : World} {base n size : Nat} {e : TypeId} {v : Value} {xs : List Value} (h : w.ownsRow base e size v n xs) (hb : Below w.heap.size w w') : w'.ownsRow base e size v n xs :=
  h.kept (row := none) ⟨hb.os, hb.tape, hb.output, hb.size, fun i hi _ => hb.block i hi⟩ (by cases v.ownBlock <;> simp)
/-- the cells of a list of versions -/
def flat (l : List Ver) : List Value := l.flatMap fun x => [.int .i64 x.a, .int .i64 x.b, .int .i64 x.c, .int .i64 x.d, .int .i64 x.e]
theorem flat_snoc (l : List Ver) (x : Ver) : flat (l ++ [x]) = flat l ++ [.int .i64 x.a, .int .i64 x.b, .int .i64 x.c, .int .i64 x.d, .int .i64 x.e] := by simp [flat]
theorem flat_len (l : List Ver) : (flat l).length = l.length * 5 := by
  induction l with
  | nil => rfl
  | cons x r ih =>
    show ([_, _, _, _, _] ++ flat r).length = _
    rw [List.length_append, ih]
    simp only [List.length_cons, List.length_nil]
    omega
theorem flat_at : ∀ (l : List Ver) (k : Nat) (x : Ver), l[k]? = some x → (flat l)[k * 5]? = some (.int .i64 x.a) ∧ (flat l)[k * 5 + 1]? = some (.int .i64 x.b) ∧ (flat l)[k * 5 + 2]? = some (.int .i64 x.c) ∧ (flat l)[k * 5 + 3]? = some (.int .i64 x.d) ∧ (flat l)[k * 5 + 4]? = some (.int .i64 x.e)
  | [], k, x, h => by simp at h
  | y :: r, 0, x, h => by
    simp at h
    subst h
    exact ⟨rfl, rfl, rfl, rfl, rfl⟩
  | y :: r, k + 1, x, h => by
    have ih := flat_at r k x (by simpa using h)
    have e : ∀ j, (flat (y :: r))[(k + 1) * 5 + j]? = (flat r)[k * 5 + j]? := by
      intro j
      show ([_, _, _, _, _] ++ flat r)[(k + 1) * 5 + j]? = _
      rw [List.getElem?_append_right (by simp; omega)]
      congr 1
      simp
      omega
    refine ⟨?_, ?_, ?_, ?_, ?_⟩
    · have := e 0
      simp only [Nat.add_zero] at this
      rw [this]; exact ih.1
    · rw [e]; exact ih.2.1
    · rw [e]; exact ih.2.2.1
    · rw [e]; exact ih.2.2.2.1
    · rw [e]; exact ih.2.2.2.2
theorem own_vs {w : World} {base n : Nat} {v : Value} {l : List Ver} (h : w.ownsRow base 81 5 v n (flat l)) (hl : l.length = n) :
    ∃ A c, v = .slice A n c ∧ Vs w w.heap.size A n l := by
  rcases h.2 with ⟨rfl, h0⟩ | ⟨g, cap, cur, rfl, hbg, hgg, _⟩
  · subst h0
    obtain rfl : l = [] := List.eq_nil_of_length_eq_zero hl
    exact ⟨none, 0, rfl, Vs.nil_ _ _ _⟩
  · have hlt : g < w.heap.size := by
      rcases Nat.lt_or_ge g w.heap.size with h' | h'
      · exact h'
      · rw [Array.getElem?_eq_none h'] at hgg; cases hgg
    refine ⟨some ⟨g, 0, none⟩, cap, rfl, hl, fun _ => ⟨g, 0, rfl, hlt, fun k x hx => ?_⟩⟩
    have hc : ∀ (j : Nat) (u : Value), (flat l)[j]? = some u → w.cell? ⟨g, j, none⟩ = some u := by
      intro j u hu
      have := h.cells (g := g) rfl j u hu
      rw [← this]
      congr 1
      unfold Addr.add
      split <;> simp_all
    obtain ⟨h0, h1, h2, h3, h4⟩ := flat_at l k x hx
    have e : ∀ i, (0 : Nat) + k * 5 + i = k * 5 + i := fun i => by omega
    exact ⟨by rw [Nat.zero_add]; exact hc _ _ h0, by rw [e]; exact hc _ _ h1, by rw [e]; exact hc _ _ h2, by rw [e]; exact hc _ _ h3, by rw [e]; exact hc _ _ h4⟩
theorem cells5 (w : World) (x : Ver) (t : TypeId) : ∀ (j : Nat) (u : Value), ([.int .i64 x.a, .int .i64 x.b, .int .i64 x.c, .int .i64 x.d, .int .i64 x.e] : List Value)[j]? = some u →
    (w.alloc (.cells #[.int .i64 x.a, .int .i64 x.b, .int .i64 x.c, .int .i64 x.d, .int .i64 x.e] t)).cell? ((⟨w.heap.size, 0, none⟩ : Addr).add j) = some u := by
  intro j u hu
  have e : ((⟨w.heap.size, 0, none⟩ : Addr).add j) = ⟨w.heap.size, j, none⟩ := by unfold Addr.add; split <;> simp_all
  rw [e, World.cell?_alloc_mark w _ t _ j]
  simpa using hu
theorem one5 (x : Ver) : ∀ u ∈ ([.int .i64 x.a, .int .i64 x.b, .int .i64 x.c, .int .i64 x.d, .int .i64 x.e] : List Value), u.oneCell' = true := by
  intro u hu
  simp at hu
  rcases hu with rfl | rfl | rfl | rfl | rfl <;> rfl
end Go.Proofs.YtjnlbhmddhpmaaaGreat.flat
