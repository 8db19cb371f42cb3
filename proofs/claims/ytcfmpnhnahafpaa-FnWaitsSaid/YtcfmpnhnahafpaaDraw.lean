/- The lists of versions and the numbers that the model draws: each drawing ends with some list, some number; nothing that was there is written. -/
import Derived.Test.YtcfmpnhnahafpaaCur
import Derived.Test.YtcfmpnhnahafpaaFlat
import Derived.Test.YtcfmpnhnahafpaaFind
import Derived.WalkKit
import Derived.ProofKit
import Derived.Below
import Derived.Lib.Hide
import Derived.LoopTactic
import Derived.Outline
import Derived.IntWalk
import Derived.WalkLawsBesides
import Derived.Lib.MinMax
import Derived.Deep.RegionHeld3
namespace Go.Proofs.Ytcfmpnhnahafpaa.draw
open Go.ChangeShapes Go.WideShapes Go.ChangeAt Go.RowKit
open Go.Proofs.Ytcfmpnhnahafpaa.vers Go.Proofs.Ytcfmpnhnahafpaa.sl Go.Proofs.Ytcfmpnhnahafpaa.ch Go.Proofs.Ytcfmpnhnahafpaa.flat Go.Proofs.Ytcfmpnhnahafpaa.cur
set_option linter.unusedVariables false
set_option linter.unusedSimpArgs false
theorem flat_set : ∀ (l : List Ver) (i : Nat) (y : Int), i < l.length * 5 → ∃ l' : List Ver, l'.length = l.length ∧ (flat l).set i (.int .i64 y) = flat l'
  | [], i, y, h => by simp at h
  | x :: r, i, y, h => by
    by_cases hi : i < 5
    · have hc : i = 0 ∨ i = 1 ∨ i = 2 ∨ i = 3 ∨ i = 4 := by omega
      rcases hc with rfl | rfl | rfl | rfl | rfl
      · exact ⟨⟨y, x.b, x.c, x.d, x.e⟩ :: r, rfl, rfl⟩
      · exact ⟨⟨x.a, y, x.c, x.d, x.e⟩ :: r, rfl, rfl⟩
      · exact ⟨⟨x.a, x.b, y, x.d, x.e⟩ :: r, rfl, rfl⟩
      · exact ⟨⟨x.a, x.b, x.c, y, x.e⟩ :: r, rfl, rfl⟩
      · exact ⟨⟨x.a, x.b, x.c, x.d, y⟩ :: r, rfl, rfl⟩
    · obtain ⟨l', hl, hf⟩ := flat_set r (i - 5) y (by simp at h; omega)
      refine ⟨x :: l', by simp [hl], ?_⟩
      have e : flat (x :: r) = [.int .i64 x.a, .int .i64 x.b, .int .i64 x.c, .int .i64 x.d, .int .i64 x.e] ++ flat r := rfl
      have e2 : flat (x :: l') = [.int .i64 x.a, .int .i64 x.b, .int .i64 x.c, .int .i64 x.d, .int .i64 x.e] ++ flat l' := rfl
      rw [e, e2, ← hf, List.set_append_right _ _ (by simp; omega)]
      rfl
theorem flat_int : ∀ (l : List Ver) (i : Nat), i < l.length * 5 → ∃ y : Int, (flat l)[i]? = some (.int .i64 y)
  | [], i, h => by simp at h
  | x :: r, i, h => by
    have e : flat (x :: r) = [.int .i64 x.a, .int .i64 x.b, .int .i64 x.c, .int .i64 x.d, .int .i64 x.e] ++ flat r := rfl
    by_cases hi : i < 5
    · have hc : i = 0 ∨ i = 1 ∨ i = 2 ∨ i = 3 ∨ i = 4 := by omega
      rcases hc with rfl | rfl | rfl | rfl | rfl
      · exact ⟨x.a, rfl⟩
      · exact ⟨x.b, rfl⟩
      · exact ⟨x.c, rfl⟩
      · exact ⟨x.d, rfl⟩
      · exact ⟨x.e, rfl⟩
    · obtain ⟨y, hy⟩ := flat_int r (i - 5) (by simp at h; omega)
      refine ⟨y, ?_⟩
      rw [e, List.getElem?_append_right (by simp; omega)]
      simpa using hy
section
variable {w w' : World} {B m : Nat} {v : Value}
end
theorem cur_set {w : World} {b g i : Nat} {a : Option Addr} {len cap : Nat} (h : CurAt w b a len cap) (hg : g ≠ b) (u : Value) : CurAt (w.setCell ⟨g, i, none⟩ u) b a len cap := by
  obtain ⟨k, x, h0, h1, h2⟩ := h
  exact ⟨k, x, h0, h1, (Below.heap_setCell w ⟨g, i, none⟩ u b (fun e => hg e.symm)).trans h2⟩
end Go.Proofs.Ytcfmpnhnahafpaa.draw
