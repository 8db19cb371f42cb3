/- The arguments that the model draws for the laws of chapter 3: a list of versions and a stamp, a mark; each drawing ends, and nothing that was there is written. -/
import Derived.Test.YtcfmpnhnahafpaaDraw
import Derived.WalkKit
import Derived.ProofKit
import Derived.Below
import Derived.Lib.Hide
import Derived.Outline
import Derived.IntWalk
import Derived.WalkLawsBesides
import Derived.WalkSpells
namespace Go.Proofs.Ytcfmpnhnahafpaa.drawn
open Go.ChangeShapes Go.WideShapes Go.ChangeAt Go.RowKit
open Go.Proofs.Ytcfmpnhnahafpaa.vers Go.Proofs.Ytcfmpnhnahafpaa.sl Go.Proofs.Ytcfmpnhnahafpaa.ch Go.Proofs.Ytcfmpnhnahafpaa.flat Go.Proofs.Ytcfmpnhnahafpaa.cur Go.Proofs.Ytcfmpnhnahafpaa.draw
set_option linter.unusedVariables false
set_option linter.unusedSimpArgs false
/-- some list of at most five versions has been drawn -/
def DA (B b : Nat) (a : Option Addr) (len cap : Nat) (w : World) (e : Ending) (w' : World) : Prop :=
  ∃ A n c l, e = .returned (.slice A n c) ∧ n ≤ 5 ∧ Vs w' w'.heap.size A n l ∧ (∀ g o, A = some ⟨g, o, none⟩ → 0 < n → g ≠ b ∧ w.heap.size ≤ g) ∧ CurAt w' b a len cap ∧ Kp B b w w'
theorem vs_tail {w : World} {B m : Nat} {b o : Nat} {l : List Ver} (h : Vs w B (some ⟨b, o, none⟩) m l) (hm : 0 < m) : Vs w B (some ⟨b, o + 5, none⟩) (m - 1) (l.drop 1) := by
  refine ⟨by rw [List.length_drop, h.1], fun hn => ?_⟩
  obtain ⟨b', o', e, hb, hc⟩ := h.2 hm
  injection e with e
  injection e with e1 e2 _
  subst e1
  subst e2
  refine ⟨b, o + 5, rfl, hb, fun k x hx => ?_⟩
  rw [List.getElem?_drop] at hx
  have := hc (1 + k) x hx
  rw [show o + (1 + k) * 5 = o + 5 + k * 5 by omega] at this
  exact this
/-- a list of at most five versions and some number -/
def DV (w : World) (e : Ending) (w' : World) : Prop := ∃ A n c l st, e = .returned (.tuple #[.slice A n c, .int .i64 st]) ∧ n ≤ 5 ∧ Vs w' w'.heap.size A n l ∧ Below w.heap.size w w'
end Go.Proofs.Ytcfmpnhnahafpaa.drawn
