/- The arguments that the model draws for the laws of chapter 3: a list of versions and a stamp, a mark; each drawing ends, and nothing that was there is written. -/
import Derived.Test.YtbnkkgjkhpbgiaaDraw
import Derived.WalkKit
import Derived.ProofKit
import Derived.Below
import Derived.Lib.Hide
import Derived.Outline
import Derived.IntWalk
import Derived.WalkLawsBesides
import Derived.WalkSpells
namespace Go.Proofs.Ytbnkkgjkhpbgiaa.drawn
open Go.ChangeShapes Go.WideShapes Go.ChangeAt Go.RowKit
open Go.Proofs.Ytbnkkgjkhpbgiaa.vers Go.Proofs.Ytbnkkgjkhpbgiaa.sl Go.Proofs.Ytbnkkgjkhpbgiaa.ch Go.Proofs.Ytbnkkgjkhpbgiaa.flat Go.Proofs.Ytbnkkgjkhpbgiaa.cur Go.Proofs.Ytbnkkgjkhpbgiaa.draw
set_option linter.unusedVariables false
set_option linter.unusedSimpArgs false
/-- some list of at most five versions has been drawn -/
def DA (B b : Nat) (a : Option Addr) (len cap : Nat) (w : World) (e : Ending) (w' : World) : Prop :=
  ∃ A n c l, e = .returned (.slice A n c) ∧ n ≤ 5 ∧ Vs w' w'.heap.size A n l ∧ (∀ g o, A = some ⟨g, o, none⟩ → 0 < n → g ≠ b ∧ w.heap.size ≤ g) ∧ CurAt w' b a len cap ∧ Kp B b w w'
theorem da_of {B b g : Nat} {a : Option Addr} {len cap m c : Nat} {w w' : World} {B' : Nat} (h : R5 w' B' (.slice (some ⟨g, 0, none⟩) m c) m) (hgb : g ≠ b) (hgw : w.heap.size ≤ g) (hm : m ≤ 5) (hc : CurAt w' b a len cap) (hb : Kp B b w w') :
    DA B b a len cap w (.returned (.slice (some ⟨g, 0, none⟩) m c)) w' := by
  obtain ⟨A', c', l, hv, hs⟩ := h.vs
  injection hv with e1 e2 e3
  subst e1
  subst e3
  exact ⟨_, m, c, l, rfl, hm, hs, fun g' o e _ => by injection e with e; injection e with e1 _ _; exact ⟨by omega, by omega⟩, hc, hb⟩
theorem vs_tail {w : World} {B m : Nat} {b o : Nat} {l : List Ver} (h : Vs w B (some ⟨b, o, none⟩) m l) (hm : 0 < m) : Vs w B (some ⟨b, o + 5, none⟩) (m - 1) (l.drop 1) := by
  refine ⟨by rw [List.length_drop, h.1], fun hn => ?_⟩
  obtain ⟨b', o', e, hb, hc⟩ := h.2 hm
  injection e with e
  injection e with e1 e2 _
  subst e1
  subst e2
  refine ⟨b, o + 5, rfl, hb, fun k x hx => ?_⟩
  rw [List.getElem?_drop] at hx
  have := hc (1 + k) x hx
  rw [show o + (1 + k) * 5 = o + 5 + k * 5 by omega] at this
  exact this
/-- a list of at most five versions and some number -/
def DV (w : World) (e : Ending) (w' : World) : Prop := ∃ A n c l st, e = .returned (.tuple #[.slice A n c, .int .i64 st]) ∧ n ≤ 5 ∧ Vs w' w'.heap.size A n l ∧ Below w.heap.size w w'
end Go.Proofs.Ytbnkkgjkhpbgiaa.drawn
