/- The model's DrawRefreshHigh: a drawn store and a drawn transaction. -/
import Derived.Test.YtdfhnngcddaccaaDpr
namespace Go.Proofs.Ytdfhnngcddaccaa.drh
open Go.ChangeShapes Go.WideShapes Go.ChangeAt Go.RowKit
open Go.Proofs.Ytdfhnngcddaccaa.el2 Go.Proofs.Ytdfhnngcddaccaa.tx Go.Proofs.Ytdfhnngcddaccaa.ap Go.Proofs.Ytdfhnngcddaccaa.bx Go.Proofs.Ytdfhnngcddaccaa.ad Go.Proofs.Ytdfhnngcddaccaa.sf Go.Proofs.Ytdfhnngcddaccaa.dr Go.Proofs.Ytdfhnngcddaccaa.drt Go.Proofs.Ytdfhnngcddaccaa.dpr
open Go.Proofs.Ytdfhnngcddaccaa.cur (CurAt CodeAt Kp Only below_calls pick_calls new_calls cur_new)
open Go.Proofs.Ytdfhnngcddaccaa.vers (new2)
open Go.Proofs.Ytdfhnngcddaccaa.sl (Ver)
open Go.Proofs.Ytdfhnngcddaccaa.st (Rs)
set_option linter.unusedVariables false
set_option linter.unusedSimpArgs false
theorem code_more {w : World} {B B' : Nat} {a : Option Addr} {len : Nat} (h : CodeAt w B a len) (hB : B ≤ B') : CodeAt w B' a len := by
  intro j hj
  obtain ⟨cb, off, z, h1, h2, h3, h4, h5⟩ := h j hj
  exact ⟨cb, off, z, h1, by omega, h3, h4, h5⟩
/-- a drawn store and a drawn transaction -/
def DRH (w : World) (e : Ending) (w' : World) : Prop :=
  ∃ (D : Option Addr) (N cN : Nat) (C : List (List Ver)) (x : Hd) (A : Option Addr) (n c : Nat) (R : List E2) (A2 : Option Addr) (n2 c2 : Nat) (S : List E2), e = .returned (.tuple #[.agg #[.slice D N cN], txv x (.slice A n c) (.slice A2 n2 c2)]) ∧ N ≤ 6 ∧ n ≤ 5 ∧ n2 ≤ 5 ∧ Rs w' w'.heap.size D N C ∧ OwnT w' w.heap.size (.slice A n c) n R (.slice A2 n2 c2) n2 S ∧ Below w.heap.size w w'
end Go.Proofs.Ytdfhnngcddaccaa.drh
