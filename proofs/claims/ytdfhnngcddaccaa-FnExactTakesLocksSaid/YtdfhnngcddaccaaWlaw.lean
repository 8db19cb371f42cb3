/- What the laws of chapter 12 want besides: a list of locks copied plainly; TakesLocks of the model as a frame. -/
import Derived.Test.YtdfhnngcddaccaaRu
import Derived.Test.YtdfhnngcddaccaaOwk
namespace Go.Proofs.Ytdfhnngcddaccaa.wlaw
open Go.ChangeShapes Go.WideShapes Go.ChangeAt Go.RowKit
open Go.Proofs.Ytdfhnngcddaccaa.el2
set_option linter.unusedVariables false
theorem copied_k {w : World} {B n c : Nat} {A : Option Addr} {l : List E2} (hn : n ≤ 2097152) (h1 : Vs w B A n l) (hB : B ≤ w.heap.size) :
    Calls Try.prog 30 #[.slice A n c] w fun e w' => ∃ N, e = .returned (.slice (some ⟨N, 0, none⟩) n n) ∧ Vs w' w'.heap.size (some ⟨N, 0, none⟩) n l ∧ Below w.heap.size w w' :=
  (owk.own_k hn h1 hB).mono fun e w' ⟨N, he, hv, hb⟩ => ⟨N, he, hv.vs (Nat.le_refl _), hb⟩
theorem takes_b (s : Int) (w : World) : Calls Try.prog 21 #[.int .i64 s] w fun e w' => e = .returned (.bool (sc.tkB s)) ∧ Below w.heap.size w w' :=
  (ru.spec_takes s w).mono fun e w' ⟨he, hw⟩ => ⟨he, by rw [← hw]; exact Below.refl _ _⟩
end Go.Proofs.Ytdfhnngcddaccaa.wlaw
