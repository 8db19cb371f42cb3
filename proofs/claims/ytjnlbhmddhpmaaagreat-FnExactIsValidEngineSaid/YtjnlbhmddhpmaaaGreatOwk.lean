/- Owned lists of locks, as a law counts, copies, compares and marks them; opening an argument. -/
import Derived.Test.YtjnlbhmddhpmaaaGreatOw2
import Derived.Test.YtjnlbhmddhpmaaaGreatRLock
namespace Go.Proofs.YtjnlbhmddhpmaaaGreat.owk
open Go.ChangeShapes Go.WideShapes Go.ChangeAt Go.RowKit
open Go.Proofs.YtjnlbhmddhpmaaaGreat.el2 Go.Proofs.YtjnlbhmddhpmaaaGreat.fr Go.Proofs.YtjnlbhmddhpmaaaGreat.ow2
set_option linter.unusedVariables false
def szV (left : Int) (n : Nat) : Int := if left < (n : Int) then (-1 : Int) else left - n
theorem szK_no {left : Int} {n : Nat} (h : left < n) : szV left n = -1 := if_pos h
theorem szK_yes {left : Int} {n : Nat} (h : ¬ left < n) : szV left n = left - n := if_neg h
theorem count_k (A : Option Addr) (n c : Nat) (left : Int) (w : World) (hn : n ≤ 9223372036854775807) (h0 : 0 ≤ left) (h1 : left ≤ 1048576) :
    Calls Tryz.prog 11 #[.slice A n c, .int .i64 left] w fun e w' => e = .returned (.int .i64 (szV left n)) ∧ Below w.heap.size w w' :=
  (Go.Proofs.YtjnlbhmddhpmaaaGreat.rLock.count A n c left w hn h0 h1).mono fun e w' ⟨he, hw⟩ => ⟨he, by rw [← hw]; exact Below.refl _ _⟩
theorem own_k {w : World} {B n c : Nat} {A : Option Addr} {l : List E2} (hn : n ≤ 2097152) (h1 : Vs w B A n l) (hB : B ≤ w.heap.size) :
    Calls Tryz.prog 23 #[.slice A n c] w fun e w' => ∃ N, e = .returned (.slice (some ⟨N, 0, none⟩) n n) ∧ OwS 60 w' w.heap.size w'.heap.size (some ⟨N, 0, none⟩) n l ∧ Below w.heap.size w w' :=
  (Go.Proofs.YtjnlbhmddhpmaaaGreat.rLock.copied hn h1 hB).mono fun e w' ⟨N, he, hN, hlt, hr, hb⟩ => ⟨N, he, OwS.of_row hr h1.1 hN hlt, hb⟩
theorem same_k {w : World} {n c c2 : Nat} {A A2 : Option Addr} {l : List E2} (hn : n ≤ 140737488355328) (h1 : Vs w w.heap.size A n l) (h2 : Vs w w.heap.size A2 n l) :
    Calls Tryz.prog 33 #[.slice A n c, .slice A2 n c2] w fun e w' => e = .returned (.bool true) ∧ Below w.heap.size w w' :=
  Go.Proofs.YtjnlbhmddhpmaaaGreat.rLock.same hn h1 h2 (Nat.le_refl _)
end Go.Proofs.YtjnlbhmddhpmaaaGreat.owk
