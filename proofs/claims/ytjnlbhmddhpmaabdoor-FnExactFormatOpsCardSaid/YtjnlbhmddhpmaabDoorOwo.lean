/- Owned lists of operations, as a law counts, copies, compares and marks them; opening an argument. -/
import Derived.Test.YtjnlbhmddhpmaabDoorOw6
import Derived.Test.YtjnlbhmddhpmaabDoorROp
namespace Go.Proofs.YtjnlbhmddhpmaabDoor.owo
open Go.ChangeShapes Go.WideShapes Go.ChangeAt Go.RowKit
open Go.Proofs.YtjnlbhmddhpmaabDoor.el6 Go.Proofs.YtjnlbhmddhpmaabDoor.fr Go.Proofs.YtjnlbhmddhpmaabDoor.ow6
set_option linter.unusedVariables false
def szV (left : Int) (n : Nat) : Int := if left < (n : Int) then (-1 : Int) else left - n
theorem szK_no {left : Int} {n : Nat} (h : left < n) : szV left n = -1 := if_pos h
theorem szK_yes {left : Int} {n : Nat} (h : ¬ left < n) : szV left n = left - n := if_neg h
theorem count_k (A : Option Addr) (n c : Nat) (left : Int) (w : World) (hn : n ≤ 9223372036854775807) (h0 : 0 ≤ left) (h1 : left ≤ 1048576) :
    Calls Tryd.prog 5 #[.slice A n c, .int .i64 left] w fun e w' => e = .returned (.int .i64 (szV left n)) ∧ Below w.heap.size w w' :=
  (Go.Proofs.YtjnlbhmddhpmaabDoor.rOp.count A n c left w hn h0 h1).mono fun e w' ⟨he, hw⟩ => ⟨he, by rw [← hw]; exact Below.refl _ _⟩
theorem own_k {w : World} {B n c : Nat} {A : Option Addr} {l : List E6} (hn : n ≤ 2097152) (h1 : Vs w B A n l) (hB : B ≤ w.heap.size) :
    Calls Tryd.prog 7 #[.slice A n c] w fun e w' => ∃ N, e = .returned (.slice (some ⟨N, 0, none⟩) n n) ∧ OwS 35 w' w.heap.size w'.heap.size (some ⟨N, 0, none⟩) n l ∧ Below w.heap.size w w' :=
  (Go.Proofs.YtjnlbhmddhpmaabDoor.rOp.copied hn h1 hB).mono fun e w' ⟨N, he, hN, hlt, hr, hb⟩ => ⟨N, he, OwS.of_row hr h1.1 hN hlt, hb⟩
theorem mark_k {w : World} {lo hi n c : Nat} {A : Option Addr} {l : List E6} (hn : n ≤ 1048576) (h : OwS 35 w lo hi A n l) (hw : hi ≤ w.heap.size) :
    Calls Tryd.prog 12 #[.slice A n c, .int .i64 1] w fun e w' => e = .returned (.int .i64 (1 + ((n * 6 : Nat) : Int))) ∧ MkS 35 w' lo hi A n 1 ∧ FR lo hi w w' := by
  rcases Nat.eq_zero_or_pos n with rfl | hp
  · exact (Go.Proofs.YtjnlbhmddhpmaabDoor.rOp.mark0 A c 1 w).mono fun e w' ⟨he, hw⟩ => by
      subst hw
      exact ⟨by rw [he]; simp, fun h => absurd h (by omega), FR.same _⟩
  · obtain ⟨g, M, f, rfl, hl, hh, hr, hM, _⟩ := h.2 hp
    exact (Go.Proofs.YtjnlbhmddhpmaabDoor.rOp.mark (by omega) (by omega) hn hM ⟨f, hr, fun i hi => absurd hi (by omega)⟩).mono fun e w' ⟨he, hm, ho⟩ =>
      ⟨he, fun _ => ⟨g, M, rfl, hl, hh, hM, hm⟩, ⟨ho.os, ho.tape, ho.output, Nat.le_of_eq ho.size.symm, fun k _ hk => ho.block k (by omega)⟩⟩
theorem held_k {w : World} {lo hi n c : Nat} {A : Option Addr} (hn : n ≤ 1048576) (h : MkS 35 w lo hi A n 1) (hw : hi ≤ w.heap.size) :
    Calls Tryd.prog 13 #[.slice A n c, .int .i64 1] w fun e w' => e = .returned (.int .i64 (1 + ((n * 6 : Nat) : Int))) ∧ Below w.heap.size w w' := by
  rcases Nat.eq_zero_or_pos n with rfl | hp
  · exact (Go.Proofs.YtjnlbhmddhpmaabDoor.rOp.held0 A c 1 w).mono fun e w' ⟨he, hw⟩ => ⟨by rw [he]; simp, by rw [← hw]; exact Below.refl _ _⟩
  · obtain ⟨g, M, rfl, hl, hh, hM, hm⟩ := h hp
    exact (Go.Proofs.YtjnlbhmddhpmaabDoor.rOp.held (by omega) (by omega) hn hM hm).mono fun e w' ⟨he, hw⟩ => ⟨he, by rw [← hw]; exact Below.refl _ _⟩
theorem same_k {w : World} {n c c2 : Nat} {A A2 : Option Addr} {l : List E6} (hn : n ≤ 140737488355328) (h1 : Vs w w.heap.size A n l) (h2 : Vs w w.heap.size A2 n l) :
    Calls Tryd.prog 9 #[.slice A n c, .slice A2 n c2] w fun e w' => e = .returned (.bool true) ∧ Below w.heap.size w w' :=
  Go.Proofs.YtjnlbhmddhpmaabDoor.rOp.same hn h1 h2 (Nat.le_refl _)
end Go.Proofs.YtjnlbhmddhpmaabDoor.owo
