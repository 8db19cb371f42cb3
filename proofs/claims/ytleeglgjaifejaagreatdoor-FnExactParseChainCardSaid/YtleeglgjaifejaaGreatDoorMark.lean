/- The law's own marks on a slice of versions: what it writes and what it reads back. -/
import Derived.Test.YtleeglgjaifejaaGreatDoorSl
import Derived.WalkKit
import Derived.ProofKit
import Derived.Below
import Derived.Lib.Hide
import Derived.LoopTactic
import Derived.Outline
import Derived.IntWalk
import Derived.Deep.OwnRows
namespace Go.Proofs.YtleeglgjaifejaaGreatDoor.mark
open Go.ChangeShapes Go.WideShapes Go.ChangeAt Go.RowKit
open Go.Proofs.YtleeglgjaifejaaGreatDoor.vers Go.Proofs.YtleeglgjaifejaaGreatDoor.sl
set_option linter.unusedVariables false
set_option linter.unusedSimpArgs false
/-- block g, of M cells, bears the marks of the first j versions -/
def MR (w : World) (g M j : Nat) : Prop := ∃ f, w.rowIs g 30 M f ∧ ∀ i, i < j * 5 → f i = .int .i64 ((i : Int) + 1)
theorem MR.lt {w : World} {g M j : Nat} (h : MR w g M j) : g < w.heap.size := by obtain ⟨f, hf, _⟩ := h; exact hf.lt
theorem MR.below {w w' : World} {g M j B : Nat} (h : MR w g M j) (hb : Below B w w') (hg : g < B) : MR w' g M j := by
  obtain ⟨f, hf, hm⟩ := h
  exact ⟨f, hf.of_block (hb.block g hg), hm⟩
theorem MR.cell {w : World} {g M j i : Nat} (h : MR w g M j) (hi : i < j * 5) (hM : j * 5 ≤ M) : w.cell? ⟨g, i, none⟩ = some (.int .i64 ((i : Int) + 1)) := by
  obtain ⟨f, hf, hm⟩ := h
  rw [hf.cell (by omega), hm i hi]
theorem MR.any {w : World} {g M j i : Nat} (h : MR w g M j) (hi : i < M) : ∃ u, w.cell? ⟨g, i, none⟩ = some u := by
  obtain ⟨f, hf, hm⟩ := h
  exact ⟨_, hf.cell hi⟩
theorem MR.frozen {w : World} {g M j : Nat} (h : MR w g M j) (i : Nat) : w.frozen? ⟨g, i, none⟩ = false := by
  obtain ⟨f, hf, hm⟩ := h
  exact hf.frozen i
theorem MR.step {w : World} {g M j : Nat} {x : Int} (h : MR w g M j) (hx : x = ((j * 5 : Nat) : Int) + 1) :
    MR (((((w.setCell ⟨g, j * 5, none⟩ (.int .i64 x)).setCell ⟨g, j * 5 + 1, none⟩ (.int .i64 (x + 1))).setCell ⟨g, j * 5 + 2, none⟩ (.int .i64 (x + 1 + 1))).setCell ⟨g, j * 5 + 3, none⟩ (.int .i64 (x + 1 + 1 + 1))).setCell ⟨g, j * 5 + 4, none⟩ (.int .i64 (x + 1 + 1 + 1 + 1))) g M (j + 1) := by
  obtain ⟨f, hf, hm⟩ := h
  refine ⟨_, ((((hf.set (j * 5) _).set (j * 5 + 1) _).set (j * 5 + 2) _).set (j * 5 + 3) _).set (j * 5 + 4) _, fun i hi => ?_⟩
  by_cases h4 : i = j * 5 + 4
  · rw [if_pos h4]; exact congrArg (Value.int .i64) (by omega)
  · rw [if_neg h4]
    by_cases h3 : i = j * 5 + 3
    · rw [if_pos h3]; exact congrArg (Value.int .i64) (by omega)
    · rw [if_neg h3]
      by_cases h2 : i = j * 5 + 2
      · rw [if_pos h2]; exact congrArg (Value.int .i64) (by omega)
      · rw [if_neg h2]
        by_cases h1 : i = j * 5 + 1
        · rw [if_pos h1]; exact congrArg (Value.int .i64) (by omega)
        · rw [if_neg h1]
          by_cases h0 : i = j * 5
          · rw [if_pos h0]; exact congrArg (Value.int .i64) (by omega)
          · rw [if_neg h0]
            exact hm i (by omega)
theorem only_set {a w : World} {g i : Nat} (h : a.grownBy w (some g)) (u : Value) : a.grownBy (w.setCell ⟨g, i, none⟩ u) (some g) :=
  ⟨h.os, h.tape, h.output, by simpa [World.setCell] using h.size, fun k hk hne => (Below.heap_setCell w ⟨g, i, none⟩ u k (by rintro rfl; exact hne rfl)).trans (h.block k hk hne)⟩
theorem int_val {a b : Int} (h : a = b) : Value.int .i64 a = .int .i64 b := by rw [h]
theorem ret_int {a b : Int} (h : a = b) : Ending.returned (.int .i64 a) = .returned (.int .i64 b) := by rw [h]
theorem mark_none (A : Option Addr) (c : Nat) (w : World) :
    Calls Tryz.prog 23 #[.slice A 0 c, .int .i64 1] w fun e w' => e = .returned (.int .i64 1) ∧ w = w' := by
  go_enter Tryz.func23, Tryz.ntmps23
  go_wp2
  go_loop [1, 5] (fun k i => k = .int .i64 1 ∧ i = .int .i64 0) (fun _ _ => 0)
  case atStart => exact ⟨rfl, rfl⟩
  case round =>
    obtain ⟨rfl, rfl⟩ := hrel
    go_wp2
    go_ret
    exact ⟨rfl, rfl⟩
theorem held_none (A : Option Addr) (c : Nat) (w : World) :
    Calls Tryz.prog 24 #[.slice A 0 c, .int .i64 1] w fun e w' => e = .returned (.int .i64 1) ∧ w = w' := by
  go_enter Tryz.func24, Tryz.ntmps24
  go_wp2
  go_loop [1, 5] (fun k i => k = .int .i64 1 ∧ i = .int .i64 0) (fun _ _ => 0)
  case atStart => exact ⟨rfl, rfl⟩
  case round =>
    obtain ⟨rfl, rfl⟩ := hrel
    go_wp2
    go_ret
    exact ⟨rfl, rfl⟩
set_option maxRecDepth 100000 in
set_option maxHeartbeats 1600000 in
theorem mark_all {w : World} {g M n c : Nat} (hn : n ≤ 1048576) (hM : n * 5 ≤ M) (h : MR w g M 0) :
    Calls Tryz.prog 23 #[.slice (some ⟨g, 0, none⟩) n c, .int .i64 1] w fun e w' => e = .returned (.int .i64 ((n * 5 : Nat) + 1)) ∧ MR w' g M n ∧ w.grownBy w' (some g) := by
  have H := Lib.hid h
  clear h
  go_enter Tryz.func23, Tryz.ntmps23
  go_wp2
  go_loopw [1, 5] (fun k i wr => ∃ j : Nat, j ≤ n ∧ i = .int .i64 j ∧ k = .int .i64 (((j * 5 : Nat) : Int) + 1) ∧ MR wr g M j ∧ w.grownBy wr (some g)) (fun _ i _ => n - (intOf i).toNat)
  case atStart => exact ⟨0, by omega, rfl, rfl, H.out, World.grownBy.refl w _⟩
  case round =>
    obtain ⟨j, hj, rfl, rfl, hm, hg⟩ := hrel
    have HM := Lib.hid hm
    have HG := Lib.hid hg
    by_cases hlt : j < n
    · obtain ⟨u0, c0⟩ := hm.any (i := j * 5) (by omega)
      obtain ⟨u1, c1⟩ := hm.any (i := j * 5 + 1) (by omega)
      obtain ⟨u2, c2⟩ := hm.any (i := j * 5 + 2) (by omega)
      obtain ⟨u3, c3⟩ := hm.any (i := j * 5 + 3) (by omega)
      obtain ⟨u4, c4⟩ := hm.any (i := j * 5 + 4) (by omega)
      have f0 := hm.frozen (j * 5)
      have f1 := hm.frozen (j * 5 + 1)
      have f2 := hm.frozen (j * 5 + 2)
      have f3 := hm.frozen (j * 5 + 3)
      have f4 := hm.frozen (j * 5 + 4)
      obtain ⟨x, hx⟩ : ∃ x : Int, x = ((j * 5 : Nat) : Int) + 1 := ⟨_, rfl⟩
      have x0 : 0 ≤ x := by omega
      have x1 : x ≤ 5242881 := by omega
      rw [← hx]
      have HXX := Lib.hid hx
      clear hm hg hx
      go_wp2_with fail
      go_roundw
      case rel => exact ⟨j + 1, by omega, by go_num, int_val (by have := HXX.out; omega), HM.out.step HXX.out, only_set (only_set (only_set (only_set (only_set HG.out _) _) _) _) _⟩
      case measure => simp [intOf]; omega
    · clear hm hg
      go_wp2_with fail
      go_ret
      have e : j = n := by omega
      subst e
      exact ⟨rfl, HM.out, HG.out⟩
set_option maxRecDepth 100000 in
set_option maxHeartbeats 1600000 in
theorem held_all {w : World} {g M n c : Nat} (hn : n ≤ 1048576) (hM : n * 5 ≤ M) (h : MR w g M n) :
    Calls Tryz.prog 24 #[.slice (some ⟨g, 0, none⟩) n c, .int .i64 1] w fun e w' => e = .returned (.int .i64 ((n * 5 : Nat) + 1)) ∧ w = w' := by
  have H := Lib.hid h
  clear h
  go_enter Tryz.func24, Tryz.ntmps24
  go_wp2
  go_loop [1, 5] (fun k i => ∃ j : Nat, j ≤ n ∧ i = .int .i64 j ∧ k = .int .i64 (((j * 5 : Nat) : Int) + 1)) (fun _ i => n - (intOf i).toNat)
  case atStart => exact ⟨0, by omega, rfl, rfl⟩
  case round =>
    obtain ⟨j, hj, rfl, rfl⟩ := hrel
    by_cases hlt : j < n
    · have c0 := H.out.cell (i := j * 5) (by omega) hM
      have c1 := H.out.cell (i := j * 5 + 1) (by omega) hM
      have c2 := H.out.cell (i := j * 5 + 2) (by omega) hM
      have c3 := H.out.cell (i := j * 5 + 3) (by omega) hM
      have c4 := H.out.cell (i := j * 5 + 4) (by omega) hM
      rw [show ((j * 5 + 1 : Nat) : Int) + 1 = ((j * 5 : Nat) : Int) + 1 + 1 by omega] at c1
      rw [show ((j * 5 + 2 : Nat) : Int) + 1 = ((j * 5 : Nat) : Int) + 1 + 1 + 1 by omega] at c2
      rw [show ((j * 5 + 3 : Nat) : Int) + 1 = ((j * 5 : Nat) : Int) + 1 + 1 + 1 + 1 by omega] at c3
      rw [show ((j * 5 + 4 : Nat) : Int) + 1 = ((j * 5 : Nat) : Int) + 1 + 1 + 1 + 1 + 1 by omega] at c4
      obtain ⟨x, hx⟩ : ∃ x : Int, x = ((j * 5 : Nat) : Int) + 1 := ⟨_, rfl⟩
      have x0 : 0 ≤ x := by omega
      have x1 : x ≤ 5242881 := by omega
      rw [← hx] at c0 c1 c2 c3 c4
      rw [← hx]
      have HXX := Lib.hid hx
      clear hx
      go_wp2_with fail
      go_round
      case rel => exact ⟨j + 1, by omega, by go_num, int_val (by have := HXX.out; omega)⟩
      case measure => simp [intOf]; omega
    · go_wp2_with fail
      go_ret
      have e : j = n := by omega
      subst e
      exact ⟨rfl, rfl⟩
end Go.Proofs.YtleeglgjaifejaaGreatDoor.mark
