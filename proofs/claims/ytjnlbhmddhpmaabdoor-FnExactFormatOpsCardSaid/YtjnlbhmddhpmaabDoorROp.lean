/- The law's own helpers over Op and slices of them: how much they count, the copy, the comparison, the marks; opening an argument. Nothing that was there is written. -/
import Derived.Test.YtjnlbhmddhpmaabDoorEl6
import Derived.WalkKit
import Derived.ProofKit
import Derived.OpenShut
import Derived.ChangeOld
import Derived.Below
import Derived.Carry
import Derived.Lib.Hide
import Derived.LoopTactic
import Derived.Deep.QuietTactic
import Derived.BigQuiet
import Derived.StillTailTactics
import Derived.Outline
import Derived.IntWalk
import Derived.Deep.OwnRows
import Derived.Deep.Slices
import Derived.Deep.DeepHandedRow
import Derived.Laws.MakeOwn
import Derived.Laws.Entries
namespace Go.Proofs.YtjnlbhmddhpmaabDoor.rOp
open Go.ChangeShapes Go.WideShapes Go.ChangeAt Go.RowKit
open Go.Deep (open_slice add_add)
open Go.Proofs.YtjnlbhmddhpmaabDoor.el6
set_option linter.unusedVariables false
set_option linter.unusedSimpArgs false
set_option linter.constructorNameAsVariable false
theorem to_one (x : E6) (w : World) :
    Calls Tryd.prog 15 #[.agg #[.int .i64 x.a, .int .i64 x.b, .int .i64 x.c, .int .i64 x.d, .int .i64 x.e, .int .i64 x.f]] w fun e w' => e = .returned (.agg #[.int .i64 x.a, .int .i64 x.b, .int .i64 x.c, .int .i64 x.d, .int .i64 x.e, .int .i64 x.f]) ∧ Below w.heap.size w w' := by
  go_enter Tryd.func15, Tryd.ntmps15
  go_wp2
  exact bodyPost_ret (v := .agg #[.int .i64 x.a, .int .i64 x.b, .int .i64 x.c, .int .i64 x.d, .int .i64 x.e, .int .i64 x.f]) (by simp [results, Tryd.results15, go_sem]) rfl ⟨rfl, (((Below.refl _ _).alloc (Nat.le_refl _) _).alloc (by simp) _).alloc (by simp; omega) _⟩
def eB (x y : E6) : Bool := decide (x = y)
theorem eB_yes {x y : E6} (h : x.a = y.a ∧ x.b = y.b ∧ x.c = y.c ∧ x.d = y.d ∧ x.e = y.e ∧ x.f = y.f) : Ending.returned (.bool true) = .returned (.bool (eB x y)) := by
  have : x = y := by cases x; cases y; simp_all
  rw [show eB x y = true from decide_eq_true this]
theorem eB_no {x y : E6} (h : ¬ (x.a = y.a ∧ x.b = y.b ∧ x.c = y.c ∧ x.d = y.d ∧ x.e = y.e ∧ x.f = y.f)) : Ending.returned (.bool false) = .returned (.bool (eB x y)) := by
  have : x ≠ y := fun e => h (by subst e; simp)
  rw [show eB x y = false from decide_eq_false this]
set_option maxHeartbeats 800000 in
theorem eq_one (x y : E6) (w : World) :
    Calls Tryd.prog 19 #[.agg #[.int .i64 x.a, .int .i64 x.b, .int .i64 x.c, .int .i64 x.d, .int .i64 x.e, .int .i64 x.f], .agg #[.int .i64 y.a, .int .i64 y.b, .int .i64 y.c, .int .i64 y.d, .int .i64 y.e, .int .i64 y.f]] w fun e w' => e = .returned (.bool (eB x y)) ∧ Below w.heap.size w w' := by
  by_cases h0 : x.a = y.a
  case neg =>
    have t0 : (x.a == y.a) = false := by simpa using h0
    go_enter Tryd.func19, Tryd.ntmps19
    go_wp2
    go_ret
    exact ⟨eB_no (by intro hh; omega), ((Below.refl _ _).alloc (Nat.le_refl _) _).alloc (by simp) _⟩
  have t0 : (x.a == y.a) = true := by simpa using h0
  have H0 := Lib.hid h0
  clear h0
  by_cases h1 : x.b = y.b
  case neg =>
    have t1 : (x.b == y.b) = false := by simpa using h1
    go_enter Tryd.func19, Tryd.ntmps19
    go_wp2
    go_ret
    exact ⟨eB_no (by intro hh; omega), ((Below.refl _ _).alloc (Nat.le_refl _) _).alloc (by simp) _⟩
  have t1 : (x.b == y.b) = true := by simpa using h1
  have H1 := Lib.hid h1
  clear h1
  by_cases h2 : x.c = y.c
  case neg =>
    have t2 : (x.c == y.c) = false := by simpa using h2
    go_enter Tryd.func19, Tryd.ntmps19
    go_wp2
    go_ret
    exact ⟨eB_no (by intro hh; omega), ((Below.refl _ _).alloc (Nat.le_refl _) _).alloc (by simp) _⟩
  have t2 : (x.c == y.c) = true := by simpa using h2
  have H2 := Lib.hid h2
  clear h2
  by_cases h3 : x.d = y.d
  case neg =>
    have t3 : (x.d == y.d) = false := by simpa using h3
    go_enter Tryd.func19, Tryd.ntmps19
    go_wp2
    go_ret
    exact ⟨eB_no (by intro hh; omega), ((Below.refl _ _).alloc (Nat.le_refl _) _).alloc (by simp) _⟩
  have t3 : (x.d == y.d) = true := by simpa using h3
  have H3 := Lib.hid h3
  clear h3
  by_cases h4 : x.e = y.e
  case neg =>
    have t4 : (x.e == y.e) = false := by simpa using h4
    go_enter Tryd.func19, Tryd.ntmps19
    go_wp2
    go_ret
    exact ⟨eB_no (by intro hh; omega), ((Below.refl _ _).alloc (Nat.le_refl _) _).alloc (by simp) _⟩
  have t4 : (x.e == y.e) = true := by simpa using h4
  have H4 := Lib.hid h4
  clear h4
  by_cases h5 : x.f = y.f
  case neg =>
    have t5 : (x.f == y.f) = false := by simpa using h5
    go_enter Tryd.func19, Tryd.ntmps19
    go_wp2
    go_ret
    exact ⟨eB_no (by intro hh; omega), ((Below.refl _ _).alloc (Nat.le_refl _) _).alloc (by simp) _⟩
  have t5 : (x.f == y.f) = true := by simpa using h5
  have H5 := Lib.hid h5
  clear h5
  go_enter Tryd.func19, Tryd.ntmps19
  go_wp2
  go_ret
  exact ⟨eB_yes ⟨H0.out, H1.out, H2.out, H3.out, H4.out, H5.out⟩, ((Below.refl _ _).alloc (Nat.le_refl _) _).alloc (by simp) _⟩
/-! slices -/
theorem count (A : Option Addr) (n c : Nat) (left : Int) (w : World) (hn : n ≤ 9223372036854775807) (h0 : 0 ≤ left) (h1 : left ≤ 1048576) :
    Calls Tryd.prog 5 #[.slice A n c, .int .i64 left] w fun e w' => e = .returned (.int .i64 (if left < n then -1 else left - n)) ∧ w = w' := by
  by_cases h : left < n
  · rw [if_pos h]
    have t : decide (left - (n : Int) < 0) = true := decide_eq_true (by omega)
    go_enter Tryd.func5, Tryd.ntmps5
    go_wp2
    go_ret
    exact ⟨rfl, rfl⟩
  · rw [if_neg h]
    have t : decide (left - (n : Int) < 0) = false := decide_eq_false (by omega)
    go_enter Tryd.func5, Tryd.ntmps5
    go_wp2
    go_ret
    exact ⟨rfl, rfl⟩
set_option maxRecDepth 100000 in
set_option maxHeartbeats 800000 in
theorem same {w : World} {B n c c2 : Nat} {A A2 : Option Addr} {l : List E6} (hn : n ≤ 140737488355328) (h1 : Vs w B A n l) (h2 : Vs w B A2 n l) (hB : B ≤ w.heap.size) :
    Calls Tryd.prog 9 #[.slice A n c, .slice A2 n c2] w fun e w' => e = .returned (.bool true) ∧ Below w.heap.size w w' := by
  have H1 := Lib.hid h1
  have H2 := Lib.hid h2
  clear h1 h2
  go_enter Tryd.func9, Tryd.ntmps9
  go_wp2
  go_loopw [5] (fun i wr => ∃ k : Nat, k ≤ n ∧ i = .int .i64 k ∧ Below w.heap.size w wr) (fun i _ => n - (intOf i).toNat)
  case atStart => exact ⟨0, by omega, rfl, Below.refl _ _⟩
  case round =>
    obtain ⟨k, hk, rfl, hb⟩ := hrel
    by_cases hlt : k < n
    · obtain ⟨b, o, x, rfl, hbB, hx, a0, a1, a2, a3, a4, a5⟩ := (H1.out.below (below_le hb hB)).at_ hlt
      obtain ⟨b', o', x', rfl, hbB', hx', b0, b1, b2, b3, b4, b5⟩ := (H2.out.below (below_le hb hB)).at_ hlt
      obtain rfl : x = x' := by rw [hx] at hx'; exact Option.some.inj hx'
      have HB := Lib.hid hb
      clear hb hx hx'
      have hd : eB x x = true := decide_eq_true rfl
      have HD := Lib.hid hd
      clear hd
      go_wp2_with fail
      go_still_tail 8, (by kernel_rfl)
      change wpList _ _ _ _ _ wr.drew
      go_wp2_with fail
      refine (eq_one x x _).mono ?_
      rintro e W1 ⟨rfl, hb1⟩
      rw [HD.out]
      have HB1 := Lib.hid hb1
      clear hb1
      go_wp2_with fail
      go_roundw
      case rel => exact ⟨k + 1, by omega, by go_num, HB.out.drew.trans (HB1.out.mono HB.out.size)⟩
      case measure => simp [intOf]; omega
    · go_wp2
      go_ret
      exact ⟨rfl, hb⟩
theorem info_el : (Tryd.prog.info? 35).map (fun i => (i.zero, i.size, i.bytes)) = some (some (.agg #[.int .i64 0, .int .i64 0, .int .i64 0, .int .i64 0, .int .i64 0, .int .i64 0]), 6, 48) := by kernel_rfl
theorem make_els (n : Nat) (hn : n ≤ 2097152) (w : World) :
    (Instr.makeSlice 25 (.int .i64 (n : Int)) (.int .i64 (n : Int))).run Tryd.prog w = .ok (.slice (some ⟨w.heap.size, 0, none⟩) n n) (w.alloc (.cells (madeCells #[.int .i64 0, .int .i64 0, .int .i64 0, .int .i64 0, .int .i64 0, .int .i64 0] (n * 6)) 35)) := by
  obtain ⟨i0, hi, hz0, hz1, hz2⟩ := info_parts info_el
  have hr := run_make (P := Tryd.prog) w 25 35 i0 _ Tryd.underlying25 hi hz0 .i64 .i64 n n (by omega) (by omega) (by rw [hz2]; omega) (by omega)
  simp only [Int.toNat_natCast, hz1, Value.cells] at hr
  exact hr
set_option maxRecDepth 100000 in
set_option maxHeartbeats 800000 in
theorem copied {w : World} {B n c : Nat} {A : Option Addr} {l : List E6} (hn : n ≤ 2097152) (h1 : Vs w B A n l) (hB : B ≤ w.heap.size) :
    Calls Tryd.prog 7 #[.slice A n c] w (Copied 35 n l w) := by
  have H1 := Lib.hid h1
  have hmk := make_els n hn w
  clear h1
  go_enter Tryd.func7, Tryd.ntmps7
  go_wp2
  obtain ⟨N, hN⟩ : ∃ N, N = w.heap.size := ⟨_, rfl⟩
  have hR0 := Row.made 35 w n l
  have hb0 := new1 w (.cells (madeCells #[.int .i64 0, .int .i64 0, .int .i64 0, .int .i64 0, .int .i64 0, .int .i64 0] (n * 6)) 35)
  rw [← hN] at hR0
  simp only [← hN]
  generalize w.alloc (.cells (madeCells #[.int .i64 0, .int .i64 0, .int .i64 0, .int .i64 0, .int .i64 0, .int .i64 0] (n * 6)) 35) = w0 at hR0 hb0 ⊢
  have hN2 : w.heap.size ≤ N := by omega
  clear hN hmk
  go_loopw [4] (fun i wr => ∃ k : Nat, k ≤ n ∧ i = .int .i64 k ∧ Row 35 wr N n l k ∧ Below w.heap.size w wr) (fun i _ => n - (intOf i).toNat)
  case atStart => exact ⟨0, by omega, rfl, hR0, hb0⟩
  case round =>
    obtain ⟨k, hk, rfl, hR, hb⟩ := hrel
    have hNl := hR.lt
    by_cases hlt : k < n
    · obtain ⟨b, o, x, rfl, hbB, hx, a0, a1, a2, a3, a4, a5⟩ := (H1.out.below (below_le hb hB)).at_ hlt
      have HB := Lib.hid hb
      have HR := Lib.hid hR
      have HX := Lib.hid hx
      clear hb hx hR hR0 hb0
      go_wp2_with fail
      refine (to_one x _).mono ?_
      rintro e W1 ⟨rfl, hb1⟩
      have hR1 := HR.out.below hb1 hNl
      obtain ⟨u0, c0⟩ := hR1.cell (i := k * 6) (by omega)
      have f0 := hR1.frozen (k * 6)
      obtain ⟨u1, c1⟩ := hR1.cell (i := k * 6 + 1) (by omega)
      have f1 := hR1.frozen (k * 6 + 1)
      obtain ⟨u2, c2⟩ := hR1.cell (i := k * 6 + 2) (by omega)
      have f2 := hR1.frozen (k * 6 + 2)
      obtain ⟨u3, c3⟩ := hR1.cell (i := k * 6 + 3) (by omega)
      have f3 := hR1.frozen (k * 6 + 3)
      obtain ⟨u4, c4⟩ := hR1.cell (i := k * 6 + 4) (by omega)
      have f4 := hR1.frozen (k * 6 + 4)
      obtain ⟨u5, c5⟩ := hR1.cell (i := k * 6 + 5) (by omega)
      have f5 := hR1.frozen (k * 6 + 5)
      have HR1 := Lib.hid hR1
      have HB1 := Lib.hid hb1
      clear hR1 hb1
      go_wp2_with fail
      go_roundw
      case rel => exact ⟨k + 1, by omega, by go_num, HR1.out.set hlt HX.out, ((((((HB.out.trans (HB1.out.mono HB.out.size)).setCell hN2 _).setCell hN2 _).setCell hN2 _).setCell hN2 _).setCell hN2 _).setCell hN2 _⟩
      case measure => simp [intOf]; omega
    · obtain rfl : k = n := by omega
      have HB := Lib.hid hb
      have HR := Lib.hid hR
      clear hb hR hR0 hb0
      go_wp2
      go_ret
      exact ⟨N, rfl, hN2, hNl, HR.out, HB.out⟩
/-! the marks -/
set_option maxRecDepth 100000 in
set_option maxHeartbeats 1600000 in
theorem mark {w : World} {g M n c : Nat} {k0 : Int} (h0 : 0 ≤ k0) (h1 : k0 ≤ 1152921504606846976) (hn : n ≤ 1048576) (hM : n * 6 ≤ M) (h : MK 35 w g M k0 0) :
    Calls Tryd.prog 12 #[.slice (some ⟨g, 0, none⟩) n c, .int .i64 k0] w fun e w' => e = .returned (.int .i64 (k0 + (n * 6 : Nat))) ∧ MK 35 w' g M k0 n ∧ Off g w w' := by
  have H := Lib.hid h
  clear h
  go_enter Tryd.func12, Tryd.ntmps12
  go_wp2
  go_loopw [1, 5] (fun k i wr => ∃ j : Nat, j ≤ n ∧ i = .int .i64 j ∧ k = .int .i64 (k0 + ((j * 6 : Nat) : Int)) ∧ MK 35 wr g M k0 j ∧ Off g w wr) (fun _ i _ => n - (intOf i).toNat)
  case atStart => exact ⟨0, by omega, rfl, ival (by omega), H.out, Off.refl _ _⟩
  case round =>
    obtain ⟨j, hj, rfl, rfl, hm, hg⟩ := hrel
    have HM := Lib.hid hm
    have HG := Lib.hid hg
    by_cases hlt : j < n
    · skip
      obtain ⟨u0, c0⟩ := hm.any (i := j * 6) (by omega)
      have f0 := hm.frozen (j * 6)
      obtain ⟨u1, c1⟩ := hm.any (i := j * 6 + 1) (by omega)
      have f1 := hm.frozen (j * 6 + 1)
      obtain ⟨u2, c2⟩ := hm.any (i := j * 6 + 2) (by omega)
      have f2 := hm.frozen (j * 6 + 2)
      obtain ⟨u3, c3⟩ := hm.any (i := j * 6 + 3) (by omega)
      have f3 := hm.frozen (j * 6 + 3)
      obtain ⟨u4, c4⟩ := hm.any (i := j * 6 + 4) (by omega)
      have f4 := hm.frozen (j * 6 + 4)
      obtain ⟨u5, c5⟩ := hm.any (i := j * 6 + 5) (by omega)
      have f5 := hm.frozen (j * 6 + 5)
      obtain ⟨x, hx⟩ : ∃ x : Int, x = k0 + ((j * 6 : Nat) : Int) := ⟨_, rfl⟩
      have x0 : 0 ≤ x := by omega
      have x1 : x ≤ 4611686018427387904 := by omega
      rw [← hx]
      have HXX := Lib.hid hx
      clear hm hg hx
      go_wp2_with fail
      go_roundw
      case rel => exact ⟨j + 1, by omega, by go_num, ival (by have := HXX.out; omega), HM.out.step HXX.out, (((((HG.out.setCell rfl _).setCell rfl _).setCell rfl _).setCell rfl _).setCell rfl _).setCell rfl _⟩
      case measure => simp [intOf]; omega
    · obtain rfl : j = n := by omega
      clear hm hg
      go_wp2_with fail
      go_ret
      exact ⟨rfl, HM.out, HG.out⟩
set_option maxRecDepth 100000 in
set_option maxHeartbeats 1600000 in
theorem held {w : World} {g M n c : Nat} {k0 : Int} (h0 : 0 ≤ k0) (h1 : k0 ≤ 1152921504606846976) (hn : n ≤ 1048576) (hM : n * 6 ≤ M) (h : MK 35 w g M k0 n) :
    Calls Tryd.prog 13 #[.slice (some ⟨g, 0, none⟩) n c, .int .i64 k0] w fun e w' => e = .returned (.int .i64 (k0 + (n * 6 : Nat))) ∧ w = w' := by
  have H := Lib.hid h
  clear h
  go_enter Tryd.func13, Tryd.ntmps13
  go_wp2
  go_loop [1, 5] (fun k i => ∃ j : Nat, j ≤ n ∧ i = .int .i64 j ∧ k = .int .i64 (k0 + ((j * 6 : Nat) : Int))) (fun _ i => n - (intOf i).toNat)
  case atStart => exact ⟨0, by omega, rfl, ival (by omega)⟩
  case round =>
    obtain ⟨j, hj, rfl, rfl⟩ := hrel
    by_cases hlt : j < n
    · obtain ⟨x, hx⟩ : ∃ x : Int, x = k0 + ((j * 6 : Nat) : Int) := ⟨_, rfl⟩
      have c0 := H.out.cell (i := j * 6) (by omega) hM
      rw [show k0 + ((j * 6 : Nat) : Int) = x by omega] at c0
      have c1 := H.out.cell (i := j * 6 + 1) (by omega) hM
      rw [show k0 + ((j * 6 + 1 : Nat) : Int) = x + 1 by omega] at c1
      have c2 := H.out.cell (i := j * 6 + 2) (by omega) hM
      rw [show k0 + ((j * 6 + 2 : Nat) : Int) = x + 1 + 1 by omega] at c2
      have c3 := H.out.cell (i := j * 6 + 3) (by omega) hM
      rw [show k0 + ((j * 6 + 3 : Nat) : Int) = x + 1 + 1 + 1 by omega] at c3
      have c4 := H.out.cell (i := j * 6 + 4) (by omega) hM
      rw [show k0 + ((j * 6 + 4 : Nat) : Int) = x + 1 + 1 + 1 + 1 by omega] at c4
      have c5 := H.out.cell (i := j * 6 + 5) (by omega) hM
      rw [show k0 + ((j * 6 + 5 : Nat) : Int) = x + 1 + 1 + 1 + 1 + 1 by omega] at c5
      have x0 : 0 ≤ x := by omega
      have x1 : x ≤ 4611686018427387904 := by omega
      rw [← hx]
      have HXX := Lib.hid hx
      clear hx
      go_wp2_with fail
      go_round
      case rel => exact ⟨j + 1, by omega, by go_num, ival (by have := HXX.out; omega)⟩
      case measure => simp [intOf]; omega
    · obtain rfl : j = n := by omega
      go_wp2_with fail
      go_ret
      exact ⟨rfl, rfl⟩
theorem mark0 (A : Option Addr) (c : Nat) (k0 : Int) (w : World) :
    Calls Tryd.prog 12 #[.slice A 0 c, .int .i64 k0] w fun e w' => e = .returned (.int .i64 k0) ∧ w = w' := by
  go_enter Tryd.func12, Tryd.ntmps12
  go_wp2
  go_loop [1, 5] (fun k i => k = .int .i64 k0 ∧ i = .int .i64 0) (fun _ _ => 0)
  case atStart => exact ⟨rfl, rfl⟩
  case round =>
    obtain ⟨rfl, rfl⟩ := hrel
    go_wp2
    go_ret
    exact ⟨rfl, rfl⟩
theorem held0 (A : Option Addr) (c : Nat) (k0 : Int) (w : World) :
    Calls Tryd.prog 13 #[.slice A 0 c, .int .i64 k0] w fun e w' => e = .returned (.int .i64 k0) ∧ w = w' := by
  go_enter Tryd.func13, Tryd.ntmps13
  go_wp2
  go_loop [1, 5] (fun k i => k = .int .i64 k0 ∧ i = .int .i64 0) (fun _ _ => 0)
  case atStart => exact ⟨rfl, rfl⟩
  case round =>
    obtain ⟨rfl, rfl⟩ := hrel
    go_wp2
    go_ret
    exact ⟨rfl, rfl⟩
/-! a law's argument -/
section
variable {H : Type} {enc : TypeId × Value → H} {w : World} {base : Nat} {spare : Nat → Bool} {held : Bool}
set_option maxRecDepth 100000 in
theorem cells_of {fuel : Nat} {cs : List Value} {x : DataW H × List MemPlace} (h : DataW.trod enc Tryd.prog w base spare held fuel 37 cs = some x) :
    ∃ v : E6, cs = [.int .i64 v.a, .int .i64 v.b, .int .i64 v.c, .int .i64 v.d, .int .i64 v.e, .int .i64 v.f] := by
  obtain ⟨xs, n, _, _, hlen, hxl, hf⟩ := DataW.trod_struct Tryd.underlying37 h
  have hC : Tryd.prog.cellsOf 37 = 6 := by kernel_rfl
  rw [hC] at hlen
  match cs, hlen with
  | [c0, c1, c2, c3, c4, c5], _ =>
    match xs, hxl with
    | [y0, y1, y2, y3, y4, y5], _ =>
      have g0 := hf 0 _ rfl
      have g1 := hf 1 _ rfl
      have g2 := hf 2 _ rfl
      have g3 := hf 3 _ rfl
      have g4 := hf 4 _ rfl
      have g5 := hf 5 _ rfl
      obtain ⟨a, ha, _, _⟩ := DataW.trod_int (cs := [c0]) Tryd.underlying3 g0
      obtain ⟨b, hb, _, _⟩ := DataW.trod_int (cs := [c1]) Tryd.underlying3 g1
      obtain ⟨c, hc, _, _⟩ := DataW.trod_int (cs := [c2]) Tryd.underlying3 g2
      obtain ⟨d, hd, _, _⟩ := DataW.trod_int (cs := [c3]) Tryd.underlying3 g3
      obtain ⟨e, he, _, _⟩ := DataW.trod_int (cs := [c4]) Tryd.underlying3 g4
      obtain ⟨f, hf, _, _⟩ := DataW.trod_int (cs := [c5]) Tryd.underlying3 g5
      simp only [List.cons.injEq, and_true] at ha hb hc hd he hf
      exact ⟨⟨a, b, c, d, e, f⟩, by rw [ha, hb, hc, hd, he, hf]⟩
set_option maxRecDepth 100000 in
theorem open_one {r : Reach} {b0 : Nat} {v : Value} {d : DataW H} {p : List MemPlace} (hv : Value.okWide Tryd.prog w r b0 37 v) (h : DataW.Trod enc Tryd.prog w base spare held 37 v d p) :
    ∃ x : E6, v = .agg #[.int .i64 x.a, .int .i64 x.b, .int .i64 x.c, .int .i64 x.d, .int .i64 x.e, .int .i64 x.f] := by
  obtain ⟨cs, rfl, hsz⟩ := okWide_struct Tryd.underlying37 hv
  obtain ⟨l⟩ := cs
  obtain ⟨fuel, hf⟩ := h
  obtain ⟨x, hx⟩ := cells_of hf
  refine ⟨x, ?_⟩
  have : l = [.int .i64 x.a, .int .i64 x.b, .int .i64 x.c, .int .i64 x.d, .int .i64 x.e, .int .i64 x.f] := hx
  rw [this]
theorem cell_lt {a : Addr} {v : Value} (h : w.cell? a = some v) : a.block < w.heap.size := by
  rcases Nat.lt_or_ge a.block w.heap.size with h' | h'
  · exact h'
  · simp [World.cell?, Array.getElem?_eq_none h'] at h
set_option maxRecDepth 100000 in
theorem open_row {fuel : Nat} {x : DataW H × List MemPlace} {A : Option Addr} {len cap : Nat} (hf : DataW.trod enc Tryd.prog w base spare held fuel 22 [.slice A len cap] = some x) :
    ∃ l : List E6, Vs w w.heap.size A len l ∧ len ≤ maxLen := by
  rcases open_slice Tryd.underlying22 hf with ⟨hcs, _⟩ | ⟨a, len', cap', m, n, D, Pl, hcs, _, hl, hm, hmm, _, hi⟩
  · simp at hcs
    obtain ⟨rfl, rfl, rfl⟩ := hcs
    exact ⟨[], Vs.nil_ _ _ _, by unfold maxLen; omega⟩
  · simp at hcs
    obtain ⟨rfl, rfl, rfl⟩ := hcs
    have hC : Tryd.prog.cellsOf 37 = 6 := by kernel_rfl
    rw [hC] at hi
    have hle : len ≤ m := by rw [hmm]; split <;> omega
    obtain ⟨b, o, sp⟩ := a
    have hsp0 : 0 < len → sp = none := fun h0 => by
      obtain ⟨cs', hc, ht⟩ := hi 0 (by omega)
      obtain ⟨x, rfl⟩ := cells_of ht
      obtain ⟨_, _, hat⟩ := World.cells?_some hc
      have k0 := hat 0 (by omega)
      exact World.cell?_spot k0
    have hone : ∀ i, i < len → ∃ x : E6, sp = none ∧ b < w.heap.size ∧ At w b (o + i * 6) x := by
      intro i hil
      obtain ⟨cs', hc, ht⟩ := hi i (by omega)
      obtain ⟨x, rfl⟩ := cells_of ht
      obtain ⟨_, _, hat⟩ := World.cells?_some hc
      have k0 := hat 0 (by omega)
      have k1 := hat 1 (by omega)
      have k2 := hat 2 (by omega)
      have k3 := hat 3 (by omega)
      have k4 := hat 4 (by omega)
      have k5 := hat 5 (by omega)
      rw [add_add] at k0 k1 k2 k3 k4 k5
      have hsp : sp = none := hsp0 (by omega)
      subst hsp
      have e : ∀ j, (⟨b, o, none⟩ : Addr).add j = ⟨b, o + j, none⟩ := fun j => by unfold Addr.add; split <;> simp_all
      rw [e] at k0 k1 k2 k3 k4 k5
      refine ⟨x, rfl, cell_lt k0, ?_⟩
      refine ⟨?_, ?_, ?_, ?_, ?_, ?_⟩
      · simpa using k0
      · simpa [Nat.add_assoc] using k1
      · simpa [Nat.add_assoc] using k2
      · simpa [Nat.add_assoc] using k3
      · simpa [Nat.add_assoc] using k4
      · simpa [Nat.add_assoc] using k5
    rcases Nat.eq_zero_or_pos len with h0 | h0
    · subst h0
      exact ⟨[], Vs.nil_ _ _ _, by omega⟩
    · have hsp := (hone 0 h0).choose_spec.1
      have hbl := (hone 0 h0).choose_spec.2.1
      subst hsp
      have hone' : ∀ i : Fin len, ∃ x : E6, At w b (o + i.val * 6) x := fun i => ⟨_, (hone i.val i.isLt).choose_spec.2.2⟩
      refine ⟨List.ofFn fun i => (hone' i).choose, ⟨by simp, fun _ => ⟨b, o, rfl, hbl, fun k x hx => ?_⟩⟩, by omega⟩
      have hk : k < len := by
        rcases Nat.lt_or_ge k len with h' | h'
        · exact h'
        · rw [List.getElem?_eq_none (by simpa using h')] at hx; cases hx
      rw [List.getElem?_eq_getElem (by simpa using hk)] at hx
      simp only [List.getElem_ofFn, Option.some.injEq] at hx
      rw [← hx]
      exact (hone' ⟨k, hk⟩).choose_spec
theorem open_slice1 {A : Option Addr} {len cap : Nat} {d : DataW H} {p : List MemPlace} (h : DataW.Trod enc Tryd.prog w base spare held 22 (.slice A len cap) d p) :
    ∃ l : List E6, Vs w w.heap.size A len l ∧ len ≤ maxLen := by
  obtain ⟨fuel, hf⟩ := h
  exact open_row hf
end
end Go.Proofs.YtjnlbhmddhpmaabDoor.rOp
