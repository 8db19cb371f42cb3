/- SchemeName and NewTransaction of the program and of the model, what they answer; nothing that was there is written. -/
import Derived.Test.YtbnkkgjkhpbgiaaTvs
import Derived.WalkKit
import Derived.ProofKit
import Derived.Below
import Derived.Lib.Hide
import Derived.LoopTactic
import Derived.Deep.QuietTactic
import Derived.BigQuiet
import Derived.StillTailTactics
import Derived.Outline
import Derived.IntWalk
import Derived.Deep.RegionHeld3
import Derived.Deep.OwnRows
import Derived.Laws.Entries
namespace Go.Proofs.Ytbnkkgjkhpbgiaa.tn
open Go.ChangeShapes Go.WideShapes Go.ChangeAt Go.RowKit
open Go.Proofs.Ytbnkkgjkhpbgiaa.el2 Go.Proofs.Ytbnkkgjkhpbgiaa.tx Go.Proofs.Ytbnkkgjkhpbgiaa.seq Go.Proofs.Ytbnkkgjkhpbgiaa.tv
open Go.Proofs.Ytbnkkgjkhpbgiaa.vers (In in_yes in_no in_of in_off in_range ret_b new2 new3)
set_option linter.unusedVariables false
set_option linter.unusedSimpArgs false
set_option linter.constructorNameAsVariable false
def sn (k : Int) : ByteArray := if k = 1 then ⟨#[99, 111, 109, 109, 105, 116, 116, 101, 100]⟩ else if k = 2 then ⟨#[115, 110, 97, 112, 115, 104, 111, 116]⟩ else if k = 3 then ⟨#[111, 112, 116, 105, 109, 105, 115, 116, 105, 99]⟩ else if k = 4 then ⟨#[111, 114, 100, 101, 114, 101, 100]⟩ else ⟨#[]⟩
theorem sn_1 : sn 1 = ⟨#[99, 111, 109, 109, 105, 116, 116, 101, 100]⟩ := rfl
theorem sn_2 : sn 2 = ⟨#[115, 110, 97, 112, 115, 104, 111, 116]⟩ := rfl
theorem sn_3 : sn 3 = ⟨#[111, 112, 116, 105, 109, 105, 115, 116, 105, 99]⟩ := rfl
theorem sn_4 : sn 4 = ⟨#[111, 114, 100, 101, 114, 101, 100]⟩ := rfl
theorem sn_0 {k : Int} (h1 : k ≠ 1) (h2 : k ≠ 2) (h3 : k ≠ 3) (h4 : k ≠ 4) : sn k = ⟨#[]⟩ := by unfold sn; rw [if_neg h1, if_neg h2, if_neg h3, if_neg h4]
theorem ret_s {a b : ByteArray} (h : a = b) : Ending.returned (.string a) = .returned (.string b) := by rw [h]
set_option maxHeartbeats 1600000 in
theorem impl_scheme (k : Int) (w : World) :
    Calls Try.prog 12 #[.int .i64 k] w fun e w' => e = .returned (.string (sn k)) ∧ Below w.heap.size w w' := by
  by_cases q1 : k = 1
  case pos =>
    subst q1
    go_enter Try.func12, Try.ntmps12
    go_wp2_with fail
    go_ret
    exact ⟨ret_s sn_1.symm, Below.refl _ _⟩
  by_cases q2 : k = 2
  case pos =>
    subst q2
    go_enter Try.func12, Try.ntmps12
    go_wp2_with fail
    go_ret
    exact ⟨ret_s sn_2.symm, Below.refl _ _⟩
  by_cases q3 : k = 3
  case pos =>
    subst q3
    go_enter Try.func12, Try.ntmps12
    go_wp2_with fail
    go_ret
    exact ⟨ret_s sn_3.symm, Below.refl _ _⟩
  by_cases q4 : k = 4
  case pos =>
    subst q4
    go_enter Try.func12, Try.ntmps12
    go_wp2_with fail
    go_ret
    exact ⟨ret_s sn_4.symm, Below.refl _ _⟩
  have hs := Lib.hid (sn_0 q1 q2 q3 q4)
  have e1 : (k == 1) = false := by simpa using q1
  have e2 : (k == 2) = false := by simpa using q2
  have e3 : (k == 3) = false := by simpa using q3
  have e4 : (k == 4) = false := by simpa using q4
  go_enter Try.func12, Try.ntmps12
  go_wp2_with fail
  go_ret
  exact ⟨ret_s hs.out.symm, Below.refl _ _⟩
set_option maxHeartbeats 1600000 in
theorem spec_scheme (k : Int) (w : World) :
    Calls Try.prog 13 #[.int .i64 k] w fun e w' => e = .returned (.string (sn k)) ∧ Below w.heap.size w w' := by
  by_cases q1 : k = 1
  case pos =>
    subst q1
    go_enter Try.func13, Try.ntmps13
    go_wp2_with fail
    refine (in_range _ _ _ _).mono ?_
    rintro e W ⟨rfl, rfl⟩
    rw [show In 1 4 1 = true from in_of ⟨by omega, by omega⟩]
    go_wp2_with fail
    go_ret
    exact ⟨ret_s sn_1.symm, new1 _ _⟩
  by_cases q2 : k = 2
  case pos =>
    subst q2
    go_enter Try.func13, Try.ntmps13
    go_wp2_with fail
    refine (in_range _ _ _ _).mono ?_
    rintro e W ⟨rfl, rfl⟩
    rw [show In 1 4 2 = true from in_of ⟨by omega, by omega⟩]
    go_wp2_with fail
    go_ret
    exact ⟨ret_s sn_2.symm, new1 _ _⟩
  by_cases q3 : k = 3
  case pos =>
    subst q3
    go_enter Try.func13, Try.ntmps13
    go_wp2_with fail
    refine (in_range _ _ _ _).mono ?_
    rintro e W ⟨rfl, rfl⟩
    rw [show In 1 4 3 = true from in_of ⟨by omega, by omega⟩]
    go_wp2_with fail
    go_ret
    exact ⟨ret_s sn_3.symm, new1 _ _⟩
  by_cases q4 : k = 4
  case pos =>
    subst q4
    go_enter Try.func13, Try.ntmps13
    go_wp2_with fail
    refine (in_range _ _ _ _).mono ?_
    rintro e W ⟨rfl, rfl⟩
    rw [show In 1 4 4 = true from in_of ⟨by omega, by omega⟩]
    go_wp2_with fail
    go_ret
    exact ⟨ret_s sn_4.symm, new1 _ _⟩
  have hs := Lib.hid (sn_0 q1 q2 q3 q4)
  have hi := Lib.hid (in_off (lo := 1) (hi := 4) (x := k) (by omega))
  go_enter Try.func13, Try.ntmps13
  go_wp2_with fail
  refine (in_range _ _ _ _).mono ?_
  rintro e W ⟨rfl, rfl⟩
  rw [hi.out]
  go_wp2_with fail
  go_ret
  exact ⟨ret_s hs.out.symm, Below.refl _ _⟩
/-! a new transaction -/
def n0 (i s b : Int) : Hd := ⟨i, s, 1, b, 0, 1000, 0⟩
def z0 : Hd := ⟨0, 0, 0, 0, 0, 0, 0⟩
noncomputable def nwB (i s b : Int) : Bool := txB (n0 i s b) [] []
noncomputable def nwT (i s b : Int) : Hd := if nwB i s b then n0 i s b else z0
theorem nw_yes {i s b : Int} (h : nwB i s b = true) : nwT i s b = n0 i s b := if_pos h
theorem nw_no {i s b : Int} (h : nwB i s b = false) : nwT i s b = z0 := if_neg (by simp [h])
set_option maxRecDepth 100000 in
set_option maxHeartbeats 1600000 in
theorem impl_new (i s b : Int) (w : World) :
    Calls Try.prog 9 #[.int .i64 i, .int .i64 s, .int .i64 b] w fun e w' => e = .returned (.tuple #[.agg #[.int .i64 (nwT i s b).i, .int .i64 (nwT i s b).s, .int .i64 (nwT i s b).t, .int .i64 (nwT i s b).b, .int .i64 (nwT i s b).l, .int .i64 (nwT i s b).h, .int .i64 (nwT i s b).c, .slice none 0 0, .slice none 0 0], .bool (nwB i s b)]) ∧ Below w.heap.size w w' := by
  rcases q : nwB i s b with _ | _
  · have Q := Lib.hid q
    have Q2 := Lib.hid (nw_no q)
    clear q
    go_enter Try.func9, Try.ntmps9
    go_wp2_with fail
    have r1 := (World.rowIs_alloc w #[.int .i64 0, .int .i64 0, .int .i64 0, .int .i64 0, .int .i64 0, .int .i64 0, .int .i64 0, .slice none 0 0, .slice none 0 0] 29 zf nine).alloc (.cells #[.int .i64 i, .int .i64 s, .int .i64 1, .int .i64 b, .int .i64 0, .int .i64 1000, .int .i64 0, .slice none 0 0, .slice none 0 0] 29)
    have tb := TB.new (w.alloc (.cells #[.int .i64 0, .int .i64 0, .int .i64 0, .int .i64 0, .int .i64 0, .int .i64 0, .int .i64 0, .slice none 0 0, .slice none 0 0] 29)) (n0 i s b) none 0 0 none 0 0 29
    rw [show (w.alloc (.cells #[.int .i64 0, .int .i64 0, .int .i64 0, .int .i64 0, .int .i64 0, .int .i64 0, .int .i64 0, .slice none 0 0, .slice none 0 0] 29)).heap.size = w.heap.size + 1 by simp] at tb
    have hb := new2 w (.cells #[.int .i64 0, .int .i64 0, .int .i64 0, .int .i64 0, .int .i64 0, .int .i64 0, .int .i64 0, .slice none 0 0, .slice none 0 0] 29) (.cells #[.int .i64 i, .int .i64 s, .int .i64 1, .int .i64 b, .int .i64 0, .int .i64 1000, .int .i64 0, .slice none 0 0, .slice none 0 0] 29)
    have hs : ((w.alloc (.cells #[.int .i64 0, .int .i64 0, .int .i64 0, .int .i64 0, .int .i64 0, .int .i64 0, .int .i64 0, .slice none 0 0, .slice none 0 0] 29)).alloc (.cells #[.int .i64 i, .int .i64 s, .int .i64 1, .int .i64 b, .int .i64 0, .int .i64 1000, .int .i64 0, .slice none 0 0, .slice none 0 0] 29)).heap.size = w.heap.size + 2 := by simp
    change TB ((w.alloc (.cells #[.int .i64 0, .int .i64 0, .int .i64 0, .int .i64 0, .int .i64 0, .int .i64 0, .int .i64 0, .slice none 0 0, .slice none 0 0] 29)).alloc (.cells #[.int .i64 i, .int .i64 s, .int .i64 1, .int .i64 b, .int .i64 0, .int .i64 1000, .int .i64 0, .slice none 0 0, .slice none 0 0] 29)) _ _ _ _ at tb
    generalize (w.alloc (.cells #[.int .i64 0, .int .i64 0, .int .i64 0, .int .i64 0, .int .i64 0, .int .i64 0, .int .i64 0, .slice none 0 0, .slice none 0 0] 29)).alloc (.cells #[.int .i64 i, .int .i64 s, .int .i64 1, .int .i64 b, .int .i64 0, .int .i64 1000, .int .i64 0, .slice none 0 0, .slice none 0 0] 29) = W0 at r1 tb hb hs ⊢
    refine (impl_tx (n0 i s b) (by omega) (by omega) (Vs.nil_ W0 0 none) (Vs.nil_ W0 0 none) (by omega)).mono ?_
    rintro e W1 ⟨rfl, hb1⟩
    rw [show txB (n0 i s b) [] [] = false from Q.out]
    have r1 := r1.of_block (hb1.block _ (by omega))
    obtain ⟨t0, t1, t2, t3, t4, t5, t6, t7, t8⟩ := tb.keep (by omega) hb1
    change W1.cell? _ = some (.int .i64 i) at t0
    change W1.cell? _ = some (.int .i64 s) at t1
    change W1.cell? _ = some (.int .i64 1) at t2
    change W1.cell? _ = some (.int .i64 b) at t3
    change W1.cell? _ = some (.int .i64 0) at t4
    change W1.cell? _ = some (.int .i64 1000) at t5
    change W1.cell? _ = some (.int .i64 0) at t6
    have z0 : W1.cell? ⟨w.heap.size, 0, none⟩ = some (.int .i64 0) := r1.cell (show 0 < 9 by decide)
    have y0 := r1.frozen 0
    have z1 : W1.cell? ⟨w.heap.size, 1, none⟩ = some (.int .i64 0) := r1.cell (show 1 < 9 by decide)
    have y1 := r1.frozen 1
    have z2 : W1.cell? ⟨w.heap.size, 2, none⟩ = some (.int .i64 0) := r1.cell (show 2 < 9 by decide)
    have y2 := r1.frozen 2
    have z3 : W1.cell? ⟨w.heap.size, 3, none⟩ = some (.int .i64 0) := r1.cell (show 3 < 9 by decide)
    have y3 := r1.frozen 3
    have z4 : W1.cell? ⟨w.heap.size, 4, none⟩ = some (.int .i64 0) := r1.cell (show 4 < 9 by decide)
    have y4 := r1.frozen 4
    have z5 : W1.cell? ⟨w.heap.size, 5, none⟩ = some (.int .i64 0) := r1.cell (show 5 < 9 by decide)
    have y5 := r1.frozen 5
    have z6 : W1.cell? ⟨w.heap.size, 6, none⟩ = some (.int .i64 0) := r1.cell (show 6 < 9 by decide)
    have y6 := r1.frozen 6
    have z7 : W1.cell? ⟨w.heap.size, 7, none⟩ = some (.slice none 0 0) := r1.cell (show 7 < 9 by decide)
    have y7 := r1.frozen 7
    have z8 : W1.cell? ⟨w.heap.size, 8, none⟩ = some (.slice none 0 0) := r1.cell (show 8 < 9 by decide)
    have y8 := r1.frozen 8
    have HB1 := Lib.hid (hb.trans (hb1.mono (by omega)))
    have R1 := Lib.hid r1
    have hs1 : w.heap.size < W1.heap.size := by have := hb1.size; omega
    clear hb hb1 tb r1
    go_wp2_with fail
    have r1 := (((((((((R1.out.set 0 (.int .i64 0)).set 1 (.int .i64 0)).set 2 (.int .i64 0)).set 3 (.int .i64 0)).set 4 (.int .i64 0)).set 5 (.int .i64 0)).set 6 (.int .i64 0)).set 7 (.slice none 0 0)).set 8 (.slice none 0 0))
    have hb := (((((((((HB1.out.setCell (p := ⟨w.heap.size, 0, none⟩) (by simp) (.int .i64 0)).setCell (p := ⟨w.heap.size, 1, none⟩) (by simp) (.int .i64 0)).setCell (p := ⟨w.heap.size, 2, none⟩) (by simp) (.int .i64 0)).setCell (p := ⟨w.heap.size, 3, none⟩) (by simp) (.int .i64 0)).setCell (p := ⟨w.heap.size, 4, none⟩) (by simp) (.int .i64 0)).setCell (p := ⟨w.heap.size, 5, none⟩) (by simp) (.int .i64 0)).setCell (p := ⟨w.heap.size, 6, none⟩) (by simp) (.int .i64 0)).setCell (p := ⟨w.heap.size, 7, none⟩) (by simp) (.slice none 0 0)).setCell (p := ⟨w.heap.size, 8, none⟩) (by simp) (.slice none 0 0))
    generalize (((((((((W1.setCell _ _).setCell _ _).setCell _ _).setCell _ _).setCell _ _).setCell _ _).setCell _ _).setCell _ _).setCell _ _) = W4 at r1 hb ⊢
    have e0 : W4.cell? ⟨w.heap.size, 0, none⟩ = some (.int .i64 0) := r1.cell (show 0 < 9 by decide)
    have e1 : W4.cell? ⟨w.heap.size, 1, none⟩ = some (.int .i64 0) := r1.cell (show 1 < 9 by decide)
    have e2 : W4.cell? ⟨w.heap.size, 2, none⟩ = some (.int .i64 0) := r1.cell (show 2 < 9 by decide)
    have e3 : W4.cell? ⟨w.heap.size, 3, none⟩ = some (.int .i64 0) := r1.cell (show 3 < 9 by decide)
    have e4 : W4.cell? ⟨w.heap.size, 4, none⟩ = some (.int .i64 0) := r1.cell (show 4 < 9 by decide)
    have e5 : W4.cell? ⟨w.heap.size, 5, none⟩ = some (.int .i64 0) := r1.cell (show 5 < 9 by decide)
    have e6 : W4.cell? ⟨w.heap.size, 6, none⟩ = some (.int .i64 0) := r1.cell (show 6 < 9 by decide)
    have e7 : W4.cell? ⟨w.heap.size, 7, none⟩ = some (.slice none 0 0) := r1.cell (show 7 < 9 by decide)
    have e8 : W4.cell? ⟨w.heap.size, 8, none⟩ = some (.slice none 0 0) := r1.cell (show 8 < 9 by decide)
    exact bodyPost_ret (v := .tuple #[.agg #[.int .i64 0, .int .i64 0, .int .i64 0, .int .i64 0, .int .i64 0, .int .i64 0, .int .i64 0, .slice none 0 0, .slice none 0 0], .bool false]) (by simp [results, Try.results9, go_sem, e0, e1, e2, e3, e4, e5, e6, e7, e8]) rfl ⟨by rw [Q2.out]; rfl, hb⟩
  · have Q := Lib.hid q
    have Q2 := Lib.hid (nw_yes q)
    clear q
    go_enter Try.func9, Try.ntmps9
    go_wp2_with fail
    have r1 := (World.rowIs_alloc w #[.int .i64 0, .int .i64 0, .int .i64 0, .int .i64 0, .int .i64 0, .int .i64 0, .int .i64 0, .slice none 0 0, .slice none 0 0] 29 zf nine).alloc (.cells #[.int .i64 i, .int .i64 s, .int .i64 1, .int .i64 b, .int .i64 0, .int .i64 1000, .int .i64 0, .slice none 0 0, .slice none 0 0] 29)
    have tb := TB.new (w.alloc (.cells #[.int .i64 0, .int .i64 0, .int .i64 0, .int .i64 0, .int .i64 0, .int .i64 0, .int .i64 0, .slice none 0 0, .slice none 0 0] 29)) (n0 i s b) none 0 0 none 0 0 29
    rw [show (w.alloc (.cells #[.int .i64 0, .int .i64 0, .int .i64 0, .int .i64 0, .int .i64 0, .int .i64 0, .int .i64 0, .slice none 0 0, .slice none 0 0] 29)).heap.size = w.heap.size + 1 by simp] at tb
    have hb := new2 w (.cells #[.int .i64 0, .int .i64 0, .int .i64 0, .int .i64 0, .int .i64 0, .int .i64 0, .int .i64 0, .slice none 0 0, .slice none 0 0] 29) (.cells #[.int .i64 i, .int .i64 s, .int .i64 1, .int .i64 b, .int .i64 0, .int .i64 1000, .int .i64 0, .slice none 0 0, .slice none 0 0] 29)
    have hs : ((w.alloc (.cells #[.int .i64 0, .int .i64 0, .int .i64 0, .int .i64 0, .int .i64 0, .int .i64 0, .int .i64 0, .slice none 0 0, .slice none 0 0] 29)).alloc (.cells #[.int .i64 i, .int .i64 s, .int .i64 1, .int .i64 b, .int .i64 0, .int .i64 1000, .int .i64 0, .slice none 0 0, .slice none 0 0] 29)).heap.size = w.heap.size + 2 := by simp
    change TB ((w.alloc (.cells #[.int .i64 0, .int .i64 0, .int .i64 0, .int .i64 0, .int .i64 0, .int .i64 0, .int .i64 0, .slice none 0 0, .slice none 0 0] 29)).alloc (.cells #[.int .i64 i, .int .i64 s, .int .i64 1, .int .i64 b, .int .i64 0, .int .i64 1000, .int .i64 0, .slice none 0 0, .slice none 0 0] 29)) _ _ _ _ at tb
    generalize (w.alloc (.cells #[.int .i64 0, .int .i64 0, .int .i64 0, .int .i64 0, .int .i64 0, .int .i64 0, .int .i64 0, .slice none 0 0, .slice none 0 0] 29)).alloc (.cells #[.int .i64 i, .int .i64 s, .int .i64 1, .int .i64 b, .int .i64 0, .int .i64 1000, .int .i64 0, .slice none 0 0, .slice none 0 0] 29) = W0 at r1 tb hb hs ⊢
    refine (impl_tx (n0 i s b) (by omega) (by omega) (Vs.nil_ W0 0 none) (Vs.nil_ W0 0 none) (by omega)).mono ?_
    rintro e W1 ⟨rfl, hb1⟩
    rw [show txB (n0 i s b) [] [] = true from Q.out]
    have r1 := r1.of_block (hb1.block _ (by omega))
    obtain ⟨t0, t1, t2, t3, t4, t5, t6, t7, t8⟩ := tb.keep (by omega) hb1
    change W1.cell? _ = some (.int .i64 i) at t0
    change W1.cell? _ = some (.int .i64 s) at t1
    change W1.cell? _ = some (.int .i64 1) at t2
    change W1.cell? _ = some (.int .i64 b) at t3
    change W1.cell? _ = some (.int .i64 0) at t4
    change W1.cell? _ = some (.int .i64 1000) at t5
    change W1.cell? _ = some (.int .i64 0) at t6
    have z0 : W1.cell? ⟨w.heap.size, 0, none⟩ = some (.int .i64 0) := r1.cell (show 0 < 9 by decide)
    have y0 := r1.frozen 0
    have z1 : W1.cell? ⟨w.heap.size, 1, none⟩ = some (.int .i64 0) := r1.cell (show 1 < 9 by decide)
    have y1 := r1.frozen 1
    have z2 : W1.cell? ⟨w.heap.size, 2, none⟩ = some (.int .i64 0) := r1.cell (show 2 < 9 by decide)
    have y2 := r1.frozen 2
    have z3 : W1.cell? ⟨w.heap.size, 3, none⟩ = some (.int .i64 0) := r1.cell (show 3 < 9 by decide)
    have y3 := r1.frozen 3
    have z4 : W1.cell? ⟨w.heap.size, 4, none⟩ = some (.int .i64 0) := r1.cell (show 4 < 9 by decide)
    have y4 := r1.frozen 4
    have z5 : W1.cell? ⟨w.heap.size, 5, none⟩ = some (.int .i64 0) := r1.cell (show 5 < 9 by decide)
    have y5 := r1.frozen 5
    have z6 : W1.cell? ⟨w.heap.size, 6, none⟩ = some (.int .i64 0) := r1.cell (show 6 < 9 by decide)
    have y6 := r1.frozen 6
    have z7 : W1.cell? ⟨w.heap.size, 7, none⟩ = some (.slice none 0 0) := r1.cell (show 7 < 9 by decide)
    have y7 := r1.frozen 7
    have z8 : W1.cell? ⟨w.heap.size, 8, none⟩ = some (.slice none 0 0) := r1.cell (show 8 < 9 by decide)
    have y8 := r1.frozen 8
    have HB1 := Lib.hid (hb.trans (hb1.mono (by omega)))
    have R1 := Lib.hid r1
    have hs1 : w.heap.size < W1.heap.size := by have := hb1.size; omega
    clear hb hb1 tb r1
    go_wp2_with fail
    have r1 := (((((((((R1.out.set 0 (.int .i64 i)).set 1 (.int .i64 s)).set 2 (.int .i64 1)).set 3 (.int .i64 b)).set 4 (.int .i64 0)).set 5 (.int .i64 1000)).set 6 (.int .i64 0)).set 7 (.slice none 0 0)).set 8 (.slice none 0 0))
    have hb := (((((((((HB1.out.setCell (p := ⟨w.heap.size, 0, none⟩) (by simp) (.int .i64 i)).setCell (p := ⟨w.heap.size, 1, none⟩) (by simp) (.int .i64 s)).setCell (p := ⟨w.heap.size, 2, none⟩) (by simp) (.int .i64 1)).setCell (p := ⟨w.heap.size, 3, none⟩) (by simp) (.int .i64 b)).setCell (p := ⟨w.heap.size, 4, none⟩) (by simp) (.int .i64 0)).setCell (p := ⟨w.heap.size, 5, none⟩) (by simp) (.int .i64 1000)).setCell (p := ⟨w.heap.size, 6, none⟩) (by simp) (.int .i64 0)).setCell (p := ⟨w.heap.size, 7, none⟩) (by simp) (.slice none 0 0)).setCell (p := ⟨w.heap.size, 8, none⟩) (by simp) (.slice none 0 0))
    generalize (((((((((W1.setCell _ _).setCell _ _).setCell _ _).setCell _ _).setCell _ _).setCell _ _).setCell _ _).setCell _ _).setCell _ _) = W4 at r1 hb ⊢
    have e0 : W4.cell? ⟨w.heap.size, 0, none⟩ = some (.int .i64 i) := r1.cell (show 0 < 9 by decide)
    have e1 : W4.cell? ⟨w.heap.size, 1, none⟩ = some (.int .i64 s) := r1.cell (show 1 < 9 by decide)
    have e2 : W4.cell? ⟨w.heap.size, 2, none⟩ = some (.int .i64 1) := r1.cell (show 2 < 9 by decide)
    have e3 : W4.cell? ⟨w.heap.size, 3, none⟩ = some (.int .i64 b) := r1.cell (show 3 < 9 by decide)
    have e4 : W4.cell? ⟨w.heap.size, 4, none⟩ = some (.int .i64 0) := r1.cell (show 4 < 9 by decide)
    have e5 : W4.cell? ⟨w.heap.size, 5, none⟩ = some (.int .i64 1000) := r1.cell (show 5 < 9 by decide)
    have e6 : W4.cell? ⟨w.heap.size, 6, none⟩ = some (.int .i64 0) := r1.cell (show 6 < 9 by decide)
    have e7 : W4.cell? ⟨w.heap.size, 7, none⟩ = some (.slice none 0 0) := r1.cell (show 7 < 9 by decide)
    have e8 : W4.cell? ⟨w.heap.size, 8, none⟩ = some (.slice none 0 0) := r1.cell (show 8 < 9 by decide)
    exact bodyPost_ret (v := .tuple #[.agg #[.int .i64 i, .int .i64 s, .int .i64 1, .int .i64 b, .int .i64 0, .int .i64 1000, .int .i64 0, .slice none 0 0, .slice none 0 0], .bool true]) (by simp [results, Try.results9, go_sem, e0, e1, e2, e3, e4, e5, e6, e7, e8]) rfl ⟨by rw [Q2.out]; rfl, hb⟩
set_option maxRecDepth 100000 in
set_option maxHeartbeats 1600000 in
theorem spec_new (i s b : Int) (w : World) :
    Calls Try.prog 10 #[.int .i64 i, .int .i64 s, .int .i64 b] w fun e w' => e = .returned (.tuple #[.agg #[.int .i64 (nwT i s b).i, .int .i64 (nwT i s b).s, .int .i64 (nwT i s b).t, .int .i64 (nwT i s b).b, .int .i64 (nwT i s b).l, .int .i64 (nwT i s b).h, .int .i64 (nwT i s b).c, .slice none 0 0, .slice none 0 0], .bool (nwB i s b)]) ∧ Below w.heap.size w w' := by
  rcases q : nwB i s b with _ | _
  · have Q := Lib.hid q
    have Q2 := Lib.hid (nw_no q)
    clear q
    go_enter Try.func10, Try.ntmps10
    go_wp2_with fail
    have r1 := (World.rowIs_alloc w #[.int .i64 0, .int .i64 0, .int .i64 0, .int .i64 0, .int .i64 0, .int .i64 0, .int .i64 0, .slice none 0 0, .slice none 0 0] 29 zf nine).alloc (.cells #[.int .i64 i, .int .i64 s, .int .i64 1, .int .i64 b, .int .i64 0, .int .i64 1000, .int .i64 0, .slice none 0 0, .slice none 0 0] 29)
    have tb := TB.new (w.alloc (.cells #[.int .i64 0, .int .i64 0, .int .i64 0, .int .i64 0, .int .i64 0, .int .i64 0, .int .i64 0, .slice none 0 0, .slice none 0 0] 29)) (n0 i s b) none 0 0 none 0 0 29
    rw [show (w.alloc (.cells #[.int .i64 0, .int .i64 0, .int .i64 0, .int .i64 0, .int .i64 0, .int .i64 0, .int .i64 0, .slice none 0 0, .slice none 0 0] 29)).heap.size = w.heap.size + 1 by simp] at tb
    have hb := new2 w (.cells #[.int .i64 0, .int .i64 0, .int .i64 0, .int .i64 0, .int .i64 0, .int .i64 0, .int .i64 0, .slice none 0 0, .slice none 0 0] 29) (.cells #[.int .i64 i, .int .i64 s, .int .i64 1, .int .i64 b, .int .i64 0, .int .i64 1000, .int .i64 0, .slice none 0 0, .slice none 0 0] 29)
    have hs : ((w.alloc (.cells #[.int .i64 0, .int .i64 0, .int .i64 0, .int .i64 0, .int .i64 0, .int .i64 0, .int .i64 0, .slice none 0 0, .slice none 0 0] 29)).alloc (.cells #[.int .i64 i, .int .i64 s, .int .i64 1, .int .i64 b, .int .i64 0, .int .i64 1000, .int .i64 0, .slice none 0 0, .slice none 0 0] 29)).heap.size = w.heap.size + 2 := by simp
    change TB ((w.alloc (.cells #[.int .i64 0, .int .i64 0, .int .i64 0, .int .i64 0, .int .i64 0, .int .i64 0, .int .i64 0, .slice none 0 0, .slice none 0 0] 29)).alloc (.cells #[.int .i64 i, .int .i64 s, .int .i64 1, .int .i64 b, .int .i64 0, .int .i64 1000, .int .i64 0, .slice none 0 0, .slice none 0 0] 29)) _ _ _ _ at tb
    generalize (w.alloc (.cells #[.int .i64 0, .int .i64 0, .int .i64 0, .int .i64 0, .int .i64 0, .int .i64 0, .int .i64 0, .slice none 0 0, .slice none 0 0] 29)).alloc (.cells #[.int .i64 i, .int .i64 s, .int .i64 1, .int .i64 b, .int .i64 0, .int .i64 1000, .int .i64 0, .slice none 0 0, .slice none 0 0] 29) = W0 at r1 tb hb hs ⊢
    refine (Go.Proofs.Ytbnkkgjkhpbgiaa.tvs.spec_tx (n0 i s b) (by omega) (by omega) (Vs.nil_ W0 0 none) (Vs.nil_ W0 0 none) (by omega)).mono ?_
    rintro e W1 ⟨rfl, hb1⟩
    rw [show txB (n0 i s b) [] [] = false from Q.out]
    have r1 := r1.of_block (hb1.block _ (by omega))
    obtain ⟨t0, t1, t2, t3, t4, t5, t6, t7, t8⟩ := tb.keep (by omega) hb1
    change W1.cell? _ = some (.int .i64 i) at t0
    change W1.cell? _ = some (.int .i64 s) at t1
    change W1.cell? _ = some (.int .i64 1) at t2
    change W1.cell? _ = some (.int .i64 b) at t3
    change W1.cell? _ = some (.int .i64 0) at t4
    change W1.cell? _ = some (.int .i64 1000) at t5
    change W1.cell? _ = some (.int .i64 0) at t6
    have z0 : W1.cell? ⟨w.heap.size, 0, none⟩ = some (.int .i64 0) := r1.cell (show 0 < 9 by decide)
    have y0 := r1.frozen 0
    have z1 : W1.cell? ⟨w.heap.size, 1, none⟩ = some (.int .i64 0) := r1.cell (show 1 < 9 by decide)
    have y1 := r1.frozen 1
    have z2 : W1.cell? ⟨w.heap.size, 2, none⟩ = some (.int .i64 0) := r1.cell (show 2 < 9 by decide)
    have y2 := r1.frozen 2
    have z3 : W1.cell? ⟨w.heap.size, 3, none⟩ = some (.int .i64 0) := r1.cell (show 3 < 9 by decide)
    have y3 := r1.frozen 3
    have z4 : W1.cell? ⟨w.heap.size, 4, none⟩ = some (.int .i64 0) := r1.cell (show 4 < 9 by decide)
    have y4 := r1.frozen 4
    have z5 : W1.cell? ⟨w.heap.size, 5, none⟩ = some (.int .i64 0) := r1.cell (show 5 < 9 by decide)
    have y5 := r1.frozen 5
    have z6 : W1.cell? ⟨w.heap.size, 6, none⟩ = some (.int .i64 0) := r1.cell (show 6 < 9 by decide)
    have y6 := r1.frozen 6
    have z7 : W1.cell? ⟨w.heap.size, 7, none⟩ = some (.slice none 0 0) := r1.cell (show 7 < 9 by decide)
    have y7 := r1.frozen 7
    have z8 : W1.cell? ⟨w.heap.size, 8, none⟩ = some (.slice none 0 0) := r1.cell (show 8 < 9 by decide)
    have y8 := r1.frozen 8
    have HB1 := Lib.hid (hb.trans (hb1.mono (by omega)))
    have R1 := Lib.hid r1
    have hs1 : w.heap.size < W1.heap.size := by have := hb1.size; omega
    clear hb hb1 tb r1
    go_wp2_with fail
    have r1 := (((((((((R1.out.set 0 (.int .i64 0)).set 1 (.int .i64 0)).set 2 (.int .i64 0)).set 3 (.int .i64 0)).set 4 (.int .i64 0)).set 5 (.int .i64 0)).set 6 (.int .i64 0)).set 7 (.slice none 0 0)).set 8 (.slice none 0 0))
    have hb := (((((((((HB1.out.setCell (p := ⟨w.heap.size, 0, none⟩) (by simp) (.int .i64 0)).setCell (p := ⟨w.heap.size, 1, none⟩) (by simp) (.int .i64 0)).setCell (p := ⟨w.heap.size, 2, none⟩) (by simp) (.int .i64 0)).setCell (p := ⟨w.heap.size, 3, none⟩) (by simp) (.int .i64 0)).setCell (p := ⟨w.heap.size, 4, none⟩) (by simp) (.int .i64 0)).setCell (p := ⟨w.heap.size, 5, none⟩) (by simp) (.int .i64 0)).setCell (p := ⟨w.heap.size, 6, none⟩) (by simp) (.int .i64 0)).setCell (p := ⟨w.heap.size, 7, none⟩) (by simp) (.slice none 0 0)).setCell (p := ⟨w.heap.size, 8, none⟩) (by simp) (.slice none 0 0))
    generalize (((((((((W1.setCell _ _).setCell _ _).setCell _ _).setCell _ _).setCell _ _).setCell _ _).setCell _ _).setCell _ _).setCell _ _) = W4 at r1 hb ⊢
    have e0 : W4.cell? ⟨w.heap.size, 0, none⟩ = some (.int .i64 0) := r1.cell (show 0 < 9 by decide)
    have e1 : W4.cell? ⟨w.heap.size, 1, none⟩ = some (.int .i64 0) := r1.cell (show 1 < 9 by decide)
    have e2 : W4.cell? ⟨w.heap.size, 2, none⟩ = some (.int .i64 0) := r1.cell (show 2 < 9 by decide)
    have e3 : W4.cell? ⟨w.heap.size, 3, none⟩ = some (.int .i64 0) := r1.cell (show 3 < 9 by decide)
    have e4 : W4.cell? ⟨w.heap.size, 4, none⟩ = some (.int .i64 0) := r1.cell (show 4 < 9 by decide)
    have e5 : W4.cell? ⟨w.heap.size, 5, none⟩ = some (.int .i64 0) := r1.cell (show 5 < 9 by decide)
    have e6 : W4.cell? ⟨w.heap.size, 6, none⟩ = some (.int .i64 0) := r1.cell (show 6 < 9 by decide)
    have e7 : W4.cell? ⟨w.heap.size, 7, none⟩ = some (.slice none 0 0) := r1.cell (show 7 < 9 by decide)
    have e8 : W4.cell? ⟨w.heap.size, 8, none⟩ = some (.slice none 0 0) := r1.cell (show 8 < 9 by decide)
    exact bodyPost_ret (v := .tuple #[.agg #[.int .i64 0, .int .i64 0, .int .i64 0, .int .i64 0, .int .i64 0, .int .i64 0, .int .i64 0, .slice none 0 0, .slice none 0 0], .bool false]) (by simp [results, Try.results10, go_sem, e0, e1, e2, e3, e4, e5, e6, e7, e8]) rfl ⟨by rw [Q2.out]; rfl, hb⟩
  · have Q := Lib.hid q
    have Q2 := Lib.hid (nw_yes q)
    clear q
    go_enter Try.func10, Try.ntmps10
    go_wp2_with fail
    have r1 := (World.rowIs_alloc w #[.int .i64 0, .int .i64 0, .int .i64 0, .int .i64 0, .int .i64 0, .int .i64 0, .int .i64 0, .slice none 0 0, .slice none 0 0] 29 zf nine).alloc (.cells #[.int .i64 i, .int .i64 s, .int .i64 1, .int .i64 b, .int .i64 0, .int .i64 1000, .int .i64 0, .slice none 0 0, .slice none 0 0] 29)
    have tb := TB.new (w.alloc (.cells #[.int .i64 0, .int .i64 0, .int .i64 0, .int .i64 0, .int .i64 0, .int .i64 0, .int .i64 0, .slice none 0 0, .slice none 0 0] 29)) (n0 i s b) none 0 0 none 0 0 29
    rw [show (w.alloc (.cells #[.int .i64 0, .int .i64 0, .int .i64 0, .int .i64 0, .int .i64 0, .int .i64 0, .int .i64 0, .slice none 0 0, .slice none 0 0] 29)).heap.size = w.heap.size + 1 by simp] at tb
    have hb := new2 w (.cells #[.int .i64 0, .int .i64 0, .int .i64 0, .int .i64 0, .int .i64 0, .int .i64 0, .int .i64 0, .slice none 0 0, .slice none 0 0] 29) (.cells #[.int .i64 i, .int .i64 s, .int .i64 1, .int .i64 b, .int .i64 0, .int .i64 1000, .int .i64 0, .slice none 0 0, .slice none 0 0] 29)
    have hs : ((w.alloc (.cells #[.int .i64 0, .int .i64 0, .int .i64 0, .int .i64 0, .int .i64 0, .int .i64 0, .int .i64 0, .slice none 0 0, .slice none 0 0] 29)).alloc (.cells #[.int .i64 i, .int .i64 s, .int .i64 1, .int .i64 b, .int .i64 0, .int .i64 1000, .int .i64 0, .slice none 0 0, .slice none 0 0] 29)).heap.size = w.heap.size + 2 := by simp
    change TB ((w.alloc (.cells #[.int .i64 0, .int .i64 0, .int .i64 0, .int .i64 0, .int .i64 0, .int .i64 0, .int .i64 0, .slice none 0 0, .slice none 0 0] 29)).alloc (.cells #[.int .i64 i, .int .i64 s, .int .i64 1, .int .i64 b, .int .i64 0, .int .i64 1000, .int .i64 0, .slice none 0 0, .slice none 0 0] 29)) _ _ _ _ at tb
    generalize (w.alloc (.cells #[.int .i64 0, .int .i64 0, .int .i64 0, .int .i64 0, .int .i64 0, .int .i64 0, .int .i64 0, .slice none 0 0, .slice none 0 0] 29)).alloc (.cells #[.int .i64 i, .int .i64 s, .int .i64 1, .int .i64 b, .int .i64 0, .int .i64 1000, .int .i64 0, .slice none 0 0, .slice none 0 0] 29) = W0 at r1 tb hb hs ⊢
    refine (Go.Proofs.Ytbnkkgjkhpbgiaa.tvs.spec_tx (n0 i s b) (by omega) (by omega) (Vs.nil_ W0 0 none) (Vs.nil_ W0 0 none) (by omega)).mono ?_
    rintro e W1 ⟨rfl, hb1⟩
    rw [show txB (n0 i s b) [] [] = true from Q.out]
    have r1 := r1.of_block (hb1.block _ (by omega))
    obtain ⟨t0, t1, t2, t3, t4, t5, t6, t7, t8⟩ := tb.keep (by omega) hb1
    change W1.cell? _ = some (.int .i64 i) at t0
    change W1.cell? _ = some (.int .i64 s) at t1
    change W1.cell? _ = some (.int .i64 1) at t2
    change W1.cell? _ = some (.int .i64 b) at t3
    change W1.cell? _ = some (.int .i64 0) at t4
    change W1.cell? _ = some (.int .i64 1000) at t5
    change W1.cell? _ = some (.int .i64 0) at t6
    have z0 : W1.cell? ⟨w.heap.size, 0, none⟩ = some (.int .i64 0) := r1.cell (show 0 < 9 by decide)
    have y0 := r1.frozen 0
    have z1 : W1.cell? ⟨w.heap.size, 1, none⟩ = some (.int .i64 0) := r1.cell (show 1 < 9 by decide)
    have y1 := r1.frozen 1
    have z2 : W1.cell? ⟨w.heap.size, 2, none⟩ = some (.int .i64 0) := r1.cell (show 2 < 9 by decide)
    have y2 := r1.frozen 2
    have z3 : W1.cell? ⟨w.heap.size, 3, none⟩ = some (.int .i64 0) := r1.cell (show 3 < 9 by decide)
    have y3 := r1.frozen 3
    have z4 : W1.cell? ⟨w.heap.size, 4, none⟩ = some (.int .i64 0) := r1.cell (show 4 < 9 by decide)
    have y4 := r1.frozen 4
    have z5 : W1.cell? ⟨w.heap.size, 5, none⟩ = some (.int .i64 0) := r1.cell (show 5 < 9 by decide)
    have y5 := r1.frozen 5
    have z6 : W1.cell? ⟨w.heap.size, 6, none⟩ = some (.int .i64 0) := r1.cell (show 6 < 9 by decide)
    have y6 := r1.frozen 6
    have z7 : W1.cell? ⟨w.heap.size, 7, none⟩ = some (.slice none 0 0) := r1.cell (show 7 < 9 by decide)
    have y7 := r1.frozen 7
    have z8 : W1.cell? ⟨w.heap.size, 8, none⟩ = some (.slice none 0 0) := r1.cell (show 8 < 9 by decide)
    have y8 := r1.frozen 8
    have HB1 := Lib.hid (hb.trans (hb1.mono (by omega)))
    have R1 := Lib.hid r1
    have hs1 : w.heap.size < W1.heap.size := by have := hb1.size; omega
    clear hb hb1 tb r1
    go_wp2_with fail
    have r1 := (((((((((R1.out.set 0 (.int .i64 i)).set 1 (.int .i64 s)).set 2 (.int .i64 1)).set 3 (.int .i64 b)).set 4 (.int .i64 0)).set 5 (.int .i64 1000)).set 6 (.int .i64 0)).set 7 (.slice none 0 0)).set 8 (.slice none 0 0))
    have hb := (((((((((HB1.out.setCell (p := ⟨w.heap.size, 0, none⟩) (by simp) (.int .i64 i)).setCell (p := ⟨w.heap.size, 1, none⟩) (by simp) (.int .i64 s)).setCell (p := ⟨w.heap.size, 2, none⟩) (by simp) (.int .i64 1)).setCell (p := ⟨w.heap.size, 3, none⟩) (by simp) (.int .i64 b)).setCell (p := ⟨w.heap.size, 4, none⟩) (by simp) (.int .i64 0)).setCell (p := ⟨w.heap.size, 5, none⟩) (by simp) (.int .i64 1000)).setCell (p := ⟨w.heap.size, 6, none⟩) (by simp) (.int .i64 0)).setCell (p := ⟨w.heap.size, 7, none⟩) (by simp) (.slice none 0 0)).setCell (p := ⟨w.heap.size, 8, none⟩) (by simp) (.slice none 0 0))
    generalize (((((((((W1.setCell _ _).setCell _ _).setCell _ _).setCell _ _).setCell _ _).setCell _ _).setCell _ _).setCell _ _).setCell _ _) = W4 at r1 hb ⊢
    have e0 : W4.cell? ⟨w.heap.size, 0, none⟩ = some (.int .i64 i) := r1.cell (show 0 < 9 by decide)
    have e1 : W4.cell? ⟨w.heap.size, 1, none⟩ = some (.int .i64 s) := r1.cell (show 1 < 9 by decide)
    have e2 : W4.cell? ⟨w.heap.size, 2, none⟩ = some (.int .i64 1) := r1.cell (show 2 < 9 by decide)
    have e3 : W4.cell? ⟨w.heap.size, 3, none⟩ = some (.int .i64 b) := r1.cell (show 3 < 9 by decide)
    have e4 : W4.cell? ⟨w.heap.size, 4, none⟩ = some (.int .i64 0) := r1.cell (show 4 < 9 by decide)
    have e5 : W4.cell? ⟨w.heap.size, 5, none⟩ = some (.int .i64 1000) := r1.cell (show 5 < 9 by decide)
    have e6 : W4.cell? ⟨w.heap.size, 6, none⟩ = some (.int .i64 0) := r1.cell (show 6 < 9 by decide)
    have e7 : W4.cell? ⟨w.heap.size, 7, none⟩ = some (.slice none 0 0) := r1.cell (show 7 < 9 by decide)
    have e8 : W4.cell? ⟨w.heap.size, 8, none⟩ = some (.slice none 0 0) := r1.cell (show 8 < 9 by decide)
    exact bodyPost_ret (v := .tuple #[.agg #[.int .i64 i, .int .i64 s, .int .i64 1, .int .i64 b, .int .i64 0, .int .i64 1000, .int .i64 0, .slice none 0 0, .slice none 0 0], .bool true]) (by simp [results, Try.results10, go_sem, e0, e1, e2, e3, e4, e5, e6, e7, e8]) rfl ⟨by rw [Q2.out]; rfl, hb⟩
end Go.Proofs.Ytbnkkgjkhpbgiaa.tn
