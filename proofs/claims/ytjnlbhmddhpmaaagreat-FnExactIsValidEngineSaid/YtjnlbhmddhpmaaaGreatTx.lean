/- A transaction: the law's own helpers over it: how much it counts, the copy, the comparison; opening a law's argument. Nothing that was there is written. -/
import Derived.Test.YtjnlbhmddhpmaaaGreatRReadMark
import Derived.Test.YtjnlbhmddhpmaaaGreatRWrite
import Derived.Test.YtjnlbhmddhpmaaaGreatVers
import Derived.WalkKit
import Derived.ProofKit
import Derived.OpenShut
import Derived.ChangeOld
import Derived.Below
import Derived.Carry
import Derived.Lib.Hide
import Derived.LoopTactic
import Derived.Deep.QuietTactic
import Derived.BigQuiet
import Derived.StillTailTactics
import Derived.Outline
import Derived.IntWalk
import Derived.Deep.OwnRows
import Derived.Deep.Slices
import Derived.Deep.DeepHandedRow
import Derived.Laws.MakeOwn
import Derived.Laws.Entries
namespace Go.Proofs.YtjnlbhmddhpmaaaGreat.tx
open Go.ChangeShapes Go.WideShapes Go.ChangeAt Go.RowKit
open Go.Deep (open_slice add_add)
open Go.Proofs.YtjnlbhmddhpmaaaGreat.el2
open Go.Proofs.YtjnlbhmddhpmaaaGreat.vers (new2 new3)
set_option linter.unusedVariables false
set_option linter.unusedSimpArgs false
set_option linter.constructorNameAsVariable false
/-- the seven numbers of a transaction -/
@[ext] structure Hd where
  i : Int
  s : Int
  t : Int
  b : Int
  l : Int
  h : Int
  c : Int
/-- the cells of block b -/
def TB (w : World) (b : Nat) (x : Hd) (u v : Value) : Prop := w.cell? ⟨b, 0, none⟩ = some (.int .i64 x.i) ∧ w.cell? ⟨b, 1, none⟩ = some (.int .i64 x.s) ∧ w.cell? ⟨b, 2, none⟩ = some (.int .i64 x.t) ∧ w.cell? ⟨b, 3, none⟩ = some (.int .i64 x.b) ∧ w.cell? ⟨b, 4, none⟩ = some (.int .i64 x.l) ∧ w.cell? ⟨b, 5, none⟩ = some (.int .i64 x.h) ∧ w.cell? ⟨b, 6, none⟩ = some (.int .i64 x.c) ∧ w.cell? ⟨b, 7, none⟩ = some u ∧ w.cell? ⟨b, 8, none⟩ = some v
section
variable {w w' : World} {B b : Nat} {x : Hd} {u v : Value}
theorem TB.of_block (h : TB w b x u v) (hk : w'.heap[b]? = w.heap[b]?) : TB w' b x u v := by
  obtain ⟨h0, h1, h2, h3, h4, h5, h6, h7, h8⟩ := h
  exact ⟨(World.cell?_of_block (w := w) (a := ⟨b, 0, none⟩) hk).trans h0, (World.cell?_of_block (w := w) (a := ⟨b, 1, none⟩) hk).trans h1, (World.cell?_of_block (w := w) (a := ⟨b, 2, none⟩) hk).trans h2, (World.cell?_of_block (w := w) (a := ⟨b, 3, none⟩) hk).trans h3, (World.cell?_of_block (w := w) (a := ⟨b, 4, none⟩) hk).trans h4, (World.cell?_of_block (w := w) (a := ⟨b, 5, none⟩) hk).trans h5, (World.cell?_of_block (w := w) (a := ⟨b, 6, none⟩) hk).trans h6, (World.cell?_of_block (w := w) (a := ⟨b, 7, none⟩) hk).trans h7, (World.cell?_of_block (w := w) (a := ⟨b, 8, none⟩) hk).trans h8⟩
theorem TB.keep (h : TB w b x u v) (hb : b < B) (hk : Below B w w') : TB w' b x u v := h.of_block (hk.block b hb)
theorem TB.new (w : World) (x : Hd) (A : Option Addr) (n c : Nat) (A2 : Option Addr) (n2 c2 : Nat) (t : TypeId) : TB (w.alloc (.cells #[.int .i64 x.i, .int .i64 x.s, .int .i64 x.t, .int .i64 x.b, .int .i64 x.l, .int .i64 x.h, .int .i64 x.c, .slice A n c, .slice A2 n2 c2] t)) w.heap.size x (.slice A n c) (.slice A2 n2 c2) :=
  ⟨World.cell?_alloc_mark w _ t _ 0, World.cell?_alloc_mark w _ t _ 1, World.cell?_alloc_mark w _ t _ 2, World.cell?_alloc_mark w _ t _ 3, World.cell?_alloc_mark w _ t _ 4, World.cell?_alloc_mark w _ t _ 5, World.cell?_alloc_mark w _ t _ 6, World.cell?_alloc_mark w _ t _ 7, World.cell?_alloc_mark w _ t _ 8⟩
end
theorem ret_i {a b : Int} (h : a = b) : Ending.returned (.int .i64 a) = .returned (.int .i64 b) := by rw [h]
/-! how much it counts -/
def szT (left : Int) (n n2 : Nat) : Int := if left < n + n2 then -1 else left - n - n2
theorem szT_no {left : Int} {n n2 : Nat} (h : left < n + n2) : szT left n n2 = -1 := if_pos h
theorem szT_yes {left : Int} {n n2 : Nat} (h : (n : Int) + n2 ≤ left) : szT left n n2 = left - n - n2 := if_neg (by omega)
set_option maxHeartbeats 800000 in
theorem count_tx (x : Hd) (A : Option Addr) (n c : Nat) (A2 : Option Addr) (n2 c2 : Nat) (left : Int) (w : World) (hn : n ≤ 9223372036854775807) (hn2 : n2 ≤ 9223372036854775807) (h0 : 0 ≤ left) (h1 : left ≤ 1048576) :
    Calls Tryz.prog 36 #[.agg #[.int .i64 x.i, .int .i64 x.s, .int .i64 x.t, .int .i64 x.b, .int .i64 x.l, .int .i64 x.h, .int .i64 x.c, .slice A n c, .slice A2 n2 c2], .int .i64 left] w fun e w' => e = .returned (.int .i64 (szT left n n2)) ∧ Below w.heap.size w w' := by
  have hb := new1 w (.cells #[.int .i64 x.i, .int .i64 x.s, .int .i64 x.t, .int .i64 x.b, .int .i64 x.l, .int .i64 x.h, .int .i64 x.c, .slice A n c, .slice A2 n2 c2] 77)
  have tb := TB.new w x A n c A2 n2 c2 77
  by_cases ha : left < n
  · have hz := szT_no (left := left) (n := n) (n2 := n2) (by omega)
    have HZ := Lib.hid hz
    clear hz
    go_enter Tryz.func36, Tryz.ntmps36
    go_wp2_with fail
    refine (Go.Proofs.YtjnlbhmddhpmaaaGreat.rReadMark.count A n c left _ hn h0 h1).mono ?_
    rintro e W ⟨rfl, rfl⟩
    rw [if_pos (by omega)]
    go_wp2_with fail
    go_ret
    exact ⟨ret_i HZ.out.symm, hb⟩
  generalize hy : left - (n : Int) = y
  have y0 : 0 ≤ y := by omega
  have y1 : y ≤ 1048576 := by omega
  have ty : decide (y < 0) = false := decide_eq_false (by omega)
  by_cases hc : y < n2
  · have hz := szT_no (left := left) (n := n) (n2 := n2) (by omega)
    have HZ := Lib.hid hz
    clear hz
    go_enter Tryz.func36, Tryz.ntmps36
    go_wp2_with fail
    obtain ⟨t0, t1, t2, t3, t4, t5, t6, t7, t8⟩ := tb
    generalize w.alloc _ = W0 at hb t8 ⊢
    refine (Go.Proofs.YtjnlbhmddhpmaaaGreat.rReadMark.count A n c left _ hn h0 h1).mono ?_
    rintro e W ⟨rfl, rfl⟩
    rw [if_neg (by omega), hy]
    go_wp2_with fail
    refine (Go.Proofs.YtjnlbhmddhpmaaaGreat.rWrite.count A2 n2 c2 y _ hn2 y0 y1).mono ?_
    rintro e W ⟨rfl, rfl⟩
    rw [if_pos (by omega)]
    go_wp2_with fail
    go_ret
    exact ⟨ret_i HZ.out.symm, hb⟩
  · have hz : y - (n2 : Int) = szT left n n2 := by rw [szT_yes (by omega), ← hy]
    have HZ := Lib.hid hz
    have tz : decide (y - (n2 : Int) < 0) = false := decide_eq_false (by omega)
    clear hz
    go_enter Tryz.func36, Tryz.ntmps36
    go_wp2_with fail
    obtain ⟨t0, t1, t2, t3, t4, t5, t6, t7, t8⟩ := tb
    generalize w.alloc _ = W0 at hb t8 ⊢
    refine (Go.Proofs.YtjnlbhmddhpmaaaGreat.rReadMark.count A n c left _ hn h0 h1).mono ?_
    rintro e W ⟨rfl, rfl⟩
    rw [if_neg (by omega), hy]
    go_wp2_with fail
    refine (Go.Proofs.YtjnlbhmddhpmaaaGreat.rWrite.count A2 n2 c2 y _ hn2 y0 y1).mono ?_
    rintro e W ⟨rfl, rfl⟩
    rw [if_neg (by omega)]
    go_wp2_with fail
    go_ret
    exact ⟨ret_i HZ.out, hb⟩
/-! the copy -/
def xf (x : Hd) (u v : Value) : Nat → Value
  | 0 => .int .i64 x.i
  | 1 => .int .i64 x.s
  | 2 => .int .i64 x.t
  | 3 => .int .i64 x.b
  | 4 => .int .i64 x.l
  | 5 => .int .i64 x.h
  | 6 => .int .i64 x.c
  | 7 => u
  | _ => v
theorem nine_x (x : Hd) (u v : Value) : ∀ i, i < 9 → (#[.int .i64 x.i, .int .i64 x.s, .int .i64 x.t, .int .i64 x.b, .int .i64 x.l, .int .i64 x.h, .int .i64 x.c, u, v] : Array Value)[i]? = some (xf x u v i) := by
  intro i hi
  match i, hi with
  | 0, _ => rfl
  | 1, _ => rfl
  | 2, _ => rfl
  | 3, _ => rfl
  | 4, _ => rfl
  | 5, _ => rfl
  | 6, _ => rfl
  | 7, _ => rfl
  | 8, _ => rfl
def zf (i : Nat) : Value := if i < 7 then .int .i64 0 else .slice none 0 0
theorem nine : ∀ i, i < 9 → (#[.int .i64 0, .int .i64 0, .int .i64 0, .int .i64 0, .int .i64 0, .int .i64 0, .int .i64 0, .slice none 0 0, .slice none 0 0] : Array Value)[i]? = some (zf i) := by
  intro i hi
  match i, hi with
  | 0, _ => rfl
  | 1, _ => rfl
  | 2, _ => rfl
  | 3, _ => rfl
  | 4, _ => rfl
  | 5, _ => rfl
  | 6, _ => rfl
  | 7, _ => rfl
  | 8, _ => rfl
/-- a copy of its own: two rows of the call's own that read as the same lists -/
def CopT (x : Hd) (n : Nat) (R : List E2) (n2 : Nat) (S : List E2) (w : World) (e : Ending) (w' : World) : Prop :=
  ∃ N N2, e = .returned (.agg #[.int .i64 x.i, .int .i64 x.s, .int .i64 x.t, .int .i64 x.b, .int .i64 x.l, .int .i64 x.h, .int .i64 x.c, .slice (some ⟨N, 0, none⟩) n n, .slice (some ⟨N2, 0, none⟩) n2 n2]) ∧ w.heap.size ≤ N ∧ N < N2 ∧ N2 < w'.heap.size ∧ Row 83 w' N n R n ∧ Row 86 w' N2 n2 S n2 ∧ Below w.heap.size w w'
set_option maxRecDepth 100000 in
set_option maxHeartbeats 1600000 in
theorem copy_tx {w : World} {B n c n2 c2 : Nat} {A A2 : Option Addr} {R S : List E2} (x : Hd) (hn : n ≤ 2097152) (hn2 : n2 ≤ 2097152) (h1 : Vs w B A n R) (h2 : Vs w B A2 n2 S) (hB : B ≤ w.heap.size) :
    Calls Tryz.prog 42 #[.agg #[.int .i64 x.i, .int .i64 x.s, .int .i64 x.t, .int .i64 x.b, .int .i64 x.l, .int .i64 x.h, .int .i64 x.c, .slice A n c, .slice A2 n2 c2]] w (CopT x n R n2 S w) := by
  have H1 := Lib.hid h1
  have H2 := Lib.hid h2
  clear h1 h2
  go_enter Tryz.func42, Tryz.ntmps42
  go_wp2_with fail
  have ta := (((TB.new w x A n c A2 n2 c2 77).keep (by simp) (new1 (w.alloc (.cells #[.int .i64 x.i, .int .i64 x.s, .int .i64 x.t, .int .i64 x.b, .int .i64 x.l, .int .i64 x.h, .int .i64 x.c, .slice A n c, .slice A2 n2 c2] 77)) (.cells #[.int .i64 0, .int .i64 0, .int .i64 0, .int .i64 0, .int .i64 0, .int .i64 0, .int .i64 0, .slice none 0 0, .slice none 0 0] 55))).keep (by simp; omega) (new1 ((w.alloc (.cells #[.int .i64 x.i, .int .i64 x.s, .int .i64 x.t, .int .i64 x.b, .int .i64 x.l, .int .i64 x.h, .int .i64 x.c, .slice A n c, .slice A2 n2 c2] 77)).alloc (.cells #[.int .i64 0, .int .i64 0, .int .i64 0, .int .i64 0, .int .i64 0, .int .i64 0, .int .i64 0, .slice none 0 0, .slice none 0 0] 55)) (.cells #[.int .i64 x.i, .int .i64 x.s, .int .i64 x.t, .int .i64 x.b, .int .i64 x.l, .int .i64 x.h, .int .i64 x.c, .slice none 0 0, .slice none 0 0] 55)))
  have r1 := (World.rowIs_alloc (w.alloc (.cells #[.int .i64 x.i, .int .i64 x.s, .int .i64 x.t, .int .i64 x.b, .int .i64 x.l, .int .i64 x.h, .int .i64 x.c, .slice A n c, .slice A2 n2 c2] 77)) #[.int .i64 0, .int .i64 0, .int .i64 0, .int .i64 0, .int .i64 0, .int .i64 0, .int .i64 0, .slice none 0 0, .slice none 0 0] 55 zf nine).alloc (.cells #[.int .i64 x.i, .int .i64 x.s, .int .i64 x.t, .int .i64 x.b, .int .i64 x.l, .int .i64 x.h, .int .i64 x.c, .slice none 0 0, .slice none 0 0] 55)
  have r2 := World.rowIs_alloc ((w.alloc (.cells #[.int .i64 x.i, .int .i64 x.s, .int .i64 x.t, .int .i64 x.b, .int .i64 x.l, .int .i64 x.h, .int .i64 x.c, .slice A n c, .slice A2 n2 c2] 77)).alloc (.cells #[.int .i64 0, .int .i64 0, .int .i64 0, .int .i64 0, .int .i64 0, .int .i64 0, .int .i64 0, .slice none 0 0, .slice none 0 0] 55)) #[.int .i64 x.i, .int .i64 x.s, .int .i64 x.t, .int .i64 x.b, .int .i64 x.l, .int .i64 x.h, .int .i64 x.c, .slice none 0 0, .slice none 0 0] 55 (xf x (.slice none 0 0) (.slice none 0 0)) (nine_x x _ _)
  have hb := new3 w (.cells #[.int .i64 x.i, .int .i64 x.s, .int .i64 x.t, .int .i64 x.b, .int .i64 x.l, .int .i64 x.h, .int .i64 x.c, .slice A n c, .slice A2 n2 c2] 77) (.cells #[.int .i64 0, .int .i64 0, .int .i64 0, .int .i64 0, .int .i64 0, .int .i64 0, .int .i64 0, .slice none 0 0, .slice none 0 0] 55) (.cells #[.int .i64 x.i, .int .i64 x.s, .int .i64 x.t, .int .i64 x.b, .int .i64 x.l, .int .i64 x.h, .int .i64 x.c, .slice none 0 0, .slice none 0 0] 55)
  have hs : (((w.alloc (.cells #[.int .i64 x.i, .int .i64 x.s, .int .i64 x.t, .int .i64 x.b, .int .i64 x.l, .int .i64 x.h, .int .i64 x.c, .slice A n c, .slice A2 n2 c2] 77)).alloc (.cells #[.int .i64 0, .int .i64 0, .int .i64 0, .int .i64 0, .int .i64 0, .int .i64 0, .int .i64 0, .slice none 0 0, .slice none 0 0] 55)).alloc (.cells #[.int .i64 x.i, .int .i64 x.s, .int .i64 x.t, .int .i64 x.b, .int .i64 x.l, .int .i64 x.h, .int .i64 x.c, .slice none 0 0, .slice none 0 0] 55)).heap.size = w.heap.size + 3 := by simp
  rw [show (w.alloc _).heap.size = w.heap.size + 1 by simp] at r1
  rw [show ((w.alloc _).alloc _).heap.size = w.heap.size + 1 + 1 by simp] at r2
  generalize ((w.alloc _).alloc _).alloc _ = W0 at ta r1 r2 hb hs ⊢
  have HB := Lib.hid hb
  have h1 := H1.out.below (below_le hb (by omega))
  clear hb
  refine (Go.Proofs.YtjnlbhmddhpmaaaGreat.rReadMark.copied hn h1 (by omega)).mono ?_
  rintro e W1 ⟨M, rfl, hM, hMl, hR, hb1⟩
  have hs1 := hb1.size
  have ta := ta.keep (by omega) hb1
  have r1 := r1.of_block (hb1.block _ (by omega))
  have r2 := r2.of_block (hb1.block _ (by omega))
  obtain ⟨t0, t1, t2, t3, t4, t5, t6, t7, t8⟩ := ta
  have c7 := r2.cell (i := 7) (show 7 < 9 by decide)
  have g7 := r2.frozen 7
  have HB1 := Lib.hid (HB.out.trans (hb1.mono (by omega)))
  have HR := Lib.hid hR
  have R1 := Lib.hid r1
  have R2 := Lib.hid r2
  clear hb1 hR r1 r2 h1 t0 t1 t2 t3 t4 t5 t6 t7
  go_wp2_with fail
  have r2 := R2.out.set 7 (.slice (some ⟨M, 0, none⟩) n n)
  have r1 := World.rowIs.setOther R1.out (a := ⟨w.heap.size + 1 + 1, 7, none⟩) (by simp) (.slice (some ⟨M, 0, none⟩) n n)
  have hR := World.rowIs.setOther HR.out (a := ⟨w.heap.size + 1 + 1, 7, none⟩) (by simp; omega) (.slice (some ⟨M, 0, none⟩) n n)
  have hb := HB1.out.setCell (p := ⟨w.heap.size + 1 + 1, 7, none⟩) (by simp; omega) (.slice (some ⟨M, 0, none⟩) n n)
  have hs2 : (W1.setCell ⟨w.heap.size + 1 + 1, 7, none⟩ (.slice (some ⟨M, 0, none⟩) n n)).heap.size = W1.heap.size := by simp
  generalize W1.setCell _ _ = W2 at r1 r2 hR hb hs2 ⊢
  have HB2 := Lib.hid hb
  have h2 := H2.out.below (below_le hb hB)
  clear hb
  refine (Go.Proofs.YtjnlbhmddhpmaaaGreat.rWrite.copied hn2 h2 (by omega)).mono ?_
  rintro e W3 ⟨M2, rfl, hM2, hMl2, hR2, hb3⟩
  have hs3 := hb3.size
  have r1 := r1.of_block (hb3.block _ (by omega))
  have r2 := r2.of_block (hb3.block _ (by omega))
  have hR := World.rowIs.of_block hR (hb3.block _ (by omega))
  have q0 : W3.cell? ⟨w.heap.size + 1 + 1, 0, none⟩ = some (.int .i64 x.i) := r2.cell (show 0 < 9 by decide)
  have z0 : W3.cell? ⟨w.heap.size + 1, 0, none⟩ = some (.int .i64 0) := r1.cell (show 0 < 9 by decide)
  have y0 := r1.frozen 0
  have q1 : W3.cell? ⟨w.heap.size + 1 + 1, 1, none⟩ = some (.int .i64 x.s) := r2.cell (show 1 < 9 by decide)
  have z1 : W3.cell? ⟨w.heap.size + 1, 1, none⟩ = some (.int .i64 0) := r1.cell (show 1 < 9 by decide)
  have y1 := r1.frozen 1
  have q2 : W3.cell? ⟨w.heap.size + 1 + 1, 2, none⟩ = some (.int .i64 x.t) := r2.cell (show 2 < 9 by decide)
  have z2 : W3.cell? ⟨w.heap.size + 1, 2, none⟩ = some (.int .i64 0) := r1.cell (show 2 < 9 by decide)
  have y2 := r1.frozen 2
  have q3 : W3.cell? ⟨w.heap.size + 1 + 1, 3, none⟩ = some (.int .i64 x.b) := r2.cell (show 3 < 9 by decide)
  have z3 : W3.cell? ⟨w.heap.size + 1, 3, none⟩ = some (.int .i64 0) := r1.cell (show 3 < 9 by decide)
  have y3 := r1.frozen 3
  have q4 : W3.cell? ⟨w.heap.size + 1 + 1, 4, none⟩ = some (.int .i64 x.l) := r2.cell (show 4 < 9 by decide)
  have z4 : W3.cell? ⟨w.heap.size + 1, 4, none⟩ = some (.int .i64 0) := r1.cell (show 4 < 9 by decide)
  have y4 := r1.frozen 4
  have q5 : W3.cell? ⟨w.heap.size + 1 + 1, 5, none⟩ = some (.int .i64 x.h) := r2.cell (show 5 < 9 by decide)
  have z5 : W3.cell? ⟨w.heap.size + 1, 5, none⟩ = some (.int .i64 0) := r1.cell (show 5 < 9 by decide)
  have y5 := r1.frozen 5
  have q6 : W3.cell? ⟨w.heap.size + 1 + 1, 6, none⟩ = some (.int .i64 x.c) := r2.cell (show 6 < 9 by decide)
  have z6 : W3.cell? ⟨w.heap.size + 1, 6, none⟩ = some (.int .i64 0) := r1.cell (show 6 < 9 by decide)
  have y6 := r1.frozen 6
  have q7 : W3.cell? ⟨w.heap.size + 1 + 1, 7, none⟩ = some ((.slice (some ⟨M, 0, none⟩) n n)) := r2.cell (show 7 < 9 by decide)
  have z7 : W3.cell? ⟨w.heap.size + 1, 7, none⟩ = some (.slice none 0 0) := r1.cell (show 7 < 9 by decide)
  have y7 := r1.frozen 7
  have q8 : W3.cell? ⟨w.heap.size + 1 + 1, 8, none⟩ = some (.slice none 0 0) := r2.cell (show 8 < 9 by decide)
  have z8 : W3.cell? ⟨w.heap.size + 1, 8, none⟩ = some (.slice none 0 0) := r1.cell (show 8 < 9 by decide)
  have y8 := r1.frozen 8
  have f8 := r2.frozen 8
  have HB3 := Lib.hid (HB2.out.trans (hb3.mono (by omega)))
  have HR1 := Lib.hid hR
  have HR2 := Lib.hid hR2
  have RR1 := Lib.hid r1
  clear hb3 hR hR2 r1 r2 h2
  go_wp2_with fail
  have r1 := ((((((((((RR1.out.setOther (a := ⟨w.heap.size + 1 + 1, 8, none⟩) (by simp) (.slice (some ⟨M2, 0, none⟩) n2 n2)).set 0 (.int .i64 x.i)).set 1 (.int .i64 x.s)).set 2 (.int .i64 x.t)).set 3 (.int .i64 x.b)).set 4 (.int .i64 x.l)).set 5 (.int .i64 x.h)).set 6 (.int .i64 x.c)).set 7 (.slice (some ⟨M, 0, none⟩) n n)).set 8 (.slice (some ⟨M2, 0, none⟩) n2 n2))
  have hR := (World.rowIs.setOther (World.rowIs.setOther (World.rowIs.setOther (World.rowIs.setOther (World.rowIs.setOther (World.rowIs.setOther (World.rowIs.setOther (World.rowIs.setOther (World.rowIs.setOther (World.rowIs.setOther HR1.out (a := ⟨w.heap.size + 1 + 1, 8, none⟩) (by simp; omega) (.slice (some ⟨M2, 0, none⟩) n2 n2)) (a := ⟨w.heap.size + 1, 0, none⟩) (by simp; omega) (.int .i64 x.i)) (a := ⟨w.heap.size + 1, 1, none⟩) (by simp; omega) (.int .i64 x.s)) (a := ⟨w.heap.size + 1, 2, none⟩) (by simp; omega) (.int .i64 x.t)) (a := ⟨w.heap.size + 1, 3, none⟩) (by simp; omega) (.int .i64 x.b)) (a := ⟨w.heap.size + 1, 4, none⟩) (by simp; omega) (.int .i64 x.l)) (a := ⟨w.heap.size + 1, 5, none⟩) (by simp; omega) (.int .i64 x.h)) (a := ⟨w.heap.size + 1, 6, none⟩) (by simp; omega) (.int .i64 x.c)) (a := ⟨w.heap.size + 1, 7, none⟩) (by simp; omega) (.slice (some ⟨M, 0, none⟩) n n)) (a := ⟨w.heap.size + 1, 8, none⟩) (by simp; omega) (.slice (some ⟨M2, 0, none⟩) n2 n2))
  have hR2 := (World.rowIs.setOther (World.rowIs.setOther (World.rowIs.setOther (World.rowIs.setOther (World.rowIs.setOther (World.rowIs.setOther (World.rowIs.setOther (World.rowIs.setOther (World.rowIs.setOther (World.rowIs.setOther HR2.out (a := ⟨w.heap.size + 1 + 1, 8, none⟩) (by simp; omega) (.slice (some ⟨M2, 0, none⟩) n2 n2)) (a := ⟨w.heap.size + 1, 0, none⟩) (by simp; omega) (.int .i64 x.i)) (a := ⟨w.heap.size + 1, 1, none⟩) (by simp; omega) (.int .i64 x.s)) (a := ⟨w.heap.size + 1, 2, none⟩) (by simp; omega) (.int .i64 x.t)) (a := ⟨w.heap.size + 1, 3, none⟩) (by simp; omega) (.int .i64 x.b)) (a := ⟨w.heap.size + 1, 4, none⟩) (by simp; omega) (.int .i64 x.l)) (a := ⟨w.heap.size + 1, 5, none⟩) (by simp; omega) (.int .i64 x.h)) (a := ⟨w.heap.size + 1, 6, none⟩) (by simp; omega) (.int .i64 x.c)) (a := ⟨w.heap.size + 1, 7, none⟩) (by simp; omega) (.slice (some ⟨M, 0, none⟩) n n)) (a := ⟨w.heap.size + 1, 8, none⟩) (by simp; omega) (.slice (some ⟨M2, 0, none⟩) n2 n2))
  have hb := ((((((((((HB3.out.setCell (p := ⟨w.heap.size + 1 + 1, 8, none⟩) (by simp; omega) (.slice (some ⟨M2, 0, none⟩) n2 n2)).setCell (p := ⟨w.heap.size + 1, 0, none⟩) (by simp) (.int .i64 x.i)).setCell (p := ⟨w.heap.size + 1, 1, none⟩) (by simp) (.int .i64 x.s)).setCell (p := ⟨w.heap.size + 1, 2, none⟩) (by simp) (.int .i64 x.t)).setCell (p := ⟨w.heap.size + 1, 3, none⟩) (by simp) (.int .i64 x.b)).setCell (p := ⟨w.heap.size + 1, 4, none⟩) (by simp) (.int .i64 x.l)).setCell (p := ⟨w.heap.size + 1, 5, none⟩) (by simp) (.int .i64 x.h)).setCell (p := ⟨w.heap.size + 1, 6, none⟩) (by simp) (.int .i64 x.c)).setCell (p := ⟨w.heap.size + 1, 7, none⟩) (by simp) (.slice (some ⟨M, 0, none⟩) n n)).setCell (p := ⟨w.heap.size + 1, 8, none⟩) (by simp) (.slice (some ⟨M2, 0, none⟩) n2 n2))
  generalize ((((((((((W3.setCell _ _).setCell _ _).setCell _ _).setCell _ _).setCell _ _).setCell _ _).setCell _ _).setCell _ _).setCell _ _).setCell _ _) = W4 at r1 hR hR2 hb ⊢
  have e0 : W4.cell? ⟨w.heap.size + 1, 0, none⟩ = some (.int .i64 x.i) := r1.cell (show 0 < 9 by decide)
  have e1 : W4.cell? ⟨w.heap.size + 1, 1, none⟩ = some (.int .i64 x.s) := r1.cell (show 1 < 9 by decide)
  have e2 : W4.cell? ⟨w.heap.size + 1, 2, none⟩ = some (.int .i64 x.t) := r1.cell (show 2 < 9 by decide)
  have e3 : W4.cell? ⟨w.heap.size + 1, 3, none⟩ = some (.int .i64 x.b) := r1.cell (show 3 < 9 by decide)
  have e4 : W4.cell? ⟨w.heap.size + 1, 4, none⟩ = some (.int .i64 x.l) := r1.cell (show 4 < 9 by decide)
  have e5 : W4.cell? ⟨w.heap.size + 1, 5, none⟩ = some (.int .i64 x.h) := r1.cell (show 5 < 9 by decide)
  have e6 : W4.cell? ⟨w.heap.size + 1, 6, none⟩ = some (.int .i64 x.c) := r1.cell (show 6 < 9 by decide)
  have e7 : W4.cell? ⟨w.heap.size + 1, 7, none⟩ = some ((.slice (some ⟨M, 0, none⟩) n n)) := r1.cell (show 7 < 9 by decide)
  have e8 : W4.cell? ⟨w.heap.size + 1, 8, none⟩ = some ((.slice (some ⟨M2, 0, none⟩) n2 n2)) := r1.cell (show 8 < 9 by decide)
  exact bodyPost_ret (v := .agg #[.int .i64 x.i, .int .i64 x.s, .int .i64 x.t, .int .i64 x.b, .int .i64 x.l, .int .i64 x.h, .int .i64 x.c, .slice (some ⟨M, 0, none⟩) n n, .slice (some ⟨M2, 0, none⟩) n2 n2]) (by simp [results, Tryz.results42, go_sem, e0, e1, e2, e3, e4, e5, e6, e7, e8]) rfl ⟨M, M2, rfl, by omega, by omega, hR2.lt, hR, hR2, hb⟩
theorem copied_tx {w : World} {B n c n2 c2 : Nat} {A A2 : Option Addr} {R S : List E2} (x : Hd) (hn : n ≤ 2097152) (hn2 : n2 ≤ 2097152) (h1 : Vs w B A n R) (h2 : Vs w B A2 n2 S) (hB : B ≤ w.heap.size) :
    Calls Tryz.prog 42 #[.agg #[.int .i64 x.i, .int .i64 x.s, .int .i64 x.t, .int .i64 x.b, .int .i64 x.l, .int .i64 x.h, .int .i64 x.c, .slice A n c, .slice A2 n2 c2]] w fun e w' => ∃ N M, e = .returned (.agg #[.int .i64 x.i, .int .i64 x.s, .int .i64 x.t, .int .i64 x.b, .int .i64 x.l, .int .i64 x.h, .int .i64 x.c, .slice (some ⟨N, 0, none⟩) n n, .slice (some ⟨M, 0, none⟩) n2 n2]) ∧ Vs w' w'.heap.size (some ⟨N, 0, none⟩) n R ∧ Vs w' w'.heap.size (some ⟨M, 0, none⟩) n2 S ∧ Below w.heap.size w w' :=
  (copy_tx x hn hn2 h1 h2 hB).mono fun e w' ⟨N, M, he, _, hNM, hM, r1, r2, hb⟩ => ⟨N, M, he, (r1.vs h1.1).more (by omega), (r2.vs h2.1).more (by omega), hb⟩
/-! the comparison -/
set_option maxRecDepth 100000 in
set_option maxHeartbeats 1600000 in
theorem same_tx {w : World} {B n c c' n2 c2 c2' : Nat} {A A' A2 A2' : Option Addr} {R S : List E2} (x : Hd) (hn : n ≤ 140737488355328) (hn2 : n2 ≤ 140737488355328) (h1 : Vs w B A n R) (h1' : Vs w B A' n R) (h2 : Vs w B A2 n2 S) (h2' : Vs w B A2' n2 S) (hB : B ≤ w.heap.size) :
    Calls Tryz.prog 56 #[.agg #[.int .i64 x.i, .int .i64 x.s, .int .i64 x.t, .int .i64 x.b, .int .i64 x.l, .int .i64 x.h, .int .i64 x.c, .slice A n c, .slice A2 n2 c2], .agg #[.int .i64 x.i, .int .i64 x.s, .int .i64 x.t, .int .i64 x.b, .int .i64 x.l, .int .i64 x.h, .int .i64 x.c, .slice A' n c', .slice A2' n2 c2']] w fun e w' => e = .returned (.bool true) ∧ Below w.heap.size w w' := by
  have H1 := Lib.hid h1
  have H1' := Lib.hid h1'
  have H2 := Lib.hid h2
  have H2' := Lib.hid h2'
  clear h1 h1' h2 h2'
  go_enter Tryz.func56, Tryz.ntmps56
  go_wp2_with fail
  have ta := (TB.new w x A n c A2 n2 c2 55).keep (by simp) (new1 _ (.cells #[.int .i64 x.i, .int .i64 x.s, .int .i64 x.t, .int .i64 x.b, .int .i64 x.l, .int .i64 x.h, .int .i64 x.c, .slice A' n c', .slice A2' n2 c2'] 55))
  have tb := TB.new (w.alloc (.cells #[.int .i64 x.i, .int .i64 x.s, .int .i64 x.t, .int .i64 x.b, .int .i64 x.l, .int .i64 x.h, .int .i64 x.c, .slice A n c, .slice A2 n2 c2] 55)) x A' n c' A2' n2 c2' 55
  rw [show (w.alloc _).heap.size = w.heap.size + 1 by simp] at tb
  have hb := new2 w (.cells #[.int .i64 x.i, .int .i64 x.s, .int .i64 x.t, .int .i64 x.b, .int .i64 x.l, .int .i64 x.h, .int .i64 x.c, .slice A n c, .slice A2 n2 c2] 55) (.cells #[.int .i64 x.i, .int .i64 x.s, .int .i64 x.t, .int .i64 x.b, .int .i64 x.l, .int .i64 x.h, .int .i64 x.c, .slice A' n c', .slice A2' n2 c2'] 55)
  have hs : ((w.alloc (.cells #[.int .i64 x.i, .int .i64 x.s, .int .i64 x.t, .int .i64 x.b, .int .i64 x.l, .int .i64 x.h, .int .i64 x.c, .slice A n c, .slice A2 n2 c2] 55)).alloc (.cells #[.int .i64 x.i, .int .i64 x.s, .int .i64 x.t, .int .i64 x.b, .int .i64 x.l, .int .i64 x.h, .int .i64 x.c, .slice A' n c', .slice A2' n2 c2'] 55)).heap.size = w.heap.size + 2 := by simp
  generalize (w.alloc _).alloc _ = W0 at ta tb hb hs ⊢
  have HB := Lib.hid hb
  have h1 := H1.out.below (below_le hb hB)
  have h1' := H1'.out.below (below_le hb hB)
  clear hb
  refine (Go.Proofs.YtjnlbhmddhpmaaaGreat.rReadMark.same hn h1 h1' (by omega)).mono ?_
  rintro e W1 ⟨rfl, hb1⟩
  have hs1 := hb1.size
  obtain ⟨t0, t1, t2, t3, t4, t5, t6, t7, t8⟩ := ta.keep (by omega) hb1
  obtain ⟨u0, u1, u2, u3, u4, u5, u6, u7, u8⟩ := tb.keep (by omega) hb1
  have HB1 := Lib.hid (HB.out.trans (hb1.mono (by omega)))
  have h2 := Lib.hid (H2.out.below (below_le HB1.out hB))
  have h2' := Lib.hid (H2'.out.below (below_le HB1.out hB))
  clear hb1 h1 h1' ta tb t0 t1 t2 t3 t4 t5 t6 t7 u0 u1 u2 u3 u4 u5 u6 u7
  go_wp2_with fail
  refine (Go.Proofs.YtjnlbhmddhpmaaaGreat.rWrite.same hn2 h2.out h2'.out (by omega)).mono ?_
  rintro e W2 ⟨rfl, hb2⟩
  have HB2 := Lib.hid (HB1.out.trans (hb2.mono (by omega)))
  clear hb2
  go_wp2_with fail
  go_ret
  exact ⟨rfl, HB2.out⟩
/-! a law's argument -/
section
variable {H : Type} {enc : TypeId × Value → H} {w : World} {base : Nat} {spare : Nat → Bool} {held : Bool}
set_option maxRecDepth 100000 in
theorem row_r {fuel : Nat} {cs : List Value} {x : DataW H × List MemPlace} (h : DataW.trod enc Tryz.prog w base spare held fuel 74 cs = some x) : ∃ A n c, cs = [.slice A n c] := by
  rcases open_slice Tryz.underlying74 h with ⟨hcs, _⟩ | ⟨a, len', cap', m, n, D, Pl, hcs, _⟩
  · exact ⟨none, 0, 0, hcs⟩
  · exact ⟨some a, len', cap', hcs⟩
set_option maxRecDepth 100000 in
theorem row_w {fuel : Nat} {cs : List Value} {x : DataW H × List MemPlace} (h : DataW.trod enc Tryz.prog w base spare held fuel 75 cs = some x) : ∃ A n c, cs = [.slice A n c] := by
  rcases open_slice Tryz.underlying75 h with ⟨hcs, _⟩ | ⟨a, len', cap', m, n, D, Pl, hcs, _⟩
  · exact ⟨none, 0, 0, hcs⟩
  · exact ⟨some a, len', cap', hcs⟩
set_option maxRecDepth 100000 in
theorem cells_tx {fuel : Nat} {cs : List Value} {x : DataW H × List MemPlace} (h : DataW.trod enc Tryz.prog w base spare held fuel 77 cs = some x) :
    ∃ (v : Hd) (A : Option Addr) (n c : Nat) (R : List E2) (A2 : Option Addr) (n2 c2 : Nat) (S : List E2), cs = [.int .i64 v.i, .int .i64 v.s, .int .i64 v.t, .int .i64 v.b, .int .i64 v.l, .int .i64 v.h, .int .i64 v.c, .slice A n c, .slice A2 n2 c2] ∧ Vs w w.heap.size A n R ∧ n ≤ maxLen ∧ Vs w w.heap.size A2 n2 S ∧ n2 ≤ maxLen := by
  obtain ⟨xs, n, _, _, hlen, hxl, hf⟩ := DataW.trod_struct Tryz.underlying77 h
  have hC : Tryz.prog.cellsOf 77 = 9 := by kernel_rfl
  rw [hC] at hlen
  match cs, hlen with
  | [c0, c1, c2, c3, c4, c5, c6, c7, c8], _ =>
    match xs, hxl with
    | [y0, y1, y2, y3, y4, y5, y6, y7, y8], _ =>
      have g0 := hf 0 _ rfl
      have g1 := hf 1 _ rfl
      have g2 := hf 2 _ rfl
      have g3 := hf 3 _ rfl
      have g4 := hf 4 _ rfl
      have g5 := hf 5 _ rfl
      have g6 := hf 6 _ rfl
      have g7 := hf 7 _ rfl
      have g8 := hf 8 _ rfl
      obtain ⟨z0, ha0, _, _⟩ := DataW.trod_int (cs := [c0]) Tryz.underlying3 g0
      obtain ⟨z1, ha1, _, _⟩ := DataW.trod_int (cs := [c1]) Tryz.underlying3 g1
      obtain ⟨z2, ha2, _, _⟩ := DataW.trod_int (cs := [c2]) Tryz.underlying3 g2
      obtain ⟨z3, ha3, _, _⟩ := DataW.trod_int (cs := [c3]) Tryz.underlying3 g3
      obtain ⟨z4, ha4, _, _⟩ := DataW.trod_int (cs := [c4]) Tryz.underlying3 g4
      obtain ⟨z5, ha5, _, _⟩ := DataW.trod_int (cs := [c5]) Tryz.underlying3 g5
      obtain ⟨z6, ha6, _, _⟩ := DataW.trod_int (cs := [c6]) Tryz.underlying3 g6
      obtain ⟨A, m, c, ha7⟩ := row_r (cs := [c7]) g7
      obtain ⟨A2, m2, c2, ha8⟩ := row_w (cs := [c8]) g8
      simp only [List.cons.injEq, and_true] at ha0 ha1 ha2 ha3 ha4 ha5 ha6 ha7 ha8
      subst ha7 ha8
      obtain ⟨R, hv, hm⟩ := Go.Proofs.YtjnlbhmddhpmaaaGreat.rReadMark.open_row (A := A) (len := m) (cap := c) g7
      obtain ⟨S, hv2, hm2⟩ := Go.Proofs.YtjnlbhmddhpmaaaGreat.rWrite.open_row (A := A2) (len := m2) (cap := c2) g8
      exact ⟨⟨z0, z1, z2, z3, z4, z5, z6⟩, A, m, c, R, A2, m2, c2, S, by rw [ha0, ha1, ha2, ha3, ha4, ha5, ha6], hv, hm, hv2, hm2⟩
set_option maxRecDepth 100000 in
theorem open_tx {r : Reach} {b0 : Nat} {v : Value} {d : DataW H} {p : List MemPlace} (hv : Value.okWide Tryz.prog w r b0 77 v) (h : DataW.Trod enc Tryz.prog w base spare held 77 v d p) :
    ∃ (x : Hd) (A : Option Addr) (n c : Nat) (R : List E2) (A2 : Option Addr) (n2 c2 : Nat) (S : List E2), v = .agg #[.int .i64 x.i, .int .i64 x.s, .int .i64 x.t, .int .i64 x.b, .int .i64 x.l, .int .i64 x.h, .int .i64 x.c, .slice A n c, .slice A2 n2 c2] ∧ Vs w w.heap.size A n R ∧ n ≤ maxLen ∧ Vs w w.heap.size A2 n2 S ∧ n2 ≤ maxLen := by
  obtain ⟨cs, rfl, hsz⟩ := okWide_struct Tryz.underlying77 hv
  obtain ⟨l⟩ := cs
  obtain ⟨fuel, hf⟩ := h
  obtain ⟨x, A, n, c, R, A2, n2, c2, S, hx, h1⟩ := cells_tx hf
  refine ⟨x, A, n, c, R, A2, n2, c2, S, ?_, h1⟩
  have : l = [.int .i64 x.i, .int .i64 x.s, .int .i64 x.t, .int .i64 x.b, .int .i64 x.l, .int .i64 x.h, .int .i64 x.c, .slice A n c, .slice A2 n2 c2] := hx
  rw [this]
end
end Go.Proofs.YtjnlbhmddhpmaaaGreat.tx
