/- A slice of versions read as a list; the law's own helpers over such slices: how much they count, the copy, the comparison. Nothing that was there is written. -/
import Derived.Test.YtjnlbhmddhpmaaaGreatVers
import Derived.WalkKit
import Derived.ProofKit
import Derived.Below
import Derived.Lib.Hide
import Derived.LoopTactic
import Derived.Deep.QuietTactic
import Derived.BigQuiet
import Derived.StillTailTactics
import Derived.Outline
import Derived.Deep.OwnRows
import Derived.Laws.MakeOwn
import Derived.Laws.Entries
namespace Go.Proofs.YtjnlbhmddhpmaaaGreat.sl
open Go.ChangeShapes Go.WideShapes Go.ChangeAt Go.RowKit
open Go.Proofs.YtjnlbhmddhpmaaaGreat.vers
set_option linter.unusedVariables false
set_option linter.unusedSimpArgs false
structure Ver where
  a : Int
  b : Int
  c : Int
  d : Int
  e : Int
instance : DecidableEq Ver := fun x y => decidable_of_iff (x.a = y.a ∧ x.b = y.b ∧ x.c = y.c ∧ x.d = y.d ∧ x.e = y.e) (by cases x; cases y; simp)
instance : Inhabited Ver := ⟨⟨0, 0, 0, 0, 0⟩⟩
/-- the five cells of a version -/
def At (w : World) (b o : Nat) (x : Ver) : Prop := w.cell? ⟨b, o, none⟩ = some (.int .i64 x.a) ∧ w.cell? ⟨b, o + 1, none⟩ = some (.int .i64 x.b) ∧ w.cell? ⟨b, o + 2, none⟩ = some (.int .i64 x.c) ∧ w.cell? ⟨b, o + 3, none⟩ = some (.int .i64 x.d) ∧ w.cell? ⟨b, o + 4, none⟩ = some (.int .i64 x.e)
/-- the slice value '.slice A n c' reads as the list l, in memory below B -/
def Vs (w : World) (B : Nat) (A : Option Addr) (n : Nat) (l : List Ver) : Prop :=
  l.length = n ∧ (0 < n → ∃ b o, A = some ⟨b, o, none⟩ ∧ b < B ∧ ∀ k x, l[k]? = some x → At w b (o + k * 5) x)
section
variable {w w' : World} {B B' n : Nat} {A : Option Addr} {l : List Ver}
theorem Vs.nil_ (w : World) (B : Nat) (A : Option Addr) : Vs w B A 0 [] := ⟨rfl, fun h => absurd h (by omega)⟩
theorem At.keep {b o : Nat} {x : Ver} (h : At w b o x) (hb : b < B) (hk : Below B w w') : At w' b o x :=
  ⟨(hk.cell (p := ⟨b, o, none⟩) hb).trans h.1, (hk.cell (p := ⟨b, o + 1, none⟩) hb).trans h.2.1, (hk.cell (p := ⟨b, o + 2, none⟩) hb).trans h.2.2.1, (hk.cell (p := ⟨b, o + 3, none⟩) hb).trans h.2.2.2.1, (hk.cell (p := ⟨b, o + 4, none⟩) hb).trans h.2.2.2.2⟩
theorem Vs.below (h : Vs w B A n l) (hk : Below B w w') : Vs w' B A n l := ⟨h.1, fun hn => by
  obtain ⟨b, o, e, hb, hc⟩ := h.2 hn
  exact ⟨b, o, e, hb, fun k x hx => (hc k x hx).keep hb hk⟩⟩
theorem Vs.more (h : Vs w B A n l) (hB : B ≤ B') : Vs w B' A n l := ⟨h.1, fun hn => by
  obtain ⟨b, o, e, hb, hc⟩ := h.2 hn
  exact ⟨b, o, e, by omega, hc⟩⟩
theorem Vs.at_ (h : Vs w B A n l) {k : Nat} (hk : k < n) : ∃ b o x, A = some ⟨b, o, none⟩ ∧ b < B ∧ l[k]? = some x ∧ At w b (o + k * 5) x := by
  obtain ⟨b, o, e, hb, hc⟩ := h.2 (by omega)
  have hl : k < l.length := by have := h.1; omega
  exact ⟨b, o, l[k], e, hb, List.getElem?_eq_getElem hl, hc k _ (List.getElem?_eq_getElem hl)⟩
end
theorem below_le {B B' : Nat} {w w' : World} (h : Below B w w') (hb : B' ≤ B) : Below B' w w' := ⟨h.os, h.tape, h.output, h.size, fun k hk => h.block k (by omega)⟩

theorem count (A : Option Addr) (n c : Nat) (left : Int) (w : World) (hn : n ≤ 9223372036854775807) (h0 : 0 ≤ left) (h1 : left ≤ 1048576) :
    Calls Tryz.prog 59 #[.slice A n c, .int .i64 left] w fun e w' => e = .returned (.int .i64 (if left < n then -1 else left - n)) ∧ w = w' := by
  by_cases h : left < n
  · rw [if_pos h]
    have t : decide (left - (n : Int) < 0) = true := decide_eq_true (by omega)
    go_enter Tryz.func59, Tryz.ntmps59
    go_wp2
    go_ret
    exact ⟨rfl, rfl⟩
  · rw [if_neg h]
    have t : decide (left - (n : Int) < 0) = false := decide_eq_false (by omega)
    go_enter Tryz.func59, Tryz.ntmps59
    go_wp2
    go_ret
    exact ⟨rfl, rfl⟩

set_option maxRecDepth 100000 in
set_option maxHeartbeats 800000 in
theorem same_versions {w : World} {B n c c2 : Nat} {A A2 : Option Addr} {l : List Ver} (hn : n ≤ 140737488355328) (h1 : Vs w B A n l) (h2 : Vs w B A2 n l) (hB : B ≤ w.heap.size) :
    Calls Tryz.prog 74 #[.slice A n c, .slice A2 n c2] w fun e w' => e = .returned (.bool true) ∧ Below w.heap.size w w' := by
  have H1 := Lib.hid h1
  have H2 := Lib.hid h2
  clear h1 h2
  go_enter Tryz.func74, Tryz.ntmps74
  go_wp2
  go_loopw [5] (fun i wr => ∃ k : Nat, k ≤ n ∧ i = .int .i64 k ∧ Below w.heap.size w wr) (fun i _ => n - (intOf i).toNat)
  case atStart => exact ⟨0, by omega, rfl, Below.refl _ _⟩
  case round =>
    obtain ⟨k, hk, rfl, hb⟩ := hrel
    by_cases hlt : k < n
    · obtain ⟨b, o, x, rfl, hbB, hx, a0, a1, a2, a3, a4⟩ := (H1.out.below (below_le hb hB)).at_ hlt
      obtain ⟨b', o', x', rfl, hbB', hx', b0, b1, b2, b3, b4⟩ := (H2.out.below (below_le hb hB)).at_ hlt
      obtain rfl : x = x' := by rw [hx] at hx'; exact Option.some.inj hx'
      have HB := Lib.hid hb
      clear hb hx hx'
      have hd : eB x.a x.b x.c x.d x.e x.a x.b x.c x.d x.e = true := by simp [eB]
      have HD := Lib.hid hd
      clear hd
      go_wp2_with fail
      go_still_tail 8, (by kernel_rfl)
      change wpList _ _ _ _ _ wr.drew
      go_wp2_with fail
      refine (eq_version _ _ _ _ _ _ _ _ _ _ _).mono ?_
      rintro e W1 ⟨rfl, hb1⟩
      rw [HD.out]
      have HB1 := Lib.hid hb1
      clear hb1
      go_wp2_with fail
      go_roundw
      case rel => exact ⟨k + 1, by omega, by go_num, HB.out.drew.trans (HB1.out.mono HB.out.size)⟩
      case measure => simp [intOf]; omega
    · go_wp2
      go_ret
      exact ⟨rfl, hb⟩

/-! the copy -/
def fld (x : Ver) : Nat → Value
  | 0 => .int .i64 x.a
  | 1 => .int .i64 x.b
  | 2 => .int .i64 x.c
  | 3 => .int .i64 x.d
  | _ => .int .i64 x.e
/-- block N is a row of n versions; the first k are those of l, the others are zero -/
def Row (w : World) (N n : Nat) (l : List Ver) (k : Nat) : Prop := w.rowIs N 81 (n * 5) (fun i => if i < k * 5 then fld (l.getD (i / 5) default) (i % 5) else .int .i64 0)
section
variable {w w' : World} {N n k : Nat} {l : List Ver}
theorem Row.below {B : Nat} (h : Row w N n l k) (hb : Below B w w') (hN : N < B) : Row w' N n l k := World.rowIs.of_block h (hb.block N hN)
theorem Row.lt (h : Row w N n l k) : N < w.heap.size := World.rowIs.lt h
theorem Row.cell (h : Row w N n l k) {i : Nat} (hi : i < n * 5) : ∃ u, w.cell? ⟨N, i, none⟩ = some u := ⟨_, World.rowIs.cell h hi⟩
theorem Row.frozen (h : Row w N n l k) (i : Nat) : w.frozen? ⟨N, i, none⟩ = false := World.rowIs.frozen h i
theorem Row.set (h : Row w N n l k) (hk : k < n) {x : Ver} (hx : l[k]? = some x) :
    Row (((((w.setCell ⟨N, k * 5, none⟩ (.int .i64 x.a)).setCell ⟨N, k * 5 + 1, none⟩ (.int .i64 x.b)).setCell ⟨N, k * 5 + 2, none⟩ (.int .i64 x.c)).setCell ⟨N, k * 5 + 3, none⟩ (.int .i64 x.d)).setCell ⟨N, k * 5 + 4, none⟩ (.int .i64 x.e)) N n l (k + 1) := by
  have hd : l.getD k default = x := by simp [List.getD, hx]
  refine (((((World.rowIs.set h (k * 5) _).set (k * 5 + 1) _).set (k * 5 + 2) _).set (k * 5 + 3) _).set (k * 5 + 4) _).congr fun i hi => ?_
  by_cases h0 : i < k * 5
  · rw [if_neg (by omega), if_neg (by omega), if_neg (by omega), if_neg (by omega), if_neg (by omega), if_pos h0, if_pos (by omega)]
  · by_cases h5 : i < (k + 1) * 5
    · rw [if_pos h5]
      have e : i / 5 = k := by omega
      rw [e, hd]
      have hc : i = k * 5 ∨ i = k * 5 + 1 ∨ i = k * 5 + 2 ∨ i = k * 5 + 3 ∨ i = k * 5 + 4 := by omega
      rcases hc with rfl | rfl | rfl | rfl | rfl
      · rw [if_neg (by omega), if_neg (by omega), if_neg (by omega), if_neg (by omega), if_pos rfl, show k * 5 % 5 = 0 by omega]; rfl
      · rw [if_neg (by omega), if_neg (by omega), if_neg (by omega), if_pos rfl, show (k * 5 + 1) % 5 = 1 by omega]; rfl
      · rw [if_neg (by omega), if_neg (by omega), if_pos rfl, show (k * 5 + 2) % 5 = 2 by omega]; rfl
      · rw [if_neg (by omega), if_pos rfl, show (k * 5 + 3) % 5 = 3 by omega]; rfl
      · rw [if_pos rfl, show (k * 5 + 4) % 5 = 4 by omega]; rfl
    · rw [if_neg (by omega), if_neg (by omega), if_neg (by omega), if_neg (by omega), if_neg (by omega), if_neg h0, if_neg h5]
theorem Row.vs (h : Row w N n l n) (hl : l.length = n) : Vs w (N + 1) (some ⟨N, 0, none⟩) n l := ⟨hl, fun hn => by
  refine ⟨N, 0, rfl, by omega, fun k x hx => ?_⟩
  have hk : k < n := by
    rcases Nat.lt_or_ge k l.length with h | h
    · omega
    · rw [List.getElem?_eq_none h] at hx; cases hx
  have hd : l.getD k default = x := by simp [List.getD, hx]
  have c := fun i (hi : i < n * 5) => World.rowIs.cell h hi
  refine ⟨?_, ?_, ?_, ?_, ?_⟩
  · rw [show (0 : Nat) + k * 5 = k * 5 by omega, c _ (by omega), if_pos (by omega), show k * 5 / 5 = k by omega, show k * 5 % 5 = 0 by omega, hd]; rfl
  · rw [show (0 : Nat) + k * 5 + 1 = k * 5 + 1 by omega, c _ (by omega), if_pos (by omega), show (k * 5 + 1) / 5 = k by omega, show (k * 5 + 1) % 5 = 1 by omega, hd]; rfl
  · rw [show (0 : Nat) + k * 5 + 2 = k * 5 + 2 by omega, c _ (by omega), if_pos (by omega), show (k * 5 + 2) / 5 = k by omega, show (k * 5 + 2) % 5 = 2 by omega, hd]; rfl
  · rw [show (0 : Nat) + k * 5 + 3 = k * 5 + 3 by omega, c _ (by omega), if_pos (by omega), show (k * 5 + 3) / 5 = k by omega, show (k * 5 + 3) % 5 = 3 by omega, hd]; rfl
  · rw [show (0 : Nat) + k * 5 + 4 = k * 5 + 4 by omega, c _ (by omega), if_pos (by omega), show (k * 5 + 4) / 5 = k by omega, show (k * 5 + 4) % 5 = 4 by omega, hd]; rfl⟩
end
theorem zero5 (t : TypeId) (n : Nat) (l : List Ver) (w : World) : ∀ i, i < n * 5 → (madeCells #[.int .i64 0, .int .i64 0, .int .i64 0, .int .i64 0, .int .i64 0] (n * 5))[i]? = some (.int .i64 0) := by
  intro i hi
  have h5 : i % 5 = 0 ∨ i % 5 = 1 ∨ i % 5 = 2 ∨ i % 5 = 3 ∨ i % 5 = 4 := by omega
  simp only [madeCells, Array.getElem?_map, Array.getElem?_range, hi, if_true, Option.map_some]
  rcases h5 with h | h | h | h | h <;> simp [h]
theorem Row.made (w : World) (n : Nat) (l : List Ver) :
    Row (w.alloc (.cells (madeCells #[.int .i64 0, .int .i64 0, .int .i64 0, .int .i64 0, .int .i64 0] (n * 5)) 81)) w.heap.size n l 0 := by
  refine ⟨_, heap_alloc_new w _, size_madeCells _ _, fun i hi => ?_⟩
  rw [zero5 0 n l w i hi]
  show _ = some (if i < 0 * 5 then _ else _)
  rw [if_neg (by omega)]
theorem info_ver : (Tryz.prog.info? 81).map (fun i => (i.zero, i.size, i.bytes)) = some (some (.agg #[.int .i64 0, .int .i64 0, .int .i64 0, .int .i64 0, .int .i64 0]), 5, 40) := by kernel_rfl
theorem make_versions (n : Nat) (hn : n ≤ 2097152) (w : World) :
    (Instr.makeSlice 79 (.int .i64 (n : Int)) (.int .i64 (n : Int))).run Tryz.prog w = .ok (.slice (some ⟨w.heap.size, 0, none⟩) n n) (w.alloc (.cells (madeCells #[.int .i64 0, .int .i64 0, .int .i64 0, .int .i64 0, .int .i64 0] (n * 5)) 81)) := by
  obtain ⟨i0, hi, hz0, hz1, hz2⟩ := info_parts info_ver
  have hr := run_make (P := Tryz.prog) w 79 81 i0 _ Tryz.underlying79 hi hz0 .i64 .i64 n n (by omega) (by omega) (by rw [hz2]; omega) (by omega)
  simp only [Int.toNat_natCast, hz1, Value.cells] at hr
  exact hr
set_option maxRecDepth 100000 in
set_option maxHeartbeats 800000 in
theorem copy_versions {w : World} {B n c : Nat} {A : Option Addr} {l : List Ver} (hn : n ≤ 2097152) (h1 : Vs w B A n l) (hB : B ≤ w.heap.size) :
    Calls Tryz.prog 63 #[.slice A n c] w fun e w' => ∃ N, e = .returned (.slice (some ⟨N, 0, none⟩) n n) ∧ w.heap.size ≤ N ∧ N < w'.heap.size ∧ Row w' N n l n ∧ Below w.heap.size w w' := by
  have H1 := Lib.hid h1
  have hmk := make_versions n hn
  clear h1
  go_enter Tryz.func63, Tryz.ntmps63
  go_wp2
  obtain ⟨N, hN⟩ : ∃ N, N = w.heap.size := ⟨_, rfl⟩
  have hR0 := Row.made w n l
  have hb0 := new1 w (.cells (madeCells #[.int .i64 0, .int .i64 0, .int .i64 0, .int .i64 0, .int .i64 0] (n * 5)) 81)
  rw [← hN] at hR0
  simp only [← hN]
  generalize w.alloc (.cells (madeCells #[.int .i64 0, .int .i64 0, .int .i64 0, .int .i64 0, .int .i64 0] (n * 5)) 81) = w0 at hR0 hb0 ⊢
  have HN := Lib.hid hN
  have hN2 : w.heap.size ≤ N := by omega
  clear hN hmk
  go_loopw [4] (fun i wr => ∃ k : Nat, k ≤ n ∧ i = .int .i64 k ∧ Row wr N n l k ∧ Below w.heap.size w wr) (fun i _ => n - (intOf i).toNat)
  case atStart => exact ⟨0, by omega, rfl, hR0, hb0⟩
  case round =>
    obtain ⟨k, hk, rfl, hR, hb⟩ := hrel
    have hNl := hR.lt
    by_cases hlt : k < n
    · obtain ⟨b, o, x, rfl, hbB, hx, a0, a1, a2, a3, a4⟩ := (H1.out.below (below_le hb hB)).at_ hlt
      have HB := Lib.hid hb
      have HR := Lib.hid hR
      have HX := Lib.hid hx
      clear hb hx hR hR0 hb0
      go_wp2_with fail
      refine (to_version _ _ _ _ _ _).mono ?_
      rintro e W1 ⟨rfl, hb1⟩
      have hR1 := HR.out.below hb1 hNl
      obtain ⟨u0, c0⟩ := hR1.cell (i := k * 5) (by omega)
      obtain ⟨u1, c1⟩ := hR1.cell (i := k * 5 + 1) (by omega)
      obtain ⟨u2, c2⟩ := hR1.cell (i := k * 5 + 2) (by omega)
      obtain ⟨u3, c3⟩ := hR1.cell (i := k * 5 + 3) (by omega)
      obtain ⟨u4, c4⟩ := hR1.cell (i := k * 5 + 4) (by omega)
      have f0 := hR1.frozen (k * 5)
      have f1 := hR1.frozen (k * 5 + 1)
      have f2 := hR1.frozen (k * 5 + 2)
      have f3 := hR1.frozen (k * 5 + 3)
      have f4 := hR1.frozen (k * 5 + 4)
      have HR1 := Lib.hid hR1
      have HB1 := Lib.hid hb1
      clear hR1 hb1
      go_wp2_with fail
      go_roundw
      case rel => exact ⟨k + 1, by omega, by go_num, HR1.out.set hlt HX.out, (((((HB.out.trans (HB1.out.mono HB.out.size)).setCell hN2 _).setCell hN2 _).setCell hN2 _).setCell hN2 _).setCell hN2 _⟩
      case measure => simp [intOf]; omega
    · obtain rfl : k = n := by omega
      have HB := Lib.hid hb
      have HR := Lib.hid hR
      clear hb hR hR0 hb0
      go_wp2
      go_ret
      exact ⟨N, rfl, hN2, hNl, HR.out, HB.out⟩
/-- the copy, as a law takes it: a slice of its own that reads as the same list -/
def Copied (n : Nat) (l : List Ver) (w : World) (e : Ending) (w' : World) : Prop := ∃ N, e = .returned (.slice (some ⟨N, 0, none⟩) n n) ∧ w.heap.size ≤ N ∧ Vs w' w'.heap.size (some ⟨N, 0, none⟩) n l ∧ Below w.heap.size w w'
theorem copied {w : World} {B n c : Nat} {A : Option Addr} {l : List Ver} (hn : n ≤ 1048576) (h1 : Vs w B A n l) (hB : B ≤ w.heap.size) :
    Calls Tryz.prog 63 #[.slice A n c] w (Copied n l w) :=
  (copy_versions (by omega) h1 hB).mono fun e w' ⟨N, he, h2, h3, hR, hb⟩ => ⟨N, he, h2, (hR.vs h1.1).more (by omega), hb⟩
theorem count_yes (A : Option Addr) (n c : Nat) (left : Int) (w : World) (hn : n ≤ 9223372036854775807) (h0 : 0 ≤ left) (h1 : left ≤ 1048576) (h : n ≤ left) :
    Calls Tryz.prog 59 #[.slice A n c, .int .i64 left] w fun e w' => e = .returned (.int .i64 (left - n)) ∧ w = w' := by
  have := count A n c left w hn h0 h1
  rwa [if_neg (by omega)] at this
theorem count_no (A : Option Addr) (n c : Nat) (left : Int) (w : World) (hn : n ≤ 9223372036854775807) (h0 : 0 ≤ left) (h1 : left ≤ 1048576) (h : left < n) :
    Calls Tryz.prog 59 #[.slice A n c, .int .i64 left] w fun e w' => e = .returned (.int .i64 (-1)) ∧ w = w' := by
  have := count A n c left w hn h0 h1
  rwa [if_pos h] at this
end Go.Proofs.YtjnlbhmddhpmaaaGreat.sl
