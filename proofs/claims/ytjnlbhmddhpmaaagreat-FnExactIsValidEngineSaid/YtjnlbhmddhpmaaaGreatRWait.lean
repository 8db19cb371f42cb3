/- The law's own helpers over Wait and slices of them: how much they count, the copy, the comparison, the marks; opening an argument. Nothing that was there is written. -/
import Derived.Test.YtjnlbhmddhpmaaaGreatEl2
import Derived.WalkKit
import Derived.ProofKit
import Derived.OpenShut
import Derived.ChangeOld
import Derived.Below
import Derived.Carry
import Derived.Lib.Hide
import Derived.LoopTactic
import Derived.Deep.QuietTactic
import Derived.BigQuiet
import Derived.StillTailTactics
import Derived.Outline
import Derived.IntWalk
import Derived.Deep.OwnRows
import Derived.Deep.Slices
import Derived.Deep.DeepHandedRow
import Derived.Laws.MakeOwn
import Derived.Laws.Entries
namespace Go.Proofs.YtjnlbhmddhpmaaaGreat.rWait
open Go.ChangeShapes Go.WideShapes Go.ChangeAt Go.RowKit
open Go.Deep (open_slice add_add)
open Go.Proofs.YtjnlbhmddhpmaaaGreat.el2
set_option linter.unusedVariables false
set_option linter.unusedSimpArgs false
set_option linter.constructorNameAsVariable false
theorem to_one (x : E2) (w : World) :
    Calls Tryz.prog 44 #[.agg #[.int .i64 x.a, .int .i64 x.b]] w fun e w' => e = .returned (.agg #[.int .i64 x.a, .int .i64 x.b]) ∧ Below w.heap.size w w' := by
  go_enter Tryz.func44, Tryz.ntmps44
  go_wp2
  exact bodyPost_ret (v := .agg #[.int .i64 x.a, .int .i64 x.b]) (by simp [results, Tryz.results44, go_sem]) rfl ⟨rfl, (((Below.refl _ _).alloc (Nat.le_refl _) _).alloc (by simp) _).alloc (by simp; omega) _⟩
def eB (x y : E2) : Bool := decide (x = y)
theorem eB_yes {x y : E2} (h : x.a = y.a ∧ x.b = y.b) : Ending.returned (.bool true) = .returned (.bool (eB x y)) := by
  have : x = y := by cases x; cases y; simp_all
  rw [show eB x y = true from decide_eq_true this]
theorem eB_no {x y : E2} (h : ¬ (x.a = y.a ∧ x.b = y.b)) : Ending.returned (.bool false) = .returned (.bool (eB x y)) := by
  have : x ≠ y := fun e => h (by subst e; simp)
  rw [show eB x y = false from decide_eq_false this]
set_option maxHeartbeats 800000 in
theorem eq_one (x y : E2) (w : World) :
    Calls Tryz.prog 58 #[.agg #[.int .i64 x.a, .int .i64 x.b], .agg #[.int .i64 y.a, .int .i64 y.b]] w fun e w' => e = .returned (.bool (eB x y)) ∧ Below w.heap.size w w' := by
  by_cases h0 : x.a = y.a
  case neg =>
    have t0 : (x.a == y.a) = false := by simpa using h0
    go_enter Tryz.func58, Tryz.ntmps58
    go_wp2
    go_ret
    exact ⟨eB_no (by intro hh; omega), ((Below.refl _ _).alloc (Nat.le_refl _) _).alloc (by simp) _⟩
  have t0 : (x.a == y.a) = true := by simpa using h0
  have H0 := Lib.hid h0
  clear h0
  by_cases h1 : x.b = y.b
  case neg =>
    have t1 : (x.b == y.b) = false := by simpa using h1
    go_enter Tryz.func58, Tryz.ntmps58
    go_wp2
    go_ret
    exact ⟨eB_no (by intro hh; omega), ((Below.refl _ _).alloc (Nat.le_refl _) _).alloc (by simp) _⟩
  have t1 : (x.b == y.b) = true := by simpa using h1
  have H1 := Lib.hid h1
  clear h1
  go_enter Tryz.func58, Tryz.ntmps58
  go_wp2
  go_ret
  exact ⟨eB_yes ⟨H0.out, H1.out⟩, ((Below.refl _ _).alloc (Nat.le_refl _) _).alloc (by simp) _⟩
/-! slices -/
theorem count (A : Option Addr) (n c : Nat) (left : Int) (w : World) (hn : n ≤ 9223372036854775807) (h0 : 0 ≤ left) (h1 : left ≤ 1048576) :
    Calls Tryz.prog 12 #[.slice A n c, .int .i64 left] w fun e w' => e = .returned (.int .i64 (if left < n then -1 else left - n)) ∧ w = w' := by
  by_cases h : left < n
  · rw [if_pos h]
    have t : decide (left - (n : Int) < 0) = true := decide_eq_true (by omega)
    go_enter Tryz.func12, Tryz.ntmps12
    go_wp2
    go_ret
    exact ⟨rfl, rfl⟩
  · rw [if_neg h]
    have t : decide (left - (n : Int) < 0) = false := decide_eq_false (by omega)
    go_enter Tryz.func12, Tryz.ntmps12
    go_wp2
    go_ret
    exact ⟨rfl, rfl⟩
set_option maxRecDepth 100000 in
set_option maxHeartbeats 800000 in
theorem same {w : World} {B n c c2 : Nat} {A A2 : Option Addr} {l : List E2} (hn : n ≤ 140737488355328) (h1 : Vs w B A n l) (h2 : Vs w B A2 n l) (hB : B ≤ w.heap.size) :
    Calls Tryz.prog 34 #[.slice A n c, .slice A2 n c2] w fun e w' => e = .returned (.bool true) ∧ Below w.heap.size w w' := by
  have H1 := Lib.hid h1
  have H2 := Lib.hid h2
  clear h1 h2
  go_enter Tryz.func34, Tryz.ntmps34
  go_wp2
  go_loopw [5] (fun i wr => ∃ k : Nat, k ≤ n ∧ i = .int .i64 k ∧ Below w.heap.size w wr) (fun i _ => n - (intOf i).toNat)
  case atStart => exact ⟨0, by omega, rfl, Below.refl _ _⟩
  case round =>
    obtain ⟨k, hk, rfl, hb⟩ := hrel
    by_cases hlt : k < n
    · obtain ⟨b, o, x, rfl, hbB, hx, a0, a1⟩ := (H1.out.below (below_le hb hB)).at_ hlt
      obtain ⟨b', o', x', rfl, hbB', hx', b0, b1⟩ := (H2.out.below (below_le hb hB)).at_ hlt
      obtain rfl : x = x' := by rw [hx] at hx'; exact Option.some.inj hx'
      have HB := Lib.hid hb
      clear hb hx hx'
      have hd : eB x x = true := decide_eq_true rfl
      have HD := Lib.hid hd
      clear hd
      go_wp2_with fail
      go_still_tail 8, (by kernel_rfl)
      change wpList _ _ _ _ _ wr.drew
      go_wp2_with fail
      refine (eq_one x x _).mono ?_
      rintro e W1 ⟨rfl, hb1⟩
      rw [HD.out]
      have HB1 := Lib.hid hb1
      clear hb1
      go_wp2_with fail
      go_roundw
      case rel => exact ⟨k + 1, by omega, by go_num, HB.out.drew.trans (HB1.out.mono HB.out.size)⟩
      case measure => simp [intOf]; omega
    · go_wp2
      go_ret
      exact ⟨rfl, hb⟩
theorem info_el : (Tryz.prog.info? 62).map (fun i => (i.zero, i.size, i.bytes)) = some (some (.agg #[.int .i64 0, .int .i64 0]), 2, 16) := by kernel_rfl
theorem make_els (n : Nat) (hn : n ≤ 2097152) (w : World) :
    (Instr.makeSlice 37 (.int .i64 (n : Int)) (.int .i64 (n : Int))).run Tryz.prog w = .ok (.slice (some ⟨w.heap.size, 0, none⟩) n n) (w.alloc (.cells (madeCells #[.int .i64 0, .int .i64 0] (n * 2)) 62)) := by
  obtain ⟨i0, hi, hz0, hz1, hz2⟩ := info_parts info_el
  have hr := run_make (P := Tryz.prog) w 37 62 i0 _ Tryz.underlying37 hi hz0 .i64 .i64 n n (by omega) (by omega) (by rw [hz2]; omega) (by omega)
  simp only [Int.toNat_natCast, hz1, Value.cells] at hr
  exact hr
set_option maxRecDepth 100000 in
set_option maxHeartbeats 800000 in
theorem copied {w : World} {B n c : Nat} {A : Option Addr} {l : List E2} (hn : n ≤ 2097152) (h1 : Vs w B A n l) (hB : B ≤ w.heap.size) :
    Calls Tryz.prog 24 #[.slice A n c] w (Copied 62 n l w) := by
  have H1 := Lib.hid h1
  have hmk := make_els n hn w
  clear h1
  go_enter Tryz.func24, Tryz.ntmps24
  go_wp2
  obtain ⟨N, hN⟩ : ∃ N, N = w.heap.size := ⟨_, rfl⟩
  have hR0 := Row.made 62 w n l
  have hb0 := new1 w (.cells (madeCells #[.int .i64 0, .int .i64 0] (n * 2)) 62)
  rw [← hN] at hR0
  simp only [← hN]
  generalize w.alloc (.cells (madeCells #[.int .i64 0, .int .i64 0] (n * 2)) 62) = w0 at hR0 hb0 ⊢
  have hN2 : w.heap.size ≤ N := by omega
  clear hN hmk
  go_loopw [4] (fun i wr => ∃ k : Nat, k ≤ n ∧ i = .int .i64 k ∧ Row 62 wr N n l k ∧ Below w.heap.size w wr) (fun i _ => n - (intOf i).toNat)
  case atStart => exact ⟨0, by omega, rfl, hR0, hb0⟩
  case round =>
    obtain ⟨k, hk, rfl, hR, hb⟩ := hrel
    have hNl := hR.lt
    by_cases hlt : k < n
    · obtain ⟨b, o, x, rfl, hbB, hx, a0, a1⟩ := (H1.out.below (below_le hb hB)).at_ hlt
      have HB := Lib.hid hb
      have HR := Lib.hid hR
      have HX := Lib.hid hx
      clear hb hx hR hR0 hb0
      go_wp2_with fail
      refine (to_one x _).mono ?_
      rintro e W1 ⟨rfl, hb1⟩
      have hR1 := HR.out.below hb1 hNl
      obtain ⟨u0, c0⟩ := hR1.cell (i := k * 2) (by omega)
      have f0 := hR1.frozen (k * 2)
      obtain ⟨u1, c1⟩ := hR1.cell (i := k * 2 + 1) (by omega)
      have f1 := hR1.frozen (k * 2 + 1)
      have HR1 := Lib.hid hR1
      have HB1 := Lib.hid hb1
      clear hR1 hb1
      go_wp2_with fail
      go_roundw
      case rel => exact ⟨k + 1, by omega, by go_num, HR1.out.set hlt HX.out, ((HB.out.trans (HB1.out.mono HB.out.size)).setCell hN2 _).setCell hN2 _⟩
      case measure => simp [intOf]; omega
    · obtain rfl : k = n := by omega
      have HB := Lib.hid hb
      have HR := Lib.hid hR
      clear hb hR hR0 hb0
      go_wp2
      go_ret
      exact ⟨N, rfl, hN2, hNl, HR.out, HB.out⟩
/-! the marks -/
/-! a law's argument -/
section
variable {H : Type} {enc : TypeId × Value → H} {w : World} {base : Nat} {spare : Nat → Bool} {held : Bool}
set_option maxRecDepth 100000 in
theorem cells_of {fuel : Nat} {cs : List Value} {x : DataW H × List MemPlace} (h : DataW.trod enc Tryz.prog w base spare held fuel 94 cs = some x) :
    ∃ v : E2, cs = [.int .i64 v.a, .int .i64 v.b] := by
  obtain ⟨xs, n, _, _, hlen, hxl, hf⟩ := DataW.trod_struct Tryz.underlying94 h
  have hC : Tryz.prog.cellsOf 94 = 2 := by kernel_rfl
  rw [hC] at hlen
  match cs, hlen with
  | [c0, c1], _ =>
    match xs, hxl with
    | [y0, y1], _ =>
      have g0 := hf 0 _ rfl
      have g1 := hf 1 _ rfl
      obtain ⟨a, ha, _, _⟩ := DataW.trod_int (cs := [c0]) Tryz.underlying3 g0
      obtain ⟨b, hb, _, _⟩ := DataW.trod_int (cs := [c1]) Tryz.underlying3 g1
      simp only [List.cons.injEq, and_true] at ha hb
      exact ⟨⟨a, b⟩, by rw [ha, hb]⟩
set_option maxRecDepth 100000 in
theorem open_one {r : Reach} {b0 : Nat} {v : Value} {d : DataW H} {p : List MemPlace} (hv : Value.okWide Tryz.prog w r b0 94 v) (h : DataW.Trod enc Tryz.prog w base spare held 94 v d p) :
    ∃ x : E2, v = .agg #[.int .i64 x.a, .int .i64 x.b] := by
  obtain ⟨cs, rfl, hsz⟩ := okWide_struct Tryz.underlying94 hv
  obtain ⟨l⟩ := cs
  obtain ⟨fuel, hf⟩ := h
  obtain ⟨x, hx⟩ := cells_of hf
  refine ⟨x, ?_⟩
  have : l = [.int .i64 x.a, .int .i64 x.b] := hx
  rw [this]
theorem cell_lt {a : Addr} {v : Value} (h : w.cell? a = some v) : a.block < w.heap.size := by
  rcases Nat.lt_or_ge a.block w.heap.size with h' | h'
  · exact h'
  · simp [World.cell?, Array.getElem?_eq_none h'] at h
set_option maxRecDepth 100000 in
theorem open_row {fuel : Nat} {x : DataW H × List MemPlace} {A : Option Addr} {len cap : Nat} (hf : DataW.trod enc Tryz.prog w base spare held fuel 27 [.slice A len cap] = some x) :
    ∃ l : List E2, Vs w w.heap.size A len l ∧ len ≤ maxLen := by
  rcases open_slice Tryz.underlying27 hf with ⟨hcs, _⟩ | ⟨a, len', cap', m, n, D, Pl, hcs, _, hl, hm, hmm, _, hi⟩
  · simp at hcs
    obtain ⟨rfl, rfl, rfl⟩ := hcs
    exact ⟨[], Vs.nil_ _ _ _, by unfold maxLen; omega⟩
  · simp at hcs
    obtain ⟨rfl, rfl, rfl⟩ := hcs
    have hC : Tryz.prog.cellsOf 94 = 2 := by kernel_rfl
    rw [hC] at hi
    have hle : len ≤ m := by rw [hmm]; split <;> omega
    obtain ⟨b, o, sp⟩ := a
    have hsp0 : 0 < len → sp = none := fun h0 => by
      obtain ⟨cs', hc, ht⟩ := hi 0 (by omega)
      obtain ⟨x, rfl⟩ := cells_of ht
      obtain ⟨_, _, hat⟩ := World.cells?_some hc
      have k0 := hat 0 (by omega)
      exact World.cell?_spot k0
    have hone : ∀ i, i < len → ∃ x : E2, sp = none ∧ b < w.heap.size ∧ At w b (o + i * 2) x := by
      intro i hil
      obtain ⟨cs', hc, ht⟩ := hi i (by omega)
      obtain ⟨x, rfl⟩ := cells_of ht
      obtain ⟨_, _, hat⟩ := World.cells?_some hc
      have k0 := hat 0 (by omega)
      have k1 := hat 1 (by omega)
      rw [add_add] at k0 k1
      have hsp : sp = none := hsp0 (by omega)
      subst hsp
      have e : ∀ j, (⟨b, o, none⟩ : Addr).add j = ⟨b, o + j, none⟩ := fun j => by unfold Addr.add; split <;> simp_all
      rw [e] at k0 k1
      refine ⟨x, rfl, cell_lt k0, ?_⟩
      refine ⟨?_, ?_⟩
      · simpa using k0
      · simpa [Nat.add_assoc] using k1
    rcases Nat.eq_zero_or_pos len with h0 | h0
    · subst h0
      exact ⟨[], Vs.nil_ _ _ _, by omega⟩
    · have hsp := (hone 0 h0).choose_spec.1
      have hbl := (hone 0 h0).choose_spec.2.1
      subst hsp
      have hone' : ∀ i : Fin len, ∃ x : E2, At w b (o + i.val * 2) x := fun i => ⟨_, (hone i.val i.isLt).choose_spec.2.2⟩
      refine ⟨List.ofFn fun i => (hone' i).choose, ⟨by simp, fun _ => ⟨b, o, rfl, hbl, fun k x hx => ?_⟩⟩, by omega⟩
      have hk : k < len := by
        rcases Nat.lt_or_ge k len with h' | h'
        · exact h'
        · rw [List.getElem?_eq_none (by simpa using h')] at hx; cases hx
      rw [List.getElem?_eq_getElem (by simpa using hk)] at hx
      simp only [List.getElem_ofFn, Option.some.injEq] at hx
      rw [← hx]
      exact (hone' ⟨k, hk⟩).choose_spec
theorem open_slice1 {A : Option Addr} {len cap : Nat} {d : DataW H} {p : List MemPlace} (h : DataW.Trod enc Tryz.prog w base spare held 27 (.slice A len cap) d p) :
    ∃ l : List E2, Vs w w.heap.size A len l ∧ len ≤ maxLen := by
  obtain ⟨fuel, hf⟩ := h
  exact open_row hf
end
end Go.Proofs.YtjnlbhmddhpmaaaGreat.rWait
