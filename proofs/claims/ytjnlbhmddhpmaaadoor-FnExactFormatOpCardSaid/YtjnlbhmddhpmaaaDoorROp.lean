/- The law's own helpers over Op and slices of them: how much they count, the copy, the comparison, the marks; opening an argument. Nothing that was there is written. -/
import Derived.Test.YtjnlbhmddhpmaaaDoorEl6
import Derived.WalkKit
import Derived.ProofKit
import Derived.OpenShut
import Derived.ChangeOld
import Derived.Below
import Derived.Carry
import Derived.Lib.Hide
import Derived.LoopTactic
import Derived.Deep.QuietTactic
import Derived.BigQuiet
import Derived.StillTailTactics
import Derived.Outline
import Derived.IntWalk
import Derived.Deep.OwnRows
import Derived.Deep.Slices
import Derived.Deep.DeepHandedRow
import Derived.Laws.MakeOwn
import Derived.Laws.Entries
namespace Go.Proofs.YtjnlbhmddhpmaaaDoor.rOp
open Go.ChangeShapes Go.WideShapes Go.ChangeAt Go.RowKit
open Go.Deep (open_slice add_add)
open Go.Proofs.YtjnlbhmddhpmaaaDoor.el6
set_option linter.unusedVariables false
set_option linter.unusedSimpArgs false
set_option linter.constructorNameAsVariable false
theorem to_one (x : E6) (w : World) :
    Calls Tryd.prog 12 #[.agg #[.int .i64 x.a, .int .i64 x.b, .int .i64 x.c, .int .i64 x.d, .int .i64 x.e, .int .i64 x.f]] w fun e w' => e = .returned (.agg #[.int .i64 x.a, .int .i64 x.b, .int .i64 x.c, .int .i64 x.d, .int .i64 x.e, .int .i64 x.f]) ∧ Below w.heap.size w w' := by
  go_enter Tryd.func12, Tryd.ntmps12
  go_wp2
  exact bodyPost_ret (v := .agg #[.int .i64 x.a, .int .i64 x.b, .int .i64 x.c, .int .i64 x.d, .int .i64 x.e, .int .i64 x.f]) (by simp [results, Tryd.results12, go_sem]) rfl ⟨rfl, (((Below.refl _ _).alloc (Nat.le_refl _) _).alloc (by simp) _).alloc (by simp; omega) _⟩
def eB (x y : E6) : Bool := decide (x = y)
theorem eB_yes {x y : E6} (h : x.a = y.a ∧ x.b = y.b ∧ x.c = y.c ∧ x.d = y.d ∧ x.e = y.e ∧ x.f = y.f) : Ending.returned (.bool true) = .returned (.bool (eB x y)) := by
  have : x = y := by cases x; cases y; simp_all
  rw [show eB x y = true from decide_eq_true this]
theorem eB_no {x y : E6} (h : ¬ (x.a = y.a ∧ x.b = y.b ∧ x.c = y.c ∧ x.d = y.d ∧ x.e = y.e ∧ x.f = y.f)) : Ending.returned (.bool false) = .returned (.bool (eB x y)) := by
  have : x ≠ y := fun e => h (by subst e; simp)
  rw [show eB x y = false from decide_eq_false this]
set_option maxHeartbeats 800000 in
theorem eq_one (x y : E6) (w : World) :
    Calls Tryd.prog 16 #[.agg #[.int .i64 x.a, .int .i64 x.b, .int .i64 x.c, .int .i64 x.d, .int .i64 x.e, .int .i64 x.f], .agg #[.int .i64 y.a, .int .i64 y.b, .int .i64 y.c, .int .i64 y.d, .int .i64 y.e, .int .i64 y.f]] w fun e w' => e = .returned (.bool (eB x y)) ∧ Below w.heap.size w w' := by
  by_cases h0 : x.a = y.a
  case neg =>
    have t0 : (x.a == y.a) = false := by simpa using h0
    go_enter Tryd.func16, Tryd.ntmps16
    go_wp2
    go_ret
    exact ⟨eB_no (by intro hh; omega), ((Below.refl _ _).alloc (Nat.le_refl _) _).alloc (by simp) _⟩
  have t0 : (x.a == y.a) = true := by simpa using h0
  have H0 := Lib.hid h0
  clear h0
  by_cases h1 : x.b = y.b
  case neg =>
    have t1 : (x.b == y.b) = false := by simpa using h1
    go_enter Tryd.func16, Tryd.ntmps16
    go_wp2
    go_ret
    exact ⟨eB_no (by intro hh; omega), ((Below.refl _ _).alloc (Nat.le_refl _) _).alloc (by simp) _⟩
  have t1 : (x.b == y.b) = true := by simpa using h1
  have H1 := Lib.hid h1
  clear h1
  by_cases h2 : x.c = y.c
  case neg =>
    have t2 : (x.c == y.c) = false := by simpa using h2
    go_enter Tryd.func16, Tryd.ntmps16
    go_wp2
    go_ret
    exact ⟨eB_no (by intro hh; omega), ((Below.refl _ _).alloc (Nat.le_refl _) _).alloc (by simp) _⟩
  have t2 : (x.c == y.c) = true := by simpa using h2
  have H2 := Lib.hid h2
  clear h2
  by_cases h3 : x.d = y.d
  case neg =>
    have t3 : (x.d == y.d) = false := by simpa using h3
    go_enter Tryd.func16, Tryd.ntmps16
    go_wp2
    go_ret
    exact ⟨eB_no (by intro hh; omega), ((Below.refl _ _).alloc (Nat.le_refl _) _).alloc (by simp) _⟩
  have t3 : (x.d == y.d) = true := by simpa using h3
  have H3 := Lib.hid h3
  clear h3
  by_cases h4 : x.e = y.e
  case neg =>
    have t4 : (x.e == y.e) = false := by simpa using h4
    go_enter Tryd.func16, Tryd.ntmps16
    go_wp2
    go_ret
    exact ⟨eB_no (by intro hh; omega), ((Below.refl _ _).alloc (Nat.le_refl _) _).alloc (by simp) _⟩
  have t4 : (x.e == y.e) = true := by simpa using h4
  have H4 := Lib.hid h4
  clear h4
  by_cases h5 : x.f = y.f
  case neg =>
    have t5 : (x.f == y.f) = false := by simpa using h5
    go_enter Tryd.func16, Tryd.ntmps16
    go_wp2
    go_ret
    exact ⟨eB_no (by intro hh; omega), ((Below.refl _ _).alloc (Nat.le_refl _) _).alloc (by simp) _⟩
  have t5 : (x.f == y.f) = true := by simpa using h5
  have H5 := Lib.hid h5
  clear h5
  go_enter Tryd.func16, Tryd.ntmps16
  go_wp2
  go_ret
  exact ⟨eB_yes ⟨H0.out, H1.out, H2.out, H3.out, H4.out, H5.out⟩, ((Below.refl _ _).alloc (Nat.le_refl _) _).alloc (by simp) _⟩
/-! slices -/
theorem info_el : (Tryd.prog.info? 34).map (fun i => (i.zero, i.size, i.bytes)) = some (some (.agg #[.int .i64 0, .int .i64 0, .int .i64 0, .int .i64 0, .int .i64 0, .int .i64 0]), 6, 48) := by kernel_rfl
/-! the marks -/
/-! a law's argument -/
section
variable {H : Type} {enc : TypeId × Value → H} {w : World} {base : Nat} {spare : Nat → Bool} {held : Bool}
set_option maxRecDepth 100000 in
theorem cells_of {fuel : Nat} {cs : List Value} {x : DataW H × List MemPlace} (h : DataW.trod enc Tryd.prog w base spare held fuel 32 cs = some x) :
    ∃ v : E6, cs = [.int .i64 v.a, .int .i64 v.b, .int .i64 v.c, .int .i64 v.d, .int .i64 v.e, .int .i64 v.f] := by
  obtain ⟨xs, n, _, _, hlen, hxl, hf⟩ := DataW.trod_struct Tryd.underlying32 h
  have hC : Tryd.prog.cellsOf 32 = 6 := by kernel_rfl
  rw [hC] at hlen
  match cs, hlen with
  | [c0, c1, c2, c3, c4, c5], _ =>
    match xs, hxl with
    | [y0, y1, y2, y3, y4, y5], _ =>
      have g0 := hf 0 _ rfl
      have g1 := hf 1 _ rfl
      have g2 := hf 2 _ rfl
      have g3 := hf 3 _ rfl
      have g4 := hf 4 _ rfl
      have g5 := hf 5 _ rfl
      obtain ⟨a, ha, _, _⟩ := DataW.trod_int (cs := [c0]) Tryd.underlying3 g0
      obtain ⟨b, hb, _, _⟩ := DataW.trod_int (cs := [c1]) Tryd.underlying3 g1
      obtain ⟨c, hc, _, _⟩ := DataW.trod_int (cs := [c2]) Tryd.underlying3 g2
      obtain ⟨d, hd, _, _⟩ := DataW.trod_int (cs := [c3]) Tryd.underlying3 g3
      obtain ⟨e, he, _, _⟩ := DataW.trod_int (cs := [c4]) Tryd.underlying3 g4
      obtain ⟨f, hf, _, _⟩ := DataW.trod_int (cs := [c5]) Tryd.underlying3 g5
      simp only [List.cons.injEq, and_true] at ha hb hc hd he hf
      exact ⟨⟨a, b, c, d, e, f⟩, by rw [ha, hb, hc, hd, he, hf]⟩
set_option maxRecDepth 100000 in
theorem open_one {r : Reach} {b0 : Nat} {v : Value} {d : DataW H} {p : List MemPlace} (hv : Value.okWide Tryd.prog w r b0 32 v) (h : DataW.Trod enc Tryd.prog w base spare held 32 v d p) :
    ∃ x : E6, v = .agg #[.int .i64 x.a, .int .i64 x.b, .int .i64 x.c, .int .i64 x.d, .int .i64 x.e, .int .i64 x.f] := by
  obtain ⟨cs, rfl, hsz⟩ := okWide_struct Tryd.underlying32 hv
  obtain ⟨l⟩ := cs
  obtain ⟨fuel, hf⟩ := h
  obtain ⟨x, hx⟩ := cells_of hf
  refine ⟨x, ?_⟩
  have : l = [.int .i64 x.a, .int .i64 x.b, .int .i64 x.c, .int .i64 x.d, .int .i64 x.e, .int .i64 x.f] := hx
  rw [this]
theorem cell_lt {a : Addr} {v : Value} (h : w.cell? a = some v) : a.block < w.heap.size := by
  rcases Nat.lt_or_ge a.block w.heap.size with h' | h'
  · exact h'
  · simp [World.cell?, Array.getElem?_eq_none h'] at h
end
end Go.Proofs.YtjnlbhmddhpmaaaDoor.rOp
