/- NewEngine of the program and of the model: what each answers. -/
import Derived.Test.YtjnlbhmddhpmaaaEg
import Derived.Test.YtjnlbhmddhpmaaaNew
namespace Go.Proofs.Ytjnlbhmddhpmaaa.newe
open Go.ChangeShapes Go.WideShapes Go.ChangeAt Go.RowKit
open Go.Proofs.Ytjnlbhmddhpmaaa.el2 Go.Proofs.Ytjnlbhmddhpmaaa.fr Go.Proofs.Ytjnlbhmddhpmaaa.ow2 Go.Proofs.Ytjnlbhmddhpmaaa.ts Go.Proofs.Ytjnlbhmddhpmaaa.tl Go.Proofs.Ytjnlbhmddhpmaaa.ego Go.Proofs.Ytjnlbhmddhpmaaa.eg
open Go.Proofs.Ytjnlbhmddhpmaaa.mkr (Tr)
open Go.Proofs.Ytjnlbhmddhpmaaa.sl (Ver)
open Go.Proofs.Ytjnlbhmddhpmaaa.st (Rs RR cnt)
open Go.Proofs.Ytjnlbhmddhpmaaa.new (ns ns_len ns_cnt)
set_option linter.unusedVariables false
set_option linter.unusedSimpArgs false
set_option maxRecDepth 100000 in
theorem open_b {H : Type} {enc : TypeId × Value → H} {w : World} {base : Nat} {spare : Nat → Bool} {held : Bool} {r : Reach} {b0 : Nat} {v : Value} {d : DataW H} {p : List MemPlace} (hv : Value.okWide Try.prog w r b0 4 v) (h : DataW.Trod enc Try.prog w base spare held 4 v d p) : ∃ q, v = .bool q := okWide_bool Try.underlying4 hv
theorem er_new {w : World} {B : Nat} {A : Option Addr} (h : Rs w B A 6 ns) : ER w B A 6 ns none 0 [] none 0 [] none 0 [] := ⟨h, Ts.nil_ _ _ _ _, Vs.nil_ _ _ _, Vs.nil_ _ _ _⟩
theorem eo_new {w : World} {lo hi : Nat} {A : Option Addr} (h : SO w lo hi A 6 ns) : EO w lo hi A 6 ns none 0 [] none 0 [] none 0 [] := ⟨h, OwL.nil_ _ _ _ _, OwS.nil_ _ _ _ _ _, OwS.nil_ _ _ _ _ _⟩
theorem spec_newe (q : Bool) (w : World) : Calls Try.prog 9 #[.bool q] w fun e w' => ∃ A c, e = .returned (.agg #[.bool q, .slice A 6 c, .slice none 0 0, .slice none 0 0, .slice none 0 0, .int .i64 0]) ∧ EF w' w.heap.size w'.heap.size A 6 ns none 0 [] none 0 [] none 0 [] ∧ Below w.heap.size w w' := by
  have r1 := World.rowIs_alloc w #[.bool false, .slice none 0 0, .slice none 0 0, .slice none 0 0, .slice none 0 0, .int .i64 0] 29 (ef false (.slice none 0 0) (.slice none 0 0) (.slice none 0 0) (.slice none 0 0) 0) (six_e _ _ _ _ _ _)
  have hn := new1 w (.cells #[.bool false, .slice none 0 0, .slice none 0 0, .slice none 0 0, .slice none 0 0, .int .i64 0] 29)
  have hz : (w.alloc (.cells #[.bool false, .slice none 0 0, .slice none 0 0, .slice none 0 0, .slice none 0 0, .int .i64 0] 29)).heap.size = w.heap.size + 1 := by simp
  go_enter Try.func9, Try.ntmps9
  go_wp2_with fail
  generalize w.alloc _ = W0 at r1 hn hz ⊢
  have R0 := Lib.hid r1
  have HN := Lib.hid hn
  clear r1 hn
  refine (Go.Proofs.Ytjnlbhmddhpmaaa.new.spec_new2 _).mono ?_
  rintro e W ⟨A, c, rfl, hr, hb⟩
  have hs := hb.size
  have R1 := Lib.hid (R0.out.of_block (hb.block _ (by omega)))
  have HB := Lib.hid (HN.out.trans (hb.mono HN.out.size))
  have HR := Lib.hid hr
  clear hr hb
  have y0 : W.cell? ⟨w.heap.size, 0, none⟩ = some (.bool false) := R1.out.cell (show 0 < 6 by decide)
  have x0 := R1.out.frozen 0
  have y1 : W.cell? ⟨w.heap.size, 1, none⟩ = some (.slice none 0 0) := R1.out.cell (show 1 < 6 by decide)
  have x1 := R1.out.frozen 1
  have y2 : W.cell? ⟨w.heap.size, 2, none⟩ = some (.slice none 0 0) := R1.out.cell (show 2 < 6 by decide)
  have x2 := R1.out.frozen 2
  have y3 : W.cell? ⟨w.heap.size, 3, none⟩ = some (.slice none 0 0) := R1.out.cell (show 3 < 6 by decide)
  have x3 := R1.out.frozen 3
  have y4 : W.cell? ⟨w.heap.size, 4, none⟩ = some (.slice none 0 0) := R1.out.cell (show 4 < 6 by decide)
  have x4 := R1.out.frozen 4
  have y5 : W.cell? ⟨w.heap.size, 5, none⟩ = some (.int .i64 0) := R1.out.cell (show 5 < 6 by decide)
  have x5 := R1.out.frozen 5
  go_wp2_with fail
  have r1 := ((((((R1.out.set 0 (.bool q)).set 1 (.slice A 6 c)).set 2 (.slice none 0 0)).set 3 (.slice none 0 0)).set 4 (.slice none 0 0)).set 5 (.int .i64 0))
  have hb := ((((((HB.out.setCell (p := ⟨w.heap.size, 0, none⟩) (by simp) (.bool q)).setCell (p := ⟨w.heap.size, 1, none⟩) (by simp) (.slice A 6 c)).setCell (p := ⟨w.heap.size, 2, none⟩) (by simp) (.slice none 0 0)).setCell (p := ⟨w.heap.size, 3, none⟩) (by simp) (.slice none 0 0)).setCell (p := ⟨w.heap.size, 4, none⟩) (by simp) (.slice none 0 0)).setCell (p := ⟨w.heap.size, 5, none⟩) (by simp) (.int .i64 0))
  have hq : (World.setCell (World.setCell (World.setCell (World.setCell (World.setCell (World.setCell W ⟨w.heap.size, 0, none⟩ (.bool q)) ⟨w.heap.size, 1, none⟩ (.slice A 6 c)) ⟨w.heap.size, 2, none⟩ (.slice none 0 0)) ⟨w.heap.size, 3, none⟩ (.slice none 0 0)) ⟨w.heap.size, 4, none⟩ (.slice none 0 0)) ⟨w.heap.size, 5, none⟩ (.int .i64 0)).heap.size = W.heap.size := by simp
  have hk : ∀ k, w.heap.size + 1 ≤ k → (World.setCell (World.setCell (World.setCell (World.setCell (World.setCell (World.setCell W ⟨w.heap.size, 0, none⟩ (.bool q)) ⟨w.heap.size, 1, none⟩ (.slice A 6 c)) ⟨w.heap.size, 2, none⟩ (.slice none 0 0)) ⟨w.heap.size, 3, none⟩ (.slice none 0 0)) ⟨w.heap.size, 4, none⟩ (.slice none 0 0)) ⟨w.heap.size, 5, none⟩ (.int .i64 0)).heap[k]? = W.heap[k]? := fun k hk => by rw [Below.heap_setCell _ _ _ _ (by simp; omega), Below.heap_setCell _ _ _ _ (by simp; omega), Below.heap_setCell _ _ _ _ (by simp; omega), Below.heap_setCell _ _ _ _ (by simp; omega), Below.heap_setCell _ _ _ _ (by simp; omega), Below.heap_setCell _ _ _ _ (by simp; omega)]
  generalize ((((((W.setCell _ _).setCell _ _).setCell _ _).setCell _ _).setCell _ _).setCell _ _) = WF at r1 hb hq hk ⊢
  have e0 : WF.cell? ⟨w.heap.size, 0, none⟩ = some (.bool q) := r1.cell (show 0 < 6 by decide)
  have e1 : WF.cell? ⟨w.heap.size, 1, none⟩ = some (.slice A 6 c) := r1.cell (show 1 < 6 by decide)
  have e2 : WF.cell? ⟨w.heap.size, 2, none⟩ = some (.slice none 0 0) := r1.cell (show 2 < 6 by decide)
  have e3 : WF.cell? ⟨w.heap.size, 3, none⟩ = some (.slice none 0 0) := r1.cell (show 3 < 6 by decide)
  have e4 : WF.cell? ⟨w.heap.size, 4, none⟩ = some (.slice none 0 0) := r1.cell (show 4 < 6 by decide)
  have e5 : WF.cell? ⟨w.heap.size, 5, none⟩ = some (.int .i64 0) := r1.cell (show 5 < 6 by decide)
  exact bodyPost_ret (v := .agg #[.bool q, .slice A 6 c, .slice none 0 0, .slice none 0 0, .slice none 0 0, .int .i64 0]) (by simp [results, Try.results9, go_sem, e0, e1, e2, e3, e4, e5]) rfl ⟨_, _, rfl, ⟨fun w2 h2 hk2 => er_new (HR.out w2 (by omega) fun k h1 h3 => (hk2 k (by omega) (by omega)).trans (hk k (by omega)))⟩, hb⟩
theorem impl_newe (q : Bool) (w : World) : Calls Try.prog 10 #[.bool q] w fun e w' => ∃ A c, e = .returned (.agg #[.bool q, .slice A 6 c, .slice none 0 0, .slice none 0 0, .slice none 0 0, .int .i64 0]) ∧ EO w' w.heap.size w'.heap.size A 6 ns none 0 [] none 0 [] none 0 [] ∧ ER w' w'.heap.size A 6 ns none 0 [] none 0 [] none 0 [] ∧ Below w.heap.size w w' := by
  have r1 := World.rowIs_alloc w #[.bool false, .slice none 0 0, .slice none 0 0, .slice none 0 0, .slice none 0 0, .int .i64 0] 29 (ef false (.slice none 0 0) (.slice none 0 0) (.slice none 0 0) (.slice none 0 0) 0) (six_e _ _ _ _ _ _)
  have hn := new1 w (.cells #[.bool false, .slice none 0 0, .slice none 0 0, .slice none 0 0, .slice none 0 0, .int .i64 0] 29)
  have hz : (w.alloc (.cells #[.bool false, .slice none 0 0, .slice none 0 0, .slice none 0 0, .slice none 0 0, .int .i64 0] 29)).heap.size = w.heap.size + 1 := by simp
  go_enter Try.func10, Try.ntmps10
  go_wp2_with fail
  generalize w.alloc _ = W0 at r1 hn hz ⊢
  have R0 := Lib.hid r1
  have HN := Lib.hid hn
  clear r1 hn
  refine (Go.Proofs.Ytjnlbhmddhpmaaa.new.impl_new _).mono ?_
  rintro e W ⟨N, rfl, hN, hr, hb⟩
  have hs := hb.size
  have R1 := Lib.hid (R0.out.of_block (hb.block _ (by omega)))
  have HB := Lib.hid (HN.out.trans (hb.mono HN.out.size))
  have hso : SO W (w.heap.size + 1) W.heap.size (some ⟨N, 0, none⟩) 6 ns := SO.of_rr hr ns_len (by omega) (Nat.le_refl _) (by rw [ns_cnt]; omega)
  have HR := Lib.hid hso
  clear hr hb hso hN
  have y0 : W.cell? ⟨w.heap.size, 0, none⟩ = some (.bool false) := R1.out.cell (show 0 < 6 by decide)
  have x0 := R1.out.frozen 0
  have y1 : W.cell? ⟨w.heap.size, 1, none⟩ = some (.slice none 0 0) := R1.out.cell (show 1 < 6 by decide)
  have x1 := R1.out.frozen 1
  have y2 : W.cell? ⟨w.heap.size, 2, none⟩ = some (.slice none 0 0) := R1.out.cell (show 2 < 6 by decide)
  have x2 := R1.out.frozen 2
  have y3 : W.cell? ⟨w.heap.size, 3, none⟩ = some (.slice none 0 0) := R1.out.cell (show 3 < 6 by decide)
  have x3 := R1.out.frozen 3
  have y4 : W.cell? ⟨w.heap.size, 4, none⟩ = some (.slice none 0 0) := R1.out.cell (show 4 < 6 by decide)
  have x4 := R1.out.frozen 4
  have y5 : W.cell? ⟨w.heap.size, 5, none⟩ = some (.int .i64 0) := R1.out.cell (show 5 < 6 by decide)
  have x5 := R1.out.frozen 5
  go_wp2_with fail
  have r1 := ((((((R1.out.set 0 (.bool q)).set 1 (.slice (some ⟨N, 0, none⟩) 6 6)).set 2 (.slice none 0 0)).set 3 (.slice none 0 0)).set 4 (.slice none 0 0)).set 5 (.int .i64 0))
  have hb := ((((((HB.out.setCell (p := ⟨w.heap.size, 0, none⟩) (by simp) (.bool q)).setCell (p := ⟨w.heap.size, 1, none⟩) (by simp) (.slice (some ⟨N, 0, none⟩) 6 6)).setCell (p := ⟨w.heap.size, 2, none⟩) (by simp) (.slice none 0 0)).setCell (p := ⟨w.heap.size, 3, none⟩) (by simp) (.slice none 0 0)).setCell (p := ⟨w.heap.size, 4, none⟩) (by simp) (.slice none 0 0)).setCell (p := ⟨w.heap.size, 5, none⟩) (by simp) (.int .i64 0))
  have hq : (World.setCell (World.setCell (World.setCell (World.setCell (World.setCell (World.setCell W ⟨w.heap.size, 0, none⟩ (.bool q)) ⟨w.heap.size, 1, none⟩ (.slice (some ⟨N, 0, none⟩) 6 6)) ⟨w.heap.size, 2, none⟩ (.slice none 0 0)) ⟨w.heap.size, 3, none⟩ (.slice none 0 0)) ⟨w.heap.size, 4, none⟩ (.slice none 0 0)) ⟨w.heap.size, 5, none⟩ (.int .i64 0)).heap.size = W.heap.size := by simp
  have hk : ∀ k, w.heap.size + 1 ≤ k → (World.setCell (World.setCell (World.setCell (World.setCell (World.setCell (World.setCell W ⟨w.heap.size, 0, none⟩ (.bool q)) ⟨w.heap.size, 1, none⟩ (.slice (some ⟨N, 0, none⟩) 6 6)) ⟨w.heap.size, 2, none⟩ (.slice none 0 0)) ⟨w.heap.size, 3, none⟩ (.slice none 0 0)) ⟨w.heap.size, 4, none⟩ (.slice none 0 0)) ⟨w.heap.size, 5, none⟩ (.int .i64 0)).heap[k]? = W.heap[k]? := fun k hk => by rw [Below.heap_setCell _ _ _ _ (by simp; omega), Below.heap_setCell _ _ _ _ (by simp; omega), Below.heap_setCell _ _ _ _ (by simp; omega), Below.heap_setCell _ _ _ _ (by simp; omega), Below.heap_setCell _ _ _ _ (by simp; omega), Below.heap_setCell _ _ _ _ (by simp; omega)]
  generalize ((((((W.setCell _ _).setCell _ _).setCell _ _).setCell _ _).setCell _ _).setCell _ _) = WF at r1 hb hq hk ⊢
  have e0 : WF.cell? ⟨w.heap.size, 0, none⟩ = some (.bool q) := r1.cell (show 0 < 6 by decide)
  have e1 : WF.cell? ⟨w.heap.size, 1, none⟩ = some (.slice (some ⟨N, 0, none⟩) 6 6) := r1.cell (show 1 < 6 by decide)
  have e2 : WF.cell? ⟨w.heap.size, 2, none⟩ = some (.slice none 0 0) := r1.cell (show 2 < 6 by decide)
  have e3 : WF.cell? ⟨w.heap.size, 3, none⟩ = some (.slice none 0 0) := r1.cell (show 3 < 6 by decide)
  have e4 : WF.cell? ⟨w.heap.size, 4, none⟩ = some (.slice none 0 0) := r1.cell (show 4 < 6 by decide)
  have e5 : WF.cell? ⟨w.heap.size, 5, none⟩ = some (.int .i64 0) := r1.cell (show 5 < 6 by decide)
  have hF : FR 0 (w.heap.size + 1) W WF := ⟨by have := hb.os; have := HB.out.os; simp_all, by have := hb.tape; have := HB.out.tape; simp_all, by have := hb.output; have := HB.out.output; simp_all, Nat.le_of_eq hq.symm, fun k _ hh => hk k (by omega)⟩
  have hS := (HR.out.fr hF (.inr (by omega)) (Nat.le_refl _)).wide (show w.heap.size ≤ w.heap.size + 1 by omega) (Nat.le_of_eq hq.symm)
  exact bodyPost_ret (v := .agg #[.bool q, .slice (some ⟨N, 0, none⟩) 6 6, .slice none 0 0, .slice none 0 0, .slice none 0 0, .int .i64 0]) (by simp [results, Try.results10, go_sem, e0, e1, e2, e3, e4, e5]) rfl ⟨_, _, rfl, eo_new hS, er_new (hS.rs (Nat.le_refl _) (by rw [ns_cnt]; omega)), hb⟩
end Go.Proofs.Ytjnlbhmddhpmaaa.newe
