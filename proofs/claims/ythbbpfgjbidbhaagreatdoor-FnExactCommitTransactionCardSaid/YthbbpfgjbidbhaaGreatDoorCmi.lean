/- The program's CommitTransaction. -/
import Derived.Test.YthbbpfgjbidbhaaGreatDoorApl
import Derived.Test.YthbbpfgjbidbhaaGreatDoorXgb
import Derived.Test.YthbbpfgjbidbhaaGreatDoorRg
import Derived.Test.YthbbpfgjbidbhaaGreatDoorCl
import Derived.Deep.CutRange
import Derived.Deep.RegionHeld3
namespace Go.Proofs.YthbbpfgjbidbhaaGreatDoor.cmi
open Go.ChangeShapes Go.WideShapes Go.ChangeAt Go.RowKit
open Go.Proofs.YthbbpfgjbidbhaaGreatDoor.sl Go.Proofs.YthbbpfgjbidbhaaGreatDoor.st Go.Proofs.YthbbpfgjbidbhaaGreatDoor.flat Go.Proofs.YthbbpfgjbidbhaaGreatDoor.os Go.Proofs.YthbbpfgjbidbhaaGreatDoor.oq Go.Proofs.YthbbpfgjbidbhaaGreatDoor.av Go.Proofs.YthbbpfgjbidbhaaGreatDoor.oc Go.Proofs.YthbbpfgjbidbhaaGreatDoor.ist Go.Proofs.YthbbpfgjbidbhaaGreatDoor.cs Go.Proofs.YthbbpfgjbidbhaaGreatDoor.apl Go.Proofs.YthbbpfgjbidbhaaGreatDoor.rg
open Go.Proofs.YthbbpfgjbidbhaaGreatDoor.el2 (new1 E2)
open Go.Proofs.YthbbpfgjbidbhaaGreatDoor.tx (Hd TB)
open Go.Proofs.YthbbpfgjbidbhaaGreatDoor.bx (Bx OwnT CopO txv)
open Go.Proofs.YthbbpfgjbidbhaaGreatDoor.rx (LS)
set_option linter.unusedVariables false
set_option linter.unusedSimpArgs false
set_option linter.constructorNameAsVariable false
/-- the boxes of the arguments -/
def SL (w : World) (D : Option Addr) (N cN : Nat) (x : Hd) (A : Option Addr) (n c : Nat) (A2 : Option Addr) (n2 c2 : Nat) (V : World) : Prop := V.cell? ⟨w.heap.size, 0, none⟩ = some (.slice D N cN) ∧ V.cell? ⟨w.heap.size + 1, 0, none⟩ = some (.int .i64 x.i) ∧ V.cell? ⟨w.heap.size + 1, 1, none⟩ = some (.int .i64 x.s) ∧ V.cell? ⟨w.heap.size + 1, 2, none⟩ = some (.int .i64 x.t) ∧ V.cell? ⟨w.heap.size + 1, 3, none⟩ = some (.int .i64 x.b) ∧ V.cell? ⟨w.heap.size + 1, 4, none⟩ = some (.int .i64 x.l) ∧ V.cell? ⟨w.heap.size + 1, 5, none⟩ = some (.int .i64 x.h) ∧ V.cell? ⟨w.heap.size + 1, 6, none⟩ = some (.int .i64 x.c) ∧ V.cell? ⟨w.heap.size + 1, 7, none⟩ = some (.slice A n c) ∧ V.cell? ⟨w.heap.size + 1, 8, none⟩ = some (.slice A2 n2 c2)
section
variable {w V V' : World} {D A A2 : Option Addr} {N cN n c n2 c2 : Nat} {x : Hd} {p : Addr} {u : Value} {o : Obj}
theorem SL.of_blocks (h : SL w D N cN x A n c A2 n2 c2 V) (h0 : V'.heap[w.heap.size]? = V.heap[w.heap.size]?) (h1 : V'.heap[w.heap.size + 1]? = V.heap[w.heap.size + 1]?) : SL w D N cN x A n c A2 n2 c2 V' := by
  obtain ⟨a, t⟩ := h
  exact ⟨(World.cell?_of_block (a := ⟨w.heap.size, 0, none⟩) h0).trans a, TB.of_block (b := w.heap.size + 1) (x := x) (u := .slice A n c) (v := .slice A2 n2 c2) t h1⟩
theorem keepA (hs : w.heap.size + 2 ≤ V.heap.size) (h : SL w D N cN x A n c A2 n2 c2 V) : SL w D N cN x A n c A2 n2 c2 (V.alloc o) := h.of_blocks ((new1 V o).block _ (by omega)) ((new1 V o).block _ (by omega))
theorem keepC (hb : Below V.heap.size V V') (hs : w.heap.size + 2 ≤ V.heap.size) (h : SL w D N cN x A n c A2 n2 c2 V) : SL w D N cN x A n c A2 n2 c2 V' := h.of_blocks (hb.block _ (by omega)) (hb.block _ (by omega))
theorem keepS (hs : w.heap.size + 2 ≤ p.block) (h : SL w D N cN x A n c A2 n2 c2 V) : SL w D N cN x A n c A2 n2 c2 (V.setCell p u) := h.of_blocks (Below.heap_setCell V p u _ (by omega)) (Below.heap_setCell V p u _ (by omega))
theorem keepD (h : SL w D N cN x A n c A2 n2 c2 V) : SL w D N cN x A n c A2 n2 c2 V.drew := h
end
/-- what a commit hands back -/
def CmR (w : World) (N n n2 : Nat) (R S : List E2) (CF : List (List Ver)) (y : Hd) (ok : Bool) (e : Ending) (w' : World) : Prop :=
  ∃ A' c' A2 c2 B2 d2, e = .returned (.tuple #[.agg #[.slice A' N c'], .agg #[.int .i64 y.i, .int .i64 y.s, .int .i64 y.t, .int .i64 y.b, .int .i64 y.l, .int .i64 y.h, .int .i64 y.c, .slice A2 n c2, .slice B2 n2 d2], .bool ok]) ∧ OS w' w.heap.size (.slice A' N c') N CF ∧ OwnT w' w.heap.size (.slice A2 n c2) n R (.slice B2 n2 d2) n2 S ∧ Below w.heap.size w w'
set_option maxRecDepth 100000 in
set_option maxHeartbeats 12800000 in
theorem impl_commit {w : World} {B N cN n c n2 c2 : Nat} {D A A2 : Option Addr} {R S : List E2} {C : List (List Ver)} (x : Hd) (z : Int) (hN : N ≤ 1048576) (hC : ∀ l ∈ C, l.length ≤ 1048576) (hn : n ≤ 1048576) (hn2 : n2 ≤ 1048576) (h1 : el2.Vs w B A n R) (h2 : el2.Vs w B A2 n2 S) (h3 : Rs w B D N C) (hB : B ≤ w.heap.size) (hE : Go.Proofs.YthbbpfgjbidbhaaGreatDoor.crm.Ev w) :
    Calls Tryz.prog 9 #[.agg #[.slice D N cN], .agg #[.int .i64 x.i, .int .i64 x.s, .int .i64 x.t, .int .i64 x.b, .int .i64 x.l, .int .i64 x.h, .int .i64 x.c, .slice A n c, .slice A2 n2 c2], .int .i64 z] w (CmR w N n n2 R S (Go.Proofs.YthbbpfgjbidbhaaGreatDoor.ct.cmC C x R S z) (Go.Proofs.YthbbpfgjbidbhaaGreatDoor.ct.cmX C x R S z) (Go.Proofs.YthbbpfgjbidbhaaGreatDoor.ct.cmB C x R S z)) := by
  have H1 := Lib.hid h1
  have H2 := Lib.hid h2
  have H3 := Lib.hid h3
  have HC := Lib.hid hC
  have HE := Lib.hid hE
  have HCs := Lib.hid (fun (V : World) (hb : Below w.heap.size w V) => impl_copys (w := V) (cN := cN) (show N ≤ 2097152 by omega) (fun l hl => Nat.le_trans (hC l hl) (by omega)) (h3.below (Go.Proofs.YthbbpfgjbidbhaaGreatDoor.el2.below_le hb hB)) (Nat.le_trans hB hb.size))
  have HCt := Lib.hid (fun (V : World) (hb : Below w.heap.size w V) => Go.Proofs.YthbbpfgjbidbhaaGreatDoor.cl.copy_t (w := V) (c := c) (c2 := c2) x (show n ≤ 2097152 by omega) (show n2 ≤ 2097152 by omega) (h1.below (Go.Proofs.YthbbpfgjbidbhaaGreatDoor.el2.below_le hb hB)) (h2.below (Go.Proofs.YthbbpfgjbidbhaaGreatDoor.el2.below_le hb hB)) (Nat.le_trans hB hb.size))
  have HLR := Lib.hid h1.1
  have HLS := Lib.hid h2.1
  clear h1 h2 h3 hC hE
  go_enter Tryz.func9, Tryz.ntmps9
  go_wp2_with fail
  have hL := LS.mk2 w (.slice D N cN) 33 37 x A n c A2 n2 c2
  have hs0 : ((w.alloc (.cells #[.slice D N cN] 33)).alloc (.cells #[.int .i64 x.i, .int .i64 x.s, .int .i64 x.t, .int .i64 x.b, .int .i64 x.l, .int .i64 x.h, .int .i64 x.c, .slice A n c, .slice A2 n2 c2] 37)).heap.size = w.heap.size + 2 := by simp
  generalize ((w.alloc _).alloc _) = W0 at hL hs0 ⊢
  have hz0 : SBx w ((W0.alloc (.cells #[.slice none 0 0] 33)).alloc (.cells #[.int .i64 0, .int .i64 0, .int .i64 0, .int .i64 0, .int .i64 0, .int .i64 0, .int .i64 0, .slice none 0 0, .slice none 0 0] 37)) (w.heap.size + 1 + 1) (.slice none 0 0) := (SBx.zero hL.bel (by omega)).alloc _
  have hz1 : TBx w ((W0.alloc (.cells #[.slice none 0 0] 33)).alloc (.cells #[.int .i64 0, .int .i64 0, .int .i64 0, .int .i64 0, .int .i64 0, .int .i64 0, .int .i64 0, .slice none 0 0, .slice none 0 0] 37)) (w.heap.size + 1 + 1 + 1) ⟨0, 0, 0, 0, 0, 0, 0⟩ (.slice none 0 0) (.slice none 0 0) := TBx.zero (bel_alloc hL.bel _) (by simp; omega)
  have hL1 := (hL.call (new1 W0 (.cells #[.slice none 0 0] 33))).call (new1 (W0.alloc (.cells #[.slice none 0 0] 33)) (.cells #[.int .i64 0, .int .i64 0, .int .i64 0, .int .i64 0, .int .i64 0, .int .i64 0, .int .i64 0, .slice none 0 0, .slice none 0 0] 37))
  have hs1 : w.heap.size + 4 ≤ ((W0.alloc (.cells #[.slice none 0 0] 33)).alloc (.cells #[.int .i64 0, .int .i64 0, .int .i64 0, .int .i64 0, .int .i64 0, .int .i64 0, .int .i64 0, .slice none 0 0, .slice none 0 0] 37)).heap.size := by simp; omega
  generalize ((W0.alloc _).alloc _) = W1 at hz0 hz1 hL1 hs1 ⊢
  have HB1 := Lib.hid hL1.bel
  have Z0 := Lib.hid hz0
  have Z1 := Lib.hid hz1
  have HSL : SL w D N cN x A n c A2 n2 c2 W1 := ⟨hL1.st, hL1.tb⟩
  clear hL hz0 hz1 hs0 hL1
  go_cut [9, 10] from 11 to 14 (fun p q wx => ∃ (sb tb lo hi lo2 hi2 : Nat) (s u v : Value), p = .pointer (some ⟨sb, 0, none⟩) ∧ q = .pointer (some ⟨tb, 0, none⟩) ∧ Rg9 W1 wx sb tb lo hi lo2 hi2 s N C x u n R v n2 S)
  case first =>
    have hS0 := HSL
    obtain ⟨c0, t0, t1, t2, t3, t4, t5, t6, t7, t8⟩ := HSL
    have hB1 := HB1.out
    have hbW := Below.refl W1.heap.size W1
    have hB0 := Below.refl W1.heap.size W1
    go_region_held3 (fun w' => w'.cell? ⟨w.heap.size, 0, none⟩ = some (.slice D N cN) ∧ w'.cell? ⟨w.heap.size + 1, 0, none⟩ = some (.int .i64 x.i) ∧ w'.cell? ⟨w.heap.size + 1, 1, none⟩ = some (.int .i64 x.s) ∧ w'.cell? ⟨w.heap.size + 1, 2, none⟩ = some (.int .i64 x.t) ∧ w'.cell? ⟨w.heap.size + 1, 3, none⟩ = some (.int .i64 x.b) ∧ w'.cell? ⟨w.heap.size + 1, 4, none⟩ = some (.int .i64 x.l) ∧ w'.cell? ⟨w.heap.size + 1, 5, none⟩ = some (.int .i64 x.h) ∧ w'.cell? ⟨w.heap.size + 1, 6, none⟩ = some (.int .i64 x.c) ∧ w'.cell? ⟨w.heap.size + 1, 7, none⟩ = some (.slice A n c) ∧ w'.cell? ⟨w.heap.size + 1, 8, none⟩ = some (.slice A2 n2 c2)) ((change SL w D N cN x A n c A2 n2 c2 _; (repeat first | with_reducible assumption | with_reducible refine keepA (by first | omega | (simp; omega)) ?_ | with_reducible refine keepS (by first | (simp only; omega) | (simp; omega)) ?_ | with_reducible refine keepD ?_))) (first | (go_at_call 27; (with_reducible refine (HCs.out (W1.drew) (HB1.out.trans ((show Below W1.heap.size W1 (W1.drew) by (repeat first | with_reducible assumption | with_reducible refine bel_alloc ?_ _ | with_reducible refine Below.drew ?_)).mono HB1.out.size))).mono ?_); rintro e V1 ⟨A8, c8, rfl, ho1, hb1⟩; have hv1 : w.heap.size + 4 ≤ V1.heap.size := Nat.le_trans (by first | omega | (simp <;> omega)) hb1.size; have hbk1 : Below W1.heap.size W1 V1 := Below.trans (show Below W1.heap.size W1 (W1.drew) by (repeat first | with_reducible assumption | with_reducible refine bel_alloc ?_ _ | with_reducible refine Below.drew ?_)) (hb1.mono (by first | omega | (simp <;> omega))); have hq1 := OQ.of_os ho1; obtain ⟨lo1, hlo1⟩ : ∃ k, k = (W1.drew).heap.size := ⟨_, rfl⟩; rw [← hlo1] at hq1; (try simp only [World.size_alloc, World.size_drew] at hlo1); have hh1 := hb1.size; (try simp only [World.size_alloc, World.size_drew] at hh1); have hS1 : SL w D N cN x A n c A2 n2 c2 V1 := keepC hb1 (by first | omega | (simp <;> omega)) (keepD (hS0))) | (go_at_call 27; (with_reducible refine (HCs.out ((W1.alloc (.cells #[.slice none 0 0] 33)).drew) (HB1.out.trans ((show Below W1.heap.size W1 ((W1.alloc (.cells #[.slice none 0 0] 33)).drew) by (repeat first | with_reducible assumption | with_reducible refine bel_alloc ?_ _ | with_reducible refine Below.drew ?_)).mono HB1.out.size))).mono ?_); rintro e V1 ⟨A8, c8, rfl, ho1, hb1⟩; have hv1 : w.heap.size + 4 ≤ V1.heap.size := Nat.le_trans (by first | omega | (simp <;> omega)) hb1.size; have hbk1 : Below W1.heap.size W1 V1 := Below.trans (show Below W1.heap.size W1 ((W1.alloc (.cells #[.slice none 0 0] 33)).drew) by (repeat first | with_reducible assumption | with_reducible refine bel_alloc ?_ _ | with_reducible refine Below.drew ?_)) (hb1.mono (by first | omega | (simp <;> omega))); have zs1 := ((SBx.zero (u := .slice none 0 0) (t := 33) hB0 rfl).drew).call hb1; have hq1 := OQ.of_os ho1; obtain ⟨lo1, hlo1⟩ : ∃ k, k = ((W1.alloc (.cells #[.slice none 0 0] 33)).drew).heap.size := ⟨_, rfl⟩; rw [← hlo1] at hq1; (try simp only [World.size_alloc, World.size_drew] at hlo1); have hh1 := hb1.size; (try simp only [World.size_alloc, World.size_drew] at hh1); have hS1 : SL w D N cN x A n c A2 n2 c2 V1 := keepC hb1 (by first | omega | (simp <;> omega)) (keepD (keepA (by first | omega | (simp <;> omega)) (hS0)))) | (go_at_call 27; (with_reducible refine (HCs.out ((W1.alloc (.cells #[.int .i64 0, .int .i64 0, .int .i64 0, .int .i64 0, .int .i64 0, .int .i64 0, .int .i64 0, .slice none 0 0, .slice none 0 0] 37)).drew) (HB1.out.trans ((show Below W1.heap.size W1 ((W1.alloc (.cells #[.int .i64 0, .int .i64 0, .int .i64 0, .int .i64 0, .int .i64 0, .int .i64 0, .int .i64 0, .slice none 0 0, .slice none 0 0] 37)).drew) by (repeat first | with_reducible assumption | with_reducible refine bel_alloc ?_ _ | with_reducible refine Below.drew ?_)).mono HB1.out.size))).mono ?_); rintro e V1 ⟨A8, c8, rfl, ho1, hb1⟩; have hv1 : w.heap.size + 4 ≤ V1.heap.size := Nat.le_trans (by first | omega | (simp <;> omega)) hb1.size; have hbk1 : Below W1.heap.size W1 V1 := Below.trans (show Below W1.heap.size W1 ((W1.alloc (.cells #[.int .i64 0, .int .i64 0, .int .i64 0, .int .i64 0, .int .i64 0, .int .i64 0, .int .i64 0, .slice none 0 0, .slice none 0 0] 37)).drew) by (repeat first | with_reducible assumption | with_reducible refine bel_alloc ?_ _ | with_reducible refine Below.drew ?_)) (hb1.mono (by first | omega | (simp <;> omega))); have zt1 := ((TBx.zero hB0 rfl).drew).call hb1; have hq1 := OQ.of_os ho1; obtain ⟨lo1, hlo1⟩ : ∃ k, k = ((W1.alloc (.cells #[.int .i64 0, .int .i64 0, .int .i64 0, .int .i64 0, .int .i64 0, .int .i64 0, .int .i64 0, .slice none 0 0, .slice none 0 0] 37)).drew).heap.size := ⟨_, rfl⟩; rw [← hlo1] at hq1; (try simp only [World.size_alloc, World.size_drew] at hlo1); have hh1 := hb1.size; (try simp only [World.size_alloc, World.size_drew] at hh1); have hS1 : SL w D N cN x A n c A2 n2 c2 V1 := keepC hb1 (by first | omega | (simp <;> omega)) (keepD (keepA (by first | omega | (simp <;> omega)) (hS0)))) | (go_at_call 27; (with_reducible refine (HCs.out (((W1.alloc (.cells #[.slice none 0 0] 33)).alloc (.cells #[.int .i64 0, .int .i64 0, .int .i64 0, .int .i64 0, .int .i64 0, .int .i64 0, .int .i64 0, .slice none 0 0, .slice none 0 0] 37)).drew) (HB1.out.trans ((show Below W1.heap.size W1 (((W1.alloc (.cells #[.slice none 0 0] 33)).alloc (.cells #[.int .i64 0, .int .i64 0, .int .i64 0, .int .i64 0, .int .i64 0, .int .i64 0, .int .i64 0, .slice none 0 0, .slice none 0 0] 37)).drew) by (repeat first | with_reducible assumption | with_reducible refine bel_alloc ?_ _ | with_reducible refine Below.drew ?_)).mono HB1.out.size))).mono ?_); rintro e V1 ⟨A8, c8, rfl, ho1, hb1⟩; have hv1 : w.heap.size + 4 ≤ V1.heap.size := Nat.le_trans (by first | omega | (simp <;> omega)) hb1.size; have hbk1 : Below W1.heap.size W1 V1 := Below.trans (show Below W1.heap.size W1 (((W1.alloc (.cells #[.slice none 0 0] 33)).alloc (.cells #[.int .i64 0, .int .i64 0, .int .i64 0, .int .i64 0, .int .i64 0, .int .i64 0, .int .i64 0, .slice none 0 0, .slice none 0 0] 37)).drew) by (repeat first | with_reducible assumption | with_reducible refine bel_alloc ?_ _ | with_reducible refine Below.drew ?_)) (hb1.mono (by first | omega | (simp <;> omega))); have zs1 := (((SBx.zero (u := .slice none 0 0) (t := 33) hB0 rfl).alloc (.cells #[.int .i64 0, .int .i64 0, .int .i64 0, .int .i64 0, .int .i64 0, .int .i64 0, .int .i64 0, .slice none 0 0, .slice none 0 0] 37)).drew).call hb1; have zt1 := ((TBx.zero (b := W1.heap.size + 1) (bel_alloc hB0 (.cells #[.slice none 0 0] 33)) (by simp)).drew).call hb1; have hq1 := OQ.of_os ho1; obtain ⟨lo1, hlo1⟩ : ∃ k, k = (((W1.alloc (.cells #[.slice none 0 0] 33)).alloc (.cells #[.int .i64 0, .int .i64 0, .int .i64 0, .int .i64 0, .int .i64 0, .int .i64 0, .int .i64 0, .slice none 0 0, .slice none 0 0] 37)).drew).heap.size := ⟨_, rfl⟩; rw [← hlo1] at hq1; (try simp only [World.size_alloc, World.size_drew] at hlo1); have hh1 := hb1.size; (try simp only [World.size_alloc, World.size_drew] at hh1); have hS1 : SL w D N cN x A n c A2 n2 c2 V1 := keepC hb1 (by first | omega | (simp <;> omega)) (keepD (keepA (by first | omega | (simp <;> omega)) (keepA (by first | omega | (simp <;> omega)) (hS0))))) | (go_at_call 27; (with_reducible refine (HCs.out (((W1.alloc (.cells #[.int .i64 0, .int .i64 0, .int .i64 0, .int .i64 0, .int .i64 0, .int .i64 0, .int .i64 0, .slice none 0 0, .slice none 0 0] 37)).alloc (.cells #[.slice none 0 0] 33)).drew) (HB1.out.trans ((show Below W1.heap.size W1 (((W1.alloc (.cells #[.int .i64 0, .int .i64 0, .int .i64 0, .int .i64 0, .int .i64 0, .int .i64 0, .int .i64 0, .slice none 0 0, .slice none 0 0] 37)).alloc (.cells #[.slice none 0 0] 33)).drew) by (repeat first | with_reducible assumption | with_reducible refine bel_alloc ?_ _ | with_reducible refine Below.drew ?_)).mono HB1.out.size))).mono ?_); rintro e V1 ⟨A8, c8, rfl, ho1, hb1⟩; have hv1 : w.heap.size + 4 ≤ V1.heap.size := Nat.le_trans (by first | omega | (simp <;> omega)) hb1.size; have hbk1 : Below W1.heap.size W1 V1 := Below.trans (show Below W1.heap.size W1 (((W1.alloc (.cells #[.int .i64 0, .int .i64 0, .int .i64 0, .int .i64 0, .int .i64 0, .int .i64 0, .int .i64 0, .slice none 0 0, .slice none 0 0] 37)).alloc (.cells #[.slice none 0 0] 33)).drew) by (repeat first | with_reducible assumption | with_reducible refine bel_alloc ?_ _ | with_reducible refine Below.drew ?_)) (hb1.mono (by first | omega | (simp <;> omega))); have zt1 := (((TBx.zero hB0 rfl).alloc (.cells #[.slice none 0 0] 33)).drew).call hb1; have zs1 := ((SBx.zero (u := .slice none 0 0) (t := 33) (b := W1.heap.size + 1) (bel_alloc hB0 (.cells #[.int .i64 0, .int .i64 0, .int .i64 0, .int .i64 0, .int .i64 0, .int .i64 0, .int .i64 0, .slice none 0 0, .slice none 0 0] 37)) (by simp)).drew).call hb1; have hq1 := OQ.of_os ho1; obtain ⟨lo1, hlo1⟩ : ∃ k, k = (((W1.alloc (.cells #[.int .i64 0, .int .i64 0, .int .i64 0, .int .i64 0, .int .i64 0, .int .i64 0, .int .i64 0, .slice none 0 0, .slice none 0 0] 37)).alloc (.cells #[.slice none 0 0] 33)).drew).heap.size := ⟨_, rfl⟩; rw [← hlo1] at hq1; (try simp only [World.size_alloc, World.size_drew] at hlo1); have hh1 := hb1.size; (try simp only [World.size_alloc, World.size_drew] at hh1); have hS1 : SL w D N cN x A n c A2 n2 c2 V1 := keepC hb1 (by first | omega | (simp <;> omega)) (keepD (keepA (by first | omega | (simp <;> omega)) (keepA (by first | omega | (simp <;> omega)) (hS0))))) | (go_at_call 28; (with_reducible refine (HCt.out (V1) (HB1.out.trans ((show Below W1.heap.size W1 (V1) by (repeat first | with_reducible assumption | with_reducible refine bel_alloc ?_ _ | with_reducible refine Below.drew ?_)).mono HB1.out.size))).mono ?_); rintro e V2 ⟨u8, v8, rfl, ho2, hb2⟩; have hv2 : w.heap.size + 4 ≤ V2.heap.size := Nat.le_trans (by first | omega | (simp <;> omega)) hb2.size; have hbk2 : Below W1.heap.size W1 V2 := Below.trans (show Below W1.heap.size W1 (V1) by (repeat first | with_reducible assumption | with_reducible refine bel_alloc ?_ _ | with_reducible refine Below.drew ?_)) (hb2.mono (by first | omega | (simp <;> omega))); (try have zs1 := zs1.call hb2); (try have zt1 := zt1.call hb2); have hq1 := oqC hq1 hb2; have hq2 := OT.of ho2; obtain ⟨A9, c9, B9, d9, rfl, rfl, _, _⟩ := hq2.form HLR.out HLS.out; obtain ⟨lo2, hlo2⟩ : ∃ k, k = (V1).heap.size := ⟨_, rfl⟩; rw [← hlo2] at hq2; (try simp only [World.size_alloc, World.size_drew] at hlo2); have hh2 := hb2.size; (try simp only [World.size_alloc, World.size_drew] at hh2); (try (have lts1 := zs1.lt; have cs1 := zs1.cell; have fs1 := zs1.free)); (try (have ltt1 := zt1.bx.lt; obtain ⟨ct10, ct11, ct12, ct13, ct14, ct15, ct16, ct17, ct18⟩ := zt1.bx.tb; have ft10 := zt1.bx.fz 0; have ft11 := zt1.bx.fz 1; have ft12 := zt1.bx.fz 2; have ft13 := zt1.bx.fz 3; have ft14 := zt1.bx.fz 4; have ft15 := zt1.bx.fz 5; have ft16 := zt1.bx.fz 6; have ft17 := zt1.bx.fz 7; have ft18 := zt1.bx.fz 8)); (try (have lts2 := zs2.lt; have cs2 := zs2.cell; have fs2 := zs2.free)); (try (have ltt2 := zt2.bx.lt; obtain ⟨ct20, ct21, ct22, ct23, ct24, ct25, ct26, ct27, ct28⟩ := zt2.bx.tb; have ft20 := zt2.bx.fz 0; have ft21 := zt2.bx.fz 1; have ft22 := zt2.bx.fz 2; have ft23 := zt2.bx.fz 3; have ft24 := zt2.bx.fz 4; have ft25 := zt2.bx.fz 5; have ft26 := zt2.bx.fz 6; have ft27 := zt2.bx.fz 7; have ft28 := zt2.bx.fz 8)); have hS2 : SL w D N cN x A n c A2 n2 c2 V2 := keepC hb2 (by first | omega | (simp <;> omega)) (hS1)) | (go_at_call 28; (with_reducible refine (HCt.out ((V1.alloc (.cells #[.slice none 0 0] 33))) (HB1.out.trans ((show Below W1.heap.size W1 ((V1.alloc (.cells #[.slice none 0 0] 33))) by (repeat first | with_reducible assumption | with_reducible refine bel_alloc ?_ _ | with_reducible refine Below.drew ?_)).mono HB1.out.size))).mono ?_); rintro e V2 ⟨u8, v8, rfl, ho2, hb2⟩; have hv2 : w.heap.size + 4 ≤ V2.heap.size := Nat.le_trans (by first | omega | (simp <;> omega)) hb2.size; have hbk2 : Below W1.heap.size W1 V2 := Below.trans (show Below W1.heap.size W1 ((V1.alloc (.cells #[.slice none 0 0] 33))) by (repeat first | with_reducible assumption | with_reducible refine bel_alloc ?_ _ | with_reducible refine Below.drew ?_)) (hb2.mono (by first | omega | (simp <;> omega))); have hnn : Below V1.heap.size V1 ((V1.alloc (.cells #[.slice none 0 0] 33))) := new1 V1 (.cells #[.slice none 0 0] 33); (try have zs1 := zs1.call hnn); (try have zt1 := zt1.call hnn); have hq1 := oqC hq1 hnn; (try have zs1 := zs1.call hb2); (try have zt1 := zt1.call hb2); have hq1 := oqC hq1 hb2; have zs2 := ((SBx.zero (u := .slice none 0 0) (t := 33) hbk1 rfl)).call hb2; have hq2 := OT.of ho2; obtain ⟨A9, c9, B9, d9, rfl, rfl, _, _⟩ := hq2.form HLR.out HLS.out; obtain ⟨lo2, hlo2⟩ : ∃ k, k = ((V1.alloc (.cells #[.slice none 0 0] 33))).heap.size := ⟨_, rfl⟩; rw [← hlo2] at hq2; (try simp only [World.size_alloc, World.size_drew] at hlo2); have hh2 := hb2.size; (try simp only [World.size_alloc, World.size_drew] at hh2); (try (have lts1 := zs1.lt; have cs1 := zs1.cell; have fs1 := zs1.free)); (try (have ltt1 := zt1.bx.lt; obtain ⟨ct10, ct11, ct12, ct13, ct14, ct15, ct16, ct17, ct18⟩ := zt1.bx.tb; have ft10 := zt1.bx.fz 0; have ft11 := zt1.bx.fz 1; have ft12 := zt1.bx.fz 2; have ft13 := zt1.bx.fz 3; have ft14 := zt1.bx.fz 4; have ft15 := zt1.bx.fz 5; have ft16 := zt1.bx.fz 6; have ft17 := zt1.bx.fz 7; have ft18 := zt1.bx.fz 8)); (try (have lts2 := zs2.lt; have cs2 := zs2.cell; have fs2 := zs2.free)); (try (have ltt2 := zt2.bx.lt; obtain ⟨ct20, ct21, ct22, ct23, ct24, ct25, ct26, ct27, ct28⟩ := zt2.bx.tb; have ft20 := zt2.bx.fz 0; have ft21 := zt2.bx.fz 1; have ft22 := zt2.bx.fz 2; have ft23 := zt2.bx.fz 3; have ft24 := zt2.bx.fz 4; have ft25 := zt2.bx.fz 5; have ft26 := zt2.bx.fz 6; have ft27 := zt2.bx.fz 7; have ft28 := zt2.bx.fz 8)); have hS2 : SL w D N cN x A n c A2 n2 c2 V2 := keepC hb2 (by first | omega | (simp <;> omega)) (keepA (by first | omega | (simp <;> omega)) (hS1))) | (go_at_call 28; (with_reducible refine (HCt.out ((V1.alloc (.cells #[.int .i64 0, .int .i64 0, .int .i64 0, .int .i64 0, .int .i64 0, .int .i64 0, .int .i64 0, .slice none 0 0, .slice none 0 0] 37))) (HB1.out.trans ((show Below W1.heap.size W1 ((V1.alloc (.cells #[.int .i64 0, .int .i64 0, .int .i64 0, .int .i64 0, .int .i64 0, .int .i64 0, .int .i64 0, .slice none 0 0, .slice none 0 0] 37))) by (repeat first | with_reducible assumption | with_reducible refine bel_alloc ?_ _ | with_reducible refine Below.drew ?_)).mono HB1.out.size))).mono ?_); rintro e V2 ⟨u8, v8, rfl, ho2, hb2⟩; have hv2 : w.heap.size + 4 ≤ V2.heap.size := Nat.le_trans (by first | omega | (simp <;> omega)) hb2.size; have hbk2 : Below W1.heap.size W1 V2 := Below.trans (show Below W1.heap.size W1 ((V1.alloc (.cells #[.int .i64 0, .int .i64 0, .int .i64 0, .int .i64 0, .int .i64 0, .int .i64 0, .int .i64 0, .slice none 0 0, .slice none 0 0] 37))) by (repeat first | with_reducible assumption | with_reducible refine bel_alloc ?_ _ | with_reducible refine Below.drew ?_)) (hb2.mono (by first | omega | (simp <;> omega))); have hnn : Below V1.heap.size V1 ((V1.alloc (.cells #[.int .i64 0, .int .i64 0, .int .i64 0, .int .i64 0, .int .i64 0, .int .i64 0, .int .i64 0, .slice none 0 0, .slice none 0 0] 37))) := new1 V1 (.cells #[.int .i64 0, .int .i64 0, .int .i64 0, .int .i64 0, .int .i64 0, .int .i64 0, .int .i64 0, .slice none 0 0, .slice none 0 0] 37); (try have zs1 := zs1.call hnn); (try have zt1 := zt1.call hnn); have hq1 := oqC hq1 hnn; (try have zs1 := zs1.call hb2); (try have zt1 := zt1.call hb2); have hq1 := oqC hq1 hb2; have zt2 := ((TBx.zero hbk1 rfl)).call hb2; have hq2 := OT.of ho2; obtain ⟨A9, c9, B9, d9, rfl, rfl, _, _⟩ := hq2.form HLR.out HLS.out; obtain ⟨lo2, hlo2⟩ : ∃ k, k = ((V1.alloc (.cells #[.int .i64 0, .int .i64 0, .int .i64 0, .int .i64 0, .int .i64 0, .int .i64 0, .int .i64 0, .slice none 0 0, .slice none 0 0] 37))).heap.size := ⟨_, rfl⟩; rw [← hlo2] at hq2; (try simp only [World.size_alloc, World.size_drew] at hlo2); have hh2 := hb2.size; (try simp only [World.size_alloc, World.size_drew] at hh2); (try (have lts1 := zs1.lt; have cs1 := zs1.cell; have fs1 := zs1.free)); (try (have ltt1 := zt1.bx.lt; obtain ⟨ct10, ct11, ct12, ct13, ct14, ct15, ct16, ct17, ct18⟩ := zt1.bx.tb; have ft10 := zt1.bx.fz 0; have ft11 := zt1.bx.fz 1; have ft12 := zt1.bx.fz 2; have ft13 := zt1.bx.fz 3; have ft14 := zt1.bx.fz 4; have ft15 := zt1.bx.fz 5; have ft16 := zt1.bx.fz 6; have ft17 := zt1.bx.fz 7; have ft18 := zt1.bx.fz 8)); (try (have lts2 := zs2.lt; have cs2 := zs2.cell; have fs2 := zs2.free)); (try (have ltt2 := zt2.bx.lt; obtain ⟨ct20, ct21, ct22, ct23, ct24, ct25, ct26, ct27, ct28⟩ := zt2.bx.tb; have ft20 := zt2.bx.fz 0; have ft21 := zt2.bx.fz 1; have ft22 := zt2.bx.fz 2; have ft23 := zt2.bx.fz 3; have ft24 := zt2.bx.fz 4; have ft25 := zt2.bx.fz 5; have ft26 := zt2.bx.fz 6; have ft27 := zt2.bx.fz 7; have ft28 := zt2.bx.fz 8)); have hS2 : SL w D N cN x A n c A2 n2 c2 V2 := keepC hb2 (by first | omega | (simp <;> omega)) (keepA (by first | omega | (simp <;> omega)) (hS1))) | (go_at_call 28; (with_reducible refine (HCt.out (((V1.alloc (.cells #[.slice none 0 0] 33)).alloc (.cells #[.int .i64 0, .int .i64 0, .int .i64 0, .int .i64 0, .int .i64 0, .int .i64 0, .int .i64 0, .slice none 0 0, .slice none 0 0] 37))) (HB1.out.trans ((show Below W1.heap.size W1 (((V1.alloc (.cells #[.slice none 0 0] 33)).alloc (.cells #[.int .i64 0, .int .i64 0, .int .i64 0, .int .i64 0, .int .i64 0, .int .i64 0, .int .i64 0, .slice none 0 0, .slice none 0 0] 37))) by (repeat first | with_reducible assumption | with_reducible refine bel_alloc ?_ _ | with_reducible refine Below.drew ?_)).mono HB1.out.size))).mono ?_); rintro e V2 ⟨u8, v8, rfl, ho2, hb2⟩; have hv2 : w.heap.size + 4 ≤ V2.heap.size := Nat.le_trans (by first | omega | (simp <;> omega)) hb2.size; have hbk2 : Below W1.heap.size W1 V2 := Below.trans (show Below W1.heap.size W1 (((V1.alloc (.cells #[.slice none 0 0] 33)).alloc (.cells #[.int .i64 0, .int .i64 0, .int .i64 0, .int .i64 0, .int .i64 0, .int .i64 0, .int .i64 0, .slice none 0 0, .slice none 0 0] 37))) by (repeat first | with_reducible assumption | with_reducible refine bel_alloc ?_ _ | with_reducible refine Below.drew ?_)) (hb2.mono (by first | omega | (simp <;> omega))); have hnn : Below V1.heap.size V1 (((V1.alloc (.cells #[.slice none 0 0] 33)).alloc (.cells #[.int .i64 0, .int .i64 0, .int .i64 0, .int .i64 0, .int .i64 0, .int .i64 0, .int .i64 0, .slice none 0 0, .slice none 0 0] 37))) := bel_alloc (new1 V1 (.cells #[.slice none 0 0] 33)) (.cells #[.int .i64 0, .int .i64 0, .int .i64 0, .int .i64 0, .int .i64 0, .int .i64 0, .int .i64 0, .slice none 0 0, .slice none 0 0] 37); (try have zs1 := zs1.call hnn); (try have zt1 := zt1.call hnn); have hq1 := oqC hq1 hnn; (try have zs1 := zs1.call hb2); (try have zt1 := zt1.call hb2); have hq1 := oqC hq1 hb2; have zs2 := (((SBx.zero (u := .slice none 0 0) (t := 33) hbk1 rfl).alloc (.cells #[.int .i64 0, .int .i64 0, .int .i64 0, .int .i64 0, .int .i64 0, .int .i64 0, .int .i64 0, .slice none 0 0, .slice none 0 0] 37))).call hb2; have zt2 := ((TBx.zero (b := V1.heap.size + 1) (bel_alloc hbk1 (.cells #[.slice none 0 0] 33)) (by simp))).call hb2; have hq2 := OT.of ho2; obtain ⟨A9, c9, B9, d9, rfl, rfl, _, _⟩ := hq2.form HLR.out HLS.out; obtain ⟨lo2, hlo2⟩ : ∃ k, k = (((V1.alloc (.cells #[.slice none 0 0] 33)).alloc (.cells #[.int .i64 0, .int .i64 0, .int .i64 0, .int .i64 0, .int .i64 0, .int .i64 0, .int .i64 0, .slice none 0 0, .slice none 0 0] 37))).heap.size := ⟨_, rfl⟩; rw [← hlo2] at hq2; (try simp only [World.size_alloc, World.size_drew] at hlo2); have hh2 := hb2.size; (try simp only [World.size_alloc, World.size_drew] at hh2); (try (have lts1 := zs1.lt; have cs1 := zs1.cell; have fs1 := zs1.free)); (try (have ltt1 := zt1.bx.lt; obtain ⟨ct10, ct11, ct12, ct13, ct14, ct15, ct16, ct17, ct18⟩ := zt1.bx.tb; have ft10 := zt1.bx.fz 0; have ft11 := zt1.bx.fz 1; have ft12 := zt1.bx.fz 2; have ft13 := zt1.bx.fz 3; have ft14 := zt1.bx.fz 4; have ft15 := zt1.bx.fz 5; have ft16 := zt1.bx.fz 6; have ft17 := zt1.bx.fz 7; have ft18 := zt1.bx.fz 8)); (try (have lts2 := zs2.lt; have cs2 := zs2.cell; have fs2 := zs2.free)); (try (have ltt2 := zt2.bx.lt; obtain ⟨ct20, ct21, ct22, ct23, ct24, ct25, ct26, ct27, ct28⟩ := zt2.bx.tb; have ft20 := zt2.bx.fz 0; have ft21 := zt2.bx.fz 1; have ft22 := zt2.bx.fz 2; have ft23 := zt2.bx.fz 3; have ft24 := zt2.bx.fz 4; have ft25 := zt2.bx.fz 5; have ft26 := zt2.bx.fz 6; have ft27 := zt2.bx.fz 7; have ft28 := zt2.bx.fz 8)); have hS2 : SL w D N cN x A n c A2 n2 c2 V2 := keepC hb2 (by first | omega | (simp <;> omega)) (keepA (by first | omega | (simp <;> omega)) (keepA (by first | omega | (simp <;> omega)) (hS1)))) | (go_at_call 28; (with_reducible refine (HCt.out (((V1.alloc (.cells #[.int .i64 0, .int .i64 0, .int .i64 0, .int .i64 0, .int .i64 0, .int .i64 0, .int .i64 0, .slice none 0 0, .slice none 0 0] 37)).alloc (.cells #[.slice none 0 0] 33))) (HB1.out.trans ((show Below W1.heap.size W1 (((V1.alloc (.cells #[.int .i64 0, .int .i64 0, .int .i64 0, .int .i64 0, .int .i64 0, .int .i64 0, .int .i64 0, .slice none 0 0, .slice none 0 0] 37)).alloc (.cells #[.slice none 0 0] 33))) by (repeat first | with_reducible assumption | with_reducible refine bel_alloc ?_ _ | with_reducible refine Below.drew ?_)).mono HB1.out.size))).mono ?_); rintro e V2 ⟨u8, v8, rfl, ho2, hb2⟩; have hv2 : w.heap.size + 4 ≤ V2.heap.size := Nat.le_trans (by first | omega | (simp <;> omega)) hb2.size; have hbk2 : Below W1.heap.size W1 V2 := Below.trans (show Below W1.heap.size W1 (((V1.alloc (.cells #[.int .i64 0, .int .i64 0, .int .i64 0, .int .i64 0, .int .i64 0, .int .i64 0, .int .i64 0, .slice none 0 0, .slice none 0 0] 37)).alloc (.cells #[.slice none 0 0] 33))) by (repeat first | with_reducible assumption | with_reducible refine bel_alloc ?_ _ | with_reducible refine Below.drew ?_)) (hb2.mono (by first | omega | (simp <;> omega))); have hnn : Below V1.heap.size V1 (((V1.alloc (.cells #[.int .i64 0, .int .i64 0, .int .i64 0, .int .i64 0, .int .i64 0, .int .i64 0, .int .i64 0, .slice none 0 0, .slice none 0 0] 37)).alloc (.cells #[.slice none 0 0] 33))) := bel_alloc (new1 V1 (.cells #[.int .i64 0, .int .i64 0, .int .i64 0, .int .i64 0, .int .i64 0, .int .i64 0, .int .i64 0, .slice none 0 0, .slice none 0 0] 37)) (.cells #[.slice none 0 0] 33); (try have zs1 := zs1.call hnn); (try have zt1 := zt1.call hnn); have hq1 := oqC hq1 hnn; (try have zs1 := zs1.call hb2); (try have zt1 := zt1.call hb2); have hq1 := oqC hq1 hb2; have zt2 := (((TBx.zero hbk1 rfl).alloc (.cells #[.slice none 0 0] 33))).call hb2; have zs2 := ((SBx.zero (u := .slice none 0 0) (t := 33) (b := V1.heap.size + 1) (bel_alloc hbk1 (.cells #[.int .i64 0, .int .i64 0, .int .i64 0, .int .i64 0, .int .i64 0, .int .i64 0, .int .i64 0, .slice none 0 0, .slice none 0 0] 37)) (by simp))).call hb2; have hq2 := OT.of ho2; obtain ⟨A9, c9, B9, d9, rfl, rfl, _, _⟩ := hq2.form HLR.out HLS.out; obtain ⟨lo2, hlo2⟩ : ∃ k, k = (((V1.alloc (.cells #[.int .i64 0, .int .i64 0, .int .i64 0, .int .i64 0, .int .i64 0, .int .i64 0, .int .i64 0, .slice none 0 0, .slice none 0 0] 37)).alloc (.cells #[.slice none 0 0] 33))).heap.size := ⟨_, rfl⟩; rw [← hlo2] at hq2; (try simp only [World.size_alloc, World.size_drew] at hlo2); have hh2 := hb2.size; (try simp only [World.size_alloc, World.size_drew] at hh2); (try (have lts1 := zs1.lt; have cs1 := zs1.cell; have fs1 := zs1.free)); (try (have ltt1 := zt1.bx.lt; obtain ⟨ct10, ct11, ct12, ct13, ct14, ct15, ct16, ct17, ct18⟩ := zt1.bx.tb; have ft10 := zt1.bx.fz 0; have ft11 := zt1.bx.fz 1; have ft12 := zt1.bx.fz 2; have ft13 := zt1.bx.fz 3; have ft14 := zt1.bx.fz 4; have ft15 := zt1.bx.fz 5; have ft16 := zt1.bx.fz 6; have ft17 := zt1.bx.fz 7; have ft18 := zt1.bx.fz 8)); (try (have lts2 := zs2.lt; have cs2 := zs2.cell; have fs2 := zs2.free)); (try (have ltt2 := zt2.bx.lt; obtain ⟨ct20, ct21, ct22, ct23, ct24, ct25, ct26, ct27, ct28⟩ := zt2.bx.tb; have ft20 := zt2.bx.fz 0; have ft21 := zt2.bx.fz 1; have ft22 := zt2.bx.fz 2; have ft23 := zt2.bx.fz 3; have ft24 := zt2.bx.fz 4; have ft25 := zt2.bx.fz 5; have ft26 := zt2.bx.fz 6; have ft27 := zt2.bx.fz 7; have ft28 := zt2.bx.fz 8)); have hS2 : SL w D N cN x A n c A2 n2 c2 V2 := keepC hb2 (by first | omega | (simp <;> omega)) (keepA (by first | omega | (simp <;> omega)) (keepA (by first | omega | (simp <;> omega)) (hS1)))))
    all_goals (try go_wp2_with fail)
    all_goals go_meet
    all_goals exact ⟨_, _, lo1, V1.heap.size, lo2, V2.heap.size, .slice A8 N c8, .slice A9 n c9, .slice B9 n2 d9, rfl, rfl, Rg9.mk (by (repeat first | with_reducible assumption | with_reducible refine bel_alloc ?_ _ | (with_reducible refine bel_set ?_ ?h9; case h9 => (first | (simp only; omega) | (simp <;> omega))) | with_reducible refine Below.drew ?_ | (with_reducible refine SBx.zero ?_ ?h9; case h9 => (first | rfl | simp)) | (with_reducible refine TBx.zero ?_ ?h9; case h9 => (first | rfl | simp)) | (with_reducible refine TBx.new ?_ ?h9; case h9 => (first | rfl | simp)) | with_reducible refine SBx.alloc ?_ _ | with_reducible refine TBx.alloc ?_ _ | with_reducible refine SBx.drew ?_ | with_reducible refine TBx.drew ?_ | with_reducible refine SBx.putS (u := .slice none 0 0) ?_ | with_reducible refine TBx.putS (x' := ⟨0, 0, 0, 0, 0, 0, 0⟩) (u' := .slice none 0 0) (v' := .slice none 0 0) ?_ | (with_reducible refine SBx.putO ?h9 ?_; case h9 => (first | (simp only; omega) | (simp <;> omega))) | (with_reducible refine TBx.putO ?h9 ?_; case h9 => (first | (simp only; omega) | (simp <;> omega))) | with_reducible refine oqA ?_ _ | with_reducible refine oqD ?_ | (with_reducible refine oqS ?h9 ?_; case h9 => (first | (simp only; omega) | (simp <;> omega))) | with_reducible refine otA ?_ _ | with_reducible refine otD ?_ | (with_reducible refine otS ?h9 ?_; case h9 => (first | (simp only; omega) | (simp <;> omega))))) (by (repeat first | with_reducible assumption | with_reducible refine bel_alloc ?_ _ | (with_reducible refine bel_set ?_ ?h9; case h9 => (first | (simp only; omega) | (simp <;> omega))) | with_reducible refine Below.drew ?_ | (with_reducible refine SBx.zero ?_ ?h9; case h9 => (first | rfl | simp)) | (with_reducible refine TBx.zero ?_ ?h9; case h9 => (first | rfl | simp)) | (with_reducible refine TBx.new ?_ ?h9; case h9 => (first | rfl | simp)) | with_reducible refine SBx.alloc ?_ _ | with_reducible refine TBx.alloc ?_ _ | with_reducible refine SBx.drew ?_ | with_reducible refine TBx.drew ?_ | with_reducible refine SBx.putS (u := .slice none 0 0) ?_ | with_reducible refine TBx.putS (x' := ⟨0, 0, 0, 0, 0, 0, 0⟩) (u' := .slice none 0 0) (v' := .slice none 0 0) ?_ | (with_reducible refine SBx.putO ?h9 ?_; case h9 => (first | (simp only; omega) | (simp <;> omega))) | (with_reducible refine TBx.putO ?h9 ?_; case h9 => (first | (simp only; omega) | (simp <;> omega))) | with_reducible refine oqA ?_ _ | with_reducible refine oqD ?_ | (with_reducible refine oqS ?h9 ?_; case h9 => (first | (simp only; omega) | (simp <;> omega))) | with_reducible refine otA ?_ _ | with_reducible refine otD ?_ | (with_reducible refine otS ?h9 ?_; case h9 => (first | (simp only; omega) | (simp <;> omega))))) (by (repeat first | with_reducible assumption | with_reducible refine bel_alloc ?_ _ | (with_reducible refine bel_set ?_ ?h9; case h9 => (first | (simp only; omega) | (simp <;> omega))) | with_reducible refine Below.drew ?_ | (with_reducible refine SBx.zero ?_ ?h9; case h9 => (first | rfl | simp)) | (with_reducible refine TBx.zero ?_ ?h9; case h9 => (first | rfl | simp)) | (with_reducible refine TBx.new ?_ ?h9; case h9 => (first | rfl | simp)) | with_reducible refine SBx.alloc ?_ _ | with_reducible refine TBx.alloc ?_ _ | with_reducible refine SBx.drew ?_ | with_reducible refine TBx.drew ?_ | with_reducible refine SBx.putS (u := .slice none 0 0) ?_ | with_reducible refine TBx.putS (x' := ⟨0, 0, 0, 0, 0, 0, 0⟩) (u' := .slice none 0 0) (v' := .slice none 0 0) ?_ | (with_reducible refine SBx.putO ?h9 ?_; case h9 => (first | (simp only; omega) | (simp <;> omega))) | (with_reducible refine TBx.putO ?h9 ?_; case h9 => (first | (simp only; omega) | (simp <;> omega))) | with_reducible refine oqA ?_ _ | with_reducible refine oqD ?_ | (with_reducible refine oqS ?h9 ?_; case h9 => (first | (simp only; omega) | (simp <;> omega))) | with_reducible refine otA ?_ _ | with_reducible refine otD ?_ | (with_reducible refine otS ?h9 ?_; case h9 => (first | (simp only; omega) | (simp <;> omega))))) (by (repeat first | with_reducible assumption | with_reducible refine bel_alloc ?_ _ | (with_reducible refine bel_set ?_ ?h9; case h9 => (first | (simp only; omega) | (simp <;> omega))) | with_reducible refine Below.drew ?_ | (with_reducible refine SBx.zero ?_ ?h9; case h9 => (first | rfl | simp)) | (with_reducible refine TBx.zero ?_ ?h9; case h9 => (first | rfl | simp)) | (with_reducible refine TBx.new ?_ ?h9; case h9 => (first | rfl | simp)) | with_reducible refine SBx.alloc ?_ _ | with_reducible refine TBx.alloc ?_ _ | with_reducible refine SBx.drew ?_ | with_reducible refine TBx.drew ?_ | with_reducible refine SBx.putS (u := .slice none 0 0) ?_ | with_reducible refine TBx.putS (x' := ⟨0, 0, 0, 0, 0, 0, 0⟩) (u' := .slice none 0 0) (v' := .slice none 0 0) ?_ | (with_reducible refine SBx.putO ?h9 ?_; case h9 => (first | (simp only; omega) | (simp <;> omega))) | (with_reducible refine TBx.putO ?h9 ?_; case h9 => (first | (simp only; omega) | (simp <;> omega))) | with_reducible refine oqA ?_ _ | with_reducible refine oqD ?_ | (with_reducible refine oqS ?h9 ?_; case h9 => (first | (simp only; omega) | (simp <;> omega))) | with_reducible refine otA ?_ _ | with_reducible refine otD ?_ | (with_reducible refine otS ?h9 ?_; case h9 => (first | (simp only; omega) | (simp <;> omega))))) (by (repeat first | with_reducible assumption | with_reducible refine bel_alloc ?_ _ | (with_reducible refine bel_set ?_ ?h9; case h9 => (first | (simp only; omega) | (simp <;> omega))) | with_reducible refine Below.drew ?_ | (with_reducible refine SBx.zero ?_ ?h9; case h9 => (first | rfl | simp)) | (with_reducible refine TBx.zero ?_ ?h9; case h9 => (first | rfl | simp)) | (with_reducible refine TBx.new ?_ ?h9; case h9 => (first | rfl | simp)) | with_reducible refine SBx.alloc ?_ _ | with_reducible refine TBx.alloc ?_ _ | with_reducible refine SBx.drew ?_ | with_reducible refine TBx.drew ?_ | with_reducible refine SBx.putS (u := .slice none 0 0) ?_ | with_reducible refine TBx.putS (x' := ⟨0, 0, 0, 0, 0, 0, 0⟩) (u' := .slice none 0 0) (v' := .slice none 0 0) ?_ | (with_reducible refine SBx.putO ?h9 ?_; case h9 => (first | (simp only; omega) | (simp <;> omega))) | (with_reducible refine TBx.putO ?h9 ?_; case h9 => (first | (simp only; omega) | (simp <;> omega))) | with_reducible refine oqA ?_ _ | with_reducible refine oqD ?_ | (with_reducible refine oqS ?h9 ?_; case h9 => (first | (simp only; omega) | (simp <;> omega))) | with_reducible refine otA ?_ _ | with_reducible refine otD ?_ | (with_reducible refine otS ?h9 ?_; case h9 => (first | (simp only; omega) | (simp <;> omega))))) (by first | omega | (simp only [World.size_alloc, World.size_drew, World.setCell, Array.size_modify]; omega)) (by first | omega | (simp only [World.size_alloc, World.size_drew, World.setCell, Array.size_modify]; omega)) (by first | omega | (simp only [World.size_alloc, World.size_drew, World.setCell, Array.size_modify]; omega)) (by first | omega | (simp only [World.size_alloc, World.size_drew, World.setCell, Array.size_modify]; omega)) (by first | omega | (simp only [World.size_alloc, World.size_drew, World.setCell, Array.size_modify]; omega)) (by first | omega | (simp only [World.size_alloc, World.size_drew, World.setCell, Array.size_modify]; omega)) (by first | omega | (simp only [World.size_alloc, World.size_drew, World.setCell, Array.size_modify]; omega)) (by first | omega | (simp only [World.size_alloc, World.size_drew, World.setCell, Array.size_modify]; omega)) (by first | omega | (simp only [World.size_alloc, World.size_drew, World.setCell, Array.size_modify]; omega)) (by first | omega | (simp only [World.size_alloc, World.size_drew, World.setCell, Array.size_modify]; omega))⟩
  case rest =>
    obtain ⟨sb, tb, lo, hi, lo2, hi2, s, u, v, rfl, rfl, hr⟩ := hcut
    have hWb := hr.bel
    obtain ⟨A5, c5, rfl⟩ := hr.oq.form
    obtain ⟨A9, c9, B9, d9, rfl, rfl, _, _⟩ := hr.ot.form HLR.out HLS.out
    have hSL := SL.of_blocks HSL (hWb.block _ (by omega)) (hWb.block _ (by omega))
    have Z0c := Lib.hid (Z0.out.call hWb)
    have Z1c := Lib.hid (Z1.out.call hWb)
    have HBc := Lib.hid (HB1.out.trans (hWb.mono HB1.out.size))
    have RG := Lib.hid hr
    have hwc := hWb.size
    have hBc := Nat.le_trans hB HBc.out.size
    have hss := hr.sbx.lo
    have htt := hr.tbx.lo
    have HSc := Lib.hid hSL
    obtain ⟨c0, t0, t1, t2, t3, t4, t5, t6, t7, t8⟩ := hSL
    clear hr hWb HSL
    go_wp2_with fail
    refine (Go.Proofs.YthbbpfgjbidbhaaGreatDoor.crm.impl_may x z hn hn2 hN (H1.out.below (Go.Proofs.YthbbpfgjbidbhaaGreatDoor.el2.below_le HBc.out hB)) (H2.out.below (Go.Proofs.YthbbpfgjbidbhaaGreatDoor.el2.below_le HBc.out hB)) (H3.out.below (Go.Proofs.YthbbpfgjbidbhaaGreatDoor.el2.below_le HBc.out hB)) hBc (HE.out.below HBc.out)).mono ?_
    rintro e W2 ⟨rfl, hb2⟩
    clear c0 t0 t1 t2 t3 t4 t5 t6 t7 t8
    have hw2 := hb2.size
    have R2 := Lib.hid (RG.out.call hb2)
    have S2 := Lib.hid (SL.of_blocks HSc.out (hb2.block _ (by omega)) (hb2.block _ (by omega)))
    have Z02 := Lib.hid (Z0c.out.call hb2)
    have Z12 := Lib.hid (Z1c.out.call hb2)
    have HB2 := Lib.hid (HBc.out.trans (hb2.mono HBc.out.size))
    clear hb2
    rcases hq : Go.Proofs.YthbbpfgjbidbhaaGreatDoor.em.mayB C x R S z with _ | _
    · have HF : Hid (Go.Proofs.YthbbpfgjbidbhaaGreatDoor.ct.cmB C x R S z = false) := Lib.hid (by simp [Go.Proofs.YthbbpfgjbidbhaaGreatDoor.ct.cmB, hq])
      clear hq
      go_wp2_with fail
      have k0 := R2.out.sbx.cell
      obtain ⟨b0, b1, b2, b3, b4, b5, b6, b7, b8⟩ := R2.out.tbx.bx.tb
      have r0 := Z02.out.cell
      have r1 := Z02.out.free
      obtain ⟨z0, z1, z2, z3, z4, z5, z6, z7, z8⟩ := Z12.out.bx.tb
      have y0 := Z12.out.bx.fz 0
      have y1 := Z12.out.bx.fz 1
      have y2 := Z12.out.bx.fz 2
      have y3 := Z12.out.bx.fz 3
      have y4 := Z12.out.bx.fz 4
      have y5 := Z12.out.bx.fz 5
      have y6 := Z12.out.bx.fz 6
      have y7 := Z12.out.bx.fz 7
      have y8 := Z12.out.bx.fz 8
      go_region
      have F0 := (fin1 (s := .slice A5 N c5) (x := x) (u := .slice A9 n c9) (v := .slice B9 n2 d9) Z02.out Z12.out (by omega)).drew
      clear k0 b0 b1 b2 b3 b4 b5 b6 b7 b8 r0 r1 z0 z1 z2 z3 z4 z5 z6 z7 z8 y0 y1 y2 y3 y4 y5 y6 y7 y8
      generalize World.drew _ = Wf at F0 ⊢
      have F := Lib.hid F0
      clear F0
      go_wp2_with fail
      have es := F.out.st
      obtain ⟨e0, e1, e2, e3, e4, e5, e6, e7, e8⟩ := F.out.tb
      obtain ⟨hO, hT, hB9⟩ := fin_end R2.out.oq (fun q h => by have := h.1; have := R2.out.l0; omega) R2.out.ot (by have := R2.out.l0; have := R2.out.l1; have := R2.out.l2; omega) R2.out.l4 HB2.out F.out
      refine bodyPost_ret (v := .tuple #[.agg #[.slice A5 N c5], .agg #[.int .i64 x.i, .int .i64 x.s, .int .i64 x.t, .int .i64 x.b, .int .i64 x.l, .int .i64 x.h, .int .i64 x.c, .slice A9 n c9, .slice B9 n2 d9], .bool false]) (by simp [results, Tryz.results9, go_sem, es, e0, e1, e2, e3, e4, e5, e6, e7, e8]) rfl ?_
      rw [show Go.Proofs.YthbbpfgjbidbhaaGreatDoor.ct.cmC C x R S z = C from if_neg (by rw [HF.out]; exact Bool.false_ne_true), show Go.Proofs.YthbbpfgjbidbhaaGreatDoor.ct.cmX C x R S z = x from if_neg (by rw [HF.out]; exact Bool.false_ne_true), HF.out]
      exact ⟨_, _, _, _, _, _, rfl, hO, hT, hB9⟩
    · have hq2 := hq
      simp only [Go.Proofs.YthbbpfgjbidbhaaGreatDoor.em.mayB, Bool.and_eq_true] at hq2
      obtain ⟨hrex, ht1, hun⟩ := Go.Proofs.YthbbpfgjbidbhaaGreatDoor.em.fw_parts hq2.1
      obtain ⟨hst, htx, hall⟩ := Go.Proofs.YthbbpfgjbidbhaaGreatDoor.rx.rex_parts hrex
      have HFB := Lib.hid hq2.1
      have HST := Lib.hid hst
      have HTX := Lib.hid htx
      have HALL := Lib.hid hall
      have hun2 := hun
      simp only [Go.Proofs.YthbbpfgjbidbhaaGreatDoor.em.unB, Bool.and_eq_true, decide_eq_true_eq] at hun2
      have HUN := Lib.hid hun2.1
      have HMAY := Lib.hid hq
      have h6 := Go.Proofs.YthbbpfgjbidbhaaGreatDoor.val.st_six hst
      have hCN := H3.out.1
      obtain rfl : N = 6 := by omega
      clear hq hq2 hrex ht1 hun hst htx hall hun2
      obtain ⟨L, hLL⟩ : ∃ L, Go.Proofs.YthbbpfgjbidbhaaGreatDoor.em.fwL C x R S z = L := ⟨_, rfl⟩
      obtain ⟨H, hHH⟩ : ∃ H, Go.Proofs.YthbbpfgjbidbhaaGreatDoor.em.fwH C x R S z = H := ⟨_, rfl⟩
      have HL := Lib.hid hLL
      have HH := Lib.hid hHH
      clear hLL hHH
      have hBc2 := Nat.le_trans hB HB2.out.size
      have hS2' := S2.out
      obtain ⟨c0, t0, t1, t2, t3, t4, t5, t6, t7, t8⟩ := hS2'
      go_wp2_with fail
      refine (Go.Proofs.YthbbpfgjbidbhaaGreatDoor.fw.impl_fw x z hn hn2 hN (H1.out.below (Go.Proofs.YthbbpfgjbidbhaaGreatDoor.el2.below_le HB2.out hB)) (H2.out.below (Go.Proofs.YthbbpfgjbidbhaaGreatDoor.el2.below_le HB2.out hB)) (H3.out.below (Go.Proofs.YthbbpfgjbidbhaaGreatDoor.el2.below_le HB2.out hB)) hBc2).mono ?_
      rintro e W3 ⟨rfl, hb3⟩
      rw [HL.out, HH.out, HFB.out]
      clear c0 t0 t1 t2 t3 t4 t5 t6 t7 t8
      have hw3 := hb3.size
      have R3 := Lib.hid (R2.out.call hb3)
      have S3 := Lib.hid (SL.of_blocks S2.out (hb3.block _ (by omega)) (hb3.block _ (by omega)))
      have Z03 := Lib.hid (Z02.out.call hb3)
      have Z13 := Lib.hid (Z12.out.call hb3)
      have HB3 := Lib.hid (HB2.out.trans (hb3.mono HB2.out.size))
      clear hb3
      have R4 := Lib.hid ((((R3.out.put1 (R3.out.tbx.bx.set4 L)).put1 ((R3.out.tbx.bx.set4 L).set5 H)).put1 (Bx.set2 ((R3.out.tbx.bx.set4 L).set5 H) 2)).put1 (Bx.set6 (Bx.set2 ((R3.out.tbx.bx.set4 L).set5 H) 2) z))
      have ntb2 : tb ≠ w.heap.size + 1 + 1 := by omega
      have ntb3 : tb ≠ w.heap.size + 1 + 1 + 1 := by omega
      have Z04 := Lib.hid (SBx.putO (p := ⟨tb, 6, none⟩) (u' := .int .i64 z) ntb2 (SBx.putO (p := ⟨tb, 2, none⟩) (u' := .int .i64 2) ntb2 (SBx.putO (p := ⟨tb, 5, none⟩) (u' := .int .i64 H) ntb2 (SBx.putO (p := ⟨tb, 4, none⟩) (u' := .int .i64 L) ntb2 Z03.out))))
      have Z14 := Lib.hid (TBx.putO (p := ⟨tb, 6, none⟩) (u' := .int .i64 z) ntb3 (TBx.putO (p := ⟨tb, 2, none⟩) (u' := .int .i64 2) ntb3 (TBx.putO (p := ⟨tb, 5, none⟩) (u' := .int .i64 H) ntb3 (TBx.putO (p := ⟨tb, 4, none⟩) (u' := .int .i64 L) ntb3 Z13.out))))
      have S4 := Lib.hid (keepS (p := ⟨tb, 6, none⟩) (u := .int .i64 z) (show w.heap.size + 2 ≤ tb by omega) (keepS (p := ⟨tb, 2, none⟩) (u := .int .i64 2) (show w.heap.size + 2 ≤ tb by omega) (keepS (p := ⟨tb, 5, none⟩) (u := .int .i64 H) (show w.heap.size + 2 ≤ tb by omega) (keepS (p := ⟨tb, 4, none⟩) (u := .int .i64 L) (show w.heap.size + 2 ≤ tb by omega) S3.out))))
      have HB4 := Lib.hid (bel_set (p := ⟨tb, 6, none⟩) (u' := .int .i64 z) (bel_set (p := ⟨tb, 2, none⟩) (u' := .int .i64 2) (bel_set (p := ⟨tb, 5, none⟩) (u' := .int .i64 H) (bel_set (p := ⟨tb, 4, none⟩) (u' := .int .i64 L) HB3.out (show w.heap.size ≤ tb by omega)) (show w.heap.size ≤ tb by omega)) (show w.heap.size ≤ tb by omega)) (show w.heap.size ≤ tb by omega))
      have hsz4 : W3.heap.size = ((((W3.setCell ⟨tb, 4, none⟩ (.int .i64 L)).setCell ⟨tb, 5, none⟩ (.int .i64 H)).setCell ⟨tb, 2, none⟩ (.int .i64 2)).setCell ⟨tb, 6, none⟩ (.int .i64 z)).heap.size := by simp [World.setCell]
      obtain ⟨b0, b1, b2, b3, b4, b5, b6, b7, b8⟩ := R3.out.tbx.bx.tb
      have q2 := R3.out.tbx.bx.fz 2
      have q4 := R3.out.tbx.bx.fz 4
      have q5 := R3.out.tbx.bx.fz 5
      have q6 := R3.out.tbx.bx.fz 6
      go_wp2_with fail
      clear b0 b1 b2 b3 b4 b5 b6 b7 b8 q2 q4 q5 q6
      generalize (((W3.setCell _ _).setCell _ _).setCell _ _).setCell _ _ = W4 at R4 Z04 Z14 S4 HB4 hsz4 ⊢
      have r4 := R4.out
      have hlo := r4.l0
      have hl12 := r4.l1
      have hl23 := r4.l2
      have hl34 := r4.l3
      have hl45 := r4.l4
      have hoT := r4.ot
      refine (impl_apply (lo := lo) (hi := hi) (R := R) (S := S) (C := C) ⟨x.i, x.s, 2, x.b, L, H, z⟩ sb (c := c9) (c2 := d9) r4.sbx.cell r4.sbx.free r4.sbx.lt r4.s1 (by omega) r4.oq (by omega) (by omega) (fun W hA => ?_) (fun W hA => ?_) HST.out HUN.out (fun m hm => ?_) HALL.out (Go.Proofs.YthbbpfgjbidbhaaGreatDoor.rl.tx_wr HTX.out)).mono ?_
      · obtain ⟨_, _, _, _, e1, e2, g1, g2⟩ := (hoT.keep (V' := W) fun q h h' => hA.block q (by omega) (by show ¬ (lo ≤ q ∧ q < hi); omega)).form HLR.out HLS.out
        injection e1 with e1 _ _
        subst e1
        exact g1.more hl45
      · obtain ⟨_, _, _, _, e1, e2, g1, g2⟩ := (hoT.keep (V' := W) fun q h h' => hA.block q (by omega) (by show ¬ (lo ≤ q ∧ q < hi); omega)).form HLR.out HLS.out
        injection e2 with e2 _ _
        subst e2
        exact g2.more hl45
      · obtain ⟨j, hj, rfl⟩ := List.getElem_of_mem hm
        exact Go.Proofs.YthbbpfgjbidbhaaGreatDoor.rx.key_of HTX.out (List.getElem?_eq_getElem hj)
      rintro e W5 ⟨rfl, ⟨A7, c7, hc7, ho7⟩, ha7⟩
      have nsb2 : sb ≠ w.heap.size + 1 + 1 := by omega
      have blk : ∀ q, q < W4.heap.size → ¬ (lo ≤ q ∧ q < hi) → q ≠ sb → W5.heap[q]? = W4.heap[q]? := fun q h1 h2 h3 => ha7.block q h1 ⟨h2, h3⟩
      have hw5 := ha7.size
      have hne9 := r4.ne
      have ht9 := r4.t1
      have htl := r4.tbx.bx.lt
      have hsl4 := r4.sbx.lt
      have T5 := Lib.hid (TBx.mk r4.tbx.lo (r4.tbx.bx.of_block (blk tb htl ht9 hne9.symm)))
      have OT5 := Lib.hid (hoT.keep (V' := W5) fun q h h' => blk q (by omega) (by omega) (fun e => r4.s2 (e ▸ ⟨h, h'⟩)))
      have Z05 : Hid (SBx w W5 (w.heap.size + 1 + 1) (.slice none 0 0)) := Lib.hid ⟨Z04.out.lo, Nat.lt_of_lt_of_le Z04.out.lt hw5, (World.cell?_of_block (a := ⟨w.heap.size + 1 + 1, 0, none⟩) (blk (w.heap.size + 1 + 1) Z04.out.lt (by omega) (by omega))).trans Z04.out.cell, (World.frozen?_of_block (a := ⟨w.heap.size + 1 + 1, 0, none⟩) (blk (w.heap.size + 1 + 1) Z04.out.lt (by omega) (by omega))).trans Z04.out.free⟩
      have Z15 : Hid (TBx w W5 (w.heap.size + 1 + 1 + 1) ⟨0, 0, 0, 0, 0, 0, 0⟩ (.slice none 0 0) (.slice none 0 0)) := Lib.hid ⟨Z14.out.lo, Z14.out.bx.of_block (blk (w.heap.size + 1 + 1 + 1) Z14.out.bx.lt (by omega) (by omega))⟩
      have S5 := Lib.hid (SL.of_blocks S4.out (blk w.heap.size (by omega) (by omega) (by omega)) (blk (w.heap.size + 1) (by omega) (by omega) (by omega)))
      have HB5 := Lib.hid (HB4.out.trans (ha7.below (B := w.heap.size) HB4.out.size fun q h => ⟨by omega, by omega⟩))
      have hQ5 : ∀ q, ((lo ≤ q ∧ q < hi) ∨ W4.heap.size ≤ q) → w.heap.size + 4 ≤ q := fun q h => by omega
      have O7 := Lib.hid ho7
      have K7 := Lib.hid hc7
      clear hc7 ho7 blk ha7 r4 hoT S4 R4 Z04 Z14 HB4
      rcases hf : Go.Proofs.YthbbpfgjbidbhaaGreatDoor.ct.fitB C S with _ | _
      · have HF : Hid (Go.Proofs.YthbbpfgjbidbhaaGreatDoor.ct.cmB C x R S z = false) := Lib.hid (by simp [Go.Proofs.YthbbpfgjbidbhaaGreatDoor.ct.cmB, hf])
        have HCF : Hid (apF C ⟨x.i, x.s, 2, x.b, L, H, z⟩ R S = C) := Lib.hid (if_neg (by rw [hf]; exact Bool.false_ne_true))
        clear hf
        go_wp2_with fail
        have hS5' := S5.out
        obtain ⟨c0, t0, t1, t2, t3, t4, t5, t6, t7, t8⟩ := hS5'
        have k0 := K7.out
        go_region_law (go_simp; go_at_call 28; refine (HCt.out _ (HB5.out.trans ((show Below W5.heap.size W5 W5.drew from (Below.refl _ W5).drew).mono HB5.out.size))).mono ?_; rintro e V6 ⟨u6, v6, rfl, ho6, hb6⟩; have hb56 : Below W5.heap.size W5 V6 := (Below.refl W5.heap.size W5).drew.trans hb6; have hq6 := OT.of ho6; obtain ⟨A6, c6, B6, d6, rfl, rfl, _, _⟩ := hq6.form HLR.out HLS.out; have Z06 := Z05.out.call hb56; have Z16 := Z15.out.call hb56; have k6 := (hb56.cell (p := ⟨sb, 0, none⟩) (by simp only; omega)).trans K7.out; have r0 := Z06.cell; have r1 := Z06.free; obtain ⟨z0, z1, z2, z3, z4, z5, z6, z7, z8⟩ := Z16.bx.tb; have y0 := Z16.bx.fz 0; have y1 := Z16.bx.fz 1; have y2 := Z16.bx.fz 2; have y3 := Z16.bx.fz 3; have y4 := Z16.bx.fz 4; have y5 := Z16.bx.fz 5; have y6 := Z16.bx.fz 6; have y7 := Z16.bx.fz 7; have y8 := Z16.bx.fz 8)
        all_goals
          have F0 := fin1 (s := .slice A7 6 c7) (x := x) (u := .slice A6 n c6) (v := .slice B6 n2 d6) Z06 Z16 (by omega)
          have O9 := O7.out.below hb56
          have hlo6 : w.heap.size + 4 ≤ W5.drew.heap.size := by simp only [World.size_drew]; omega
          have HB6 := HB5.out.trans (hb56.mono HB5.out.size)
          clear r0 r1 z0 z1 z2 z3 z4 z5 z6 z7 z8 y0 y1 y2 y3 y4 y5 y6 y7 y8 k0 k6 t0 t1 t2 t3 t4 t5 t6 t7 t8 c0
          generalize ((((((((((V6.setCell _ _).setCell _ _).setCell _ _).setCell _ _).setCell _ _).setCell _ _).setCell _ _).setCell _ _).setCell _ _).setCell _ _) = Wf at F0 ⊢
          have F := Lib.hid F0
          clear F0
          go_wp2_with fail
          have es := F.out.st
          obtain ⟨e0, e1, e2, e3, e4, e5, e6, e7, e8⟩ := F.out.tb
          obtain ⟨hO, hT, hB9⟩ := fin_end O9 hQ5 hq6 hlo6 (Nat.le_refl _) HB6 F.out
          refine bodyPost_ret (v := .tuple #[.agg #[.slice A7 6 c7], .agg #[.int .i64 x.i, .int .i64 x.s, .int .i64 x.t, .int .i64 x.b, .int .i64 x.l, .int .i64 x.h, .int .i64 x.c, .slice A6 n c6, .slice B6 n2 d6], .bool false]) (by simp [results, Tryz.results9, go_sem, es, e0, e1, e2, e3, e4, e5, e6, e7, e8]) rfl ?_
          rw [HCF.out] at hO
          rw [show Go.Proofs.YthbbpfgjbidbhaaGreatDoor.ct.cmC C x R S z = C from if_neg (by rw [HF.out]; exact Bool.false_ne_true), show Go.Proofs.YthbbpfgjbidbhaaGreatDoor.ct.cmX C x R S z = x from if_neg (by rw [HF.out]; exact Bool.false_ne_true), HF.out]
          exact ⟨_, _, _, _, _, _, rfl, hO, hT, hB9⟩
      · have HF : Hid (Go.Proofs.YthbbpfgjbidbhaaGreatDoor.ct.cmB C x R S z = true) := Lib.hid (by simp [Go.Proofs.YthbbpfgjbidbhaaGreatDoor.ct.cmB, hf, HMAY.out])
        have HCF : Hid (apF C ⟨x.i, x.s, 2, x.b, L, H, z⟩ R S = Go.Proofs.YthbbpfgjbidbhaaGreatDoor.ct.cmC C x R S z) := Lib.hid (by rw [Go.Proofs.YthbbpfgjbidbhaaGreatDoor.ct.cmC, if_pos HF.out, apF, if_pos hf, HH.out])
        have HXF : Hid (Go.Proofs.YthbbpfgjbidbhaaGreatDoor.ct.cmX C x R S z = ⟨x.i, x.s, 2, x.b, L, H, z⟩) := Lib.hid (by rw [Go.Proofs.YthbbpfgjbidbhaaGreatDoor.ct.cmX, if_pos HF.out, HL.out, HH.out])
        clear hf
        go_wp2_with fail
        have k0 := K7.out
        obtain ⟨b0, b1, b2, b3, b4, b5, b6, b7, b8⟩ := T5.out.bx.tb
        have r0 := Z05.out.cell
        have r1 := Z05.out.free
        obtain ⟨z0, z1, z2, z3, z4, z5, z6, z7, z8⟩ := Z15.out.bx.tb
        have y0 := Z15.out.bx.fz 0
        have y1 := Z15.out.bx.fz 1
        have y2 := Z15.out.bx.fz 2
        have y3 := Z15.out.bx.fz 3
        have y4 := Z15.out.bx.fz 4
        have y5 := Z15.out.bx.fz 5
        have y6 := Z15.out.bx.fz 6
        have y7 := Z15.out.bx.fz 7
        have y8 := Z15.out.bx.fz 8
        go_region
        have F0 := (fin1 (s := .slice A7 6 c7) (x := ⟨x.i, x.s, 2, x.b, L, H, z⟩) (u := .slice A9 n c9) (v := .slice B9 n2 d9) Z05.out Z15.out (by omega)).drew
        clear k0 b0 b1 b2 b3 b4 b5 b6 b7 b8 r0 r1 z0 z1 z2 z3 z4 z5 z6 z7 z8 y0 y1 y2 y3 y4 y5 y6 y7 y8
        generalize World.drew _ = Wf at F0 ⊢
        have F := Lib.hid F0
        clear F0
        go_wp2_with fail
        have es := F.out.st
        obtain ⟨e0, e1, e2, e3, e4, e5, e6, e7, e8⟩ := F.out.tb
        obtain ⟨hO, hT, hB9⟩ := fin_end O7.out hQ5 OT5.out (by omega) (by omega) HB5.out F.out
        refine bodyPost_ret (v := .tuple #[.agg #[.slice A7 6 c7], .agg #[.int .i64 x.i, .int .i64 x.s, .int .i64 2, .int .i64 x.b, .int .i64 L, .int .i64 H, .int .i64 z, .slice A9 n c9, .slice B9 n2 d9], .bool true]) (by simp [results, Tryz.results9, go_sem, es, e0, e1, e2, e3, e4, e5, e6, e7, e8]) rfl ?_
        rw [HCF.out] at hO
        rw [HXF.out, HF.out]
        exact ⟨_, _, _, _, _, _, rfl, hO, hT, hB9⟩

end Go.Proofs.YthbbpfgjbidbhaaGreatDoor.cmi
