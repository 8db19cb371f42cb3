/- LockOwner and LocksOf of the program and of the model: what each answers. -/
import Derived.Test.YtdfhnngcddaccaaDtw
import Derived.Test.YtdfhnngcddaccaaDlz
import Derived.Test.YtdfhnngcddaccaaVow
import Derived.Test.YtdfhnngcddaccaaVal
import Derived.Test.YtdfhnngcddaccaaFind
import Derived.WalkKit
import Derived.ProofKit
import Derived.Below
import Derived.Lib.Hide
import Derived.LoopTactic
import Derived.Outline
import Derived.IntWalk
import Derived.Test.YtdfhnngcddaccaaRq
import Derived.Shelf.Abstract
import Derived.Lib.MinMax
import Derived.Deep.RegionHeld3
import Derived.Test.YtdfhnngcddaccaaLk
import Derived.Test.YtdfhnngcddaccaaTvs
import Derived.Deep.QuietTactic
import Derived.BigQuiet
import Derived.StillTailTactics
import Derived.Test.YtdfhnngcddaccaaTv
import Derived.Test.YtdfhnngcddaccaaSt
import Derived.Deep.OwnRows
import Derived.Test.YtdfhnngcddaccaaFr
import Derived.Test.YtdfhnngcddaccaaEl2
import Derived.Laws.AppendOwn
import Derived.Laws.MakeOwn
import Derived.Laws.Entries
import Derived.OwnWalk
import Derived.Test.YtdfhnngcddaccaaRx
import Derived.Test.YtdfhnngcddaccaaBx
import Derived.Test.YtdfhnngcddaccaaCl
/- The model's DrawChooseVersion and DrawWriteCode: a drawn store, a drawn transaction, a key; drawn locks besides. -/
namespace Go.Proofs.Ytdfhnngcddaccaa.dcv
open Go.ChangeShapes Go.WideShapes Go.ChangeAt Go.RowKit
open Go.Proofs.Ytdfhnngcddaccaa.el2 Go.Proofs.Ytdfhnngcddaccaa.tx Go.Proofs.Ytdfhnngcddaccaa.ap Go.Proofs.Ytdfhnngcddaccaa.bx Go.Proofs.Ytdfhnngcddaccaa.ad Go.Proofs.Ytdfhnngcddaccaa.sf Go.Proofs.Ytdfhnngcddaccaa.dr Go.Proofs.Ytdfhnngcddaccaa.drt Go.Proofs.Ytdfhnngcddaccaa.dpr Go.Proofs.Ytdfhnngcddaccaa.drh Go.Proofs.Ytdfhnngcddaccaa.dtw
open Go.Proofs.Ytdfhnngcddaccaa.cur (CurAt CodeAt Kp Only below_calls pick_calls new_calls cur_new)
open Go.Proofs.Ytdfhnngcddaccaa.vers (new2)
open Go.Proofs.Ytdfhnngcddaccaa.sl (Ver)
open Go.Proofs.Ytdfhnngcddaccaa.st (Rs)
set_option linter.unusedVariables false
set_option linter.unusedSimpArgs false
/-- a drawn store, a drawn transaction, a key -/
def DCV (w : World) (e : Ending) (w' : World) : Prop :=
  ∃ (D : Option Addr) (N cN : Nat) (C : List (List Ver)) (x : Hd) (A : Option Addr) (n c : Nat) (R : List E2) (A2 : Option Addr) (n2 c2 : Nat) (S : List E2) (k : Int), e = .returned (.tuple #[.agg #[.slice D N cN], txv x (.slice A n c) (.slice A2 n2 c2), .int .i64 k]) ∧ -1 ≤ k ∧ k ≤ 6 ∧ N ≤ 6 ∧ n ≤ 5 ∧ n2 ≤ 5 ∧ Rs w' w'.heap.size D N C ∧ OwnT w' w.heap.size (.slice A n c) n R (.slice A2 n2 c2) n2 S ∧ Below w.heap.size w w'
set_option maxRecDepth 100000 in
set_option maxHeartbeats 6400000 in
theorem draw_cv (a : Option Addr) (len cap : Nat) (w : World) (hl : len ≤ 1048576) (hcode : CodeAt w w.heap.size a len) :
    Calls Try.prog 10 #[.slice a len cap] w (DCV w) := by
  have hb0 := new2 w (.cells #[.slice none 0 0] 26) (.cells #[.int .i64 0, .int .i64 0, .int .i64 0, .int .i64 0, .int .i64 0, .int .i64 0, .int .i64 0, .slice none 0 0, .slice none 0 0] 30)
  have HP := Lib.hid (draw_pair a len cap ((w.alloc (.cells #[.slice none 0 0] 26)).alloc (.cells #[.int .i64 0, .int .i64 0, .int .i64 0, .int .i64 0, .int .i64 0, .int .i64 0, .int .i64 0, .slice none 0 0, .slice none 0 0] 30)) hl (code_more (hcode.below (Nat.le_refl _) hb0) hb0.size))
  have HC := Lib.hid hcode
  clear hcode
  go_enter Try.func10, Try.ntmps10
  go_wp2_with fail
  have zs : Sx ((w.alloc (.cells #[.slice none 0 0] 26)).alloc (.cells #[.int .i64 0, .int .i64 0, .int .i64 0, .int .i64 0, .int .i64 0, .int .i64 0, .int .i64 0, .slice none 0 0, .slice none 0 0] 30)) w.heap.size (.slice none 0 0) := (Sx.new w (.slice none 0 0)).of_block ((new1 (w.alloc (.cells #[.slice none 0 0] 26)) (.cells #[.int .i64 0, .int .i64 0, .int .i64 0, .int .i64 0, .int .i64 0, .int .i64 0, .int .i64 0, .slice none 0 0, .slice none 0 0] 30)).block w.heap.size (by simp))
  have zr := Bx.zero (w.alloc (.cells #[.slice none 0 0] 26))
  rw [show (w.alloc (.cells #[.slice none 0 0] 26)).heap.size = w.heap.size + 1 by simp] at zr
  have hs0 : ((w.alloc (.cells #[.slice none 0 0] 26)).alloc (.cells #[.int .i64 0, .int .i64 0, .int .i64 0, .int .i64 0, .int .i64 0, .int .i64 0, .int .i64 0, .slice none 0 0, .slice none 0 0] 30)).heap.size = w.heap.size + 2 := by simp
  generalize (w.alloc _).alloc _ = w0 at hb0 zs zr hs0 HP ⊢
  have HB0 := Lib.hid hb0
  have hp := HP.out
  unfold DP at hp
  rw [hs0] at hp
  have HP := Lib.hid hp
  clear hb0 hp
  refine HP.out.mono ?_
  rintro e W1 ⟨D, N, cN, C, x, A, n, c, R, A2, n2, c2, S, rfl, ⟨hN, _⟩, hn, hn2, hrs, hown, hcu, hb1, hs1⟩
  have HRS := Lib.hid hrs
  have hs0' : w.heap.size + 2 ≤ w0.heap.size := by omega
  rw [← hs0] at hb1
  have hb01 := HB0.out.trans (hb1.mono HB0.out.size)
  have zs1 := zs.of_block (hb1.block w.heap.size (by omega))
  have zr1 := zr.of_block (hb1.block (w.heap.size + 1) (by omega))
  have hnn := new2 W1 (.cells #[.slice D N cN] 26) (.cells #[.int .i64 x.i, .int .i64 x.s, .int .i64 x.t, .int .i64 x.b, .int .i64 x.l, .int .i64 x.h, .int .i64 x.c, .slice A n c, .slice A2 n2 c2] 30)
  have st3 := st.up (.cells #[.int .i64 x.i, .int .i64 x.s, .int .i64 x.t, .int .i64 x.b, .int .i64 x.l, .int .i64 x.h, .int .i64 x.c, .slice A n c, .slice A2 n2 c2] 30) (st.one_cell W1 (.slice D N cN) 26) (by simp)
  have bx3 := Bx.new (W1.alloc (.cells #[.slice D N cN] 26)) x (.slice A n c) (.slice A2 n2 c2)
  rw [show (W1.alloc (.cells #[.slice D N cN] 26)).heap.size = W1.heap.size + 1 by simp] at bx3
  have zz : ZZ w ((W1.alloc (.cells #[.slice D N cN] 26)).alloc (.cells #[.int .i64 x.i, .int .i64 x.s, .int .i64 x.t, .int .i64 x.b, .int .i64 x.l, .int .i64 x.h, .int .i64 x.c, .slice A n c, .slice A2 n2 c2] 30)) ((W1.alloc (.cells #[.slice D N cN] 26)).alloc (.cells #[.int .i64 x.i, .int .i64 x.s, .int .i64 x.t, .int .i64 x.b, .int .i64 x.l, .int .i64 x.h, .int .i64 x.c, .slice A n c, .slice A2 n2 c2] 30)) (w.heap.size + 4) W1.heap.size a len cap x A n c R A2 n2 c2 S D N cN := ⟨st3, bx3, zs1.of_block (hnn.block w.heap.size (by omega)), zr1.of_block (hnn.block (w.heap.size + 1) (by omega)), (hown.more (by omega)).keep hnn, hb01.trans (hnn.mono (by have := hb01.size; omega)), (show CurAt W1 (w.heap.size + 4) a len cap from hcu).grown (row := none) ⟨hnn.os, hnn.tape, hnn.output, hnn.size, fun k hk _ => hnn.block k hk⟩ (by simp), Nat.le_refl _, fun _ _ _ => rfl⟩
  have hl3 : W1.heap.size + 2 ≤ ((W1.alloc (.cells #[.slice D N cN] 26)).alloc (.cells #[.int .i64 x.i, .int .i64 x.s, .int .i64 x.t, .int .i64 x.b, .int .i64 x.l, .int .i64 x.h, .int .i64 x.c, .slice A n c, .slice A2 n2 c2] 30)).heap.size := by simp
  have hz3 : w.heap.size + 5 ≤ W1.heap.size := by omega
  have hq3 : ∀ q, q < W1.heap.size → ((W1.alloc (.cells #[.slice D N cN] 26)).alloc (.cells #[.int .i64 x.i, .int .i64 x.s, .int .i64 x.t, .int .i64 x.b, .int .i64 x.l, .int .i64 x.h, .int .i64 x.c, .slice A n c, .slice A2 n2 c2] 30)).heap[q]? = W1.heap[q]? := fun q hq => hnn.block q (by omega)
  clear hrs hown hcu zs1 zr1 zs zr hb01 hb1 hs0 hs0' HP HB0 st3 bx3 hnn hs1
  go_wp2_with fail
  generalize hsb : W1.heap.size = sb at zz hl3 hz3 hq3 ⊢
  generalize (W1.alloc _).alloc _ = W3 at zz hl3 hq3 ⊢
  have Z3 := Lib.hid zz
  have HQ3 := Lib.hid hq3
  have HK := Lib.hid (fun W (z : ZZ w W3 W (w.heap.size + 4) sb a len cap x A n c R A2 n2 c2 S D N cN) => below_calls (w.heap.size + 4) w.heap.size a len cap 8 W hl z.cur (HC.out.below (Nat.le_refl _) z.bel) (by omega) (by omega))
  have hc3 : W3.cell? ⟨sb, 0, none⟩ = some (.slice D N cN) ∧ W3.cell? ⟨sb + 1, 0, none⟩ = some (.int .i64 x.i) ∧ W3.cell? ⟨sb + 1, 1, none⟩ = some (.int .i64 x.s) ∧ W3.cell? ⟨sb + 1, 2, none⟩ = some (.int .i64 x.t) ∧ W3.cell? ⟨sb + 1, 3, none⟩ = some (.int .i64 x.b) ∧ W3.cell? ⟨sb + 1, 4, none⟩ = some (.int .i64 x.l) ∧ W3.cell? ⟨sb + 1, 5, none⟩ = some (.int .i64 x.h) ∧ W3.cell? ⟨sb + 1, 6, none⟩ = some (.int .i64 x.c) ∧ W3.cell? ⟨sb + 1, 7, none⟩ = some (.slice A n c) ∧ W3.cell? ⟨sb + 1, 8, none⟩ = some (.slice A2 n2 c2) := zz.cells
  have hc3d : W3.drew.cell? ⟨sb, 0, none⟩ = some (.slice D N cN) ∧ W3.drew.cell? ⟨sb + 1, 0, none⟩ = some (.int .i64 x.i) ∧ W3.drew.cell? ⟨sb + 1, 1, none⟩ = some (.int .i64 x.s) ∧ W3.drew.cell? ⟨sb + 1, 2, none⟩ = some (.int .i64 x.t) ∧ W3.drew.cell? ⟨sb + 1, 3, none⟩ = some (.int .i64 x.b) ∧ W3.drew.cell? ⟨sb + 1, 4, none⟩ = some (.int .i64 x.l) ∧ W3.drew.cell? ⟨sb + 1, 5, none⟩ = some (.int .i64 x.h) ∧ W3.drew.cell? ⟨sb + 1, 6, none⟩ = some (.int .i64 x.c) ∧ W3.drew.cell? ⟨sb + 1, 7, none⟩ = some (.slice A n c) ∧ W3.drew.cell? ⟨sb + 1, 8, none⟩ = some (.slice A2 n2 c2) := zz.drew.cells
  obtain ⟨st0, t0, t1, t2, t3, t4, t5, t6, t7, t8⟩ := hc3
  have hbt : sb + 1 < W3.heap.size := by omega
  clear zz hq3
  try go_wp2_with fail
  go_region_held3 (fun w' => w'.cell? ⟨sb, 0, none⟩ = some (.slice D N cN) ∧ w'.cell? ⟨sb + 1, 0, none⟩ = some (.int .i64 x.i) ∧ w'.cell? ⟨sb + 1, 1, none⟩ = some (.int .i64 x.s) ∧ w'.cell? ⟨sb + 1, 2, none⟩ = some (.int .i64 x.t) ∧ w'.cell? ⟨sb + 1, 3, none⟩ = some (.int .i64 x.b) ∧ w'.cell? ⟨sb + 1, 4, none⟩ = some (.int .i64 x.l) ∧ w'.cell? ⟨sb + 1, 5, none⟩ = some (.int .i64 x.h) ∧ w'.cell? ⟨sb + 1, 6, none⟩ = some (.int .i64 x.c) ∧ w'.cell? ⟨sb + 1, 7, none⟩ = some (.slice A n c) ∧ w'.cell? ⟨sb + 1, 8, none⟩ = some (.slice A2 n2 c2)) (first | with_reducible exact hc3d | with_reducible exact hc4 | with_reducible exact hc5 | (first | ((repeat' apply And.intro) <;> first | with_reducible exact (put9_celld (by simp only; omega)).trans (by assumption) | with_reducible exact (cell1d (by simp only; omega)).trans (by assumption) | with_reducible exact (put9_cell (by simp only; omega)).trans (by assumption) | with_reducible exact (cell1 (by simp only; omega)).trans (by assumption) | with_reducible exact (put9_celld (by simp only; omega)).trans ((cell1 (by simp only; omega)).trans (by assumption)) | with_reducible exact (cell1d (by simp only; omega)).trans ((put9_cell (by simp only; omega)).trans (by assumption)) | with_reducible exact (put9_cell (by simp only; omega)).trans ((cell1 (by simp only; omega)).trans (by assumption)) | with_reducible exact (cell1 (by simp only; omega)).trans ((put9_cell (by simp only; omega)).trans (by assumption))) | go_keep)) (first | (go_at_call 34; (with_reducible refine (HK.out W3.drew Z3.out.drew).mono ?_); rintro e W5 ⟨q, rfl, hq0, hq1, hcu5, ho5⟩; have z5 := Z3.out.drew.only (by omega) (by omega) (by omega) ho5 hcu5; have hc5 := z5.cells; have s0 := z5.zs.cell; have g0 := z5.zs.fz; obtain ⟨z0, z1, z2, z3, z4x, z5x, z6, z7, z8⟩ := z5.zr.tb; have y0 := z5.zr.fz 0; have y1 := z5.zr.fz 1; have y2 := z5.zr.fz 2; have y3 := z5.zr.fz 3; have y4 := z5.zr.fz 4; have y5 := z5.zr.fz 5; have y6 := z5.zr.fz 6; have y7 := z5.zr.fz 7; have y8 := z5.zr.fz 8; obtain ⟨st5, e0, e1, e2, e3, e4, e5, e6, e7, e8⟩ := z5.cells))
  all_goals
    have hF := fun W' hW => fin_19 (W' := W') (x := x) (A := A) (n := n) (c := c) (R := R) (A2 := A2) (n2 := n2) (c2 := c2) (S := S) (D := D) (N := N) (cN := cN) z5.zs z5.zr z5.own z5.bel (Nat.le_refl _) (Nat.le_succ _) (by omega) (by omega) (by omega) hW
    have hG := fun W' hW => fin_91 (W' := W') (x := x) (A := A) (n := n) (c := c) (R := R) (A2 := A2) (n2 := n2) (c2 := c2) (S := S) (D := D) (N := N) (cN := cN) z5.zs z5.zr z5.own z5.bel (Nat.le_refl _) (Nat.le_succ _) (by omega) (by omega) (by omega) hW
    have hsz5 := z5.sz
    have hblk5 := z5.blk
    clear t0 t1 t2 t3 t4 t5 t6 t7 t8 st0 st5 s0 g0 z0 z1 z2 z3 z4x z5x z6 z7 z8 y0 y1 y2 y3 y4 y5 y6 y7 y8 e0 e1 e2 e3 e4 e5 e6 e7 e8 hc3d hc5
    try go_wp2_with fail
    generalize hW : World.setCell _ _ _ = W9
    obtain ⟨e9, ⟨e0, e1, e2, e3, e4, e5, e6, e7, e8⟩, hO, hB9, hz9, hk9⟩ := (by first | exact hF W9 hW | exact hG W9 hW : Fin6 w W5 W9 w.heap.size (w.heap.size + 1) x A n c R A2 n2 c2 S D N cN (w.heap.size + 5))
    have hrs9 := HRS.out W9 (by omega) (fun q h1 h2 => (hk9 q (by omega) (by omega)).trans ((hblk5 q (by omega) (by omega)).trans (HQ3.out q (by omega))))
    have hwq : IntKind.i64.wrap (q - 1) = q - 1 := by rw [IntKind.wrap_i64]; omega
    exact bodyPost_ret (v := .tuple #[.agg #[.slice D N cN], txv x (.slice A n c) (.slice A2 n2 c2), .int .i64 (q - 1)]) (by simp [results, Try.results10, go_sem, e0, e1, e2, e3, e4, e5, e6, e7, e8, e9, hwq]) rfl ⟨D, N, cN, C, x, A, n, c, R, A2, n2, c2, S, q - 1, rfl, by omega, by omega, hN, hn, hn2, hrs9, hO.more (by omega), hB9⟩
theorem zz_kp {w W3 W W' : World} {b sb len cap n c n2 c2 N cN : Nat} {a A A2 D : Option Addr} {x : Hd} {R S : List E2} (h : ZZ w W3 W b sb a len cap x A n c R A2 n2 c2 S D N cN) (hb : w.heap.size + 2 ≤ b) (hb2 : b < w.heap.size + 5) (hb3 : b < sb) (hs : sb + 1 < W.heap.size) (hk : Kp w.heap.size b W W') (hc : CurAt W' b a len cap) : ZZ w W3 W' b sb a len cap x A n c R A2 n2 c2 S D N cN where
  st := (hk.cell (p := ⟨sb, 0, none⟩) (by simp only; omega) (by simp only; omega)).trans h.st
  bxx := h.bxx.of_block (hk.gr.block (sb + 1) (by omega) (fun e => by injection e; omega))
  zs := h.zs.of_block (hk.gr.block _ h.zs.lt (fun e => by injection e; omega))
  zr := h.zr.of_block (hk.gr.block _ h.zr.lt (fun e => by injection e; omega))
  own := ⟨dlz.own_gr h.own.1 hk.gr fun g hg e => by have := (h.own.1.lt g hg).1; injection e with e; omega, dlz.own_gr h.own.2 hk.gr fun g hg e => by have := (h.own.2.lt g hg).1; injection e with e; omega⟩
  bel := h.bel.trans hk.bel
  cur := hc
  sz := Nat.le_trans h.sz hk.size
  blk := fun q hq hne => (hk.gr.block q (Nat.lt_of_lt_of_le hq h.sz) (fun e => hne (by injection e))).trans (h.blk q hq hne)
/-- drawn locks that lie behind base -/
def DWC (w : World) (e : Ending) (w' : World) : Prop :=
  ∃ (D : Option Addr) (N cN : Nat) (C : List (List Ver)) (x : Hd) (A : Option Addr) (n c : Nat) (R : List E2) (A2 : Option Addr) (n2 c2 : Nat) (S : List E2) (A3 : Option Addr) (n3 c3 : Nat) (L : List E2) (k : Int), e = .returned (.tuple #[.agg #[.slice D N cN], .slice A3 n3 c3, txv x (.slice A n c) (.slice A2 n2 c2), .int .i64 k]) ∧ -1 ≤ k ∧ k ≤ 6 ∧ N ≤ 6 ∧ n ≤ 5 ∧ n2 ≤ 5 ∧ n3 ≤ 7 ∧ Rs w' w'.heap.size D N C ∧ OwnT w' w.heap.size (.slice A n c) n R (.slice A2 n2 c2) n2 S ∧ Vs w' w'.heap.size A3 n3 L ∧ Below w.heap.size w w'
theorem ow_of {W W' : World} {r base n : Nat} {e : TypeId} {v : Value} {xs : List Value} (hk : ∀ k, k ≠ r → k ≠ r + 1 → W'.heap[k]? = W.heap[k]?) (h : W.ownsRow base e 2 v n xs) (hb : r + 1 < base) : W'.ownsRow base e 2 v n xs :=
  ⟨h.1, by
    rcases h.2 with h0 | ⟨g, cap, cur, e1, h1, h2, h3⟩
    · exact .inl h0
    · exact .inr ⟨g, cap, cur, e1, h1, (hk g (by omega) (by omega)).trans h2, h3⟩⟩
set_option maxRecDepth 100000 in
set_option maxHeartbeats 6400000 in
theorem draw_wc (a : Option Addr) (len cap : Nat) (w : World) (hl : len ≤ 1048576) (hcode : CodeAt w w.heap.size a len) :
    Calls Try.prog 16 #[.slice a len cap] w (DWC w) := by
  have hb0 := new2 w (.cells #[.slice none 0 0] 26) (.cells #[.int .i64 0, .int .i64 0, .int .i64 0, .int .i64 0, .int .i64 0, .int .i64 0, .int .i64 0, .slice none 0 0, .slice none 0 0] 30)
  have HP := Lib.hid (draw_pair a len cap ((w.alloc (.cells #[.slice none 0 0] 26)).alloc (.cells #[.int .i64 0, .int .i64 0, .int .i64 0, .int .i64 0, .int .i64 0, .int .i64 0, .int .i64 0, .slice none 0 0, .slice none 0 0] 30)) hl (code_more (hcode.below (Nat.le_refl _) hb0) hb0.size))
  have HC := Lib.hid hcode
  clear hcode
  go_enter Try.func16, Try.ntmps16
  go_wp2_with fail
  have zs : Sx ((w.alloc (.cells #[.slice none 0 0] 26)).alloc (.cells #[.int .i64 0, .int .i64 0, .int .i64 0, .int .i64 0, .int .i64 0, .int .i64 0, .int .i64 0, .slice none 0 0, .slice none 0 0] 30)) w.heap.size (.slice none 0 0) := (Sx.new w (.slice none 0 0)).of_block ((new1 (w.alloc (.cells #[.slice none 0 0] 26)) (.cells #[.int .i64 0, .int .i64 0, .int .i64 0, .int .i64 0, .int .i64 0, .int .i64 0, .int .i64 0, .slice none 0 0, .slice none 0 0] 30)).block w.heap.size (by simp))
  have zr := Bx.zero (w.alloc (.cells #[.slice none 0 0] 26))
  rw [show (w.alloc (.cells #[.slice none 0 0] 26)).heap.size = w.heap.size + 1 by simp] at zr
  have hs0 : ((w.alloc (.cells #[.slice none 0 0] 26)).alloc (.cells #[.int .i64 0, .int .i64 0, .int .i64 0, .int .i64 0, .int .i64 0, .int .i64 0, .int .i64 0, .slice none 0 0, .slice none 0 0] 30)).heap.size = w.heap.size + 2 := by simp
  generalize (w.alloc _).alloc _ = w0 at hb0 zs zr hs0 HP ⊢
  have HB0 := Lib.hid hb0
  have hp := HP.out
  unfold DP at hp
  rw [hs0] at hp
  have HP := Lib.hid hp
  clear hb0 hp
  refine HP.out.mono ?_
  rintro e W1 ⟨D, N, cN, C, x, A, n, c, R, A2, n2, c2, S, rfl, ⟨hN, _⟩, hn, hn2, hrs, hown, hcu, hb1, hs1⟩
  have HRS := Lib.hid hrs
  have hs0' : w.heap.size + 2 ≤ w0.heap.size := by omega
  rw [← hs0] at hb1
  have hb01 := HB0.out.trans (hb1.mono HB0.out.size)
  have zs1 := zs.of_block (hb1.block w.heap.size (by omega))
  have zr1 := zr.of_block (hb1.block (w.heap.size + 1) (by omega))
  have hnn := new2 W1 (.cells #[.slice D N cN] 26) (.cells #[.int .i64 x.i, .int .i64 x.s, .int .i64 x.t, .int .i64 x.b, .int .i64 x.l, .int .i64 x.h, .int .i64 x.c, .slice A n c, .slice A2 n2 c2] 30)
  have st3 := st.up (.cells #[.int .i64 x.i, .int .i64 x.s, .int .i64 x.t, .int .i64 x.b, .int .i64 x.l, .int .i64 x.h, .int .i64 x.c, .slice A n c, .slice A2 n2 c2] 30) (st.one_cell W1 (.slice D N cN) 26) (by simp)
  have bx3 := Bx.new (W1.alloc (.cells #[.slice D N cN] 26)) x (.slice A n c) (.slice A2 n2 c2)
  rw [show (W1.alloc (.cells #[.slice D N cN] 26)).heap.size = W1.heap.size + 1 by simp] at bx3
  have zz : ZZ w ((W1.alloc (.cells #[.slice D N cN] 26)).alloc (.cells #[.int .i64 x.i, .int .i64 x.s, .int .i64 x.t, .int .i64 x.b, .int .i64 x.l, .int .i64 x.h, .int .i64 x.c, .slice A n c, .slice A2 n2 c2] 30)) ((W1.alloc (.cells #[.slice D N cN] 26)).alloc (.cells #[.int .i64 x.i, .int .i64 x.s, .int .i64 x.t, .int .i64 x.b, .int .i64 x.l, .int .i64 x.h, .int .i64 x.c, .slice A n c, .slice A2 n2 c2] 30)) (w.heap.size + 4) W1.heap.size a len cap x A n c R A2 n2 c2 S D N cN := ⟨st3, bx3, zs1.of_block (hnn.block w.heap.size (by omega)), zr1.of_block (hnn.block (w.heap.size + 1) (by omega)), (hown.more (by omega)).keep hnn, hb01.trans (hnn.mono (by have := hb01.size; omega)), (show CurAt W1 (w.heap.size + 4) a len cap from hcu).grown (row := none) ⟨hnn.os, hnn.tape, hnn.output, hnn.size, fun k hk _ => hnn.block k hk⟩ (by simp), Nat.le_refl _, fun _ _ _ => rfl⟩
  have hl3 : W1.heap.size + 2 ≤ ((W1.alloc (.cells #[.slice D N cN] 26)).alloc (.cells #[.int .i64 x.i, .int .i64 x.s, .int .i64 x.t, .int .i64 x.b, .int .i64 x.l, .int .i64 x.h, .int .i64 x.c, .slice A n c, .slice A2 n2 c2] 30)).heap.size := by simp
  have hz3 : w.heap.size + 5 ≤ W1.heap.size := by omega
  have hq3 : ∀ q, q < W1.heap.size → ((W1.alloc (.cells #[.slice D N cN] 26)).alloc (.cells #[.int .i64 x.i, .int .i64 x.s, .int .i64 x.t, .int .i64 x.b, .int .i64 x.l, .int .i64 x.h, .int .i64 x.c, .slice A n c, .slice A2 n2 c2] 30)).heap[q]? = W1.heap[q]? := fun q hq => hnn.block q (by omega)
  clear hrs hown hcu zs1 zr1 zs zr hb01 hb1 hs0 hs0' HP HB0 st3 bx3 hnn hs1
  go_wp2_with fail
  generalize hsb : W1.heap.size = sb at zz hl3 hz3 hq3 ⊢
  generalize (W1.alloc _).alloc _ = W3 at zz hl3 hq3 ⊢
  have Z3 := Lib.hid zz
  have HQ3 := Lib.hid hq3
  have HK := Lib.hid (fun W (z : ZZ w W3 W (w.heap.size + 4) sb a len cap x A n c R A2 n2 c2 S D N cN) => below_calls (w.heap.size + 4) w.heap.size a len cap 8 W hl z.cur (HC.out.below (Nat.le_refl _) z.bel) (by omega) (by omega))
  have HL := Lib.hid (fun W (z : ZZ w W3 W (w.heap.size + 4) sb a len cap x A n c R A2 n2 c2 S D N cN) => dlz.draw_lks (w.heap.size + 4) w.heap.size a len cap W hl z.cur (HC.out.below (Nat.le_refl _) z.bel) (by omega))
  have hc3 : W3.cell? ⟨sb, 0, none⟩ = some (.slice D N cN) ∧ W3.cell? ⟨sb + 1, 0, none⟩ = some (.int .i64 x.i) ∧ W3.cell? ⟨sb + 1, 1, none⟩ = some (.int .i64 x.s) ∧ W3.cell? ⟨sb + 1, 2, none⟩ = some (.int .i64 x.t) ∧ W3.cell? ⟨sb + 1, 3, none⟩ = some (.int .i64 x.b) ∧ W3.cell? ⟨sb + 1, 4, none⟩ = some (.int .i64 x.l) ∧ W3.cell? ⟨sb + 1, 5, none⟩ = some (.int .i64 x.h) ∧ W3.cell? ⟨sb + 1, 6, none⟩ = some (.int .i64 x.c) ∧ W3.cell? ⟨sb + 1, 7, none⟩ = some (.slice A n c) ∧ W3.cell? ⟨sb + 1, 8, none⟩ = some (.slice A2 n2 c2) := zz.cells
  have hc3d : W3.drew.cell? ⟨sb, 0, none⟩ = some (.slice D N cN) ∧ W3.drew.cell? ⟨sb + 1, 0, none⟩ = some (.int .i64 x.i) ∧ W3.drew.cell? ⟨sb + 1, 1, none⟩ = some (.int .i64 x.s) ∧ W3.drew.cell? ⟨sb + 1, 2, none⟩ = some (.int .i64 x.t) ∧ W3.drew.cell? ⟨sb + 1, 3, none⟩ = some (.int .i64 x.b) ∧ W3.drew.cell? ⟨sb + 1, 4, none⟩ = some (.int .i64 x.l) ∧ W3.drew.cell? ⟨sb + 1, 5, none⟩ = some (.int .i64 x.h) ∧ W3.drew.cell? ⟨sb + 1, 6, none⟩ = some (.int .i64 x.c) ∧ W3.drew.cell? ⟨sb + 1, 7, none⟩ = some (.slice A n c) ∧ W3.drew.cell? ⟨sb + 1, 8, none⟩ = some (.slice A2 n2 c2) := zz.drew.cells
  obtain ⟨st0, t0, t1, t2, t3, t4, t5, t6, t7, t8⟩ := hc3
  have hbt : sb + 1 < W3.heap.size := by omega
  have hbtd : sb + 1 < W3.drew.heap.size := hbt
  have HKP := Lib.hid (fun W4 (hk : Kp w.heap.size (w.heap.size + 4) W3.drew W4) (hc : CurAt W4 (w.heap.size + 4) a len cap) => zz_kp Z3.out.drew (by omega) (by omega) (by omega) hbtd hk hc)
  have hszd : W3.heap.size ≤ W3.drew.heap.size := Nat.le_refl _
  clear zz hq3
  try go_wp2_with fail
  go_region_held3 (fun w' => w'.cell? ⟨sb, 0, none⟩ = some (.slice D N cN) ∧ w'.cell? ⟨sb + 1, 0, none⟩ = some (.int .i64 x.i) ∧ w'.cell? ⟨sb + 1, 1, none⟩ = some (.int .i64 x.s) ∧ w'.cell? ⟨sb + 1, 2, none⟩ = some (.int .i64 x.t) ∧ w'.cell? ⟨sb + 1, 3, none⟩ = some (.int .i64 x.b) ∧ w'.cell? ⟨sb + 1, 4, none⟩ = some (.int .i64 x.l) ∧ w'.cell? ⟨sb + 1, 5, none⟩ = some (.int .i64 x.h) ∧ w'.cell? ⟨sb + 1, 6, none⟩ = some (.int .i64 x.c) ∧ w'.cell? ⟨sb + 1, 7, none⟩ = some (.slice A n c) ∧ w'.cell? ⟨sb + 1, 8, none⟩ = some (.slice A2 n2 c2)) (first | with_reducible exact hc3d | with_reducible exact hc4 | with_reducible exact hc5 | (first | ((repeat' apply And.intro) <;> first | with_reducible exact (put9_celld (by simp only; omega)).trans (by assumption) | with_reducible exact (cell1d (by simp only; omega)).trans (by assumption) | with_reducible exact (put9_cell (by simp only; omega)).trans (by assumption) | with_reducible exact (cell1 (by simp only; omega)).trans (by assumption) | with_reducible exact (put9_celld (by simp only; omega)).trans ((cell1 (by simp only; omega)).trans (by assumption)) | with_reducible exact (cell1d (by simp only; omega)).trans ((put9_cell (by simp only; omega)).trans (by assumption)) | with_reducible exact (put9_cell (by simp only; omega)).trans ((cell1 (by simp only; omega)).trans (by assumption)) | with_reducible exact (cell1 (by simp only; omega)).trans ((put9_cell (by simp only; omega)).trans (by assumption))) | go_keep)) (first | (go_at_call 42; (with_reducible refine (HL.out W3.drew Z3.out.drew).mono ?_); rintro e W4 ⟨A3, n3, c3, L, rfl, hn3, hln3, hD4⟩; have z4 := HKP.out W4 hD4.kp hD4.cur; have hc4 := z4.cells; have ow4 := hD4.own; have hsz4 := hD4.size) | (go_at_call 34; (with_reducible refine (HK.out W4 z4).mono ?_); rintro e W5 ⟨q, rfl, hq0, hq1, hcu5, ho5⟩; have z5 := z4.only (by omega) (by omega) (by omega) ho5 hcu5; have ow5 := dlz.own_gr ow4 ho5.grownBy (fun g hg e => by have := (ow4.lt g hg).1; injection e with e; omega); have hc5 := z5.cells; have s0 := z5.zs.cell; have g0 := z5.zs.fz; obtain ⟨z0, z1, z2, z3, z4x, z5x, z6, z7, z8⟩ := z5.zr.tb; have y0 := z5.zr.fz 0; have y1 := z5.zr.fz 1; have y2 := z5.zr.fz 2; have y3 := z5.zr.fz 3; have y4 := z5.zr.fz 4; have y5 := z5.zr.fz 5; have y6 := z5.zr.fz 6; have y7 := z5.zr.fz 7; have y8 := z5.zr.fz 8; obtain ⟨st5, e0, e1, e2, e3, e4, e5, e6, e7, e8⟩ := z5.cells))
  all_goals
    have hF := fun W' hW => fin_19 (W' := W') (x := x) (A := A) (n := n) (c := c) (R := R) (A2 := A2) (n2 := n2) (c2 := c2) (S := S) (D := D) (N := N) (cN := cN) z5.zs z5.zr z5.own z5.bel (Nat.le_refl _) (Nat.le_succ _) (by omega) (by omega) (by omega) hW
    have hG := fun W' hW => fin_91 (W' := W') (x := x) (A := A) (n := n) (c := c) (R := R) (A2 := A2) (n2 := n2) (c2 := c2) (S := S) (D := D) (N := N) (cN := cN) z5.zs z5.zr z5.own z5.bel (Nat.le_refl _) (Nat.le_succ _) (by omega) (by omega) (by omega) hW
    have hsz5 := z5.sz
    have hblk5 := z5.blk
    clear t0 t1 t2 t3 t4 t5 t6 t7 t8 st0 st5 s0 g0 z0 z1 z2 z3 z4x z5x z6 z7 z8 y0 y1 y2 y3 y4 y5 y6 y7 y8 e0 e1 e2 e3 e4 e5 e6 e7 e8 hc3d hc4 hc5
    try go_wp2_with fail
    generalize hW : World.setCell _ _ _ = W9
    obtain ⟨e9, ⟨e0, e1, e2, e3, e4, e5, e6, e7, e8⟩, hO, hB9, hz9, hk9⟩ := (by first | exact hF W9 hW | exact hG W9 hW : Fin6 w W5 W9 w.heap.size (w.heap.size + 1) x A n c R A2 n2 c2 S D N cN (w.heap.size + 5))
    have hrs9 := HRS.out W9 (by omega) (fun q h1 h2 => (hk9 q (by omega) (by omega)).trans ((hblk5 q (by omega) (by omega)).trans (HQ3.out q (by omega))))
    have hwq : IntKind.i64.wrap (q - 1) = q - 1 := by rw [IntKind.wrap_i64]; omega
    exact bodyPost_ret (v := .tuple #[.agg #[.slice D N cN], .slice A3 n3 c3, txv x (.slice A n c) (.slice A2 n2 c2), .int .i64 (q - 1)]) (by simp [results, Try.results16, go_sem, e0, e1, e2, e3, e4, e5, e6, e7, e8, e9, hwq]) rfl ⟨D, N, cN, C, x, A, n, c, R, A2, n2, c2, S, A3, n3, c3, L, q - 1, rfl, by omega, by omega, hN, hn, hn2, hn3, hrs9, hO.more (by omega), vow.vs_ownk (ow_of hk9 ow5 (by omega)) hln3, hB9⟩
end Go.Proofs.Ytdfhnngcddaccaa.dcv
/- The program's and the model's ReadLatest and ReadAt: what each answers; nothing that was there is written. -/
namespace Go.Proofs.Ytdfhnngcddaccaa.rd
open Go.ChangeShapes Go.WideShapes Go.ChangeAt Go.RowKit
open Go.Proofs.Ytdfhnngcddaccaa.vers Go.Proofs.Ytdfhnngcddaccaa.sl Go.Proofs.Ytdfhnngcddaccaa.ch Go.Proofs.Ytdfhnngcddaccaa.st Go.Proofs.Ytdfhnngcddaccaa.val
open Go.Proofs.Ytdfhnngcddaccaa.find (lastV vAt atI vAt_yes store5 below5 latest_spec latest_impl)
set_option linter.unusedVariables false
set_option linter.unusedSimpArgs false
/-- a box of the call's own and a zero version behind it, in a world that holds what was there -/
structure Loc (w : World) (v : Value) (W : World) : Prop where
  bel : Below w.heap.size w W
  size : w.heap.size + 2 ≤ W.heap.size
  box : W.cell? ⟨w.heap.size, 0, none⟩ = some v
  zer : At W (w.heap.size + 1) 0 ⟨0, 0, 0, 0, 0⟩
  free : ∀ i, W.frozen? ⟨w.heap.size + 1, i, none⟩ = false
theorem Loc.mk2 (w : World) (v : Value) (s t : TypeId) : Loc w v ((w.alloc (.cells #[v] s)).alloc (.cells #[.int .i64 0, .int .i64 0, .int .i64 0, .int .i64 0, .int .i64 0] t)) where
  bel := new2 _ _ _
  size := by simp
  box := up _ (one_cell w v s) (by simp)
  zer := by have := boxed (w.alloc (.cells #[v] s)) ⟨0, 0, 0, 0, 0⟩ t; simpa using this
  free := fun i => by simp
theorem Loc.call {w W W' : World} {v : Value} (h : Loc w v W) (hb : Below W.heap.size W W') : Loc w v W' where
  bel := h.bel.trans (hb.mono h.bel.size)
  size := Nat.le_trans h.size hb.size
  box := (hb.cell (p := ⟨w.heap.size, 0, none⟩) (by have := h.size; simp; omega)).trans h.box
  zer := At.keep h.zer (B := W.heap.size) (by have := h.size; omega) hb
  free := fun i => (hb.frozen (p := ⟨w.heap.size + 1, i, none⟩) (by have := h.size; simp; omega)).trans (h.free i)
noncomputable def rlB (ll : List (List Ver)) (k : Int) : Bool := stB ll && In 0 5 k
noncomputable def rlV (ll : List (List Ver)) (k : Int) : Ver := if rlB ll k = true then lastV (ll.getD k.toNat []) else ⟨0, 0, 0, 0, 0⟩
noncomputable def raB (ll : List (List Ver)) (k s : Int) : Bool := rlB ll k && decide (0 ≤ vAt (ll.getD k.toNat []) s)
noncomputable def raV (ll : List (List Ver)) (k s : Int) : Ver := if raB ll k s = true then (ll.getD k.toNat []).getD (vAt (ll.getD k.toNat []) s).toNat default else ⟨0, 0, 0, 0, 0⟩
theorem rl_st {ll : List (List Ver)} {k : Int} (h : stB ll = false) : rlB ll k = false := by simp [rlB, h]
theorem rl_in {ll : List (List Ver)} {k : Int} (h : In 0 5 k = false) : rlB ll k = false := by simp [rlB, h]
theorem rl_yes {ll : List (List Ver)} {k : Int} (h : stB ll = true) (h2 : In 0 5 k = true) : rlB ll k = true := by simp [rlB, h, h2]
theorem rlV_no {ll : List (List Ver)} {k : Int} (h : rlB ll k = false) : rlV ll k = ⟨0, 0, 0, 0, 0⟩ := by simp [rlV, h]
theorem rlV_yes {ll : List (List Ver)} {k : Int} {l : List Ver} (h : rlB ll k = true) (hl : ll[k.toNat]? = some l) : rlV ll k = lastV l := by simp [rlV, h, List.getD, hl]
theorem ra_rl {ll : List (List Ver)} {k s : Int} (h : rlB ll k = false) : raB ll k s = false := by simp [raB, h]
theorem ra_at {ll : List (List Ver)} {k s : Int} {l : List Ver} (hl : ll[k.toNat]? = some l) (h : vAt l s < 0) : raB ll k s = false := by
  have : ll.getD k.toNat [] = l := by simp [List.getD, hl]
  unfold raB
  rw [this, decide_eq_false (by omega), Bool.and_false]
theorem ra_yes {ll : List (List Ver)} {k s : Int} {l : List Ver} (h : rlB ll k = true) (hl : ll[k.toNat]? = some l) (h2 : 0 ≤ vAt l s) : raB ll k s = true := by
  have : ll.getD k.toNat [] = l := by simp [List.getD, hl]
  unfold raB
  rw [this, h, decide_eq_true h2]
  rfl
theorem raV_no {ll : List (List Ver)} {k s : Int} (h : raB ll k s = false) : raV ll k s = ⟨0, 0, 0, 0, 0⟩ := by simp [raV, h]
theorem raV_yes {ll : List (List Ver)} {k s : Int} {l : List Ver} {x : Ver} {j : Nat} (h : raB ll k s = true) (hl : ll[k.toNat]? = some l) (hj : vAt l s = j) (hx : l[j]? = some x) : raV ll k s = x := by
  have : ll.getD k.toNat [] = l := by simp [List.getD, hl]
  unfold raV
  rw [if_pos h, this, hj]
  simp [List.getD, hx]
theorem atI_range (s : Int) (l : List Ver) (k : Nat) : -1 ≤ atI s l k ∧ atI s l k < (k : Int) := by
  induction k with
  | zero => exact ⟨by simp [atI], by simp [atI]⟩
  | succ k ih =>
    unfold atI
    split
    · exact ⟨by omega, by omega⟩
    · exact ⟨ih.1, by omega⟩
theorem vAt_range {l : List Ver} (s : Int) (h : chB l = true) : -1 ≤ vAt l s ∧ vAt l s < (l.length : Int) := by
  rw [← vAt_yes rfl h]
  exact atI_range s l _
set_option maxRecDepth 100000 in
set_option maxHeartbeats 1600000 in
theorem spec_readat {w : World} {B n c : Nat} {A : Option Addr} {ll : List (List Ver)} {x : Ver} {q : Bool} (k : Int) (s : Int) (hx : raV ll k s = x) (hq : raB ll k s = q) (hn : n ≤ 140737488355328) (h1 : Rs w B A n ll) (hB : B ≤ w.heap.size) :
    Calls Try.prog 38 #[.agg #[.slice A n c], .int .i64 k, .int .i64 s] w fun e w' => e = .returned (.tuple #[.agg #[.int .i64 x.a, .int .i64 x.b, .int .i64 x.c, .int .i64 x.d, .int .i64 x.e], .bool q]) ∧ Below w.heap.size w w' := by
  have H1 := Lib.hid h1
  have hln := h1.1
  clear h1
  rcases hst : stB ll with _ | _
  · have hr := rl_st (ll := ll) (k := k) hst
    have hr := ra_rl (s := s) hr
    rw [raV_no hr] at hx
    rw [hr] at hq
    subst hx hq
    clear hr
    go_enter Try.func38, Try.ntmps38
    go_wp2_with fail
    have hL := Loc.mk2 w (.slice A n c) 26 34
    generalize ((w.alloc _).alloc _) = W0 at hL ⊢
    have L0 := Lib.hid hL
    clear hL
    refine (spec_store hn (H1.out.below (below_le L0.out.bel hB)) (by have := L0.out.size; omega)).mono ?_
    rintro e W1 ⟨rfl, hb⟩
    rw [hst]
    have L1 := Lib.hid (L0.out.call hb)
    clear hb
    obtain ⟨z0, z1, z2, z3, z4⟩ := atFlat L1.out.zer
    have g0 := L1.out.free 0
    have g1 := L1.out.free 1
    have g2 := L1.out.free 2
    have g3 := L1.out.free 3
    have g4 := L1.out.free 4
    have c0 := L1.out.box
    have hsz := L1.out.size
    simp only at z0 z1 z2 z3 z4
    go_wp2_with fail
    have hs := store5 L1.out.zer ⟨0, 0, 0, 0, 0⟩
    have hl := below5 (b := w.heap.size + 1) L1.out.bel (by omega) ⟨0, 0, 0, 0, 0⟩
    generalize (((((World.setCell _ _ _).setCell _ _).setCell _ _).setCell _ _).setCell _ _) = Wf at hs hl ⊢
    obtain ⟨s0, s1, s2, s3, s4⟩ := atFlat hs
    try simp only at s0 s1 s2 s3 s4
    exact bodyPost_ret (v := .tuple #[.agg #[.int .i64 0, .int .i64 0, .int .i64 0, .int .i64 0, .int .i64 0], .bool false]) (by simp [results, Try.results38, go_sem, s0, s1, s2, s3, s4]) rfl ⟨rfl, hl⟩
  rcases hin : In 0 5 k with _ | _
  · have hr := rl_in (ll := ll) (k := k) hin
    have hr := ra_rl (s := s) hr
    rw [raV_no hr] at hx
    rw [hr] at hq
    subst hx hq
    clear hr
    go_enter Try.func38, Try.ntmps38
    go_wp2_with fail
    have hL := Loc.mk2 w (.slice A n c) 26 34
    generalize ((w.alloc _).alloc _) = W0 at hL ⊢
    have L0 := Lib.hid hL
    clear hL
    refine (spec_store hn (H1.out.below (below_le L0.out.bel hB)) (by have := L0.out.size; omega)).mono ?_
    rintro e W1 ⟨rfl, hb⟩
    rw [hst]
    have L1 := Lib.hid (L0.out.call hb)
    clear hb
    obtain ⟨z0, z1, z2, z3, z4⟩ := atFlat L1.out.zer
    have g0 := L1.out.free 0
    have g1 := L1.out.free 1
    have g2 := L1.out.free 2
    have g3 := L1.out.free 3
    have g4 := L1.out.free 4
    have c0 := L1.out.box
    have hsz := L1.out.size
    simp only at z0 z1 z2 z3 z4
    go_wp2_with fail
    refine (in_range _ _ _ _).mono ?_
    rintro e W2 ⟨rfl, rfl⟩
    rw [hin]
    go_wp2_with fail
    have hs := store5 L1.out.zer ⟨0, 0, 0, 0, 0⟩
    have hl := below5 (b := w.heap.size + 1) L1.out.bel (by omega) ⟨0, 0, 0, 0, 0⟩
    generalize (((((World.setCell _ _ _).setCell _ _).setCell _ _).setCell _ _).setCell _ _) = Wf at hs hl ⊢
    obtain ⟨s0, s1, s2, s3, s4⟩ := atFlat hs
    try simp only at s0 s1 s2 s3 s4
    exact bodyPost_ret (v := .tuple #[.agg #[.int .i64 0, .int .i64 0, .int .i64 0, .int .i64 0, .int .i64 0], .bool false]) (by simp [results, Try.results38, go_sem, s0, s1, s2, s3, s4]) rfl ⟨rfl, hl⟩
  have hr := rl_yes hst hin
  have hk := in_yes hin
  have hsix := st_six hst
  obtain ⟨b, o, l, A2, n2, c2, rfl, hbB, hl, hcell, hn2, hv⟩ := H1.out.at_ (k := k.toNat) (by omega)
  have hok := st_ok hst hl
  have hch := okL_ch_of hok
  have HC := Lib.hid hcell
  have HV := Lib.hid hv
  have hl2 := hv.1
  have hlen := okL_len hok
  have hvr := vAt_range s hch
  have t0 : (k.toNat : Int) = k := by omega
  have t1 : (0 : Int) ≤ k := by omega
  have t2 : k < (n : Int) := by omega
  by_cases hneg : vAt l s < 0
  · have hr2 := ra_at hl hneg
    rw [raV_no hr2] at hx
    rw [hr2] at hq
    subst hx hq
    clear hr2 hr hl hv hcell hok hch
    have t3 : decide (vAt l s < 0) = true := decide_eq_true hneg
    go_enter Try.func38, Try.ntmps38
    go_wp2_with fail
    have hL := Loc.mk2 w (.slice (some ⟨b, o, none⟩) n c) 26 34
    generalize ((w.alloc _).alloc _) = W0 at hL ⊢
    have L0 := Lib.hid hL
    clear hL
    refine (spec_store hn (H1.out.below (below_le L0.out.bel hB)) (by have := L0.out.size; omega)).mono ?_
    rintro e W1 ⟨rfl, hb⟩
    rw [hst]
    have L1 := Lib.hid (L0.out.call hb)
    clear hb
    obtain ⟨z0, z1, z2, z3, z4⟩ := atFlat L1.out.zer
    have g0 := L1.out.free 0
    have g1 := L1.out.free 1
    have g2 := L1.out.free 2
    have g3 := L1.out.free 3
    have g4 := L1.out.free 4
    have c0 := L1.out.box
    have hsz := L1.out.size
    simp only at z0 z1 z2 z3 z4
    go_wp2_with fail
    refine (in_range _ _ _ _).mono ?_
    rintro e W2 ⟨rfl, rfl⟩
    rw [hin]
    have d0 := (L1.out.bel.cell (p := ⟨b, o + k.toNat, none⟩) (by simp; omega)).trans HC.out
    go_wp2_with fail
    refine (Go.Proofs.Ytdfhnngcddaccaa.find.spec_at s hn2 (HV.out.below (below_le L1.out.bel hB)) (by omega)).mono ?_
    rintro e W3 ⟨rfl, hb⟩
    have L3 := Lib.hid (L1.out.call hb)
    clear hb d0
    clear z0 z1 z2 z3 z4 g0 g1 g2 g3 g4 c0 hsz
    obtain ⟨z0, z1, z2, z3, z4⟩ := atFlat L3.out.zer
    have g0 := L3.out.free 0
    have g1 := L3.out.free 1
    have g2 := L3.out.free 2
    have g3 := L3.out.free 3
    have g4 := L3.out.free 4
    have c0 := L3.out.box
    have hsz := L3.out.size
    simp only at z0 z1 z2 z3 z4
    go_wp2_with fail
    have hs := store5 L3.out.zer ⟨0, 0, 0, 0, 0⟩
    have hl := below5 (b := w.heap.size + 1) L3.out.bel (by omega) ⟨0, 0, 0, 0, 0⟩
    generalize (((((World.setCell _ _ _).setCell _ _).setCell _ _).setCell _ _).setCell _ _) = Wf at hs hl ⊢
    obtain ⟨s0, s1, s2, s3, s4⟩ := atFlat hs
    try simp only at s0 s1 s2 s3 s4
    exact bodyPost_ret (v := .tuple #[.agg #[.int .i64 0, .int .i64 0, .int .i64 0, .int .i64 0, .int .i64 0], .bool false]) (by simp [results, Try.results38, go_sem, s0, s1, s2, s3, s4]) rfl ⟨rfl, hl⟩
  have hj : ∃ j : Nat, vAt l s = j := ⟨(vAt l s).toNat, by omega⟩
  obtain ⟨j, hj⟩ := hj
  have hjn : j < n2 := by omega
  obtain ⟨b2, o2, y, rfl, hb2, hy, a0, a1, a2, a3, a4⟩ := hv.at_ hjn
  have hr2 := ra_yes hr hl (by omega : 0 ≤ vAt l s)
  rw [raV_yes hr2 hl hj hy] at hx
  rw [hr2] at hq
  subst hx hq
  clear hr2 hr hl hv hcell hok hch hvr hy
  have q0 : At w b2 (o2 + j * 5) y := ⟨a0, a1, a2, a3, a4⟩
  have Q0 := Lib.hid q0
  have HJ := Lib.hid hj
  clear q0 a0 a1 a2 a3 a4 hj hneg
  go_enter Try.func38, Try.ntmps38
  go_wp2_with fail
  have hL := Loc.mk2 w (.slice (some ⟨b, o, none⟩) n c) 26 34
  generalize ((w.alloc _).alloc _) = W0 at hL ⊢
  have L0 := Lib.hid hL
  clear hL
  refine (spec_store hn (H1.out.below (below_le L0.out.bel hB)) (by have := L0.out.size; omega)).mono ?_
  rintro e W1 ⟨rfl, hb⟩
  rw [hst]
  have L1 := Lib.hid (L0.out.call hb)
  clear hb
  obtain ⟨z0, z1, z2, z3, z4⟩ := atFlat L1.out.zer
  have g0 := L1.out.free 0
  have g1 := L1.out.free 1
  have g2 := L1.out.free 2
  have g3 := L1.out.free 3
  have g4 := L1.out.free 4
  have c0 := L1.out.box
  have hsz := L1.out.size
  simp only at z0 z1 z2 z3 z4
  go_wp2_with fail
  refine (in_range _ _ _ _).mono ?_
  rintro e W2 ⟨rfl, rfl⟩
  rw [hin]
  have d0 := (L1.out.bel.cell (p := ⟨b, o + k.toNat, none⟩) (by simp; omega)).trans HC.out
  go_wp2_with fail
  refine (Go.Proofs.Ytdfhnngcddaccaa.find.spec_at s hn2 (HV.out.below (below_le L1.out.bel hB)) (by omega)).mono ?_
  rintro e W3 ⟨rfl, hb⟩
  rw [HJ.out]
  have L3 := Lib.hid (L1.out.call hb)
  clear hb d0
  have d0 := (L3.out.bel.cell (p := ⟨b, o + k.toNat, none⟩) (by simp; omega)).trans HC.out
  obtain ⟨y0, y1, y2, y3, y4⟩ := Q0.out.keep (B := w.heap.size) (by omega) L3.out.bel
  clear z0 z1 z2 z3 z4 g0 g1 g2 g3 g4 c0 hsz
  obtain ⟨z0, z1, z2, z3, z4⟩ := atFlat L3.out.zer
  have g0 := L3.out.free 0
  have g1 := L3.out.free 1
  have g2 := L3.out.free 2
  have g3 := L3.out.free 3
  have g4 := L3.out.free 4
  have c0 := L3.out.box
  have hsz := L3.out.size
  simp only at z0 z1 z2 z3 z4
  go_wp2_with fail
  have hs := store5 L3.out.zer y
  have hl := below5 (b := w.heap.size + 1) L3.out.bel (by omega) y
  generalize (((((World.setCell _ _ _).setCell _ _).setCell _ _).setCell _ _).setCell _ _) = Wf at hs hl ⊢
  obtain ⟨s0, s1, s2, s3, s4⟩ := atFlat hs
  try simp only at s0 s1 s2 s3 s4
  exact bodyPost_ret (v := .tuple #[.agg #[.int .i64 y.a, .int .i64 y.b, .int .i64 y.c, .int .i64 y.d, .int .i64 y.e], .bool true]) (by simp [results, Try.results38, go_sem, s0, s1, s2, s3, s4]) rfl ⟨rfl, hl⟩
end Go.Proofs.Ytdfhnngcddaccaa.rd
/- Chapter 6 of the program: the version that a mark names, slices.IndexFunc and ContainsFunc at marks, ReadsExist: what each answers; nothing that was there is written. -/
namespace Go.Proofs.Ytdfhnngcddaccaa.ri
open Go.ChangeShapes Go.WideShapes Go.ChangeAt Go.RowKit
open Go.Proofs.Ytdfhnngcddaccaa.el2 Go.Proofs.Ytdfhnngcddaccaa.tx Go.Proofs.Ytdfhnngcddaccaa.seq Go.Proofs.Ytdfhnngcddaccaa.tv Go.Proofs.Ytdfhnngcddaccaa.tf Go.Proofs.Ytdfhnngcddaccaa.rx
open Go.Proofs.Ytdfhnngcddaccaa.vers (new2)
open Go.Proofs.Ytdfhnngcddaccaa.sl (Ver)
open Go.Proofs.Ytdfhnngcddaccaa.st (Rs)
open Go.Proofs.Ytdfhnngcddaccaa.val (stB)
open Go.Proofs.Ytdfhnngcddaccaa.find (fndI)
set_option linter.unusedVariables false
set_option linter.unusedSimpArgs false
/-- what versionOf hands back -/
def VO (C : List (List Ver)) (y : E2) (B : Nat) (W : World) (e : Ending) : Prop :=
  (hasV C y = false ∧ e = .returned (.pointer none)) ∨ (hasV C y = true ∧ ∃ b o, e = .returned (.pointer (some ⟨b, o, none⟩)) ∧ b < B ∧ Go.Proofs.Ytdfhnngcddaccaa.sl.At W b o (verOf C y))
theorem any_hit {p : E2 → Bool} {l : List E2} {k : Nat} {y : E2} (hx : l[k]? = some y) (h : p y = true) : l.any p = true := by
  rw [List.any_eq_true]
  exact ⟨y, List.mem_of_getElem? hx, h⟩
theorem any_none {p : E2 → Bool} {l : List E2} {n : Nat} (hn : l.length = n) (h : ∀ (j : Nat) (y : E2), j < n → l[j]? = some y → (!p y) = true) : l.any p = false := by
  have h2 := all_good hn h
  rw [List.all_eq_true] at h2
  rw [List.any_eq_false]
  intro x hx
  have := h2 x hx
  simpa using this
theorem any_all {C : List (List Ver)} (R : List E2) : (!R.any fun y => !hasV C y) = R.all (hasV C) := by
  rw [List.not_any_eq_all_not]
  congr 1
  funext y
  simp
end Go.Proofs.Ytdfhnngcddaccaa.ri
/- RefreshLow of the program and of the model: what each answers; nothing that was there is written. -/
namespace Go.Proofs.Ytdfhnngcddaccaa.rl
open Go.ChangeShapes Go.WideShapes Go.ChangeAt Go.RowKit
open Go.Proofs.Ytdfhnngcddaccaa.el2 Go.Proofs.Ytdfhnngcddaccaa.tx Go.Proofs.Ytdfhnngcddaccaa.seq Go.Proofs.Ytdfhnngcddaccaa.tv Go.Proofs.Ytdfhnngcddaccaa.tf Go.Proofs.Ytdfhnngcddaccaa.rx Go.Proofs.Ytdfhnngcddaccaa.ri
open Go.Proofs.Ytdfhnngcddaccaa.vers (new2)
open Go.Proofs.Ytdfhnngcddaccaa.sl (Ver)
open Go.Proofs.Ytdfhnngcddaccaa.st (Rs)
open Go.Proofs.Ytdfhnngcddaccaa.val (stB)
set_option linter.unusedVariables false
set_option linter.unusedSimpArgs false
/-- both are valid -/
noncomputable def bothB (C : List (List Ver)) (x : Hd) (R S : List E2) : Bool := stB C && txB x R S
theorem no_st {C : List (List Ver)} {x : Hd} {R S : List E2} (h : stB C = false) : bothB C x R S = false := by simp [bothB, h]
theorem no_tx {C : List (List Ver)} {x : Hd} {R S : List E2} (h : txB x R S = false) : bothB C x R S = false := by simp [bothB, h]
theorem both_yes {C : List (List Ver)} {x : Hd} {R S : List E2} (hs : stB C = true) (ht : txB x R S = true) : bothB C x R S = true := by simp [bothB, hs, ht]
theorem both_parts {C : List (List Ver)} {x : Hd} {R S : List E2} (h : bothB C x R S = true) : stB C = true ∧ txB x R S = true := by simpa [bothB] using h
theorem tx_wr {x : Hd} {R S : List E2} (h : txB x R S = true) : wrB S = true := by simp only [txB, Bool.and_eq_true] at h; exact h.2
theorem okW_key {m : E2} (h : okW m = true) : 0 ≤ m.a ∧ m.a ≤ 5 := by
  simp only [okW, vers.In, Bool.and_eq_true, decide_eq_true_eq] at h
  exact h.1
theorem wkey_of {x : Hd} {R S : List E2} {k : Nat} {m : E2} (h : txB x R S = true) (hx : S[k]? = some m) : 0 ≤ m.a ∧ m.a ≤ 5 := okW_key ((sq_of (tx_wr h)).1 k m hx)
/-- the latest version of a write's key -/
noncomputable def latOf (C : List (List Ver)) (m : E2) : Ver := Go.Proofs.Ytdfhnngcddaccaa.find.lastV (chOf C m.a)
theorem lat_at {C : List (List Ver)} {m : E2} {l : List Ver} (h : C[m.a.toNat]? = some l) : Go.Proofs.Ytdfhnngcddaccaa.find.lastV l = latOf C m := by unfold latOf; rw [ch_at h]
theorem fld3 (a b c d e : Value) (W : World) : (Instr.field 34 (.agg #[a, b, c, d, e]) 3).run Try.prog W = .ok d W := by
  have hu := Try.underlying34
  simp [Instr.field, run_underlying hu, go_sem, asAgg]
theorem fld2 (a b c d e : Value) (W : World) : (Instr.field 34 (.agg #[a, b, c, d, e]) 2).run Try.prog W = .ok c W := by
  have hu := Try.underlying34
  simp [Instr.field, run_underlying hu, go_sem, asAgg]
theorem ret_i {a b : Int} (h : a = b) : Ending.returned (.int .i64 a) = .returned (.int .i64 b) := by rw [h]
theorem val_i {a b : Int} (h : a = b) : Value.int .i64 a = .int .i64 b := by rw [h]
/-- the greatest creation among the first k reads -/
def loR (R : List E2) (k : Nat) : Int := (R.take k).foldl (fun a m => max a m.b) 0
/-- .. and of the readers of the latest versions of the first k written keys -/
noncomputable def loW (C : List (List Ver)) (R S : List E2) (k : Nat) : Int := (S.take k).foldl (fun a m => max a (latOf C m).d) (loR R R.length)
noncomputable def rlI (C : List (List Ver)) (x : Hd) (R S : List E2) : Int := if bothB C x R S = true then loW C R S S.length else 0
theorem loR_step {R : List E2} {k : Nat} {y : E2} (hx : R[k]? = some y) : loR R (k + 1) = max (loR R k) y.b := by
  unfold loR
  rw [List.take_add_one, hx]
  simp [List.foldl_append]
theorem loW_step {C : List (List Ver)} {R S : List E2} {k : Nat} {y : E2} {z : Ver} (hx : S[k]? = some y) (hz : latOf C y = z) : loW C R S (k + 1) = max (loW C R S k) z.d := by
  unfold loW
  rw [List.take_add_one, hx, ← hz]
  simp [List.foldl_append]
theorem loW_zero {C : List (List Ver)} {R S : List E2} {n : Nat} (hn : R.length = n) : loR R n = loW C R S 0 := by subst hn; simp [loW]
theorem rl_no {C : List (List Ver)} {x : Hd} {R S : List E2} (h : bothB C x R S = false) : (0 : Int) = rlI C x R S := by simp [rlI, h]
theorem rl_yes {C : List (List Ver)} {x : Hd} {R S : List E2} {n : Nat} (hn : S.length = n) (h : bothB C x R S = true) : loW C R S n = rlI C x R S := by subst hn; simp [rlI, h]
end Go.Proofs.Ytdfhnngcddaccaa.rl
/- Chapter 12, plain mathematics: what the functions of schemes answer. -/
namespace Go.Proofs.Ytdfhnngcddaccaa.sc
open Go.Proofs.Ytdfhnngcddaccaa.el2 Go.Proofs.Ytdfhnngcddaccaa.tx Go.Proofs.Ytdfhnngcddaccaa.seq Go.Proofs.Ytdfhnngcddaccaa.tv Go.Proofs.Ytdfhnngcddaccaa.rx Go.Proofs.Ytdfhnngcddaccaa.rl Go.Proofs.Ytdfhnngcddaccaa.lk
open Go.Proofs.Ytdfhnngcddaccaa.vers (In in_yes in_no in_of in_off)
open Go.Proofs.Ytdfhnngcddaccaa.sl (Ver)
open Go.Proofs.Ytdfhnngcddaccaa.val (stB)
open Go.Proofs.Ytdfhnngcddaccaa.rd (rlB rlV raB raV ra_rl raV_no)
open Go.Proofs.Ytdfhnngcddaccaa.find (lastV)
set_option linter.unusedVariables false
set_option linter.unusedSimpArgs false
def zv : Ver := ⟨0, 0, 0, 0, 0⟩
/-- the scheme takes locks -/
def tkB (s : Int) : Bool := decide (s = 1) || decide (s = 2)
/-- store, transaction and key are good -/
noncomputable def gdB (C : List (List Ver)) (x : Hd) (R S : List E2) (k : Int) : Bool := stB C && txB x R S && decide (x.t = 1) && In 0 5 k
/-- the code of a read -/
noncomputable def cvI (C : List (List Ver)) (x : Hd) (R S : List E2) (k : Int) : Int :=
  if gdB C x R S k = true then (if x.s = 2 then (if raB C k x.b = true then 0 else 3) else if x.s = 4 ∧ x.b < (rlV C k).c then 3 else 0) else 6
/-- the version that is read -/
noncomputable def cvV (C : List (List Ver)) (x : Hd) (R S : List E2) (k : Int) : Ver :=
  if cvI C x R S k = 0 then (if x.s = 2 then raV C k x.b else rlV C k) else zv
/-- a lock of another -/
def tnB (L : List E2) (x : Hd) (k : Int) : Bool := !decide (ownI k L = 0) && !decide (ownI k L = x.i)
/-- the code of a write -/
noncomputable def wcI (C : List (List Ver)) (L : List E2) (x : Hd) (R S : List E2) (k : Int) : Int :=
  if gdB C x R S k = true ∧ lkB L = true then
    (if x.s = 1 ∧ tnB L x k = true then 1 else if x.s = 2 ∧ (tnB L x k = true ∨ x.b < (rlV C k).c) then 2 else if x.s = 4 ∧ (x.b < (rlV C k).c ∨ x.b < (rlV C k).d) then 3 else 0)
  else 6
/-- a written key has a latest version behind the begin -/
noncomputable def ltB (C : List (List Ver)) (x : Hd) (S : List E2) : Bool := S.any fun m => decide (x.b < (latOf C m).c)
/-- the code of a commit -/
noncomputable def ccI (C : List (List Ver)) (x : Hd) (R S : List E2) : Int :=
  if gdB C x R S 0 = true then (if ltB C x S = true then (if x.s = 2 then 2 else if x.s = 4 then 3 else 0) else 0) else 6
section
variable {C : List (List Ver)} {L : List E2} {x : Hd} {R S : List E2} {k : Int}
theorem gd_parts (h : gdB C x R S k = true) : stB C = true ∧ txB x R S = true ∧ x.t = 1 ∧ In 0 5 k = true := by
  simp only [gdB, Bool.and_eq_true, decide_eq_true_eq] at h
  exact ⟨h.1.1.1, h.1.1.2, h.1.2, h.2⟩
theorem gd_yes (h1 : stB C = true) (h2 : txB x R S = true) (h3 : x.t = 1) (h4 : In 0 5 k = true) : gdB C x R S k = true := by simp [gdB, h1, h2, h3, h4]
theorem gd_st (h : stB C = false) : gdB C x R S k = false := by simp [gdB, h]
theorem gd_tx (h : txB x R S = false) : gdB C x R S k = false := by simp [gdB, h]
theorem gd_t (h : x.t ≠ 1) : gdB C x R S k = false := by simp [gdB, h]
theorem gd_k (h : In 0 5 k = false) : gdB C x R S k = false := by simp [gdB, h]
theorem gd_rl (h : gdB C x R S k = true) : rlB C k = true := by
  obtain ⟨h1, _, _, h4⟩ := gd_parts h
  simp [rlB, h1, h4]
theorem cv_no (h : gdB C x R S k = false) : cvI C x R S k = 6 ∧ cvV C x R S k = zv := by
  have e : cvI C x R S k = 6 := if_neg (by rw [h]; exact Bool.false_ne_true)
  exact ⟨e, if_neg (by rw [e]; omega)⟩
theorem cv_snap (h : gdB C x R S k = true) (hs : x.s = 2) (hr : raB C k x.b = true) : cvI C x R S k = 0 ∧ cvV C x R S k = raV C k x.b := by
  have e : cvI C x R S k = 0 := by unfold cvI; rw [if_pos h, if_pos hs, if_pos hr]
  exact ⟨e, by unfold cvV; rw [if_pos e, if_pos hs]⟩
theorem cv_late (h : gdB C x R S k = true) (hs : x.s = 2) (hr : raB C k x.b = false) : cvI C x R S k = 3 ∧ cvV C x R S k = zv := by
  have e : cvI C x R S k = 3 := by unfold cvI; rw [if_pos h, if_pos hs, if_neg (by rw [hr]; exact Bool.false_ne_true)]
  exact ⟨e, by unfold cvV; rw [if_neg (by rw [e]; omega)]⟩
theorem cv_ord (h : gdB C x R S k = true) (hs : x.s = 4) (hr : x.b < (rlV C k).c) : cvI C x R S k = 3 ∧ cvV C x R S k = zv := by
  have e : cvI C x R S k = 3 := by unfold cvI; rw [if_pos h, if_neg (by omega), if_pos ⟨hs, hr⟩]
  exact ⟨e, by unfold cvV; rw [if_neg (by rw [e]; omega)]⟩
theorem cv_last (h : gdB C x R S k = true) (hs : x.s ≠ 2) (hr : ¬ (x.s = 4 ∧ x.b < (rlV C k).c)) : cvI C x R S k = 0 ∧ cvV C x R S k = rlV C k := by
  have e : cvI C x R S k = 0 := by unfold cvI; rw [if_pos h, if_neg hs, if_neg hr]
  exact ⟨e, by unfold cvV; rw [if_pos e, if_neg hs]⟩
theorem cv_range : cvI C x R S k = 0 ∨ cvI C x R S k = 3 ∨ cvI C x R S k = 6 := by
  unfold cvI
  repeat' split
  all_goals simp
theorem wc_no (h : gdB C x R S k = false ∨ lkB L = false) : wcI C L x R S k = 6 := if_neg fun hh => by
  rcases h with h | h
  · rw [h] at hh; cases hh.1
  · rw [h] at hh; cases hh.2
theorem wc_yes (h : gdB C x R S k = true) (h2 : lkB L = true) : wcI C L x R S k = (if x.s = 1 ∧ tnB L x k = true then 1 else if x.s = 2 ∧ (tnB L x k = true ∨ x.b < (rlV C k).c) then 2 else if x.s = 4 ∧ (x.b < (rlV C k).c ∨ x.b < (rlV C k).d) then 3 else 0) := if_pos ⟨h, h2⟩
theorem wc_range : wcI C L x R S k = 0 ∨ wcI C L x R S k = 1 ∨ wcI C L x R S k = 2 ∨ wcI C L x R S k = 3 ∨ wcI C L x R S k = 6 := by
  unfold wcI
  repeat' split
  all_goals simp
theorem wc_block (h : wcI C L x R S k = 1) : x.s = 1 := by
  unfold wcI at h
  split at h
  · split at h
    · rename_i h2; exact h2.1
    · split at h
      · omega
      · split at h <;> omega
  · omega
theorem wc_opt (h : x.s = 3) : wcI C L x R S k = 0 ∨ wcI C L x R S k = 6 := by
  unfold wcI
  split
  · rw [if_neg (by omega), if_neg (by omega), if_neg (by omega)]; exact .inl rfl
  · exact .inr rfl
theorem cc_no (h : gdB C x R S 0 = false) : ccI C x R S = 6 := if_neg (by rw [h]; exact Bool.false_ne_true)
theorem cc_range : ccI C x R S = 0 ∨ ccI C x R S = 2 ∨ ccI C x R S = 3 ∨ ccI C x R S = 6 := by
  unfold ccI
  repeat' split
  all_goals simp
end
end Go.Proofs.Ytdfhnngcddaccaa.sc
/- rulesOf of the program, the methods of the rules, TakesLocks of the program and of the model: what each answers. -/
namespace Go.Proofs.Ytdfhnngcddaccaa.ru
open Go.ChangeShapes Go.WideShapes Go.ChangeAt Go.RowKit
open Go.Proofs.Ytdfhnngcddaccaa.el2 Go.Proofs.Ytdfhnngcddaccaa.tx Go.Proofs.Ytdfhnngcddaccaa.seq Go.Proofs.Ytdfhnngcddaccaa.tv
open Go.Proofs.Ytdfhnngcddaccaa.vers (In in_yes in_no in_of in_off in_range ret_b new2 new3)
open Go.Proofs.Ytdfhnngcddaccaa.sc (tkB)
open Go.Proofs.Ytdfhnngcddaccaa.sl (Ver)
set_option linter.unusedVariables false
set_option linter.unusedSimpArgs false
/-- the rules of a scheme, as the program holds them -/
def ruV (s : Int) : Value := if s = 1 then .iface 114 (.agg #[]) else if s = 2 then .iface 115 (.agg #[]) else if s = 4 then .iface 116 (.agg #[]) else .iface 112 (.agg #[])
theorem ru_1 {s : Int} (h : s = 1) : ruV s = .iface 114 (.agg #[]) := if_pos h
theorem ru_2 {s : Int} (h : s = 2) : ruV s = .iface 115 (.agg #[]) := by subst h; rfl
theorem ru_4 {s : Int} (h : s = 4) : ruV s = .iface 116 (.agg #[]) := by subst h; rfl
theorem ru_0 {s : Int} (h1 : s ≠ 1) (h2 : s ≠ 2) (h4 : s ≠ 4) : ruV s = .iface 112 (.agg #[]) := by unfold ruV; rw [if_neg h1, if_neg h2, if_neg h4]
set_option maxHeartbeats 1600000 in
theorem rules_of (s : Int) (w : World) :
    Calls Try.prog 36 #[.int .i64 s] w fun e w' => e = .returned (ruV s) ∧ w = w' := by
  by_cases q1 : s = 1
  case pos =>
    rw [ru_1 q1]
    subst q1
    go_enter Try.func36, Try.ntmps36
    go_wp2_with fail
    go_ret
    exact ⟨rfl, rfl⟩
  by_cases q2 : s = 2
  case pos =>
    rw [ru_2 q2]
    subst q2
    go_enter Try.func36, Try.ntmps36
    go_wp2_with fail
    go_ret
    exact ⟨rfl, rfl⟩
  by_cases q4 : s = 4
  case pos =>
    rw [ru_4 q4]
    subst q4
    go_enter Try.func36, Try.ntmps36
    go_wp2_with fail
    go_ret
    exact ⟨rfl, rfl⟩
  rw [ru_0 q1 q2 q4]
  have t1 : (s == 1) = false := by simpa using q1
  have t2 : (s == 2) = false := by simpa using q2
  have t4 : (s == 4) = false := by simpa using q4
  go_enter Try.func36, Try.ntmps36
  go_wp2_with fail
  go_ret
  exact ⟨rfl, rfl⟩
set_option maxHeartbeats 1600000 in
theorem takes_on (w : World) : Calls Try.prog 128 #[.agg #[]] w fun e w' => e = .returned (.bool true) ∧ Below w.heap.size w w' := by
  go_enter Try.func128, Try.ntmps128
  go_wp2_with fail
  go_ret
  exact ⟨rfl, new1 _ _⟩
theorem takes_snap (w : World) : Calls Try.prog 132 #[.agg #[]] w fun e w' => e = .returned (.bool true) ∧ Below w.heap.size w w' := by
  go_enter Try.func132, Try.ntmps132
  go_wp2_with fail
  go_ret
  exact ⟨rfl, new1 _ _⟩
theorem takes_opt (w : World) : Calls Try.prog 126 #[.agg #[]] w fun e w' => e = .returned (.bool false) ∧ Below w.heap.size w w' := by
  go_enter Try.func126, Try.ntmps126
  go_wp2_with fail
  go_ret
  exact ⟨rfl, new1 _ _⟩
theorem mt_tk1 (w : World) : (method 270 114 (.agg #[]) "loop.example/g01924/impl.takesLocks").run Try.prog w = .ok (128, .agg #[]) w := by kernel_rfl
theorem na_tk1 (w : World) : (nilAhead 270 114 (.agg #[]) "loop.example/g01924/impl.takesLocks").run Try.prog w = .ok (some false) w := by kernel_rfl
theorem mt_tk2 (w : World) : (method 270 115 (.agg #[]) "loop.example/g01924/impl.takesLocks").run Try.prog w = .ok (132, .agg #[]) w := by kernel_rfl
theorem na_tk2 (w : World) : (nilAhead 270 115 (.agg #[]) "loop.example/g01924/impl.takesLocks").run Try.prog w = .ok (some false) w := by kernel_rfl
theorem mt_tk4 (w : World) : (method 270 116 (.agg #[]) "loop.example/g01924/impl.takesLocks").run Try.prog w = .ok (126, .agg #[]) w := by kernel_rfl
theorem na_tk4 (w : World) : (nilAhead 270 116 (.agg #[]) "loop.example/g01924/impl.takesLocks").run Try.prog w = .ok (some false) w := by kernel_rfl
theorem mt_tk0 (w : World) : (method 270 112 (.agg #[]) "loop.example/g01924/impl.takesLocks").run Try.prog w = .ok (126, .agg #[]) w := by kernel_rfl
theorem na_tk0 (w : World) : (nilAhead 270 112 (.agg #[]) "loop.example/g01924/impl.takesLocks").run Try.prog w = .ok (some false) w := by kernel_rfl
theorem mt_cm1 (w : World) : (method 270 114 (.agg #[]) "loop.example/g01924/impl.commitCode").run Try.prog w = .ok (125, .agg #[]) w := by kernel_rfl
theorem na_cm1 (w : World) : (nilAhead 270 114 (.agg #[]) "loop.example/g01924/impl.commitCode").run Try.prog w = .ok (some false) w := by kernel_rfl
theorem mt_cm2 (w : World) : (method 270 115 (.agg #[]) "loop.example/g01924/impl.commitCode").run Try.prog w = .ok (131, .agg #[]) w := by kernel_rfl
theorem na_cm2 (w : World) : (nilAhead 270 115 (.agg #[]) "loop.example/g01924/impl.commitCode").run Try.prog w = .ok (some false) w := by kernel_rfl
theorem mt_cm4 (w : World) : (method 270 116 (.agg #[]) "loop.example/g01924/impl.commitCode").run Try.prog w = .ok (136, .agg #[]) w := by kernel_rfl
theorem na_cm4 (w : World) : (nilAhead 270 116 (.agg #[]) "loop.example/g01924/impl.commitCode").run Try.prog w = .ok (some false) w := by kernel_rfl
theorem mt_cm0 (w : World) : (method 270 112 (.agg #[]) "loop.example/g01924/impl.commitCode").run Try.prog w = .ok (125, .agg #[]) w := by kernel_rfl
theorem na_cm0 (w : World) : (nilAhead 270 112 (.agg #[]) "loop.example/g01924/impl.commitCode").run Try.prog w = .ok (some false) w := by kernel_rfl
theorem mt_wc1 (w : World) : (method 270 114 (.agg #[]) "loop.example/g01924/impl.writeCode").run Try.prog w = .ok (129, .agg #[]) w := by kernel_rfl
theorem na_wc1 (w : World) : (nilAhead 270 114 (.agg #[]) "loop.example/g01924/impl.writeCode").run Try.prog w = .ok (some false) w := by kernel_rfl
theorem mt_wc2 (w : World) : (method 270 115 (.agg #[]) "loop.example/g01924/impl.writeCode").run Try.prog w = .ok (133, .agg #[]) w := by kernel_rfl
theorem na_wc2 (w : World) : (nilAhead 270 115 (.agg #[]) "loop.example/g01924/impl.writeCode").run Try.prog w = .ok (some false) w := by kernel_rfl
theorem mt_wc4 (w : World) : (method 270 116 (.agg #[]) "loop.example/g01924/impl.writeCode").run Try.prog w = .ok (137, .agg #[]) w := by kernel_rfl
theorem na_wc4 (w : World) : (nilAhead 270 116 (.agg #[]) "loop.example/g01924/impl.writeCode").run Try.prog w = .ok (some false) w := by kernel_rfl
theorem mt_wc0 (w : World) : (method 270 112 (.agg #[]) "loop.example/g01924/impl.writeCode").run Try.prog w = .ok (127, .agg #[]) w := by kernel_rfl
theorem na_wc0 (w : World) : (nilAhead 270 112 (.agg #[]) "loop.example/g01924/impl.writeCode").run Try.prog w = .ok (some false) w := by kernel_rfl
theorem mt_ch1 (w : World) : (method 270 114 (.agg #[]) "loop.example/g01924/impl.chooseVersion").run Try.prog w = .ok (124, .agg #[]) w := by kernel_rfl
theorem na_ch1 (w : World) : (nilAhead 270 114 (.agg #[]) "loop.example/g01924/impl.chooseVersion").run Try.prog w = .ok (some false) w := by kernel_rfl
theorem mt_ch2 (w : World) : (method 270 115 (.agg #[]) "loop.example/g01924/impl.chooseVersion").run Try.prog w = .ok (130, .agg #[]) w := by kernel_rfl
theorem na_ch2 (w : World) : (nilAhead 270 115 (.agg #[]) "loop.example/g01924/impl.chooseVersion").run Try.prog w = .ok (some false) w := by kernel_rfl
theorem mt_ch4 (w : World) : (method 270 116 (.agg #[]) "loop.example/g01924/impl.chooseVersion").run Try.prog w = .ok (135, .agg #[]) w := by kernel_rfl
theorem na_ch4 (w : World) : (nilAhead 270 116 (.agg #[]) "loop.example/g01924/impl.chooseVersion").run Try.prog w = .ok (some false) w := by kernel_rfl
theorem mt_ch0 (w : World) : (method 270 112 (.agg #[]) "loop.example/g01924/impl.chooseVersion").run Try.prog w = .ok (124, .agg #[]) w := by kernel_rfl
theorem na_ch0 (w : World) : (nilAhead 270 112 (.agg #[]) "loop.example/g01924/impl.chooseVersion").run Try.prog w = .ok (some false) w := by kernel_rfl
theorem ru_cases (s : Int) : (s = 1 ∧ ruV s = .iface 114 (.agg #[])) ∨ (s = 2 ∧ ruV s = .iface 115 (.agg #[])) ∨ (s = 4 ∧ ruV s = .iface 116 (.agg #[])) ∨ ((s ≠ 1 ∧ s ≠ 2 ∧ s ≠ 4) ∧ ruV s = .iface 112 (.agg #[])) := by
  by_cases q1 : s = 1
  · exact .inl ⟨q1, ru_1 q1⟩
  by_cases q2 : s = 2
  · exact .inr (.inl ⟨q2, ru_2 q2⟩)
  by_cases q4 : s = 4
  · exact .inr (.inr (.inl ⟨q4, ru_4 q4⟩))
  · exact .inr (.inr (.inr ⟨⟨q1, q2, q4⟩, ru_0 q1 q2 q4⟩))
theorem tk_on {s : Int} (h : s = 1 ∨ s = 2) : tkB s = true := by rcases h with rfl | rfl <;> rfl
theorem tk_off {s : Int} (h1 : s ≠ 1) (h2 : s ≠ 2) : tkB s = false := by simp [tkB, h1, h2]
set_option maxRecDepth 100000 in
set_option maxHeartbeats 1600000 in
theorem impl_takes (s : Int) (w : World) :
    Calls Try.prog 19 #[.int .i64 s] w fun e w' => e = .returned (.bool (tkB s)) ∧ Below w.heap.size w w' := by
  obtain ⟨q, hq⟩ : ∃ q, tkB s = q := ⟨_, rfl⟩
  rw [hq]
  have HQ := Lib.hid hq
  clear hq
  rcases ru_cases s with ⟨q1, hv⟩ | ⟨q1, hv⟩ | ⟨q1, hv⟩ | ⟨q1, hv⟩
  · have HV := Lib.hid hv
    have Q1 := Lib.hid q1
    have m1 := mt_tk1
    clear hv q1
    go_enter Try.func19, Try.ntmps19
    go_wp2_with fail
    refine (rules_of s _).mono ?_
    rintro e W ⟨rfl, rfl⟩
    rw [HV.out]
    go_wp2_with fail
    refine (takes_on _).mono ?_
    rintro e W1 ⟨rfl, hb⟩
    have HB := Lib.hid hb
    clear hb
    go_wp2_with fail
    go_ret
    exact ⟨ret_b (by rw [← HQ.out, tk_on (.inl Q1.out)]), HB.out⟩
  · have HV := Lib.hid hv
    have Q1 := Lib.hid q1
    have m1 := mt_tk2
    clear hv q1
    go_enter Try.func19, Try.ntmps19
    go_wp2_with fail
    refine (rules_of s _).mono ?_
    rintro e W ⟨rfl, rfl⟩
    rw [HV.out]
    go_wp2_with fail
    refine (takes_snap _).mono ?_
    rintro e W1 ⟨rfl, hb⟩
    have HB := Lib.hid hb
    clear hb
    go_wp2_with fail
    go_ret
    exact ⟨ret_b (by rw [← HQ.out, tk_on (.inr Q1.out)]), HB.out⟩
  · have HV := Lib.hid hv
    have Q1 := Lib.hid q1
    have m1 := mt_tk4
    clear hv q1
    go_enter Try.func19, Try.ntmps19
    go_wp2_with fail
    refine (rules_of s _).mono ?_
    rintro e W ⟨rfl, rfl⟩
    rw [HV.out]
    go_wp2_with fail
    refine (takes_opt _).mono ?_
    rintro e W1 ⟨rfl, hb⟩
    have HB := Lib.hid hb
    clear hb
    go_wp2_with fail
    go_ret
    exact ⟨ret_b (by rw [← HQ.out, tk_off (by have := Q1.out; omega) (by have := Q1.out; omega)]), HB.out⟩
  · have HV := Lib.hid hv
    have Q1 := Lib.hid q1
    have m1 := mt_tk0
    clear hv q1
    go_enter Try.func19, Try.ntmps19
    go_wp2_with fail
    refine (rules_of s _).mono ?_
    rintro e W ⟨rfl, rfl⟩
    rw [HV.out]
    go_wp2_with fail
    refine (takes_opt _).mono ?_
    rintro e W1 ⟨rfl, hb⟩
    have HB := Lib.hid hb
    clear hb
    go_wp2_with fail
    go_ret
    exact ⟨ret_b (by rw [← HQ.out, tk_off Q1.out.1 Q1.out.2.1]), HB.out⟩
set_option maxHeartbeats 1600000 in
theorem spec_takes (s : Int) (w : World) :
    Calls Try.prog 21 #[.int .i64 s] w fun e w' => e = .returned (.bool (tkB s)) ∧ w = w' := by
  go_enter Try.func21, Try.ntmps21
  by_cases q1 : s = 1
  · have t1 : (s == 1) = true := by simpa using q1
    have HT : Hid (tkB s = true) := Lib.hid (by subst q1; rfl)
    clear q1
    go_wp2_with fail
    go_ret
    exact ⟨ret_b HT.out.symm, rfl⟩
  · have t1 : (s == 1) = false := by simpa using q1
    have HT : Hid (tkB s = (s == 2)) := Lib.hid (by rw [Bool.eq_iff_iff]; simp [tkB, q1])
    clear q1
    go_wp2_with fail
    go_ret
    exact ⟨ret_b HT.out.symm, rfl⟩
/-! the methods that answer a code -/
def ccM (s c b : Int) : Int := if b < c then (if s = 2 then 2 else if s = 4 then 3 else 0) else 0
def wcM (s c d b : Int) (f : Bool) : Int := if s = 1 then (if f = true then 1 else 0) else if s = 2 then (if f = true then 2 else if b < c then 2 else 0) else if s = 4 then (if b < c then 3 else if b < d then 3 else 0) else 0
theorem ret_i {a b : Int} (h : a = b) : Ending.returned (.int .i64 a) = .returned (.int .i64 b) := by rw [h]
theorem cc_0 {s c b : Int} (h2 : s ≠ 2) (h4 : s ≠ 4) : (0 : Int) = ccM s c b := by unfold ccM; rw [if_neg h2, if_neg h4]; split <;> rfl
theorem cc_no {s c b : Int} (h : ¬ b < c) : (0 : Int) = ccM s c b := by unfold ccM; rw [if_neg h]
theorem cc_2 {s c b : Int} (h : b < c) (hs : s = 2) : (2 : Int) = ccM s c b := by unfold ccM; rw [if_pos h, if_pos hs]
theorem cc_4 {s c b : Int} (h : b < c) (hs : s = 4) : (3 : Int) = ccM s c b := by unfold ccM; rw [if_pos h, if_neg (by omega), if_pos hs]
set_option maxHeartbeats 1600000 in
theorem cm_0 {s : Int} (x : Ver) (b : Int) (w : World) (h1 : s ≠ 2) (h2 : s ≠ 4) : Calls Try.prog 125 #[.agg #[], .agg #[.int .i64 x.a, .int .i64 x.b, .int .i64 x.c, .int .i64 x.d, .int .i64 x.e], .int .i64 b] w fun e w' => e = .returned (.int .i64 (ccM s x.c b)) ∧ Below w.heap.size w w' := by
  go_enter Try.func125, Try.ntmps125
  go_wp2_with fail
  go_ret
  exact ⟨ret_i (cc_0 h1 h2), new2 _ _ _⟩
set_option maxHeartbeats 1600000 in
theorem cm_2 {s : Int} (x : Ver) (b : Int) (w : World) (hs : s = 2) : Calls Try.prog 131 #[.agg #[], .agg #[.int .i64 x.a, .int .i64 x.b, .int .i64 x.c, .int .i64 x.d, .int .i64 x.e], .int .i64 b] w fun e w' => e = .returned (.int .i64 (ccM s x.c b)) ∧ Below w.heap.size w w' := by
  have HS := Lib.hid hs
  clear hs
  by_cases h : b < x.c
  · have t : decide (b < x.c) = true := decide_eq_true h
    have HE : Hid ((2 : Int) = ccM s x.c b) := Lib.hid (cc_2 h HS.out)
    clear h
    generalize ccM s x.c b = z at HE ⊢
    go_enter Try.func131, Try.ntmps131
    go_wp2_with fail
    go_ret
    exact ⟨ret_i HE.out, new2 _ _ _⟩
  · have t : decide (b < x.c) = false := decide_eq_false h
    have HE : Hid ((0 : Int) = ccM s x.c b) := Lib.hid (cc_no h)
    clear h
    generalize ccM s x.c b = z at HE ⊢
    go_enter Try.func131, Try.ntmps131
    go_wp2_with fail
    go_ret
    exact ⟨ret_i HE.out, new2 _ _ _⟩
set_option maxHeartbeats 1600000 in
theorem cm_4 {s : Int} (x : Ver) (b : Int) (w : World) (hs : s = 4) : Calls Try.prog 136 #[.agg #[], .agg #[.int .i64 x.a, .int .i64 x.b, .int .i64 x.c, .int .i64 x.d, .int .i64 x.e], .int .i64 b] w fun e w' => e = .returned (.int .i64 (ccM s x.c b)) ∧ Below w.heap.size w w' := by
  have HS := Lib.hid hs
  clear hs
  by_cases h : b < x.c
  · have t : decide (b < x.c) = true := decide_eq_true h
    have HE : Hid ((3 : Int) = ccM s x.c b) := Lib.hid (cc_4 h HS.out)
    clear h
    generalize ccM s x.c b = z at HE ⊢
    go_enter Try.func136, Try.ntmps136
    go_wp2_with fail
    go_ret
    exact ⟨ret_i HE.out, new2 _ _ _⟩
  · have t : decide (b < x.c) = false := decide_eq_false h
    have HE : Hid ((0 : Int) = ccM s x.c b) := Lib.hid (cc_no h)
    clear h
    generalize ccM s x.c b = z at HE ⊢
    go_enter Try.func136, Try.ntmps136
    go_wp2_with fail
    go_ret
    exact ⟨ret_i HE.out, new2 _ _ _⟩
theorem wc_0 {s c d b : Int} {f : Bool} (h1 : s ≠ 1) (h2 : s ≠ 2) (h4 : s ≠ 4) : (0 : Int) = wcM s c d b f := by unfold wcM; rw [if_neg h1, if_neg h2, if_neg h4]
theorem wc_1 {s c d b : Int} (h1 : s = 1) : (1 : Int) = wcM s c d b true := by subst h1; rfl
theorem wc_10 {s c d b : Int} (h1 : s = 1) : (0 : Int) = wcM s c d b false := by subst h1; rfl
theorem wc_2 {s c d b : Int} (h1 : s = 2) : (2 : Int) = wcM s c d b true := by subst h1; rfl
theorem wc_20 {s c d b : Int} (h1 : s = 2) : ccM s c b = wcM s c d b false := by subst h1; rfl
theorem wc_4 {s c d b : Int} {f : Bool} (h1 : s = 4) (h : b < c) : (3 : Int) = wcM s c d b f := by subst h1; unfold wcM; rw [if_neg (by omega), if_neg (by omega), if_pos rfl, if_pos h]
theorem wc_4d {s c d b : Int} {f : Bool} (h1 : s = 4) (h : ¬ b < c) (h2 : b < d) : (3 : Int) = wcM s c d b f := by subst h1; unfold wcM; rw [if_neg (by omega), if_neg (by omega), if_pos rfl, if_neg h, if_pos h2]
theorem wc_40 {s c d b : Int} {f : Bool} (h1 : s = 4) (h : ¬ b < c) (h2 : ¬ b < d) : (0 : Int) = wcM s c d b f := by subst h1; unfold wcM; rw [if_neg (by omega), if_neg (by omega), if_pos rfl, if_neg h, if_neg h2]
set_option maxHeartbeats 1600000 in
theorem wm_0 {s : Int} (x : Ver) (b : Int) (f : Bool) (w : World) (h1 : s ≠ 1) (h2 : s ≠ 2) (h4 : s ≠ 4) : Calls Try.prog 127 #[.agg #[], .agg #[.int .i64 x.a, .int .i64 x.b, .int .i64 x.c, .int .i64 x.d, .int .i64 x.e], .int .i64 b, .bool f] w fun e w' => e = .returned (.int .i64 (wcM s x.c x.d b f)) ∧ Below w.heap.size w w' := by
  go_enter Try.func127, Try.ntmps127
  go_wp2_with fail
  go_ret
  exact ⟨ret_i (wc_0 h1 h2 h4), new2 _ _ _⟩
set_option maxHeartbeats 1600000 in
theorem wm_1 {s : Int} (x : Ver) (b : Int) (f : Bool) (w : World) (hs : s = 1) : Calls Try.prog 129 #[.agg #[], .agg #[.int .i64 x.a, .int .i64 x.b, .int .i64 x.c, .int .i64 x.d, .int .i64 x.e], .int .i64 b, .bool f] w fun e w' => e = .returned (.int .i64 (wcM s x.c x.d b f)) ∧ Below w.heap.size w w' := by
  have HS := Lib.hid hs
  clear hs
  rcases f with _ | _
  · have HE : Hid ((0 : Int) = wcM s x.c x.d b false) := Lib.hid (wc_10 HS.out)
    generalize wcM s x.c x.d b false = z at HE ⊢
    go_enter Try.func129, Try.ntmps129
    go_wp2_with fail
    go_ret
    exact ⟨ret_i HE.out, new2 _ _ _⟩
  · have HE : Hid ((1 : Int) = wcM s x.c x.d b true) := Lib.hid (wc_1 HS.out)
    generalize wcM s x.c x.d b true = z at HE ⊢
    go_enter Try.func129, Try.ntmps129
    go_wp2_with fail
    go_ret
    exact ⟨ret_i HE.out, new2 _ _ _⟩
set_option maxHeartbeats 1600000 in
theorem wm_2 {s : Int} (x : Ver) (b : Int) (f : Bool) (w : World) (hs : s = 2) : Calls Try.prog 133 #[.agg #[], .agg #[.int .i64 x.a, .int .i64 x.b, .int .i64 x.c, .int .i64 x.d, .int .i64 x.e], .int .i64 b, .bool f] w fun e w' => e = .returned (.int .i64 (wcM s x.c x.d b f)) ∧ Below w.heap.size w w' := by
  have HS := Lib.hid hs
  clear hs
  rcases f with _ | _
  · have HE : Hid (ccM s x.c b = wcM s x.c x.d b false) := Lib.hid (wc_20 HS.out)
    generalize wcM s x.c x.d b false = z at HE ⊢
    go_enter Try.func133, Try.ntmps133
    go_wp2_with fail
    have hb0 := new2 w (.cells #[] 115) (.cells #[.int .i64 x.a, .int .i64 x.b, .int .i64 x.c, .int .i64 x.d, .int .i64 x.e] 34)
    generalize ((w.alloc _).alloc _) = W0 at hb0 ⊢
    have HB0 := Lib.hid hb0
    clear hb0
    refine (cm_2 x b _ HS.out).mono ?_
    rintro e W1 ⟨rfl, hb⟩
    have HB := Lib.hid (HB0.out.trans (hb.mono HB0.out.size))
    clear hb
    go_wp2_with fail
    go_ret
    exact ⟨ret_i HE.out, HB.out⟩
  · have HE : Hid ((2 : Int) = wcM s x.c x.d b true) := Lib.hid (wc_2 HS.out)
    generalize wcM s x.c x.d b true = z at HE ⊢
    go_enter Try.func133, Try.ntmps133
    go_wp2_with fail
    go_ret
    exact ⟨ret_i HE.out, new2 _ _ _⟩
set_option maxHeartbeats 1600000 in
theorem wm_4 {s : Int} (x : Ver) (b : Int) (f : Bool) (w : World) (hs : s = 4) : Calls Try.prog 137 #[.agg #[], .agg #[.int .i64 x.a, .int .i64 x.b, .int .i64 x.c, .int .i64 x.d, .int .i64 x.e], .int .i64 b, .bool f] w fun e w' => e = .returned (.int .i64 (wcM s x.c x.d b f)) ∧ Below w.heap.size w w' := by
  have HS := Lib.hid hs
  clear hs
  by_cases h : b < x.c
  · have t : decide (b < x.c) = true := decide_eq_true h
    have HE : Hid ((3 : Int) = wcM s x.c x.d b f) := Lib.hid (wc_4 HS.out h)
    clear h
    generalize wcM s x.c x.d b f = z at HE ⊢
    go_enter Try.func137, Try.ntmps137
    go_wp2_with fail
    go_ret
    exact ⟨ret_i HE.out, new2 _ _ _⟩
  have t : decide (b < x.c) = false := decide_eq_false h
  by_cases h2 : b < x.d
  · have t2 : decide (b < x.d) = true := decide_eq_true h2
    have HE : Hid ((3 : Int) = wcM s x.c x.d b f) := Lib.hid (wc_4d HS.out h h2)
    clear h h2
    generalize wcM s x.c x.d b f = z at HE ⊢
    go_enter Try.func137, Try.ntmps137
    go_wp2_with fail
    go_ret
    exact ⟨ret_i HE.out, new2 _ _ _⟩
  · have t2 : decide (b < x.d) = false := decide_eq_false h2
    have HE : Hid ((0 : Int) = wcM s x.c x.d b f) := Lib.hid (wc_40 HS.out h h2)
    clear h h2
    generalize wcM s x.c x.d b f = z at HE ⊢
    go_enter Try.func137, Try.ntmps137
    go_wp2_with fail
    go_ret
    exact ⟨ret_i HE.out, new2 _ _ _⟩
end Go.Proofs.Ytdfhnngcddaccaa.ru
/- chooseVersion of the program's rules: what each answers. -/
namespace Go.Proofs.Ytdfhnngcddaccaa.ruc
open Go.ChangeShapes Go.WideShapes Go.ChangeAt Go.RowKit
open Go.Proofs.Ytdfhnngcddaccaa.vers Go.Proofs.Ytdfhnngcddaccaa.sl Go.Proofs.Ytdfhnngcddaccaa.ch Go.Proofs.Ytdfhnngcddaccaa.ru
open Go.Proofs.Ytdfhnngcddaccaa.find (lastV vAt atI vAt_yes store5 below5 latest_spec latest_impl impl_at)
open Go.Proofs.Ytdfhnngcddaccaa.rd (vAt_range)
set_option linter.unusedVariables false
set_option linter.unusedSimpArgs false
/-- a box of the call's own and a zero version behind it, in a world that holds what was there -/
structure Z2 (w W : World) : Prop where
  bel : Below w.heap.size w W
  size : w.heap.size + 2 ≤ W.heap.size
  zer : At W (w.heap.size + 1) 0 ⟨0, 0, 0, 0, 0⟩
  free : ∀ i, W.frozen? ⟨w.heap.size + 1, i, none⟩ = false
theorem Z2.mk2 (w : World) (C : Array Value) (s t : TypeId) : Z2 w ((w.alloc (.cells C s)).alloc (.cells #[.int .i64 0, .int .i64 0, .int .i64 0, .int .i64 0, .int .i64 0] t)) where
  bel := new2 _ _ _
  size := by simp
  zer := by have := boxed (w.alloc (.cells C s)) ⟨0, 0, 0, 0, 0⟩ t; simpa using this
  free := fun i => by simp
theorem Z2.call {w W W' : World} (h : Z2 w W) (hb : Below W.heap.size W W') : Z2 w W' where
  bel := h.bel.trans (hb.mono h.bel.size)
  size := Nat.le_trans h.size hb.size
  zer := At.keep h.zer (B := W.heap.size) (by have := h.size; omega) hb
  free := fun i => (hb.frozen (p := ⟨w.heap.size + 1, i, none⟩) (by have := h.size; simp; omega)).trans (h.free i)
noncomputable def chI (s : Int) (l : List Ver) (b : Int) : Int := if s = 2 then (if 0 ≤ vAt l b then 0 else 3) else if s = 4 ∧ b < (lastV l).c then 3 else 0
noncomputable def chV (s : Int) (l : List Ver) (b : Int) : Ver := if s = 2 then (if 0 ≤ vAt l b then l.getD (vAt l b).toNat default else ⟨0, 0, 0, 0, 0⟩) else if s = 4 ∧ b < (lastV l).c then ⟨0, 0, 0, 0, 0⟩ else lastV l
theorem ch_last {s b : Int} {l : List Ver} (h2 : s ≠ 2) (h4 : ¬ (s = 4 ∧ b < (lastV l).c)) : chI s l b = 0 ∧ chV s l b = lastV l := by unfold chI chV; rw [if_neg h2, if_neg h4, if_neg h2, if_neg h4]; exact ⟨rfl, rfl⟩
theorem ch_late {s b : Int} {l : List Ver} (hs : s = 4) (h : b < (lastV l).c) : chI s l b = 3 ∧ chV s l b = ⟨0, 0, 0, 0, 0⟩ := by
  subst hs
  unfold chI chV
  rw [if_neg (by omega), if_pos ⟨rfl, h⟩, if_neg (by omega), if_pos ⟨rfl, h⟩]
  exact ⟨rfl, rfl⟩
theorem ch_none {s b : Int} {l : List Ver} (hs : s = 2) (h : ¬ 0 ≤ vAt l b) : chI s l b = 3 ∧ chV s l b = ⟨0, 0, 0, 0, 0⟩ := by
  subst hs
  unfold chI chV
  rw [if_pos rfl, if_neg h, if_pos rfl, if_neg h]
  exact ⟨rfl, rfl⟩
theorem ch_hit {s b : Int} {l : List Ver} {x : Ver} {j : Nat} (hs : s = 2) (h : vAt l b = j) (hx : l[j]? = some x) : chI s l b = 0 ∧ chV s l b = x := by
  subst hs
  unfold chI chV
  rw [if_pos rfl, if_pos (by omega), if_pos rfl, if_pos (by omega), h]
  simp [List.getD, hx]
theorem pair_eq {i j : Int} {x y : Ver} (h : i = j ∧ x = y) : Ending.returned (.tuple #[.agg #[.int .i64 x.a, .int .i64 x.b, .int .i64 x.c, .int .i64 x.d, .int .i64 x.e], .int .i64 i]) = .returned (.tuple #[.agg #[.int .i64 y.a, .int .i64 y.b, .int .i64 y.c, .int .i64 y.d, .int .i64 y.e], .int .i64 j]) := by rw [h.1, h.2]
set_option maxRecDepth 100000 in
set_option maxHeartbeats 1600000 in
theorem cv_0 {s : Int} {w : World} {B n c : Nat} {A : Option Addr} {l : List Ver} (b : Int) (h2 : s ≠ 2) (h4 : s ≠ 4) (hch : chB l = true) (hn : n ≤ 140737488355328) (h1 : Vs w B A n l) (hB : B ≤ w.heap.size) :
    Calls Try.prog 124 #[.agg #[], .slice A n c, .int .i64 b] w fun e w' => e = .returned (.tuple #[.agg #[.int .i64 (chV s l b).a, .int .i64 (chV s l b).b, .int .i64 (chV s l b).c, .int .i64 (chV s l b).d, .int .i64 (chV s l b).e], .int .i64 (chI s l b)]) ∧ Below w.heap.size w w' := by
  have H1 := Lib.hid h1
  have hln := h1.1
  clear h1
  obtain ⟨i, hi⟩ : ∃ i, chI s l b = i := ⟨_, rfl⟩
  obtain ⟨y, hy⟩ : ∃ y, chV s l b = y := ⟨_, rfl⟩
  rw [hi, hy]
  have HI := Lib.hid hi
  have HY := Lib.hid hy
  clear hi hy
  obtain ⟨x, hx⟩ : ∃ x, lastV l = x := ⟨_, rfl⟩
  have HX := Lib.hid hx
  have HE : Hid ((0 : Int) = i ∧ x = y) := Lib.hid (by
    obtain ⟨e1, e2⟩ := ch_last (l := l) (b := b) h2 (fun h => h4 h.1)
    rw [← HI.out, ← HY.out, e1, e2, hx]; exact ⟨rfl, rfl⟩)
  clear hx HI HY h2 h4
  go_enter Try.func124, Try.ntmps124
  go_wp2_with fail
  have hL := Z2.mk2 w #[] 112 34
  generalize ((w.alloc _).alloc _) = W0 at hL ⊢
  have L0 := Lib.hid hL
  clear hL
  refine (latest_impl HX.out hn (H1.out.below (below_le L0.out.bel hB)) (by have := L0.out.size; omega)).mono ?_
  rintro e W1 ⟨rfl, hb⟩
  have L1 := Lib.hid (L0.out.call hb)
  clear hb
  obtain ⟨z0, z1, z2, z3, z4⟩ := atFlat L1.out.zer
  have g0 := L1.out.free 0
  have g1 := L1.out.free 1
  have g2 := L1.out.free 2
  have g3 := L1.out.free 3
  have g4 := L1.out.free 4
  have hsz := L1.out.size
  simp only at z0 z1 z2 z3 z4
  go_wp2_with fail
  have hs := store5 L1.out.zer x
  have hl := below5 (b := w.heap.size + 1) L1.out.bel (by omega) x
  generalize (((((World.setCell _ _ _).setCell _ _).setCell _ _).setCell _ _).setCell _ _) = Wf at hs hl ⊢
  obtain ⟨s0, s1, s2, s3, s4⟩ := atFlat hs
  try simp only at s0 s1 s2 s3 s4
  exact bodyPost_ret (v := .tuple #[.agg #[.int .i64 (x : Ver).a, .int .i64 (x : Ver).b, .int .i64 (x : Ver).c, .int .i64 (x : Ver).d, .int .i64 (x : Ver).e], .int .i64 0]) (by simp [results, Try.results124, go_sem, s0, s1, s2, s3, s4]) rfl ⟨pair_eq HE.out, hl⟩
set_option maxRecDepth 100000 in
set_option maxHeartbeats 1600000 in
theorem cv_4 {s : Int} {w : World} {B n c : Nat} {A : Option Addr} {l : List Ver} (b : Int) (hq : s = 4) (hch : chB l = true) (hn : n ≤ 140737488355328) (h1 : Vs w B A n l) (hB : B ≤ w.heap.size) :
    Calls Try.prog 135 #[.agg #[], .slice A n c, .int .i64 b] w fun e w' => e = .returned (.tuple #[.agg #[.int .i64 (chV s l b).a, .int .i64 (chV s l b).b, .int .i64 (chV s l b).c, .int .i64 (chV s l b).d, .int .i64 (chV s l b).e], .int .i64 (chI s l b)]) ∧ Below w.heap.size w w' := by
  have H1 := Lib.hid h1
  have hln := h1.1
  clear h1
  obtain ⟨i, hi⟩ : ∃ i, chI s l b = i := ⟨_, rfl⟩
  obtain ⟨y, hy⟩ : ∃ y, chV s l b = y := ⟨_, rfl⟩
  rw [hi, hy]
  have HI := Lib.hid hi
  have HY := Lib.hid hy
  clear hi hy
  obtain ⟨x, hx⟩ : ∃ x, lastV l = x := ⟨_, rfl⟩
  have HX := Lib.hid hx
  have Q := Lib.hid hq
  clear hq
  by_cases h : b < x.c
  · have t : decide (b < x.c) = true := decide_eq_true h
    have HE : Hid ((3 : Int) = i ∧ (⟨0, 0, 0, 0, 0⟩ : Ver) = y) := Lib.hid (by
      obtain ⟨e1, e2⟩ := ch_late (l := l) (b := b) Q.out (by rw [hx]; exact h)
      rw [← HI.out, ← HY.out, e1, e2]; exact ⟨rfl, rfl⟩)
    clear hx HI HY h
    go_enter Try.func135, Try.ntmps135
    go_wp2_with fail
    have hL := Z2.mk2 w #[] 116 34
    generalize ((w.alloc _).alloc _) = W0 at hL ⊢
    have L0 := Lib.hid hL
    clear hL
    refine (latest_impl HX.out hn (H1.out.below (below_le L0.out.bel hB)) (by have := L0.out.size; omega)).mono ?_
    rintro e W1 ⟨rfl, hb⟩
    have L1 := Lib.hid (L0.out.call hb)
    clear hb
    have hsb : w.heap.size + 1 < W1.heap.size := by have := L1.out.size; omega
    obtain ⟨z0, z1, z2, z3, z4⟩ := atFlat L1.out.zer
    have g0 := L1.out.free 0
    have g1 := L1.out.free 1
    have g2 := L1.out.free 2
    have g3 := L1.out.free 3
    have g4 := L1.out.free 4
    have hsz := L1.out.size
    simp only at z0 z1 z2 z3 z4
    go_wp2_with fail
    have hs := store5 L1.out.zer ⟨0, 0, 0, 0, 0⟩
    have hl := below5 (b := w.heap.size + 1) L1.out.bel (by omega) ⟨0, 0, 0, 0, 0⟩
    generalize hW : (((((World.setCell _ _ _).setCell _ _).setCell _ _).setCell _ _).setCell _ _) = Wf at hs hl ⊢
    have hz : w.heap.size + 1 < Wf.heap.size := by rw [← hW]; simp; omega
    clear hW
    have hs2 := At.keep hs hz (new1 Wf (.cells #[.int .i64 x.a, .int .i64 x.b, .int .i64 x.c, .int .i64 x.d, .int .i64 x.e] 34))
    obtain ⟨s0, s1, s2, s3, s4⟩ := atFlat hs2
    try simp only at s0 s1 s2 s3 s4
    exact bodyPost_ret (v := .tuple #[.agg #[.int .i64 (⟨0, 0, 0, 0, 0⟩ : Ver).a, .int .i64 (⟨0, 0, 0, 0, 0⟩ : Ver).b, .int .i64 (⟨0, 0, 0, 0, 0⟩ : Ver).c, .int .i64 (⟨0, 0, 0, 0, 0⟩ : Ver).d, .int .i64 (⟨0, 0, 0, 0, 0⟩ : Ver).e], .int .i64 3]) (by simp [results, Try.results135, go_sem, s0, s1, s2, s3, s4]) rfl ⟨pair_eq HE.out, hl.alloc hl.size _⟩
  · have t : decide (b < x.c) = false := decide_eq_false h
    have HE : Hid ((0 : Int) = i ∧ x = y) := Lib.hid (by
      obtain ⟨e1, e2⟩ := ch_last (l := l) (b := b) (s := s) (by have := Q.out; omega) (fun h' => h (by rw [← hx]; exact h'.2))
      rw [← HI.out, ← HY.out, e1, e2, hx]; exact ⟨rfl, rfl⟩)
    clear hx HI HY h
    go_enter Try.func135, Try.ntmps135
    go_wp2_with fail
    have hL := Z2.mk2 w #[] 116 34
    generalize ((w.alloc _).alloc _) = W0 at hL ⊢
    have L0 := Lib.hid hL
    clear hL
    refine (latest_impl HX.out hn (H1.out.below (below_le L0.out.bel hB)) (by have := L0.out.size; omega)).mono ?_
    rintro e W1 ⟨rfl, hb⟩
    have L1 := Lib.hid (L0.out.call hb)
    clear hb
    have hsb : w.heap.size + 1 < W1.heap.size := by have := L1.out.size; omega
    obtain ⟨z0, z1, z2, z3, z4⟩ := atFlat L1.out.zer
    have g0 := L1.out.free 0
    have g1 := L1.out.free 1
    have g2 := L1.out.free 2
    have g3 := L1.out.free 3
    have g4 := L1.out.free 4
    have hsz := L1.out.size
    simp only at z0 z1 z2 z3 z4
    go_wp2_with fail
    have hs := store5 L1.out.zer x
    have hl := below5 (b := w.heap.size + 1) L1.out.bel (by omega) x
    generalize hW : (((((World.setCell _ _ _).setCell _ _).setCell _ _).setCell _ _).setCell _ _) = Wf at hs hl ⊢
    have hz : w.heap.size + 1 < Wf.heap.size := by rw [← hW]; simp; omega
    clear hW
    have hs2 := At.keep hs hz (new1 Wf (.cells #[.int .i64 x.a, .int .i64 x.b, .int .i64 x.c, .int .i64 x.d, .int .i64 x.e] 34))
    obtain ⟨s0, s1, s2, s3, s4⟩ := atFlat hs2
    try simp only at s0 s1 s2 s3 s4
    exact bodyPost_ret (v := .tuple #[.agg #[.int .i64 (x : Ver).a, .int .i64 (x : Ver).b, .int .i64 (x : Ver).c, .int .i64 (x : Ver).d, .int .i64 (x : Ver).e], .int .i64 0]) (by simp [results, Try.results135, go_sem, s0, s1, s2, s3, s4]) rfl ⟨pair_eq HE.out, hl.alloc hl.size _⟩
set_option maxRecDepth 100000 in
set_option maxHeartbeats 1600000 in
theorem cv_2 {s : Int} {w : World} {B n c : Nat} {A : Option Addr} {l : List Ver} (b : Int) (hq : s = 2) (hch : chB l = true) (hn : n ≤ 140737488355328) (h1 : Vs w B A n l) (hB : B ≤ w.heap.size) :
    Calls Try.prog 130 #[.agg #[], .slice A n c, .int .i64 b] w fun e w' => e = .returned (.tuple #[.agg #[.int .i64 (chV s l b).a, .int .i64 (chV s l b).b, .int .i64 (chV s l b).c, .int .i64 (chV s l b).d, .int .i64 (chV s l b).e], .int .i64 (chI s l b)]) ∧ Below w.heap.size w w' := by
  have H1 := Lib.hid h1
  have hln := h1.1
  clear h1
  obtain ⟨i, hi⟩ : ∃ i, chI s l b = i := ⟨_, rfl⟩
  obtain ⟨y, hy⟩ : ∃ y, chV s l b = y := ⟨_, rfl⟩
  rw [hi, hy]
  have HI := Lib.hid hi
  have HY := Lib.hid hy
  clear hi hy
  have Q := Lib.hid hq
  clear hq
  obtain ⟨r1, r2⟩ := vAt_range b hch
  obtain ⟨v, hv⟩ : ∃ v, vAt l b = v := ⟨_, rfl⟩
  rw [hv] at r1 r2
  have HV := Lib.hid hv
  clear hv
  by_cases h : v < 0
  · have t : decide (v < 0) = true := decide_eq_true h
    have HE : Hid ((3 : Int) = i ∧ (⟨0, 0, 0, 0, 0⟩ : Ver) = y) := Lib.hid (by
      obtain ⟨e1, e2⟩ := ch_none (l := l) (b := b) Q.out (by rw [HV.out]; omega)
      rw [← HI.out, ← HY.out, e1, e2]; exact ⟨rfl, rfl⟩)
    clear HI HY h
    go_enter Try.func130, Try.ntmps130
    go_wp2_with fail
    have hL := Z2.mk2 w #[] 115 34
    generalize ((w.alloc _).alloc _) = W0 at hL ⊢
    have L0 := Lib.hid hL
    clear hL
    refine (impl_at b hn (H1.out.below (below_le L0.out.bel hB)) (by have := L0.out.size; omega)).mono ?_
    rintro e W1 ⟨rfl, hb⟩
    rw [HV.out]
    have L1 := Lib.hid (L0.out.call hb)
    clear hb
    obtain ⟨z0, z1, z2, z3, z4⟩ := atFlat L1.out.zer
    have g0 := L1.out.free 0
    have g1 := L1.out.free 1
    have g2 := L1.out.free 2
    have g3 := L1.out.free 3
    have g4 := L1.out.free 4
    have hsz := L1.out.size
    simp only at z0 z1 z2 z3 z4
    go_wp2_with fail
    have hs := store5 L1.out.zer ⟨0, 0, 0, 0, 0⟩
    have hl := below5 (b := w.heap.size + 1) L1.out.bel (by omega) ⟨0, 0, 0, 0, 0⟩
    generalize (((((World.setCell _ _ _).setCell _ _).setCell _ _).setCell _ _).setCell _ _) = Wf at hs hl ⊢
    obtain ⟨s0, s1, s2, s3, s4⟩ := atFlat hs
    try simp only at s0 s1 s2 s3 s4
    exact bodyPost_ret (v := .tuple #[.agg #[.int .i64 (⟨0, 0, 0, 0, 0⟩ : Ver).a, .int .i64 (⟨0, 0, 0, 0, 0⟩ : Ver).b, .int .i64 (⟨0, 0, 0, 0, 0⟩ : Ver).c, .int .i64 (⟨0, 0, 0, 0, 0⟩ : Ver).d, .int .i64 (⟨0, 0, 0, 0, 0⟩ : Ver).e], .int .i64 3]) (by simp [results, Try.results130, go_sem, s0, s1, s2, s3, s4]) rfl ⟨pair_eq HE.out, hl⟩
  · have t : decide (v < 0) = false := decide_eq_false h
    obtain ⟨k, rfl⟩ : ∃ k : Nat, v = k := ⟨v.toNat, by omega⟩
    have hk : k < n := by omega
    obtain ⟨b2, o, x, rfl, hbB, hx, hat⟩ := H1.out.at_ hk
    have HE : Hid ((0 : Int) = i ∧ x = y) := Lib.hid (by
      obtain ⟨e1, e2⟩ := ch_hit (l := l) (b := b) Q.out HV.out hx
      rw [← HI.out, ← HY.out, e1, e2]; exact ⟨rfl, rfl⟩)
    have HA := Lib.hid hat
    clear HI HY h hx hat
    have t0 : (0 : Int) ≤ k := by omega
    have t1 : (k : Int) < n := by omega
    go_enter Try.func130, Try.ntmps130
    go_wp2_with fail
    have hL := Z2.mk2 w #[] 115 34
    generalize ((w.alloc _).alloc _) = W0 at hL ⊢
    have L0 := Lib.hid hL
    clear hL
    refine (impl_at b hn (H1.out.below (below_le L0.out.bel hB)) (by have := L0.out.size; omega)).mono ?_
    rintro e W1 ⟨rfl, hb⟩
    rw [HV.out]
    have L1 := Lib.hid (L0.out.call hb)
    clear hb
    obtain ⟨z0, z1, z2, z3, z4⟩ := atFlat L1.out.zer
    have g0 := L1.out.free 0
    have g1 := L1.out.free 1
    have g2 := L1.out.free 2
    have g3 := L1.out.free 3
    have g4 := L1.out.free 4
    have hsz := L1.out.size
    simp only at z0 z1 z2 z3 z4
    obtain ⟨a0, a1, a2, a3, a4⟩ := At.keep HA.out (B := B) (by omega) (below_le L1.out.bel hB)
    go_wp2_with fail
    have hs := store5 L1.out.zer x
    have hl := below5 (b := w.heap.size + 1) L1.out.bel (by omega) x
    generalize (((((World.setCell _ _ _).setCell _ _).setCell _ _).setCell _ _).setCell _ _) = Wf at hs hl ⊢
    obtain ⟨s0, s1, s2, s3, s4⟩ := atFlat hs
    try simp only at s0 s1 s2 s3 s4
    exact bodyPost_ret (v := .tuple #[.agg #[.int .i64 (x : Ver).a, .int .i64 (x : Ver).b, .int .i64 (x : Ver).c, .int .i64 (x : Ver).d, .int .i64 (x : Ver).e], .int .i64 0]) (by simp [results, Try.results130, go_sem, s0, s1, s2, s3, s4]) rfl ⟨pair_eq HE.out, hl⟩
end Go.Proofs.Ytdfhnngcddaccaa.ruc
/- isActive of the program: what it answers; nothing that was there is written. -/
namespace Go.Proofs.Ytdfhnngcddaccaa.ia
open Go.ChangeShapes Go.WideShapes Go.ChangeAt Go.RowKit
open Go.Proofs.Ytdfhnngcddaccaa.el2 Go.Proofs.Ytdfhnngcddaccaa.tx Go.Proofs.Ytdfhnngcddaccaa.seq Go.Proofs.Ytdfhnngcddaccaa.tv
open Go.Proofs.Ytdfhnngcddaccaa.vers (new2 In ret_b)
set_option linter.unusedVariables false
set_option linter.unusedSimpArgs false
noncomputable def actB (x : Hd) (R S : List E2) : Bool := txB x R S && decide (x.t = 1)
theorem act_t {x : Hd} {R S : List E2} (h : txB x R S = true) : decide (x.t = 1) = actB x R S := by simp [actB, h]
theorem act_f {x : Hd} {R S : List E2} (h : txB x R S = false) : false = actB x R S := by simp [actB, h]
set_option maxRecDepth 100000 in
set_option maxHeartbeats 1600000 in
theorem impl_active {w : World} {B n c n2 c2 : Nat} {A A2 : Option Addr} {R S : List E2} (x : Hd) (hn : n ≤ 1048576) (hn2 : n2 ≤ 1048576) (h1 : Vs w B A n R) (h2 : Vs w B A2 n2 S) (hB : B ≤ w.heap.size) :
    Calls Try.prog 40 #[.agg #[.int .i64 x.i, .int .i64 x.s, .int .i64 x.t, .int .i64 x.b, .int .i64 x.l, .int .i64 x.h, .int .i64 x.c, .slice A n c, .slice A2 n2 c2]] w fun e w' => e = .returned (.bool (actB x R S)) ∧ Below w.heap.size w w' := by
  have H1 := Lib.hid h1
  have H2 := Lib.hid h2
  clear h1 h2
  go_enter Try.func40, Try.ntmps40
  go_wp2_with fail
  have hb := new1 w (.cells #[.int .i64 x.i, .int .i64 x.s, .int .i64 x.t, .int .i64 x.b, .int .i64 x.l, .int .i64 x.h, .int .i64 x.c, .slice A n c, .slice A2 n2 c2] 30)
  have tb := TB.new w x A n c A2 n2 c2 30
  have hs : (w.alloc (.cells #[.int .i64 x.i, .int .i64 x.s, .int .i64 x.t, .int .i64 x.b, .int .i64 x.l, .int .i64 x.h, .int .i64 x.c, .slice A n c, .slice A2 n2 c2] 30)).heap.size = w.heap.size + 1 := by simp
  generalize w.alloc _ = W0 at hb tb hs ⊢
  have HB0 := Lib.hid hb
  have HT0 := Lib.hid tb
  obtain ⟨t0, t1, t2, t3, t4, t5, t6, t7, t8⟩ := tb
  clear hb
  go_wp2_with fail
  refine (impl_tx x (by omega) (by omega) (H1.out.below (below_le HB0.out hB)) (H2.out.below (below_le HB0.out hB)) (by omega)).mono ?_
  rintro e W1 ⟨rfl, hb1⟩
  clear t0 t1 t2 t3 t4 t5 t6 t7 t8
  obtain ⟨t0, t1, t2, t3, t4, t5, t6, t7, t8⟩ := HT0.out.keep (by omega) hb1
  have HB1 := Lib.hid (HB0.out.trans (hb1.mono (by omega)))
  clear hb1 t0 t1 t3 t4 t5 t6 t7 t8
  rcases hq : txB x R S with _ | _
  · have HQ := Lib.hid hq
    clear hq
    go_wp2_with fail
    go_ret
    exact ⟨ret_b (act_f HQ.out), HB1.out⟩
  · have HQ := Lib.hid hq
    clear hq
    go_wp2_with fail
    go_ret
    exact ⟨ret_b (by rw [← act_t HQ.out, Bool.eq_iff_iff]; simp), HB1.out⟩
end Go.Proofs.Ytdfhnngcddaccaa.ia
/- AreLocks of the program and of the model: what each answers; nothing that was there is written. -/
namespace Go.Proofs.Ytdfhnngcddaccaa.lka
open Go.ChangeShapes Go.WideShapes Go.ChangeAt Go.RowKit
open Go.Proofs.Ytdfhnngcddaccaa.el2 Go.Proofs.Ytdfhnngcddaccaa.seq Go.Proofs.Ytdfhnngcddaccaa.lk
open Go.Proofs.Ytdfhnngcddaccaa.vers (In in_yes in_no in_of in_off in_range ret_b)
open Go.Proofs.Ytdfhnngcddaccaa.tv (is_key)
open Go.Proofs.Ytdfhnngcddaccaa.rx (qleft)
set_option linter.unusedVariables false
set_option linter.unusedSimpArgs false
theorem in_q {x lo hi : Int} {q : Bool} (h : In lo hi x = q) (w : World) : Calls Try.prog 59 #[.int .i64 x, .int .i64 lo, .int .i64 hi] w fun e w' => e = .returned (.bool q) ∧ w = w' := by
  subst h
  exact in_range _ _ _ _
theorem is_id (x : Int) (w : World) :
    Calls Try.prog 73 #[.int .i64 x] w fun e w' => e = .returned (.bool (In 1 9 x)) ∧ w = w' := by
  go_enter Try.func73, Try.ntmps73
  by_cases h : 1 ≤ x
  · have d : decide (1 ≤ x) = true := decide_eq_true h
    go_wp2
    go_ret
    simp [In, d]
  · have d : decide (1 ≤ x) = false := decide_eq_false h
    go_wp2
    go_ret
    simp [In, d]
theorem key_q {x : Int} {q : Bool} (h : In 0 5 x = q) (w : World) : Calls Try.prog 66 #[.int .i64 x] w fun e w' => e = .returned (.bool q) ∧ w = w' := by
  subst h
  exact is_key _ _
theorem id_q {x : Int} {q : Bool} (h : In 1 9 x = q) (w : World) : Calls Try.prog 73 #[.int .i64 x] w fun e w' => e = .returned (.bool q) ∧ w = w' := by
  subst h
  exact is_id _ _
theorem at_prev {w : World} {B n b o k : Nat} {A : Option Addr} {l : List E2} (h : Vs w B A n l) (hA : A = some ⟨b, o, none⟩) (hk : k < n) (h0 : 0 < k) : ∃ y, l[k - 1]? = some y ∧ At w b (o + (k - 1) * 2) y := by
  obtain ⟨b', o', y, e, _, hy, ha⟩ := h.at_ (k := k - 1) (by omega)
  rw [hA] at e
  injection e with e
  injection e with e1 e2
  subst e1 e2
  exact ⟨y, hy, ha⟩
theorem lk_bad {l : List E2} {k : Nat} {x : E2} (hx : l[k]? = some x) (h : okK x = false) : false = lkB l := (sq_bad hx h).symm
theorem lk_off {l : List E2} {k : Nat} {x y : E2} (hk : 0 < k) (hy : l[k - 1]? = some y) (hx : l[k]? = some x) (h : ¬ y.a < x.a) : false = lkB l := (sq_off hk hy hx (folK_no h)).symm
theorem lk_all {l : List E2} {n : Nat} (hn : l.length = n) (h : Pri okK folK l n) : true = lkB l := (sq_all hn h).symm
set_option maxRecDepth 100000 in
set_option maxHeartbeats 3200000 in
theorem spec_are {w : World} {B n c : Nat} {A : Option Addr} {l : List E2} (hn : n ≤ 140737488355328) (h1 : Vs w B A n l) (hB : B ≤ w.heap.size) :
    Calls Try.prog 45 #[.slice A n c] w fun e w' => e = .returned (.bool (lkB l)) ∧ Below w.heap.size w w' := by
  have H1 := Lib.hid h1
  have hln := h1.1
  clear h1
  go_enter Try.func45, Try.ntmps45
  go_wp2
  go_loopw [3] (fun i wr => ∃ k : Nat, k ≤ n ∧ i = .int .i64 k ∧ Pri okK folK l k ∧ Below w.heap.size w wr) (fun i _ => n - (intOf i).toNat)
  case atStart => exact ⟨0, by omega, rfl, pri_zero _ _ l, Below.refl _ _⟩
  case round =>
    obtain ⟨k, hk, rfl, hP, hb⟩ := hrel
    have HP := Lib.hid hP
    have HB := Lib.hid hb
    clear hP
    by_cases hlt : k < n
    · obtain ⟨b, o, x, hA, hbB, hx, a0, a1⟩ := (H1.out.below (below_le hb hB)).at_ hlt
      have HA := Lib.hid hA
      have HX := Lib.hid hx
      rcases hk1 : In 0 5 x.a with _ | _
      · have HK1 := Lib.hid hk1
        subst hA
        clear hk1 hx hb
        go_wp2_with fail
        go_quiet ((go_at_call 59; exact qleft (in_q HK1.out _)))
        go_wp2_with fail
        go_ret
        exact ⟨ret_b (lk_bad HX.out (okK_a HK1.out)), Go.Proofs.Ytdfhnngcddaccaa.tv.bdrewN HB.out _⟩
      rcases hk2 : In 1 9 x.b with _ | _
      · have HK1 := Lib.hid hk1
        have HK2 := Lib.hid hk2
        subst hA
        clear hk1 hk2 hx hb
        go_wp2_with fail
        go_quiet ((go_at_call 59; first | with_reducible exact qleft (in_q HK1.out _) | with_reducible exact qleft (in_q HK2.out _)))
        go_wp2_with fail
        go_ret
        exact ⟨ret_b (lk_bad HX.out (okK_b HK2.out)), Go.Proofs.Ytdfhnngcddaccaa.tv.bdrewN HB.out _⟩
      have HK1 := Lib.hid hk1
      have HK2 := Lib.hid hk2
      clear hk1 hk2
      rcases Nat.eq_zero_or_pos k with h0 | h0
      · subst hA
        have t0 : decide ((0 : Int) < (k : Int)) = false := decide_eq_false (by omega)
        have t00 : decide (0 < k) = false := decide_eq_false (by omega)
        have t01 : ¬ 0 < k := by omega
        have H00 := Lib.hid h0
        clear h0 hx hb
        go_wp2_with fail
        go_quiet ((go_at_call 59; first | with_reducible exact qleft (in_q HK1.out _) | with_reducible exact qleft (in_q HK2.out _)))
        go_wp2_with fail
        go_roundw
        case rel => exact ⟨k + 1, by omega, by go_num, pri_step HP.out HX.out (okK_yes HK1.out HK2.out) (fun h => absurd h (by have := H00.out; omega)), Go.Proofs.Ytdfhnngcddaccaa.tv.bdrewN HB.out _⟩
        case measure => simp [intOf]; omega
      obtain ⟨y, hy, y0, y1⟩ := at_prev (H1.out.below (below_le hb hB)) hA hlt h0
      have HY := Lib.hid hy
      have t0 : decide ((0 : Int) < (k : Int)) = true := decide_eq_true (by omega)
      have e1 : ((k : Int) - 1).toNat = k - 1 := by omega
      have e2 : (0 : Int) ≤ (k : Int) - 1 := by omega
      have e3 : (k : Int) - 1 < (n : Int) := by omega
      subst hA
      clear hx hb hy
      by_cases hf : y.a < x.a
      · have t1 : decide (x.a ≤ y.a) = false := decide_eq_false (by omega)
        have HFL := Lib.hid hf
        clear hf
        go_wp2_with fail
        go_quiet ((go_at_call 59; first | with_reducible exact qleft (in_q HK1.out _) | with_reducible exact qleft (in_q HK2.out _)))
        go_wp2_with fail
        go_roundw
        case rel => exact ⟨k + 1, by omega, by go_num, pri_step HP.out HX.out (okK_yes HK1.out HK2.out) (fun _ z hz => by rw [HY.out] at hz; injection hz with hz; subst hz; exact folK_yes (by have := HFL.out; omega)), Go.Proofs.Ytdfhnngcddaccaa.tv.bdrewN HB.out _⟩
        case measure => simp [intOf]; omega
      · have t1 : decide (x.a ≤ y.a) = true := decide_eq_true (by omega)
        have HFL := Lib.hid hf
        have H00 := Lib.hid h0
        clear hf
        go_wp2_with fail
        go_quiet ((go_at_call 59; first | with_reducible exact qleft (in_q HK1.out _) | with_reducible exact qleft (in_q HK2.out _)))
        go_wp2_with fail
        go_ret
        exact ⟨ret_b (lk_off H00.out HY.out HX.out (by have := HFL.out; omega)), Go.Proofs.Ytdfhnngcddaccaa.tv.bdrewN HB.out _⟩
    · obtain rfl : n = k := by omega
      go_wp2_with fail
      go_ret
      exact ⟨ret_b (lk_all hln HP.out), HB.out⟩
set_option maxRecDepth 100000 in
set_option maxHeartbeats 3200000 in
theorem impl_are {w : World} {B n c : Nat} {A : Option Addr} {l : List E2} (hn : n ≤ 140737488355328) (h1 : Vs w B A n l) (hB : B ≤ w.heap.size) :
    Calls Try.prog 43 #[.slice A n c] w fun e w' => e = .returned (.bool (lkB l)) ∧ Below w.heap.size w w' := by
  have H1 := Lib.hid h1
  have hln := h1.1
  clear h1
  go_enter Try.func43, Try.ntmps43
  go_wp2
  go_loopw [7] (fun i wr => ∃ k : Nat, k ≤ n ∧ i = .int .i64 k ∧ Pri okK folK l k ∧ Below w.heap.size w wr) (fun i _ => n - (intOf i).toNat)
  case atStart => exact ⟨0, by omega, rfl, pri_zero _ _ l, Below.refl _ _⟩
  case round =>
    obtain ⟨k, hk, rfl, hP, hb⟩ := hrel
    have HP := Lib.hid hP
    have HB := Lib.hid hb
    clear hP
    by_cases hlt : k < n
    · obtain ⟨b, o, x, hA, hbB, hx, a0, a1⟩ := (H1.out.below (below_le hb hB)).at_ hlt
      have HX := Lib.hid hx
      have hsz := hb.size
      have hn0 := new1 wr (.cells #[.int .i64 x.a, .int .i64 x.b] 99)
      have HB0 : Hid (Below w.heap.size w (wr.alloc (.cells #[.int .i64 x.a, .int .i64 x.b] 99))) := Lib.hid (hb.trans (hn0.mono hsz))
      rcases hk1 : In 0 5 x.a with _ | _
      · have HK1 := Lib.hid hk1
        subst hA
        clear hk1 hx hb hn0 hsz
        go_wp2_with (first | (go_at_call 66; refine (key_q HK1.out _).mono ?_; rintro e w9 ⟨rfl, rfl⟩) | fail)
        go_ret
        exact ⟨ret_b (lk_bad HX.out (okK_a HK1.out)), HB0.out⟩
      rcases hk2 : In 1 9 x.b with _ | _
      · have HK1 := Lib.hid hk1
        have HK2 := Lib.hid hk2
        subst hA
        clear hk1 hk2 hx hb hn0 hsz
        go_wp2_with (first | (go_at_call 66; refine (key_q HK1.out _).mono ?_; rintro e w9 ⟨rfl, rfl⟩) | (go_at_call 73; refine (id_q HK2.out _).mono ?_; rintro e w9 ⟨rfl, rfl⟩) | fail)
        go_ret
        exact ⟨ret_b (lk_bad HX.out (okK_b HK2.out)), HB0.out⟩
      have HK1 := Lib.hid hk1
      have HK2 := Lib.hid hk2
      clear hk1 hk2
      rcases Nat.eq_zero_or_pos k with h0 | h0
      · subst hA
        have t0 : decide ((0 : Int) < (k : Int)) = false := decide_eq_false (by omega)
        have t00 : decide (0 < k) = false := decide_eq_false (by omega)
        have t01 : ¬ 0 < k := by omega
        have H00 := Lib.hid h0
        clear h0 hx hb hn0 hsz
        go_wp2_with (first | (go_at_call 66; refine (key_q HK1.out _).mono ?_; rintro e w9 ⟨rfl, rfl⟩) | (go_at_call 73; refine (id_q HK2.out _).mono ?_; rintro e w9 ⟨rfl, rfl⟩) | fail)
        go_quiet (fail)
        go_wp2_with fail
        go_roundw
        case rel => exact ⟨k + 1, by omega, by go_num, pri_step HP.out HX.out (okK_yes HK1.out HK2.out) (fun h => absurd h (by have := H00.out; omega)), Go.Proofs.Ytdfhnngcddaccaa.tv.bdrewN HB0.out _⟩
        case measure => simp [intOf]; omega
      obtain ⟨y, hy, hya⟩ := at_prev (H1.out.below (below_le hb hB)) hA hlt h0
      obtain ⟨y0, y1⟩ := hya.keep (by omega) hn0
      have HY := Lib.hid hy
      have t0 : decide ((0 : Int) < (k : Int)) = true := decide_eq_true (by omega)
      have e1 : ((k : Int) - 1).toNat = k - 1 := by omega
      have e2 : (0 : Int) ≤ (k : Int) - 1 := by omega
      have e3 : (k : Int) - 1 < (n : Int) := by omega
      obtain ⟨z0, z1⟩ := atFlat (boxed wr x 99)
      subst hA
      clear hx hb hy hn0 hsz hya
      by_cases hf : y.a < x.a
      · have t1 : decide (x.a ≤ y.a) = false := decide_eq_false (by omega)
        have HFL := Lib.hid hf
        clear hf
        go_wp2_with (first | (go_at_call 66; refine (key_q HK1.out _).mono ?_; rintro e w9 ⟨rfl, rfl⟩) | (go_at_call 73; refine (id_q HK2.out _).mono ?_; rintro e w9 ⟨rfl, rfl⟩) | fail)
        go_quiet (fail)
        go_wp2_with fail
        go_roundw
        case rel => exact ⟨k + 1, by omega, by go_num, pri_step HP.out HX.out (okK_yes HK1.out HK2.out) (fun _ z hz => by rw [HY.out] at hz; injection hz with hz; subst hz; exact folK_yes (by have := HFL.out; omega)), Go.Proofs.Ytdfhnngcddaccaa.tv.bdrewN HB0.out _⟩
        case measure => simp [intOf]; omega
      · have t1 : decide (x.a ≤ y.a) = true := decide_eq_true (by omega)
        have HFL := Lib.hid hf
        have H00 := Lib.hid h0
        clear hf
        go_wp2_with (first | (go_at_call 66; refine (key_q HK1.out _).mono ?_; rintro e w9 ⟨rfl, rfl⟩) | (go_at_call 73; refine (id_q HK2.out _).mono ?_; rintro e w9 ⟨rfl, rfl⟩) | fail)
        go_quiet (fail)
        go_wp2_with fail
        go_ret
        exact ⟨ret_b (lk_off H00.out HY.out HX.out (by have := HFL.out; omega)), Go.Proofs.Ytdfhnngcddaccaa.tv.bdrewN HB0.out _⟩
    · obtain rfl : n = k := by omega
      go_wp2_with fail
      go_ret
      exact ⟨ret_b (lk_all hln HP.out), HB.out⟩
end Go.Proofs.Ytdfhnngcddaccaa.lka
/- mayAccess of the program, l12Good of the model, ChooseVersion of both: what each answers; nothing that was there is written. -/
namespace Go.Proofs.Ytdfhnngcddaccaa.cho
open Go.ChangeShapes Go.WideShapes Go.ChangeAt Go.RowKit
open Go.Proofs.Ytdfhnngcddaccaa.el2 Go.Proofs.Ytdfhnngcddaccaa.tx Go.Proofs.Ytdfhnngcddaccaa.seq Go.Proofs.Ytdfhnngcddaccaa.tv Go.Proofs.Ytdfhnngcddaccaa.rx Go.Proofs.Ytdfhnngcddaccaa.ru Go.Proofs.Ytdfhnngcddaccaa.ruc Go.Proofs.Ytdfhnngcddaccaa.sc
open Go.Proofs.Ytdfhnngcddaccaa.vers (In in_yes in_no in_of in_off ret_b new2 new3)
open Go.Proofs.Ytdfhnngcddaccaa.sl (Ver)
open Go.Proofs.Ytdfhnngcddaccaa.st (Rs)
open Go.Proofs.Ytdfhnngcddaccaa.val (stB)
open Go.Proofs.Ytdfhnngcddaccaa.ia (actB impl_active)
open Go.Proofs.Ytdfhnngcddaccaa.lka (in_q key_q)
open Go.Proofs.Ytdfhnngcddaccaa.find (lastV vAt store5 below5 latest_spec latest_impl)
open Go.Proofs.Ytdfhnngcddaccaa.rd (rlB rlV raB raV ra_yes ra_at raV_yes rlV_yes)
set_option linter.unusedVariables false
set_option linter.unusedSimpArgs false
theorem gd_a {C : List (List Ver)} {x : Hd} {R S : List E2} {k : Int} {q : Bool} (hs : stB C = true) (ha : actB x R S = true) (hk : In 0 5 k = q) : q = gdB C x R S k := by
  simp only [actB, Bool.and_eq_true, decide_eq_true_eq] at ha
  simp [gdB, hs, ha.1, ha.2, hk]
theorem gd_na {C : List (List Ver)} {x : Hd} {R S : List E2} {k : Int} (ha : actB x R S = false) : false = gdB C x R S k := by
  simp only [actB] at ha
  unfold gdB
  rw [Bool.and_assoc (stB C), ha]
  simp
set_option maxRecDepth 100000 in
set_option maxHeartbeats 3200000 in
theorem impl_may {w : World} {B n c n2 c2 N cN : Nat} {A A2 D : Option Addr} {R S : List E2} {C : List (List Ver)} (x : Hd) (k : Int) (hn : n ≤ 1048576) (hn2 : n2 ≤ 1048576) (hN : N ≤ 1048576) (h1 : Vs w B A n R) (h2 : Vs w B A2 n2 S) (h3 : Rs w B D N C) (hB : B ≤ w.heap.size) :
    Calls Try.prog 35 #[.agg #[.slice D N cN], .agg #[.int .i64 x.i, .int .i64 x.s, .int .i64 x.t, .int .i64 x.b, .int .i64 x.l, .int .i64 x.h, .int .i64 x.c, .slice A n c, .slice A2 n2 c2], .int .i64 k] w fun e w' => e = .returned (.bool (gdB C x R S k)) ∧ Below w.heap.size w w' := by
  have H1 := Lib.hid h1
  have H2 := Lib.hid h2
  have H3 := Lib.hid h3
  have hln := h1.1
  have hln2 := h2.1
  have hln3 := h3.1
  clear h1 h2 h3
  go_enter Try.func35, Try.ntmps35
  go_wp2_with fail
  have hL := LS.mk2 w (.slice D N cN) 26 30 x A n c A2 n2 c2
  generalize ((w.alloc _).alloc _) = W0 at hL ⊢
  have L0 := Lib.hid hL
  have c0 := hL.st
  obtain ⟨t0, t1, t2, t3, t4, t5, t6, t7, t8⟩ := hL.tb
  clear hL
  go_wp2_with fail
  refine (val.impl_store (by omega) (H3.out.below (below_le L0.out.bel hB)) (by have := L0.out.size; omega)).mono ?_
  rintro e W1 ⟨rfl, hb⟩
  have L1 := Lib.hid (L0.out.call hb)
  clear hb c0 t0 t1 t2 t3 t4 t5 t6 t7 t8
  obtain ⟨t0, t1, t2, t3, t4, t5, t6, t7, t8⟩ := L1.out.tb
  rcases hst : stB C with _ | _
  · have HE : Hid (false = gdB C x R S k) := Lib.hid (gd_st hst).symm
    clear hst
    go_wp2_with fail
    go_ret
    exact ⟨ret_b HE.out, L1.out.bel⟩
  have HST := Lib.hid hst
  clear hst
  go_wp2_with fail
  refine (impl_active x (by omega) (by omega) (H1.out.below (below_le L1.out.bel hB)) (H2.out.below (below_le L1.out.bel hB)) (by have := L1.out.size; omega)).mono ?_
  rintro e W2 ⟨rfl, hb⟩
  have L2 := Lib.hid (L1.out.call hb)
  clear hb t0 t1 t2 t3 t4 t5 t6 t7 t8
  rcases ha : actB x R S with _ | _
  · have HE : Hid (false = gdB C x R S k) := Lib.hid (gd_na ha)
    clear ha
    go_wp2_with fail
    go_ret
    exact ⟨ret_b HE.out, L2.out.bel⟩
  obtain ⟨q, hq⟩ : ∃ q, In 0 5 k = q := ⟨_, rfl⟩
  have HE : Hid (q = gdB C x R S k) := Lib.hid (gd_a HST.out ha hq)
  have HQ := Lib.hid hq
  clear ha hq
  go_wp2_with fail
  refine (key_q HQ.out _).mono ?_
  rintro e W3 ⟨rfl, rfl⟩
  go_wp2_with fail
  go_ret
  exact ⟨ret_b HE.out, L2.out.bel⟩
set_option maxRecDepth 100000 in
set_option maxHeartbeats 3200000 in
theorem spec_good {w : World} {B n c n2 c2 N cN : Nat} {A A2 D : Option Addr} {R S : List E2} {C : List (List Ver)} (x : Hd) (k : Int) (hn : n ≤ 1048576) (hn2 : n2 ≤ 1048576) (hN : N ≤ 1048576) (h1 : Vs w B A n R) (h2 : Vs w B A2 n2 S) (h3 : Rs w B D N C) (hB : B ≤ w.heap.size) :
    Calls Try.prog 37 #[.agg #[.slice D N cN], .agg #[.int .i64 x.i, .int .i64 x.s, .int .i64 x.t, .int .i64 x.b, .int .i64 x.l, .int .i64 x.h, .int .i64 x.c, .slice A n c, .slice A2 n2 c2], .int .i64 k] w fun e w' => e = .returned (.bool (gdB C x R S k)) ∧ Below w.heap.size w w' := by
  have H1 := Lib.hid h1
  have H2 := Lib.hid h2
  have H3 := Lib.hid h3
  have hln := h1.1
  have hln2 := h2.1
  have hln3 := h3.1
  clear h1 h2 h3
  go_enter Try.func37, Try.ntmps37
  go_wp2_with fail
  have hL := LS.mk2 w (.slice D N cN) 26 30 x A n c A2 n2 c2
  generalize ((w.alloc _).alloc _) = W0 at hL ⊢
  have L0 := Lib.hid hL
  have c0 := hL.st
  obtain ⟨t0, t1, t2, t3, t4, t5, t6, t7, t8⟩ := hL.tb
  clear hL
  go_wp2_with fail
  refine (val.spec_store (by omega) (H3.out.below (below_le L0.out.bel hB)) (by have := L0.out.size; omega)).mono ?_
  rintro e W1 ⟨rfl, hb⟩
  have L1 := Lib.hid (L0.out.call hb)
  clear hb c0 t0 t1 t2 t3 t4 t5 t6 t7 t8
  obtain ⟨t0, t1, t2, t3, t4, t5, t6, t7, t8⟩ := L1.out.tb
  rcases hst : stB C with _ | _
  · have HE : Hid (false = gdB C x R S k) := Lib.hid (gd_st hst).symm
    clear hst
    go_wp2_with fail
    go_ret
    exact ⟨ret_b HE.out, L1.out.bel⟩
  have HST := Lib.hid hst
  clear hst
  go_wp2_with fail
  refine (tvs.spec_tx x (by omega) (by omega) (H1.out.below (below_le L1.out.bel hB)) (H2.out.below (below_le L1.out.bel hB)) (by have := L1.out.size; omega)).mono ?_
  rintro e W2 ⟨rfl, hb⟩
  have L2 := Lib.hid (L1.out.call hb)
  clear hb t0 t1 t2 t3 t4 t5 t6 t7 t8
  obtain ⟨t0, t1, t2, t3, t4, t5, t6, t7, t8⟩ := L2.out.tb
  rcases ha : txB x R S with _ | _
  · have HE : Hid (false = gdB C x R S k) := Lib.hid (gd_tx ha).symm
    clear ha
    go_wp2_with fail
    go_ret
    exact ⟨ret_b HE.out, L2.out.bel⟩
  have HA := Lib.hid ha
  clear ha
  by_cases ht : x.t = 1
  · have t : (x.t == 1) = true := by simpa using ht
    obtain ⟨q, hq⟩ : ∃ q, In 0 5 k = q := ⟨_, rfl⟩
    have HE : Hid (q = gdB C x R S k) := Lib.hid (by simp [gdB, HST.out, HA.out, ht, hq])
    have HQ := Lib.hid hq
    clear hq ht
    go_wp2_with fail
    refine (in_q HQ.out _).mono ?_
    rintro e W3 ⟨rfl, rfl⟩
    go_wp2_with fail
    go_ret
    exact ⟨ret_b HE.out, L2.out.bel⟩
  · have t : (x.t == 1) = false := by simpa using ht
    have HE : Hid (false = gdB C x R S k) := Lib.hid (gd_t ht).symm
    clear ht
    go_wp2_with fail
    go_ret
    exact ⟨ret_b HE.out, L2.out.bel⟩
theorem cv_ch {C : List (List Ver)} {x : Hd} {R S : List E2} {k : Int} {l : List Ver} (h : gdB C x R S k = true) (hl : C[k.toNat]? = some l) : cvI C x R S k = chI x.s l x.b ∧ cvV C x R S k = chV x.s l x.b := by
  have hr := gd_rl h
  by_cases h2 : x.s = 2
  · by_cases hv : 0 ≤ vAt l x.b
    · have ra := ra_yes hr hl hv
      obtain ⟨e1, e2⟩ := cv_snap h h2 ra
      rw [e1, e2]
      unfold chI chV
      rw [if_pos h2, if_pos hv, if_pos h2, if_pos hv]
      refine ⟨rfl, ?_⟩
      simp [raV, ra, List.getD, hl]
    · obtain ⟨e1, e2⟩ := cv_late h h2 (ra_at hl (by omega))
      obtain ⟨e3, e4⟩ := ch_none (l := l) h2 hv
      rw [e1, e2, e3, e4]
      exact ⟨rfl, rfl⟩
  · have hv := rlV_yes hr hl
    by_cases h4 : x.s = 4 ∧ x.b < (lastV l).c
    · obtain ⟨e1, e2⟩ := cv_ord h h4.1 (by rw [hv]; exact h4.2)
      obtain ⟨e3, e4⟩ := ch_late (l := l) h4.1 h4.2
      rw [e1, e2, e3, e4]
      exact ⟨rfl, rfl⟩
    · obtain ⟨e1, e2⟩ := cv_last h h2 (by rw [hv]; exact h4)
      obtain ⟨e3, e4⟩ := ch_last (l := l) h2 h4
      rw [e1, e2, e3, e4, hv]
      exact ⟨rfl, rfl⟩
theorem rules_q {s : Int} {v : Value} (h : ruV s = v) (w : World) : Calls Try.prog 36 #[.int .i64 s] w fun e w' => e = .returned v ∧ w = w' := by
  subst h
  exact rules_of _ _
theorem five_other {W : World} {z b' o' : Nat} {v0 v1 v2 v3 v4 : Value} (h : b' ≠ z) : (((((W.setCell ⟨z, 0, none⟩ v0).setCell ⟨z, 1, none⟩ v1).setCell ⟨z, 2, none⟩ v2).setCell ⟨z, 3, none⟩ v3).setCell ⟨z, 4, none⟩ v4).cell? ⟨b', o', none⟩ = W.cell? ⟨b', o', none⟩ := by
  have q : ∀ j, (⟨z, j, none⟩ : Addr) ≠ ⟨b', o', none⟩ := fun j e => h (by injection e with e _ _; exact e.symm)
  rw [World.cell?_setCell_other _ _ _ _ (q 4), World.cell?_setCell_other _ _ _ _ (q 3), World.cell?_setCell_other _ _ _ _ (q 2), World.cell?_setCell_other _ _ _ _ (q 1), World.cell?_setCell_other _ _ _ _ (q 0)]
/-- the boxes of a store and a transaction, and a zero version behind them -/
structure LZ (w : World) (sv : Value) (x : Hd) (u v : Value) (W : World) : Prop where
  ls : LS w sv x u v W
  size : w.heap.size + 3 ≤ W.heap.size
  zer : sl.At W (w.heap.size + 2) 0 ⟨0, 0, 0, 0, 0⟩
  free : ∀ i, W.frozen? ⟨w.heap.size + 2, i, none⟩ = false
theorem LZ.mk3 (w : World) (sv : Value) (s t t3 : TypeId) (x : Hd) (A : Option Addr) (n c : Nat) (A2 : Option Addr) (n2 c2 : Nat) : LZ w sv x (.slice A n c) (.slice A2 n2 c2) (((w.alloc (.cells #[sv] s)).alloc (.cells #[.int .i64 x.i, .int .i64 x.s, .int .i64 x.t, .int .i64 x.b, .int .i64 x.l, .int .i64 x.h, .int .i64 x.c, .slice A n c, .slice A2 n2 c2] t)).alloc (.cells #[.int .i64 0, .int .i64 0, .int .i64 0, .int .i64 0, .int .i64 0] t3)) where
  ls := (LS.mk2 w sv s t x A n c A2 n2 c2).call (new1 _ _)
  size := by simp
  zer := by have := ch.boxed ((w.alloc (.cells #[sv] s)).alloc (.cells #[.int .i64 x.i, .int .i64 x.s, .int .i64 x.t, .int .i64 x.b, .int .i64 x.l, .int .i64 x.h, .int .i64 x.c, .slice A n c, .slice A2 n2 c2] t)) ⟨0, 0, 0, 0, 0⟩ t3; simpa using this
  free := fun i => World.frozen?_alloc_at _ _ _ _ (by simp)
theorem LZ.call {w W W' : World} {sv u v : Value} {x : Hd} (h : LZ w sv x u v W) (hb : Below W.heap.size W W') : LZ w sv x u v W' where
  ls := h.ls.call hb
  size := Nat.le_trans h.size hb.size
  zer := sl.At.keep h.zer (B := W.heap.size) (by have := h.size; omega) hb
  free := fun i => (hb.frozen (p := ⟨w.heap.size + 2, i, none⟩) (by have := h.size; simp; omega)).trans (h.free i)
set_option maxRecDepth 100000 in
set_option maxHeartbeats 12800000 in
theorem impl_cv {w : World} {B n c n2 c2 N cN : Nat} {A A2 D : Option Addr} {R S : List E2} {C : List (List Ver)} (x : Hd) (k : Int) (hn : n ≤ 1048576) (hn2 : n2 ≤ 1048576) (hN : N ≤ 1048576) (h1 : Vs w B A n R) (h2 : Vs w B A2 n2 S) (h3 : Rs w B D N C) (hB : B ≤ w.heap.size) :
    Calls Try.prog 11 #[.agg #[.slice D N cN], .agg #[.int .i64 x.i, .int .i64 x.s, .int .i64 x.t, .int .i64 x.b, .int .i64 x.l, .int .i64 x.h, .int .i64 x.c, .slice A n c, .slice A2 n2 c2], .int .i64 k] w fun e w' => e = .returned (.tuple #[.agg #[.int .i64 (cvV C x R S k).a, .int .i64 (cvV C x R S k).b, .int .i64 (cvV C x R S k).c, .int .i64 (cvV C x R S k).d, .int .i64 (cvV C x R S k).e], .int .i64 (cvI C x R S k)]) ∧ Below w.heap.size w w' := by
  have H1 := Lib.hid h1
  have H2 := Lib.hid h2
  have H3 := Lib.hid h3
  have hln := h1.1
  have hln2 := h2.1
  have hln3 := h3.1
  clear h1 h2 h3
  obtain ⟨i, hi⟩ : ∃ i, cvI C x R S k = i := ⟨_, rfl⟩
  obtain ⟨y, hy⟩ : ∃ y, cvV C x R S k = y := ⟨_, rfl⟩
  rw [hi, hy]
  have HI := Lib.hid hi
  have HY := Lib.hid hy
  clear hi hy
  obtain ⟨gq, hgq⟩ : ∃ q, gdB C x R S k = q := ⟨_, rfl⟩
  have HG := Lib.hid hgq
  clear hgq
  rcases gq with _ | _
  · have HE : Hid ((6 : Int) = i ∧ (⟨0, 0, 0, 0, 0⟩ : Ver) = y) := Lib.hid (by
      obtain ⟨e1, e2⟩ := cv_no HG.out
      rw [← HI.out, ← HY.out, e1, e2]; exact ⟨rfl, rfl⟩)
    clear HI HY
    go_enter Try.func11, Try.ntmps11
    go_wp2_with fail
    have hL := LZ.mk3 w (.slice D N cN) 26 30 34 x A n c A2 n2 c2
    generalize (((w.alloc _).alloc _).alloc _) = W0 at hL ⊢
    have L0 := Lib.hid hL
    have c0 := hL.ls.st
    obtain ⟨t0, t1, t2, t3, t4, t5, t6, t7, t8⟩ := hL.ls.tb
    clear hL
    go_wp2_with fail
    refine (impl_may x k (by omega) (by omega) (by omega) (H1.out.below (below_le L0.out.ls.bel hB)) (H2.out.below (below_le L0.out.ls.bel hB)) (H3.out.below (below_le L0.out.ls.bel hB)) (by have := L0.out.size; omega)).mono ?_
    rintro e W1 ⟨rfl, hb⟩
    rw [HG.out]
    have L1 := Lib.hid (L0.out.call hb)
    clear hb c0 t0 t1 t2 t3 t4 t5 t6 t7 t8
    obtain ⟨z0, z1, z2, z3, z4⟩ := ch.atFlat L1.out.zer
    have g0 := L1.out.free 0
    have g1 := L1.out.free 1
    have g2 := L1.out.free 2
    have g3 := L1.out.free 3
    have g4 := L1.out.free 4
    have hsz : w.heap.size + 2 < W1.heap.size := by have := L1.out.size; omega
    have hsz1 : w.heap.size + 1 < W1.heap.size := by have := L1.out.size; omega
    have hsz0 : w.heap.size < W1.heap.size := by have := L1.out.size; omega
    simp only at z0 z1 z2 z3 z4
    go_wp2_with fail
    have hs := store5 L1.out.zer ⟨0, 0, 0, 0, 0⟩
    have hl := below5 (b := w.heap.size + 2) L1.out.ls.bel (by omega) ⟨0, 0, 0, 0, 0⟩
    generalize hW : (((((World.setCell _ _ _).setCell _ _).setCell _ _).setCell _ _).setCell _ _) = Wf at hs hl ⊢
    clear hW
    obtain ⟨s0, s1, s2, s3, s4⟩ := ch.atFlat hs
    try simp only at s0 s1 s2 s3 s4
    exact bodyPost_ret (v := .tuple #[.agg #[.int .i64 (⟨0, 0, 0, 0, 0⟩ : Ver).a, .int .i64 (⟨0, 0, 0, 0, 0⟩ : Ver).b, .int .i64 (⟨0, 0, 0, 0, 0⟩ : Ver).c, .int .i64 (⟨0, 0, 0, 0, 0⟩ : Ver).d, .int .i64 (⟨0, 0, 0, 0, 0⟩ : Ver).e], .int .i64 6]) (by simp [results, Try.results11, go_sem, s0, s1, s2, s3, s4]) rfl ⟨pair_eq HE.out, hl⟩
  obtain ⟨hst, htx, hxt, hin⟩ := gd_parts HG.out
  have hk := in_yes hin
  have hsix := val.st_six hst
  obtain ⟨b, o, l, A9, n9, c9, rfl, hbB, hl, hcell, hn9, hv⟩ := H3.out.at_ (k := k.toNat) (by omega)
  have HOK := Lib.hid (val.okL_ch_of (val.st_ok hst hl))
  have HC := Lib.hid hcell
  have HV := Lib.hid hv
  have HLL := Lib.hid hl
  have t0k : (k.toNat : Int) = k := by omega
  have t1k : (0 : Int) ≤ k := by omega
  have t2k : k < (N : Int) := by omega
  have HCV : Hid (chI x.s l x.b = i ∧ chV x.s l x.b = y) := Lib.hid (by
    obtain ⟨e1, e2⟩ := cv_ch HG.out hl
    rw [← e1, ← e2]; exact ⟨HI.out, HY.out⟩)
  clear hst htx hxt hin hsix hl hcell hv HI HY
  rcases ru_cases x.s with ⟨q1, hr⟩ | ⟨q1, hr⟩ | ⟨q1, hr⟩ | ⟨q1, hr⟩
  · have HR := Lib.hid hr
    have Q1 := Lib.hid q1
    have N2 : Hid (x.s ≠ 2) := Lib.hid (by omega)
    have N4 : Hid (x.s ≠ 4) := Lib.hid (by omega)
    have m1 := mt_ch1
    have m2 := na_ch1
    clear hr q1
    go_enter Try.func11, Try.ntmps11
    go_wp2_with fail
    have hL := LZ.mk3 w (.slice (some ⟨b, o, none⟩) N cN) 26 30 34 x A n c A2 n2 c2
    generalize (((w.alloc _).alloc _).alloc _) = W0 at hL ⊢
    have L0 := Lib.hid hL
    have c0 := hL.ls.st
    obtain ⟨t0, t1, t2, t3, t4, t5, t6, t7, t8⟩ := hL.ls.tb
    clear hL
    go_wp2_with fail
    refine (impl_may x k (by omega) (by omega) (by omega) (H1.out.below (below_le L0.out.ls.bel hB)) (H2.out.below (below_le L0.out.ls.bel hB)) (H3.out.below (below_le L0.out.ls.bel hB)) (by have := L0.out.size; omega)).mono ?_
    rintro e W1 ⟨rfl, hb⟩
    rw [HG.out]
    have L1 := Lib.hid (L0.out.call hb)
    clear hb c0 t0 t1 t2 t3 t4 t5 t6 t7 t8
    have hsz : w.heap.size + 2 < W1.heap.size := by have := L1.out.size; omega
    have hlb : b < W1.heap.size := by omega
    have c0 := L1.out.ls.st
    obtain ⟨t0, t1, t2, t3, t4, t5, t6, t7, t8⟩ := L1.out.ls.tb
    clear t0 t2 t4 t5 t6 t7 t8
    have d0 := (L1.out.ls.bel.cell (p := ⟨b, o + k.toNat, none⟩) (by simp only; omega)).trans HC.out
    go_wp2_with fail
    have hbk0 : Below W1.heap.size W1 W1.drew := (Below.refl _ _).drew
    have LD := Lib.hid (L1.out.call hbk0)
    have hne0 : w.heap.size ≠ w.heap.size + 1 + 1 := by omega
    have hne1 : w.heap.size + 1 ≠ w.heap.size + 1 + 1 := by omega
    have hne2 : b ≠ w.heap.size + 1 + 1 := by omega
    have hlbd : b < W1.drew.heap.size := by have := LD.out.size; omega
    have hBd : B ≤ W1.drew.heap.size := by have := LD.out.size; omega
    go_region_held3 (fun w' => w'.cell? ⟨w.heap.size, 0, none⟩ = some (.slice (some ⟨b, o, none⟩) N cN) ∧ w'.cell? ⟨w.heap.size + 1, 1, none⟩ = some (.int .i64 x.s) ∧ w'.cell? ⟨w.heap.size + 1, 3, none⟩ = some (.int .i64 x.b) ∧ w'.cell? ⟨b, o + k.toNat, none⟩ = some (.slice A9 n9 c9)) (first | (have zz := z0; with_reducible exact ⟨(five_other hne0).trans c1, (five_other hne1).trans t1b, (five_other hne1).trans t3b, (five_other hne2).trans d1⟩) | go_keep) (first | (go_at_call 36; (with_reducible refine (rules_q HR.out _).mono ?_); rintro e W2 ⟨he, hw⟩; subst he; subst hw) | (go_at_call 124; (with_reducible refine (cv_0 x.b N2.out N4.out HOK.out hn9 ((HV.out.below (below_le LD.out.ls.bel hB)).more hBd) (Nat.le_refl _)).mono ?_); rintro e W3 ⟨he, hb'⟩; rw [HCV.out.1, HCV.out.2] at he; subst he; have L3 := Lib.hid (LD.out.call hb'); have c1 := L3.out.ls.st; obtain ⟨_, t1b, _, t3b, _, _, _, _, _⟩ := L3.out.ls.tb; have d1 := (hb'.cell (p := ⟨b, o + k.toNat, none⟩) hlbd).trans ((hbk0.cell (p := ⟨b, o + k.toNat, none⟩) hlb).trans d0); obtain ⟨z0, z1, z2, z3, z4⟩ := ch.atFlat L3.out.zer; have g0 := L3.out.free 0; have g1 := L3.out.free 1; have g2 := L3.out.free 2; have g3 := L3.out.free 3; have g4 := L3.out.free 4; simp only at z0 z1 z2 z3 z4))
    go_wp2_with fail
    have hs := store5 L3.out.zer y
    have hl := below5 (b := w.heap.size + 2) L3.out.ls.bel (by omega) y
    generalize hW : (((((World.setCell _ _ _).setCell _ _).setCell _ _).setCell _ _).setCell _ _) = Wf at hs hl ⊢
    clear hW
    obtain ⟨s0, s1, s2, s3, s4⟩ := ch.atFlat hs
    try simp only at s0 s1 s2 s3 s4
    exact bodyPost_ret (v := .tuple #[.agg #[.int .i64 (y : Ver).a, .int .i64 (y : Ver).b, .int .i64 (y : Ver).c, .int .i64 (y : Ver).d, .int .i64 (y : Ver).e], .int .i64 i]) (by simp [results, Try.results11, go_sem, s0, s1, s2, s3, s4]) rfl ⟨pair_eq ⟨rfl, rfl⟩, hl⟩
  · have HR := Lib.hid hr
    have Q1 := Lib.hid q1
    have m1 := mt_ch2
    have m2 := na_ch2
    clear hr q1
    go_enter Try.func11, Try.ntmps11
    go_wp2_with fail
    have hL := LZ.mk3 w (.slice (some ⟨b, o, none⟩) N cN) 26 30 34 x A n c A2 n2 c2
    generalize (((w.alloc _).alloc _).alloc _) = W0 at hL ⊢
    have L0 := Lib.hid hL
    have c0 := hL.ls.st
    obtain ⟨t0, t1, t2, t3, t4, t5, t6, t7, t8⟩ := hL.ls.tb
    clear hL
    go_wp2_with fail
    refine (impl_may x k (by omega) (by omega) (by omega) (H1.out.below (below_le L0.out.ls.bel hB)) (H2.out.below (below_le L0.out.ls.bel hB)) (H3.out.below (below_le L0.out.ls.bel hB)) (by have := L0.out.size; omega)).mono ?_
    rintro e W1 ⟨rfl, hb⟩
    rw [HG.out]
    have L1 := Lib.hid (L0.out.call hb)
    clear hb c0 t0 t1 t2 t3 t4 t5 t6 t7 t8
    have hsz : w.heap.size + 2 < W1.heap.size := by have := L1.out.size; omega
    have hlb : b < W1.heap.size := by omega
    have c0 := L1.out.ls.st
    obtain ⟨t0, t1, t2, t3, t4, t5, t6, t7, t8⟩ := L1.out.ls.tb
    clear t0 t2 t4 t5 t6 t7 t8
    have d0 := (L1.out.ls.bel.cell (p := ⟨b, o + k.toNat, none⟩) (by simp only; omega)).trans HC.out
    go_wp2_with fail
    have hbk0 : Below W1.heap.size W1 W1.drew := (Below.refl _ _).drew
    have LD := Lib.hid (L1.out.call hbk0)
    have hne0 : w.heap.size ≠ w.heap.size + 1 + 1 := by omega
    have hne1 : w.heap.size + 1 ≠ w.heap.size + 1 + 1 := by omega
    have hne2 : b ≠ w.heap.size + 1 + 1 := by omega
    have hlbd : b < W1.drew.heap.size := by have := LD.out.size; omega
    have hBd : B ≤ W1.drew.heap.size := by have := LD.out.size; omega
    go_region_held3 (fun w' => w'.cell? ⟨w.heap.size, 0, none⟩ = some (.slice (some ⟨b, o, none⟩) N cN) ∧ w'.cell? ⟨w.heap.size + 1, 1, none⟩ = some (.int .i64 x.s) ∧ w'.cell? ⟨w.heap.size + 1, 3, none⟩ = some (.int .i64 x.b) ∧ w'.cell? ⟨b, o + k.toNat, none⟩ = some (.slice A9 n9 c9)) (first | (have zz := z0; with_reducible exact ⟨(five_other hne0).trans c1, (five_other hne1).trans t1b, (five_other hne1).trans t3b, (five_other hne2).trans d1⟩) | go_keep) (first | (go_at_call 36; (with_reducible refine (rules_q HR.out _).mono ?_); rintro e W2 ⟨he, hw⟩; subst he; subst hw) | (go_at_call 130; (with_reducible refine (cv_2 x.b Q1.out HOK.out hn9 ((HV.out.below (below_le LD.out.ls.bel hB)).more hBd) (Nat.le_refl _)).mono ?_); rintro e W3 ⟨he, hb'⟩; rw [HCV.out.1, HCV.out.2] at he; subst he; have L3 := Lib.hid (LD.out.call hb'); have c1 := L3.out.ls.st; obtain ⟨_, t1b, _, t3b, _, _, _, _, _⟩ := L3.out.ls.tb; have d1 := (hb'.cell (p := ⟨b, o + k.toNat, none⟩) hlbd).trans ((hbk0.cell (p := ⟨b, o + k.toNat, none⟩) hlb).trans d0); obtain ⟨z0, z1, z2, z3, z4⟩ := ch.atFlat L3.out.zer; have g0 := L3.out.free 0; have g1 := L3.out.free 1; have g2 := L3.out.free 2; have g3 := L3.out.free 3; have g4 := L3.out.free 4; simp only at z0 z1 z2 z3 z4))
    go_wp2_with fail
    have hs := store5 L3.out.zer y
    have hl := below5 (b := w.heap.size + 2) L3.out.ls.bel (by omega) y
    generalize hW : (((((World.setCell _ _ _).setCell _ _).setCell _ _).setCell _ _).setCell _ _) = Wf at hs hl ⊢
    clear hW
    obtain ⟨s0, s1, s2, s3, s4⟩ := ch.atFlat hs
    try simp only at s0 s1 s2 s3 s4
    exact bodyPost_ret (v := .tuple #[.agg #[.int .i64 (y : Ver).a, .int .i64 (y : Ver).b, .int .i64 (y : Ver).c, .int .i64 (y : Ver).d, .int .i64 (y : Ver).e], .int .i64 i]) (by simp [results, Try.results11, go_sem, s0, s1, s2, s3, s4]) rfl ⟨pair_eq ⟨rfl, rfl⟩, hl⟩
  · have HR := Lib.hid hr
    have Q1 := Lib.hid q1
    have m1 := mt_ch4
    have m2 := na_ch4
    clear hr q1
    go_enter Try.func11, Try.ntmps11
    go_wp2_with fail
    have hL := LZ.mk3 w (.slice (some ⟨b, o, none⟩) N cN) 26 30 34 x A n c A2 n2 c2
    generalize (((w.alloc _).alloc _).alloc _) = W0 at hL ⊢
    have L0 := Lib.hid hL
    have c0 := hL.ls.st
    obtain ⟨t0, t1, t2, t3, t4, t5, t6, t7, t8⟩ := hL.ls.tb
    clear hL
    go_wp2_with fail
    refine (impl_may x k (by omega) (by omega) (by omega) (H1.out.below (below_le L0.out.ls.bel hB)) (H2.out.below (below_le L0.out.ls.bel hB)) (H3.out.below (below_le L0.out.ls.bel hB)) (by have := L0.out.size; omega)).mono ?_
    rintro e W1 ⟨rfl, hb⟩
    rw [HG.out]
    have L1 := Lib.hid (L0.out.call hb)
    clear hb c0 t0 t1 t2 t3 t4 t5 t6 t7 t8
    have hsz : w.heap.size + 2 < W1.heap.size := by have := L1.out.size; omega
    have hlb : b < W1.heap.size := by omega
    have c0 := L1.out.ls.st
    obtain ⟨t0, t1, t2, t3, t4, t5, t6, t7, t8⟩ := L1.out.ls.tb
    clear t0 t2 t4 t5 t6 t7 t8
    have d0 := (L1.out.ls.bel.cell (p := ⟨b, o + k.toNat, none⟩) (by simp only; omega)).trans HC.out
    go_wp2_with fail
    have hbk0 : Below W1.heap.size W1 W1.drew := (Below.refl _ _).drew
    have LD := Lib.hid (L1.out.call hbk0)
    have hne0 : w.heap.size ≠ w.heap.size + 1 + 1 := by omega
    have hne1 : w.heap.size + 1 ≠ w.heap.size + 1 + 1 := by omega
    have hne2 : b ≠ w.heap.size + 1 + 1 := by omega
    have hlbd : b < W1.drew.heap.size := by have := LD.out.size; omega
    have hBd : B ≤ W1.drew.heap.size := by have := LD.out.size; omega
    go_region_held3 (fun w' => w'.cell? ⟨w.heap.size, 0, none⟩ = some (.slice (some ⟨b, o, none⟩) N cN) ∧ w'.cell? ⟨w.heap.size + 1, 1, none⟩ = some (.int .i64 x.s) ∧ w'.cell? ⟨w.heap.size + 1, 3, none⟩ = some (.int .i64 x.b) ∧ w'.cell? ⟨b, o + k.toNat, none⟩ = some (.slice A9 n9 c9)) (first | (have zz := z0; with_reducible exact ⟨(five_other hne0).trans c1, (five_other hne1).trans t1b, (five_other hne1).trans t3b, (five_other hne2).trans d1⟩) | go_keep) (first | (go_at_call 36; (with_reducible refine (rules_q HR.out _).mono ?_); rintro e W2 ⟨he, hw⟩; subst he; subst hw) | (go_at_call 135; (with_reducible refine (cv_4 x.b Q1.out HOK.out hn9 ((HV.out.below (below_le LD.out.ls.bel hB)).more hBd) (Nat.le_refl _)).mono ?_); rintro e W3 ⟨he, hb'⟩; rw [HCV.out.1, HCV.out.2] at he; subst he; have L3 := Lib.hid (LD.out.call hb'); have c1 := L3.out.ls.st; obtain ⟨_, t1b, _, t3b, _, _, _, _, _⟩ := L3.out.ls.tb; have d1 := (hb'.cell (p := ⟨b, o + k.toNat, none⟩) hlbd).trans ((hbk0.cell (p := ⟨b, o + k.toNat, none⟩) hlb).trans d0); obtain ⟨z0, z1, z2, z3, z4⟩ := ch.atFlat L3.out.zer; have g0 := L3.out.free 0; have g1 := L3.out.free 1; have g2 := L3.out.free 2; have g3 := L3.out.free 3; have g4 := L3.out.free 4; simp only at z0 z1 z2 z3 z4))
    go_wp2_with fail
    have hs := store5 L3.out.zer y
    have hl := below5 (b := w.heap.size + 2) L3.out.ls.bel (by omega) y
    generalize hW : (((((World.setCell _ _ _).setCell _ _).setCell _ _).setCell _ _).setCell _ _) = Wf at hs hl ⊢
    clear hW
    obtain ⟨s0, s1, s2, s3, s4⟩ := ch.atFlat hs
    try simp only at s0 s1 s2 s3 s4
    exact bodyPost_ret (v := .tuple #[.agg #[.int .i64 (y : Ver).a, .int .i64 (y : Ver).b, .int .i64 (y : Ver).c, .int .i64 (y : Ver).d, .int .i64 (y : Ver).e], .int .i64 i]) (by simp [results, Try.results11, go_sem, s0, s1, s2, s3, s4]) rfl ⟨pair_eq ⟨rfl, rfl⟩, hl⟩
  · have HR := Lib.hid hr
    have Q1 := Lib.hid q1
    have m1 := mt_ch0
    have m2 := na_ch0
    clear hr q1
    go_enter Try.func11, Try.ntmps11
    go_wp2_with fail
    have hL := LZ.mk3 w (.slice (some ⟨b, o, none⟩) N cN) 26 30 34 x A n c A2 n2 c2
    generalize (((w.alloc _).alloc _).alloc _) = W0 at hL ⊢
    have L0 := Lib.hid hL
    have c0 := hL.ls.st
    obtain ⟨t0, t1, t2, t3, t4, t5, t6, t7, t8⟩ := hL.ls.tb
    clear hL
    go_wp2_with fail
    refine (impl_may x k (by omega) (by omega) (by omega) (H1.out.below (below_le L0.out.ls.bel hB)) (H2.out.below (below_le L0.out.ls.bel hB)) (H3.out.below (below_le L0.out.ls.bel hB)) (by have := L0.out.size; omega)).mono ?_
    rintro e W1 ⟨rfl, hb⟩
    rw [HG.out]
    have L1 := Lib.hid (L0.out.call hb)
    clear hb c0 t0 t1 t2 t3 t4 t5 t6 t7 t8
    have hsz : w.heap.size + 2 < W1.heap.size := by have := L1.out.size; omega
    have hlb : b < W1.heap.size := by omega
    have c0 := L1.out.ls.st
    obtain ⟨t0, t1, t2, t3, t4, t5, t6, t7, t8⟩ := L1.out.ls.tb
    clear t0 t2 t4 t5 t6 t7 t8
    have d0 := (L1.out.ls.bel.cell (p := ⟨b, o + k.toNat, none⟩) (by simp only; omega)).trans HC.out
    go_wp2_with fail
    have hbk0 : Below W1.heap.size W1 W1.drew := (Below.refl _ _).drew
    have LD := Lib.hid (L1.out.call hbk0)
    have hne0 : w.heap.size ≠ w.heap.size + 1 + 1 := by omega
    have hne1 : w.heap.size + 1 ≠ w.heap.size + 1 + 1 := by omega
    have hne2 : b ≠ w.heap.size + 1 + 1 := by omega
    have hlbd : b < W1.drew.heap.size := by have := LD.out.size; omega
    have hBd : B ≤ W1.drew.heap.size := by have := LD.out.size; omega
    go_region_held3 (fun w' => w'.cell? ⟨w.heap.size, 0, none⟩ = some (.slice (some ⟨b, o, none⟩) N cN) ∧ w'.cell? ⟨w.heap.size + 1, 1, none⟩ = some (.int .i64 x.s) ∧ w'.cell? ⟨w.heap.size + 1, 3, none⟩ = some (.int .i64 x.b) ∧ w'.cell? ⟨b, o + k.toNat, none⟩ = some (.slice A9 n9 c9)) (first | (have zz := z0; with_reducible exact ⟨(five_other hne0).trans c1, (five_other hne1).trans t1b, (five_other hne1).trans t3b, (five_other hne2).trans d1⟩) | go_keep) (first | (go_at_call 36; (with_reducible refine (rules_q HR.out _).mono ?_); rintro e W2 ⟨he, hw⟩; subst he; subst hw) | (go_at_call 124; (with_reducible refine (cv_0 x.b Q1.out.2.1 Q1.out.2.2 HOK.out hn9 ((HV.out.below (below_le LD.out.ls.bel hB)).more hBd) (Nat.le_refl _)).mono ?_); rintro e W3 ⟨he, hb'⟩; rw [HCV.out.1, HCV.out.2] at he; subst he; have L3 := Lib.hid (LD.out.call hb'); have c1 := L3.out.ls.st; obtain ⟨_, t1b, _, t3b, _, _, _, _, _⟩ := L3.out.ls.tb; have d1 := (hb'.cell (p := ⟨b, o + k.toNat, none⟩) hlbd).trans ((hbk0.cell (p := ⟨b, o + k.toNat, none⟩) hlb).trans d0); obtain ⟨z0, z1, z2, z3, z4⟩ := ch.atFlat L3.out.zer; have g0 := L3.out.free 0; have g1 := L3.out.free 1; have g2 := L3.out.free 2; have g3 := L3.out.free 3; have g4 := L3.out.free 4; simp only at z0 z1 z2 z3 z4))
    go_wp2_with fail
    have hs := store5 L3.out.zer y
    have hl := below5 (b := w.heap.size + 2) L3.out.ls.bel (by omega) y
    generalize hW : (((((World.setCell _ _ _).setCell _ _).setCell _ _).setCell _ _).setCell _ _) = Wf at hs hl ⊢
    clear hW
    obtain ⟨s0, s1, s2, s3, s4⟩ := ch.atFlat hs
    try simp only at s0 s1 s2 s3 s4
    exact bodyPost_ret (v := .tuple #[.agg #[.int .i64 (y : Ver).a, .int .i64 (y : Ver).b, .int .i64 (y : Ver).c, .int .i64 (y : Ver).d, .int .i64 (y : Ver).e], .int .i64 i]) (by simp [results, Try.results11, go_sem, s0, s1, s2, s3, s4]) rfl ⟨pair_eq ⟨rfl, rfl⟩, hl⟩
set_option maxRecDepth 100000 in
set_option maxHeartbeats 12800000 in
theorem spec_cv {w : World} {B n c n2 c2 N cN : Nat} {A A2 D : Option Addr} {R S : List E2} {C : List (List Ver)} (x : Hd) (k : Int) (hn : n ≤ 1048576) (hn2 : n2 ≤ 1048576) (hN : N ≤ 1048576) (h1 : Vs w B A n R) (h2 : Vs w B A2 n2 S) (h3 : Rs w B D N C) (hB : B ≤ w.heap.size) :
    Calls Try.prog 12 #[.agg #[.slice D N cN], .agg #[.int .i64 x.i, .int .i64 x.s, .int .i64 x.t, .int .i64 x.b, .int .i64 x.l, .int .i64 x.h, .int .i64 x.c, .slice A n c, .slice A2 n2 c2], .int .i64 k] w fun e w' => e = .returned (.tuple #[.agg #[.int .i64 (cvV C x R S k).a, .int .i64 (cvV C x R S k).b, .int .i64 (cvV C x R S k).c, .int .i64 (cvV C x R S k).d, .int .i64 (cvV C x R S k).e], .int .i64 (cvI C x R S k)]) ∧ Below w.heap.size w w' := by
  have H1 := Lib.hid h1
  have H2 := Lib.hid h2
  have H3 := Lib.hid h3
  have hln := h1.1
  have hln2 := h2.1
  have hln3 := h3.1
  clear h1 h2 h3
  obtain ⟨i, hi⟩ : ∃ i, cvI C x R S k = i := ⟨_, rfl⟩
  obtain ⟨y, hy⟩ : ∃ y, cvV C x R S k = y := ⟨_, rfl⟩
  rw [hi, hy]
  have HI := Lib.hid hi
  have HY := Lib.hid hy
  clear hi hy
  obtain ⟨gq, hgq⟩ : ∃ q, gdB C x R S k = q := ⟨_, rfl⟩
  have HG := Lib.hid hgq
  clear hgq
  rcases gq with _ | _
  · have HE : Hid ((6 : Int) = i ∧ (⟨0, 0, 0, 0, 0⟩ : Ver) = y) := Lib.hid (by
      obtain ⟨e1, e2⟩ := cv_no HG.out
      rw [← HI.out, ← HY.out, e1, e2]; exact ⟨rfl, rfl⟩)
    clear HI HY
    go_enter Try.func12, Try.ntmps12
    go_wp2_with fail
    have hL := LZ.mk3 w (.slice D N cN) 26 30 34 x A n c A2 n2 c2
    generalize (((w.alloc _).alloc _).alloc _) = W0 at hL ⊢
    have L0 := Lib.hid hL
    have c0 := hL.ls.st
    obtain ⟨t0, t1, t2, t3, t4, t5, t6, t7, t8⟩ := hL.ls.tb
    clear hL
    go_wp2_with fail
    refine (spec_good x k (by omega) (by omega) (by omega) (H1.out.below (below_le L0.out.ls.bel hB)) (H2.out.below (below_le L0.out.ls.bel hB)) (H3.out.below (below_le L0.out.ls.bel hB)) (by have := L0.out.size; omega)).mono ?_
    rintro e W1 ⟨rfl, hb⟩
    rw [HG.out]
    have L1 := Lib.hid (L0.out.call hb)
    clear hb c0 t0 t1 t2 t3 t4 t5 t6 t7 t8
    obtain ⟨z0, z1, z2, z3, z4⟩ := ch.atFlat L1.out.zer
    have g0 := L1.out.free 0
    have g1 := L1.out.free 1
    have g2 := L1.out.free 2
    have g3 := L1.out.free 3
    have g4 := L1.out.free 4
    have hsz : w.heap.size + 2 < W1.heap.size := by have := L1.out.size; omega
    have hsz1 : w.heap.size + 1 < W1.heap.size := by have := L1.out.size; omega
    have hsz0 : w.heap.size < W1.heap.size := by have := L1.out.size; omega
    simp only at z0 z1 z2 z3 z4
    go_wp2_with fail
    have hs := store5 L1.out.zer ⟨0, 0, 0, 0, 0⟩
    have hl := below5 (b := w.heap.size + 2) L1.out.ls.bel (by omega) ⟨0, 0, 0, 0, 0⟩
    generalize hW : (((((World.setCell _ _ _).setCell _ _).setCell _ _).setCell _ _).setCell _ _) = Wf at hs hl ⊢
    clear hW
    obtain ⟨s0, s1, s2, s3, s4⟩ := ch.atFlat hs
    try simp only at s0 s1 s2 s3 s4
    exact bodyPost_ret (v := .tuple #[.agg #[.int .i64 (⟨0, 0, 0, 0, 0⟩ : Ver).a, .int .i64 (⟨0, 0, 0, 0, 0⟩ : Ver).b, .int .i64 (⟨0, 0, 0, 0, 0⟩ : Ver).c, .int .i64 (⟨0, 0, 0, 0, 0⟩ : Ver).d, .int .i64 (⟨0, 0, 0, 0, 0⟩ : Ver).e], .int .i64 6]) (by simp [results, Try.results12, go_sem, s0, s1, s2, s3, s4]) rfl ⟨pair_eq HE.out, hl⟩
  obtain ⟨hst, htx, hxt, hin⟩ := gd_parts HG.out
  have hk := in_yes hin
  have hsix := val.st_six hst
  obtain ⟨b, o, l, A9, n9, c9, rfl, hbB, hl, hcell, hn9, hv⟩ := H3.out.at_ (k := k.toNat) (by omega)
  have HOK := Lib.hid (val.okL_ch_of (val.st_ok hst hl))
  have HC := Lib.hid hcell
  have HV := Lib.hid hv
  have HLL := Lib.hid hl
  have t0k : (k.toNat : Int) = k := by omega
  have t1k : (0 : Int) ≤ k := by omega
  have t2k : k < (N : Int) := by omega
  have HCV : Hid (chI x.s l x.b = i ∧ chV x.s l x.b = y) := Lib.hid (by
    obtain ⟨e1, e2⟩ := cv_ch HG.out hl
    rw [← e1, ← e2]; exact ⟨HI.out, HY.out⟩)
  clear hst htx hxt hin hsix hl hcell hv HI HY
  obtain ⟨v, hv⟩ : ∃ v, lastV l = v := ⟨_, rfl⟩
  have HX := Lib.hid hv
  clear hv
  by_cases q1 : x.s = 2
  · have t : (x.s == 2) = true := by simpa using q1
    have Q1 := Lib.hid q1
    obtain ⟨rv, hrv⟩ : ∃ r, raV C k x.b = r := ⟨_, rfl⟩
    obtain ⟨rq, hrq⟩ : ∃ r, raB C k x.b = r := ⟨_, rfl⟩
    have HRV := Lib.hid hrv
    have HRQ := Lib.hid hrq
    clear q1 hrv hrq
    go_enter Try.func12, Try.ntmps12
    go_wp2_with fail
    have hL := LZ.mk3 w (.slice (some ⟨b, o, none⟩) N cN) 26 30 34 x A n c A2 n2 c2
    generalize (((w.alloc _).alloc _).alloc _) = W0 at hL ⊢
    have L0 := Lib.hid hL
    have c0 := hL.ls.st
    obtain ⟨t0, t1, t2, t3, t4, t5, t6, t7, t8⟩ := hL.ls.tb
    clear hL
    go_wp2_with fail
    refine (spec_good x k (by omega) (by omega) (by omega) (H1.out.below (below_le L0.out.ls.bel hB)) (H2.out.below (below_le L0.out.ls.bel hB)) (H3.out.below (below_le L0.out.ls.bel hB)) (by have := L0.out.size; omega)).mono ?_
    rintro e W1 ⟨rfl, hb⟩
    rw [HG.out]
    have L1 := Lib.hid (L0.out.call hb)
    clear hb c0 t0 t1 t2 t3 t4 t5 t6 t7 t8
    have c0 := L1.out.ls.st
    have d0 := (L1.out.ls.bel.cell (p := ⟨b, o + k.toNat, none⟩) (by simp only; omega)).trans HC.out
    go_wp2_with fail
    refine (latest_spec HX.out hn9 (HV.out.below (below_le L1.out.ls.bel hB)) (by have := L1.out.size; omega)).mono ?_
    rintro e W2 ⟨rfl, hb⟩
    have L2 := Lib.hid (L1.out.call hb)
    clear hb c0 d0
    have c0 := L2.out.ls.st
    obtain ⟨t0, t1, t2, t3, t4, t5, t6, t7, t8⟩ := L2.out.ls.tb
    clear t0 t2 t4 t5 t6 t7 t8
    obtain ⟨z0, z1, z2, z3, z4⟩ := ch.atFlat L2.out.zer
    have g0 := L2.out.free 0
    have g1 := L2.out.free 1
    have g2 := L2.out.free 2
    have g3 := L2.out.free 3
    have g4 := L2.out.free 4
    have hsz : w.heap.size + 2 < W2.heap.size := by have := L2.out.size; omega
    have hsz1 : w.heap.size + 1 < W2.heap.size := by have := L2.out.size; omega
    have hsz0 : w.heap.size < W2.heap.size := by have := L2.out.size; omega
    simp only at z0 z1 z2 z3 z4
    go_wp2_with fail
    have L3 := Lib.hid (L2.out.call (new1 W2 (.cells #[.int .i64 v.a, .int .i64 v.b, .int .i64 v.c, .int .i64 v.d, .int .i64 v.e] 34)))
    generalize hW3 : W2.alloc _ = W3 at L3 ⊢
    clear hW3
    refine (rd.spec_readat k x.b HRV.out HRQ.out (by omega) (H3.out.below (below_le L3.out.ls.bel hB)) (by have := L3.out.size; omega)).mono ?_
    rintro e W4 ⟨rfl, hb⟩
    have L4 := Lib.hid (L3.out.call hb)
    clear hb c0 t1 t3 z0 z1 z2 z3 z4 g0 g1 g2 g3 g4 hsz hsz0 hsz1
    obtain ⟨z0, z1, z2, z3, z4⟩ := ch.atFlat L4.out.zer
    have g0 := L4.out.free 0
    have g1 := L4.out.free 1
    have g2 := L4.out.free 2
    have g3 := L4.out.free 3
    have g4 := L4.out.free 4
    have hsz : w.heap.size + 2 < W4.heap.size := by have := L4.out.size; omega
    have hsz1 : w.heap.size + 1 < W4.heap.size := by have := L4.out.size; omega
    have hsz0 : w.heap.size < W4.heap.size := by have := L4.out.size; omega
    simp only at z0 z1 z2 z3 z4
    rcases rq with _ | _
    · have HE : Hid ((3 : Int) = i ∧ (⟨0, 0, 0, 0, 0⟩ : Ver) = y) := Lib.hid (by
        obtain ⟨e1, e2⟩ := cv_late HG.out Q1.out HRQ.out
        obtain ⟨e3, e4⟩ := cv_ch HG.out HLL.out
        rw [← HCV.out.1, ← HCV.out.2, ← e3, ← e4, e1, e2]; exact ⟨rfl, rfl⟩)
      go_wp2_with fail
      have hs := store5 L4.out.zer ⟨0, 0, 0, 0, 0⟩
      have hl := below5 (b := w.heap.size + 2) L4.out.ls.bel (by omega) ⟨0, 0, 0, 0, 0⟩
      generalize hW : (((((World.setCell _ _ _).setCell _ _).setCell _ _).setCell _ _).setCell _ _) = Wf at hs hl ⊢
      have hz : w.heap.size + 2 < Wf.heap.size := by rw [← hW]; simp; omega
      clear hW
      have hs2 := sl.At.keep hs hz (new1 Wf (.cells #[.int .i64 rv.a, .int .i64 rv.b, .int .i64 rv.c, .int .i64 rv.d, .int .i64 rv.e] 34))
      obtain ⟨s0, s1, s2, s3, s4⟩ := ch.atFlat hs2
      try simp only at s0 s1 s2 s3 s4
      exact bodyPost_ret (v := .tuple #[.agg #[.int .i64 (⟨0, 0, 0, 0, 0⟩ : Ver).a, .int .i64 (⟨0, 0, 0, 0, 0⟩ : Ver).b, .int .i64 (⟨0, 0, 0, 0, 0⟩ : Ver).c, .int .i64 (⟨0, 0, 0, 0, 0⟩ : Ver).d, .int .i64 (⟨0, 0, 0, 0, 0⟩ : Ver).e], .int .i64 3]) (by simp [results, Try.results12, go_sem, s0, s1, s2, s3, s4]) rfl ⟨pair_eq HE.out, hl.alloc hl.size _⟩
    · have HE : Hid ((0 : Int) = i ∧ rv = y) := Lib.hid (by
        obtain ⟨e1, e2⟩ := cv_snap HG.out Q1.out HRQ.out
        obtain ⟨e3, e4⟩ := cv_ch HG.out HLL.out
        rw [← HCV.out.1, ← HCV.out.2, ← e3, ← e4, e1, e2, HRV.out]; exact ⟨rfl, rfl⟩)
      go_wp2_with fail
      have hs := store5 L4.out.zer rv
      have hl := below5 (b := w.heap.size + 2) L4.out.ls.bel (by omega) rv
      generalize hW : (((((World.setCell _ _ _).setCell _ _).setCell _ _).setCell _ _).setCell _ _) = Wf at hs hl ⊢
      have hz : w.heap.size + 2 < Wf.heap.size := by rw [← hW]; simp; omega
      clear hW
      have hs2 := sl.At.keep hs hz (new1 Wf (.cells #[.int .i64 rv.a, .int .i64 rv.b, .int .i64 rv.c, .int .i64 rv.d, .int .i64 rv.e] 34))
      obtain ⟨s0, s1, s2, s3, s4⟩ := ch.atFlat hs2
      try simp only at s0 s1 s2 s3 s4
      exact bodyPost_ret (v := .tuple #[.agg #[.int .i64 (rv : Ver).a, .int .i64 (rv : Ver).b, .int .i64 (rv : Ver).c, .int .i64 (rv : Ver).d, .int .i64 (rv : Ver).e], .int .i64 0]) (by simp [results, Try.results12, go_sem, s0, s1, s2, s3, s4]) rfl ⟨pair_eq HE.out, hl.alloc hl.size _⟩
  have u2 : (x.s == 2) = false := by simpa using q1
  have Q1 := Lib.hid q1
  clear q1
  by_cases q4 : x.s = 4
  · have t4 : (x.s == 4) = true := by simpa using q4
    by_cases hlt : x.b < v.c
    · have tt : decide (x.b < v.c) = true := decide_eq_true hlt
      have HE : Hid ((3 : Int) = i ∧ (⟨0, 0, 0, 0, 0⟩ : Ver) = y) := Lib.hid (by obtain ⟨e1, e2⟩ := ch_late (l := l) q4 (by rw [HX.out]; exact hlt); rw [← HCV.out.1, ← HCV.out.2, e1, e2]; exact ⟨rfl, rfl⟩)
      clear q4 hlt
      go_enter Try.func12, Try.ntmps12
      go_wp2_with fail
      have hL := LZ.mk3 w (.slice (some ⟨b, o, none⟩) N cN) 26 30 34 x A n c A2 n2 c2
      generalize (((w.alloc _).alloc _).alloc _) = W0 at hL ⊢
      have L0 := Lib.hid hL
      have c0 := hL.ls.st
      obtain ⟨t0, t1, t2, t3, t4, t5, t6, t7, t8⟩ := hL.ls.tb
      clear hL
      go_wp2_with fail
      refine (spec_good x k (by omega) (by omega) (by omega) (H1.out.below (below_le L0.out.ls.bel hB)) (H2.out.below (below_le L0.out.ls.bel hB)) (H3.out.below (below_le L0.out.ls.bel hB)) (by have := L0.out.size; omega)).mono ?_
      rintro e W1 ⟨rfl, hb⟩
      rw [HG.out]
      have L1 := Lib.hid (L0.out.call hb)
      clear hb c0 t0 t1 t2 t3 t4 t5 t6 t7 t8
      have c0 := L1.out.ls.st
      have d0 := (L1.out.ls.bel.cell (p := ⟨b, o + k.toNat, none⟩) (by simp only; omega)).trans HC.out
      go_wp2_with fail
      refine (latest_spec HX.out hn9 (HV.out.below (below_le L1.out.ls.bel hB)) (by have := L1.out.size; omega)).mono ?_
      rintro e W2 ⟨rfl, hb⟩
      have L2 := Lib.hid (L1.out.call hb)
      clear hb c0 d0
      have c0 := L2.out.ls.st
      obtain ⟨t0, t1, t2, t3, t4, t5, t6, t7, t8⟩ := L2.out.ls.tb
      clear t0 t2 t4 t5 t6 t7 t8
      obtain ⟨z0, z1, z2, z3, z4⟩ := ch.atFlat L2.out.zer
      have g0 := L2.out.free 0
      have g1 := L2.out.free 1
      have g2 := L2.out.free 2
      have g3 := L2.out.free 3
      have g4 := L2.out.free 4
      have hsz : w.heap.size + 2 < W2.heap.size := by have := L2.out.size; omega
      have hsz1 : w.heap.size + 1 < W2.heap.size := by have := L2.out.size; omega
      have hsz0 : w.heap.size < W2.heap.size := by have := L2.out.size; omega
      simp only at z0 z1 z2 z3 z4
      go_wp2_with fail
      have hs := store5 L2.out.zer ⟨0, 0, 0, 0, 0⟩
      have hl := below5 (b := w.heap.size + 2) L2.out.ls.bel (by omega) ⟨0, 0, 0, 0, 0⟩
      generalize hW : (((((World.setCell _ _ _).setCell _ _).setCell _ _).setCell _ _).setCell _ _) = Wf at hs hl ⊢
      have hz : w.heap.size + 2 < Wf.heap.size := by rw [← hW]; simp; omega
      clear hW
      have hs2 := sl.At.keep hs hz (new1 Wf (.cells #[.int .i64 v.a, .int .i64 v.b, .int .i64 v.c, .int .i64 v.d, .int .i64 v.e] 34))
      obtain ⟨s0, s1, s2, s3, s4⟩ := ch.atFlat hs2
      try simp only at s0 s1 s2 s3 s4
      exact bodyPost_ret (v := .tuple #[.agg #[.int .i64 (⟨0, 0, 0, 0, 0⟩ : Ver).a, .int .i64 (⟨0, 0, 0, 0, 0⟩ : Ver).b, .int .i64 (⟨0, 0, 0, 0, 0⟩ : Ver).c, .int .i64 (⟨0, 0, 0, 0, 0⟩ : Ver).d, .int .i64 (⟨0, 0, 0, 0, 0⟩ : Ver).e], .int .i64 3]) (by simp [results, Try.results12, go_sem, s0, s1, s2, s3, s4]) rfl ⟨pair_eq HE.out, hl.alloc hl.size _⟩
    · have tt : decide (x.b < v.c) = false := decide_eq_false hlt
      have HE : Hid ((0 : Int) = i ∧ v = y) := Lib.hid (by obtain ⟨e1, e2⟩ := ch_last (l := l) Q1.out (fun h => hlt (by rw [← HX.out]; exact h.2)); rw [← HCV.out.1, ← HCV.out.2, e1, e2, HX.out]; exact ⟨rfl, rfl⟩)
      clear q4 hlt
      go_enter Try.func12, Try.ntmps12
      go_wp2_with fail
      have hL := LZ.mk3 w (.slice (some ⟨b, o, none⟩) N cN) 26 30 34 x A n c A2 n2 c2
      generalize (((w.alloc _).alloc _).alloc _) = W0 at hL ⊢
      have L0 := Lib.hid hL
      have c0 := hL.ls.st
      obtain ⟨t0, t1, t2, t3, t4, t5, t6, t7, t8⟩ := hL.ls.tb
      clear hL
      go_wp2_with fail
      refine (spec_good x k (by omega) (by omega) (by omega) (H1.out.below (below_le L0.out.ls.bel hB)) (H2.out.below (below_le L0.out.ls.bel hB)) (H3.out.below (below_le L0.out.ls.bel hB)) (by have := L0.out.size; omega)).mono ?_
      rintro e W1 ⟨rfl, hb⟩
      rw [HG.out]
      have L1 := Lib.hid (L0.out.call hb)
      clear hb c0 t0 t1 t2 t3 t4 t5 t6 t7 t8
      have c0 := L1.out.ls.st
      have d0 := (L1.out.ls.bel.cell (p := ⟨b, o + k.toNat, none⟩) (by simp only; omega)).trans HC.out
      go_wp2_with fail
      refine (latest_spec HX.out hn9 (HV.out.below (below_le L1.out.ls.bel hB)) (by have := L1.out.size; omega)).mono ?_
      rintro e W2 ⟨rfl, hb⟩
      have L2 := Lib.hid (L1.out.call hb)
      clear hb c0 d0
      have c0 := L2.out.ls.st
      obtain ⟨t0, t1, t2, t3, t4, t5, t6, t7, t8⟩ := L2.out.ls.tb
      clear t0 t2 t4 t5 t6 t7 t8
      obtain ⟨z0, z1, z2, z3, z4⟩ := ch.atFlat L2.out.zer
      have g0 := L2.out.free 0
      have g1 := L2.out.free 1
      have g2 := L2.out.free 2
      have g3 := L2.out.free 3
      have g4 := L2.out.free 4
      have hsz : w.heap.size + 2 < W2.heap.size := by have := L2.out.size; omega
      have hsz1 : w.heap.size + 1 < W2.heap.size := by have := L2.out.size; omega
      have hsz0 : w.heap.size < W2.heap.size := by have := L2.out.size; omega
      simp only at z0 z1 z2 z3 z4
      go_wp2_with fail
      have hs := store5 L2.out.zer v
      have hl := below5 (b := w.heap.size + 2) L2.out.ls.bel (by omega) v
      generalize hW : (((((World.setCell _ _ _).setCell _ _).setCell _ _).setCell _ _).setCell _ _) = Wf at hs hl ⊢
      have hz : w.heap.size + 2 < Wf.heap.size := by rw [← hW]; simp; omega
      clear hW
      have hs2 := sl.At.keep hs hz (new1 Wf (.cells #[.int .i64 v.a, .int .i64 v.b, .int .i64 v.c, .int .i64 v.d, .int .i64 v.e] 34))
      obtain ⟨s0, s1, s2, s3, s4⟩ := ch.atFlat hs2
      try simp only at s0 s1 s2 s3 s4
      exact bodyPost_ret (v := .tuple #[.agg #[.int .i64 (v : Ver).a, .int .i64 (v : Ver).b, .int .i64 (v : Ver).c, .int .i64 (v : Ver).d, .int .i64 (v : Ver).e], .int .i64 0]) (by simp [results, Try.results12, go_sem, s0, s1, s2, s3, s4]) rfl ⟨pair_eq HE.out, hl.alloc hl.size _⟩
  · have t4 : (x.s == 4) = false := by simpa using q4
    have HE : Hid ((0 : Int) = i ∧ v = y) := Lib.hid (by obtain ⟨e1, e2⟩ := ch_last (l := l) (b := x.b) Q1.out (fun h => q4 h.1); rw [← HCV.out.1, ← HCV.out.2, e1, e2, HX.out]; exact ⟨rfl, rfl⟩)
    clear q4
    go_enter Try.func12, Try.ntmps12
    go_wp2_with fail
    have hL := LZ.mk3 w (.slice (some ⟨b, o, none⟩) N cN) 26 30 34 x A n c A2 n2 c2
    generalize (((w.alloc _).alloc _).alloc _) = W0 at hL ⊢
    have L0 := Lib.hid hL
    have c0 := hL.ls.st
    obtain ⟨t0, t1, t2, t3, t4, t5, t6, t7, t8⟩ := hL.ls.tb
    clear hL
    go_wp2_with fail
    refine (spec_good x k (by omega) (by omega) (by omega) (H1.out.below (below_le L0.out.ls.bel hB)) (H2.out.below (below_le L0.out.ls.bel hB)) (H3.out.below (below_le L0.out.ls.bel hB)) (by have := L0.out.size; omega)).mono ?_
    rintro e W1 ⟨rfl, hb⟩
    rw [HG.out]
    have L1 := Lib.hid (L0.out.call hb)
    clear hb c0 t0 t1 t2 t3 t4 t5 t6 t7 t8
    have c0 := L1.out.ls.st
    have d0 := (L1.out.ls.bel.cell (p := ⟨b, o + k.toNat, none⟩) (by simp only; omega)).trans HC.out
    go_wp2_with fail
    refine (latest_spec HX.out hn9 (HV.out.below (below_le L1.out.ls.bel hB)) (by have := L1.out.size; omega)).mono ?_
    rintro e W2 ⟨rfl, hb⟩
    have L2 := Lib.hid (L1.out.call hb)
    clear hb c0 d0
    have c0 := L2.out.ls.st
    obtain ⟨t0, t1, t2, t3, t4, t5, t6, t7, t8⟩ := L2.out.ls.tb
    clear t0 t2 t4 t5 t6 t7 t8
    obtain ⟨z0, z1, z2, z3, z4⟩ := ch.atFlat L2.out.zer
    have g0 := L2.out.free 0
    have g1 := L2.out.free 1
    have g2 := L2.out.free 2
    have g3 := L2.out.free 3
    have g4 := L2.out.free 4
    have hsz : w.heap.size + 2 < W2.heap.size := by have := L2.out.size; omega
    have hsz1 : w.heap.size + 1 < W2.heap.size := by have := L2.out.size; omega
    have hsz0 : w.heap.size < W2.heap.size := by have := L2.out.size; omega
    simp only at z0 z1 z2 z3 z4
    go_wp2_with fail
    have hs := store5 L2.out.zer v
    have hl := below5 (b := w.heap.size + 2) L2.out.ls.bel (by omega) v
    generalize hW : (((((World.setCell _ _ _).setCell _ _).setCell _ _).setCell _ _).setCell _ _) = Wf at hs hl ⊢
    have hz : w.heap.size + 2 < Wf.heap.size := by rw [← hW]; simp; omega
    clear hW
    have hs2 := sl.At.keep hs hz (new1 Wf (.cells #[.int .i64 v.a, .int .i64 v.b, .int .i64 v.c, .int .i64 v.d, .int .i64 v.e] 34))
    obtain ⟨s0, s1, s2, s3, s4⟩ := ch.atFlat hs2
    try simp only at s0 s1 s2 s3 s4
    exact bodyPost_ret (v := .tuple #[.agg #[.int .i64 (v : Ver).a, .int .i64 (v : Ver).b, .int .i64 (v : Ver).c, .int .i64 (v : Ver).d, .int .i64 (v : Ver).e], .int .i64 0]) (by simp [results, Try.results12, go_sem, s0, s1, s2, s3, s4]) rfl ⟨pair_eq HE.out, hl.alloc hl.size _⟩
end Go.Proofs.Ytdfhnngcddaccaa.cho
/- CommitCode of the program and of the model: what each answers; nothing that was there is written. -/
namespace Go.Proofs.Ytdfhnngcddaccaa.cmc
open Go.ChangeShapes Go.WideShapes Go.ChangeAt Go.RowKit
open Go.Proofs.Ytdfhnngcddaccaa.el2 Go.Proofs.Ytdfhnngcddaccaa.tx Go.Proofs.Ytdfhnngcddaccaa.seq Go.Proofs.Ytdfhnngcddaccaa.tv Go.Proofs.Ytdfhnngcddaccaa.rx Go.Proofs.Ytdfhnngcddaccaa.ru Go.Proofs.Ytdfhnngcddaccaa.ruc Go.Proofs.Ytdfhnngcddaccaa.sc Go.Proofs.Ytdfhnngcddaccaa.cho Go.Proofs.Ytdfhnngcddaccaa.rl
open Go.Proofs.Ytdfhnngcddaccaa.vers (In in_yes in_no in_of in_off ret_b new2 new3)
open Go.Proofs.Ytdfhnngcddaccaa.sl (Ver)
open Go.Proofs.Ytdfhnngcddaccaa.st (Rs)
open Go.Proofs.Ytdfhnngcddaccaa.val (stB)
open Go.Proofs.Ytdfhnngcddaccaa.ia (actB impl_active)
open Go.Proofs.Ytdfhnngcddaccaa.find (lastV vAt store5 below5 latest_spec latest_impl)
set_option linter.unusedVariables false
set_option linter.unusedSimpArgs false
theorem ret_j {a b : Int} (h : a = b) : Ending.returned (.int .i64 a) = .returned (.int .i64 b) := by rw [h]
/-- none of the first k written keys refuses -/
def Pass (C : List (List Ver)) (x : Hd) (S : List E2) (k : Nat) : Prop := ∀ j m, j < k → S[j]? = some m → ccM x.s (latOf C m).c x.b = 0
theorem pass_0 (C : List (List Ver)) (x : Hd) (S : List E2) : Pass C x S 0 := fun j m h => absurd h (by omega)
theorem pass_step {C : List (List Ver)} {x : Hd} {S : List E2} {k : Nat} {y : E2} {v : Ver} (h : Pass C x S k) (hy : S[k]? = some y) (hv : latOf C y = v) (hz : ccM x.s v.c x.b = 0) : Pass C x S (k + 1) := by
  intro j m hj hm
  by_cases e : j = k
  · subst e
    rw [hy] at hm
    injection hm with hm
    subst hm
    rw [hv]
    exact hz
  · exact h j m (by omega) hm
theorem cm_val {s c b z : Int} (h : ccM s c b = z) (hz : z ≠ 0) : b < c ∧ z = (if s = 2 then 2 else if s = 4 then 3 else 0) := by
  unfold ccM at h
  by_cases hb : b < c
  · rw [if_pos hb] at h
    exact ⟨hb, h.symm⟩
  · rw [if_neg hb] at h
    exact absurd h.symm hz
theorem cc_hit {C : List (List Ver)} {x : Hd} {R S : List E2} {k : Nat} {y : E2} {v : Ver} {z : Int} (hg : gdB C x R S 0 = true) (hy : S[k]? = some y) (hv : latOf C y = v) (hz : ccM x.s v.c x.b = z) (h0 : z ≠ 0) : z = ccI C x R S := by
  obtain ⟨hb, he⟩ := cm_val hz h0
  have hl : ltB C x S = true := by
    unfold ltB
    rw [List.any_eq_true]
    exact ⟨y, List.mem_of_getElem? hy, by rw [hv]; exact decide_eq_true hb⟩
  unfold ccI
  rw [if_pos hg, if_pos hl]
  exact he
theorem cc_end {C : List (List Ver)} {x : Hd} {R S : List E2} {n : Nat} (hg : gdB C x R S 0 = true) (hn : S.length = n) (h : Pass C x S n) : (0 : Int) = ccI C x R S := by
  unfold ccI
  rw [if_pos hg]
  rcases hl : ltB C x S with _ | _
  · rfl
  · unfold ltB at hl
    rw [List.any_eq_true] at hl
    obtain ⟨m, hm, hb⟩ := hl
    obtain ⟨j, hj, hjm⟩ := List.getElem_of_mem hm
    have := h j m (by omega) (by rw [List.getElem?_eq_getElem hj, hjm])
    unfold ccM at this
    rw [if_pos (of_decide_eq_true hb)] at this
    exact this.symm
theorem gd0_a {C : List (List Ver)} {x : Hd} {R S : List E2} (hs : stB C = true) (ha : actB x R S = true) : gdB C x R S 0 = true := (gd_a hs ha (by decide)).symm
set_option maxRecDepth 100000 in
set_option maxHeartbeats 6400000 in
theorem impl_cc1 {w : World} {B n c n2 c2 N cN : Nat} {A A2 D : Option Addr} {R S : List E2} {C : List (List Ver)} (x : Hd) (hn : n ≤ 1048576) (hn2 : n2 ≤ 1048576) (hN : N ≤ 1048576) (h1 : Vs w B A n R) (h2 : Vs w B A2 n2 S) (h3 : Rs w B D N C) (hB : B ≤ w.heap.size) (q1 : x.s = 1) (hr : ruV x.s = .iface 114 (.agg #[])) (hst : stB C = true) (hac : actB x R S = true) :
    Calls Try.prog 13 #[.agg #[.slice D N cN], .agg #[.int .i64 x.i, .int .i64 x.s, .int .i64 x.t, .int .i64 x.b, .int .i64 x.l, .int .i64 x.h, .int .i64 x.c, .slice A n c, .slice A2 n2 c2]] w fun e w' => e = .returned (.int .i64 (ccI C x R S)) ∧ Below w.heap.size w w' := by
  have H1 := Lib.hid h1
  have H2 := Lib.hid h2
  have H3 := Lib.hid h3
  have hln := h1.1
  have hln2 := h2.1
  have hln3 := h3.1
  clear h1 h2 h3
  obtain ⟨i, hi⟩ : ∃ i, ccI C x R S = i := ⟨_, rfl⟩
  rw [hi]
  have HI := Lib.hid hi
  clear hi
  have HR := Lib.hid hr
  have Q1 := Lib.hid q1
  have N2 : Hid (x.s ≠ 2) := Lib.hid (by omega)
  have N4 : Hid (x.s ≠ 4) := Lib.hid (by omega)
  have m1f := mt_cm1
  have m2f := na_cm1
  have HST := Lib.hid hst
  have HAC := Lib.hid hac
  have HGD : Hid (gdB C x R S 0 = true) := Lib.hid (gd0_a hst hac)
  have HTX : Hid (txB x R S = true) := Lib.hid (gd_parts HGD.out).2.1
  clear hr q1 hst hac
  go_enter Try.func13, Try.ntmps13
  go_wp2_with fail
  have hL := LS.mk2 w (.slice D N cN) 26 30 x A n c A2 n2 c2
  generalize ((w.alloc _).alloc _) = W0 at hL ⊢
  have L0 := Lib.hid hL
  have c0 := hL.st
  obtain ⟨t0, t1, t2, t3, t4, t5, t6, t7, t8⟩ := hL.tb
  clear hL
  go_wp2_with fail
  refine (val.impl_store (by omega) (H3.out.below (below_le L0.out.bel hB)) (by have := L0.out.size; omega)).mono ?_
  rintro e W1 ⟨rfl, hb⟩
  rw [HST.out]
  have L1 := Lib.hid (L0.out.call hb)
  clear hb c0 t0 t1 t2 t3 t4 t5 t6 t7 t8
  obtain ⟨t0, t1, t2, t3, t4, t5, t6, t7, t8⟩ := L1.out.tb
  go_wp2_with fail
  refine (impl_active x (by omega) (by omega) (H1.out.below (below_le L1.out.bel hB)) (H2.out.below (below_le L1.out.bel hB)) (by have := L1.out.size; omega)).mono ?_
  rintro e W2 ⟨rfl, hb⟩
  rw [HAC.out]
  have L2 := Lib.hid (L1.out.call hb)
  clear hb t0 t1 t2 t3 t4 t5 t6 t7 t8
  obtain ⟨t0, t1, t2, t3, t4, t5, t6, t7, t8⟩ := L2.out.tb
  clear t0 t2 t3 t4 t5 t6 t7
  go_wp2_with fail
  refine (rules_q HR.out _).mono ?_
  rintro e W3 ⟨he, hw⟩
  subst he
  subst hw
  go_wp2_with fail
  clear t1 t8
  go_loopw [7, 8, 23] (fun _ _ i wr => ∃ k : Nat, k ≤ n2 ∧ i = .int .i64 k ∧ Pass C x S k ∧ LS w (.slice D N cN) x (.slice A n c) (.slice A2 n2 c2) wr) (fun _ _ i _ => n2 - (intOf i).toNat)
  case atStart => exact ⟨0, by omega, rfl, pass_0 C x S, L2.out⟩
  case round =>
    obtain ⟨k, hk, rfl, hp, hL⟩ := hrel
    have HP := Lib.hid hp
    have LW := Lib.hid hL
    clear hp hL
    by_cases hlt : k < n2
    · obtain ⟨b, o, y, rfl, hbB, hx, a0, a1⟩ := (H2.out.below (below_le LW.out.bel hB)).at_ hlt
      have HX := Lib.hid hx
      clear hx
      have hb := new1 wr (.cells #[.int .i64 y.a, .int .i64 y.b] 81)
      have hwx : wr.heap.size < (wr.alloc (.cells #[.int .i64 y.a, .int .i64 y.b] 81)).heap.size := by simp
      obtain ⟨m0, m0b⟩ := atFlat (boxed wr y 81)
      clear m0b
      have LX := Lib.hid (LW.out.call hb)
      have c0 := LX.out.st
      obtain ⟨_, _, _, t3, _, _, _, _, _⟩ := LX.out.tb
      have hsz := LW.out.size
      have h6 := val.st_six HST.out
      rw [H3.out.1] at h6
      obtain ⟨s1, s2⟩ := wkey_of HTX.out HX.out
      have s3 : y.a < (N : Int) := by omega
      have s4 : y.a.toNat < N := by omega
      clear h6
      obtain ⟨b2, o2, l, A9, n9, c9, rfl, hb2, hl, d0, hn9, hv⟩ := (H3.out.below (below_le LX.out.bel hB)).at_ s4
      have HV := Lib.hid hv
      obtain ⟨z0, hz0⟩ : ∃ z, latOf C y = z := ⟨_, rfl⟩
      have HZ0 := Lib.hid hz0
      have HLV : Hid (lastV l = z0) := Lib.hid (by rw [lat_at hl, hz0])
      clear hv hz0 hl
      obtain ⟨z, hz⟩ : ∃ z, ccM x.s z0.c x.b = z := ⟨_, rfl⟩
      have HZ := Lib.hid hz
      clear hz
      by_cases e0 : z = 0
      · have tz : (z != 0) = false := by simp [e0]
        have HE0 := Lib.hid e0
        clear e0
        go_wp2_with fail
        generalize hW : wr.alloc _ = W2 at c0 d0 t3 m0 hb LX HV hwx ⊢
        clear hW a0 a1
        have hbk0 : Below W2.heap.size W2 W2.drew := (Below.refl _ _).drew
        have LD := Lib.hid (LX.out.call hbk0)
        have hlb2 : b2 < W2.heap.size := by have := hb.size; omega
        have hlbd : b2 < W2.drew.heap.size := Nat.lt_of_lt_of_le hlb2 hbk0.size
        have hlwd : wr.heap.size < W2.drew.heap.size := Nat.lt_of_lt_of_le hwx hbk0.size
        have hBw : B ≤ W2.heap.size := by have := hb.size; omega
        have hBd : B ≤ W2.drew.heap.size := Nat.le_trans hBw hbk0.size
        go_region_held3 (fun w' => w'.cell? ⟨w.heap.size, 0, none⟩ = some (.slice (some ⟨b2, o2, none⟩) N cN) ∧ w'.cell? ⟨w.heap.size + 1, 3, none⟩ = some (.int .i64 x.b) ∧ w'.cell? ⟨wr.heap.size, 0, none⟩ = some (.int .i64 y.a) ∧ w'.cell? ⟨b2, o2 + y.a.toNat, none⟩ = some (.slice A9 n9 c9)) (go_keep) (first | (go_at_call 41; (with_reducible refine (latest_impl HLV.out hn9 ((HV.out.below (below_le hbk0 hBw)).more hBd) (Nat.le_refl _)).mono ?_); rintro e W5 ⟨he, hb'⟩; subst he; have L5 := Lib.hid (LD.out.call hb'); have c1 := L5.out.st; obtain ⟨_, _, _, t3b, _, _, _, _, _⟩ := L5.out.tb; have m1 := (hb'.cell (p := ⟨wr.heap.size, 0, none⟩) hlwd).trans ((hbk0.cell (p := ⟨wr.heap.size, 0, none⟩) hwx).trans m0); have d1 := (hb'.cell (p := ⟨b2, o2 + y.a.toNat, none⟩) hlbd).trans ((hbk0.cell (p := ⟨b2, o2 + y.a.toNat, none⟩) hlb2).trans d0); have hlb5 := Nat.lt_of_lt_of_le hlbd hb'.size; have hlw5 := Nat.lt_of_lt_of_le hlwd hb'.size) | (go_at_call 125; (with_reducible refine (cm_0 z0 x.b _ N2.out N4.out).mono ?_); rintro e W6 ⟨he, hb6⟩; rw [HZ.out] at he; subst he; have L6 := Lib.hid (L5.out.call hb6); have c2 := L6.out.st; obtain ⟨_, _, _, t3c, _, _, _, _, _⟩ := L6.out.tb; have m2 := (hb6.cell (p := ⟨wr.heap.size, 0, none⟩) hlw5).trans m1; have d2 := (hb6.cell (p := ⟨b2, o2 + y.a.toNat, none⟩) hlb5).trans d1))
        all_goals
          clear c1 t3b m1 d1 c2 t3c m2 d2 c0 d0 t3 m0 hb hbk0 hb' hb6
          go_wp2_with fail
          go_roundw
          case rel => exact ⟨k + 1, by omega, by go_num, pass_step HP.out HX.out HZ0.out (by rw [HZ.out]; exact HE0.out), L6.out⟩
          case measure => simp [intOf]; omega
      · have tz : (z != 0) = true := by simpa using e0
        have HE : Hid (z = i) := Lib.hid (by rw [cc_hit HGD.out HX.out HZ0.out HZ.out e0]; exact HI.out)
        clear e0
        go_wp2_with fail
        generalize hW : wr.alloc _ = W2 at c0 d0 t3 m0 hb LX HV hwx ⊢
        clear hW a0 a1
        have hbk0 : Below W2.heap.size W2 W2.drew := (Below.refl _ _).drew
        have LD := Lib.hid (LX.out.call hbk0)
        have hlb2 : b2 < W2.heap.size := by have := hb.size; omega
        have hlbd : b2 < W2.drew.heap.size := Nat.lt_of_lt_of_le hlb2 hbk0.size
        have hlwd : wr.heap.size < W2.drew.heap.size := Nat.lt_of_lt_of_le hwx hbk0.size
        have hBw : B ≤ W2.heap.size := by have := hb.size; omega
        have hBd : B ≤ W2.drew.heap.size := Nat.le_trans hBw hbk0.size
        go_region_held3 (fun w' => w'.cell? ⟨w.heap.size, 0, none⟩ = some (.slice (some ⟨b2, o2, none⟩) N cN) ∧ w'.cell? ⟨w.heap.size + 1, 3, none⟩ = some (.int .i64 x.b) ∧ w'.cell? ⟨wr.heap.size, 0, none⟩ = some (.int .i64 y.a) ∧ w'.cell? ⟨b2, o2 + y.a.toNat, none⟩ = some (.slice A9 n9 c9)) (go_keep) (first | (go_at_call 41; (with_reducible refine (latest_impl HLV.out hn9 ((HV.out.below (below_le hbk0 hBw)).more hBd) (Nat.le_refl _)).mono ?_); rintro e W5 ⟨he, hb'⟩; subst he; have L5 := Lib.hid (LD.out.call hb'); have c1 := L5.out.st; obtain ⟨_, _, _, t3b, _, _, _, _, _⟩ := L5.out.tb; have m1 := (hb'.cell (p := ⟨wr.heap.size, 0, none⟩) hlwd).trans ((hbk0.cell (p := ⟨wr.heap.size, 0, none⟩) hwx).trans m0); have d1 := (hb'.cell (p := ⟨b2, o2 + y.a.toNat, none⟩) hlbd).trans ((hbk0.cell (p := ⟨b2, o2 + y.a.toNat, none⟩) hlb2).trans d0); have hlb5 := Nat.lt_of_lt_of_le hlbd hb'.size; have hlw5 := Nat.lt_of_lt_of_le hlwd hb'.size) | (go_at_call 125; (with_reducible refine (cm_0 z0 x.b _ N2.out N4.out).mono ?_); rintro e W6 ⟨he, hb6⟩; rw [HZ.out] at he; subst he; have L6 := Lib.hid (L5.out.call hb6); have c2 := L6.out.st; obtain ⟨_, _, _, t3c, _, _, _, _, _⟩ := L6.out.tb; have m2 := (hb6.cell (p := ⟨wr.heap.size, 0, none⟩) hlw5).trans m1; have d2 := (hb6.cell (p := ⟨b2, o2 + y.a.toNat, none⟩) hlb5).trans d1))
        all_goals
          clear c1 t3b m1 d1 c2 t3c m2 d2 c0 d0 t3 m0 hb hbk0 hb' hb6
          go_wp2_with fail
          go_ret
          exact ⟨ret_j HE.out, L6.out.bel⟩
    · obtain rfl : n2 = k := by omega
      go_wp2_with fail
      go_ret
      exact ⟨ret_j (by rw [cc_end HGD.out hln2 HP.out]; exact HI.out), LW.out.bel⟩
set_option maxRecDepth 100000 in
set_option maxHeartbeats 6400000 in
theorem impl_cc2 {w : World} {B n c n2 c2 N cN : Nat} {A A2 D : Option Addr} {R S : List E2} {C : List (List Ver)} (x : Hd) (hn : n ≤ 1048576) (hn2 : n2 ≤ 1048576) (hN : N ≤ 1048576) (h1 : Vs w B A n R) (h2 : Vs w B A2 n2 S) (h3 : Rs w B D N C) (hB : B ≤ w.heap.size) (q1 : x.s = 2) (hr : ruV x.s = .iface 115 (.agg #[])) (hst : stB C = true) (hac : actB x R S = true) :
    Calls Try.prog 13 #[.agg #[.slice D N cN], .agg #[.int .i64 x.i, .int .i64 x.s, .int .i64 x.t, .int .i64 x.b, .int .i64 x.l, .int .i64 x.h, .int .i64 x.c, .slice A n c, .slice A2 n2 c2]] w fun e w' => e = .returned (.int .i64 (ccI C x R S)) ∧ Below w.heap.size w w' := by
  have H1 := Lib.hid h1
  have H2 := Lib.hid h2
  have H3 := Lib.hid h3
  have hln := h1.1
  have hln2 := h2.1
  have hln3 := h3.1
  clear h1 h2 h3
  obtain ⟨i, hi⟩ : ∃ i, ccI C x R S = i := ⟨_, rfl⟩
  rw [hi]
  have HI := Lib.hid hi
  clear hi
  have HR := Lib.hid hr
  have Q1 := Lib.hid q1
  have m1f := mt_cm2
  have m2f := na_cm2
  have HST := Lib.hid hst
  have HAC := Lib.hid hac
  have HGD : Hid (gdB C x R S 0 = true) := Lib.hid (gd0_a hst hac)
  have HTX : Hid (txB x R S = true) := Lib.hid (gd_parts HGD.out).2.1
  clear hr q1 hst hac
  go_enter Try.func13, Try.ntmps13
  go_wp2_with fail
  have hL := LS.mk2 w (.slice D N cN) 26 30 x A n c A2 n2 c2
  generalize ((w.alloc _).alloc _) = W0 at hL ⊢
  have L0 := Lib.hid hL
  have c0 := hL.st
  obtain ⟨t0, t1, t2, t3, t4, t5, t6, t7, t8⟩ := hL.tb
  clear hL
  go_wp2_with fail
  refine (val.impl_store (by omega) (H3.out.below (below_le L0.out.bel hB)) (by have := L0.out.size; omega)).mono ?_
  rintro e W1 ⟨rfl, hb⟩
  rw [HST.out]
  have L1 := Lib.hid (L0.out.call hb)
  clear hb c0 t0 t1 t2 t3 t4 t5 t6 t7 t8
  obtain ⟨t0, t1, t2, t3, t4, t5, t6, t7, t8⟩ := L1.out.tb
  go_wp2_with fail
  refine (impl_active x (by omega) (by omega) (H1.out.below (below_le L1.out.bel hB)) (H2.out.below (below_le L1.out.bel hB)) (by have := L1.out.size; omega)).mono ?_
  rintro e W2 ⟨rfl, hb⟩
  rw [HAC.out]
  have L2 := Lib.hid (L1.out.call hb)
  clear hb t0 t1 t2 t3 t4 t5 t6 t7 t8
  obtain ⟨t0, t1, t2, t3, t4, t5, t6, t7, t8⟩ := L2.out.tb
  clear t0 t2 t3 t4 t5 t6 t7
  go_wp2_with fail
  refine (rules_q HR.out _).mono ?_
  rintro e W3 ⟨he, hw⟩
  subst he
  subst hw
  go_wp2_with fail
  clear t1 t8
  go_loopw [7, 8, 23] (fun _ _ i wr => ∃ k : Nat, k ≤ n2 ∧ i = .int .i64 k ∧ Pass C x S k ∧ LS w (.slice D N cN) x (.slice A n c) (.slice A2 n2 c2) wr) (fun _ _ i _ => n2 - (intOf i).toNat)
  case atStart => exact ⟨0, by omega, rfl, pass_0 C x S, L2.out⟩
  case round =>
    obtain ⟨k, hk, rfl, hp, hL⟩ := hrel
    have HP := Lib.hid hp
    have LW := Lib.hid hL
    clear hp hL
    by_cases hlt : k < n2
    · obtain ⟨b, o, y, rfl, hbB, hx, a0, a1⟩ := (H2.out.below (below_le LW.out.bel hB)).at_ hlt
      have HX := Lib.hid hx
      clear hx
      have hb := new1 wr (.cells #[.int .i64 y.a, .int .i64 y.b] 81)
      have hwx : wr.heap.size < (wr.alloc (.cells #[.int .i64 y.a, .int .i64 y.b] 81)).heap.size := by simp
      obtain ⟨m0, m0b⟩ := atFlat (boxed wr y 81)
      clear m0b
      have LX := Lib.hid (LW.out.call hb)
      have c0 := LX.out.st
      obtain ⟨_, _, _, t3, _, _, _, _, _⟩ := LX.out.tb
      have hsz := LW.out.size
      have h6 := val.st_six HST.out
      rw [H3.out.1] at h6
      obtain ⟨s1, s2⟩ := wkey_of HTX.out HX.out
      have s3 : y.a < (N : Int) := by omega
      have s4 : y.a.toNat < N := by omega
      clear h6
      obtain ⟨b2, o2, l, A9, n9, c9, rfl, hb2, hl, d0, hn9, hv⟩ := (H3.out.below (below_le LX.out.bel hB)).at_ s4
      have HV := Lib.hid hv
      obtain ⟨z0, hz0⟩ : ∃ z, latOf C y = z := ⟨_, rfl⟩
      have HZ0 := Lib.hid hz0
      have HLV : Hid (lastV l = z0) := Lib.hid (by rw [lat_at hl, hz0])
      clear hv hz0 hl
      obtain ⟨z, hz⟩ : ∃ z, ccM x.s z0.c x.b = z := ⟨_, rfl⟩
      have HZ := Lib.hid hz
      clear hz
      by_cases e0 : z = 0
      · have tz : (z != 0) = false := by simp [e0]
        have HE0 := Lib.hid e0
        clear e0
        go_wp2_with fail
        generalize hW : wr.alloc _ = W2 at c0 d0 t3 m0 hb LX HV hwx ⊢
        clear hW a0 a1
        have hbk0 : Below W2.heap.size W2 W2.drew := (Below.refl _ _).drew
        have LD := Lib.hid (LX.out.call hbk0)
        have hlb2 : b2 < W2.heap.size := by have := hb.size; omega
        have hlbd : b2 < W2.drew.heap.size := Nat.lt_of_lt_of_le hlb2 hbk0.size
        have hlwd : wr.heap.size < W2.drew.heap.size := Nat.lt_of_lt_of_le hwx hbk0.size
        have hBw : B ≤ W2.heap.size := by have := hb.size; omega
        have hBd : B ≤ W2.drew.heap.size := Nat.le_trans hBw hbk0.size
        go_region_held3 (fun w' => w'.cell? ⟨w.heap.size, 0, none⟩ = some (.slice (some ⟨b2, o2, none⟩) N cN) ∧ w'.cell? ⟨w.heap.size + 1, 3, none⟩ = some (.int .i64 x.b) ∧ w'.cell? ⟨wr.heap.size, 0, none⟩ = some (.int .i64 y.a) ∧ w'.cell? ⟨b2, o2 + y.a.toNat, none⟩ = some (.slice A9 n9 c9)) (go_keep) (first | (go_at_call 41; (with_reducible refine (latest_impl HLV.out hn9 ((HV.out.below (below_le hbk0 hBw)).more hBd) (Nat.le_refl _)).mono ?_); rintro e W5 ⟨he, hb'⟩; subst he; have L5 := Lib.hid (LD.out.call hb'); have c1 := L5.out.st; obtain ⟨_, _, _, t3b, _, _, _, _, _⟩ := L5.out.tb; have m1 := (hb'.cell (p := ⟨wr.heap.size, 0, none⟩) hlwd).trans ((hbk0.cell (p := ⟨wr.heap.size, 0, none⟩) hwx).trans m0); have d1 := (hb'.cell (p := ⟨b2, o2 + y.a.toNat, none⟩) hlbd).trans ((hbk0.cell (p := ⟨b2, o2 + y.a.toNat, none⟩) hlb2).trans d0); have hlb5 := Nat.lt_of_lt_of_le hlbd hb'.size; have hlw5 := Nat.lt_of_lt_of_le hlwd hb'.size) | (go_at_call 131; (with_reducible refine (cm_2 z0 x.b _ Q1.out).mono ?_); rintro e W6 ⟨he, hb6⟩; rw [HZ.out] at he; subst he; have L6 := Lib.hid (L5.out.call hb6); have c2 := L6.out.st; obtain ⟨_, _, _, t3c, _, _, _, _, _⟩ := L6.out.tb; have m2 := (hb6.cell (p := ⟨wr.heap.size, 0, none⟩) hlw5).trans m1; have d2 := (hb6.cell (p := ⟨b2, o2 + y.a.toNat, none⟩) hlb5).trans d1))
        all_goals
          clear c1 t3b m1 d1 c2 t3c m2 d2 c0 d0 t3 m0 hb hbk0 hb' hb6
          go_wp2_with fail
          go_roundw
          case rel => exact ⟨k + 1, by omega, by go_num, pass_step HP.out HX.out HZ0.out (by rw [HZ.out]; exact HE0.out), L6.out⟩
          case measure => simp [intOf]; omega
      · have tz : (z != 0) = true := by simpa using e0
        have HE : Hid (z = i) := Lib.hid (by rw [cc_hit HGD.out HX.out HZ0.out HZ.out e0]; exact HI.out)
        clear e0
        go_wp2_with fail
        generalize hW : wr.alloc _ = W2 at c0 d0 t3 m0 hb LX HV hwx ⊢
        clear hW a0 a1
        have hbk0 : Below W2.heap.size W2 W2.drew := (Below.refl _ _).drew
        have LD := Lib.hid (LX.out.call hbk0)
        have hlb2 : b2 < W2.heap.size := by have := hb.size; omega
        have hlbd : b2 < W2.drew.heap.size := Nat.lt_of_lt_of_le hlb2 hbk0.size
        have hlwd : wr.heap.size < W2.drew.heap.size := Nat.lt_of_lt_of_le hwx hbk0.size
        have hBw : B ≤ W2.heap.size := by have := hb.size; omega
        have hBd : B ≤ W2.drew.heap.size := Nat.le_trans hBw hbk0.size
        go_region_held3 (fun w' => w'.cell? ⟨w.heap.size, 0, none⟩ = some (.slice (some ⟨b2, o2, none⟩) N cN) ∧ w'.cell? ⟨w.heap.size + 1, 3, none⟩ = some (.int .i64 x.b) ∧ w'.cell? ⟨wr.heap.size, 0, none⟩ = some (.int .i64 y.a) ∧ w'.cell? ⟨b2, o2 + y.a.toNat, none⟩ = some (.slice A9 n9 c9)) (go_keep) (first | (go_at_call 41; (with_reducible refine (latest_impl HLV.out hn9 ((HV.out.below (below_le hbk0 hBw)).more hBd) (Nat.le_refl _)).mono ?_); rintro e W5 ⟨he, hb'⟩; subst he; have L5 := Lib.hid (LD.out.call hb'); have c1 := L5.out.st; obtain ⟨_, _, _, t3b, _, _, _, _, _⟩ := L5.out.tb; have m1 := (hb'.cell (p := ⟨wr.heap.size, 0, none⟩) hlwd).trans ((hbk0.cell (p := ⟨wr.heap.size, 0, none⟩) hwx).trans m0); have d1 := (hb'.cell (p := ⟨b2, o2 + y.a.toNat, none⟩) hlbd).trans ((hbk0.cell (p := ⟨b2, o2 + y.a.toNat, none⟩) hlb2).trans d0); have hlb5 := Nat.lt_of_lt_of_le hlbd hb'.size; have hlw5 := Nat.lt_of_lt_of_le hlwd hb'.size) | (go_at_call 131; (with_reducible refine (cm_2 z0 x.b _ Q1.out).mono ?_); rintro e W6 ⟨he, hb6⟩; rw [HZ.out] at he; subst he; have L6 := Lib.hid (L5.out.call hb6); have c2 := L6.out.st; obtain ⟨_, _, _, t3c, _, _, _, _, _⟩ := L6.out.tb; have m2 := (hb6.cell (p := ⟨wr.heap.size, 0, none⟩) hlw5).trans m1; have d2 := (hb6.cell (p := ⟨b2, o2 + y.a.toNat, none⟩) hlb5).trans d1))
        all_goals
          clear c1 t3b m1 d1 c2 t3c m2 d2 c0 d0 t3 m0 hb hbk0 hb' hb6
          go_wp2_with fail
          go_ret
          exact ⟨ret_j HE.out, L6.out.bel⟩
    · obtain rfl : n2 = k := by omega
      go_wp2_with fail
      go_ret
      exact ⟨ret_j (by rw [cc_end HGD.out hln2 HP.out]; exact HI.out), LW.out.bel⟩
set_option maxRecDepth 100000 in
set_option maxHeartbeats 6400000 in
theorem impl_cc4 {w : World} {B n c n2 c2 N cN : Nat} {A A2 D : Option Addr} {R S : List E2} {C : List (List Ver)} (x : Hd) (hn : n ≤ 1048576) (hn2 : n2 ≤ 1048576) (hN : N ≤ 1048576) (h1 : Vs w B A n R) (h2 : Vs w B A2 n2 S) (h3 : Rs w B D N C) (hB : B ≤ w.heap.size) (q1 : x.s = 4) (hr : ruV x.s = .iface 116 (.agg #[])) (hst : stB C = true) (hac : actB x R S = true) :
    Calls Try.prog 13 #[.agg #[.slice D N cN], .agg #[.int .i64 x.i, .int .i64 x.s, .int .i64 x.t, .int .i64 x.b, .int .i64 x.l, .int .i64 x.h, .int .i64 x.c, .slice A n c, .slice A2 n2 c2]] w fun e w' => e = .returned (.int .i64 (ccI C x R S)) ∧ Below w.heap.size w w' := by
  have H1 := Lib.hid h1
  have H2 := Lib.hid h2
  have H3 := Lib.hid h3
  have hln := h1.1
  have hln2 := h2.1
  have hln3 := h3.1
  clear h1 h2 h3
  obtain ⟨i, hi⟩ : ∃ i, ccI C x R S = i := ⟨_, rfl⟩
  rw [hi]
  have HI := Lib.hid hi
  clear hi
  have HR := Lib.hid hr
  have Q1 := Lib.hid q1
  have m1f := mt_cm4
  have m2f := na_cm4
  have HST := Lib.hid hst
  have HAC := Lib.hid hac
  have HGD : Hid (gdB C x R S 0 = true) := Lib.hid (gd0_a hst hac)
  have HTX : Hid (txB x R S = true) := Lib.hid (gd_parts HGD.out).2.1
  clear hr q1 hst hac
  go_enter Try.func13, Try.ntmps13
  go_wp2_with fail
  have hL := LS.mk2 w (.slice D N cN) 26 30 x A n c A2 n2 c2
  generalize ((w.alloc _).alloc _) = W0 at hL ⊢
  have L0 := Lib.hid hL
  have c0 := hL.st
  obtain ⟨t0, t1, t2, t3, t4, t5, t6, t7, t8⟩ := hL.tb
  clear hL
  go_wp2_with fail
  refine (val.impl_store (by omega) (H3.out.below (below_le L0.out.bel hB)) (by have := L0.out.size; omega)).mono ?_
  rintro e W1 ⟨rfl, hb⟩
  rw [HST.out]
  have L1 := Lib.hid (L0.out.call hb)
  clear hb c0 t0 t1 t2 t3 t4 t5 t6 t7 t8
  obtain ⟨t0, t1, t2, t3, t4, t5, t6, t7, t8⟩ := L1.out.tb
  go_wp2_with fail
  refine (impl_active x (by omega) (by omega) (H1.out.below (below_le L1.out.bel hB)) (H2.out.below (below_le L1.out.bel hB)) (by have := L1.out.size; omega)).mono ?_
  rintro e W2 ⟨rfl, hb⟩
  rw [HAC.out]
  have L2 := Lib.hid (L1.out.call hb)
  clear hb t0 t1 t2 t3 t4 t5 t6 t7 t8
  obtain ⟨t0, t1, t2, t3, t4, t5, t6, t7, t8⟩ := L2.out.tb
  clear t0 t2 t3 t4 t5 t6 t7
  go_wp2_with fail
  refine (rules_q HR.out _).mono ?_
  rintro e W3 ⟨he, hw⟩
  subst he
  subst hw
  go_wp2_with fail
  clear t1 t8
  go_loopw [7, 8, 23] (fun _ _ i wr => ∃ k : Nat, k ≤ n2 ∧ i = .int .i64 k ∧ Pass C x S k ∧ LS w (.slice D N cN) x (.slice A n c) (.slice A2 n2 c2) wr) (fun _ _ i _ => n2 - (intOf i).toNat)
  case atStart => exact ⟨0, by omega, rfl, pass_0 C x S, L2.out⟩
  case round =>
    obtain ⟨k, hk, rfl, hp, hL⟩ := hrel
    have HP := Lib.hid hp
    have LW := Lib.hid hL
    clear hp hL
    by_cases hlt : k < n2
    · obtain ⟨b, o, y, rfl, hbB, hx, a0, a1⟩ := (H2.out.below (below_le LW.out.bel hB)).at_ hlt
      have HX := Lib.hid hx
      clear hx
      have hb := new1 wr (.cells #[.int .i64 y.a, .int .i64 y.b] 81)
      have hwx : wr.heap.size < (wr.alloc (.cells #[.int .i64 y.a, .int .i64 y.b] 81)).heap.size := by simp
      obtain ⟨m0, m0b⟩ := atFlat (boxed wr y 81)
      clear m0b
      have LX := Lib.hid (LW.out.call hb)
      have c0 := LX.out.st
      obtain ⟨_, _, _, t3, _, _, _, _, _⟩ := LX.out.tb
      have hsz := LW.out.size
      have h6 := val.st_six HST.out
      rw [H3.out.1] at h6
      obtain ⟨s1, s2⟩ := wkey_of HTX.out HX.out
      have s3 : y.a < (N : Int) := by omega
      have s4 : y.a.toNat < N := by omega
      clear h6
      obtain ⟨b2, o2, l, A9, n9, c9, rfl, hb2, hl, d0, hn9, hv⟩ := (H3.out.below (below_le LX.out.bel hB)).at_ s4
      have HV := Lib.hid hv
      obtain ⟨z0, hz0⟩ : ∃ z, latOf C y = z := ⟨_, rfl⟩
      have HZ0 := Lib.hid hz0
      have HLV : Hid (lastV l = z0) := Lib.hid (by rw [lat_at hl, hz0])
      clear hv hz0 hl
      obtain ⟨z, hz⟩ : ∃ z, ccM x.s z0.c x.b = z := ⟨_, rfl⟩
      have HZ := Lib.hid hz
      clear hz
      by_cases e0 : z = 0
      · have tz : (z != 0) = false := by simp [e0]
        have HE0 := Lib.hid e0
        clear e0
        go_wp2_with fail
        generalize hW : wr.alloc _ = W2 at c0 d0 t3 m0 hb LX HV hwx ⊢
        clear hW a0 a1
        have hbk0 : Below W2.heap.size W2 W2.drew := (Below.refl _ _).drew
        have LD := Lib.hid (LX.out.call hbk0)
        have hlb2 : b2 < W2.heap.size := by have := hb.size; omega
        have hlbd : b2 < W2.drew.heap.size := Nat.lt_of_lt_of_le hlb2 hbk0.size
        have hlwd : wr.heap.size < W2.drew.heap.size := Nat.lt_of_lt_of_le hwx hbk0.size
        have hBw : B ≤ W2.heap.size := by have := hb.size; omega
        have hBd : B ≤ W2.drew.heap.size := Nat.le_trans hBw hbk0.size
        go_region_held3 (fun w' => w'.cell? ⟨w.heap.size, 0, none⟩ = some (.slice (some ⟨b2, o2, none⟩) N cN) ∧ w'.cell? ⟨w.heap.size + 1, 3, none⟩ = some (.int .i64 x.b) ∧ w'.cell? ⟨wr.heap.size, 0, none⟩ = some (.int .i64 y.a) ∧ w'.cell? ⟨b2, o2 + y.a.toNat, none⟩ = some (.slice A9 n9 c9)) (go_keep) (first | (go_at_call 41; (with_reducible refine (latest_impl HLV.out hn9 ((HV.out.below (below_le hbk0 hBw)).more hBd) (Nat.le_refl _)).mono ?_); rintro e W5 ⟨he, hb'⟩; subst he; have L5 := Lib.hid (LD.out.call hb'); have c1 := L5.out.st; obtain ⟨_, _, _, t3b, _, _, _, _, _⟩ := L5.out.tb; have m1 := (hb'.cell (p := ⟨wr.heap.size, 0, none⟩) hlwd).trans ((hbk0.cell (p := ⟨wr.heap.size, 0, none⟩) hwx).trans m0); have d1 := (hb'.cell (p := ⟨b2, o2 + y.a.toNat, none⟩) hlbd).trans ((hbk0.cell (p := ⟨b2, o2 + y.a.toNat, none⟩) hlb2).trans d0); have hlb5 := Nat.lt_of_lt_of_le hlbd hb'.size; have hlw5 := Nat.lt_of_lt_of_le hlwd hb'.size) | (go_at_call 136; (with_reducible refine (cm_4 z0 x.b _ Q1.out).mono ?_); rintro e W6 ⟨he, hb6⟩; rw [HZ.out] at he; subst he; have L6 := Lib.hid (L5.out.call hb6); have c2 := L6.out.st; obtain ⟨_, _, _, t3c, _, _, _, _, _⟩ := L6.out.tb; have m2 := (hb6.cell (p := ⟨wr.heap.size, 0, none⟩) hlw5).trans m1; have d2 := (hb6.cell (p := ⟨b2, o2 + y.a.toNat, none⟩) hlb5).trans d1))
        all_goals
          clear c1 t3b m1 d1 c2 t3c m2 d2 c0 d0 t3 m0 hb hbk0 hb' hb6
          go_wp2_with fail
          go_roundw
          case rel => exact ⟨k + 1, by omega, by go_num, pass_step HP.out HX.out HZ0.out (by rw [HZ.out]; exact HE0.out), L6.out⟩
          case measure => simp [intOf]; omega
      · have tz : (z != 0) = true := by simpa using e0
        have HE : Hid (z = i) := Lib.hid (by rw [cc_hit HGD.out HX.out HZ0.out HZ.out e0]; exact HI.out)
        clear e0
        go_wp2_with fail
        generalize hW : wr.alloc _ = W2 at c0 d0 t3 m0 hb LX HV hwx ⊢
        clear hW a0 a1
        have hbk0 : Below W2.heap.size W2 W2.drew := (Below.refl _ _).drew
        have LD := Lib.hid (LX.out.call hbk0)
        have hlb2 : b2 < W2.heap.size := by have := hb.size; omega
        have hlbd : b2 < W2.drew.heap.size := Nat.lt_of_lt_of_le hlb2 hbk0.size
        have hlwd : wr.heap.size < W2.drew.heap.size := Nat.lt_of_lt_of_le hwx hbk0.size
        have hBw : B ≤ W2.heap.size := by have := hb.size; omega
        have hBd : B ≤ W2.drew.heap.size := Nat.le_trans hBw hbk0.size
        go_region_held3 (fun w' => w'.cell? ⟨w.heap.size, 0, none⟩ = some (.slice (some ⟨b2, o2, none⟩) N cN) ∧ w'.cell? ⟨w.heap.size + 1, 3, none⟩ = some (.int .i64 x.b) ∧ w'.cell? ⟨wr.heap.size, 0, none⟩ = some (.int .i64 y.a) ∧ w'.cell? ⟨b2, o2 + y.a.toNat, none⟩ = some (.slice A9 n9 c9)) (go_keep) (first | (go_at_call 41; (with_reducible refine (latest_impl HLV.out hn9 ((HV.out.below (below_le hbk0 hBw)).more hBd) (Nat.le_refl _)).mono ?_); rintro e W5 ⟨he, hb'⟩; subst he; have L5 := Lib.hid (LD.out.call hb'); have c1 := L5.out.st; obtain ⟨_, _, _, t3b, _, _, _, _, _⟩ := L5.out.tb; have m1 := (hb'.cell (p := ⟨wr.heap.size, 0, none⟩) hlwd).trans ((hbk0.cell (p := ⟨wr.heap.size, 0, none⟩) hwx).trans m0); have d1 := (hb'.cell (p := ⟨b2, o2 + y.a.toNat, none⟩) hlbd).trans ((hbk0.cell (p := ⟨b2, o2 + y.a.toNat, none⟩) hlb2).trans d0); have hlb5 := Nat.lt_of_lt_of_le hlbd hb'.size; have hlw5 := Nat.lt_of_lt_of_le hlwd hb'.size) | (go_at_call 136; (with_reducible refine (cm_4 z0 x.b _ Q1.out).mono ?_); rintro e W6 ⟨he, hb6⟩; rw [HZ.out] at he; subst he; have L6 := Lib.hid (L5.out.call hb6); have c2 := L6.out.st; obtain ⟨_, _, _, t3c, _, _, _, _, _⟩ := L6.out.tb; have m2 := (hb6.cell (p := ⟨wr.heap.size, 0, none⟩) hlw5).trans m1; have d2 := (hb6.cell (p := ⟨b2, o2 + y.a.toNat, none⟩) hlb5).trans d1))
        all_goals
          clear c1 t3b m1 d1 c2 t3c m2 d2 c0 d0 t3 m0 hb hbk0 hb' hb6
          go_wp2_with fail
          go_ret
          exact ⟨ret_j HE.out, L6.out.bel⟩
    · obtain rfl : n2 = k := by omega
      go_wp2_with fail
      go_ret
      exact ⟨ret_j (by rw [cc_end HGD.out hln2 HP.out]; exact HI.out), LW.out.bel⟩
set_option maxRecDepth 100000 in
set_option maxHeartbeats 6400000 in
theorem impl_cc0 {w : World} {B n c n2 c2 N cN : Nat} {A A2 D : Option Addr} {R S : List E2} {C : List (List Ver)} (x : Hd) (hn : n ≤ 1048576) (hn2 : n2 ≤ 1048576) (hN : N ≤ 1048576) (h1 : Vs w B A n R) (h2 : Vs w B A2 n2 S) (h3 : Rs w B D N C) (hB : B ≤ w.heap.size) (q1 : x.s ≠ 1 ∧ x.s ≠ 2 ∧ x.s ≠ 4) (hr : ruV x.s = .iface 112 (.agg #[])) (hst : stB C = true) (hac : actB x R S = true) :
    Calls Try.prog 13 #[.agg #[.slice D N cN], .agg #[.int .i64 x.i, .int .i64 x.s, .int .i64 x.t, .int .i64 x.b, .int .i64 x.l, .int .i64 x.h, .int .i64 x.c, .slice A n c, .slice A2 n2 c2]] w fun e w' => e = .returned (.int .i64 (ccI C x R S)) ∧ Below w.heap.size w w' := by
  have H1 := Lib.hid h1
  have H2 := Lib.hid h2
  have H3 := Lib.hid h3
  have hln := h1.1
  have hln2 := h2.1
  have hln3 := h3.1
  clear h1 h2 h3
  obtain ⟨i, hi⟩ : ∃ i, ccI C x R S = i := ⟨_, rfl⟩
  rw [hi]
  have HI := Lib.hid hi
  clear hi
  have HR := Lib.hid hr
  have Q1 := Lib.hid q1
  have m1f := mt_cm0
  have m2f := na_cm0
  have HST := Lib.hid hst
  have HAC := Lib.hid hac
  have HGD : Hid (gdB C x R S 0 = true) := Lib.hid (gd0_a hst hac)
  have HTX : Hid (txB x R S = true) := Lib.hid (gd_parts HGD.out).2.1
  clear hr q1 hst hac
  go_enter Try.func13, Try.ntmps13
  go_wp2_with fail
  have hL := LS.mk2 w (.slice D N cN) 26 30 x A n c A2 n2 c2
  generalize ((w.alloc _).alloc _) = W0 at hL ⊢
  have L0 := Lib.hid hL
  have c0 := hL.st
  obtain ⟨t0, t1, t2, t3, t4, t5, t6, t7, t8⟩ := hL.tb
  clear hL
  go_wp2_with fail
  refine (val.impl_store (by omega) (H3.out.below (below_le L0.out.bel hB)) (by have := L0.out.size; omega)).mono ?_
  rintro e W1 ⟨rfl, hb⟩
  rw [HST.out]
  have L1 := Lib.hid (L0.out.call hb)
  clear hb c0 t0 t1 t2 t3 t4 t5 t6 t7 t8
  obtain ⟨t0, t1, t2, t3, t4, t5, t6, t7, t8⟩ := L1.out.tb
  go_wp2_with fail
  refine (impl_active x (by omega) (by omega) (H1.out.below (below_le L1.out.bel hB)) (H2.out.below (below_le L1.out.bel hB)) (by have := L1.out.size; omega)).mono ?_
  rintro e W2 ⟨rfl, hb⟩
  rw [HAC.out]
  have L2 := Lib.hid (L1.out.call hb)
  clear hb t0 t1 t2 t3 t4 t5 t6 t7 t8
  obtain ⟨t0, t1, t2, t3, t4, t5, t6, t7, t8⟩ := L2.out.tb
  clear t0 t2 t3 t4 t5 t6 t7
  go_wp2_with fail
  refine (rules_q HR.out _).mono ?_
  rintro e W3 ⟨he, hw⟩
  subst he
  subst hw
  go_wp2_with fail
  clear t1 t8
  go_loopw [7, 8, 23] (fun _ _ i wr => ∃ k : Nat, k ≤ n2 ∧ i = .int .i64 k ∧ Pass C x S k ∧ LS w (.slice D N cN) x (.slice A n c) (.slice A2 n2 c2) wr) (fun _ _ i _ => n2 - (intOf i).toNat)
  case atStart => exact ⟨0, by omega, rfl, pass_0 C x S, L2.out⟩
  case round =>
    obtain ⟨k, hk, rfl, hp, hL⟩ := hrel
    have HP := Lib.hid hp
    have LW := Lib.hid hL
    clear hp hL
    by_cases hlt : k < n2
    · obtain ⟨b, o, y, rfl, hbB, hx, a0, a1⟩ := (H2.out.below (below_le LW.out.bel hB)).at_ hlt
      have HX := Lib.hid hx
      clear hx
      have hb := new1 wr (.cells #[.int .i64 y.a, .int .i64 y.b] 81)
      have hwx : wr.heap.size < (wr.alloc (.cells #[.int .i64 y.a, .int .i64 y.b] 81)).heap.size := by simp
      obtain ⟨m0, m0b⟩ := atFlat (boxed wr y 81)
      clear m0b
      have LX := Lib.hid (LW.out.call hb)
      have c0 := LX.out.st
      obtain ⟨_, _, _, t3, _, _, _, _, _⟩ := LX.out.tb
      have hsz := LW.out.size
      have h6 := val.st_six HST.out
      rw [H3.out.1] at h6
      obtain ⟨s1, s2⟩ := wkey_of HTX.out HX.out
      have s3 : y.a < (N : Int) := by omega
      have s4 : y.a.toNat < N := by omega
      clear h6
      obtain ⟨b2, o2, l, A9, n9, c9, rfl, hb2, hl, d0, hn9, hv⟩ := (H3.out.below (below_le LX.out.bel hB)).at_ s4
      have HV := Lib.hid hv
      obtain ⟨z0, hz0⟩ : ∃ z, latOf C y = z := ⟨_, rfl⟩
      have HZ0 := Lib.hid hz0
      have HLV : Hid (lastV l = z0) := Lib.hid (by rw [lat_at hl, hz0])
      clear hv hz0 hl
      obtain ⟨z, hz⟩ : ∃ z, ccM x.s z0.c x.b = z := ⟨_, rfl⟩
      have HZ := Lib.hid hz
      clear hz
      by_cases e0 : z = 0
      · have tz : (z != 0) = false := by simp [e0]
        have HE0 := Lib.hid e0
        clear e0
        go_wp2_with fail
        generalize hW : wr.alloc _ = W2 at c0 d0 t3 m0 hb LX HV hwx ⊢
        clear hW a0 a1
        have hbk0 : Below W2.heap.size W2 W2.drew := (Below.refl _ _).drew
        have LD := Lib.hid (LX.out.call hbk0)
        have hlb2 : b2 < W2.heap.size := by have := hb.size; omega
        have hlbd : b2 < W2.drew.heap.size := Nat.lt_of_lt_of_le hlb2 hbk0.size
        have hlwd : wr.heap.size < W2.drew.heap.size := Nat.lt_of_lt_of_le hwx hbk0.size
        have hBw : B ≤ W2.heap.size := by have := hb.size; omega
        have hBd : B ≤ W2.drew.heap.size := Nat.le_trans hBw hbk0.size
        go_region_held3 (fun w' => w'.cell? ⟨w.heap.size, 0, none⟩ = some (.slice (some ⟨b2, o2, none⟩) N cN) ∧ w'.cell? ⟨w.heap.size + 1, 3, none⟩ = some (.int .i64 x.b) ∧ w'.cell? ⟨wr.heap.size, 0, none⟩ = some (.int .i64 y.a) ∧ w'.cell? ⟨b2, o2 + y.a.toNat, none⟩ = some (.slice A9 n9 c9)) (go_keep) (first | (go_at_call 41; (with_reducible refine (latest_impl HLV.out hn9 ((HV.out.below (below_le hbk0 hBw)).more hBd) (Nat.le_refl _)).mono ?_); rintro e W5 ⟨he, hb'⟩; subst he; have L5 := Lib.hid (LD.out.call hb'); have c1 := L5.out.st; obtain ⟨_, _, _, t3b, _, _, _, _, _⟩ := L5.out.tb; have m1 := (hb'.cell (p := ⟨wr.heap.size, 0, none⟩) hlwd).trans ((hbk0.cell (p := ⟨wr.heap.size, 0, none⟩) hwx).trans m0); have d1 := (hb'.cell (p := ⟨b2, o2 + y.a.toNat, none⟩) hlbd).trans ((hbk0.cell (p := ⟨b2, o2 + y.a.toNat, none⟩) hlb2).trans d0); have hlb5 := Nat.lt_of_lt_of_le hlbd hb'.size; have hlw5 := Nat.lt_of_lt_of_le hlwd hb'.size) | (go_at_call 125; (with_reducible refine (cm_0 z0 x.b _ Q1.out.2.1 Q1.out.2.2).mono ?_); rintro e W6 ⟨he, hb6⟩; rw [HZ.out] at he; subst he; have L6 := Lib.hid (L5.out.call hb6); have c2 := L6.out.st; obtain ⟨_, _, _, t3c, _, _, _, _, _⟩ := L6.out.tb; have m2 := (hb6.cell (p := ⟨wr.heap.size, 0, none⟩) hlw5).trans m1; have d2 := (hb6.cell (p := ⟨b2, o2 + y.a.toNat, none⟩) hlb5).trans d1))
        all_goals
          clear c1 t3b m1 d1 c2 t3c m2 d2 c0 d0 t3 m0 hb hbk0 hb' hb6
          go_wp2_with fail
          go_roundw
          case rel => exact ⟨k + 1, by omega, by go_num, pass_step HP.out HX.out HZ0.out (by rw [HZ.out]; exact HE0.out), L6.out⟩
          case measure => simp [intOf]; omega
      · have tz : (z != 0) = true := by simpa using e0
        have HE : Hid (z = i) := Lib.hid (by rw [cc_hit HGD.out HX.out HZ0.out HZ.out e0]; exact HI.out)
        clear e0
        go_wp2_with fail
        generalize hW : wr.alloc _ = W2 at c0 d0 t3 m0 hb LX HV hwx ⊢
        clear hW a0 a1
        have hbk0 : Below W2.heap.size W2 W2.drew := (Below.refl _ _).drew
        have LD := Lib.hid (LX.out.call hbk0)
        have hlb2 : b2 < W2.heap.size := by have := hb.size; omega
        have hlbd : b2 < W2.drew.heap.size := Nat.lt_of_lt_of_le hlb2 hbk0.size
        have hlwd : wr.heap.size < W2.drew.heap.size := Nat.lt_of_lt_of_le hwx hbk0.size
        have hBw : B ≤ W2.heap.size := by have := hb.size; omega
        have hBd : B ≤ W2.drew.heap.size := Nat.le_trans hBw hbk0.size
        go_region_held3 (fun w' => w'.cell? ⟨w.heap.size, 0, none⟩ = some (.slice (some ⟨b2, o2, none⟩) N cN) ∧ w'.cell? ⟨w.heap.size + 1, 3, none⟩ = some (.int .i64 x.b) ∧ w'.cell? ⟨wr.heap.size, 0, none⟩ = some (.int .i64 y.a) ∧ w'.cell? ⟨b2, o2 + y.a.toNat, none⟩ = some (.slice A9 n9 c9)) (go_keep) (first | (go_at_call 41; (with_reducible refine (latest_impl HLV.out hn9 ((HV.out.below (below_le hbk0 hBw)).more hBd) (Nat.le_refl _)).mono ?_); rintro e W5 ⟨he, hb'⟩; subst he; have L5 := Lib.hid (LD.out.call hb'); have c1 := L5.out.st; obtain ⟨_, _, _, t3b, _, _, _, _, _⟩ := L5.out.tb; have m1 := (hb'.cell (p := ⟨wr.heap.size, 0, none⟩) hlwd).trans ((hbk0.cell (p := ⟨wr.heap.size, 0, none⟩) hwx).trans m0); have d1 := (hb'.cell (p := ⟨b2, o2 + y.a.toNat, none⟩) hlbd).trans ((hbk0.cell (p := ⟨b2, o2 + y.a.toNat, none⟩) hlb2).trans d0); have hlb5 := Nat.lt_of_lt_of_le hlbd hb'.size; have hlw5 := Nat.lt_of_lt_of_le hlwd hb'.size) | (go_at_call 125; (with_reducible refine (cm_0 z0 x.b _ Q1.out.2.1 Q1.out.2.2).mono ?_); rintro e W6 ⟨he, hb6⟩; rw [HZ.out] at he; subst he; have L6 := Lib.hid (L5.out.call hb6); have c2 := L6.out.st; obtain ⟨_, _, _, t3c, _, _, _, _, _⟩ := L6.out.tb; have m2 := (hb6.cell (p := ⟨wr.heap.size, 0, none⟩) hlw5).trans m1; have d2 := (hb6.cell (p := ⟨b2, o2 + y.a.toNat, none⟩) hlb5).trans d1))
        all_goals
          clear c1 t3b m1 d1 c2 t3c m2 d2 c0 d0 t3 m0 hb hbk0 hb' hb6
          go_wp2_with fail
          go_ret
          exact ⟨ret_j HE.out, L6.out.bel⟩
    · obtain rfl : n2 = k := by omega
      go_wp2_with fail
      go_ret
      exact ⟨ret_j (by rw [cc_end HGD.out hln2 HP.out]; exact HI.out), LW.out.bel⟩
set_option maxRecDepth 100000 in
set_option maxHeartbeats 3200000 in
theorem impl_cc {w : World} {B n c n2 c2 N cN : Nat} {A A2 D : Option Addr} {R S : List E2} {C : List (List Ver)} (x : Hd) (hn : n ≤ 1048576) (hn2 : n2 ≤ 1048576) (hN : N ≤ 1048576) (h1 : Vs w B A n R) (h2 : Vs w B A2 n2 S) (h3 : Rs w B D N C) (hB : B ≤ w.heap.size) :
    Calls Try.prog 13 #[.agg #[.slice D N cN], .agg #[.int .i64 x.i, .int .i64 x.s, .int .i64 x.t, .int .i64 x.b, .int .i64 x.l, .int .i64 x.h, .int .i64 x.c, .slice A n c, .slice A2 n2 c2]] w fun e w' => e = .returned (.int .i64 (ccI C x R S)) ∧ Below w.heap.size w w' := by
  have H1 := Lib.hid h1
  have H2 := Lib.hid h2
  have H3 := Lib.hid h3
  have hln := h1.1
  have hln2 := h2.1
  have hln3 := h3.1
  clear h1 h2 h3
  obtain ⟨i, hi⟩ : ∃ i, ccI C x R S = i := ⟨_, rfl⟩
  have HI := Lib.hid hi
  clear hi
  rcases hst : stB C with _ | _
  · have HE : Hid ((6 : Int) = i) := Lib.hid (by rw [← HI.out, cc_no (gd_st hst)])
    rw [HI.out]
    have HST := Lib.hid hst
    clear hst
    go_enter Try.func13, Try.ntmps13
    go_wp2_with fail
    have hL := LS.mk2 w (.slice D N cN) 26 30 x A n c A2 n2 c2
    generalize ((w.alloc _).alloc _) = W0 at hL ⊢
    have L0 := Lib.hid hL
    have c0 := hL.st
    obtain ⟨t0, t1, t2, t3, t4, t5, t6, t7, t8⟩ := hL.tb
    clear hL
    go_wp2_with fail
    refine (val.impl_store (by omega) (H3.out.below (below_le L0.out.bel hB)) (by have := L0.out.size; omega)).mono ?_
    rintro e W1 ⟨rfl, hb⟩
    rw [HST.out]
    have L1 := Lib.hid (L0.out.call hb)
    clear hb
    go_wp2_with fail
    go_ret
    exact ⟨ret_j HE.out, L1.out.bel⟩
  rcases hac : actB x R S with _ | _
  · have HE : Hid ((6 : Int) = i) := Lib.hid (by rw [← HI.out, cc_no (gd_na hac).symm])
    rw [HI.out]
    have HST := Lib.hid hst
    have HAC := Lib.hid hac
    clear hst hac
    go_enter Try.func13, Try.ntmps13
    go_wp2_with fail
    have hL := LS.mk2 w (.slice D N cN) 26 30 x A n c A2 n2 c2
    generalize ((w.alloc _).alloc _) = W0 at hL ⊢
    have L0 := Lib.hid hL
    have c0 := hL.st
    obtain ⟨t0, t1, t2, t3, t4, t5, t6, t7, t8⟩ := hL.tb
    clear hL
    go_wp2_with fail
    refine (val.impl_store (by omega) (H3.out.below (below_le L0.out.bel hB)) (by have := L0.out.size; omega)).mono ?_
    rintro e W1 ⟨rfl, hb⟩
    rw [HST.out]
    have L1 := Lib.hid (L0.out.call hb)
    clear hb c0 t0 t1 t2 t3 t4 t5 t6 t7 t8
    obtain ⟨t0, t1, t2, t3, t4, t5, t6, t7, t8⟩ := L1.out.tb
    go_wp2_with fail
    refine (impl_active x (by omega) (by omega) (H1.out.below (below_le L1.out.bel hB)) (H2.out.below (below_le L1.out.bel hB)) (by have := L1.out.size; omega)).mono ?_
    rintro e W2 ⟨rfl, hb⟩
    rw [HAC.out]
    have L2 := Lib.hid (L1.out.call hb)
    clear hb
    go_wp2_with fail
    go_ret
    exact ⟨ret_j HE.out, L2.out.bel⟩
  rcases ru_cases x.s with ⟨q1, hr⟩ | ⟨q1, hr⟩ | ⟨q1, hr⟩ | ⟨q1, hr⟩
  · exact impl_cc1 x hn hn2 hN H1.out H2.out H3.out hB q1 hr hst hac
  · exact impl_cc2 x hn hn2 hN H1.out H2.out H3.out hB q1 hr hst hac
  · exact impl_cc4 x hn hn2 hN H1.out H2.out H3.out hB q1 hr hst hac
  · exact impl_cc0 x hn hn2 hN H1.out H2.out H3.out hB q1 hr hst hac
end Go.Proofs.Ytdfhnngcddaccaa.cmc
/- CommitCode of the model: what it answers; nothing that was there is written. -/
namespace Go.Proofs.Ytdfhnngcddaccaa.cms
open Go.ChangeShapes Go.WideShapes Go.ChangeAt Go.RowKit
open Go.Proofs.Ytdfhnngcddaccaa.el2 Go.Proofs.Ytdfhnngcddaccaa.tx Go.Proofs.Ytdfhnngcddaccaa.seq Go.Proofs.Ytdfhnngcddaccaa.tv Go.Proofs.Ytdfhnngcddaccaa.rx Go.Proofs.Ytdfhnngcddaccaa.ru Go.Proofs.Ytdfhnngcddaccaa.ruc Go.Proofs.Ytdfhnngcddaccaa.sc Go.Proofs.Ytdfhnngcddaccaa.cho Go.Proofs.Ytdfhnngcddaccaa.rl Go.Proofs.Ytdfhnngcddaccaa.cmc
open Go.Proofs.Ytdfhnngcddaccaa.vers (In in_yes in_no in_of in_off ret_b new2 new3)
open Go.Proofs.Ytdfhnngcddaccaa.sl (Ver)
open Go.Proofs.Ytdfhnngcddaccaa.st (Rs)
open Go.Proofs.Ytdfhnngcddaccaa.val (stB)
open Go.Proofs.Ytdfhnngcddaccaa.find (lastV vAt store5 below5 latest_spec latest_impl)
set_option linter.unusedVariables false
set_option linter.unusedSimpArgs false
theorem cm_no {s c b : Int} (h : ¬ b < c) : ccM s c b = 0 := by unfold ccM; rw [if_neg h]
theorem cm_2v {s c b : Int} (h : b < c) (h2 : s = 2) : ccM s c b = 2 := by unfold ccM; rw [if_pos h, if_pos h2]
theorem cm_4v {s c b : Int} (h : b < c) (h4 : s = 4) : ccM s c b = 3 := by unfold ccM; rw [if_pos h, if_neg (by omega), if_pos h4]
theorem cm_0v {s c b : Int} (h2 : s ≠ 2) (h4 : s ≠ 4) : ccM s c b = 0 := by unfold ccM; rw [if_neg h2, if_neg h4]; split <;> rfl
set_option maxRecDepth 100000 in
set_option maxHeartbeats 12800000 in
theorem spec_cc {w : World} {B n c n2 c2 N cN : Nat} {A A2 D : Option Addr} {R S : List E2} {C : List (List Ver)} (x : Hd) (hn : n ≤ 1048576) (hn2 : n2 ≤ 1048576) (hN : N ≤ 1048576) (h1 : Vs w B A n R) (h2 : Vs w B A2 n2 S) (h3 : Rs w B D N C) (hB : B ≤ w.heap.size) :
    Calls Try.prog 14 #[.agg #[.slice D N cN], .agg #[.int .i64 x.i, .int .i64 x.s, .int .i64 x.t, .int .i64 x.b, .int .i64 x.l, .int .i64 x.h, .int .i64 x.c, .slice A n c, .slice A2 n2 c2]] w fun e w' => e = .returned (.int .i64 (ccI C x R S)) ∧ Below w.heap.size w w' := by
  have H1 := Lib.hid h1
  have H2 := Lib.hid h2
  have H3 := Lib.hid h3
  have hln := h1.1
  have hln2 := h2.1
  have hln3 := h3.1
  clear h1 h2 h3
  obtain ⟨i, hi⟩ : ∃ i, ccI C x R S = i := ⟨_, rfl⟩
  rw [hi]
  have HI := Lib.hid hi
  clear hi
  obtain ⟨gq, hgq⟩ : ∃ q, gdB C x R S 0 = q := ⟨_, rfl⟩
  have HG := Lib.hid hgq
  clear hgq
  go_enter Try.func14, Try.ntmps14
  go_wp2_with fail
  have hL := LS.mk2 w (.slice D N cN) 26 30 x A n c A2 n2 c2
  generalize ((w.alloc _).alloc _) = W0 at hL ⊢
  have L0 := Lib.hid hL
  have c0 := hL.st
  obtain ⟨t0, t1, t2, t3, t4, t5, t6, t7, t8⟩ := hL.tb
  clear hL
  go_wp2_with fail
  refine (spec_good x 0 (by omega) (by omega) (by omega) (H1.out.below (below_le L0.out.bel hB)) (H2.out.below (below_le L0.out.bel hB)) (H3.out.below (below_le L0.out.bel hB)) (by have := L0.out.size; omega)).mono ?_
  rintro e W1 ⟨rfl, hb⟩
  rw [HG.out]
  have L1 := Lib.hid (L0.out.call hb)
  clear hb c0 t0 t1 t2 t3 t4 t5 t6 t7 t8
  rcases gq with _ | _
  · have HE : Hid ((6 : Int) = i) := Lib.hid (by rw [← HI.out, cc_no HG.out])
    go_wp2_with fail
    go_ret
    exact ⟨ret_j HE.out, L1.out.bel⟩
  have HTX : Hid (txB x R S = true) := Lib.hid (gd_parts HG.out).2.1
  have HST : Hid (stB C = true) := Lib.hid (gd_parts HG.out).1
  go_wp2_with fail
  go_loopw [5] (fun i wr => ∃ k : Nat, k ≤ n2 ∧ i = .int .i64 k ∧ Pass C x S k ∧ LS w (.slice D N cN) x (.slice A n c) (.slice A2 n2 c2) wr) (fun i _ => n2 - (intOf i).toNat)
  case atStart => exact ⟨0, by omega, rfl, pass_0 C x S, L1.out⟩
  case round =>
    obtain ⟨k, hk, rfl, hp, hL⟩ := hrel
    have HP := Lib.hid hp
    have LW := Lib.hid hL
    have c0 := hL.st
    obtain ⟨t0, t1, t2, t3, t4, t5, t6, t7, t8⟩ := hL.tb
    clear hp hL t0 t2 t4 t5 t6 t7
    by_cases hlt : k < n2
    · obtain ⟨b, o, y, rfl, hbB, hx, a0, a1⟩ := (H2.out.below (below_le LW.out.bel hB)).at_ hlt
      have HX := Lib.hid hx
      clear hx a1
      have hsz := LW.out.size
      have h6 := val.st_six HST.out
      rw [H3.out.1] at h6
      obtain ⟨s1, s2⟩ := wkey_of HTX.out HX.out
      have s3 : y.a < (N : Int) := by omega
      have s4 : y.a.toNat < N := by omega
      clear h6
      obtain ⟨b2, o2, l, A9, n9, c9, rfl, hb2, hl, d0, hn9, hv⟩ := (H3.out.below (below_le LW.out.bel hB)).at_ s4
      have HV := Lib.hid hv
      obtain ⟨z0, hz0⟩ : ∃ z, latOf C y = z := ⟨_, rfl⟩
      have HZ0 := Lib.hid hz0
      have HLV : Hid (lastV l = z0) := Lib.hid (by rw [lat_at hl, hz0])
      clear hv hz0 hl
      have hlb : b < wr.heap.size := by omega
      have hlb2 : b2 < wr.heap.size := by omega
      have hBw : B ≤ wr.heap.size := by omega
      go_wp2_with fail
      have hbk0 : Below wr.heap.size wr wr.drew := (Below.refl _ _).drew
      have LD := Lib.hid (LW.out.call hbk0)
      have hlbd : b < wr.drew.heap.size := Nat.lt_of_lt_of_le hlb hbk0.size
      have hlbd2 : b2 < wr.drew.heap.size := Nat.lt_of_lt_of_le hlb2 hbk0.size
      have hBd : B ≤ wr.drew.heap.size := Nat.le_trans hBw hbk0.size
      go_region_held3 (fun w' => w'.cell? ⟨w.heap.size, 0, none⟩ = some (.slice (some ⟨b2, o2, none⟩) N cN) ∧ w'.cell? ⟨w.heap.size + 1, 8, none⟩ = some (.slice (some ⟨b, o, none⟩) n2 c2) ∧ w'.cell? ⟨w.heap.size + 1, 3, none⟩ = some (.int .i64 x.b) ∧ w'.cell? ⟨b, o + k * 2, none⟩ = some (.int .i64 y.a) ∧ w'.cell? ⟨b2, o2 + y.a.toNat, none⟩ = some (.slice A9 n9 c9)) (go_keep) (first | (go_at_call 20; (with_reducible refine (latest_spec HLV.out hn9 ((HV.out.below (below_le hbk0 hBw)).more hBd) (Nat.le_refl _)).mono ?_); rintro e W5 ⟨he, hb'⟩; subst he; have hf := fld2 (.int .i64 z0.a) (.int .i64 z0.b) (.int .i64 z0.c) (.int .i64 z0.d) (.int .i64 z0.e); have L5 := Lib.hid (LD.out.call hb'); have c1 := L5.out.st; obtain ⟨_, ts1, _, t3b, _, _, _, _, t8b⟩ := L5.out.tb; have e0 := (hb'.cell (p := ⟨b, o + k * 2, none⟩) hlbd).trans ((hbk0.cell (p := ⟨b, o + k * 2, none⟩) hlb).trans a0); have d1 := (hb'.cell (p := ⟨b2, o2 + y.a.toNat, none⟩) hlbd2).trans ((hbk0.cell (p := ⟨b2, o2 + y.a.toNat, none⟩) hlb2).trans d0)))
      all_goals
        clear hf c1 t3b e0 d1 c0 d0 t3 t1 t8 t8b a0 hbk0 hb' hlb hlb2 hlbd hlbd2
        by_cases hc : z0.c ≤ x.b
        · have t1 : decide (z0.c ≤ x.b) = true := decide_eq_true hc
          have HE : Hid (ccM x.s z0.c x.b = 0) := Lib.hid (cm_no (by omega))
          clear ts1
          go_wp2_with fail
          go_roundw
          case rel => exact ⟨k + 1, by omega, by go_num, pass_step HP.out HX.out HZ0.out HE.out, L5.out⟩
          case measure => simp [intOf]; omega
        have t1 : decide (z0.c ≤ x.b) = false := decide_eq_false hc
        have hc' : x.b < z0.c := by omega
        by_cases q2 : x.s = 2
        · have t2 : (x.s == 2) = true := by simpa using q2
          have HE : Hid ((2 : Int) = i) := Lib.hid (by rw [cc_hit HG.out HX.out HZ0.out (cm_2v hc' q2) (by omega)]; exact HI.out)
          clear q2
          go_wp2_with fail
          go_ret
          exact ⟨ret_j HE.out, L5.out.bel⟩
        have t2 : (x.s == 2) = false := by simpa using q2
        by_cases q4 : x.s = 4
        · have t4 : (x.s == 4) = true := by simpa using q4
          have HE : Hid ((3 : Int) = i) := Lib.hid (by rw [cc_hit HG.out HX.out HZ0.out (cm_4v hc' q4) (by omega)]; exact HI.out)
          clear q2 q4
          go_wp2_with fail
          go_ret
          exact ⟨ret_j HE.out, L5.out.bel⟩
        have t4 : (x.s == 4) = false := by simpa using q4
        have HE : Hid (ccM x.s z0.c x.b = 0) := Lib.hid (cm_0v q2 q4)
        clear q2 q4
        go_wp2_with fail
        go_roundw
        case rel => exact ⟨k + 1, by omega, by go_num, pass_step HP.out HX.out HZ0.out HE.out, L5.out⟩
        case measure => simp [intOf]; omega
    · obtain rfl : n2 = k := by omega
      clear t1 t3 c0
      go_wp2_with fail
      go_ret
      exact ⟨ret_j (by rw [cc_end HG.out hln2 HP.out]; exact HI.out), LW.out.bel⟩
end Go.Proofs.Ytdfhnngcddaccaa.cms
/- A slice of integers read as a list; the law's comparison and marks of such slices; what may change: blocks of a given set. -/
namespace Go.Proofs.Ytdfhnngcddaccaa.ints
open Go.ChangeShapes Go.WideShapes Go.ChangeAt Go.RowKit
open Go.Proofs.Ytdfhnngcddaccaa.vers Go.Proofs.Ytdfhnngcddaccaa.sl Go.Proofs.Ytdfhnngcddaccaa.ch Go.Proofs.Ytdfhnngcddaccaa.st
set_option linter.unusedVariables false
set_option linter.unusedSimpArgs false
/-- the slice value '.slice A n c' reads as the list of integers xs, in memory below B -/
def Is (w : World) (B : Nat) (A : Option Addr) (n : Nat) (xs : List Int) : Prop :=
  xs.length = n ∧ (0 < n → ∃ b o, A = some ⟨b, o, none⟩ ∧ b < B ∧ ∀ k x, xs[k]? = some x → w.cell? ⟨b, o + k, none⟩ = some (.int .i64 x))
section
variable {w w' : World} {B B' n : Nat} {A : Option Addr} {xs : List Int}
theorem Is.nil_ (w : World) (B : Nat) (A : Option Addr) : Is w B A 0 [] := ⟨rfl, fun h => absurd h (by omega)⟩
theorem Is.below (h : Is w B A n xs) (hk : Below B w w') : Is w' B A n xs := ⟨h.1, fun hn => by
  obtain ⟨b, o, e, hb, hc⟩ := h.2 hn
  exact ⟨b, o, e, hb, fun k x hx => (hk.cell hb).trans (hc k x hx)⟩⟩
theorem Is.more (h : Is w B A n xs) (hB : B ≤ B') : Is w B' A n xs := ⟨h.1, fun hn => by
  obtain ⟨b, o, e, hb, hc⟩ := h.2 hn
  exact ⟨b, o, e, by omega, hc⟩⟩
theorem Is.at_ (h : Is w B A n xs) {k : Nat} (hk : k < n) : ∃ b o x, A = some ⟨b, o, none⟩ ∧ b < B ∧ xs[k]? = some x ∧ w.cell? ⟨b, o + k, none⟩ = some (.int .i64 x) := by
  obtain ⟨b, o, e, hb, hc⟩ := h.2 (by omega)
  have hl : k < xs.length := by have := h.1; omega
  exact ⟨b, o, xs[k], e, hb, List.getElem?_eq_getElem hl, hc k _ (List.getElem?_eq_getElem hl)⟩
end
/-! what may change -/
/-- the blocks outside S are as they were -/
structure Off (S : Nat → Prop) (w w' : World) : Prop where
  os : w'.os = w.os
  tape : w'.tape = w.tape
  output : w'.output = w.output
  size : w'.heap.size = w.heap.size
  block : ∀ k, ¬ S k → w'.heap[k]? = w.heap[k]?
section
variable {S T : Nat → Prop} {a w w' : World}
theorem Off.refl (S : Nat → Prop) (w : World) : Off S w w := ⟨rfl, rfl, rfl, rfl, fun _ _ => rfl⟩
theorem Off.trans (h : Off S a w) (k : Off S w w') : Off S a w' := ⟨k.os.trans h.os, k.tape.trans h.tape, k.output.trans h.output, k.size.trans h.size, fun i hi => (k.block i hi).trans (h.block i hi)⟩
theorem Off.wide (h : Off S w w') (hs : ∀ k, S k → T k) : Off T w w' := ⟨h.os, h.tape, h.output, h.size, fun i hi => h.block i fun hs' => hi (hs i hs')⟩
theorem Off.setCell (h : Off S a w) {p : Addr} (hp : S p.block) (u : Value) : Off S a (w.setCell p u) :=
  ⟨h.os, h.tape, h.output, by simpa [World.setCell] using h.size, fun k hk => (Below.heap_setCell w p u k (fun e => hk (by rw [e]; exact hp))).trans (h.block k hk)⟩
theorem Off.below {B : Nat} (h : Off S w w') (hB : ∀ k, S k → B ≤ k) : Below B w w' := ⟨h.os, h.tape, h.output, by rw [h.size]; exact Nat.le_refl _, fun k hk => h.block k fun hs => by have := hB k hs; omega⟩
theorem Off.cell (h : Off S w w') {p : Addr} (hp : ¬ S p.block) : w'.cell? p = w.cell? p := World.cell?_of_block (w := w) (h.block p.block hp)
theorem Off.frozen (h : Off S w w') {p : Addr} (hp : ¬ S p.block) : w'.frozen? p = w.frozen? p := World.frozen?_of_block (w := w) (h.block p.block hp)
end
/-! marks -/
theorem ival {a b : Int} (h : a = b) : Value.int .i64 a = .int .i64 b := by rw [h]
/-- block g, a row of M integers of the call's own, bears the marks k0, k0 + 1, .. in its first j cells -/
def IR (w : World) (g M : Nat) (k0 : Int) (j : Nat) : Prop := ∃ f, w.rowIs g 3 M f ∧ ∀ i, i < j → f i = .int .i64 (k0 + i)
section
variable {w w' : World} {g M j : Nat} {k0 : Int}
theorem IR.lt (h : IR w g M k0 j) : g < w.heap.size := by obtain ⟨f, hf, _⟩ := h; exact hf.lt
theorem IR.zero (h : IR w g M k0 j) (k1 : Int) : IR w g M k1 0 := by obtain ⟨f, hf, _⟩ := h; exact ⟨f, hf, fun i hi => absurd hi (by omega)⟩
theorem IR.of_block (h : IR w g M k0 j) (hb : w'.heap[g]? = w.heap[g]?) : IR w' g M k0 j := by
  obtain ⟨f, hf, hm⟩ := h
  exact ⟨f, hf.of_block hb, hm⟩
theorem IR.below {B : Nat} (h : IR w g M k0 j) (hb : Below B w w') (hg : g < B) : IR w' g M k0 j := h.of_block (hb.block g hg)
theorem IR.cell (h : IR w g M k0 j) {i : Nat} (hi : i < j) (hM : j ≤ M) : w.cell? ⟨g, i, none⟩ = some (.int .i64 (k0 + i)) := by
  obtain ⟨f, hf, hm⟩ := h
  rw [hf.cell (by omega), hm i hi]
theorem IR.any (h : IR w g M k0 j) {i : Nat} (hi : i < M) : ∃ u, w.cell? ⟨g, i, none⟩ = some u := by
  obtain ⟨f, hf, hm⟩ := h
  exact ⟨_, hf.cell hi⟩
theorem IR.frozen (h : IR w g M k0 j) (i : Nat) : w.frozen? ⟨g, i, none⟩ = false := by
  obtain ⟨f, hf, hm⟩ := h
  exact hf.frozen i
theorem IR.step (h : IR w g M k0 j) {x : Int} (hx : x = k0 + j) : IR (w.setCell ⟨g, j, none⟩ (.int .i64 x)) g M k0 (j + 1) := by
  obtain ⟨f, hf, hm⟩ := h
  refine ⟨_, hf.set j _, fun i hi => ?_⟩
  by_cases e : i = j
  · rw [if_pos e]; exact ival (by omega)
  · rw [if_neg e]; exact hm i (by omega)
end
end Go.Proofs.Ytdfhnngcddaccaa.ints
/- A slice of integers in blocks lo <= g < hi: owned (OwI), marked (MkI), appended to; what a frame keeps of it. -/
namespace Go.Proofs.Ytdfhnngcddaccaa.owi
open Go.ChangeShapes Go.WideShapes Go.ChangeAt Go.RowKit
open Go.Proofs.Ytdfhnngcddaccaa.ints Go.Proofs.Ytdfhnngcddaccaa.fr
set_option linter.unusedVariables false
set_option linter.unusedSimpArgs false
abbrev mi (xs : List Int) : List Value := xs.map (Value.int .i64)
def OwI (w : World) (lo hi : Nat) (A : Option Addr) (n : Nat) (xs : List Int) : Prop :=
  xs.length = n ∧ (0 < n → ∃ g M f, A = some ⟨g, 0, none⟩ ∧ lo ≤ g ∧ g < hi ∧ w.rowIs g 3 M f ∧ n ≤ M ∧ ∀ k x, xs[k]? = some x → f k = .int .i64 x)
def MkI (w : World) (lo hi : Nat) (A : Option Addr) (n : Nat) (k0 : Int) : Prop :=
  0 < n → ∃ g M, A = some ⟨g, 0, none⟩ ∧ lo ≤ g ∧ g < hi ∧ n ≤ M ∧ IR w g M k0 n
section
variable {w w' : World} {lo hi lo' hi' B a b n : Nat} {A : Option Addr} {xs : List Int} {k0 : Int}
theorem lt_i {k : Nat} {x : Int} (h : xs[k]? = some x) : k < xs.length := by
  rcases Nat.lt_or_ge k xs.length with h' | h'
  · exact h'
  · rw [List.getElem?_eq_none h'] at h; cases h
theorem OwI.is (h : OwI w lo hi A n xs) (hB : hi ≤ B) : Is w B A n xs := ⟨h.1, fun hn => by
  obtain ⟨g, M, f, e, h1, h2, hr, hM, hf⟩ := h.2 hn
  refine ⟨g, 0, e, by omega, fun k x hx => ?_⟩
  have hk := lt_i hx
  have hl := h.1
  rw [Nat.zero_add]
  exact (hr.cell (by omega)).trans (by rw [hf k x hx])⟩
theorem OwI.vs (h : OwI w lo hi A n xs) (hB : hi ≤ B) : Is w B A n xs := h.is hB
theorem OwI.fr (h : OwI w lo hi A n xs) (hf : FR a b w w') (hd : hi ≤ a ∨ b ≤ lo) (hs : hi ≤ w.heap.size) : OwI w' lo hi A n xs := ⟨h.1, fun hn => by
  obtain ⟨g, M, f, e, h1, h2, hr, hM⟩ := h.2 hn
  exact ⟨g, M, f, e, h1, h2, hr.of_block (hf.block _ (by omega) (by omega)), hM⟩⟩
theorem MkI.fr (h : MkI w lo hi A n k0) (hf : FR a b w w') (hd : hi ≤ a ∨ b ≤ lo) (hs : hi ≤ w.heap.size) : MkI w' lo hi A n k0 := fun hn => by
  obtain ⟨g, M, e, h1, h2, hM, hk⟩ := h hn
  exact ⟨g, M, e, h1, h2, hM, hk.of_block (hf.block _ (by omega) (by omega))⟩
/-- a row that append has made -/
theorem OwI.of_own {base c : Nat} (h : w.ownsRow base 3 1 (.slice A n c) n (mi xs)) (hl : xs.length = n) (h1 : lo ≤ base) (h2 : w.heap.size ≤ hi) : OwI w lo hi A n xs := ⟨hl, fun hn => by
  rcases h.2 with ⟨_, e⟩ | ⟨g, cap, cur, e, hb, hh, hnc, hcm, hsz, hx⟩
  · omega
  · injection e with e0 e1 e2
    subst e0
    have hg : g < w.heap.size := by
      rcases Nat.lt_or_ge g w.heap.size with hlt | hge
      · exact hlt
      · rw [Array.getElem?_eq_none hge] at hh; cases hh
    refine ⟨g, cur.size, fun i => cur[i]?.getD undef, rfl, by omega, by omega, ⟨cur, hh, rfl, fun i hi => ?_⟩, by omega, fun k x hx2 => ?_⟩
    · show cur[i]? = some (cur[i]?.getD undef)
      rw [Array.getElem?_eq_getElem hi]; rfl
    · have hk := lt_i hx2
      have fa : (mi xs)[k]? = some (.int .i64 x) := by simp [mi, hx2]
      rw [← hx, List.getElem?_take, if_pos (by omega), Array.getElem?_toList] at fa
      show cur[k]?.getD undef = _
      rw [fa]; rfl⟩
end
theorem info_i : (Try.prog.info? 3).map (fun i => (i.zero, i.size, i.bytes)) = some (some (.int .i64 0), 1, 8) := by kernel_rfl
theorem run_append_i {P : Program} (w : World) {base : Nat} (t ty e : TypeId) (i : TypeInfo) (z : Value) (ht : P.underlying t = some (.slice e)) (hi : P.info? e = some i) (hz : i.zero = some z) (hsize : i.size = 1) (hby : i.bytes = 8) (hzs : z.cells.size = 1) {v : Value} {k : Nat} {xs : List Int} (hown : w.ownsRow base e 1 v k (mi xs)) {b c : Nat} {x : Int} (hx : w.cell? ⟨b, 0, none⟩ = some (.int .i64 x)) (hk : k + 1 ≤ 4194304) (hbase : base ≤ w.heap.size) :
    ∃ v' w', (Builtin.append_ #[t, t] ty #[v, .slice (some ⟨b, 0, none⟩) 1 c]).run P w = .ok v' w' ∧ w'.ownsRow base e 1 v' (k + 1) (mi (xs ++ [x])) ∧ w.grownBy w' v.ownBlock := by
  obtain ⟨v', w', hr, ho, hg, _⟩ := run_append_own (P := P) w base t ty e i z 1 8 ht hi hz hsize hby hzs (by decide) v k (mi xs) hown ⟨b, 0, none⟩ 1 c [.int .i64 x] rfl (by
    intro j y hj
    match j, hj with
    | 0, hj => injection hj with hj; subst hj; rw [Addr.add_lit]; exact hx) (by
    intro y hy
    rw [List.mem_singleton] at hy
    subst hy; rfl) (by unfold maxLen; omega) (by omega) hbase
  exact ⟨v', w', hr, by rw [mi, List.map_append]; exact ho, hg⟩
/-- where a slice of integers that append has made stands -/
theorem own_form {w : World} {base n : Nat} {v : Value} {xs : List Value} (h : w.ownsRow base 3 1 v n xs) : ∃ A c, v = .slice A n c := by
  rcases h.2 with ⟨e1, h0⟩ | ⟨g, cap, cur, e1, _⟩
  · subst h0; exact ⟨none, 0, e1⟩
  · exact ⟨_, _, e1⟩
end Go.Proofs.Ytdfhnngcddaccaa.owi
/- WriteKeys of the program and of the model: what each answers, in memory of its own. -/
namespace Go.Proofs.Ytdfhnngcddaccaa.wk
open Go.ChangeShapes Go.WideShapes Go.ChangeAt Go.RowKit
open Go.Proofs.Ytdfhnngcddaccaa.el2 Go.Proofs.Ytdfhnngcddaccaa.tx Go.Proofs.Ytdfhnngcddaccaa.seq Go.Proofs.Ytdfhnngcddaccaa.tv Go.Proofs.Ytdfhnngcddaccaa.tf Go.Proofs.Ytdfhnngcddaccaa.bx Go.Proofs.Ytdfhnngcddaccaa.owi
set_option linter.unusedVariables false
set_option linter.unusedSimpArgs false
noncomputable def wkL (x : Hd) (R S : List E2) : List Int := if txB x R S = true then S.map (·.a) else []
theorem wkL_len (x : Hd) (R S : List E2) : (wkL x R S).length ≤ S.length := by unfold wkL; split <;> simp
theorem wk_yes {x : Hd} {R S : List E2} (h : txB x R S = true) : wkL x R S = S.map (·.a) := by simp [wkL, h]
theorem wk_no {x : Hd} {R S : List E2} (h : txB x R S = false) : wkL x R S = [] := by simp [wkL, h]
theorem ks_step {S : List E2} {k : Nat} {y : E2} (hx : S[k]? = some y) : (S.take k).map (·.a) ++ [y.a] = (S.take (k + 1)).map (·.a) := by
  rw [List.take_add_one, hx]; simp
theorem ks_len {S : List E2} {k : Nat} (h : k ≤ S.length) : ((S.take k).map (·.a)).length = k := by simp [List.length_take]; omega
theorem ks_end {x : Hd} {R S : List E2} {n : Nat} (hn : S.length = n) (hk : 0 < n → txB x R S = true) : (S.take n).map (·.a) = wkL x R S := by
  rcases Nat.eq_zero_or_pos n with h0 | h0
  · subst h0
    obtain rfl : S = [] := List.eq_nil_of_length_eq_zero hn
    simp [wkL]
  · rw [wk_yes (hk h0), List.take_of_length_le (by omega)]
theorem ks_no {x : Hd} {R S : List E2} {k : Nat} (h : txB x R S = false) (hk : 0 < k → txB x R S = true) : (S.take k).map (·.a) = wkL x R S := by
  rcases Nat.eq_zero_or_pos k with h0 | h0
  · subst h0; rw [wk_no h]; simp
  · rw [hk h0] at h; cases h
theorem own_made0 (W : World) (base : Nat) (hb : base ≤ W.heap.size) : (W.alloc (.cells #[] 3)).ownsRow base 3 1 (.slice (some ⟨W.heap.size, 0, none⟩) 0 0) 0 (mi []) :=
  ⟨rfl, .inr ⟨W.heap.size, 0, #[], rfl, hb, heap_alloc_new W _, Nat.le_refl _, by unfold maxLen; omega, rfl, rfl⟩⟩
/-- what the walk goes on with -/
def WL (w : World) (x : Hd) (u v : Value) (W : World) : Prop := Below w.heap.size w W ∧ w.heap.size < W.heap.size ∧ TB W w.heap.size x u v
theorem WL.call {w W W' : World} {x : Hd} {u v : Value} (h : WL w x u v W) (hb : Below W.heap.size W W') : WL w x u v W' := ⟨h.1.trans (hb.mono h.1.size), Nat.lt_of_lt_of_le h.2.1 hb.size, h.2.2.keep h.2.1 hb⟩
theorem WL.grown {w W W' : World} {x : Hd} {u v : Value} (h : WL w x u v W) (hb : Below (w.heap.size + 1) W W') : WL w x u v W' := ⟨h.1.trans (hb.mono (by omega)), Nat.lt_of_lt_of_le h.2.1 hb.size, h.2.2.keep (Nat.lt_succ_self _) hb⟩
theorem grown_i {w w' : World} {base n : Nat} {v : Value} {xs : List Value} (ho : w.ownsRow base 3 1 v n xs) (hg : w.grownBy w' v.ownBlock) (hb : base ≤ w.heap.size) : Below base w w' :=
  (Below.refl _ _).grown hg hb fun q hq => (ho.lt q hq).1
end Go.Proofs.Ytdfhnngcddaccaa.wk
namespace Go.Proofs.Ytdfhnngcddaccaa.lkr
open Go.ChangeShapes Go.WideShapes Go.ChangeAt Go.RowKit
open Go.Proofs.Ytdfhnngcddaccaa.el2 Go.Proofs.Ytdfhnngcddaccaa.seq Go.Proofs.Ytdfhnngcddaccaa.lk Go.Proofs.Ytdfhnngcddaccaa.owi
open Go.Proofs.Ytdfhnngcddaccaa.tf (drop_cons)
open Go.Proofs.Ytdfhnngcddaccaa.wk (own_made0 grown_i)
set_option linter.unusedVariables false
set_option linter.unusedSimpArgs false
theorem ret_i {a b : Int} (h : a = b) : Ending.returned (.int .i64 a) = .returned (.int .i64 b) := by rw [h]
theorem own_hit {l : List E2} {key : Int} {k : Nat} {x : E2} (h : ownI key l = ownI key (l.drop k)) (hx : l[k]? = some x) (hc : x.a = key) : x.b = ownI key l := by
  rw [h, drop_cons hx]
  simp [ownI, hc]
theorem own_step {l : List E2} {key : Int} {k : Nat} {x : E2} (h : ownI key l = ownI key (l.drop k)) (hx : l[k]? = some x) (hc : x.a ≠ key) : ownI key l = ownI key (l.drop (k + 1)) := by
  rw [h, drop_cons hx]
  simp [ownI, hc]
theorem own_end {l : List E2} {key : Int} {k : Nat} (h : ownI key l = ownI key (l.drop k)) (hk : l.length ≤ k) : (0 : Int) = ownI key l := by
  rw [h, List.drop_eq_nil_of_le hk]
  rfl
set_option maxRecDepth 100000 in
set_option maxHeartbeats 1600000 in
theorem spec_owner {w : World} {B n c : Nat} {A : Option Addr} {l : List E2} (key : Int) (hn : n ≤ 140737488355328) (h1 : Vs w B A n l) (hB : B ≤ w.heap.size) :
    Calls Try.prog 46 #[.slice A n c, .int .i64 key] w fun e w' => e = .returned (.int .i64 (ownI key l)) ∧ w = w' := by
  have H1 := Lib.hid h1
  have hln := h1.1
  clear h1
  go_enter Try.func46, Try.ntmps46
  go_wp2
  go_loop [5] (fun i => ∃ k : Nat, k ≤ n ∧ i = .int .i64 k ∧ ownI key l = ownI key (l.drop k)) (fun i => n - (intOf i).toNat)
  case atStart => exact ⟨0, by omega, rfl, rfl⟩
  case round =>
    obtain ⟨k, hk, rfl, hP⟩ := hrel
    have HP := Lib.hid hP
    clear hP
    by_cases hlt : k < n
    · obtain ⟨b, o, y, rfl, hbB, hx, a0, a1⟩ := H1.out.at_ hlt
      have HX := Lib.hid hx
      clear hx
      by_cases hc : y.a = key
      · have t : (y.a == key) = true := by simpa using hc
        have HC := Lib.hid hc
        clear hc
        go_wp2_with fail
        go_ret
        exact ⟨ret_i (own_hit HP.out HX.out HC.out), rfl⟩
      · have t : (y.a == key) = false := by simpa using hc
        have HC := Lib.hid hc
        clear hc
        go_wp2_with fail
        go_round
        case rel => exact ⟨k + 1, by omega, by go_num, own_step HP.out HX.out HC.out⟩
        case measure => simp [intOf]; omega
    · go_wp2_with fail
      go_ret
      exact ⟨ret_i (own_end HP.out (by omega)), rfl⟩
set_option maxRecDepth 100000 in
set_option maxHeartbeats 1600000 in
theorem impl_owner {w : World} {B n c : Nat} {A : Option Addr} {l : List E2} (key : Int) (hn : n ≤ 140737488355328) (h1 : Vs w B A n l) (hB : B ≤ w.heap.size) :
    Calls Try.prog 44 #[.slice A n c, .int .i64 key] w fun e w' => e = .returned (.int .i64 (ownI key l)) ∧ Below w.heap.size w w' := by
  have H1 := Lib.hid h1
  have hln := h1.1
  clear h1
  go_enter Try.func44, Try.ntmps44
  go_wp2
  go_loopw [9] (fun i wr => ∃ k : Nat, k ≤ n ∧ i = .int .i64 k ∧ ownI key l = ownI key (l.drop k) ∧ Below w.heap.size w wr) (fun i _ => n - (intOf i).toNat)
  case atStart => exact ⟨0, by omega, rfl, rfl, Below.refl _ _⟩
  case round =>
    obtain ⟨k, hk, rfl, hP, hb⟩ := hrel
    have HP := Lib.hid hP
    clear hP
    have HB := Lib.hid hb
    by_cases hlt : k < n
    · obtain ⟨b, o, y, rfl, hbB, hx, a0, a1⟩ := (H1.out.below (below_le hb hB)).at_ hlt
      have HX := Lib.hid hx
      clear hb hx
      by_cases hc : y.a = key
      · have t : (y.a == key) = true := by simpa using hc
        have HC := Lib.hid hc
        clear hc
        go_wp2_with fail
        go_ret
        exact ⟨ret_i (own_hit HP.out HX.out HC.out), HB.out.alloc HB.out.size _⟩
      · have t : (y.a == key) = false := by simpa using hc
        have HC := Lib.hid hc
        clear hc
        go_wp2_with fail
        go_roundw
        case rel => exact ⟨k + 1, by omega, by go_num, own_step HP.out HX.out HC.out, HB.out.alloc HB.out.size _⟩
        case measure => simp [intOf]; omega
    · go_wp2_with fail
      go_ret
      exact ⟨ret_i (own_end HP.out (by omega)), HB.out⟩
theorem spec_owner_b {w : World} {B n c : Nat} {A : Option Addr} {l : List E2} (key : Int) (hn : n ≤ 140737488355328) (h1 : Vs w B A n l) (hB : B ≤ w.heap.size) :
    Calls Try.prog 46 #[.slice A n c, .int .i64 key] w fun e w' => e = .returned (.int .i64 (ownI key l)) ∧ Below w.heap.size w w' :=
  (spec_owner key hn h1 hB).mono fun e w' ⟨he, hw⟩ => ⟨he, by rw [← hw]; exact Below.refl _ _⟩
/-! the keys of an owner -/
theorem of_step {l : List E2} {o : Int} {k : Nat} {y : E2} (hx : l[k]? = some y) (h : y.b = o) : ofL o (l.take k) ++ [y.a] = ofL o (l.take (k + 1)) := by
  rw [List.take_add_one, hx]
  simp [ofL, List.filter_append, h]
theorem of_skip {l : List E2} {o : Int} {k : Nat} {y : E2} (hx : l[k]? = some y) (h : y.b ≠ o) : ofL o (l.take k) = ofL o (l.take (k + 1)) := by
  rw [List.take_add_one, hx]
  simp [ofL, List.filter_append, h]
theorem of_all {l : List E2} {o : Int} {n : Nat} (h : l.length = n) : ofL o (l.take n) = ofL o l := by rw [List.take_of_length_le (by omega)]
theorem of_small (o : Int) (l : List E2) (k : Nat) : (ofL o (l.take k)).length ≤ k := Nat.le_trans (of_len o _) (by rw [List.length_take]; omega)
end Go.Proofs.Ytdfhnngcddaccaa.lkr
