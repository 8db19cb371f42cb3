/- The model's CommitTransaction. -/
import Derived.Test.YthbbpfgjbidbhaaGreatDoorCmi
import Derived.Test.YthbbpfgjbidbhaaGreatDoorLi
import Derived.Test.YthbbpfgjbidbhaaGreatDoorXgb
import Derived.BigRegion
namespace Go.Proofs.YthbbpfgjbidbhaaGreatDoor.mc
open Go.ChangeShapes Go.WideShapes Go.ChangeAt Go.RowKit
open Go.Proofs.YthbbpfgjbidbhaaGreatDoor.sl Go.Proofs.YthbbpfgjbidbhaaGreatDoor.st Go.Proofs.YthbbpfgjbidbhaaGreatDoor.flat Go.Proofs.YthbbpfgjbidbhaaGreatDoor.os Go.Proofs.YthbbpfgjbidbhaaGreatDoor.oq Go.Proofs.YthbbpfgjbidbhaaGreatDoor.av Go.Proofs.YthbbpfgjbidbhaaGreatDoor.oc Go.Proofs.YthbbpfgjbidbhaaGreatDoor.cs Go.Proofs.YthbbpfgjbidbhaaGreatDoor.apl Go.Proofs.YthbbpfgjbidbhaaGreatDoor.rg Go.Proofs.YthbbpfgjbidbhaaGreatDoor.li
open Go.Proofs.YthbbpfgjbidbhaaGreatDoor.el2 (new1 E2)
open Go.Proofs.YthbbpfgjbidbhaaGreatDoor.tx (Hd TB)
open Go.Proofs.YthbbpfgjbidbhaaGreatDoor.bx (Bx OwnT CopO txv)
open Go.Proofs.YthbbpfgjbidbhaaGreatDoor.rx (LS)
open Go.Proofs.YthbbpfgjbidbhaaGreatDoor.cmi (CmR)
open Go.Proofs.YthbbpfgjbidbhaaGreatDoor.em (fwB fwL fwH mayB unB fw_parts)
open Go.Proofs.YthbbpfgjbidbhaaGreatDoor.ct (cmB cmC cmX fitB insC)
set_option linter.unusedVariables false
set_option linter.unusedSimpArgs false
set_option linter.constructorNameAsVariable false
set_option maxRecDepth 100000 in
set_option maxHeartbeats 12800000 in
theorem spec_commit {w : World} {B N cN n c n2 c2 : Nat} {D A A2 : Option Addr} {R S : List E2} {C : List (List Ver)} (x : Hd) (z : Int) (hN : N ≤ 1048576) (hC : ∀ l ∈ C, l.length ≤ 1048576) (hn : n ≤ 1048576) (hn2 : n2 ≤ 1048576) (h1 : el2.Vs w B A n R) (h2 : el2.Vs w B A2 n2 S) (h3 : Rs w B D N C) (hB : B ≤ w.heap.size) :
    Calls Tryz.prog 6 #[.agg #[.slice D N cN], .agg #[.int .i64 x.i, .int .i64 x.s, .int .i64 x.t, .int .i64 x.b, .int .i64 x.l, .int .i64 x.h, .int .i64 x.c, .slice A n c, .slice A2 n2 c2], .int .i64 z] w (CmR w N n n2 R S (cmC C x R S z) (cmX C x R S z) (cmB C x R S z)) := by
  have H1 := Lib.hid h1
  have H2 := Lib.hid h2
  have H3 := Lib.hid h3
  have HCs := Lib.hid (fun (V : World) (hb : Below w.heap.size w V) => Go.Proofs.YthbbpfgjbidbhaaGreatDoor.ls.spec_copys (w := V) (cN := cN) (show N ≤ 2097152 by omega) (fun l hl => Nat.le_trans (hC l hl) (by omega)) (h3.below (Go.Proofs.YthbbpfgjbidbhaaGreatDoor.el2.below_le hb hB)) (Nat.le_trans hB hb.size))
  have HCt := Lib.hid (fun (V : World) (hb : Below w.heap.size w V) => Go.Proofs.YthbbpfgjbidbhaaGreatDoor.lc.copy_m (w := V) (c := c) (c2 := c2) x (show n ≤ 2097152 by omega) (show n2 ≤ 2097152 by omega) (h1.below (Go.Proofs.YthbbpfgjbidbhaaGreatDoor.el2.below_le hb hB)) (h2.below (Go.Proofs.YthbbpfgjbidbhaaGreatDoor.el2.below_le hb hB)) (Nat.le_trans hB hb.size))
  have HLR := Lib.hid h1.1
  have HLS := Lib.hid h2.1
  clear h1 h2 h3 hC
  go_enter Tryz.func6, Tryz.ntmps6
  go_wp2_with fail
  have hL := LS.mk2 w (.slice D N cN) 33 37 x A n c A2 n2 c2
  have hs0 : ((w.alloc (.cells #[.slice D N cN] 33)).alloc (.cells #[.int .i64 x.i, .int .i64 x.s, .int .i64 x.t, .int .i64 x.b, .int .i64 x.l, .int .i64 x.h, .int .i64 x.c, .slice A n c, .slice A2 n2 c2] 37)).heap.size = w.heap.size + 2 := by simp
  generalize ((w.alloc _).alloc _) = W0 at hL hs0 ⊢
  have hz0 : SBx w ((W0.alloc (.cells #[.slice none 0 0] 33)).alloc (.cells #[.int .i64 0, .int .i64 0, .int .i64 0, .int .i64 0, .int .i64 0, .int .i64 0, .int .i64 0, .slice none 0 0, .slice none 0 0] 37)) (w.heap.size + 1 + 1) (.slice none 0 0) := (SBx.zero hL.bel (by omega)).alloc _
  have hz1 : TBx w ((W0.alloc (.cells #[.slice none 0 0] 33)).alloc (.cells #[.int .i64 0, .int .i64 0, .int .i64 0, .int .i64 0, .int .i64 0, .int .i64 0, .int .i64 0, .slice none 0 0, .slice none 0 0] 37)) (w.heap.size + 1 + 1 + 1) ⟨0, 0, 0, 0, 0, 0, 0⟩ (.slice none 0 0) (.slice none 0 0) := TBx.zero (bel_alloc hL.bel _) (by simp; omega)
  have hL1 := (hL.call (new1 W0 (.cells #[.slice none 0 0] 33))).call (new1 (W0.alloc (.cells #[.slice none 0 0] 33)) (.cells #[.int .i64 0, .int .i64 0, .int .i64 0, .int .i64 0, .int .i64 0, .int .i64 0, .int .i64 0, .slice none 0 0, .slice none 0 0] 37))
  have hs1 : w.heap.size + 4 ≤ ((W0.alloc (.cells #[.slice none 0 0] 33)).alloc (.cells #[.int .i64 0, .int .i64 0, .int .i64 0, .int .i64 0, .int .i64 0, .int .i64 0, .int .i64 0, .slice none 0 0, .slice none 0 0] 37)).heap.size := by simp; omega
  generalize ((W0.alloc _).alloc _) = W1 at hz0 hz1 hL1 hs1 ⊢
  have Z0 := Lib.hid hz0
  have Z1 := Lib.hid hz1
  have L1 := Lib.hid hL1
  clear hL hz0 hz1 hs0 hL1
  have s0 := L1.out.st
  obtain ⟨t0, t1, t2, t3, t4, t5, t6, t7, t8⟩ := L1.out.tb
  go_wp2_with fail
  refine (Go.Proofs.YthbbpfgjbidbhaaGreatDoor.fw.spec_fw x z hn hn2 hN (H1.out.below (Go.Proofs.YthbbpfgjbidbhaaGreatDoor.el2.below_le L1.out.bel hB)) (H2.out.below (Go.Proofs.YthbbpfgjbidbhaaGreatDoor.el2.below_le L1.out.bel hB)) (H3.out.below (Go.Proofs.YthbbpfgjbidbhaaGreatDoor.el2.below_le L1.out.bel hB)) (Nat.le_trans hB L1.out.bel.size)).mono ?_
  rintro e W2 ⟨rfl, hb2⟩
  clear s0 t0 t1 t2 t3 t4 t5 t6 t7 t8
  have hw2 := hb2.size
  have L2 := Lib.hid (L1.out.call hb2)
  have Z02 := Lib.hid (Z0.out.call hb2)
  have Z12 := Lib.hid (Z1.out.call hb2)
  clear hb2 L1 Z0 Z1
  rcases hq : fwB C x R S z with _ | _
  · have HF : Hid (cmB C x R S z = false) := Lib.hid (by simp [cmB, mayB, hq])
    clear hq
    go_wp2_with fail
    have L9 := L2
    have Z09 := Z02
    have Z19 := Z12
    have hsz9 : w.heap.size + 4 ≤ W2.heap.size := by omega
    generalize W2 = Wn at L9 Z09 Z19 hsz9 ⊢
    have s0 := L9.out.st
    obtain ⟨t0, t1, t2, t3, t4, t5, t6, t7, t8⟩ := L9.out.tb
    go_wp2_with fail
    go_region_law (first | (go_simp; go_at_call 21; refine (HCs.out Wn.drew (L9.out.drewN 1).bel).mono ?_; rintro e V1 ⟨A8, c8, rfl, ho1, hb1⟩; have hk1 : Below Wn.heap.size Wn V1 := (Below.refl Wn.heap.size Wn).drew.trans hb1; have L5 := L9.out.call hk1; have s0 := L5.st; obtain ⟨t0, t1, t2, t3, t4, t5, t6, t7, t8⟩ := L5.tb; have hq1 := OQ.of_os ho1) | (go_simp; go_at_call 22; refine (HCt.out Wn.drew (L9.out.drewN 1).bel).mono ?_; rintro e V1 ⟨u9, v9, rfl, ho1, hb1⟩; have hk1 : Below Wn.heap.size Wn V1 := (Below.refl Wn.heap.size Wn).drew.trans hb1; have L5 := L9.out.call hk1; have s0 := L5.st; obtain ⟨t0, t1, t2, t3, t4, t5, t6, t7, t8⟩ := L5.tb; have hq1 := OT.of ho1; obtain ⟨A9, c9, B9, d9, rfl, rfl, _, _⟩ := hq1.form HLR.out HLS.out) | (go_simp; go_at_call 21; refine (HCs.out V1 L5.bel).mono ?_; rintro e V2 ⟨A8, c8, rfl, ho2, hb2⟩; have hk2 : Below Wn.heap.size Wn V2 := hk1.trans (hb2.mono hk1.size); have hqS := OQ.of_os ho2; have hqT := hq1.keepC hb2; have Z06 := Z09.out.call hk2; have Z16 := Z19.out.call hk2; have r0 := Z06.cell; have r1 := Z06.free; obtain ⟨z0, z1, z2, z3, z4, z5, z6, z7, z8⟩ := Z16.bx.tb; have y0 := Z16.bx.fz 0; have y1 := Z16.bx.fz 1; have y2 := Z16.bx.fz 2; have y3 := Z16.bx.fz 3; have y4 := Z16.bx.fz 4; have y5 := Z16.bx.fz 5; have y6 := Z16.bx.fz 6; have y7 := Z16.bx.fz 7; have y8 := Z16.bx.fz 8) | (go_simp; go_at_call 22; refine (HCt.out V1 L5.bel).mono ?_; rintro e V2 ⟨u9, v9, rfl, ho2, hb2⟩; have hk2 : Below Wn.heap.size Wn V2 := hk1.trans (hb2.mono hk1.size); have hqT := OT.of ho2; obtain ⟨A9, c9, B9, d9, rfl, rfl, _, _⟩ := hqT.form HLR.out HLS.out; have hqS := oqC hq1 hb2; have Z06 := Z09.out.call hk2; have Z16 := Z19.out.call hk2; have r0 := Z06.cell; have r1 := Z06.free; obtain ⟨z0, z1, z2, z3, z4, z5, z6, z7, z8⟩ := Z16.bx.tb; have y0 := Z16.bx.fz 0; have y1 := Z16.bx.fz 1; have y2 := Z16.bx.fz 2; have y3 := Z16.bx.fz 3; have y4 := Z16.bx.fz 4; have y5 := Z16.bx.fz 5; have y6 := Z16.bx.fz 6; have y7 := Z16.bx.fz 7; have y8 := Z16.bx.fz 8))
    all_goals
      have F0 := fin1 (s := .slice A8 N c8) (x := x) (u := .slice A9 n c9) (v := .slice B9 n2 d9) Z06 Z16 (by omega)
      have HB6 := L9.out.bel.trans (hk2.mono L9.out.bel.size)
      clear r0 r1 z0 z1 z2 z3 z4 z5 z6 z7 z8 y0 y1 y2 y3 y4 y5 y6 y7 y8 s0 t0 t1 t2 t3 t4 t5 t6 t7 t8
      have hz1 := hb1.size
      have hz2 := hb2.size
      (try simp only [World.size_drew] at hz1 hz2 hqS hqT hq1)
      generalize ((((((((((V2.setCell _ _).setCell _ _).setCell _ _).setCell _ _).setCell _ _).setCell _ _).setCell _ _).setCell _ _).setCell _ _).setCell _ _) = Wf at F0 ⊢
      have F := Lib.hid F0
      clear F0
      go_wp2_with fail
      have es := F.out.st
      obtain ⟨e0, e1, e2, e3, e4, e5, e6, e7, e8⟩ := F.out.tb
      obtain ⟨hO, hT, hB9⟩ := fin_end hqS (fun q h => by omega) hqT (by omega) (by omega) HB6 F.out
      refine bodyPost_ret (v := .tuple #[.agg #[.slice A8 N c8], .agg #[.int .i64 x.i, .int .i64 x.s, .int .i64 x.t, .int .i64 x.b, .int .i64 x.l, .int .i64 x.h, .int .i64 x.c, .slice A9 n c9, .slice B9 n2 d9], .bool false]) (by simp [results, Tryz.results6, go_sem, es, e0, e1, e2, e3, e4, e5, e6, e7, e8]) rfl ?_
      rw [show cmC C x R S z = C from if_neg (by rw [HF.out]; exact Bool.false_ne_true), show cmX C x R S z = x from if_neg (by rw [HF.out]; exact Bool.false_ne_true), HF.out]
      exact ⟨_, _, _, _, _, _, rfl, hO, hT, hB9⟩
  · have HFB := Lib.hid hq
    obtain ⟨L, hLL⟩ : ∃ L, fwL C x R S z = L := ⟨_, rfl⟩
    obtain ⟨H, hHH⟩ : ∃ H, fwH C x R S z = H := ⟨_, rfl⟩
    rw [hLL, hHH]
    have HL := Lib.hid hLL
    have HH := Lib.hid hHH
    clear hLL hHH
    by_cases hlh : H ≤ L
    · have hd : decide (H ≤ L) = true := decide_eq_true hlh
      have HF : Hid (cmB C x R S z = false) := Lib.hid (by simp [cmB, mayB, hq, HL.out, HH.out]; intro h; omega)
      clear hq
      go_wp2_with fail
      have L9 := L2
      have Z09 := Z02
      have Z19 := Z12
      have hsz9 : w.heap.size + 4 ≤ W2.heap.size := by omega
      generalize W2 = Wn at L9 Z09 Z19 hsz9 ⊢
      have s0 := L9.out.st
      obtain ⟨t0, t1, t2, t3, t4, t5, t6, t7, t8⟩ := L9.out.tb
      go_wp2_with fail
      go_region_law (first | (go_simp; go_at_call 21; refine (HCs.out Wn.drew (L9.out.drewN 1).bel).mono ?_; rintro e V1 ⟨A8, c8, rfl, ho1, hb1⟩; have hk1 : Below Wn.heap.size Wn V1 := (Below.refl Wn.heap.size Wn).drew.trans hb1; have L5 := L9.out.call hk1; have s0 := L5.st; obtain ⟨t0, t1, t2, t3, t4, t5, t6, t7, t8⟩ := L5.tb; have hq1 := OQ.of_os ho1) | (go_simp; go_at_call 22; refine (HCt.out Wn.drew (L9.out.drewN 1).bel).mono ?_; rintro e V1 ⟨u9, v9, rfl, ho1, hb1⟩; have hk1 : Below Wn.heap.size Wn V1 := (Below.refl Wn.heap.size Wn).drew.trans hb1; have L5 := L9.out.call hk1; have s0 := L5.st; obtain ⟨t0, t1, t2, t3, t4, t5, t6, t7, t8⟩ := L5.tb; have hq1 := OT.of ho1; obtain ⟨A9, c9, B9, d9, rfl, rfl, _, _⟩ := hq1.form HLR.out HLS.out) | (go_simp; go_at_call 21; refine (HCs.out V1 L5.bel).mono ?_; rintro e V2 ⟨A8, c8, rfl, ho2, hb2⟩; have hk2 : Below Wn.heap.size Wn V2 := hk1.trans (hb2.mono hk1.size); have hqS := OQ.of_os ho2; have hqT := hq1.keepC hb2; have Z06 := Z09.out.call hk2; have Z16 := Z19.out.call hk2; have r0 := Z06.cell; have r1 := Z06.free; obtain ⟨z0, z1, z2, z3, z4, z5, z6, z7, z8⟩ := Z16.bx.tb; have y0 := Z16.bx.fz 0; have y1 := Z16.bx.fz 1; have y2 := Z16.bx.fz 2; have y3 := Z16.bx.fz 3; have y4 := Z16.bx.fz 4; have y5 := Z16.bx.fz 5; have y6 := Z16.bx.fz 6; have y7 := Z16.bx.fz 7; have y8 := Z16.bx.fz 8) | (go_simp; go_at_call 22; refine (HCt.out V1 L5.bel).mono ?_; rintro e V2 ⟨u9, v9, rfl, ho2, hb2⟩; have hk2 : Below Wn.heap.size Wn V2 := hk1.trans (hb2.mono hk1.size); have hqT := OT.of ho2; obtain ⟨A9, c9, B9, d9, rfl, rfl, _, _⟩ := hqT.form HLR.out HLS.out; have hqS := oqC hq1 hb2; have Z06 := Z09.out.call hk2; have Z16 := Z19.out.call hk2; have r0 := Z06.cell; have r1 := Z06.free; obtain ⟨z0, z1, z2, z3, z4, z5, z6, z7, z8⟩ := Z16.bx.tb; have y0 := Z16.bx.fz 0; have y1 := Z16.bx.fz 1; have y2 := Z16.bx.fz 2; have y3 := Z16.bx.fz 3; have y4 := Z16.bx.fz 4; have y5 := Z16.bx.fz 5; have y6 := Z16.bx.fz 6; have y7 := Z16.bx.fz 7; have y8 := Z16.bx.fz 8))
      all_goals
        have F0 := fin1 (s := .slice A8 N c8) (x := x) (u := .slice A9 n c9) (v := .slice B9 n2 d9) Z06 Z16 (by omega)
        have HB6 := L9.out.bel.trans (hk2.mono L9.out.bel.size)
        clear r0 r1 z0 z1 z2 z3 z4 z5 z6 z7 z8 y0 y1 y2 y3 y4 y5 y6 y7 y8 s0 t0 t1 t2 t3 t4 t5 t6 t7 t8
        have hz1 := hb1.size
        have hz2 := hb2.size
        (try simp only [World.size_drew] at hz1 hz2 hqS hqT hq1)
        generalize ((((((((((V2.setCell _ _).setCell _ _).setCell _ _).setCell _ _).setCell _ _).setCell _ _).setCell _ _).setCell _ _).setCell _ _).setCell _ _) = Wf at F0 ⊢
        have F := Lib.hid F0
        clear F0
        go_wp2_with fail
        have es := F.out.st
        obtain ⟨e0, e1, e2, e3, e4, e5, e6, e7, e8⟩ := F.out.tb
        obtain ⟨hO, hT, hB9⟩ := fin_end hqS (fun q h => by omega) hqT (by omega) (by omega) HB6 F.out
        refine bodyPost_ret (v := .tuple #[.agg #[.slice A8 N c8], .agg #[.int .i64 x.i, .int .i64 x.s, .int .i64 x.t, .int .i64 x.b, .int .i64 x.l, .int .i64 x.h, .int .i64 x.c, .slice A9 n c9, .slice B9 n2 d9], .bool false]) (by simp [results, Tryz.results6, go_sem, es, e0, e1, e2, e3, e4, e5, e6, e7, e8]) rfl ?_
        rw [show cmC C x R S z = C from if_neg (by rw [HF.out]; exact Bool.false_ne_true), show cmX C x R S z = x from if_neg (by rw [HF.out]; exact Bool.false_ne_true), HF.out]
        exact ⟨_, _, _, _, _, _, rfl, hO, hT, hB9⟩
    · have hd : decide (H ≤ L) = false := decide_eq_false hlh
      have HMAY : Hid (mayB C x R S z = true) := Lib.hid (by simp [mayB, hq, HL.out, HH.out]; omega)
      obtain ⟨hrex, ht1, hun⟩ := fw_parts hq
      obtain ⟨hst, htx, hall⟩ := Go.Proofs.YthbbpfgjbidbhaaGreatDoor.rx.rex_parts hrex
      have HST := Lib.hid hst
      have HTX := Lib.hid htx
      have HALL := Lib.hid hall
      simp only [unB, Bool.and_eq_true, decide_eq_true_eq] at hun
      have HUN := Lib.hid hun.1
      have h6 := Go.Proofs.YthbbpfgjbidbhaaGreatDoor.val.st_six hst
      have hCN := H3.out.1
      obtain rfl : N = 6 := by omega
      clear hq hrex ht1 hun hst htx hall
      have s0 := L2.out.st
      obtain ⟨t0, t1, t2, t3, t4, t5, t6, t7, t8⟩ := L2.out.tb
      go_wp2_with fail
      refine (spec_fits x hn2 (H2.out.below (Go.Proofs.YthbbpfgjbidbhaaGreatDoor.el2.below_le L2.out.bel hB)) (H3.out.below (Go.Proofs.YthbbpfgjbidbhaaGreatDoor.el2.below_le L2.out.bel hB)) (Nat.le_trans hB L2.out.bel.size) (Go.Proofs.YthbbpfgjbidbhaaGreatDoor.rl.tx_wr HTX.out)).mono ?_
      rintro e W3 ⟨rfl, hb3⟩
      clear s0 t0 t1 t2 t3 t4 t5 t6 t7 t8
      have hw3 := hb3.size
      have L3 := Lib.hid (L2.out.call hb3)
      have Z03 := Lib.hid (Z02.out.call hb3)
      have Z13 := Lib.hid (Z12.out.call hb3)
      clear hb3 L2 Z02 Z12
      rcases hf : fitB C S with _ | _
      · have HF : Hid (cmB C x R S z = false) := Lib.hid (by simp [cmB, hf])
        clear hf
        go_wp2_with fail
        have L9 := L3
        have Z09 := Z03
        have Z19 := Z13
        have hsz9 : w.heap.size + 4 ≤ W3.heap.size := by omega
        generalize W3 = Wn at L9 Z09 Z19 hsz9 ⊢
        have s0 := L9.out.st
        obtain ⟨t0, t1, t2, t3, t4, t5, t6, t7, t8⟩ := L9.out.tb
        go_wp2_with fail
        go_region_law (first | (go_simp; go_at_call 21; refine (HCs.out Wn.drew (L9.out.drewN 1).bel).mono ?_; rintro e V1 ⟨A8, c8, rfl, ho1, hb1⟩; have hk1 : Below Wn.heap.size Wn V1 := (Below.refl Wn.heap.size Wn).drew.trans hb1; have L5 := L9.out.call hk1; have s0 := L5.st; obtain ⟨t0, t1, t2, t3, t4, t5, t6, t7, t8⟩ := L5.tb; have hq1 := OQ.of_os ho1) | (go_simp; go_at_call 22; refine (HCt.out Wn.drew (L9.out.drewN 1).bel).mono ?_; rintro e V1 ⟨u9, v9, rfl, ho1, hb1⟩; have hk1 : Below Wn.heap.size Wn V1 := (Below.refl Wn.heap.size Wn).drew.trans hb1; have L5 := L9.out.call hk1; have s0 := L5.st; obtain ⟨t0, t1, t2, t3, t4, t5, t6, t7, t8⟩ := L5.tb; have hq1 := OT.of ho1; obtain ⟨A9, c9, B9, d9, rfl, rfl, _, _⟩ := hq1.form HLR.out HLS.out) | (go_simp; go_at_call 21; refine (HCs.out V1 L5.bel).mono ?_; rintro e V2 ⟨A8, c8, rfl, ho2, hb2⟩; have hk2 : Below Wn.heap.size Wn V2 := hk1.trans (hb2.mono hk1.size); have hqS := OQ.of_os ho2; have hqT := hq1.keepC hb2; have Z06 := Z09.out.call hk2; have Z16 := Z19.out.call hk2; have r0 := Z06.cell; have r1 := Z06.free; obtain ⟨z0, z1, z2, z3, z4, z5, z6, z7, z8⟩ := Z16.bx.tb; have y0 := Z16.bx.fz 0; have y1 := Z16.bx.fz 1; have y2 := Z16.bx.fz 2; have y3 := Z16.bx.fz 3; have y4 := Z16.bx.fz 4; have y5 := Z16.bx.fz 5; have y6 := Z16.bx.fz 6; have y7 := Z16.bx.fz 7; have y8 := Z16.bx.fz 8) | (go_simp; go_at_call 22; refine (HCt.out V1 L5.bel).mono ?_; rintro e V2 ⟨u9, v9, rfl, ho2, hb2⟩; have hk2 : Below Wn.heap.size Wn V2 := hk1.trans (hb2.mono hk1.size); have hqT := OT.of ho2; obtain ⟨A9, c9, B9, d9, rfl, rfl, _, _⟩ := hqT.form HLR.out HLS.out; have hqS := oqC hq1 hb2; have Z06 := Z09.out.call hk2; have Z16 := Z19.out.call hk2; have r0 := Z06.cell; have r1 := Z06.free; obtain ⟨z0, z1, z2, z3, z4, z5, z6, z7, z8⟩ := Z16.bx.tb; have y0 := Z16.bx.fz 0; have y1 := Z16.bx.fz 1; have y2 := Z16.bx.fz 2; have y3 := Z16.bx.fz 3; have y4 := Z16.bx.fz 4; have y5 := Z16.bx.fz 5; have y6 := Z16.bx.fz 6; have y7 := Z16.bx.fz 7; have y8 := Z16.bx.fz 8))
        all_goals
          have F0 := fin1 (s := .slice A8 6 c8) (x := x) (u := .slice A9 n c9) (v := .slice B9 n2 d9) Z06 Z16 (by omega)
          have HB6 := L9.out.bel.trans (hk2.mono L9.out.bel.size)
          clear r0 r1 z0 z1 z2 z3 z4 z5 z6 z7 z8 y0 y1 y2 y3 y4 y5 y6 y7 y8 s0 t0 t1 t2 t3 t4 t5 t6 t7 t8
          have hz1 := hb1.size
          have hz2 := hb2.size
          (try simp only [World.size_drew] at hz1 hz2 hqS hqT hq1)
          generalize ((((((((((V2.setCell _ _).setCell _ _).setCell _ _).setCell _ _).setCell _ _).setCell _ _).setCell _ _).setCell _ _).setCell _ _).setCell _ _) = Wf at F0 ⊢
          have F := Lib.hid F0
          clear F0
          go_wp2_with fail
          have es := F.out.st
          obtain ⟨e0, e1, e2, e3, e4, e5, e6, e7, e8⟩ := F.out.tb
          obtain ⟨hO, hT, hB9⟩ := fin_end hqS (fun q h => by omega) hqT (by omega) (by omega) HB6 F.out
          refine bodyPost_ret (v := .tuple #[.agg #[.slice A8 6 c8], .agg #[.int .i64 x.i, .int .i64 x.s, .int .i64 x.t, .int .i64 x.b, .int .i64 x.l, .int .i64 x.h, .int .i64 x.c, .slice A9 n c9, .slice B9 n2 d9], .bool false]) (by simp [results, Tryz.results6, go_sem, es, e0, e1, e2, e3, e4, e5, e6, e7, e8]) rfl ?_
          rw [show cmC C x R S z = C from if_neg (by rw [HF.out]; exact Bool.false_ne_true), show cmX C x R S z = x from if_neg (by rw [HF.out]; exact Bool.false_ne_true), HF.out]
          exact ⟨_, _, _, _, _, _, rfl, hO, hT, hB9⟩
      · have HF : Hid (cmB C x R S z = true) := Lib.hid (by simp [cmB, hf, HMAY.out])
        have HFT := Lib.hid hf
        have HCF : Hid (insC C x.i z H R S = cmC C x R S z) := Lib.hid (by rw [cmC, if_pos HF.out, HH.out])
        have HXF : Hid (cmX C x R S z = ⟨x.i, x.s, 2, x.b, L, H, z⟩) := Lib.hid (by rw [cmX, if_pos HF.out, HL.out, HH.out])
        clear hf
        have s0 := L3.out.st
        obtain ⟨t0, t1, t2, t3, t4, t5, t6, t7, t8⟩ := L3.out.tb
        go_wp2_with fail
        refine (spec_install x z L H hn hn2 (H1.out.below (Go.Proofs.YthbbpfgjbidbhaaGreatDoor.el2.below_le L3.out.bel hB)) (H2.out.below (Go.Proofs.YthbbpfgjbidbhaaGreatDoor.el2.below_le L3.out.bel hB)) (H3.out.below (Go.Proofs.YthbbpfgjbidbhaaGreatDoor.el2.below_le L3.out.bel hB)) (Nat.le_trans hB L3.out.bel.size) HST.out HUN.out (fun m hm => ?_) HALL.out (Go.Proofs.YthbbpfgjbidbhaaGreatDoor.rl.tx_wr HTX.out) HFT.out).mono ?_
        · obtain ⟨j, hj, rfl⟩ := List.getElem_of_mem hm
          exact Go.Proofs.YthbbpfgjbidbhaaGreatDoor.rx.key_of HTX.out (List.getElem?_eq_getElem hj)
        rintro e W4 ⟨A7, c7, A9, c9, B9, d9, rfl, ho4, ht4, hb4⟩
        clear s0 t0 t1 t2 t3 t4 t5 t6 t7 t8
        have hw4 := hb4.size
        have hqS := OQ.of_os ho4
        have hqT := OT.of ht4
        have HB4 := Lib.hid (L3.out.bel.trans (hb4.mono L3.out.bel.size))
        have Z04 := Lib.hid (Z03.out.call hb4)
        have Z14 := Lib.hid (Z13.out.call hb4)
        clear ho4 ht4
        go_wp2_with fail
        have hsx : SBx w ((W4.alloc (.cells #[.slice A7 6 c7] 33)).alloc (.cells #[.int .i64 x.i, .int .i64 x.s, .int .i64 2, .int .i64 x.b, .int .i64 L, .int .i64 H, .int .i64 z, .slice A9 n c9, .slice B9 n2 d9] 37)) W4.heap.size (.slice A7 6 c7) := (SBx.zero (u := .slice A7 6 c7) (t := 33) HB4.out rfl).alloc _
        have htx' : TBx w ((W4.alloc (.cells #[.slice A7 6 c7] 33)).alloc (.cells #[.int .i64 x.i, .int .i64 x.s, .int .i64 2, .int .i64 x.b, .int .i64 L, .int .i64 H, .int .i64 z, .slice A9 n c9, .slice B9 n2 d9] 37)) (W4.heap.size + 1) ⟨x.i, x.s, 2, x.b, L, H, z⟩ (.slice A9 n c9) (.slice B9 n2 d9) := TBx.new (x := ⟨x.i, x.s, 2, x.b, L, H, z⟩) (bel_alloc HB4.out _) (by simp)
        have hq5 := oqA (oqA hqS (.cells #[.slice A7 6 c7] 33)) (.cells #[.int .i64 x.i, .int .i64 x.s, .int .i64 2, .int .i64 x.b, .int .i64 L, .int .i64 H, .int .i64 z, .slice A9 n c9, .slice B9 n2 d9] 37)
        have ht5 := otA (otA hqT (.cells #[.slice A7 6 c7] 33)) (.cells #[.int .i64 x.i, .int .i64 x.s, .int .i64 2, .int .i64 x.b, .int .i64 L, .int .i64 H, .int .i64 z, .slice A9 n c9, .slice B9 n2 d9] 37)
        have hB5 := bel_alloc (bel_alloc HB4.out (.cells #[.slice A7 6 c7] 33)) (.cells #[.int .i64 x.i, .int .i64 x.s, .int .i64 2, .int .i64 x.b, .int .i64 L, .int .i64 H, .int .i64 z, .slice A9 n c9, .slice B9 n2 d9] 37)
        have Z05 := (Z04.out.alloc (.cells #[.slice A7 6 c7] 33)).alloc (.cells #[.int .i64 x.i, .int .i64 x.s, .int .i64 2, .int .i64 x.b, .int .i64 L, .int .i64 H, .int .i64 z, .slice A9 n c9, .slice B9 n2 d9] 37)
        have Z15 := (Z14.out.alloc (.cells #[.slice A7 6 c7] 33)).alloc (.cells #[.int .i64 x.i, .int .i64 x.s, .int .i64 2, .int .i64 x.b, .int .i64 L, .int .i64 H, .int .i64 z, .slice A9 n c9, .slice B9 n2 d9] 37)
        have hs5 : ((W4.alloc (.cells #[.slice A7 6 c7] 33)).alloc (.cells #[.int .i64 x.i, .int .i64 x.s, .int .i64 2, .int .i64 x.b, .int .i64 L, .int .i64 H, .int .i64 z, .slice A9 n c9, .slice B9 n2 d9] 37)).heap.size = W4.heap.size + 2 := by simp
        clear hqS hqT hb4
        generalize ((W4.alloc _).alloc _) = W5 at hsx htx' hq5 ht5 hB5 Z05 Z15 hs5 ⊢
        have k0 := hsx.cell
        obtain ⟨b0, b1, b2, b3, b4, b5, b6, b7, b8⟩ := htx'.bx.tb
        have r0 := Z05.cell
        have r1 := Z05.free
        obtain ⟨z0, z1, z2, z3, z4, z5, z6, z7, z8⟩ := Z15.bx.tb
        have y0 := Z15.bx.fz 0
        have y1 := Z15.bx.fz 1
        have y2 := Z15.bx.fz 2
        have y3 := Z15.bx.fz 3
        have y4 := Z15.bx.fz 4
        have y5 := Z15.bx.fz 5
        have y6 := Z15.bx.fz 6
        have y7 := Z15.bx.fz 7
        have y8 := Z15.bx.fz 8
        go_region
        have F0 := (fin1 (s := .slice A7 6 c7) (x := ⟨x.i, x.s, 2, x.b, L, H, z⟩) (u := .slice A9 n c9) (v := .slice B9 n2 d9) Z05 Z15 (by omega)).drew
        clear k0 b0 b1 b2 b3 b4 b5 b6 b7 b8 r0 r1 z0 z1 z2 z3 z4 z5 z6 z7 z8 y0 y1 y2 y3 y4 y5 y6 y7 y8
        generalize World.drew _ = Wf at F0 ⊢
        have F := Lib.hid F0
        clear F0
        go_wp2_with fail
        have es := F.out.st
        obtain ⟨e0, e1, e2, e3, e4, e5, e6, e7, e8⟩ := F.out.tb
        have hw4' : w.heap.size + 4 ≤ W3.heap.size := by omega
        obtain ⟨hO, hT, hB9⟩ := fin_end hq5 (fun q h => by omega) ht5 hw4' (by omega) hB5 F.out
        refine bodyPost_ret (v := .tuple #[.agg #[.slice A7 6 c7], .agg #[.int .i64 x.i, .int .i64 x.s, .int .i64 2, .int .i64 x.b, .int .i64 L, .int .i64 H, .int .i64 z, .slice A9 n c9, .slice B9 n2 d9], .bool true]) (by simp [results, Tryz.results6, go_sem, es, e0, e1, e2, e3, e4, e5, e6, e7, e8]) rfl ?_
        rw [HCF.out] at hO
        rw [HXF.out, HF.out]
        exact ⟨_, _, _, _, _, _, rfl, hO, hT, hB9⟩
end Go.Proofs.YthbbpfgjbidbhaaGreatDoor.mc
