/- ExcludingPair of the program: what it answers; nothing that was there is written. -/
import Derived.Test.YtbnkkgjkhpbgiaaGreatDoorLq
import Derived.Test.YtbnkkgjkhpbgiaaGreatDoorCrm
import Derived.Test.YtbnkkgjkhpbgiaaGreatDoorAsx
import Derived.Test.YtbnkkgjkhpbgiaaGreatDoorXs
namespace Go.Proofs.YtbnkkgjkhpbgiaaGreatDoor.xi
open Go.ChangeShapes Go.WideShapes Go.ChangeAt Go.RowKit
open Go.Proofs.YtbnkkgjkhpbgiaaGreatDoor.el2 Go.Proofs.YtbnkkgjkhpbgiaaGreatDoor.tx Go.Proofs.YtbnkkgjkhpbgiaaGreatDoor.seq Go.Proofs.YtbnkkgjkhpbgiaaGreatDoor.tv Go.Proofs.YtbnkkgjkhpbgiaaGreatDoor.tf Go.Proofs.YtbnkkgjkhpbgiaaGreatDoor.rx Go.Proofs.YtbnkkgjkhpbgiaaGreatDoor.ri Go.Proofs.YtbnkkgjkhpbgiaaGreatDoor.rl Go.Proofs.YtbnkkgjkhpbgiaaGreatDoor.ov Go.Proofs.YtbnkkgjkhpbgiaaGreatDoor.bx Go.Proofs.YtbnkkgjkhpbgiaaGreatDoor.mx Go.Proofs.YtbnkkgjkhpbgiaaGreatDoor.em Go.Proofs.YtbnkkgjkhpbgiaaGreatDoor.ep
open Go.Proofs.YtbnkkgjkhpbgiaaGreatDoor.vers (new2)
open Go.Proofs.YtbnkkgjkhpbgiaaGreatDoor.sl (Ver)
open Go.Proofs.YtbnkkgjkhpbgiaaGreatDoor.st (Rs)
open Go.Proofs.YtbnkkgjkhpbgiaaGreatDoor.val (stB)
set_option linter.unusedVariables false
set_option linter.unusedSimpArgs false
open Go.Proofs.YtbnkkgjkhpbgiaaGreatDoor.fw Go.Proofs.YtbnkkgjkhpbgiaaGreatDoor.lq Go.Proofs.YtbnkkgjkhpbgiaaGreatDoor.crm Go.Proofs.YtbnkkgjkhpbgiaaGreatDoor.xs
open Go.Proofs.YtbnkkgjkhpbgiaaGreatDoor.asx (Eh as_nil as_hit_b as_miss_b)
theorem off_row (W : World) (b : Nat) (cs : Array Value) : Off b W (W.setRow b cs) := ⟨rfl, rfl, rfl, by simp, fun k hk => setRow_other W b k cs hk⟩
/-- the boxes, and the one that the pair is to be laid into -/
structure LP (w : World) (sv : Value) (x : Hd) (u1 u2 : Value) (W : World) : Prop where
  lq : LQ w sv x u1 u2 ⟨0, 0⟩ ⟨0, 0⟩ W
  size : w.heap.size + 5 ≤ W.heap.size
  pb : ∃ cs : Array Value, W.heap[w.heap.size + 4]? = some (.cells cs 67 (0, 0)) ∧ cs.size = 4
section
variable {w W W' : World} {x : Hd} {u1 u2 sv : Value}
theorem LP.keep (h : LP w sv x u1 u2 W) (hb : Below (w.heap.size + 5) W W') : LP w sv x u1 u2 W' := by
  obtain ⟨cs, h1, h2⟩ := h.pb
  exact ⟨h.lq.keep (hb.mono (by omega)), Nat.le_trans h.size hb.size, cs, (hb.block _ (by omega)).trans h1, h2⟩
theorem LP.call (h : LP w sv x u1 u2 W) (hb : Below W.heap.size W W') : LP w sv x u1 u2 W' := h.keep (below_le hb h.size)
/-- the pair is laid -/
theorem LP.laid (h : LP w sv x u1 u2 W) (a b c d : Int) : LQ w sv x u1 u2 ⟨0, 0⟩ ⟨0, 0⟩ (W.setRow (w.heap.size + 4) #[.int .i64 a, .int .i64 b, .int .i64 c, .int .i64 d]) ∧
    (W.setRow (w.heap.size + 4) #[.int .i64 a, .int .i64 b, .int .i64 c, .int .i64 d]).cell? ⟨w.heap.size + 4, 0, none⟩ = some (.int .i64 a) ∧ (W.setRow (w.heap.size + 4) #[.int .i64 a, .int .i64 b, .int .i64 c, .int .i64 d]).cell? ⟨w.heap.size + 4, 1, none⟩ = some (.int .i64 b) ∧ (W.setRow (w.heap.size + 4) #[.int .i64 a, .int .i64 b, .int .i64 c, .int .i64 d]).cell? ⟨w.heap.size + 4, 2, none⟩ = some (.int .i64 c) ∧ (W.setRow (w.heap.size + 4) #[.int .i64 a, .int .i64 b, .int .i64 c, .int .i64 d]).cell? ⟨w.heap.size + 4, 3, none⟩ = some (.int .i64 d) ∧
    w.heap.size + 5 ≤ (W.setRow (w.heap.size + 4) #[.int .i64 a, .int .i64 b, .int .i64 c, .int .i64 d]).heap.size := by
  obtain ⟨cs, h1, h2⟩ := h.pb
  have hc := fun j => cell_setRow_same W (w.heap.size + 4) j cs #[.int .i64 a, .int .i64 b, .int .i64 c, .int .i64 d] _ _ h1
  exact ⟨h.lq.keep ((off_row W (w.heap.size + 4) _).below (Nat.le_refl _)), hc 0, hc 1, hc 2, hc 3, by simp; exact h.size⟩
end
theorem LP.mk5 (w : World) (x : Hd) (A A2 D : Option Addr) (n c n2 c2 N cN : Nat) : LP w (.slice D N cN) x (.slice A n c) (.slice A2 n2 c2) (((((w.alloc (.cells #[.slice D N cN] 26)).alloc (.cells #[.int .i64 x.i, .int .i64 x.s, .int .i64 x.t, .int .i64 x.b, .int .i64 x.l, .int .i64 x.h, .int .i64 x.c, .slice A n c, .slice A2 n2 c2] 30)).alloc (.cells #[.int .i64 0, .int .i64 0] 38)).alloc (.cells #[.int .i64 0, .int .i64 0] 38)).alloc (.cells #[.int .i64 0, .int .i64 0, .int .i64 0, .int .i64 0] 67)) where
  lq := (LQ.mk4 w x A A2 D n c n2 c2 N cN).call (new1 _ _)
  size := by simp
  pb := ⟨_, by have := heap_alloc_new ((((w.alloc (.cells #[.slice D N cN] 26)).alloc (.cells #[.int .i64 x.i, .int .i64 x.s, .int .i64 x.t, .int .i64 x.b, .int .i64 x.l, .int .i64 x.h, .int .i64 x.c, .slice A n c, .slice A2 n2 c2] 30)).alloc (.cells #[.int .i64 0, .int .i64 0] 38)).alloc (.cells #[.int .i64 0, .int .i64 0] 38)) (.cells #[.int .i64 0, .int .i64 0, .int .i64 0, .int .i64 0] 67); rw [show ((((w.alloc (.cells #[.slice D N cN] 26)).alloc (.cells #[.int .i64 x.i, .int .i64 x.s, .int .i64 x.t, .int .i64 x.b, .int .i64 x.l, .int .i64 x.h, .int .i64 x.c, .slice A n c, .slice A2 n2 c2] 30)).alloc (.cells #[.int .i64 0, .int .i64 0] 38)).alloc (.cells #[.int .i64 0, .int .i64 0] 38)).heap.size = w.heap.size + 4 by simp] at this; exact this, rfl⟩
set_option maxRecDepth 100000 in
set_option maxHeartbeats 6400000 in
theorem impl_xp {w : World} {B n c n2 c2 N cN : Nat} {A A2 D : Option Addr} {R S : List E2} {C : List (List Ver)} (x : Hd) (z : Int) (hn : n ≤ 1048576) (hn2 : n2 ≤ 1048576) (hN : N ≤ 1048576) (h1 : Vs w B A n R) (h2 : Vs w B A2 n2 S) (h3 : Rs w B D N C) (hB : B ≤ w.heap.size) (hE : Ev w) (hG : Eh w) :
    Calls Tryz.prog 13 #[.agg #[.slice D N cN], .agg #[.int .i64 x.i, .int .i64 x.s, .int .i64 x.t, .int .i64 x.b, .int .i64 x.l, .int .i64 x.h, .int .i64 x.c, .slice A n c, .slice A2 n2 c2], .int .i64 z] w fun e w' => e = .returned (.tuple #[.agg #[.int .i64 (xpL C x R S z).a, .int .i64 (xpL C x R S z).b], .agg #[.int .i64 (xpH C x R S z).a, .int .i64 (xpH C x R S z).b], .bool (xpB C x R S z)]) ∧ Below w.heap.size w w' := by
  have H1 := Lib.hid h1
  have H2 := Lib.hid h2
  have H3 := Lib.hid h3
  have HE := Lib.hid hE
  have HG := Lib.hid hG
  clear h1 h2 h3 hE hG
  obtain ⟨m1, hm1⟩ : ∃ q, xpL C x R S z = q := ⟨_, rfl⟩
  obtain ⟨m2, hm2⟩ : ∃ q, xpH C x R S z = q := ⟨_, rfl⟩
  have HM1 := Lib.hid hm1
  have HM2 := Lib.hid hm2
  clear hm1 hm2
  go_enter Tryz.func13, Tryz.ntmps13
  go_wp2_with fail
  have hL := LP.mk5 w x A A2 D n c n2 c2 N cN
  generalize (((((w.alloc _).alloc _).alloc _).alloc _).alloc _) = W0 at hL ⊢
  have L0 := Lib.hid hL
  have c0 := hL.lq.ls.st
  obtain ⟨t0, t1, t2, t3, t4, t5, t6, t7, t8⟩ := hL.lq.ls.tb
  clear hL
  go_wp2_with fail
  refine (impl_cr x z (by omega) (by omega) (by omega) (H1.out.below (below_le L0.out.lq.ls.bel hB)) (H2.out.below (below_le L0.out.lq.ls.bel hB)) (H3.out.below (below_le L0.out.lq.ls.bel hB)) (by have := L0.out.size; omega) (HE.out.below L0.out.lq.ls.bel)).mono ?_
  rintro e W1 ⟨he, hb⟩
  have L1 := Lib.hid (L0.out.call hb)
  have HG1 := Lib.hid (HG.out.below L1.out.lq.ls.bel)
  clear hb c0 t0 t1 t2 t3 t4 t5 t6 t7 t8
  rcases he with ⟨h, rfl⟩ | ⟨h, -, rfl⟩ | ⟨h, -, p, rfl⟩
  · have HX := Lib.hid h
    rw [HM1.out, HM2.out]
    clear h
    go_wp2_with fail
    obtain ⟨cs, hcs, hcz⟩ := L1.out.pb
    refine (as_hit_b (w.heap.size + 4) m1.a m1.b m2.a m2.b cs _ W1 HG1.out hcs hcz).mono ?_
    rintro e W2 ⟨rfl, V, hb4, hW⟩
    have hl := (L1.out.call hb4).laid m1.a m1.b m2.a m2.b
    rw [← hW] at hl
    obtain ⟨hq, p0, p1, p2, p3, hs5⟩ := hl
    have L2 := Lib.hid hq
    clear hW hb4 hq hcs hcz
    obtain ⟨z0, z1⟩ := L2.out.r1.cells
    obtain ⟨y0, y1⟩ := L2.out.r2.cells
    have f0 := L2.out.r1.fz 0
    have f1 := L2.out.r1.fz 1
    have g0 := L2.out.r2.fz 0
    have g1 := L2.out.r2.fz 1
    go_wp2_with fail
    go_region_held3 (fun w' => w'.cell? ⟨w.heap.size + 4, 0, none⟩ = some (.int .i64 (m1.a)) ∧ w'.cell? ⟨w.heap.size + 4, 1, none⟩ = some (.int .i64 (m1.b)) ∧ w'.cell? ⟨w.heap.size + 4, 2, none⟩ = some (.int .i64 (m2.a)) ∧ w'.cell? ⟨w.heap.size + 4, 3, none⟩ = some (.int .i64 (m2.b))) (first | ((repeat' apply And.intro) <;> first | with_reducible exact (cell2 (by simp only; omega)).trans (by assumption) | with_reducible exact (cell2 (by simp only; omega)).trans ((cell2 (by simp only; omega)).trans (by assumption))) | go_keep) (fail)
    all_goals
      clear p0 p1 p2 p3
      try go_wp2_with fail
      clear z0 z1 y0 y1 f0 f1 g0 g1
      generalize hW : World.setCell _ _ _ = W9
      have hp : LQ w (.slice D N cN) x (.slice A n c) (.slice A2 n2 c2) m1 m2 W9 := by first | (rw [← hW]; exact (L2.out.put1 m1).put2 m2) | (rw [← hW]; exact (L2.out.put2 m2).put1 m1)
      obtain ⟨e0, e1⟩ := hp.r1.cells
      obtain ⟨e2, e3⟩ := hp.r2.cells
      exact bodyPost_ret (v := .tuple #[.agg #[.int .i64 (m1).a, .int .i64 (m1).b], .agg #[.int .i64 (m2).a, .int .i64 (m2).b], .bool true]) (by simp [results, Tryz.results13, go_sem, e0, e1, e2, e3]) rfl ⟨ret_p HM1.out.symm HM2.out.symm HX.out.symm, by first | exact hp.ls.bel | exact hp.ls.bel.drew⟩
  · have HX := Lib.hid h
    clear h
    go_wp2_with fail
    refine (as_nil _ W1).mono ?_
    rintro e W2 ⟨rfl, rfl⟩
    have L2 := Lib.hid L1.out.lq
    obtain ⟨z0, z1⟩ := L2.out.r1.cells
    obtain ⟨y0, y1⟩ := L2.out.r2.cells
    have f0 := L2.out.r1.fz 0
    have f1 := L2.out.r1.fz 1
    have g0 := L2.out.r2.fz 0
    have g1 := L2.out.r2.fz 1
    go_wp2_with fail
    clear z0 z1 y0 y1 f0 f1 g0 g1
    generalize hW : World.setCell _ _ _ = W9
    have hp : LQ w (.slice D N cN) x (.slice A n c) (.slice A2 n2 c2) (⟨0, 0⟩ : E2) (⟨0, 0⟩ : E2) W9 := by first | (rw [← hW]; exact (L2.out.put1 (⟨0, 0⟩ : E2)).put2 (⟨0, 0⟩ : E2)) | (rw [← hW]; exact (L2.out.put2 (⟨0, 0⟩ : E2)).put1 (⟨0, 0⟩ : E2))
    obtain ⟨e0, e1⟩ := hp.r1.cells
    obtain ⟨e2, e3⟩ := hp.r2.cells
    exact bodyPost_ret (v := .tuple #[.agg #[.int .i64 ((⟨0, 0⟩ : E2)).a, .int .i64 ((⟨0, 0⟩ : E2)).b], .agg #[.int .i64 ((⟨0, 0⟩ : E2)).a, .int .i64 ((⟨0, 0⟩ : E2)).b], .bool false]) (by simp [results, Tryz.results13, go_sem, e0, e1, e2, e3]) rfl ⟨ret_p (xpL_no HX.out).symm (xpH_no HX.out).symm HX.out.symm, by first | exact hp.ls.bel | exact hp.ls.bel.drew⟩
  · have HX := Lib.hid h
    clear h
    go_wp2_with fail
    obtain ⟨cs, hcs, hcz⟩ := L1.out.pb
    refine (as_miss_b (w.heap.size + 4) _ cs _ W1 HG1.out hcs).mono ?_
    rintro e W2 ⟨rfl, hb4⟩
    have hl := (L1.out.call hb4).lq
    have L2 := Lib.hid hl
    clear hb4 hl hcs hcz
    obtain ⟨z0, z1⟩ := L2.out.r1.cells
    obtain ⟨y0, y1⟩ := L2.out.r2.cells
    have f0 := L2.out.r1.fz 0
    have f1 := L2.out.r1.fz 1
    have g0 := L2.out.r2.fz 0
    have g1 := L2.out.r2.fz 1
    go_wp2_with fail
    clear z0 z1 y0 y1 f0 f1 g0 g1
    generalize hW : World.setCell _ _ _ = W9
    have hp : LQ w (.slice D N cN) x (.slice A n c) (.slice A2 n2 c2) (⟨0, 0⟩ : E2) (⟨0, 0⟩ : E2) W9 := by first | (rw [← hW]; exact (L2.out.put1 (⟨0, 0⟩ : E2)).put2 (⟨0, 0⟩ : E2)) | (rw [← hW]; exact (L2.out.put2 (⟨0, 0⟩ : E2)).put1 (⟨0, 0⟩ : E2))
    obtain ⟨e0, e1⟩ := hp.r1.cells
    obtain ⟨e2, e3⟩ := hp.r2.cells
    exact bodyPost_ret (v := .tuple #[.agg #[.int .i64 ((⟨0, 0⟩ : E2)).a, .int .i64 ((⟨0, 0⟩ : E2)).b], .agg #[.int .i64 ((⟨0, 0⟩ : E2)).a, .int .i64 ((⟨0, 0⟩ : E2)).b], .bool false]) (by simp [results, Tryz.results13, go_sem, e0, e1, e2, e3]) rfl ⟨ret_p (xpL_no HX.out).symm (xpH_no HX.out).symm HX.out.symm, by first | exact hp.ls.bel | exact hp.ls.bel.drew⟩
end Go.Proofs.YtbnkkgjkhpbgiaaGreatDoor.xi
