/- checkRoom of the program, MayCommit of the program and of the model: what each answers; nothing that was there is written. -/
import Derived.Test.YtbnkkgjkhpbgiaaGreatDoorLm
import Derived.Test.YtbnkkgjkhpbgiaaGreatDoorFw
namespace Go.Proofs.YtbnkkgjkhpbgiaaGreatDoor.crm
open Go.ChangeShapes Go.WideShapes Go.ChangeAt Go.RowKit
open Go.Proofs.YtbnkkgjkhpbgiaaGreatDoor.el2 Go.Proofs.YtbnkkgjkhpbgiaaGreatDoor.tx Go.Proofs.YtbnkkgjkhpbgiaaGreatDoor.seq Go.Proofs.YtbnkkgjkhpbgiaaGreatDoor.tv Go.Proofs.YtbnkkgjkhpbgiaaGreatDoor.tf Go.Proofs.YtbnkkgjkhpbgiaaGreatDoor.rx Go.Proofs.YtbnkkgjkhpbgiaaGreatDoor.ri Go.Proofs.YtbnkkgjkhpbgiaaGreatDoor.rl Go.Proofs.YtbnkkgjkhpbgiaaGreatDoor.em Go.Proofs.YtbnkkgjkhpbgiaaGreatDoor.ep Go.Proofs.YtbnkkgjkhpbgiaaGreatDoor.fw Go.Proofs.YtbnkkgjkhpbgiaaGreatDoor.lm
open Go.Proofs.YtbnkkgjkhpbgiaaGreatDoor.vers (new2 ret_b)
open Go.Proofs.YtbnkkgjkhpbgiaaGreatDoor.sl (Ver)
open Go.Proofs.YtbnkkgjkhpbgiaaGreatDoor.st (Rs)
open Go.Proofs.YtbnkkgjkhpbgiaaGreatDoor.val (stB)
set_option linter.unusedVariables false
set_option linter.unusedSimpArgs false
/-- the two listed errors: each the address of a text -/
def Ev (W : World) : Prop := (∃ p, W.cell? ⟨0, 0, none⟩ = some (.iface 168 (.pointer (some p)))) ∧ ∃ p, W.cell? ⟨1, 0, none⟩ = some (.iface 168 (.pointer (some p)))
theorem cell_lt {W : World} {b : Nat} {v : Value} (h : W.cell? ⟨b, 0, none⟩ = some v) : b < W.heap.size := World.block_lt_of_cell? W _ h
theorem Ev.below {w w' : World} (h : Ev w) (hb : Below w.heap.size w w') : Ev w' := by
  obtain ⟨⟨p, h1⟩, q, h2⟩ := h
  exact ⟨⟨p, (hb.cell (p := ⟨0, 0, none⟩) (cell_lt h1)).trans h1⟩, q, (hb.cell (p := ⟨1, 0, none⟩) (cell_lt h2)).trans h2⟩
/-- what checkRoom answers: the pair, nothing, or an error without a pair -/
def CR (C : List (List Ver)) (x : Hd) (R S : List E2) (z : Int) (e : Ending) : Prop :=
  (xpB C x R S z = true ∧ e = .returned (.iface 67 (.agg #[.int .i64 (xpL C x R S z).a, .int .i64 (xpL C x R S z).b, .int .i64 (xpH C x R S z).a, .int .i64 (xpH C x R S z).b]))) ∨
  (xpB C x R S z = false ∧ mayB C x R S z = true ∧ e = .returned .nilIface) ∨
  (xpB C x R S z = false ∧ mayB C x R S z = false ∧ ∃ p, e = .returned (.iface 168 (.pointer (some p))))
theorem cr_pair {C : List (List Ver)} {x : Hd} {R S : List E2} {z : Int} {m1 m2 : E2} (h : fwB C x R S z = true) (h1 : Go.Proofs.YtbnkkgjkhpbgiaaGreatDoor.rh.rhI C x R S ≤ rlI C x R S) (e1 : fstAt (cand C R S) (rlI C x R S) = m1) (e2 : fstAt (sucR C R) (Go.Proofs.YtbnkkgjkhpbgiaaGreatDoor.rh.rhI C x R S) = m2) :
    CR C x R S z (.returned (.iface 67 (.agg #[.int .i64 m1.a, .int .i64 m1.b, .int .i64 m2.a, .int .i64 m2.b]))) := by
  have hx := xp_yes h h1
  exact Or.inl ⟨hx, by rw [xpL_yes hx, xpH_yes hx, e1, e2]⟩
theorem cr_none {C : List (List Ver)} {x : Hd} {R S : List E2} {z : Int} (h : fwB C x R S z = true) (h1 : rlI C x R S < Go.Proofs.YtbnkkgjkhpbgiaaGreatDoor.rh.rhI C x R S) (h2 : fwL C x R S z < fwH C x R S z) : CR C x R S z (.returned .nilIface) :=
  Or.inr (Or.inl ⟨xp_lt h1, by rw [may_is h]; exact decide_eq_true h2, rfl⟩)
theorem cr_room {C : List (List Ver)} {x : Hd} {R S : List E2} {z : Int} {p : Addr} (h : fwB C x R S z = true) (h1 : rlI C x R S < Go.Proofs.YtbnkkgjkhpbgiaaGreatDoor.rh.rhI C x R S) (h2 : ¬ fwL C x R S z < fwH C x R S z) : CR C x R S z (.returned (.iface 168 (.pointer (some p)))) :=
  Or.inr (Or.inr ⟨xp_lt h1, by rw [may_is h]; exact decide_eq_false h2, p, rfl⟩)
theorem cr_no {C : List (List Ver)} {x : Hd} {R S : List E2} {z : Int} {p : Addr} (h : fwB C x R S z = false) : CR C x R S z (.returned (.iface 168 (.pointer (some p)))) :=
  Or.inr (Or.inr ⟨xp_no h, may_no h, p, rfl⟩)
set_option maxRecDepth 100000 in
set_option maxHeartbeats 3200000 in
theorem impl_cr {w : World} {B n c n2 c2 N cN : Nat} {A A2 D : Option Addr} {R S : List E2} {C : List (List Ver)} (x : Hd) (z : Int) (hn : n ≤ 1048576) (hn2 : n2 ≤ 1048576) (hN : N ≤ 1048576) (h1 : Vs w B A n R) (h2 : Vs w B A2 n2 S) (h3 : Rs w B D N C) (hB : B ≤ w.heap.size) (hE : Ev w) :
    Calls Tryz.prog 34 #[.agg #[.slice D N cN], .agg #[.int .i64 x.i, .int .i64 x.s, .int .i64 x.t, .int .i64 x.b, .int .i64 x.l, .int .i64 x.h, .int .i64 x.c, .slice A n c, .slice A2 n2 c2], .int .i64 z] w fun e w' => CR C x R S z e ∧ Below w.heap.size w w' := by
  have H1 := Lib.hid h1
  have H2 := Lib.hid h2
  have H3 := Lib.hid h3
  have HE := Lib.hid hE
  clear h1 h2 h3 hE
  obtain ⟨q1, hq1⟩ : ∃ q, rlI C x R S = q := ⟨_, rfl⟩
  obtain ⟨q2, hq2⟩ : ∃ q, Go.Proofs.YtbnkkgjkhpbgiaaGreatDoor.rh.rhI C x R S = q := ⟨_, rfl⟩
  have HQ1 := Lib.hid hq1
  have HQ2 := Lib.hid hq2
  clear hq1 hq2
  obtain ⟨m1, hm1⟩ : ∃ q, fstAt (cand C R S) q1 = q := ⟨_, rfl⟩
  obtain ⟨m2, hm2⟩ : ∃ q, fstAt (sucR C R) q2 = q := ⟨_, rfl⟩
  have HM1 := Lib.hid hm1
  have HM2 := Lib.hid hm2
  clear hm1 hm2
  obtain ⟨a, ha⟩ : ∃ q, fwL C x R S z = q := ⟨_, rfl⟩
  obtain ⟨b, hb0⟩ : ∃ q, fwH C x R S z = q := ⟨_, rfl⟩
  have HA := Lib.hid ha
  have HBB := Lib.hid hb0
  clear ha hb0
  go_enter Tryz.func34, Tryz.ntmps34
  go_wp2_with fail
  have hL := LS.mk2 w (.slice D N cN) 26 30 x A n c A2 n2 c2
  generalize ((w.alloc _).alloc _) = W0 at hL ⊢
  have L0 := Lib.hid hL
  have c0 := hL.st
  obtain ⟨t0, t1, t2, t3, t4, t5, t6, t7, t8⟩ := hL.tb
  clear hL
  go_wp2_with fail
  refine (impl_fw x z (by omega) (by omega) (by omega) (H1.out.below (below_le L0.out.bel hB)) (H2.out.below (below_le L0.out.bel hB)) (H3.out.below (below_le L0.out.bel hB)) (by have := L0.out.size; omega)).mono ?_
  rintro e W1 ⟨he, hb⟩
  rw [HA.out, HBB.out] at he
  have L1 := Lib.hid (L0.out.call hb)
  have HE1 := Lib.hid (HE.out.below L1.out.bel)
  clear hb c0 t0 t1 t2 t3 t4 t5 t6 t7 t8
  rcases hq : fwB C x R S z with _ | _
  · rw [hq] at he
    subst he
    have HQ := Lib.hid hq
    clear hq
    obtain ⟨⟨p, g0⟩, -⟩ := HE1.out
    go_wp2_with fail
    go_ret
    exact ⟨cr_no HQ.out, L1.out.bel⟩
  rw [hq] at he
  subst he
  have HQ := Lib.hid hq
  have HRX := Lib.hid (fw_parts hq).1
  clear hq
  go_wp2_with fail
  have hbk0 : Below W1.heap.size W1 W1.drew := (Below.refl _ _).drew
  have M0 := Lib.hid (L1.out.call hbk0)
  have c0 := L1.out.st
  obtain ⟨t0, t1, t2, t3, t4, t5, t6, t7, t8⟩ := L1.out.tb
  go_region_held3 (fun w' => w'.cell? ⟨w.heap.size, 0, none⟩ = some (.slice D N cN) ∧ w'.cell? ⟨w.heap.size + 1, 0, none⟩ = some (.int .i64 x.i) ∧ w'.cell? ⟨w.heap.size + 1, 1, none⟩ = some (.int .i64 x.s) ∧ w'.cell? ⟨w.heap.size + 1, 2, none⟩ = some (.int .i64 x.t) ∧ w'.cell? ⟨w.heap.size + 1, 3, none⟩ = some (.int .i64 x.b) ∧ w'.cell? ⟨w.heap.size + 1, 4, none⟩ = some (.int .i64 x.l) ∧ w'.cell? ⟨w.heap.size + 1, 5, none⟩ = some (.int .i64 x.h) ∧ w'.cell? ⟨w.heap.size + 1, 6, none⟩ = some (.int .i64 x.c) ∧ w'.cell? ⟨w.heap.size + 1, 7, none⟩ = some (.slice A n c) ∧ w'.cell? ⟨w.heap.size + 1, 8, none⟩ = some (.slice A2 n2 c2)) (go_keep) (first | (go_at_call 28; (with_reducible refine (Go.Proofs.YtbnkkgjkhpbgiaaGreatDoor.rh.impl_rh x (by omega) (by omega) (by omega) (H1.out.below (below_le M1.out.bel hB)) (H2.out.below (below_le M1.out.bel hB)) (H3.out.below (below_le M1.out.bel hB)) (by have := M1.out.size; omega)).mono ?_); rintro e W2 ⟨he, hb⟩; rw [HQ2.out] at he; subst he; have hbk2 := hbk1.trans (hb.mono hbk1.size); clear hb; have M2 := Lib.hid (L1.out.call hbk2); have v1 := M2.out.st; obtain ⟨u10, u11, u12, u13, u14, u15, u16, u17, u18⟩ := M2.out.tb) | (go_at_call 27; (with_reducible refine (impl_rl x (by omega) (by omega) (by omega) (H1.out.below (below_le M0.out.bel hB)) (H2.out.below (below_le M0.out.bel hB)) (H3.out.below (below_le M0.out.bel hB)) (by have := M0.out.size; omega)).mono ?_); rintro e V1 ⟨he, hb⟩; rw [HQ1.out] at he; subst he; have hbk1 := hbk0.trans (hb.mono hbk0.size); clear hb; have M1 := Lib.hid (L1.out.call hbk1); have v0 := M1.out.st; obtain ⟨u00, u01, u02, u03, u04, u05, u06, u07, u08⟩ := M1.out.tb))
  all_goals
    have L2 := M2
    clear hbk0 c0 t0 t1 t2 t3 t4 t5 t6 t7 t8 hbk1 v0 u00 u01 u02 u03 u04 u05 u06 u07 u08 hbk2 v1 u10 u11 u12 u13 u14 u15 u16 u17 u18 M0 M1 M2
    have HE2 := Lib.hid (HE.out.below L2.out.bel)
    by_cases hlt : q2 ≤ q1
    · have HLT := Lib.hid hlt
      have t : decide (q2 ≤ q1) = true := decide_eq_true hlt
      clear hlt
      go_wp2_with fail
      have hbk0 : Below W2.heap.size W2 W2.drew := (Below.refl _ _).drew
      have M0 := Lib.hid (L2.out.call hbk0)
      have c0 := L2.out.st
      obtain ⟨t0, t1, t2, t3, t4, t5, t6, t7, t8⟩ := L2.out.tb
      go_region_held3 (fun w' => w'.cell? ⟨w.heap.size, 0, none⟩ = some (.slice D N cN) ∧ w'.cell? ⟨w.heap.size + 1, 0, none⟩ = some (.int .i64 x.i) ∧ w'.cell? ⟨w.heap.size + 1, 1, none⟩ = some (.int .i64 x.s) ∧ w'.cell? ⟨w.heap.size + 1, 2, none⟩ = some (.int .i64 x.t) ∧ w'.cell? ⟨w.heap.size + 1, 3, none⟩ = some (.int .i64 x.b) ∧ w'.cell? ⟨w.heap.size + 1, 4, none⟩ = some (.int .i64 x.l) ∧ w'.cell? ⟨w.heap.size + 1, 5, none⟩ = some (.int .i64 x.h) ∧ w'.cell? ⟨w.heap.size + 1, 6, none⟩ = some (.int .i64 x.c) ∧ w'.cell? ⟨w.heap.size + 1, 7, none⟩ = some (.slice A n c) ∧ w'.cell? ⟨w.heap.size + 1, 8, none⟩ = some (.slice A2 n2 c2)) (go_keep) (first | (go_at_call 60; (with_reducible refine (impl_hm x q2 (by omega) (by omega) (by omega) (H1.out.below (below_le M1.out.bel hB)) (H2.out.below (below_le M1.out.bel hB)) (H3.out.below (below_le M1.out.bel hB)) (by have := M1.out.size; omega) HRX.out).mono ?_); rintro e W3 ⟨he, hb⟩; rw [HM2.out] at he; subst he; have hbk2 := hbk1.trans (hb.mono hbk1.size); clear hb; have M2 := Lib.hid (L2.out.call hbk2); have v1 := M2.out.st; obtain ⟨u10, u11, u12, u13, u14, u15, u16, u17, u18⟩ := M2.out.tb) | (go_at_call 59; (with_reducible refine (impl_lm x q1 (by omega) (by omega) (by omega) (H1.out.below (below_le M0.out.bel hB)) (H2.out.below (below_le M0.out.bel hB)) (H3.out.below (below_le M0.out.bel hB)) (by have := M0.out.size; omega) HRX.out).mono ?_); rintro e V1 ⟨he, hb⟩; rw [HM1.out] at he; subst he; have hbk1 := hbk0.trans (hb.mono hbk0.size); clear hb; have M1 := Lib.hid (L2.out.call hbk1); have v0 := M1.out.st; obtain ⟨u00, u01, u02, u03, u04, u05, u06, u07, u08⟩ := M1.out.tb))
      all_goals
        have L3 := M2
        clear hbk0 c0 t0 t1 t2 t3 t4 t5 t6 t7 t8 hbk1 v0 u00 u01 u02 u03 u04 u05 u06 u07 u08 hbk2 v1 u10 u11 u12 u13 u14 u15 u16 u17 u18 M0 M1 M2
        try go_wp2_with fail
        go_ret
        exact ⟨cr_pair HQ.out (by rw [HQ1.out, HQ2.out]; exact HLT.out) (by rw [HQ1.out]; exact HM1.out) (by rw [HQ2.out]; exact HM2.out), L3.out.bel⟩
    · have HLT := Lib.hid (show rlI C x R S < Go.Proofs.YtbnkkgjkhpbgiaaGreatDoor.rh.rhI C x R S by rw [HQ1.out, HQ2.out]; omega)
      have t : decide (q2 ≤ q1) = false := decide_eq_false hlt
      clear hlt
      by_cases hab : b ≤ a
      · have HAB := Lib.hid (show ¬ fwL C x R S z < fwH C x R S z by rw [HA.out, HBB.out]; omega)
        have t2 : decide (b ≤ a) = true := decide_eq_true hab
        clear hab
        obtain ⟨-, p, g1⟩ := HE2.out
        go_wp2_with fail
        go_ret
        exact ⟨cr_room HQ.out HLT.out (by have := HAB.out; omega), L2.out.bel⟩
      · have HAB := Lib.hid (show fwL C x R S z < fwH C x R S z by rw [HA.out, HBB.out]; omega)
        have t2 : decide (b ≤ a) = false := decide_eq_false hab
        clear hab
        go_wp2_with fail
        go_ret
        exact ⟨cr_none HQ.out HLT.out HAB.out, L2.out.bel⟩
set_option maxRecDepth 100000 in
set_option maxHeartbeats 3200000 in
theorem impl_may {w : World} {B n c n2 c2 N cN : Nat} {A A2 D : Option Addr} {R S : List E2} {C : List (List Ver)} (x : Hd) (z : Int) (hn : n ≤ 1048576) (hn2 : n2 ≤ 1048576) (hN : N ≤ 1048576) (h1 : Vs w B A n R) (h2 : Vs w B A2 n2 S) (h3 : Rs w B D N C) (hB : B ≤ w.heap.size) (hE : Ev w) :
    Calls Tryz.prog 9 #[.agg #[.slice D N cN], .agg #[.int .i64 x.i, .int .i64 x.s, .int .i64 x.t, .int .i64 x.b, .int .i64 x.l, .int .i64 x.h, .int .i64 x.c, .slice A n c, .slice A2 n2 c2], .int .i64 z] w fun e w' => e = .returned (.bool (mayB C x R S z)) ∧ Below w.heap.size w w' := by
  have H1 := Lib.hid h1
  have H2 := Lib.hid h2
  have H3 := Lib.hid h3
  have HE := Lib.hid hE
  clear h1 h2 h3 hE
  go_enter Tryz.func9, Tryz.ntmps9
  go_wp2_with fail
  have hL := LS.mk2 w (.slice D N cN) 26 30 x A n c A2 n2 c2
  generalize ((w.alloc _).alloc _) = W0 at hL ⊢
  have L0 := Lib.hid hL
  have c0 := hL.st
  obtain ⟨t0, t1, t2, t3, t4, t5, t6, t7, t8⟩ := hL.tb
  clear hL
  go_wp2_with fail
  refine (impl_cr x z (by omega) (by omega) (by omega) (H1.out.below (below_le L0.out.bel hB)) (H2.out.below (below_le L0.out.bel hB)) (H3.out.below (below_le L0.out.bel hB)) (by have := L0.out.size; omega) (HE.out.below L0.out.bel)).mono ?_
  rintro e W1 ⟨he, hb⟩
  have L1 := Lib.hid (L0.out.call hb)
  clear hb c0 t0 t1 t2 t3 t4 t5 t6 t7 t8
  rcases he with ⟨h, rfl⟩ | ⟨h, h2, rfl⟩ | ⟨h, h2, p, rfl⟩
  · have HX := Lib.hid (may_xp h)
    clear h
    go_wp2_with fail
    go_ret
    exact ⟨ret_b HX.out.symm, L1.out.bel⟩
  · have HX := Lib.hid h2
    clear h h2
    go_wp2_with fail
    go_ret
    exact ⟨ret_b HX.out.symm, L1.out.bel⟩
  · have HX := Lib.hid h2
    clear h h2
    go_wp2_with fail
    go_ret
    exact ⟨ret_b HX.out.symm, L1.out.bel⟩
set_option maxRecDepth 100000 in
set_option maxHeartbeats 3200000 in
theorem spec_may {w : World} {B n c n2 c2 N cN : Nat} {A A2 D : Option Addr} {R S : List E2} {C : List (List Ver)} (x : Hd) (z : Int) (hn : n ≤ 1048576) (hn2 : n2 ≤ 1048576) (hN : N ≤ 1048576) (h1 : Vs w B A n R) (h2 : Vs w B A2 n2 S) (h3 : Rs w B D N C) (hB : B ≤ w.heap.size) :
    Calls Tryz.prog 10 #[.agg #[.slice D N cN], .agg #[.int .i64 x.i, .int .i64 x.s, .int .i64 x.t, .int .i64 x.b, .int .i64 x.l, .int .i64 x.h, .int .i64 x.c, .slice A n c, .slice A2 n2 c2], .int .i64 z] w fun e w' => e = .returned (.bool (mayB C x R S z)) ∧ Below w.heap.size w w' := by
  have H1 := Lib.hid h1
  have H2 := Lib.hid h2
  have H3 := Lib.hid h3
  clear h1 h2 h3
  obtain ⟨a, ha⟩ : ∃ q, fwL C x R S z = q := ⟨_, rfl⟩
  obtain ⟨b, hb0⟩ : ∃ q, fwH C x R S z = q := ⟨_, rfl⟩
  have HA := Lib.hid ha
  have HBB := Lib.hid hb0
  clear ha hb0
  go_enter Tryz.func10, Tryz.ntmps10
  go_wp2_with fail
  have hL := LS.mk2 w (.slice D N cN) 26 30 x A n c A2 n2 c2
  generalize ((w.alloc _).alloc _) = W0 at hL ⊢
  have L0 := Lib.hid hL
  have c0 := hL.st
  obtain ⟨t0, t1, t2, t3, t4, t5, t6, t7, t8⟩ := hL.tb
  clear hL
  go_wp2_with fail
  refine (spec_fw x z (by omega) (by omega) (by omega) (H1.out.below (below_le L0.out.bel hB)) (H2.out.below (below_le L0.out.bel hB)) (H3.out.below (below_le L0.out.bel hB)) (by have := L0.out.size; omega)).mono ?_
  rintro e W1 ⟨he, hb⟩
  rw [HA.out, HBB.out] at he
  have L1 := Lib.hid (L0.out.call hb)
  clear hb c0 t0 t1 t2 t3 t4 t5 t6 t7 t8
  rcases hq : fwB C x R S z with _ | _
  · rw [hq] at he
    subst he
    have HQ := Lib.hid (may_no hq)
    clear hq
    go_wp2_with fail
    go_ret
    exact ⟨ret_b HQ.out.symm, L1.out.bel⟩
  · rw [hq] at he
    subst he
    have HQ := Lib.hid (may_is hq)
    clear hq
    go_wp2_with fail
    go_ret
    exact ⟨ret_b (by rw [HQ.out, HA.out, HBB.out]), L1.out.bel⟩
end Go.Proofs.YtbnkkgjkhpbgiaaGreatDoor.crm
