/- FinalWindow, WindowRoom, IsExcluded of the program and of the model: what each answers; nothing that was there is written. -/
import Derived.Test.YtbnkkgjkhpbgiaaGreatDoorEm
import Derived.Test.YtbnkkgjkhpbgiaaGreatDoorIa
import Derived.Test.YtbnkkgjkhpbgiaaGreatDoorTvs
import Derived.Deep.RegionHeld3
namespace Go.Proofs.YtbnkkgjkhpbgiaaGreatDoor.fw
open Go.ChangeShapes Go.WideShapes Go.ChangeAt Go.RowKit
open Go.Proofs.YtbnkkgjkhpbgiaaGreatDoor.el2 Go.Proofs.YtbnkkgjkhpbgiaaGreatDoor.tx Go.Proofs.YtbnkkgjkhpbgiaaGreatDoor.seq Go.Proofs.YtbnkkgjkhpbgiaaGreatDoor.tv Go.Proofs.YtbnkkgjkhpbgiaaGreatDoor.tf Go.Proofs.YtbnkkgjkhpbgiaaGreatDoor.rx Go.Proofs.YtbnkkgjkhpbgiaaGreatDoor.ri Go.Proofs.YtbnkkgjkhpbgiaaGreatDoor.rl Go.Proofs.YtbnkkgjkhpbgiaaGreatDoor.em Go.Proofs.YtbnkkgjkhpbgiaaGreatDoor.ia
open Go.Proofs.YtbnkkgjkhpbgiaaGreatDoor.vers (new2 ret_b)
open Go.Proofs.YtbnkkgjkhpbgiaaGreatDoor.sl (Ver)
open Go.Proofs.YtbnkkgjkhpbgiaaGreatDoor.st (Rs)
open Go.Proofs.YtbnkkgjkhpbgiaaGreatDoor.val (stB)
open Go.Proofs.YtbnkkgjkhpbgiaaGreatDoor.last (lstS)
set_option linter.unusedVariables false
set_option linter.unusedSimpArgs false
theorem ret_3 {a b a' b' : Int} {p q : Bool} (h : a = b) (h' : a' = b') (h2 : p = q) : Ending.returned (.tuple #[.int .i64 a, .int .i64 a', .bool p]) = .returned (.tuple #[.int .i64 b, .int .i64 b', .bool q]) := by rw [h, h', h2]
theorem min3 (x y z : Int) (w : World) : (Builtin.min_ #[3, 3, 3] 3 #[.int .i64 x, .int .i64 y, .int .i64 z]).run Tryz.prog w = .ok (.int .i64 (min (min x y) z)) w := by
  have e : (if y < x then y else x) = min x y := by
    rw [Int.min_def]
    split <;> split <;> omega
  have e2 : (if z < min x y then z else min x y) = min (min x y) z := by
    generalize min x y = u
    rw [Int.min_def]
    split <;> split <;> omega
  simp [Builtin.min_, Builtin.min2, e, e2]
/-- what is below a transaction's or a store's high end -/
noncomputable def excB (x : Hd) (R S : List E2) : Bool := txB x R S && decide (x.h ≤ x.l)
theorem exc_no {x : Hd} {R S : List E2} (h : txB x R S = false) : false = excB x R S := by simp [excB, h]
theorem exc_is {x : Hd} {R S : List E2} (h : txB x R S = true) : decide (x.h ≤ x.l) = excB x R S := by simp [excB, h]
theorem un_a {C : List (List Ver)} {z : Int} (h : ¬ lstS C < z) : false = unB C z := by simp [unB, h]
theorem un_b {C : List (List Ver)} {z : Int} (h : lstS C < z) : decide (z ≤ 999) = unB C z := by simp [unB, h]
set_option maxRecDepth 100000 in
set_option maxHeartbeats 1600000 in
theorem impl_un {w : World} {B N cN : Nat} {D : Option Addr} {C : List (List Ver)} (z : Int) (hN : N ≤ 1048576) (h3 : Rs w B D N C) (hB : B ≤ w.heap.size) :
    Calls Tryz.prog 26 #[.agg #[.slice D N cN], .int .i64 z] w fun e w' => e = .returned (.bool (unB C z)) ∧ Below w.heap.size w w' := by
  have H3 := Lib.hid h3
  clear h3
  obtain ⟨m, hm⟩ : ∃ m, lstS C = m := ⟨_, rfl⟩
  have HM := Lib.hid hm
  clear hm
  go_enter Tryz.func26, Tryz.ntmps26
  go_wp2_with fail
  have z0 := st.one_cell w (.slice D N cN) 26
  have hb0 := new1 w (.cells #[.slice D N cN] 26)
  have hs0 : (w.alloc (.cells #[.slice D N cN] 26)).heap.size = w.heap.size + 1 := by simp
  generalize w.alloc _ = W0 at z0 hb0 hs0 ⊢
  have HB0 := Lib.hid hb0
  clear hb0
  go_wp2_with fail
  refine (Go.Proofs.YtbnkkgjkhpbgiaaGreatDoor.last.impl_last (by omega) (H3.out.below (below_le HB0.out hB)) (by omega)).mono ?_
  rintro e W1 ⟨he, hb⟩
  rw [HM.out] at he
  subst he
  have HB1 := Lib.hid (HB0.out.trans (hb.mono HB0.out.size))
  clear hb z0
  by_cases hq : m < z
  · have t : decide (m < z) = true := decide_eq_true hq
    have HQ := Lib.hid hq
    clear hq
    go_wp2_with fail
    go_ret
    exact ⟨ret_b (un_b (by rw [HM.out]; exact HQ.out)), HB1.out⟩
  · have t : decide (m < z) = false := decide_eq_false hq
    have HQ := Lib.hid hq
    clear hq
    go_wp2_with fail
    go_ret
    exact ⟨ret_b (un_a (by rw [HM.out]; have := HQ.out; omega)), HB1.out⟩
set_option maxRecDepth 100000 in
set_option maxHeartbeats 3200000 in
theorem impl_fw {w : World} {B n c n2 c2 N cN : Nat} {A A2 D : Option Addr} {R S : List E2} {C : List (List Ver)} (x : Hd) (z : Int) (hn : n ≤ 1048576) (hn2 : n2 ≤ 1048576) (hN : N ≤ 1048576) (h1 : Vs w B A n R) (h2 : Vs w B A2 n2 S) (h3 : Rs w B D N C) (hB : B ≤ w.heap.size) :
    Calls Tryz.prog 7 #[.agg #[.slice D N cN], .agg #[.int .i64 x.i, .int .i64 x.s, .int .i64 x.t, .int .i64 x.b, .int .i64 x.l, .int .i64 x.h, .int .i64 x.c, .slice A n c, .slice A2 n2 c2], .int .i64 z] w fun e w' => e = .returned (.tuple #[.int .i64 (fwL C x R S z), .int .i64 (fwH C x R S z), .bool (fwB C x R S z)]) ∧ Below w.heap.size w w' := by
  have H1 := Lib.hid h1
  have H2 := Lib.hid h2
  have H3 := Lib.hid h3
  clear h1 h2 h3
  obtain ⟨q1, hq1⟩ : ∃ q, rlI C x R S = q := ⟨_, rfl⟩
  obtain ⟨q2, hq2⟩ : ∃ q, Go.Proofs.YtbnkkgjkhpbgiaaGreatDoor.rh.rhI C x R S = q := ⟨_, rfl⟩
  have HQ1 := Lib.hid hq1
  have HQ2 := Lib.hid hq2
  clear hq1 hq2
  go_enter Tryz.func7, Tryz.ntmps7
  go_wp2_with fail
  have hL := LS.mk2 w (.slice D N cN) 26 30 x A n c A2 n2 c2
  generalize ((w.alloc _).alloc _) = W0 at hL ⊢
  have L0 := Lib.hid hL
  have c0 := hL.st
  obtain ⟨t0, t1, t2, t3, t4, t5, t6, t7, t8⟩ := hL.tb
  clear hL
  go_wp2_with fail
  refine (impl_rex x (by omega) (by omega) (by omega) (H1.out.below (below_le L0.out.bel hB)) (H2.out.below (below_le L0.out.bel hB)) (H3.out.below (below_le L0.out.bel hB)) (by have := L0.out.size; omega)).mono ?_
  rintro e W1 ⟨rfl, hb⟩
  have L1 := Lib.hid (L0.out.call hb)
  clear hb c0 t0 t1 t2 t3 t4 t5 t6 t7 t8
  rcases hrx : rexB C x R S with _ | _
  · have HRX := Lib.hid hrx
    clear hrx
    go_wp2_with fail
    exact bodyPost_ret (v := .tuple #[.int .i64 0, .int .i64 0, .bool false]) (by simp [results, Tryz.results7, go_sem]) rfl ⟨ret_3 (fwL_no (fw_rex HRX.out)).symm (fwH_no (fw_rex HRX.out)).symm (fw_rex HRX.out).symm, L1.out.bel⟩
  have HRX := Lib.hid hrx
  clear hrx
  have c0 := L1.out.st
  obtain ⟨t0, t1, t2, t3, t4, t5, t6, t7, t8⟩ := L1.out.tb
  go_wp2_with fail
  refine (impl_active x (by omega) (by omega) (H1.out.below (below_le L1.out.bel hB)) (H2.out.below (below_le L1.out.bel hB)) (by have := L1.out.size; omega)).mono ?_
  rintro e W2 ⟨he, hb⟩
  rw [← act_t (rex_parts HRX.out).2.1] at he
  have L2 := Lib.hid (L1.out.call hb)
  clear hb c0 t0 t1 t2 t3 t4 t5 t6 t7 t8
  by_cases hx : x.t = 1
  case neg =>
    have e0 : decide (x.t = 1) = false := decide_eq_false hx
    rw [e0] at he
    subst he
    have HX := Lib.hid hx
    clear hx e0
    go_wp2_with fail
    exact bodyPost_ret (v := .tuple #[.int .i64 0, .int .i64 0, .bool false]) (by simp [results, Tryz.results7, go_sem]) rfl ⟨ret_3 (fwL_no (fw_act HX.out)).symm (fwH_no (fw_act HX.out)).symm (fw_act HX.out).symm, L2.out.bel⟩
  have e0 : decide (x.t = 1) = true := decide_eq_true hx
  rw [e0] at he
  subst he
  have HX := Lib.hid hx
  clear hx e0
  have c0 := L2.out.st
  obtain ⟨t0, t1, t2, t3, t4, t5, t6, t7, t8⟩ := L2.out.tb
  go_wp2_with fail
  refine (impl_un z (by omega) (H3.out.below (below_le L2.out.bel hB)) (by have := L2.out.size; omega)).mono ?_
  rintro e W3 ⟨rfl, hb⟩
  have L3 := Lib.hid (L2.out.call hb)
  clear hb c0 t0 t1 t2 t3 t4 t5 t6 t7 t8
  rcases hun : unB C z with _ | _
  · have HU := Lib.hid hun
    clear hun
    go_wp2_with fail
    exact bodyPost_ret (v := .tuple #[.int .i64 0, .int .i64 0, .bool false]) (by simp [results, Tryz.results7, go_sem]) rfl ⟨ret_3 (fwL_no (fw_un HU.out)).symm (fwH_no (fw_un HU.out)).symm (fw_un HU.out).symm, L3.out.bel⟩
  have HU := Lib.hid hun
  clear hun
  have HALL := Lib.hid (fw_all HRX.out HX.out HU.out)
  go_wp2_with fail
  have hbk0 : Below W3.heap.size W3 W3.drew := (Below.refl _ _).drew
  have M0 := Lib.hid (L3.out.call hbk0)
  have c0 := L3.out.st
  obtain ⟨t0, t1, t2, t3, t4, t5, t6, t7, t8⟩ := L3.out.tb
  go_region_held3 (fun w' => w'.cell? ⟨w.heap.size, 0, none⟩ = some (.slice D N cN) ∧ w'.cell? ⟨w.heap.size + 1, 0, none⟩ = some (.int .i64 x.i) ∧ w'.cell? ⟨w.heap.size + 1, 1, none⟩ = some (.int .i64 x.s) ∧ w'.cell? ⟨w.heap.size + 1, 2, none⟩ = some (.int .i64 x.t) ∧ w'.cell? ⟨w.heap.size + 1, 3, none⟩ = some (.int .i64 x.b) ∧ w'.cell? ⟨w.heap.size + 1, 4, none⟩ = some (.int .i64 x.l) ∧ w'.cell? ⟨w.heap.size + 1, 5, none⟩ = some (.int .i64 x.h) ∧ w'.cell? ⟨w.heap.size + 1, 6, none⟩ = some (.int .i64 x.c) ∧ w'.cell? ⟨w.heap.size + 1, 7, none⟩ = some (.slice A n c) ∧ w'.cell? ⟨w.heap.size + 1, 8, none⟩ = some (.slice A2 n2 c2)) (go_keep) (first | (go_at_call 27; (with_reducible refine (impl_rl x (by omega) (by omega) (by omega) (H1.out.below (below_le M0.out.bel hB)) (H2.out.below (below_le M0.out.bel hB)) (H3.out.below (below_le M0.out.bel hB)) (by have := M0.out.size; omega)).mono ?_); rintro e W4 ⟨he, hb⟩; rw [HQ1.out] at he; subst he; have hbk1 := hbk0.trans (hb.mono hbk0.size); clear hb; have M1 := Lib.hid (L3.out.call hbk1); have v0 := M1.out.st; obtain ⟨u00, u01, u02, u03, u04, u05, u06, u07, u08⟩ := M1.out.tb))
  have L4 := M1
  clear hbk0 c0 t0 t1 t2 t3 t4 t5 t6 t7 t8 hbk1 v0 u00 u01 u02 u03 u04 u05 u06 u07 u08 M0 M1
  try go_wp2_with fail
  have hmn := min3 x.h q2 z
  have hbk0 : Below W4.heap.size W4 W4.drew := (Below.refl _ _).drew
  have M0 := Lib.hid (L4.out.call hbk0)
  have c0 := L4.out.st
  obtain ⟨t0, t1, t2, t3, t4, t5, t6, t7, t8⟩ := L4.out.tb
  go_region_held3 (fun w' => w'.cell? ⟨w.heap.size, 0, none⟩ = some (.slice D N cN) ∧ w'.cell? ⟨w.heap.size + 1, 0, none⟩ = some (.int .i64 x.i) ∧ w'.cell? ⟨w.heap.size + 1, 1, none⟩ = some (.int .i64 x.s) ∧ w'.cell? ⟨w.heap.size + 1, 2, none⟩ = some (.int .i64 x.t) ∧ w'.cell? ⟨w.heap.size + 1, 3, none⟩ = some (.int .i64 x.b) ∧ w'.cell? ⟨w.heap.size + 1, 4, none⟩ = some (.int .i64 x.l) ∧ w'.cell? ⟨w.heap.size + 1, 5, none⟩ = some (.int .i64 x.h) ∧ w'.cell? ⟨w.heap.size + 1, 6, none⟩ = some (.int .i64 x.c) ∧ w'.cell? ⟨w.heap.size + 1, 7, none⟩ = some (.slice A n c) ∧ w'.cell? ⟨w.heap.size + 1, 8, none⟩ = some (.slice A2 n2 c2)) (go_keep) (first | (go_at_call 28; (with_reducible refine (Go.Proofs.YtbnkkgjkhpbgiaaGreatDoor.rh.impl_rh x (by omega) (by omega) (by omega) (H1.out.below (below_le M0.out.bel hB)) (H2.out.below (below_le M0.out.bel hB)) (H3.out.below (below_le M0.out.bel hB)) (by have := M0.out.size; omega)).mono ?_); rintro e W5 ⟨he, hb⟩; rw [HQ2.out] at he; subst he; have hbk1 := hbk0.trans (hb.mono hbk0.size); clear hb; have M1 := Lib.hid (L4.out.call hbk1); have v0 := M1.out.st; obtain ⟨u00, u01, u02, u03, u04, u05, u06, u07, u08⟩ := M1.out.tb))
  have L5 := M1
  clear hbk0 c0 t0 t1 t2 t3 t4 t5 t6 t7 t8 hbk1 v0 u00 u01 u02 u03 u04 u05 u06 u07 u08 M0 M1
  clear hmn
  try go_wp2_with fail
  exact bodyPost_ret (v := .tuple #[.int .i64 (max x.l q1), .int .i64 (min (min x.h q2) z), .bool true]) (by simp [results, Tryz.results7, go_sem]) rfl ⟨ret_3 (by rw [fwL_yes HALL.out, HQ1.out]) (by rw [fwH_yes HALL.out, HQ2.out]) HALL.out.symm, L5.out.bel⟩
set_option maxRecDepth 100000 in
set_option maxHeartbeats 3200000 in
theorem spec_fw {w : World} {B n c n2 c2 N cN : Nat} {A A2 D : Option Addr} {R S : List E2} {C : List (List Ver)} (x : Hd) (z : Int) (hn : n ≤ 1048576) (hn2 : n2 ≤ 1048576) (hN : N ≤ 1048576) (h1 : Vs w B A n R) (h2 : Vs w B A2 n2 S) (h3 : Rs w B D N C) (hB : B ≤ w.heap.size) :
    Calls Tryz.prog 8 #[.agg #[.slice D N cN], .agg #[.int .i64 x.i, .int .i64 x.s, .int .i64 x.t, .int .i64 x.b, .int .i64 x.l, .int .i64 x.h, .int .i64 x.c, .slice A n c, .slice A2 n2 c2], .int .i64 z] w fun e w' => e = .returned (.tuple #[.int .i64 (fwL C x R S z), .int .i64 (fwH C x R S z), .bool (fwB C x R S z)]) ∧ Below w.heap.size w w' := by
  have H1 := Lib.hid h1
  have H2 := Lib.hid h2
  have H3 := Lib.hid h3
  clear h1 h2 h3
  obtain ⟨q1, hq1⟩ : ∃ q, rlI C x R S = q := ⟨_, rfl⟩
  obtain ⟨q2, hq2⟩ : ∃ q, Go.Proofs.YtbnkkgjkhpbgiaaGreatDoor.rh.rhI C x R S = q := ⟨_, rfl⟩
  have HQ1 := Lib.hid hq1
  have HQ2 := Lib.hid hq2
  clear hq1 hq2
  go_enter Tryz.func8, Tryz.ntmps8
  go_wp2_with fail
  have hL := LS.mk2 w (.slice D N cN) 26 30 x A n c A2 n2 c2
  generalize ((w.alloc _).alloc _) = W0 at hL ⊢
  have L0 := Lib.hid hL
  have c0 := hL.st
  obtain ⟨t0, t1, t2, t3, t4, t5, t6, t7, t8⟩ := hL.tb
  clear hL
  go_wp2_with fail
  refine (spec_rex x (by omega) (by omega) (by omega) (H1.out.below (below_le L0.out.bel hB)) (H2.out.below (below_le L0.out.bel hB)) (H3.out.below (below_le L0.out.bel hB)) (by have := L0.out.size; omega)).mono ?_
  rintro e W1 ⟨rfl, hb⟩
  have L1 := Lib.hid (L0.out.call hb)
  clear hb c0 t0 t1 t2 t3 t4 t5 t6 t7 t8
  rcases hrx : rexB C x R S with _ | _
  · have HRX := Lib.hid hrx
    clear hrx
    go_wp2_with fail
    exact bodyPost_ret (v := .tuple #[.int .i64 0, .int .i64 0, .bool false]) (by simp [results, Tryz.results8, go_sem]) rfl ⟨ret_3 (fwL_no (fw_rex HRX.out)).symm (fwH_no (fw_rex HRX.out)).symm (fw_rex HRX.out).symm, L1.out.bel⟩
  have HRX := Lib.hid hrx
  clear hrx
  have c0 := L1.out.st
  obtain ⟨t0, t1, t2, t3, t4, t5, t6, t7, t8⟩ := L1.out.tb
  by_cases hx : x.t = 1
  case neg =>
    have e0 : (x.t != 1) = true := by simp [hx]
    have HX := Lib.hid hx
    clear hx
    go_wp2_with fail
    exact bodyPost_ret (v := .tuple #[.int .i64 0, .int .i64 0, .bool false]) (by simp [results, Tryz.results8, go_sem]) rfl ⟨ret_3 (fwL_no (fw_act HX.out)).symm (fwH_no (fw_act HX.out)).symm (fw_act HX.out).symm, L1.out.bel⟩
  have e0 : (x.t != 1) = false := by simp [hx]
  have HX := Lib.hid hx
  clear hx
  obtain ⟨m, hm⟩ : ∃ m, lstS C = m := ⟨_, rfl⟩
  have hr := lst_range C
  rw [hm] at hr
  obtain ⟨hr0, hr1⟩ := hr
  have HM := Lib.hid hm
  clear hm
  go_wp2_with fail
  clear e0
  refine (Go.Proofs.YtbnkkgjkhpbgiaaGreatDoor.last.spec_last (by omega) (H3.out.below (below_le L1.out.bel hB)) (by have := L1.out.size; omega)).mono ?_
  rintro e W2 ⟨he, hb⟩
  rw [HM.out] at he
  subst he
  have L2 := Lib.hid (L1.out.call hb)
  clear hb c0 t0 t1 t2 t3 t4 t5 t6 t7 t8
  go_wp2_with fail
  refine (Go.Proofs.YtbnkkgjkhpbgiaaGreatDoor.vers.in_range _ _ _ _).mono ?_
  rintro e W3 ⟨he, rfl⟩
  have hz : Go.Proofs.YtbnkkgjkhpbgiaaGreatDoor.vers.In (m + 1) 999 z = unB C z := by rw [← HM.out]; exact un_spec C z
  rw [hz] at he
  subst he
  clear hz
  rcases hun : unB C z with _ | _
  · have HU := Lib.hid hun
    clear hun
    go_wp2_with fail
    exact bodyPost_ret (v := .tuple #[.int .i64 0, .int .i64 0, .bool false]) (by simp [results, Tryz.results8, go_sem]) rfl ⟨ret_3 (fwL_no (fw_un HU.out)).symm (fwH_no (fw_un HU.out)).symm (fw_un HU.out).symm, L2.out.bel⟩
  have HU := Lib.hid hun
  clear hun hr0 hr1
  have HALL := Lib.hid (fw_all HRX.out HX.out HU.out)
  have hmn := min3 x.h q2 z
  go_wp2_with fail
  have hbk0 : Below W2.heap.size W2 W2.drew := (Below.refl _ _).drew
  have M0 := Lib.hid (L2.out.call hbk0)
  have c0 := L2.out.st
  obtain ⟨t0, t1, t2, t3, t4, t5, t6, t7, t8⟩ := L2.out.tb
  go_region_held3 (fun w' => w'.cell? ⟨w.heap.size, 0, none⟩ = some (.slice D N cN) ∧ w'.cell? ⟨w.heap.size + 1, 0, none⟩ = some (.int .i64 x.i) ∧ w'.cell? ⟨w.heap.size + 1, 1, none⟩ = some (.int .i64 x.s) ∧ w'.cell? ⟨w.heap.size + 1, 2, none⟩ = some (.int .i64 x.t) ∧ w'.cell? ⟨w.heap.size + 1, 3, none⟩ = some (.int .i64 x.b) ∧ w'.cell? ⟨w.heap.size + 1, 4, none⟩ = some (.int .i64 x.l) ∧ w'.cell? ⟨w.heap.size + 1, 5, none⟩ = some (.int .i64 x.h) ∧ w'.cell? ⟨w.heap.size + 1, 6, none⟩ = some (.int .i64 x.c) ∧ w'.cell? ⟨w.heap.size + 1, 7, none⟩ = some (.slice A n c) ∧ w'.cell? ⟨w.heap.size + 1, 8, none⟩ = some (.slice A2 n2 c2)) (go_keep) (first | (go_at_call 33; (with_reducible refine (Go.Proofs.YtbnkkgjkhpbgiaaGreatDoor.rh.spec_rh x (by omega) (by omega) (by omega) (H1.out.below (below_le M1.out.bel hB)) (H2.out.below (below_le M1.out.bel hB)) (H3.out.below (below_le M1.out.bel hB)) (by have := M1.out.size; omega)).mono ?_); rintro e W3 ⟨he, hb⟩; rw [HQ2.out] at he; subst he; have hbk2 := hbk1.trans (hb.mono hbk1.size); clear hb; have M2 := Lib.hid (L2.out.call hbk2); have v1 := M2.out.st; obtain ⟨u10, u11, u12, u13, u14, u15, u16, u17, u18⟩ := M2.out.tb) | (go_at_call 32; (with_reducible refine (spec_rl x (by omega) (by omega) (by omega) (H1.out.below (below_le M0.out.bel hB)) (H2.out.below (below_le M0.out.bel hB)) (H3.out.below (below_le M0.out.bel hB)) (by have := M0.out.size; omega)).mono ?_); rintro e V1 ⟨he, hb⟩; rw [HQ1.out] at he; subst he; have hbk1 := hbk0.trans (hb.mono hbk0.size); clear hb; have M1 := Lib.hid (L2.out.call hbk1); have v0 := M1.out.st; obtain ⟨u00, u01, u02, u03, u04, u05, u06, u07, u08⟩ := M1.out.tb))
  all_goals
    have L3 := M2
    clear hbk0 c0 t0 t1 t2 t3 t4 t5 t6 t7 t8 hbk1 v0 u00 u01 u02 u03 u04 u05 u06 u07 u08 hbk2 v1 u10 u11 u12 u13 u14 u15 u16 u17 u18 M0 M1 M2
    clear hmn
    try go_wp2_with fail
    exact bodyPost_ret (v := .tuple #[.int .i64 (max x.l q1), .int .i64 (min (min x.h q2) z), .bool true]) (by simp [results, Tryz.results8, go_sem]) rfl ⟨ret_3 (by rw [fwL_yes HALL.out, HQ1.out]) (by rw [fwH_yes HALL.out, HQ2.out]) HALL.out.symm, L3.out.bel⟩
set_option maxRecDepth 100000 in
set_option maxHeartbeats 3200000 in
theorem impl_room {w : World} {B n c n2 c2 N cN : Nat} {A A2 D : Option Addr} {R S : List E2} {C : List (List Ver)} (x : Hd) (z : Int) (hn : n ≤ 1048576) (hn2 : n2 ≤ 1048576) (hN : N ≤ 1048576) (h1 : Vs w B A n R) (h2 : Vs w B A2 n2 S) (h3 : Rs w B D N C) (hB : B ≤ w.heap.size) :
    Calls Tryz.prog 11 #[.agg #[.slice D N cN], .agg #[.int .i64 x.i, .int .i64 x.s, .int .i64 x.t, .int .i64 x.b, .int .i64 x.l, .int .i64 x.h, .int .i64 x.c, .slice A n c, .slice A2 n2 c2], .int .i64 z] w fun e w' => e = .returned (.int .i64 (roomI C x R S z)) ∧ Below w.heap.size w w' := by
  have H1 := Lib.hid h1
  have H2 := Lib.hid h2
  have H3 := Lib.hid h3
  clear h1 h2 h3
  obtain ⟨a, ha⟩ : ∃ q, fwL C x R S z = q := ⟨_, rfl⟩
  obtain ⟨b, hb0⟩ : ∃ q, fwH C x R S z = q := ⟨_, rfl⟩
  have hra := fwL_range C x R S z
  have hrb := fwH_range C x R S z
  rw [ha] at hra
  rw [hb0] at hrb
  obtain ⟨a0, a1⟩ := hra
  obtain ⟨b0, b1⟩ := hrb
  have HA := Lib.hid ha
  have HBB := Lib.hid hb0
  clear ha hb0
  go_enter Tryz.func11, Tryz.ntmps11
  go_wp2_with fail
  have hL := LS.mk2 w (.slice D N cN) 26 30 x A n c A2 n2 c2
  generalize ((w.alloc _).alloc _) = W0 at hL ⊢
  have L0 := Lib.hid hL
  have c0 := hL.st
  obtain ⟨t0, t1, t2, t3, t4, t5, t6, t7, t8⟩ := hL.tb
  clear hL
  go_wp2_with fail
  refine (impl_fw x z (by omega) (by omega) (by omega) (H1.out.below (below_le L0.out.bel hB)) (H2.out.below (below_le L0.out.bel hB)) (H3.out.below (below_le L0.out.bel hB)) (by have := L0.out.size; omega)).mono ?_
  rintro e W1 ⟨he, hb⟩
  rw [HA.out, HBB.out] at he
  have L1 := Lib.hid (L0.out.call hb)
  clear hb c0 t0 t1 t2 t3 t4 t5 t6 t7 t8
  rcases hq : fwB C x R S z with _ | _
  · rw [hq] at he
    subst he
    have HQ := Lib.hid hq
    have hab : b - a = 0 := by rw [← HA.out, ← HBB.out, fwL_no HQ.out, fwH_no HQ.out]; rfl
    have HAB := Lib.hid hab
    clear hq hab
    go_wp2_with fail
    go_ret
    exact ⟨Go.Proofs.YtbnkkgjkhpbgiaaGreatDoor.rl.ret_i (by unfold roomI; rw [HA.out, HBB.out] <;> first | done | rfl | exact HAB.out.symm), L1.out.bel⟩
  · rw [hq] at he
    subst he
    clear hq
    go_wp2_with fail
    go_ret
    exact ⟨Go.Proofs.YtbnkkgjkhpbgiaaGreatDoor.rl.ret_i (by unfold roomI; rw [HA.out, HBB.out]), L1.out.bel⟩
set_option maxRecDepth 100000 in
set_option maxHeartbeats 3200000 in
theorem spec_room {w : World} {B n c n2 c2 N cN : Nat} {A A2 D : Option Addr} {R S : List E2} {C : List (List Ver)} (x : Hd) (z : Int) (hn : n ≤ 1048576) (hn2 : n2 ≤ 1048576) (hN : N ≤ 1048576) (h1 : Vs w B A n R) (h2 : Vs w B A2 n2 S) (h3 : Rs w B D N C) (hB : B ≤ w.heap.size) :
    Calls Tryz.prog 12 #[.agg #[.slice D N cN], .agg #[.int .i64 x.i, .int .i64 x.s, .int .i64 x.t, .int .i64 x.b, .int .i64 x.l, .int .i64 x.h, .int .i64 x.c, .slice A n c, .slice A2 n2 c2], .int .i64 z] w fun e w' => e = .returned (.int .i64 (roomI C x R S z)) ∧ Below w.heap.size w w' := by
  have H1 := Lib.hid h1
  have H2 := Lib.hid h2
  have H3 := Lib.hid h3
  clear h1 h2 h3
  obtain ⟨a, ha⟩ : ∃ q, fwL C x R S z = q := ⟨_, rfl⟩
  obtain ⟨b, hb0⟩ : ∃ q, fwH C x R S z = q := ⟨_, rfl⟩
  have hra := fwL_range C x R S z
  have hrb := fwH_range C x R S z
  rw [ha] at hra
  rw [hb0] at hrb
  obtain ⟨a0, a1⟩ := hra
  obtain ⟨b0, b1⟩ := hrb
  have HA := Lib.hid ha
  have HBB := Lib.hid hb0
  clear ha hb0
  go_enter Tryz.func12, Tryz.ntmps12
  go_wp2_with fail
  have hL := LS.mk2 w (.slice D N cN) 26 30 x A n c A2 n2 c2
  generalize ((w.alloc _).alloc _) = W0 at hL ⊢
  have L0 := Lib.hid hL
  have c0 := hL.st
  obtain ⟨t0, t1, t2, t3, t4, t5, t6, t7, t8⟩ := hL.tb
  clear hL
  go_wp2_with fail
  refine (spec_fw x z (by omega) (by omega) (by omega) (H1.out.below (below_le L0.out.bel hB)) (H2.out.below (below_le L0.out.bel hB)) (H3.out.below (below_le L0.out.bel hB)) (by have := L0.out.size; omega)).mono ?_
  rintro e W1 ⟨he, hb⟩
  rw [HA.out, HBB.out] at he
  have L1 := Lib.hid (L0.out.call hb)
  clear hb c0 t0 t1 t2 t3 t4 t5 t6 t7 t8
  rcases hq : fwB C x R S z with _ | _
  · rw [hq] at he
    subst he
    have HQ := Lib.hid hq
    have hab : b - a = 0 := by rw [← HA.out, ← HBB.out, fwL_no HQ.out, fwH_no HQ.out]; rfl
    have HAB := Lib.hid hab
    clear hq hab
    go_wp2_with fail
    go_ret
    exact ⟨Go.Proofs.YtbnkkgjkhpbgiaaGreatDoor.rl.ret_i (by unfold roomI; rw [HA.out, HBB.out] <;> first | done | rfl | exact HAB.out.symm), L1.out.bel⟩
  · rw [hq] at he
    subst he
    clear hq
    go_wp2_with fail
    go_ret
    exact ⟨Go.Proofs.YtbnkkgjkhpbgiaaGreatDoor.rl.ret_i (by unfold roomI; rw [HA.out, HBB.out]), L1.out.bel⟩
end Go.Proofs.YtbnkkgjkhpbgiaaGreatDoor.fw
