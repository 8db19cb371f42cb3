/- IsValidOp of the model: what it answers at six numbers. -/
import Derived.Test.YtjnlbhmddhpmaabDoorOvp
namespace Go.Proofs.YtjnlbhmddhpmaabDoor.ovp
open Go.ChangeShapes Go.WideShapes Go.ChangeAt Go.RowKit
open Go.Proofs.YtjnlbhmddhpmaabDoor.el6
open Go.Proofs.YtjnlbhmddhpmaabDoor.en (Opn ovB)
open Go.Proofs.YtjnlbhmddhpmaabDoor.vers (In in_yes in_no in_of in_off ret_b value_range)
open Go.Proofs.YtjnlbhmddhpmaabDoor.lka (in_q id_q key_q)
set_option linter.unusedVariables false
set_option linter.unusedSimpArgs false
/-- the same, in the model's order -/
theorem sp_eq (x : E6) : ovX x = (decide (useX x = x) && In 1 9 x.b && In 0 5 x.d && In (-1) 99 x.f && decide (1 ≤ x.a ∧ x.a ≤ 6) && (!decide (x.a = 1) || In 1 4 x.c) && (!decide (x.a = 4) || In x.d 5 x.e)) := by
  obtain ⟨a, b, c, d, e, f⟩ := x
  rw [Bool.eq_iff_iff]
  simp only [ovX, ovB, useX, In, Bool.and_eq_true, Bool.or_eq_true, decide_eq_true_eq, Bool.not_eq_true', decide_eq_false_iff_not]
  by_cases h1 : a = 1
  · subst h1; simp; omega
  by_cases h2 : a = 2
  · subst h2; simp; omega
  by_cases h3 : a = 3
  · subst h3; simp; omega
  by_cases h4 : a = 4
  · subst h4; simp; omega
  simp only [if_neg h1, if_neg h2, if_neg h3, if_neg h4]
  simp
  omega
theorem sp_ne {x : E6} (h : decide (useX x = x) = false) : false = ovX x := by rw [sp_eq, h]; rfl
theorem sp_id {x : E6} (h : In 1 9 x.b = false) : false = ovX x := by rw [sp_eq, h]; simp
theorem sp_key {x : E6} (h : In 0 5 x.d = false) : false = ovX x := by rw [sp_eq, h]; simp
theorem sp_val {x : E6} (h : In (-1) 99 x.f = false) : false = ovX x := by rw [sp_eq, h]; simp
theorem sp_all {x : E6} {q r : Bool} (h0 : decide (useX x = x) = true) (h1 : In 1 9 x.b = true) (h2 : In 0 5 x.d = true) (h3 : In (-1) 99 x.f = true) (hk : 1 ≤ x.a ∧ x.a ≤ 6) (hq : (!decide (x.a = 1) || In 1 4 x.c) = q) (hr : (!decide (x.a = 4) || In x.d 5 x.e) = r) : (q && r) = ovX x := by rw [sp_eq, h0, h1, h2, h3, decide_eq_true hk, hq, hr]; simp
set_option maxRecDepth 100000 in
set_option maxHeartbeats 3200000 in
theorem spec_op (a b c d e f : Int) (w : World) :
    Calls Tryd.prog 25 #[.agg #[.int .i64 a, .int .i64 b, .int .i64 c, .int .i64 d, .int .i64 e, .int .i64 f]] w fun e' w' => e' = .returned (.bool (ovX ⟨a, b, c, d, e, f⟩)) ∧ Below w.heap.size w w' := by
  by_cases hk1 : a = 1
  · subst hk1
    have HK : Hid (1 ≤ (⟨1, b, c, d, e, f⟩ : E6).a ∧ (⟨1, b, c, d, e, f⟩ : E6).a ≤ 6) := Lib.hid ⟨by show (1 : Int) ≤ 1; omega, by show (1 : Int) ≤ 6; omega⟩
    have HU : Hid (useX (⟨1, b, c, d, e, f⟩ : E6) = ⟨1, b, c, 0, 0, 0⟩) := Lib.hid rfl
    generalize heq : decide ((⟨1, b, c, 0, 0, 0⟩ : E6) = (⟨1, b, c, d, e, f⟩ : E6)) = qe
    cases qe with
    | false =>
      have HZ : Hid (false = ovX (⟨1, b, c, d, e, f⟩ : E6)) := Lib.hid (sp_ne (by rw [HU.out]; exact heq))
      have HE := Lib.hid heq
      clear heq
      have q7 : ∀ w : World, (binOp .neq 35 (.agg #[.int .i64 1, .int .i64 b, .int .i64 c, .int .i64 0, .int .i64 0, .int .i64 0]) (.agg #[.int .i64 1, .int .i64 b, .int .i64 c, .int .i64 d, .int .i64 e, .int .i64 f])).run Tryd.prog w = .ok (.bool true) w := fun w => neq_o_q (x := ⟨1, b, c, 0, 0, 0⟩) (y := (⟨1, b, c, d, e, f⟩ : E6)) HE.out w
      go_enter Tryd.func25, Tryd.ntmps25
      go_wp2_with fail
      go_ret
      exact ⟨ret_b HZ.out, by first | exact Go.Proofs.YtjnlbhmddhpmaabDoor.vers.new2 _ _ _ | exact Go.Proofs.YtjnlbhmddhpmaabDoor.vers.new3 _ _ _ _ | exact new1 _ _⟩
    | true =>
    have H0 : Hid (decide (useX (⟨1, b, c, d, e, f⟩ : E6) = (⟨1, b, c, d, e, f⟩ : E6)) = true) := Lib.hid (by rw [HU.out]; exact heq)
    have HE := Lib.hid heq
    clear heq
    generalize hi : In 1 9 b = ri
    cases ri with
    | false =>
      have HZ : Hid (false = ovX (⟨1, b, c, d, e, f⟩ : E6)) := Lib.hid (sp_id hi)
      have HI := Lib.hid hi
      clear hi
      have q7 : ∀ w : World, (binOp .neq 35 (.agg #[.int .i64 1, .int .i64 b, .int .i64 c, .int .i64 0, .int .i64 0, .int .i64 0]) (.agg #[.int .i64 1, .int .i64 b, .int .i64 c, .int .i64 d, .int .i64 e, .int .i64 f])).run Tryd.prog w = .ok (.bool false) w := fun w => neq_o_q (x := ⟨1, b, c, 0, 0, 0⟩) (y := (⟨1, b, c, d, e, f⟩ : E6)) HE.out w
      go_enter Tryd.func25, Tryd.ntmps25
      go_wp2_with fail
      refine (in_q HI.out _).mono ?_
      rintro e' W ⟨rfl, rfl⟩
      try go_wp2_with fail
      go_ret
      exact ⟨ret_b HZ.out, by first | exact Go.Proofs.YtjnlbhmddhpmaabDoor.vers.new2 _ _ _ | exact Go.Proofs.YtjnlbhmddhpmaabDoor.vers.new3 _ _ _ _ | exact new1 _ _⟩
    | true =>
    have HI := Lib.hid hi
    clear hi
    generalize hy : In 0 5 d = ry
    cases ry with
    | false =>
      have HZ : Hid (false = ovX (⟨1, b, c, d, e, f⟩ : E6)) := Lib.hid (sp_key hy)
      have HY := Lib.hid hy
      clear hy
      have q7 : ∀ w : World, (binOp .neq 35 (.agg #[.int .i64 1, .int .i64 b, .int .i64 c, .int .i64 0, .int .i64 0, .int .i64 0]) (.agg #[.int .i64 1, .int .i64 b, .int .i64 c, .int .i64 d, .int .i64 e, .int .i64 f])).run Tryd.prog w = .ok (.bool false) w := fun w => neq_o_q (x := ⟨1, b, c, 0, 0, 0⟩) (y := (⟨1, b, c, d, e, f⟩ : E6)) HE.out w
      go_enter Tryd.func25, Tryd.ntmps25
      go_wp2_with fail
      refine (in_q HI.out _).mono ?_
      rintro e' W ⟨rfl, rfl⟩
      try go_wp2_with fail
      refine (in_q HY.out _).mono ?_
      rintro e' W ⟨rfl, rfl⟩
      try go_wp2_with fail
      go_ret
      exact ⟨ret_b HZ.out, by first | exact Go.Proofs.YtjnlbhmddhpmaabDoor.vers.new2 _ _ _ | exact Go.Proofs.YtjnlbhmddhpmaabDoor.vers.new3 _ _ _ _ | exact new1 _ _⟩
    | true =>
    have HY := Lib.hid hy
    clear hy
    generalize hv : In (-1) 99 f = rv
    cases rv with
    | false =>
      have HZ : Hid (false = ovX (⟨1, b, c, d, e, f⟩ : E6)) := Lib.hid (sp_val hv)
      have HV := Lib.hid hv
      clear hv
      have q7 : ∀ w : World, (binOp .neq 35 (.agg #[.int .i64 1, .int .i64 b, .int .i64 c, .int .i64 0, .int .i64 0, .int .i64 0]) (.agg #[.int .i64 1, .int .i64 b, .int .i64 c, .int .i64 d, .int .i64 e, .int .i64 f])).run Tryd.prog w = .ok (.bool false) w := fun w => neq_o_q (x := ⟨1, b, c, 0, 0, 0⟩) (y := (⟨1, b, c, d, e, f⟩ : E6)) HE.out w
      go_enter Tryd.func25, Tryd.ntmps25
      go_wp2_with fail
      refine (in_q HI.out _).mono ?_
      rintro e' W ⟨rfl, rfl⟩
      try go_wp2_with fail
      refine (in_q HY.out _).mono ?_
      rintro e' W ⟨rfl, rfl⟩
      try go_wp2_with fail
      refine (in_q HV.out _).mono ?_
      rintro e' W ⟨rfl, rfl⟩
      try go_wp2_with fail
      go_ret
      exact ⟨ret_b HZ.out, by first | exact Go.Proofs.YtjnlbhmddhpmaabDoor.vers.new2 _ _ _ | exact Go.Proofs.YtjnlbhmddhpmaabDoor.vers.new3 _ _ _ _ | exact new1 _ _⟩
    | true =>
    have HV := Lib.hid hv
    clear hv
    generalize hs : In 1 4 c = rs
    have HZ : Hid ((rs && true) = ovX (⟨1, b, c, d, e, f⟩ : E6)) := Lib.hid (sp_all H0.out HI.out HY.out HV.out HK.out (by rw [← hs]; simp) (by simp))
    have HS := Lib.hid hs
    clear hs
    have q7 : ∀ w : World, (binOp .neq 35 (.agg #[.int .i64 1, .int .i64 b, .int .i64 c, .int .i64 0, .int .i64 0, .int .i64 0]) (.agg #[.int .i64 1, .int .i64 b, .int .i64 c, .int .i64 d, .int .i64 e, .int .i64 f])).run Tryd.prog w = .ok (.bool false) w := fun w => neq_o_q (x := ⟨1, b, c, 0, 0, 0⟩) (y := (⟨1, b, c, d, e, f⟩ : E6)) HE.out w
    cases rs <;> (
      go_enter Tryd.func25, Tryd.ntmps25
      go_wp2_with fail
      refine (in_q HI.out _).mono ?_
      rintro e' W ⟨rfl, rfl⟩
      try go_wp2_with fail
      refine (in_q HY.out _).mono ?_
      rintro e' W ⟨rfl, rfl⟩
      try go_wp2_with fail
      refine (in_q HV.out _).mono ?_
      rintro e' W ⟨rfl, rfl⟩
      try go_wp2_with fail
      refine (in_q HS.out _).mono ?_
      rintro e' W ⟨rfl, rfl⟩
      try go_wp2_with fail
      go_ret
      exact ⟨ret_b HZ.out, by first | exact Go.Proofs.YtjnlbhmddhpmaabDoor.vers.new2 _ _ _ | exact Go.Proofs.YtjnlbhmddhpmaabDoor.vers.new3 _ _ _ _ | exact new1 _ _⟩)
  by_cases hk2 : a = 2
  · subst hk2
    have HK : Hid (1 ≤ (⟨2, b, c, d, e, f⟩ : E6).a ∧ (⟨2, b, c, d, e, f⟩ : E6).a ≤ 6) := Lib.hid ⟨by show (1 : Int) ≤ 2; omega, by show (2 : Int) ≤ 6; omega⟩
    have HU : Hid (useX (⟨2, b, c, d, e, f⟩ : E6) = ⟨2, b, 0, d, 0, 0⟩) := Lib.hid rfl
    generalize heq : decide ((⟨2, b, 0, d, 0, 0⟩ : E6) = (⟨2, b, c, d, e, f⟩ : E6)) = qe
    cases qe with
    | false =>
      have HZ : Hid (false = ovX (⟨2, b, c, d, e, f⟩ : E6)) := Lib.hid (sp_ne (by rw [HU.out]; exact heq))
      have HE := Lib.hid heq
      clear heq
      have q7 : ∀ w : World, (binOp .neq 35 (.agg #[.int .i64 2, .int .i64 b, .int .i64 0, .int .i64 d, .int .i64 0, .int .i64 0]) (.agg #[.int .i64 2, .int .i64 b, .int .i64 c, .int .i64 d, .int .i64 e, .int .i64 f])).run Tryd.prog w = .ok (.bool true) w := fun w => neq_o_q (x := ⟨2, b, 0, d, 0, 0⟩) (y := (⟨2, b, c, d, e, f⟩ : E6)) HE.out w
      go_enter Tryd.func25, Tryd.ntmps25
      go_wp2_with fail
      go_ret
      exact ⟨ret_b HZ.out, by first | exact Go.Proofs.YtjnlbhmddhpmaabDoor.vers.new2 _ _ _ | exact Go.Proofs.YtjnlbhmddhpmaabDoor.vers.new3 _ _ _ _ | exact new1 _ _⟩
    | true =>
    have H0 : Hid (decide (useX (⟨2, b, c, d, e, f⟩ : E6) = (⟨2, b, c, d, e, f⟩ : E6)) = true) := Lib.hid (by rw [HU.out]; exact heq)
    have HE := Lib.hid heq
    clear heq
    generalize hi : In 1 9 b = ri
    cases ri with
    | false =>
      have HZ : Hid (false = ovX (⟨2, b, c, d, e, f⟩ : E6)) := Lib.hid (sp_id hi)
      have HI := Lib.hid hi
      clear hi
      have q7 : ∀ w : World, (binOp .neq 35 (.agg #[.int .i64 2, .int .i64 b, .int .i64 0, .int .i64 d, .int .i64 0, .int .i64 0]) (.agg #[.int .i64 2, .int .i64 b, .int .i64 c, .int .i64 d, .int .i64 e, .int .i64 f])).run Tryd.prog w = .ok (.bool false) w := fun w => neq_o_q (x := ⟨2, b, 0, d, 0, 0⟩) (y := (⟨2, b, c, d, e, f⟩ : E6)) HE.out w
      go_enter Tryd.func25, Tryd.ntmps25
      go_wp2_with fail
      refine (in_q HI.out _).mono ?_
      rintro e' W ⟨rfl, rfl⟩
      try go_wp2_with fail
      go_ret
      exact ⟨ret_b HZ.out, by first | exact Go.Proofs.YtjnlbhmddhpmaabDoor.vers.new2 _ _ _ | exact Go.Proofs.YtjnlbhmddhpmaabDoor.vers.new3 _ _ _ _ | exact new1 _ _⟩
    | true =>
    have HI := Lib.hid hi
    clear hi
    generalize hy : In 0 5 d = ry
    cases ry with
    | false =>
      have HZ : Hid (false = ovX (⟨2, b, c, d, e, f⟩ : E6)) := Lib.hid (sp_key hy)
      have HY := Lib.hid hy
      clear hy
      have q7 : ∀ w : World, (binOp .neq 35 (.agg #[.int .i64 2, .int .i64 b, .int .i64 0, .int .i64 d, .int .i64 0, .int .i64 0]) (.agg #[.int .i64 2, .int .i64 b, .int .i64 c, .int .i64 d, .int .i64 e, .int .i64 f])).run Tryd.prog w = .ok (.bool false) w := fun w => neq_o_q (x := ⟨2, b, 0, d, 0, 0⟩) (y := (⟨2, b, c, d, e, f⟩ : E6)) HE.out w
      go_enter Tryd.func25, Tryd.ntmps25
      go_wp2_with fail
      refine (in_q HI.out _).mono ?_
      rintro e' W ⟨rfl, rfl⟩
      try go_wp2_with fail
      refine (in_q HY.out _).mono ?_
      rintro e' W ⟨rfl, rfl⟩
      try go_wp2_with fail
      go_ret
      exact ⟨ret_b HZ.out, by first | exact Go.Proofs.YtjnlbhmddhpmaabDoor.vers.new2 _ _ _ | exact Go.Proofs.YtjnlbhmddhpmaabDoor.vers.new3 _ _ _ _ | exact new1 _ _⟩
    | true =>
    have HY := Lib.hid hy
    clear hy
    generalize hv : In (-1) 99 f = rv
    cases rv with
    | false =>
      have HZ : Hid (false = ovX (⟨2, b, c, d, e, f⟩ : E6)) := Lib.hid (sp_val hv)
      have HV := Lib.hid hv
      clear hv
      have q7 : ∀ w : World, (binOp .neq 35 (.agg #[.int .i64 2, .int .i64 b, .int .i64 0, .int .i64 d, .int .i64 0, .int .i64 0]) (.agg #[.int .i64 2, .int .i64 b, .int .i64 c, .int .i64 d, .int .i64 e, .int .i64 f])).run Tryd.prog w = .ok (.bool false) w := fun w => neq_o_q (x := ⟨2, b, 0, d, 0, 0⟩) (y := (⟨2, b, c, d, e, f⟩ : E6)) HE.out w
      go_enter Tryd.func25, Tryd.ntmps25
      go_wp2_with fail
      refine (in_q HI.out _).mono ?_
      rintro e' W ⟨rfl, rfl⟩
      try go_wp2_with fail
      refine (in_q HY.out _).mono ?_
      rintro e' W ⟨rfl, rfl⟩
      try go_wp2_with fail
      refine (in_q HV.out _).mono ?_
      rintro e' W ⟨rfl, rfl⟩
      try go_wp2_with fail
      go_ret
      exact ⟨ret_b HZ.out, by first | exact Go.Proofs.YtjnlbhmddhpmaabDoor.vers.new2 _ _ _ | exact Go.Proofs.YtjnlbhmddhpmaabDoor.vers.new3 _ _ _ _ | exact new1 _ _⟩
    | true =>
    have HV := Lib.hid hv
    clear hv
    have HZ : Hid ((true && true) = ovX (⟨2, b, c, d, e, f⟩ : E6)) := Lib.hid (sp_all H0.out HI.out HY.out HV.out HK.out (by simp) (by simp))
    have q7 : ∀ w : World, (binOp .neq 35 (.agg #[.int .i64 2, .int .i64 b, .int .i64 0, .int .i64 d, .int .i64 0, .int .i64 0]) (.agg #[.int .i64 2, .int .i64 b, .int .i64 c, .int .i64 d, .int .i64 e, .int .i64 f])).run Tryd.prog w = .ok (.bool false) w := fun w => neq_o_q (x := ⟨2, b, 0, d, 0, 0⟩) (y := (⟨2, b, c, d, e, f⟩ : E6)) HE.out w
    go_enter Tryd.func25, Tryd.ntmps25
    go_wp2_with fail
    refine (in_q HI.out _).mono ?_
    rintro e' W ⟨rfl, rfl⟩
    try go_wp2_with fail
    refine (in_q HY.out _).mono ?_
    rintro e' W ⟨rfl, rfl⟩
    try go_wp2_with fail
    refine (in_q HV.out _).mono ?_
    rintro e' W ⟨rfl, rfl⟩
    try go_wp2_with fail
    go_ret
    exact ⟨ret_b HZ.out, by first | exact Go.Proofs.YtjnlbhmddhpmaabDoor.vers.new2 _ _ _ | exact Go.Proofs.YtjnlbhmddhpmaabDoor.vers.new3 _ _ _ _ | exact new1 _ _⟩
  by_cases hk3 : a = 3
  · subst hk3
    have HK : Hid (1 ≤ (⟨3, b, c, d, e, f⟩ : E6).a ∧ (⟨3, b, c, d, e, f⟩ : E6).a ≤ 6) := Lib.hid ⟨by show (1 : Int) ≤ 3; omega, by show (3 : Int) ≤ 6; omega⟩
    have HU : Hid (useX (⟨3, b, c, d, e, f⟩ : E6) = ⟨3, b, 0, d, 0, f⟩) := Lib.hid rfl
    generalize heq : decide ((⟨3, b, 0, d, 0, f⟩ : E6) = (⟨3, b, c, d, e, f⟩ : E6)) = qe
    cases qe with
    | false =>
      have HZ : Hid (false = ovX (⟨3, b, c, d, e, f⟩ : E6)) := Lib.hid (sp_ne (by rw [HU.out]; exact heq))
      have HE := Lib.hid heq
      clear heq
      have q7 : ∀ w : World, (binOp .neq 35 (.agg #[.int .i64 3, .int .i64 b, .int .i64 0, .int .i64 d, .int .i64 0, .int .i64 f]) (.agg #[.int .i64 3, .int .i64 b, .int .i64 c, .int .i64 d, .int .i64 e, .int .i64 f])).run Tryd.prog w = .ok (.bool true) w := fun w => neq_o_q (x := ⟨3, b, 0, d, 0, f⟩) (y := (⟨3, b, c, d, e, f⟩ : E6)) HE.out w
      go_enter Tryd.func25, Tryd.ntmps25
      go_wp2_with fail
      go_ret
      exact ⟨ret_b HZ.out, by first | exact Go.Proofs.YtjnlbhmddhpmaabDoor.vers.new2 _ _ _ | exact Go.Proofs.YtjnlbhmddhpmaabDoor.vers.new3 _ _ _ _ | exact new1 _ _⟩
    | true =>
    have H0 : Hid (decide (useX (⟨3, b, c, d, e, f⟩ : E6) = (⟨3, b, c, d, e, f⟩ : E6)) = true) := Lib.hid (by rw [HU.out]; exact heq)
    have HE := Lib.hid heq
    clear heq
    generalize hi : In 1 9 b = ri
    cases ri with
    | false =>
      have HZ : Hid (false = ovX (⟨3, b, c, d, e, f⟩ : E6)) := Lib.hid (sp_id hi)
      have HI := Lib.hid hi
      clear hi
      have q7 : ∀ w : World, (binOp .neq 35 (.agg #[.int .i64 3, .int .i64 b, .int .i64 0, .int .i64 d, .int .i64 0, .int .i64 f]) (.agg #[.int .i64 3, .int .i64 b, .int .i64 c, .int .i64 d, .int .i64 e, .int .i64 f])).run Tryd.prog w = .ok (.bool false) w := fun w => neq_o_q (x := ⟨3, b, 0, d, 0, f⟩) (y := (⟨3, b, c, d, e, f⟩ : E6)) HE.out w
      go_enter Tryd.func25, Tryd.ntmps25
      go_wp2_with fail
      refine (in_q HI.out _).mono ?_
      rintro e' W ⟨rfl, rfl⟩
      try go_wp2_with fail
      go_ret
      exact ⟨ret_b HZ.out, by first | exact Go.Proofs.YtjnlbhmddhpmaabDoor.vers.new2 _ _ _ | exact Go.Proofs.YtjnlbhmddhpmaabDoor.vers.new3 _ _ _ _ | exact new1 _ _⟩
    | true =>
    have HI := Lib.hid hi
    clear hi
    generalize hy : In 0 5 d = ry
    cases ry with
    | false =>
      have HZ : Hid (false = ovX (⟨3, b, c, d, e, f⟩ : E6)) := Lib.hid (sp_key hy)
      have HY := Lib.hid hy
      clear hy
      have q7 : ∀ w : World, (binOp .neq 35 (.agg #[.int .i64 3, .int .i64 b, .int .i64 0, .int .i64 d, .int .i64 0, .int .i64 f]) (.agg #[.int .i64 3, .int .i64 b, .int .i64 c, .int .i64 d, .int .i64 e, .int .i64 f])).run Tryd.prog w = .ok (.bool false) w := fun w => neq_o_q (x := ⟨3, b, 0, d, 0, f⟩) (y := (⟨3, b, c, d, e, f⟩ : E6)) HE.out w
      go_enter Tryd.func25, Tryd.ntmps25
      go_wp2_with fail
      refine (in_q HI.out _).mono ?_
      rintro e' W ⟨rfl, rfl⟩
      try go_wp2_with fail
      refine (in_q HY.out _).mono ?_
      rintro e' W ⟨rfl, rfl⟩
      try go_wp2_with fail
      go_ret
      exact ⟨ret_b HZ.out, by first | exact Go.Proofs.YtjnlbhmddhpmaabDoor.vers.new2 _ _ _ | exact Go.Proofs.YtjnlbhmddhpmaabDoor.vers.new3 _ _ _ _ | exact new1 _ _⟩
    | true =>
    have HY := Lib.hid hy
    clear hy
    generalize hv : In (-1) 99 f = rv
    cases rv with
    | false =>
      have HZ : Hid (false = ovX (⟨3, b, c, d, e, f⟩ : E6)) := Lib.hid (sp_val hv)
      have HV := Lib.hid hv
      clear hv
      have q7 : ∀ w : World, (binOp .neq 35 (.agg #[.int .i64 3, .int .i64 b, .int .i64 0, .int .i64 d, .int .i64 0, .int .i64 f]) (.agg #[.int .i64 3, .int .i64 b, .int .i64 c, .int .i64 d, .int .i64 e, .int .i64 f])).run Tryd.prog w = .ok (.bool false) w := fun w => neq_o_q (x := ⟨3, b, 0, d, 0, f⟩) (y := (⟨3, b, c, d, e, f⟩ : E6)) HE.out w
      go_enter Tryd.func25, Tryd.ntmps25
      go_wp2_with fail
      refine (in_q HI.out _).mono ?_
      rintro e' W ⟨rfl, rfl⟩
      try go_wp2_with fail
      refine (in_q HY.out _).mono ?_
      rintro e' W ⟨rfl, rfl⟩
      try go_wp2_with fail
      refine (in_q HV.out _).mono ?_
      rintro e' W ⟨rfl, rfl⟩
      try go_wp2_with fail
      go_ret
      exact ⟨ret_b HZ.out, by first | exact Go.Proofs.YtjnlbhmddhpmaabDoor.vers.new2 _ _ _ | exact Go.Proofs.YtjnlbhmddhpmaabDoor.vers.new3 _ _ _ _ | exact new1 _ _⟩
    | true =>
    have HV := Lib.hid hv
    clear hv
    have HZ : Hid ((true && true) = ovX (⟨3, b, c, d, e, f⟩ : E6)) := Lib.hid (sp_all H0.out HI.out HY.out HV.out HK.out (by simp) (by simp))
    have q7 : ∀ w : World, (binOp .neq 35 (.agg #[.int .i64 3, .int .i64 b, .int .i64 0, .int .i64 d, .int .i64 0, .int .i64 f]) (.agg #[.int .i64 3, .int .i64 b, .int .i64 c, .int .i64 d, .int .i64 e, .int .i64 f])).run Tryd.prog w = .ok (.bool false) w := fun w => neq_o_q (x := ⟨3, b, 0, d, 0, f⟩) (y := (⟨3, b, c, d, e, f⟩ : E6)) HE.out w
    go_enter Tryd.func25, Tryd.ntmps25
    go_wp2_with fail
    refine (in_q HI.out _).mono ?_
    rintro e' W ⟨rfl, rfl⟩
    try go_wp2_with fail
    refine (in_q HY.out _).mono ?_
    rintro e' W ⟨rfl, rfl⟩
    try go_wp2_with fail
    refine (in_q HV.out _).mono ?_
    rintro e' W ⟨rfl, rfl⟩
    try go_wp2_with fail
    go_ret
    exact ⟨ret_b HZ.out, by first | exact Go.Proofs.YtjnlbhmddhpmaabDoor.vers.new2 _ _ _ | exact Go.Proofs.YtjnlbhmddhpmaabDoor.vers.new3 _ _ _ _ | exact new1 _ _⟩
  by_cases hk4 : a = 4
  · subst hk4
    have HK : Hid (1 ≤ (⟨4, b, c, d, e, f⟩ : E6).a ∧ (⟨4, b, c, d, e, f⟩ : E6).a ≤ 6) := Lib.hid ⟨by show (1 : Int) ≤ 4; omega, by show (4 : Int) ≤ 6; omega⟩
    have HU : Hid (useX (⟨4, b, c, d, e, f⟩ : E6) = ⟨4, b, 0, d, e, 0⟩) := Lib.hid rfl
    generalize heq : decide ((⟨4, b, 0, d, e, 0⟩ : E6) = (⟨4, b, c, d, e, f⟩ : E6)) = qe
    cases qe with
    | false =>
      have HZ : Hid (false = ovX (⟨4, b, c, d, e, f⟩ : E6)) := Lib.hid (sp_ne (by rw [HU.out]; exact heq))
      have HE := Lib.hid heq
      clear heq
      have q7 : ∀ w : World, (binOp .neq 35 (.agg #[.int .i64 4, .int .i64 b, .int .i64 0, .int .i64 d, .int .i64 e, .int .i64 0]) (.agg #[.int .i64 4, .int .i64 b, .int .i64 c, .int .i64 d, .int .i64 e, .int .i64 f])).run Tryd.prog w = .ok (.bool true) w := fun w => neq_o_q (x := ⟨4, b, 0, d, e, 0⟩) (y := (⟨4, b, c, d, e, f⟩ : E6)) HE.out w
      go_enter Tryd.func25, Tryd.ntmps25
      go_wp2_with fail
      go_ret
      exact ⟨ret_b HZ.out, by first | exact Go.Proofs.YtjnlbhmddhpmaabDoor.vers.new2 _ _ _ | exact Go.Proofs.YtjnlbhmddhpmaabDoor.vers.new3 _ _ _ _ | exact new1 _ _⟩
    | true =>
    have H0 : Hid (decide (useX (⟨4, b, c, d, e, f⟩ : E6) = (⟨4, b, c, d, e, f⟩ : E6)) = true) := Lib.hid (by rw [HU.out]; exact heq)
    have HE := Lib.hid heq
    clear heq
    generalize hi : In 1 9 b = ri
    cases ri with
    | false =>
      have HZ : Hid (false = ovX (⟨4, b, c, d, e, f⟩ : E6)) := Lib.hid (sp_id hi)
      have HI := Lib.hid hi
      clear hi
      have q7 : ∀ w : World, (binOp .neq 35 (.agg #[.int .i64 4, .int .i64 b, .int .i64 0, .int .i64 d, .int .i64 e, .int .i64 0]) (.agg #[.int .i64 4, .int .i64 b, .int .i64 c, .int .i64 d, .int .i64 e, .int .i64 f])).run Tryd.prog w = .ok (.bool false) w := fun w => neq_o_q (x := ⟨4, b, 0, d, e, 0⟩) (y := (⟨4, b, c, d, e, f⟩ : E6)) HE.out w
      go_enter Tryd.func25, Tryd.ntmps25
      go_wp2_with fail
      refine (in_q HI.out _).mono ?_
      rintro e' W ⟨rfl, rfl⟩
      try go_wp2_with fail
      go_ret
      exact ⟨ret_b HZ.out, by first | exact Go.Proofs.YtjnlbhmddhpmaabDoor.vers.new2 _ _ _ | exact Go.Proofs.YtjnlbhmddhpmaabDoor.vers.new3 _ _ _ _ | exact new1 _ _⟩
    | true =>
    have HI := Lib.hid hi
    clear hi
    generalize hy : In 0 5 d = ry
    cases ry with
    | false =>
      have HZ : Hid (false = ovX (⟨4, b, c, d, e, f⟩ : E6)) := Lib.hid (sp_key hy)
      have HY := Lib.hid hy
      clear hy
      have q7 : ∀ w : World, (binOp .neq 35 (.agg #[.int .i64 4, .int .i64 b, .int .i64 0, .int .i64 d, .int .i64 e, .int .i64 0]) (.agg #[.int .i64 4, .int .i64 b, .int .i64 c, .int .i64 d, .int .i64 e, .int .i64 f])).run Tryd.prog w = .ok (.bool false) w := fun w => neq_o_q (x := ⟨4, b, 0, d, e, 0⟩) (y := (⟨4, b, c, d, e, f⟩ : E6)) HE.out w
      go_enter Tryd.func25, Tryd.ntmps25
      go_wp2_with fail
      refine (in_q HI.out _).mono ?_
      rintro e' W ⟨rfl, rfl⟩
      try go_wp2_with fail
      refine (in_q HY.out _).mono ?_
      rintro e' W ⟨rfl, rfl⟩
      try go_wp2_with fail
      go_ret
      exact ⟨ret_b HZ.out, by first | exact Go.Proofs.YtjnlbhmddhpmaabDoor.vers.new2 _ _ _ | exact Go.Proofs.YtjnlbhmddhpmaabDoor.vers.new3 _ _ _ _ | exact new1 _ _⟩
    | true =>
    have HY := Lib.hid hy
    clear hy
    generalize hv : In (-1) 99 f = rv
    cases rv with
    | false =>
      have HZ : Hid (false = ovX (⟨4, b, c, d, e, f⟩ : E6)) := Lib.hid (sp_val hv)
      have HV := Lib.hid hv
      clear hv
      have q7 : ∀ w : World, (binOp .neq 35 (.agg #[.int .i64 4, .int .i64 b, .int .i64 0, .int .i64 d, .int .i64 e, .int .i64 0]) (.agg #[.int .i64 4, .int .i64 b, .int .i64 c, .int .i64 d, .int .i64 e, .int .i64 f])).run Tryd.prog w = .ok (.bool false) w := fun w => neq_o_q (x := ⟨4, b, 0, d, e, 0⟩) (y := (⟨4, b, c, d, e, f⟩ : E6)) HE.out w
      go_enter Tryd.func25, Tryd.ntmps25
      go_wp2_with fail
      refine (in_q HI.out _).mono ?_
      rintro e' W ⟨rfl, rfl⟩
      try go_wp2_with fail
      refine (in_q HY.out _).mono ?_
      rintro e' W ⟨rfl, rfl⟩
      try go_wp2_with fail
      refine (in_q HV.out _).mono ?_
      rintro e' W ⟨rfl, rfl⟩
      try go_wp2_with fail
      go_ret
      exact ⟨ret_b HZ.out, by first | exact Go.Proofs.YtjnlbhmddhpmaabDoor.vers.new2 _ _ _ | exact Go.Proofs.YtjnlbhmddhpmaabDoor.vers.new3 _ _ _ _ | exact new1 _ _⟩
    | true =>
    have HV := Lib.hid hv
    clear hv
    generalize hs : In d 5 e = rs
    have HZ : Hid ((true && rs) = ovX (⟨4, b, c, d, e, f⟩ : E6)) := Lib.hid (sp_all H0.out HI.out HY.out HV.out HK.out (by simp) (by rw [← hs]; simp))
    have HS := Lib.hid hs
    clear hs
    have q7 : ∀ w : World, (binOp .neq 35 (.agg #[.int .i64 4, .int .i64 b, .int .i64 0, .int .i64 d, .int .i64 e, .int .i64 0]) (.agg #[.int .i64 4, .int .i64 b, .int .i64 c, .int .i64 d, .int .i64 e, .int .i64 f])).run Tryd.prog w = .ok (.bool false) w := fun w => neq_o_q (x := ⟨4, b, 0, d, e, 0⟩) (y := (⟨4, b, c, d, e, f⟩ : E6)) HE.out w
    cases rs <;> (
      go_enter Tryd.func25, Tryd.ntmps25
      go_wp2_with fail
      refine (in_q HI.out _).mono ?_
      rintro e' W ⟨rfl, rfl⟩
      try go_wp2_with fail
      refine (in_q HY.out _).mono ?_
      rintro e' W ⟨rfl, rfl⟩
      try go_wp2_with fail
      refine (in_q HV.out _).mono ?_
      rintro e' W ⟨rfl, rfl⟩
      try go_wp2_with fail
      refine (in_q HS.out _).mono ?_
      rintro e' W ⟨rfl, rfl⟩
      try go_wp2_with fail
      go_ret
      exact ⟨ret_b HZ.out, by first | exact Go.Proofs.YtjnlbhmddhpmaabDoor.vers.new2 _ _ _ | exact Go.Proofs.YtjnlbhmddhpmaabDoor.vers.new3 _ _ _ _ | exact new1 _ _⟩)
  by_cases hk5 : a = 5
  · subst hk5
    have HK : Hid (1 ≤ (⟨5, b, c, d, e, f⟩ : E6).a ∧ (⟨5, b, c, d, e, f⟩ : E6).a ≤ 6) := Lib.hid ⟨by show (1 : Int) ≤ 5; omega, by show (5 : Int) ≤ 6; omega⟩
    have HU : Hid (useX (⟨5, b, c, d, e, f⟩ : E6) = ⟨5, b, 0, 0, 0, 0⟩) := Lib.hid rfl
    generalize heq : decide ((⟨5, b, 0, 0, 0, 0⟩ : E6) = (⟨5, b, c, d, e, f⟩ : E6)) = qe
    cases qe with
    | false =>
      have HZ : Hid (false = ovX (⟨5, b, c, d, e, f⟩ : E6)) := Lib.hid (sp_ne (by rw [HU.out]; exact heq))
      have HE := Lib.hid heq
      clear heq
      have q7 : ∀ w : World, (binOp .neq 35 (.agg #[.int .i64 5, .int .i64 b, .int .i64 0, .int .i64 0, .int .i64 0, .int .i64 0]) (.agg #[.int .i64 5, .int .i64 b, .int .i64 c, .int .i64 d, .int .i64 e, .int .i64 f])).run Tryd.prog w = .ok (.bool true) w := fun w => neq_o_q (x := ⟨5, b, 0, 0, 0, 0⟩) (y := (⟨5, b, c, d, e, f⟩ : E6)) HE.out w
      go_enter Tryd.func25, Tryd.ntmps25
      go_wp2_with fail
      go_ret
      exact ⟨ret_b HZ.out, by first | exact Go.Proofs.YtjnlbhmddhpmaabDoor.vers.new2 _ _ _ | exact Go.Proofs.YtjnlbhmddhpmaabDoor.vers.new3 _ _ _ _ | exact new1 _ _⟩
    | true =>
    have H0 : Hid (decide (useX (⟨5, b, c, d, e, f⟩ : E6) = (⟨5, b, c, d, e, f⟩ : E6)) = true) := Lib.hid (by rw [HU.out]; exact heq)
    have HE := Lib.hid heq
    clear heq
    generalize hi : In 1 9 b = ri
    cases ri with
    | false =>
      have HZ : Hid (false = ovX (⟨5, b, c, d, e, f⟩ : E6)) := Lib.hid (sp_id hi)
      have HI := Lib.hid hi
      clear hi
      have q7 : ∀ w : World, (binOp .neq 35 (.agg #[.int .i64 5, .int .i64 b, .int .i64 0, .int .i64 0, .int .i64 0, .int .i64 0]) (.agg #[.int .i64 5, .int .i64 b, .int .i64 c, .int .i64 d, .int .i64 e, .int .i64 f])).run Tryd.prog w = .ok (.bool false) w := fun w => neq_o_q (x := ⟨5, b, 0, 0, 0, 0⟩) (y := (⟨5, b, c, d, e, f⟩ : E6)) HE.out w
      go_enter Tryd.func25, Tryd.ntmps25
      go_wp2_with fail
      refine (in_q HI.out _).mono ?_
      rintro e' W ⟨rfl, rfl⟩
      try go_wp2_with fail
      go_ret
      exact ⟨ret_b HZ.out, by first | exact Go.Proofs.YtjnlbhmddhpmaabDoor.vers.new2 _ _ _ | exact Go.Proofs.YtjnlbhmddhpmaabDoor.vers.new3 _ _ _ _ | exact new1 _ _⟩
    | true =>
    have HI := Lib.hid hi
    clear hi
    generalize hy : In 0 5 d = ry
    cases ry with
    | false =>
      have HZ : Hid (false = ovX (⟨5, b, c, d, e, f⟩ : E6)) := Lib.hid (sp_key hy)
      have HY := Lib.hid hy
      clear hy
      have q7 : ∀ w : World, (binOp .neq 35 (.agg #[.int .i64 5, .int .i64 b, .int .i64 0, .int .i64 0, .int .i64 0, .int .i64 0]) (.agg #[.int .i64 5, .int .i64 b, .int .i64 c, .int .i64 d, .int .i64 e, .int .i64 f])).run Tryd.prog w = .ok (.bool false) w := fun w => neq_o_q (x := ⟨5, b, 0, 0, 0, 0⟩) (y := (⟨5, b, c, d, e, f⟩ : E6)) HE.out w
      go_enter Tryd.func25, Tryd.ntmps25
      go_wp2_with fail
      refine (in_q HI.out _).mono ?_
      rintro e' W ⟨rfl, rfl⟩
      try go_wp2_with fail
      refine (in_q HY.out _).mono ?_
      rintro e' W ⟨rfl, rfl⟩
      try go_wp2_with fail
      go_ret
      exact ⟨ret_b HZ.out, by first | exact Go.Proofs.YtjnlbhmddhpmaabDoor.vers.new2 _ _ _ | exact Go.Proofs.YtjnlbhmddhpmaabDoor.vers.new3 _ _ _ _ | exact new1 _ _⟩
    | true =>
    have HY := Lib.hid hy
    clear hy
    generalize hv : In (-1) 99 f = rv
    cases rv with
    | false =>
      have HZ : Hid (false = ovX (⟨5, b, c, d, e, f⟩ : E6)) := Lib.hid (sp_val hv)
      have HV := Lib.hid hv
      clear hv
      have q7 : ∀ w : World, (binOp .neq 35 (.agg #[.int .i64 5, .int .i64 b, .int .i64 0, .int .i64 0, .int .i64 0, .int .i64 0]) (.agg #[.int .i64 5, .int .i64 b, .int .i64 c, .int .i64 d, .int .i64 e, .int .i64 f])).run Tryd.prog w = .ok (.bool false) w := fun w => neq_o_q (x := ⟨5, b, 0, 0, 0, 0⟩) (y := (⟨5, b, c, d, e, f⟩ : E6)) HE.out w
      go_enter Tryd.func25, Tryd.ntmps25
      go_wp2_with fail
      refine (in_q HI.out _).mono ?_
      rintro e' W ⟨rfl, rfl⟩
      try go_wp2_with fail
      refine (in_q HY.out _).mono ?_
      rintro e' W ⟨rfl, rfl⟩
      try go_wp2_with fail
      refine (in_q HV.out _).mono ?_
      rintro e' W ⟨rfl, rfl⟩
      try go_wp2_with fail
      go_ret
      exact ⟨ret_b HZ.out, by first | exact Go.Proofs.YtjnlbhmddhpmaabDoor.vers.new2 _ _ _ | exact Go.Proofs.YtjnlbhmddhpmaabDoor.vers.new3 _ _ _ _ | exact new1 _ _⟩
    | true =>
    have HV := Lib.hid hv
    clear hv
    have HZ : Hid ((true && true) = ovX (⟨5, b, c, d, e, f⟩ : E6)) := Lib.hid (sp_all H0.out HI.out HY.out HV.out HK.out (by simp) (by simp))
    have q7 : ∀ w : World, (binOp .neq 35 (.agg #[.int .i64 5, .int .i64 b, .int .i64 0, .int .i64 0, .int .i64 0, .int .i64 0]) (.agg #[.int .i64 5, .int .i64 b, .int .i64 c, .int .i64 d, .int .i64 e, .int .i64 f])).run Tryd.prog w = .ok (.bool false) w := fun w => neq_o_q (x := ⟨5, b, 0, 0, 0, 0⟩) (y := (⟨5, b, c, d, e, f⟩ : E6)) HE.out w
    go_enter Tryd.func25, Tryd.ntmps25
    go_wp2_with fail
    refine (in_q HI.out _).mono ?_
    rintro e' W ⟨rfl, rfl⟩
    try go_wp2_with fail
    refine (in_q HY.out _).mono ?_
    rintro e' W ⟨rfl, rfl⟩
    try go_wp2_with fail
    refine (in_q HV.out _).mono ?_
    rintro e' W ⟨rfl, rfl⟩
    try go_wp2_with fail
    go_ret
    exact ⟨ret_b HZ.out, by first | exact Go.Proofs.YtjnlbhmddhpmaabDoor.vers.new2 _ _ _ | exact Go.Proofs.YtjnlbhmddhpmaabDoor.vers.new3 _ _ _ _ | exact new1 _ _⟩
  by_cases hk6 : a = 6
  · subst hk6
    have HK : Hid (1 ≤ (⟨6, b, c, d, e, f⟩ : E6).a ∧ (⟨6, b, c, d, e, f⟩ : E6).a ≤ 6) := Lib.hid ⟨by show (1 : Int) ≤ 6; omega, by show (6 : Int) ≤ 6; omega⟩
    have HU : Hid (useX (⟨6, b, c, d, e, f⟩ : E6) = ⟨6, b, 0, 0, 0, 0⟩) := Lib.hid rfl
    generalize heq : decide ((⟨6, b, 0, 0, 0, 0⟩ : E6) = (⟨6, b, c, d, e, f⟩ : E6)) = qe
    cases qe with
    | false =>
      have HZ : Hid (false = ovX (⟨6, b, c, d, e, f⟩ : E6)) := Lib.hid (sp_ne (by rw [HU.out]; exact heq))
      have HE := Lib.hid heq
      clear heq
      have q7 : ∀ w : World, (binOp .neq 35 (.agg #[.int .i64 6, .int .i64 b, .int .i64 0, .int .i64 0, .int .i64 0, .int .i64 0]) (.agg #[.int .i64 6, .int .i64 b, .int .i64 c, .int .i64 d, .int .i64 e, .int .i64 f])).run Tryd.prog w = .ok (.bool true) w := fun w => neq_o_q (x := ⟨6, b, 0, 0, 0, 0⟩) (y := (⟨6, b, c, d, e, f⟩ : E6)) HE.out w
      go_enter Tryd.func25, Tryd.ntmps25
      go_wp2_with fail
      go_ret
      exact ⟨ret_b HZ.out, by first | exact Go.Proofs.YtjnlbhmddhpmaabDoor.vers.new2 _ _ _ | exact Go.Proofs.YtjnlbhmddhpmaabDoor.vers.new3 _ _ _ _ | exact new1 _ _⟩
    | true =>
    have H0 : Hid (decide (useX (⟨6, b, c, d, e, f⟩ : E6) = (⟨6, b, c, d, e, f⟩ : E6)) = true) := Lib.hid (by rw [HU.out]; exact heq)
    have HE := Lib.hid heq
    clear heq
    generalize hi : In 1 9 b = ri
    cases ri with
    | false =>
      have HZ : Hid (false = ovX (⟨6, b, c, d, e, f⟩ : E6)) := Lib.hid (sp_id hi)
      have HI := Lib.hid hi
      clear hi
      have q7 : ∀ w : World, (binOp .neq 35 (.agg #[.int .i64 6, .int .i64 b, .int .i64 0, .int .i64 0, .int .i64 0, .int .i64 0]) (.agg #[.int .i64 6, .int .i64 b, .int .i64 c, .int .i64 d, .int .i64 e, .int .i64 f])).run Tryd.prog w = .ok (.bool false) w := fun w => neq_o_q (x := ⟨6, b, 0, 0, 0, 0⟩) (y := (⟨6, b, c, d, e, f⟩ : E6)) HE.out w
      go_enter Tryd.func25, Tryd.ntmps25
      go_wp2_with fail
      refine (in_q HI.out _).mono ?_
      rintro e' W ⟨rfl, rfl⟩
      try go_wp2_with fail
      go_ret
      exact ⟨ret_b HZ.out, by first | exact Go.Proofs.YtjnlbhmddhpmaabDoor.vers.new2 _ _ _ | exact Go.Proofs.YtjnlbhmddhpmaabDoor.vers.new3 _ _ _ _ | exact new1 _ _⟩
    | true =>
    have HI := Lib.hid hi
    clear hi
    generalize hy : In 0 5 d = ry
    cases ry with
    | false =>
      have HZ : Hid (false = ovX (⟨6, b, c, d, e, f⟩ : E6)) := Lib.hid (sp_key hy)
      have HY := Lib.hid hy
      clear hy
      have q7 : ∀ w : World, (binOp .neq 35 (.agg #[.int .i64 6, .int .i64 b, .int .i64 0, .int .i64 0, .int .i64 0, .int .i64 0]) (.agg #[.int .i64 6, .int .i64 b, .int .i64 c, .int .i64 d, .int .i64 e, .int .i64 f])).run Tryd.prog w = .ok (.bool false) w := fun w => neq_o_q (x := ⟨6, b, 0, 0, 0, 0⟩) (y := (⟨6, b, c, d, e, f⟩ : E6)) HE.out w
      go_enter Tryd.func25, Tryd.ntmps25
      go_wp2_with fail
      refine (in_q HI.out _).mono ?_
      rintro e' W ⟨rfl, rfl⟩
      try go_wp2_with fail
      refine (in_q HY.out _).mono ?_
      rintro e' W ⟨rfl, rfl⟩
      try go_wp2_with fail
      go_ret
      exact ⟨ret_b HZ.out, by first | exact Go.Proofs.YtjnlbhmddhpmaabDoor.vers.new2 _ _ _ | exact Go.Proofs.YtjnlbhmddhpmaabDoor.vers.new3 _ _ _ _ | exact new1 _ _⟩
    | true =>
    have HY := Lib.hid hy
    clear hy
    generalize hv : In (-1) 99 f = rv
    cases rv with
    | false =>
      have HZ : Hid (false = ovX (⟨6, b, c, d, e, f⟩ : E6)) := Lib.hid (sp_val hv)
      have HV := Lib.hid hv
      clear hv
      have q7 : ∀ w : World, (binOp .neq 35 (.agg #[.int .i64 6, .int .i64 b, .int .i64 0, .int .i64 0, .int .i64 0, .int .i64 0]) (.agg #[.int .i64 6, .int .i64 b, .int .i64 c, .int .i64 d, .int .i64 e, .int .i64 f])).run Tryd.prog w = .ok (.bool false) w := fun w => neq_o_q (x := ⟨6, b, 0, 0, 0, 0⟩) (y := (⟨6, b, c, d, e, f⟩ : E6)) HE.out w
      go_enter Tryd.func25, Tryd.ntmps25
      go_wp2_with fail
      refine (in_q HI.out _).mono ?_
      rintro e' W ⟨rfl, rfl⟩
      try go_wp2_with fail
      refine (in_q HY.out _).mono ?_
      rintro e' W ⟨rfl, rfl⟩
      try go_wp2_with fail
      refine (in_q HV.out _).mono ?_
      rintro e' W ⟨rfl, rfl⟩
      try go_wp2_with fail
      go_ret
      exact ⟨ret_b HZ.out, by first | exact Go.Proofs.YtjnlbhmddhpmaabDoor.vers.new2 _ _ _ | exact Go.Proofs.YtjnlbhmddhpmaabDoor.vers.new3 _ _ _ _ | exact new1 _ _⟩
    | true =>
    have HV := Lib.hid hv
    clear hv
    have HZ : Hid ((true && true) = ovX (⟨6, b, c, d, e, f⟩ : E6)) := Lib.hid (sp_all H0.out HI.out HY.out HV.out HK.out (by simp) (by simp))
    have q7 : ∀ w : World, (binOp .neq 35 (.agg #[.int .i64 6, .int .i64 b, .int .i64 0, .int .i64 0, .int .i64 0, .int .i64 0]) (.agg #[.int .i64 6, .int .i64 b, .int .i64 c, .int .i64 d, .int .i64 e, .int .i64 f])).run Tryd.prog w = .ok (.bool false) w := fun w => neq_o_q (x := ⟨6, b, 0, 0, 0, 0⟩) (y := (⟨6, b, c, d, e, f⟩ : E6)) HE.out w
    go_enter Tryd.func25, Tryd.ntmps25
    go_wp2_with fail
    refine (in_q HI.out _).mono ?_
    rintro e' W ⟨rfl, rfl⟩
    try go_wp2_with fail
    refine (in_q HY.out _).mono ?_
    rintro e' W ⟨rfl, rfl⟩
    try go_wp2_with fail
    refine (in_q HV.out _).mono ?_
    rintro e' W ⟨rfl, rfl⟩
    try go_wp2_with fail
    go_ret
    exact ⟨ret_b HZ.out, by first | exact Go.Proofs.YtjnlbhmddhpmaabDoor.vers.new2 _ _ _ | exact Go.Proofs.YtjnlbhmddhpmaabDoor.vers.new3 _ _ _ _ | exact new1 _ _⟩
  have HZ : Hid (false = ovX ⟨a, b, c, d, e, f⟩) := Lib.hid (ov_kind (by show ¬ (1 ≤ a ∧ a ≤ 6); omega))
  have t1 : (a == 1) = false := by simpa using hk1
  have t2 : (a == 2) = false := by simpa using hk2
  have t3 : (a == 3) = false := by simpa using hk3
  have t4 : (a == 4) = false := by simpa using hk4
  have t5 : (a == 5) = false := by simpa using hk5
  have t6 : (a == 6) = false := by simpa using hk6
  clear hk1 hk2 hk3 hk4 hk5 hk6
  go_enter Tryd.func25, Tryd.ntmps25
  go_wp2_with fail
  go_ret
  exact ⟨ret_b HZ.out, by first | exact Go.Proofs.YtjnlbhmddhpmaabDoor.vers.new2 _ _ _ | exact Go.Proofs.YtjnlbhmddhpmaabDoor.vers.new3 _ _ _ _ | exact new1 _ _⟩
end Go.Proofs.YtjnlbhmddhpmaabDoor.ovp
