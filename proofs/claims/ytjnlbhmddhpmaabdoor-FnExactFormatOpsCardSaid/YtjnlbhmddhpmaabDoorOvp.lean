/- IsValidOp of the program and of the model: what each answers at six numbers. -/
import Derived.Test.YtjnlbhmddhpmaabDoorOvb
import Derived.Test.YtjnlbhmddhpmaabDoorEl6
import Derived.Test.YtjnlbhmddhpmaabDoorLka
import Derived.WalkKit
import Derived.ProofKit
import Derived.Below
import Derived.Lib.Hide
import Derived.IntWalk
import Derived.Deep.QuietTactic
import Derived.BigQuiet
namespace Go.Proofs.YtjnlbhmddhpmaabDoor.ovp
open Go.ChangeShapes Go.WideShapes Go.ChangeAt Go.RowKit
open Go.Proofs.YtjnlbhmddhpmaabDoor.el6
open Go.Proofs.YtjnlbhmddhpmaabDoor.en (Opn ovB)
open Go.Proofs.YtjnlbhmddhpmaabDoor.vers (In in_yes in_no in_of in_off ret_b value_range)
open Go.Proofs.YtjnlbhmddhpmaabDoor.lka (in_q id_q key_q)
open Go.Proofs.YtjnlbhmddhpmaabDoor.tv (is_scheme)
set_option linter.unusedVariables false
set_option linter.unusedSimpArgs false
theorem scheme_q {x : Int} {q : Bool} (h : In 1 4 x = q) (w : World) : Calls Tryd.prog 30 #[.int .i64 x] w fun e w' => e = .returned (.bool q) ∧ w = w' := by
  subst h; exact is_scheme x w
theorem value_q {x : Int} {q : Bool} (h : In (-1) 99 x = q) (w : World) : Calls Tryd.prog 32 #[.int .i64 x] w fun e w' => e = .returned (.bool q) ∧ w = w' := by
  subst h; exact value_range x w
theorem guard_o : Tryd.prog.eqGuardType Tryd.prog.depth 35 = false := by kernel_rfl
theorem held_o : Tryd.prog.stoodInHeld 35 = false := by kernel_rfl
theorem fields_o : Tryd.prog.underlying 35 = some (.struct (Tryd.prog.fieldsOf 35)) := by kernel_rfl
theorem eql_o (x y : E6) (w : World) : (binOp .eql 35 (.agg #[.int .i64 x.a, .int .i64 x.b, .int .i64 x.c, .int .i64 x.d, .int .i64 x.e, .int .i64 x.f]) (.agg #[.int .i64 y.a, .int .i64 y.b, .int .i64 y.c, .int .i64 y.d, .int .i64 y.e, .int .i64 y.f])).run Tryd.prog w = .ok (.bool (decide (x = y))) w := by
  rw [run_eql_struct, run_equalIn_struct w 9999 35 _ _ fields_o held_o]
  have hu := Tryd.underlying35
  have hi := Tryd.underlying3
  simp only [Program.fieldsOf, hu]
  simp [Op.eqFields, go_sem, hi]
  by_cases h : x = y
  · subst h
    simp
  · have hd : x.a = y.a → x.b = y.b → x.c = y.c → x.d = y.d → x.e = y.e → x.f = y.f → False := fun h1 h2 h3 h4 h5 h6 => h (by cases x; cases y; simp_all)
    rw [decide_eq_false h]
    by_cases h1 : x.a = y.a
    · rw [if_pos h1]
      by_cases h2 : x.b = y.b
      · rw [if_pos h2]
        by_cases h3 : x.c = y.c
        · rw [if_pos h3]
          by_cases h4 : x.d = y.d
          · rw [if_pos h4]
            by_cases h5 : x.e = y.e
            · rw [if_pos h5]
              by_cases h6 : x.f = y.f
              · rw [if_pos h6]
                exact (hd h1 h2 h3 h4 h5 h6).elim
              · (rw [if_neg h6]) <;> rfl
            · (rw [if_neg h5]) <;> rfl
          · (rw [if_neg h4]) <;> rfl
        · (rw [if_neg h3]) <;> rfl
      · (rw [if_neg h2]) <;> rfl
    · (rw [if_neg h1]) <;> rfl
theorem eql_o_q {x y : E6} {q : Bool} (h : decide (x = y) = q) (w : World) : (binOp .eql 35 (.agg #[.int .i64 x.a, .int .i64 x.b, .int .i64 x.c, .int .i64 x.d, .int .i64 x.e, .int .i64 x.f]) (.agg #[.int .i64 y.a, .int .i64 y.b, .int .i64 y.c, .int .i64 y.d, .int .i64 y.e, .int .i64 y.f])).run Tryd.prog w = .ok (.bool q) w := by rw [eql_o, h]
theorem neq_o (x y : E6) (w : World) : (binOp .neq 35 (.agg #[.int .i64 x.a, .int .i64 x.b, .int .i64 x.c, .int .i64 x.d, .int .i64 x.e, .int .i64 x.f]) (.agg #[.int .i64 y.a, .int .i64 y.b, .int .i64 y.c, .int .i64 y.d, .int .i64 y.e, .int .i64 y.f])).run Tryd.prog w = .ok (.bool (!decide (x = y))) w := by
  rw [run_neq_struct, run_equalIn_struct w 9999 35 _ _ fields_o held_o]
  have hu := Tryd.underlying35
  have hi := Tryd.underlying3
  simp only [Program.fieldsOf, hu]
  simp [Op.eqFields, go_sem, hi]
  by_cases h : x = y
  · subst h
    simp
  · have hd : x.a = y.a → x.b = y.b → x.c = y.c → x.d = y.d → x.e = y.e → x.f = y.f → False := fun h1 h2 h3 h4 h5 h6 => h (by cases x; cases y; simp_all)
    rw [decide_eq_false h]
    by_cases h1 : x.a = y.a
    · rw [if_pos h1]
      by_cases h2 : x.b = y.b
      · rw [if_pos h2]
        by_cases h3 : x.c = y.c
        · rw [if_pos h3]
          by_cases h4 : x.d = y.d
          · rw [if_pos h4]
            by_cases h5 : x.e = y.e
            · rw [if_pos h5]
              by_cases h6 : x.f = y.f
              · rw [if_pos h6]
                exact (hd h1 h2 h3 h4 h5 h6).elim
              · (rw [if_neg h6]) <;> rfl
            · (rw [if_neg h5]) <;> rfl
          · (rw [if_neg h4]) <;> rfl
        · (rw [if_neg h3]) <;> rfl
      · (rw [if_neg h2]) <;> rfl
    · (rw [if_neg h1]) <;> rfl
theorem neq_o_q {x y : E6} {q : Bool} (h : decide (x = y) = q) (w : World) : (binOp .neq 35 (.agg #[.int .i64 x.a, .int .i64 x.b, .int .i64 x.c, .int .i64 x.d, .int .i64 x.e, .int .i64 x.f]) (.agg #[.int .i64 y.a, .int .i64 y.b, .int .i64 y.c, .int .i64 y.d, .int .i64 y.e, .int .i64 y.f])).run Tryd.prog w = .ok (.bool (!q)) w := by rw [neq_o, h]
/-- what the six numbers must be -/
def ovX (x : E6) : Bool := ovB ⟨x.a, x.b, x.c, x.d, x.e, x.f⟩
/-- the numbers that an operation of a kind uses -/
def useX (x : E6) : E6 := if x.a = 1 then ⟨x.a, x.b, x.c, 0, 0, 0⟩ else if x.a = 2 then ⟨x.a, x.b, 0, x.d, 0, 0⟩ else if x.a = 3 then ⟨x.a, x.b, 0, x.d, 0, x.f⟩ else if x.a = 4 then ⟨x.a, x.b, 0, x.d, x.e, 0⟩ else ⟨x.a, x.b, 0, 0, 0, 0⟩
/-- their ranges -/
def rngX (x : E6) : Bool := if x.a = 1 then In 1 4 x.c else if x.a = 2 then In 0 5 x.d else if x.a = 3 then In 0 5 x.d && In (-1) 99 x.f else if x.a = 4 then In 0 5 x.d && In 0 5 x.e && decide (x.d ≤ x.e) else true
theorem ov_eq (x : E6) : ovX x = (In 1 9 x.b && decide (1 ≤ x.a ∧ x.a ≤ 6) && rngX x && decide (x = useX x)) := by
  obtain ⟨a, b, c, d, e, f⟩ := x
  rw [Bool.eq_iff_iff]
  simp only [ovX, ovB, rngX, useX, In, Bool.and_eq_true, Bool.or_eq_true, decide_eq_true_eq]
  by_cases h1 : a = 1
  · subst h1; simp; omega
  by_cases h2 : a = 2
  · subst h2; simp; omega
  by_cases h3 : a = 3
  · subst h3; simp; omega
  by_cases h4 : a = 4
  · subst h4; simp; omega
  simp only [if_neg h1, if_neg h2, if_neg h3, if_neg h4]
  simp
  omega
theorem ov_id {x : E6} (h : In 1 9 x.b = false) : false = ovX x := by rw [ov_eq, h]; rfl
theorem ov_kind {x : E6} (h : ¬ (1 ≤ x.a ∧ x.a ≤ 6)) : false = ovX x := by rw [ov_eq, decide_eq_false h]; simp
theorem ov_rng {x : E6} (h : rngX x = false) : false = ovX x := by rw [ov_eq, h]; simp
theorem ov_q {x : E6} {q : Bool} (hi : In 1 9 x.b = true) (hk : 1 ≤ x.a ∧ x.a ≤ 6) (hr : rngX x = true) (h : decide (x = useX x) = q) : q = ovX x := by rw [ov_eq, hi, decide_eq_true hk, hr, h]; rfl
set_option maxRecDepth 100000 in
set_option maxHeartbeats 3200000 in
theorem impl_op (a b c d e f : Int) (w : World) :
    Calls Tryd.prog 16 #[.agg #[.int .i64 a, .int .i64 b, .int .i64 c, .int .i64 d, .int .i64 e, .int .i64 f]] w fun e' w' => e' = .returned (.bool (ovX ⟨a, b, c, d, e, f⟩)) ∧ Below w.heap.size w w' := by
  generalize hid : In 1 9 b = q0
  cases q0 with
  | false =>
    have HZ : Hid (false = ovX ⟨a, b, c, d, e, f⟩) := Lib.hid (ov_id hid)
    have HI := Lib.hid hid
    clear hid
    go_enter Tryd.func16, Tryd.ntmps16
    go_wp2_with fail
    refine (id_q HI.out _).mono ?_
    rintro e' W ⟨rfl, rfl⟩
    go_wp2_with fail
    go_ret
    exact ⟨ret_b HZ.out, by first | exact new1 _ _ | exact Go.Proofs.YtjnlbhmddhpmaabDoor.vers.new2 _ _ _ | exact Below.refl _ _⟩
  | true =>
  have HI := Lib.hid hid
  by_cases hk1 : a = 1
  · subst hk1
    have HK : Hid (1 ≤ (⟨1, b, c, d, e, f⟩ : E6).a ∧ (⟨1, b, c, d, e, f⟩ : E6).a ≤ 6) := Lib.hid ⟨by show (1 : Int) ≤ 1; omega, by show (1 : Int) ≤ 6; omega⟩
    generalize heq : decide ((⟨1, b, c, d, e, f⟩ : E6) = ⟨1, b, c, 0, 0, 0⟩) = qe
    have HE := Lib.hid heq
    clear heq
    generalize hr0 : In 1 4 c = r0
    cases r0 with
    | false =>
      have HZ : Hid (false = ovX (⟨1, b, c, d, e, f⟩ : E6)) := Lib.hid (ov_rng (by unfold rngX; simp; have := hr0; simp_all))
      have HR0 := Lib.hid hr0
      clear hr0
      have q7 : ∀ w : World, (binOp .eql 35 (.agg #[.int .i64 1, .int .i64 b, .int .i64 c, .int .i64 d, .int .i64 e, .int .i64 f]) (.agg #[.int .i64 1, .int .i64 b, .int .i64 c, .int .i64 0, .int .i64 0, .int .i64 0])).run Tryd.prog w = .ok (.bool qe) w := fun w => eql_o_q (x := (⟨1, b, c, d, e, f⟩ : E6)) (y := ⟨1, b, c, 0, 0, 0⟩) HE.out w
      go_enter Tryd.func16, Tryd.ntmps16
      go_wp2_with fail
      refine (id_q HI.out _).mono ?_
      rintro e' W ⟨rfl, rfl⟩
      try go_wp2_with fail
      refine (scheme_q HR0.out _).mono ?_
      rintro e' W ⟨rfl, rfl⟩
      try go_wp2_with fail
      go_ret
      exact ⟨ret_b HZ.out, by first | exact HN3.out | exact Go.Proofs.YtjnlbhmddhpmaabDoor.vers.new2 _ _ _ | exact Go.Proofs.YtjnlbhmddhpmaabDoor.vers.new3 _ _ _ _ | exact new1 _ _⟩
    | true =>
    have HR : rngX (⟨1, b, c, d, e, f⟩ : E6) = true := by unfold rngX; simp; try simp_all
    have HZ : Hid (qe = ovX (⟨1, b, c, d, e, f⟩ : E6)) := Lib.hid (ov_q HI.out HK.out HR HE.out)
    clear HR
    have HR0 := Lib.hid hr0
    clear hr0
    have q7 : ∀ w : World, (binOp .eql 35 (.agg #[.int .i64 1, .int .i64 b, .int .i64 c, .int .i64 d, .int .i64 e, .int .i64 f]) (.agg #[.int .i64 1, .int .i64 b, .int .i64 c, .int .i64 0, .int .i64 0, .int .i64 0])).run Tryd.prog w = .ok (.bool qe) w := fun w => eql_o_q (x := (⟨1, b, c, d, e, f⟩ : E6)) (y := ⟨1, b, c, 0, 0, 0⟩) HE.out w
    go_enter Tryd.func16, Tryd.ntmps16
    go_wp2_with fail
    refine (id_q HI.out _).mono ?_
    rintro e' W ⟨rfl, rfl⟩
    try go_wp2_with fail
    refine (scheme_q HR0.out _).mono ?_
    rintro e' W ⟨rfl, rfl⟩
    try go_wp2_with fail
    go_ret
    exact ⟨ret_b HZ.out, by first | exact HN3.out | exact Go.Proofs.YtjnlbhmddhpmaabDoor.vers.new2 _ _ _ | exact Go.Proofs.YtjnlbhmddhpmaabDoor.vers.new3 _ _ _ _ | exact new1 _ _⟩
  by_cases hk2 : a = 2
  · subst hk2
    have HK : Hid (1 ≤ (⟨2, b, c, d, e, f⟩ : E6).a ∧ (⟨2, b, c, d, e, f⟩ : E6).a ≤ 6) := Lib.hid ⟨by show (1 : Int) ≤ 2; omega, by show (2 : Int) ≤ 6; omega⟩
    generalize heq : decide ((⟨2, b, c, d, e, f⟩ : E6) = ⟨2, b, 0, d, 0, 0⟩) = qe
    have HE := Lib.hid heq
    clear heq
    generalize hr0 : In 0 5 d = r0
    cases r0 with
    | false =>
      have HZ : Hid (false = ovX (⟨2, b, c, d, e, f⟩ : E6)) := Lib.hid (ov_rng (by unfold rngX; simp; have := hr0; simp_all))
      have HR0 := Lib.hid hr0
      clear hr0
      have q7 : ∀ w : World, (binOp .eql 35 (.agg #[.int .i64 2, .int .i64 b, .int .i64 c, .int .i64 d, .int .i64 e, .int .i64 f]) (.agg #[.int .i64 2, .int .i64 b, .int .i64 0, .int .i64 d, .int .i64 0, .int .i64 0])).run Tryd.prog w = .ok (.bool qe) w := fun w => eql_o_q (x := (⟨2, b, c, d, e, f⟩ : E6)) (y := ⟨2, b, 0, d, 0, 0⟩) HE.out w
      go_enter Tryd.func16, Tryd.ntmps16
      go_wp2_with fail
      refine (id_q HI.out _).mono ?_
      rintro e' W ⟨rfl, rfl⟩
      try go_wp2_with fail
      refine (key_q HR0.out _).mono ?_
      rintro e' W ⟨rfl, rfl⟩
      try go_wp2_with fail
      go_ret
      exact ⟨ret_b HZ.out, by first | exact HN3.out | exact Go.Proofs.YtjnlbhmddhpmaabDoor.vers.new2 _ _ _ | exact Go.Proofs.YtjnlbhmddhpmaabDoor.vers.new3 _ _ _ _ | exact new1 _ _⟩
    | true =>
    have HR : rngX (⟨2, b, c, d, e, f⟩ : E6) = true := by unfold rngX; simp; try simp_all
    have HZ : Hid (qe = ovX (⟨2, b, c, d, e, f⟩ : E6)) := Lib.hid (ov_q HI.out HK.out HR HE.out)
    clear HR
    have HR0 := Lib.hid hr0
    clear hr0
    have q7 : ∀ w : World, (binOp .eql 35 (.agg #[.int .i64 2, .int .i64 b, .int .i64 c, .int .i64 d, .int .i64 e, .int .i64 f]) (.agg #[.int .i64 2, .int .i64 b, .int .i64 0, .int .i64 d, .int .i64 0, .int .i64 0])).run Tryd.prog w = .ok (.bool qe) w := fun w => eql_o_q (x := (⟨2, b, c, d, e, f⟩ : E6)) (y := ⟨2, b, 0, d, 0, 0⟩) HE.out w
    go_enter Tryd.func16, Tryd.ntmps16
    go_wp2_with fail
    refine (id_q HI.out _).mono ?_
    rintro e' W ⟨rfl, rfl⟩
    try go_wp2_with fail
    refine (key_q HR0.out _).mono ?_
    rintro e' W ⟨rfl, rfl⟩
    try go_wp2_with fail
    go_ret
    exact ⟨ret_b HZ.out, by first | exact HN3.out | exact Go.Proofs.YtjnlbhmddhpmaabDoor.vers.new2 _ _ _ | exact Go.Proofs.YtjnlbhmddhpmaabDoor.vers.new3 _ _ _ _ | exact new1 _ _⟩
  by_cases hk3 : a = 3
  · subst hk3
    have HK : Hid (1 ≤ (⟨3, b, c, d, e, f⟩ : E6).a ∧ (⟨3, b, c, d, e, f⟩ : E6).a ≤ 6) := Lib.hid ⟨by show (1 : Int) ≤ 3; omega, by show (3 : Int) ≤ 6; omega⟩
    generalize heq : decide ((⟨3, b, c, d, e, f⟩ : E6) = ⟨3, b, 0, d, 0, f⟩) = qe
    have HE := Lib.hid heq
    clear heq
    generalize hr0 : In 0 5 d = r0
    generalize hr1 : In (-1) 99 f = r1
    cases r0 with
    | false =>
      have HZ : Hid (false = ovX (⟨3, b, c, d, e, f⟩ : E6)) := Lib.hid (ov_rng (by unfold rngX; simp; have := hr0; simp_all))
      have HR0 := Lib.hid hr0
      clear hr0
      have q7 : ∀ w : World, (binOp .eql 35 (.agg #[.int .i64 3, .int .i64 b, .int .i64 c, .int .i64 d, .int .i64 e, .int .i64 f]) (.agg #[.int .i64 3, .int .i64 b, .int .i64 0, .int .i64 d, .int .i64 0, .int .i64 f])).run Tryd.prog w = .ok (.bool qe) w := fun w => eql_o_q (x := (⟨3, b, c, d, e, f⟩ : E6)) (y := ⟨3, b, 0, d, 0, f⟩) HE.out w
      go_enter Tryd.func16, Tryd.ntmps16
      go_wp2_with fail
      refine (id_q HI.out _).mono ?_
      rintro e' W ⟨rfl, rfl⟩
      try go_wp2_with fail
      obtain ⟨a0, a1, a2, a3, a4, a5⟩ := atFlat ((boxed w ⟨3, b, c, d, e, f⟩ 35).keep (by simp) (new1 (w.alloc (.cells #[.int .i64 3, .int .i64 b, .int .i64 c, .int .i64 d, .int .i64 e, .int .i64 f] 35)) (.cells #[.int .i64 3, .int .i64 b, .int .i64 0, .int .i64 0, .int .i64 0, .int .i64 0] 35)))
      have ru := World.rowIs_alloc (w.alloc (.cells #[.int .i64 3, .int .i64 b, .int .i64 c, .int .i64 d, .int .i64 e, .int .i64 f] 35)) #[.int .i64 3, .int .i64 b, .int .i64 0, .int .i64 0, .int .i64 0, .int .i64 0] 35 (fun i => if i = 0 then .int .i64 3 else if i = 1 then .int .i64 b else .int .i64 0) (fun i hi => by match i, hi with | 0, _ => rfl | 1, _ => rfl | 2, _ => rfl | 3, _ => rfl | 4, _ => rfl | 5, _ => rfl)
      rw [show (w.alloc (.cells #[.int .i64 3, .int .i64 b, .int .i64 c, .int .i64 d, .int .i64 e, .int .i64 f] 35)).heap.size = w.heap.size + 1 by simp] at ru
      have hn2 := Go.Proofs.YtjnlbhmddhpmaabDoor.vers.new2 w (.cells #[.int .i64 3, .int .i64 b, .int .i64 c, .int .i64 d, .int .i64 e, .int .i64 f] 35) (.cells #[.int .i64 3, .int .i64 b, .int .i64 0, .int .i64 0, .int .i64 0, .int .i64 0] 35)
      have ro0 := (World.rowIs_alloc w #[.int .i64 3, .int .i64 b, .int .i64 c, .int .i64 d, .int .i64 e, .int .i64 f] 35 (fun i => if i = 0 then .int .i64 3 else if i = 1 then .int .i64 b else if i = 2 then .int .i64 c else if i = 3 then .int .i64 d else if i = 4 then .int .i64 e else .int .i64 f) (fun i hi => by match i, hi with | 0, _ => rfl | 1, _ => rfl | 2, _ => rfl | 3, _ => rfl | 4, _ => rfl | 5, _ => rfl)).alloc (.cells #[.int .i64 3, .int .i64 b, .int .i64 0, .int .i64 0, .int .i64 0, .int .i64 0] 35)
      generalize (w.alloc _).alloc _ = W0 at ro0 a0 a1 a2 a3 a4 a5 ru hn2 ⊢
      have RU := Lib.hid ru
      have RO := Lib.hid ro0
      have HN2 := Lib.hid hn2
      clear ro0
      have u3 : W0.cell? ⟨w.heap.size + 1, 3, none⟩ = some (.int .i64 0) := ru.cell (show 3 < 6 by decide)
      have u5 : W0.cell? ⟨w.heap.size + 1, 5, none⟩ = some (.int .i64 0) := ru.cell (show 5 < 6 by decide)
      have z3 := ru.frozen 3
      have z5 := ru.frozen 5
      have ro : W0.rowIs w.heap.size 35 6 (fun i => if i = 0 then .int .i64 3 else if i = 1 then .int .i64 b else if i = 2 then .int .i64 c else if i = 3 then .int .i64 d else if i = 4 then .int .i64 e else .int .i64 f) := RO.out
      clear ru hn2
      go_region
      have r2 := (RU.out.set 3 (.int .i64 d)).set 5 (.int .i64 f)
      have r1 := (ro.setOther (a := ⟨w.heap.size + 1, 3, none⟩) (by simp) (.int .i64 d)).setOther (a := ⟨w.heap.size + 1, 5, none⟩) (by simp) (.int .i64 f)
      have hn3 := ((HN2.out.setCell (p := ⟨w.heap.size + 1, 3, none⟩) (by simp) (.int .i64 d)).setCell (p := ⟨w.heap.size + 1, 5, none⟩) (by simp) (.int .i64 f)).drew
      have r2 := r2.drew
      have r1 := r1.drew
      clear a0 a1 a2 a3 a4 a5 u3 u5 z3 z5 ro
      generalize World.drew _ = Wf at r1 r2 hn3 ⊢
      have a0 : Wf.cell? ⟨w.heap.size, 0, none⟩ = some (.int .i64 3) := r1.cell (show 0 < 6 by decide)
      have a1 : Wf.cell? ⟨w.heap.size, 1, none⟩ = some (.int .i64 b) := r1.cell (show 1 < 6 by decide)
      have a2 : Wf.cell? ⟨w.heap.size, 2, none⟩ = some (.int .i64 c) := r1.cell (show 2 < 6 by decide)
      have a3 : Wf.cell? ⟨w.heap.size, 3, none⟩ = some (.int .i64 d) := r1.cell (show 3 < 6 by decide)
      have a4 : Wf.cell? ⟨w.heap.size, 4, none⟩ = some (.int .i64 e) := r1.cell (show 4 < 6 by decide)
      have a5 : Wf.cell? ⟨w.heap.size, 5, none⟩ = some (.int .i64 f) := r1.cell (show 5 < 6 by decide)
      have u0 : Wf.cell? ⟨w.heap.size + 1, 0, none⟩ = some (.int .i64 3) := r2.cell (show 0 < 6 by decide)
      have u1 : Wf.cell? ⟨w.heap.size + 1, 1, none⟩ = some (.int .i64 b) := r2.cell (show 1 < 6 by decide)
      have u2 : Wf.cell? ⟨w.heap.size + 1, 2, none⟩ = some (.int .i64 0) := r2.cell (show 2 < 6 by decide)
      have u3 : Wf.cell? ⟨w.heap.size + 1, 3, none⟩ = some (.int .i64 d) := r2.cell (show 3 < 6 by decide)
      have u4 : Wf.cell? ⟨w.heap.size + 1, 4, none⟩ = some (.int .i64 0) := r2.cell (show 4 < 6 by decide)
      have u5 : Wf.cell? ⟨w.heap.size + 1, 5, none⟩ = some (.int .i64 f) := r2.cell (show 5 < 6 by decide)
      have HN3 := Lib.hid hn3
      clear r1 r2 hn3
      try go_wp2_with fail
      refine (key_q HR0.out _).mono ?_
      rintro e' W ⟨rfl, rfl⟩
      try go_wp2_with fail
      go_ret
      exact ⟨ret_b HZ.out, by first | exact HN3.out | exact Go.Proofs.YtjnlbhmddhpmaabDoor.vers.new2 _ _ _ | exact Go.Proofs.YtjnlbhmddhpmaabDoor.vers.new3 _ _ _ _ | exact new1 _ _⟩
    | true =>
    cases r1 with
    | false =>
      have HZ : Hid (false = ovX (⟨3, b, c, d, e, f⟩ : E6)) := Lib.hid (ov_rng (by unfold rngX; simp; have := hr1; simp_all))
      have HR0 := Lib.hid hr0
      have HR1 := Lib.hid hr1
      clear hr0 hr1
      have q7 : ∀ w : World, (binOp .eql 35 (.agg #[.int .i64 3, .int .i64 b, .int .i64 c, .int .i64 d, .int .i64 e, .int .i64 f]) (.agg #[.int .i64 3, .int .i64 b, .int .i64 0, .int .i64 d, .int .i64 0, .int .i64 f])).run Tryd.prog w = .ok (.bool qe) w := fun w => eql_o_q (x := (⟨3, b, c, d, e, f⟩ : E6)) (y := ⟨3, b, 0, d, 0, f⟩) HE.out w
      go_enter Tryd.func16, Tryd.ntmps16
      go_wp2_with fail
      refine (id_q HI.out _).mono ?_
      rintro e' W ⟨rfl, rfl⟩
      try go_wp2_with fail
      obtain ⟨a0, a1, a2, a3, a4, a5⟩ := atFlat ((boxed w ⟨3, b, c, d, e, f⟩ 35).keep (by simp) (new1 (w.alloc (.cells #[.int .i64 3, .int .i64 b, .int .i64 c, .int .i64 d, .int .i64 e, .int .i64 f] 35)) (.cells #[.int .i64 3, .int .i64 b, .int .i64 0, .int .i64 0, .int .i64 0, .int .i64 0] 35)))
      have ru := World.rowIs_alloc (w.alloc (.cells #[.int .i64 3, .int .i64 b, .int .i64 c, .int .i64 d, .int .i64 e, .int .i64 f] 35)) #[.int .i64 3, .int .i64 b, .int .i64 0, .int .i64 0, .int .i64 0, .int .i64 0] 35 (fun i => if i = 0 then .int .i64 3 else if i = 1 then .int .i64 b else .int .i64 0) (fun i hi => by match i, hi with | 0, _ => rfl | 1, _ => rfl | 2, _ => rfl | 3, _ => rfl | 4, _ => rfl | 5, _ => rfl)
      rw [show (w.alloc (.cells #[.int .i64 3, .int .i64 b, .int .i64 c, .int .i64 d, .int .i64 e, .int .i64 f] 35)).heap.size = w.heap.size + 1 by simp] at ru
      have hn2 := Go.Proofs.YtjnlbhmddhpmaabDoor.vers.new2 w (.cells #[.int .i64 3, .int .i64 b, .int .i64 c, .int .i64 d, .int .i64 e, .int .i64 f] 35) (.cells #[.int .i64 3, .int .i64 b, .int .i64 0, .int .i64 0, .int .i64 0, .int .i64 0] 35)
      have ro0 := (World.rowIs_alloc w #[.int .i64 3, .int .i64 b, .int .i64 c, .int .i64 d, .int .i64 e, .int .i64 f] 35 (fun i => if i = 0 then .int .i64 3 else if i = 1 then .int .i64 b else if i = 2 then .int .i64 c else if i = 3 then .int .i64 d else if i = 4 then .int .i64 e else .int .i64 f) (fun i hi => by match i, hi with | 0, _ => rfl | 1, _ => rfl | 2, _ => rfl | 3, _ => rfl | 4, _ => rfl | 5, _ => rfl)).alloc (.cells #[.int .i64 3, .int .i64 b, .int .i64 0, .int .i64 0, .int .i64 0, .int .i64 0] 35)
      generalize (w.alloc _).alloc _ = W0 at ro0 a0 a1 a2 a3 a4 a5 ru hn2 ⊢
      have RU := Lib.hid ru
      have RO := Lib.hid ro0
      have HN2 := Lib.hid hn2
      clear ro0
      have u3 : W0.cell? ⟨w.heap.size + 1, 3, none⟩ = some (.int .i64 0) := ru.cell (show 3 < 6 by decide)
      have u5 : W0.cell? ⟨w.heap.size + 1, 5, none⟩ = some (.int .i64 0) := ru.cell (show 5 < 6 by decide)
      have z3 := ru.frozen 3
      have z5 := ru.frozen 5
      have ro : W0.rowIs w.heap.size 35 6 (fun i => if i = 0 then .int .i64 3 else if i = 1 then .int .i64 b else if i = 2 then .int .i64 c else if i = 3 then .int .i64 d else if i = 4 then .int .i64 e else .int .i64 f) := RO.out
      clear ru hn2
      go_region
      have r2 := (RU.out.set 3 (.int .i64 d)).set 5 (.int .i64 f)
      have r1 := (ro.setOther (a := ⟨w.heap.size + 1, 3, none⟩) (by simp) (.int .i64 d)).setOther (a := ⟨w.heap.size + 1, 5, none⟩) (by simp) (.int .i64 f)
      have hn3 := ((HN2.out.setCell (p := ⟨w.heap.size + 1, 3, none⟩) (by simp) (.int .i64 d)).setCell (p := ⟨w.heap.size + 1, 5, none⟩) (by simp) (.int .i64 f)).drew
      have r2 := r2.drew
      have r1 := r1.drew
      clear a0 a1 a2 a3 a4 a5 u3 u5 z3 z5 ro
      generalize World.drew _ = Wf at r1 r2 hn3 ⊢
      have a0 : Wf.cell? ⟨w.heap.size, 0, none⟩ = some (.int .i64 3) := r1.cell (show 0 < 6 by decide)
      have a1 : Wf.cell? ⟨w.heap.size, 1, none⟩ = some (.int .i64 b) := r1.cell (show 1 < 6 by decide)
      have a2 : Wf.cell? ⟨w.heap.size, 2, none⟩ = some (.int .i64 c) := r1.cell (show 2 < 6 by decide)
      have a3 : Wf.cell? ⟨w.heap.size, 3, none⟩ = some (.int .i64 d) := r1.cell (show 3 < 6 by decide)
      have a4 : Wf.cell? ⟨w.heap.size, 4, none⟩ = some (.int .i64 e) := r1.cell (show 4 < 6 by decide)
      have a5 : Wf.cell? ⟨w.heap.size, 5, none⟩ = some (.int .i64 f) := r1.cell (show 5 < 6 by decide)
      have u0 : Wf.cell? ⟨w.heap.size + 1, 0, none⟩ = some (.int .i64 3) := r2.cell (show 0 < 6 by decide)
      have u1 : Wf.cell? ⟨w.heap.size + 1, 1, none⟩ = some (.int .i64 b) := r2.cell (show 1 < 6 by decide)
      have u2 : Wf.cell? ⟨w.heap.size + 1, 2, none⟩ = some (.int .i64 0) := r2.cell (show 2 < 6 by decide)
      have u3 : Wf.cell? ⟨w.heap.size + 1, 3, none⟩ = some (.int .i64 d) := r2.cell (show 3 < 6 by decide)
      have u4 : Wf.cell? ⟨w.heap.size + 1, 4, none⟩ = some (.int .i64 0) := r2.cell (show 4 < 6 by decide)
      have u5 : Wf.cell? ⟨w.heap.size + 1, 5, none⟩ = some (.int .i64 f) := r2.cell (show 5 < 6 by decide)
      have HN3 := Lib.hid hn3
      clear r1 r2 hn3
      try go_wp2_with fail
      refine (key_q HR0.out _).mono ?_
      rintro e' W ⟨rfl, rfl⟩
      try go_wp2_with fail
      refine (value_q HR1.out _).mono ?_
      rintro e' W ⟨rfl, rfl⟩
      try go_wp2_with fail
      go_ret
      exact ⟨ret_b HZ.out, by first | exact HN3.out | exact Go.Proofs.YtjnlbhmddhpmaabDoor.vers.new2 _ _ _ | exact Go.Proofs.YtjnlbhmddhpmaabDoor.vers.new3 _ _ _ _ | exact new1 _ _⟩
    | true =>
    have HR : rngX (⟨3, b, c, d, e, f⟩ : E6) = true := by unfold rngX; simp; try simp_all
    have HZ : Hid (qe = ovX (⟨3, b, c, d, e, f⟩ : E6)) := Lib.hid (ov_q HI.out HK.out HR HE.out)
    clear HR
    have HR0 := Lib.hid hr0
    have HR1 := Lib.hid hr1
    clear hr0 hr1
    have q7 : ∀ w : World, (binOp .eql 35 (.agg #[.int .i64 3, .int .i64 b, .int .i64 c, .int .i64 d, .int .i64 e, .int .i64 f]) (.agg #[.int .i64 3, .int .i64 b, .int .i64 0, .int .i64 d, .int .i64 0, .int .i64 f])).run Tryd.prog w = .ok (.bool qe) w := fun w => eql_o_q (x := (⟨3, b, c, d, e, f⟩ : E6)) (y := ⟨3, b, 0, d, 0, f⟩) HE.out w
    go_enter Tryd.func16, Tryd.ntmps16
    go_wp2_with fail
    refine (id_q HI.out _).mono ?_
    rintro e' W ⟨rfl, rfl⟩
    try go_wp2_with fail
    obtain ⟨a0, a1, a2, a3, a4, a5⟩ := atFlat ((boxed w ⟨3, b, c, d, e, f⟩ 35).keep (by simp) (new1 (w.alloc (.cells #[.int .i64 3, .int .i64 b, .int .i64 c, .int .i64 d, .int .i64 e, .int .i64 f] 35)) (.cells #[.int .i64 3, .int .i64 b, .int .i64 0, .int .i64 0, .int .i64 0, .int .i64 0] 35)))
    have ru := World.rowIs_alloc (w.alloc (.cells #[.int .i64 3, .int .i64 b, .int .i64 c, .int .i64 d, .int .i64 e, .int .i64 f] 35)) #[.int .i64 3, .int .i64 b, .int .i64 0, .int .i64 0, .int .i64 0, .int .i64 0] 35 (fun i => if i = 0 then .int .i64 3 else if i = 1 then .int .i64 b else .int .i64 0) (fun i hi => by match i, hi with | 0, _ => rfl | 1, _ => rfl | 2, _ => rfl | 3, _ => rfl | 4, _ => rfl | 5, _ => rfl)
    rw [show (w.alloc (.cells #[.int .i64 3, .int .i64 b, .int .i64 c, .int .i64 d, .int .i64 e, .int .i64 f] 35)).heap.size = w.heap.size + 1 by simp] at ru
    have hn2 := Go.Proofs.YtjnlbhmddhpmaabDoor.vers.new2 w (.cells #[.int .i64 3, .int .i64 b, .int .i64 c, .int .i64 d, .int .i64 e, .int .i64 f] 35) (.cells #[.int .i64 3, .int .i64 b, .int .i64 0, .int .i64 0, .int .i64 0, .int .i64 0] 35)
    have ro0 := (World.rowIs_alloc w #[.int .i64 3, .int .i64 b, .int .i64 c, .int .i64 d, .int .i64 e, .int .i64 f] 35 (fun i => if i = 0 then .int .i64 3 else if i = 1 then .int .i64 b else if i = 2 then .int .i64 c else if i = 3 then .int .i64 d else if i = 4 then .int .i64 e else .int .i64 f) (fun i hi => by match i, hi with | 0, _ => rfl | 1, _ => rfl | 2, _ => rfl | 3, _ => rfl | 4, _ => rfl | 5, _ => rfl)).alloc (.cells #[.int .i64 3, .int .i64 b, .int .i64 0, .int .i64 0, .int .i64 0, .int .i64 0] 35)
    generalize (w.alloc _).alloc _ = W0 at ro0 a0 a1 a2 a3 a4 a5 ru hn2 ⊢
    have RU := Lib.hid ru
    have RO := Lib.hid ro0
    have HN2 := Lib.hid hn2
    clear ro0
    have u3 : W0.cell? ⟨w.heap.size + 1, 3, none⟩ = some (.int .i64 0) := ru.cell (show 3 < 6 by decide)
    have u5 : W0.cell? ⟨w.heap.size + 1, 5, none⟩ = some (.int .i64 0) := ru.cell (show 5 < 6 by decide)
    have z3 := ru.frozen 3
    have z5 := ru.frozen 5
    have ro : W0.rowIs w.heap.size 35 6 (fun i => if i = 0 then .int .i64 3 else if i = 1 then .int .i64 b else if i = 2 then .int .i64 c else if i = 3 then .int .i64 d else if i = 4 then .int .i64 e else .int .i64 f) := RO.out
    clear ru hn2
    go_region
    have r2 := (RU.out.set 3 (.int .i64 d)).set 5 (.int .i64 f)
    have r1 := (ro.setOther (a := ⟨w.heap.size + 1, 3, none⟩) (by simp) (.int .i64 d)).setOther (a := ⟨w.heap.size + 1, 5, none⟩) (by simp) (.int .i64 f)
    have hn3 := ((HN2.out.setCell (p := ⟨w.heap.size + 1, 3, none⟩) (by simp) (.int .i64 d)).setCell (p := ⟨w.heap.size + 1, 5, none⟩) (by simp) (.int .i64 f)).drew
    have r2 := r2.drew
    have r1 := r1.drew
    clear a0 a1 a2 a3 a4 a5 u3 u5 z3 z5 ro
    generalize World.drew _ = Wf at r1 r2 hn3 ⊢
    have a0 : Wf.cell? ⟨w.heap.size, 0, none⟩ = some (.int .i64 3) := r1.cell (show 0 < 6 by decide)
    have a1 : Wf.cell? ⟨w.heap.size, 1, none⟩ = some (.int .i64 b) := r1.cell (show 1 < 6 by decide)
    have a2 : Wf.cell? ⟨w.heap.size, 2, none⟩ = some (.int .i64 c) := r1.cell (show 2 < 6 by decide)
    have a3 : Wf.cell? ⟨w.heap.size, 3, none⟩ = some (.int .i64 d) := r1.cell (show 3 < 6 by decide)
    have a4 : Wf.cell? ⟨w.heap.size, 4, none⟩ = some (.int .i64 e) := r1.cell (show 4 < 6 by decide)
    have a5 : Wf.cell? ⟨w.heap.size, 5, none⟩ = some (.int .i64 f) := r1.cell (show 5 < 6 by decide)
    have u0 : Wf.cell? ⟨w.heap.size + 1, 0, none⟩ = some (.int .i64 3) := r2.cell (show 0 < 6 by decide)
    have u1 : Wf.cell? ⟨w.heap.size + 1, 1, none⟩ = some (.int .i64 b) := r2.cell (show 1 < 6 by decide)
    have u2 : Wf.cell? ⟨w.heap.size + 1, 2, none⟩ = some (.int .i64 0) := r2.cell (show 2 < 6 by decide)
    have u3 : Wf.cell? ⟨w.heap.size + 1, 3, none⟩ = some (.int .i64 d) := r2.cell (show 3 < 6 by decide)
    have u4 : Wf.cell? ⟨w.heap.size + 1, 4, none⟩ = some (.int .i64 0) := r2.cell (show 4 < 6 by decide)
    have u5 : Wf.cell? ⟨w.heap.size + 1, 5, none⟩ = some (.int .i64 f) := r2.cell (show 5 < 6 by decide)
    have HN3 := Lib.hid hn3
    clear r1 r2 hn3
    try go_wp2_with fail
    refine (key_q HR0.out _).mono ?_
    rintro e' W ⟨rfl, rfl⟩
    try go_wp2_with fail
    refine (value_q HR1.out _).mono ?_
    rintro e' W ⟨rfl, rfl⟩
    try go_wp2_with fail
    go_ret
    exact ⟨ret_b HZ.out, by first | exact HN3.out | exact Go.Proofs.YtjnlbhmddhpmaabDoor.vers.new2 _ _ _ | exact Go.Proofs.YtjnlbhmddhpmaabDoor.vers.new3 _ _ _ _ | exact new1 _ _⟩
  by_cases hk4 : a = 4
  · subst hk4
    have HK : Hid (1 ≤ (⟨4, b, c, d, e, f⟩ : E6).a ∧ (⟨4, b, c, d, e, f⟩ : E6).a ≤ 6) := Lib.hid ⟨by show (1 : Int) ≤ 4; omega, by show (4 : Int) ≤ 6; omega⟩
    generalize heq : decide ((⟨4, b, c, d, e, f⟩ : E6) = ⟨4, b, 0, d, e, 0⟩) = qe
    have HE := Lib.hid heq
    clear heq
    generalize hr0 : In 0 5 d = r0
    generalize hr1 : In 0 5 e = r1
    generalize hr2 : decide (d ≤ e) = r2
    cases r0 with
    | false =>
      have HZ : Hid (false = ovX (⟨4, b, c, d, e, f⟩ : E6)) := Lib.hid (ov_rng (by unfold rngX; simp; have := hr0; simp_all))
      have HR0 := Lib.hid hr0
      clear hr0
      have q7 : ∀ w : World, (binOp .eql 35 (.agg #[.int .i64 4, .int .i64 b, .int .i64 c, .int .i64 d, .int .i64 e, .int .i64 f]) (.agg #[.int .i64 4, .int .i64 b, .int .i64 0, .int .i64 d, .int .i64 e, .int .i64 0])).run Tryd.prog w = .ok (.bool qe) w := fun w => eql_o_q (x := (⟨4, b, c, d, e, f⟩ : E6)) (y := ⟨4, b, 0, d, e, 0⟩) HE.out w
      go_enter Tryd.func16, Tryd.ntmps16
      go_wp2_with fail
      refine (id_q HI.out _).mono ?_
      rintro e' W ⟨rfl, rfl⟩
      try go_wp2_with fail
      obtain ⟨a0, a1, a2, a3, a4, a5⟩ := atFlat ((boxed w ⟨4, b, c, d, e, f⟩ 35).keep (by simp) (new1 (w.alloc (.cells #[.int .i64 4, .int .i64 b, .int .i64 c, .int .i64 d, .int .i64 e, .int .i64 f] 35)) (.cells #[.int .i64 4, .int .i64 b, .int .i64 0, .int .i64 0, .int .i64 0, .int .i64 0] 35)))
      have ru := World.rowIs_alloc (w.alloc (.cells #[.int .i64 4, .int .i64 b, .int .i64 c, .int .i64 d, .int .i64 e, .int .i64 f] 35)) #[.int .i64 4, .int .i64 b, .int .i64 0, .int .i64 0, .int .i64 0, .int .i64 0] 35 (fun i => if i = 0 then .int .i64 4 else if i = 1 then .int .i64 b else .int .i64 0) (fun i hi => by match i, hi with | 0, _ => rfl | 1, _ => rfl | 2, _ => rfl | 3, _ => rfl | 4, _ => rfl | 5, _ => rfl)
      rw [show (w.alloc (.cells #[.int .i64 4, .int .i64 b, .int .i64 c, .int .i64 d, .int .i64 e, .int .i64 f] 35)).heap.size = w.heap.size + 1 by simp] at ru
      have hn2 := Go.Proofs.YtjnlbhmddhpmaabDoor.vers.new2 w (.cells #[.int .i64 4, .int .i64 b, .int .i64 c, .int .i64 d, .int .i64 e, .int .i64 f] 35) (.cells #[.int .i64 4, .int .i64 b, .int .i64 0, .int .i64 0, .int .i64 0, .int .i64 0] 35)
      have ro0 := (World.rowIs_alloc w #[.int .i64 4, .int .i64 b, .int .i64 c, .int .i64 d, .int .i64 e, .int .i64 f] 35 (fun i => if i = 0 then .int .i64 4 else if i = 1 then .int .i64 b else if i = 2 then .int .i64 c else if i = 3 then .int .i64 d else if i = 4 then .int .i64 e else .int .i64 f) (fun i hi => by match i, hi with | 0, _ => rfl | 1, _ => rfl | 2, _ => rfl | 3, _ => rfl | 4, _ => rfl | 5, _ => rfl)).alloc (.cells #[.int .i64 4, .int .i64 b, .int .i64 0, .int .i64 0, .int .i64 0, .int .i64 0] 35)
      generalize (w.alloc _).alloc _ = W0 at ro0 a0 a1 a2 a3 a4 a5 ru hn2 ⊢
      have RU := Lib.hid ru
      have RO := Lib.hid ro0
      have HN2 := Lib.hid hn2
      clear ro0
      have u3 : W0.cell? ⟨w.heap.size + 1, 3, none⟩ = some (.int .i64 0) := ru.cell (show 3 < 6 by decide)
      have u4 : W0.cell? ⟨w.heap.size + 1, 4, none⟩ = some (.int .i64 0) := ru.cell (show 4 < 6 by decide)
      have z3 := ru.frozen 3
      have z4 := ru.frozen 4
      have ro : W0.rowIs w.heap.size 35 6 (fun i => if i = 0 then .int .i64 4 else if i = 1 then .int .i64 b else if i = 2 then .int .i64 c else if i = 3 then .int .i64 d else if i = 4 then .int .i64 e else .int .i64 f) := RO.out
      clear ru hn2
      go_region
      have r2 := (RU.out.set 3 (.int .i64 d)).set 4 (.int .i64 e)
      have r1 := (ro.setOther (a := ⟨w.heap.size + 1, 3, none⟩) (by simp) (.int .i64 d)).setOther (a := ⟨w.heap.size + 1, 4, none⟩) (by simp) (.int .i64 e)
      have hn3 := ((HN2.out.setCell (p := ⟨w.heap.size + 1, 3, none⟩) (by simp) (.int .i64 d)).setCell (p := ⟨w.heap.size + 1, 4, none⟩) (by simp) (.int .i64 e)).drew
      have r2 := r2.drew
      have r1 := r1.drew
      clear a0 a1 a2 a3 a4 a5 u3 u4 z3 z4 ro
      generalize World.drew _ = Wf at r1 r2 hn3 ⊢
      have a0 : Wf.cell? ⟨w.heap.size, 0, none⟩ = some (.int .i64 4) := r1.cell (show 0 < 6 by decide)
      have a1 : Wf.cell? ⟨w.heap.size, 1, none⟩ = some (.int .i64 b) := r1.cell (show 1 < 6 by decide)
      have a2 : Wf.cell? ⟨w.heap.size, 2, none⟩ = some (.int .i64 c) := r1.cell (show 2 < 6 by decide)
      have a3 : Wf.cell? ⟨w.heap.size, 3, none⟩ = some (.int .i64 d) := r1.cell (show 3 < 6 by decide)
      have a4 : Wf.cell? ⟨w.heap.size, 4, none⟩ = some (.int .i64 e) := r1.cell (show 4 < 6 by decide)
      have a5 : Wf.cell? ⟨w.heap.size, 5, none⟩ = some (.int .i64 f) := r1.cell (show 5 < 6 by decide)
      have u0 : Wf.cell? ⟨w.heap.size + 1, 0, none⟩ = some (.int .i64 4) := r2.cell (show 0 < 6 by decide)
      have u1 : Wf.cell? ⟨w.heap.size + 1, 1, none⟩ = some (.int .i64 b) := r2.cell (show 1 < 6 by decide)
      have u2 : Wf.cell? ⟨w.heap.size + 1, 2, none⟩ = some (.int .i64 0) := r2.cell (show 2 < 6 by decide)
      have u3 : Wf.cell? ⟨w.heap.size + 1, 3, none⟩ = some (.int .i64 d) := r2.cell (show 3 < 6 by decide)
      have u4 : Wf.cell? ⟨w.heap.size + 1, 4, none⟩ = some (.int .i64 e) := r2.cell (show 4 < 6 by decide)
      have u5 : Wf.cell? ⟨w.heap.size + 1, 5, none⟩ = some (.int .i64 0) := r2.cell (show 5 < 6 by decide)
      have HN3 := Lib.hid hn3
      clear r1 r2 hn3
      try go_wp2_with fail
      refine (key_q HR0.out _).mono ?_
      rintro e' W ⟨rfl, rfl⟩
      try go_wp2_with fail
      go_ret
      exact ⟨ret_b HZ.out, by first | exact HN3.out | exact Go.Proofs.YtjnlbhmddhpmaabDoor.vers.new2 _ _ _ | exact Go.Proofs.YtjnlbhmddhpmaabDoor.vers.new3 _ _ _ _ | exact new1 _ _⟩
    | true =>
    cases r1 with
    | false =>
      have HZ : Hid (false = ovX (⟨4, b, c, d, e, f⟩ : E6)) := Lib.hid (ov_rng (by unfold rngX; simp; have := hr1; simp_all))
      have HR0 := Lib.hid hr0
      have HR1 := Lib.hid hr1
      clear hr0 hr1
      have q7 : ∀ w : World, (binOp .eql 35 (.agg #[.int .i64 4, .int .i64 b, .int .i64 c, .int .i64 d, .int .i64 e, .int .i64 f]) (.agg #[.int .i64 4, .int .i64 b, .int .i64 0, .int .i64 d, .int .i64 e, .int .i64 0])).run Tryd.prog w = .ok (.bool qe) w := fun w => eql_o_q (x := (⟨4, b, c, d, e, f⟩ : E6)) (y := ⟨4, b, 0, d, e, 0⟩) HE.out w
      go_enter Tryd.func16, Tryd.ntmps16
      go_wp2_with fail
      refine (id_q HI.out _).mono ?_
      rintro e' W ⟨rfl, rfl⟩
      try go_wp2_with fail
      obtain ⟨a0, a1, a2, a3, a4, a5⟩ := atFlat ((boxed w ⟨4, b, c, d, e, f⟩ 35).keep (by simp) (new1 (w.alloc (.cells #[.int .i64 4, .int .i64 b, .int .i64 c, .int .i64 d, .int .i64 e, .int .i64 f] 35)) (.cells #[.int .i64 4, .int .i64 b, .int .i64 0, .int .i64 0, .int .i64 0, .int .i64 0] 35)))
      have ru := World.rowIs_alloc (w.alloc (.cells #[.int .i64 4, .int .i64 b, .int .i64 c, .int .i64 d, .int .i64 e, .int .i64 f] 35)) #[.int .i64 4, .int .i64 b, .int .i64 0, .int .i64 0, .int .i64 0, .int .i64 0] 35 (fun i => if i = 0 then .int .i64 4 else if i = 1 then .int .i64 b else .int .i64 0) (fun i hi => by match i, hi with | 0, _ => rfl | 1, _ => rfl | 2, _ => rfl | 3, _ => rfl | 4, _ => rfl | 5, _ => rfl)
      rw [show (w.alloc (.cells #[.int .i64 4, .int .i64 b, .int .i64 c, .int .i64 d, .int .i64 e, .int .i64 f] 35)).heap.size = w.heap.size + 1 by simp] at ru
      have hn2 := Go.Proofs.YtjnlbhmddhpmaabDoor.vers.new2 w (.cells #[.int .i64 4, .int .i64 b, .int .i64 c, .int .i64 d, .int .i64 e, .int .i64 f] 35) (.cells #[.int .i64 4, .int .i64 b, .int .i64 0, .int .i64 0, .int .i64 0, .int .i64 0] 35)
      have ro0 := (World.rowIs_alloc w #[.int .i64 4, .int .i64 b, .int .i64 c, .int .i64 d, .int .i64 e, .int .i64 f] 35 (fun i => if i = 0 then .int .i64 4 else if i = 1 then .int .i64 b else if i = 2 then .int .i64 c else if i = 3 then .int .i64 d else if i = 4 then .int .i64 e else .int .i64 f) (fun i hi => by match i, hi with | 0, _ => rfl | 1, _ => rfl | 2, _ => rfl | 3, _ => rfl | 4, _ => rfl | 5, _ => rfl)).alloc (.cells #[.int .i64 4, .int .i64 b, .int .i64 0, .int .i64 0, .int .i64 0, .int .i64 0] 35)
      generalize (w.alloc _).alloc _ = W0 at ro0 a0 a1 a2 a3 a4 a5 ru hn2 ⊢
      have RU := Lib.hid ru
      have RO := Lib.hid ro0
      have HN2 := Lib.hid hn2
      clear ro0
      have u3 : W0.cell? ⟨w.heap.size + 1, 3, none⟩ = some (.int .i64 0) := ru.cell (show 3 < 6 by decide)
      have u4 : W0.cell? ⟨w.heap.size + 1, 4, none⟩ = some (.int .i64 0) := ru.cell (show 4 < 6 by decide)
      have z3 := ru.frozen 3
      have z4 := ru.frozen 4
      have ro : W0.rowIs w.heap.size 35 6 (fun i => if i = 0 then .int .i64 4 else if i = 1 then .int .i64 b else if i = 2 then .int .i64 c else if i = 3 then .int .i64 d else if i = 4 then .int .i64 e else .int .i64 f) := RO.out
      clear ru hn2
      go_region
      have r2 := (RU.out.set 3 (.int .i64 d)).set 4 (.int .i64 e)
      have r1 := (ro.setOther (a := ⟨w.heap.size + 1, 3, none⟩) (by simp) (.int .i64 d)).setOther (a := ⟨w.heap.size + 1, 4, none⟩) (by simp) (.int .i64 e)
      have hn3 := ((HN2.out.setCell (p := ⟨w.heap.size + 1, 3, none⟩) (by simp) (.int .i64 d)).setCell (p := ⟨w.heap.size + 1, 4, none⟩) (by simp) (.int .i64 e)).drew
      have r2 := r2.drew
      have r1 := r1.drew
      clear a0 a1 a2 a3 a4 a5 u3 u4 z3 z4 ro
      generalize World.drew _ = Wf at r1 r2 hn3 ⊢
      have a0 : Wf.cell? ⟨w.heap.size, 0, none⟩ = some (.int .i64 4) := r1.cell (show 0 < 6 by decide)
      have a1 : Wf.cell? ⟨w.heap.size, 1, none⟩ = some (.int .i64 b) := r1.cell (show 1 < 6 by decide)
      have a2 : Wf.cell? ⟨w.heap.size, 2, none⟩ = some (.int .i64 c) := r1.cell (show 2 < 6 by decide)
      have a3 : Wf.cell? ⟨w.heap.size, 3, none⟩ = some (.int .i64 d) := r1.cell (show 3 < 6 by decide)
      have a4 : Wf.cell? ⟨w.heap.size, 4, none⟩ = some (.int .i64 e) := r1.cell (show 4 < 6 by decide)
      have a5 : Wf.cell? ⟨w.heap.size, 5, none⟩ = some (.int .i64 f) := r1.cell (show 5 < 6 by decide)
      have u0 : Wf.cell? ⟨w.heap.size + 1, 0, none⟩ = some (.int .i64 4) := r2.cell (show 0 < 6 by decide)
      have u1 : Wf.cell? ⟨w.heap.size + 1, 1, none⟩ = some (.int .i64 b) := r2.cell (show 1 < 6 by decide)
      have u2 : Wf.cell? ⟨w.heap.size + 1, 2, none⟩ = some (.int .i64 0) := r2.cell (show 2 < 6 by decide)
      have u3 : Wf.cell? ⟨w.heap.size + 1, 3, none⟩ = some (.int .i64 d) := r2.cell (show 3 < 6 by decide)
      have u4 : Wf.cell? ⟨w.heap.size + 1, 4, none⟩ = some (.int .i64 e) := r2.cell (show 4 < 6 by decide)
      have u5 : Wf.cell? ⟨w.heap.size + 1, 5, none⟩ = some (.int .i64 0) := r2.cell (show 5 < 6 by decide)
      have HN3 := Lib.hid hn3
      clear r1 r2 hn3
      try go_wp2_with fail
      refine (key_q HR0.out _).mono ?_
      rintro e' W ⟨rfl, rfl⟩
      try go_wp2_with fail
      refine (key_q HR1.out _).mono ?_
      rintro e' W ⟨rfl, rfl⟩
      try go_wp2_with fail
      go_ret
      exact ⟨ret_b HZ.out, by first | exact HN3.out | exact Go.Proofs.YtjnlbhmddhpmaabDoor.vers.new2 _ _ _ | exact Go.Proofs.YtjnlbhmddhpmaabDoor.vers.new3 _ _ _ _ | exact new1 _ _⟩
    | true =>
    cases r2 with
    | false =>
      have HZ : Hid (false = ovX (⟨4, b, c, d, e, f⟩ : E6)) := Lib.hid (ov_rng (by unfold rngX; simp; have := hr2; simp_all))
      have hle : ¬ d ≤ e := by simpa using hr2
      have tle : decide (d ≤ e) = false := hr2
      have HR0 := Lib.hid hr0
      have HR1 := Lib.hid hr1
      clear hr0 hr1
      have q7 : ∀ w : World, (binOp .eql 35 (.agg #[.int .i64 4, .int .i64 b, .int .i64 c, .int .i64 d, .int .i64 e, .int .i64 f]) (.agg #[.int .i64 4, .int .i64 b, .int .i64 0, .int .i64 d, .int .i64 e, .int .i64 0])).run Tryd.prog w = .ok (.bool qe) w := fun w => eql_o_q (x := (⟨4, b, c, d, e, f⟩ : E6)) (y := ⟨4, b, 0, d, e, 0⟩) HE.out w
      go_enter Tryd.func16, Tryd.ntmps16
      go_wp2_with fail
      refine (id_q HI.out _).mono ?_
      rintro e' W ⟨rfl, rfl⟩
      try go_wp2_with fail
      obtain ⟨a0, a1, a2, a3, a4, a5⟩ := atFlat ((boxed w ⟨4, b, c, d, e, f⟩ 35).keep (by simp) (new1 (w.alloc (.cells #[.int .i64 4, .int .i64 b, .int .i64 c, .int .i64 d, .int .i64 e, .int .i64 f] 35)) (.cells #[.int .i64 4, .int .i64 b, .int .i64 0, .int .i64 0, .int .i64 0, .int .i64 0] 35)))
      have ru := World.rowIs_alloc (w.alloc (.cells #[.int .i64 4, .int .i64 b, .int .i64 c, .int .i64 d, .int .i64 e, .int .i64 f] 35)) #[.int .i64 4, .int .i64 b, .int .i64 0, .int .i64 0, .int .i64 0, .int .i64 0] 35 (fun i => if i = 0 then .int .i64 4 else if i = 1 then .int .i64 b else .int .i64 0) (fun i hi => by match i, hi with | 0, _ => rfl | 1, _ => rfl | 2, _ => rfl | 3, _ => rfl | 4, _ => rfl | 5, _ => rfl)
      rw [show (w.alloc (.cells #[.int .i64 4, .int .i64 b, .int .i64 c, .int .i64 d, .int .i64 e, .int .i64 f] 35)).heap.size = w.heap.size + 1 by simp] at ru
      have hn2 := Go.Proofs.YtjnlbhmddhpmaabDoor.vers.new2 w (.cells #[.int .i64 4, .int .i64 b, .int .i64 c, .int .i64 d, .int .i64 e, .int .i64 f] 35) (.cells #[.int .i64 4, .int .i64 b, .int .i64 0, .int .i64 0, .int .i64 0, .int .i64 0] 35)
      have ro0 := (World.rowIs_alloc w #[.int .i64 4, .int .i64 b, .int .i64 c, .int .i64 d, .int .i64 e, .int .i64 f] 35 (fun i => if i = 0 then .int .i64 4 else if i = 1 then .int .i64 b else if i = 2 then .int .i64 c else if i = 3 then .int .i64 d else if i = 4 then .int .i64 e else .int .i64 f) (fun i hi => by match i, hi with | 0, _ => rfl | 1, _ => rfl | 2, _ => rfl | 3, _ => rfl | 4, _ => rfl | 5, _ => rfl)).alloc (.cells #[.int .i64 4, .int .i64 b, .int .i64 0, .int .i64 0, .int .i64 0, .int .i64 0] 35)
      generalize (w.alloc _).alloc _ = W0 at ro0 a0 a1 a2 a3 a4 a5 ru hn2 ⊢
      have RU := Lib.hid ru
      have RO := Lib.hid ro0
      have HN2 := Lib.hid hn2
      clear ro0
      have u3 : W0.cell? ⟨w.heap.size + 1, 3, none⟩ = some (.int .i64 0) := ru.cell (show 3 < 6 by decide)
      have u4 : W0.cell? ⟨w.heap.size + 1, 4, none⟩ = some (.int .i64 0) := ru.cell (show 4 < 6 by decide)
      have z3 := ru.frozen 3
      have z4 := ru.frozen 4
      have ro : W0.rowIs w.heap.size 35 6 (fun i => if i = 0 then .int .i64 4 else if i = 1 then .int .i64 b else if i = 2 then .int .i64 c else if i = 3 then .int .i64 d else if i = 4 then .int .i64 e else .int .i64 f) := RO.out
      clear ru hn2
      go_region
      have r2 := (RU.out.set 3 (.int .i64 d)).set 4 (.int .i64 e)
      have r1 := (ro.setOther (a := ⟨w.heap.size + 1, 3, none⟩) (by simp) (.int .i64 d)).setOther (a := ⟨w.heap.size + 1, 4, none⟩) (by simp) (.int .i64 e)
      have hn3 := ((HN2.out.setCell (p := ⟨w.heap.size + 1, 3, none⟩) (by simp) (.int .i64 d)).setCell (p := ⟨w.heap.size + 1, 4, none⟩) (by simp) (.int .i64 e)).drew
      have r2 := r2.drew
      have r1 := r1.drew
      clear a0 a1 a2 a3 a4 a5 u3 u4 z3 z4 ro
      generalize World.drew _ = Wf at r1 r2 hn3 ⊢
      have a0 : Wf.cell? ⟨w.heap.size, 0, none⟩ = some (.int .i64 4) := r1.cell (show 0 < 6 by decide)
      have a1 : Wf.cell? ⟨w.heap.size, 1, none⟩ = some (.int .i64 b) := r1.cell (show 1 < 6 by decide)
      have a2 : Wf.cell? ⟨w.heap.size, 2, none⟩ = some (.int .i64 c) := r1.cell (show 2 < 6 by decide)
      have a3 : Wf.cell? ⟨w.heap.size, 3, none⟩ = some (.int .i64 d) := r1.cell (show 3 < 6 by decide)
      have a4 : Wf.cell? ⟨w.heap.size, 4, none⟩ = some (.int .i64 e) := r1.cell (show 4 < 6 by decide)
      have a5 : Wf.cell? ⟨w.heap.size, 5, none⟩ = some (.int .i64 f) := r1.cell (show 5 < 6 by decide)
      have u0 : Wf.cell? ⟨w.heap.size + 1, 0, none⟩ = some (.int .i64 4) := r2.cell (show 0 < 6 by decide)
      have u1 : Wf.cell? ⟨w.heap.size + 1, 1, none⟩ = some (.int .i64 b) := r2.cell (show 1 < 6 by decide)
      have u2 : Wf.cell? ⟨w.heap.size + 1, 2, none⟩ = some (.int .i64 0) := r2.cell (show 2 < 6 by decide)
      have u3 : Wf.cell? ⟨w.heap.size + 1, 3, none⟩ = some (.int .i64 d) := r2.cell (show 3 < 6 by decide)
      have u4 : Wf.cell? ⟨w.heap.size + 1, 4, none⟩ = some (.int .i64 e) := r2.cell (show 4 < 6 by decide)
      have u5 : Wf.cell? ⟨w.heap.size + 1, 5, none⟩ = some (.int .i64 0) := r2.cell (show 5 < 6 by decide)
      have HN3 := Lib.hid hn3
      clear r1 r2 hn3
      try go_wp2_with fail
      refine (key_q HR0.out _).mono ?_
      rintro e' W ⟨rfl, rfl⟩
      try go_wp2_with fail
      refine (key_q HR1.out _).mono ?_
      rintro e' W ⟨rfl, rfl⟩
      try go_wp2_with fail
      go_ret
      exact ⟨ret_b HZ.out, by first | exact HN3.out | exact Go.Proofs.YtjnlbhmddhpmaabDoor.vers.new2 _ _ _ | exact Go.Proofs.YtjnlbhmddhpmaabDoor.vers.new3 _ _ _ _ | exact new1 _ _⟩
    | true =>
    have HR : rngX (⟨4, b, c, d, e, f⟩ : E6) = true := by unfold rngX; simp; try simp_all
    have HZ : Hid (qe = ovX (⟨4, b, c, d, e, f⟩ : E6)) := Lib.hid (ov_q HI.out HK.out HR HE.out)
    clear HR
    have hle : d ≤ e := by simpa using hr2
    have tle : decide (d ≤ e) = true := hr2
    have HR0 := Lib.hid hr0
    have HR1 := Lib.hid hr1
    clear hr0 hr1
    have q7 : ∀ w : World, (binOp .eql 35 (.agg #[.int .i64 4, .int .i64 b, .int .i64 c, .int .i64 d, .int .i64 e, .int .i64 f]) (.agg #[.int .i64 4, .int .i64 b, .int .i64 0, .int .i64 d, .int .i64 e, .int .i64 0])).run Tryd.prog w = .ok (.bool qe) w := fun w => eql_o_q (x := (⟨4, b, c, d, e, f⟩ : E6)) (y := ⟨4, b, 0, d, e, 0⟩) HE.out w
    go_enter Tryd.func16, Tryd.ntmps16
    go_wp2_with fail
    refine (id_q HI.out _).mono ?_
    rintro e' W ⟨rfl, rfl⟩
    try go_wp2_with fail
    obtain ⟨a0, a1, a2, a3, a4, a5⟩ := atFlat ((boxed w ⟨4, b, c, d, e, f⟩ 35).keep (by simp) (new1 (w.alloc (.cells #[.int .i64 4, .int .i64 b, .int .i64 c, .int .i64 d, .int .i64 e, .int .i64 f] 35)) (.cells #[.int .i64 4, .int .i64 b, .int .i64 0, .int .i64 0, .int .i64 0, .int .i64 0] 35)))
    have ru := World.rowIs_alloc (w.alloc (.cells #[.int .i64 4, .int .i64 b, .int .i64 c, .int .i64 d, .int .i64 e, .int .i64 f] 35)) #[.int .i64 4, .int .i64 b, .int .i64 0, .int .i64 0, .int .i64 0, .int .i64 0] 35 (fun i => if i = 0 then .int .i64 4 else if i = 1 then .int .i64 b else .int .i64 0) (fun i hi => by match i, hi with | 0, _ => rfl | 1, _ => rfl | 2, _ => rfl | 3, _ => rfl | 4, _ => rfl | 5, _ => rfl)
    rw [show (w.alloc (.cells #[.int .i64 4, .int .i64 b, .int .i64 c, .int .i64 d, .int .i64 e, .int .i64 f] 35)).heap.size = w.heap.size + 1 by simp] at ru
    have hn2 := Go.Proofs.YtjnlbhmddhpmaabDoor.vers.new2 w (.cells #[.int .i64 4, .int .i64 b, .int .i64 c, .int .i64 d, .int .i64 e, .int .i64 f] 35) (.cells #[.int .i64 4, .int .i64 b, .int .i64 0, .int .i64 0, .int .i64 0, .int .i64 0] 35)
    have ro0 := (World.rowIs_alloc w #[.int .i64 4, .int .i64 b, .int .i64 c, .int .i64 d, .int .i64 e, .int .i64 f] 35 (fun i => if i = 0 then .int .i64 4 else if i = 1 then .int .i64 b else if i = 2 then .int .i64 c else if i = 3 then .int .i64 d else if i = 4 then .int .i64 e else .int .i64 f) (fun i hi => by match i, hi with | 0, _ => rfl | 1, _ => rfl | 2, _ => rfl | 3, _ => rfl | 4, _ => rfl | 5, _ => rfl)).alloc (.cells #[.int .i64 4, .int .i64 b, .int .i64 0, .int .i64 0, .int .i64 0, .int .i64 0] 35)
    generalize (w.alloc _).alloc _ = W0 at ro0 a0 a1 a2 a3 a4 a5 ru hn2 ⊢
    have RU := Lib.hid ru
    have RO := Lib.hid ro0
    have HN2 := Lib.hid hn2
    clear ro0
    have u3 : W0.cell? ⟨w.heap.size + 1, 3, none⟩ = some (.int .i64 0) := ru.cell (show 3 < 6 by decide)
    have u4 : W0.cell? ⟨w.heap.size + 1, 4, none⟩ = some (.int .i64 0) := ru.cell (show 4 < 6 by decide)
    have z3 := ru.frozen 3
    have z4 := ru.frozen 4
    have ro : W0.rowIs w.heap.size 35 6 (fun i => if i = 0 then .int .i64 4 else if i = 1 then .int .i64 b else if i = 2 then .int .i64 c else if i = 3 then .int .i64 d else if i = 4 then .int .i64 e else .int .i64 f) := RO.out
    clear ru hn2
    go_region
    have r2 := (RU.out.set 3 (.int .i64 d)).set 4 (.int .i64 e)
    have r1 := (ro.setOther (a := ⟨w.heap.size + 1, 3, none⟩) (by simp) (.int .i64 d)).setOther (a := ⟨w.heap.size + 1, 4, none⟩) (by simp) (.int .i64 e)
    have hn3 := ((HN2.out.setCell (p := ⟨w.heap.size + 1, 3, none⟩) (by simp) (.int .i64 d)).setCell (p := ⟨w.heap.size + 1, 4, none⟩) (by simp) (.int .i64 e)).drew
    have r2 := r2.drew
    have r1 := r1.drew
    clear a0 a1 a2 a3 a4 a5 u3 u4 z3 z4 ro
    generalize World.drew _ = Wf at r1 r2 hn3 ⊢
    have a0 : Wf.cell? ⟨w.heap.size, 0, none⟩ = some (.int .i64 4) := r1.cell (show 0 < 6 by decide)
    have a1 : Wf.cell? ⟨w.heap.size, 1, none⟩ = some (.int .i64 b) := r1.cell (show 1 < 6 by decide)
    have a2 : Wf.cell? ⟨w.heap.size, 2, none⟩ = some (.int .i64 c) := r1.cell (show 2 < 6 by decide)
    have a3 : Wf.cell? ⟨w.heap.size, 3, none⟩ = some (.int .i64 d) := r1.cell (show 3 < 6 by decide)
    have a4 : Wf.cell? ⟨w.heap.size, 4, none⟩ = some (.int .i64 e) := r1.cell (show 4 < 6 by decide)
    have a5 : Wf.cell? ⟨w.heap.size, 5, none⟩ = some (.int .i64 f) := r1.cell (show 5 < 6 by decide)
    have u0 : Wf.cell? ⟨w.heap.size + 1, 0, none⟩ = some (.int .i64 4) := r2.cell (show 0 < 6 by decide)
    have u1 : Wf.cell? ⟨w.heap.size + 1, 1, none⟩ = some (.int .i64 b) := r2.cell (show 1 < 6 by decide)
    have u2 : Wf.cell? ⟨w.heap.size + 1, 2, none⟩ = some (.int .i64 0) := r2.cell (show 2 < 6 by decide)
    have u3 : Wf.cell? ⟨w.heap.size + 1, 3, none⟩ = some (.int .i64 d) := r2.cell (show 3 < 6 by decide)
    have u4 : Wf.cell? ⟨w.heap.size + 1, 4, none⟩ = some (.int .i64 e) := r2.cell (show 4 < 6 by decide)
    have u5 : Wf.cell? ⟨w.heap.size + 1, 5, none⟩ = some (.int .i64 0) := r2.cell (show 5 < 6 by decide)
    have HN3 := Lib.hid hn3
    clear r1 r2 hn3
    try go_wp2_with fail
    refine (key_q HR0.out _).mono ?_
    rintro e' W ⟨rfl, rfl⟩
    try go_wp2_with fail
    refine (key_q HR1.out _).mono ?_
    rintro e' W ⟨rfl, rfl⟩
    try go_wp2_with fail
    go_ret
    exact ⟨ret_b HZ.out, by first | exact HN3.out | exact Go.Proofs.YtjnlbhmddhpmaabDoor.vers.new2 _ _ _ | exact Go.Proofs.YtjnlbhmddhpmaabDoor.vers.new3 _ _ _ _ | exact new1 _ _⟩
  by_cases hk5 : a = 5
  · subst hk5
    have HK : Hid (1 ≤ (⟨5, b, c, d, e, f⟩ : E6).a ∧ (⟨5, b, c, d, e, f⟩ : E6).a ≤ 6) := Lib.hid ⟨by show (1 : Int) ≤ 5; omega, by show (5 : Int) ≤ 6; omega⟩
    generalize heq : decide ((⟨5, b, c, d, e, f⟩ : E6) = ⟨5, b, 0, 0, 0, 0⟩) = qe
    have HE := Lib.hid heq
    clear heq
    have HR : rngX (⟨5, b, c, d, e, f⟩ : E6) = true := by unfold rngX; simp; try simp_all
    have HZ : Hid (qe = ovX (⟨5, b, c, d, e, f⟩ : E6)) := Lib.hid (ov_q HI.out HK.out HR HE.out)
    clear HR
    have q7 : ∀ w : World, (binOp .eql 35 (.agg #[.int .i64 5, .int .i64 b, .int .i64 c, .int .i64 d, .int .i64 e, .int .i64 f]) (.agg #[.int .i64 5, .int .i64 b, .int .i64 0, .int .i64 0, .int .i64 0, .int .i64 0])).run Tryd.prog w = .ok (.bool qe) w := fun w => eql_o_q (x := (⟨5, b, c, d, e, f⟩ : E6)) (y := ⟨5, b, 0, 0, 0, 0⟩) HE.out w
    go_enter Tryd.func16, Tryd.ntmps16
    go_wp2_with fail
    refine (id_q HI.out _).mono ?_
    rintro e' W ⟨rfl, rfl⟩
    try go_wp2_with fail
    go_ret
    exact ⟨ret_b HZ.out, by first | exact HN3.out | exact Go.Proofs.YtjnlbhmddhpmaabDoor.vers.new2 _ _ _ | exact Go.Proofs.YtjnlbhmddhpmaabDoor.vers.new3 _ _ _ _ | exact new1 _ _⟩
  by_cases hk6 : a = 6
  · subst hk6
    have HK : Hid (1 ≤ (⟨6, b, c, d, e, f⟩ : E6).a ∧ (⟨6, b, c, d, e, f⟩ : E6).a ≤ 6) := Lib.hid ⟨by show (1 : Int) ≤ 6; omega, by show (6 : Int) ≤ 6; omega⟩
    generalize heq : decide ((⟨6, b, c, d, e, f⟩ : E6) = ⟨6, b, 0, 0, 0, 0⟩) = qe
    have HE := Lib.hid heq
    clear heq
    have HR : rngX (⟨6, b, c, d, e, f⟩ : E6) = true := by unfold rngX; simp; try simp_all
    have HZ : Hid (qe = ovX (⟨6, b, c, d, e, f⟩ : E6)) := Lib.hid (ov_q HI.out HK.out HR HE.out)
    clear HR
    have q7 : ∀ w : World, (binOp .eql 35 (.agg #[.int .i64 6, .int .i64 b, .int .i64 c, .int .i64 d, .int .i64 e, .int .i64 f]) (.agg #[.int .i64 6, .int .i64 b, .int .i64 0, .int .i64 0, .int .i64 0, .int .i64 0])).run Tryd.prog w = .ok (.bool qe) w := fun w => eql_o_q (x := (⟨6, b, c, d, e, f⟩ : E6)) (y := ⟨6, b, 0, 0, 0, 0⟩) HE.out w
    go_enter Tryd.func16, Tryd.ntmps16
    go_wp2_with fail
    refine (id_q HI.out _).mono ?_
    rintro e' W ⟨rfl, rfl⟩
    try go_wp2_with fail
    go_ret
    exact ⟨ret_b HZ.out, by first | exact HN3.out | exact Go.Proofs.YtjnlbhmddhpmaabDoor.vers.new2 _ _ _ | exact Go.Proofs.YtjnlbhmddhpmaabDoor.vers.new3 _ _ _ _ | exact new1 _ _⟩
  have HZ : Hid (false = ovX ⟨a, b, c, d, e, f⟩) := Lib.hid (ov_kind (by show ¬ (1 ≤ a ∧ a ≤ 6); omega))
  have t1 : (a == 1) = false := by simpa using hk1
  have t2 : (a == 2) = false := by simpa using hk2
  have t3 : (a == 3) = false := by simpa using hk3
  have t4 : (a == 4) = false := by simpa using hk4
  have t5 : (a == 5) = false := by simpa using hk5
  have t6 : (a == 6) = false := by simpa using hk6
  clear hk1 hk2 hk3 hk4 hk5 hk6
  go_enter Tryd.func16, Tryd.ntmps16
  go_wp2_with fail
  refine (id_q HI.out _).mono ?_
  rintro e' W ⟨rfl, rfl⟩
  try go_wp2_with fail
  go_ret
  exact ⟨ret_b HZ.out, by first | exact HN3.out | exact Go.Proofs.YtjnlbhmddhpmaabDoor.vers.new2 _ _ _ | exact Go.Proofs.YtjnlbhmddhpmaabDoor.vers.new3 _ _ _ _ | exact new1 _ _⟩
end Go.Proofs.YtjnlbhmddhpmaabDoor.ovp
