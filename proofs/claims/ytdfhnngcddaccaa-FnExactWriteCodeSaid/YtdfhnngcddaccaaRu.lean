/- rulesOf of the program, the methods of the rules, TakesLocks of the program and of the model: what each answers. -/
import Derived.Test.YtdfhnngcddaccaaSc
import Derived.Test.YtdfhnngcddaccaaTvs
import Derived.WalkKit
import Derived.ProofKit
import Derived.Below
import Derived.Lib.Hide
import Derived.LoopTactic
import Derived.Deep.QuietTactic
import Derived.BigQuiet
import Derived.StillTailTactics
import Derived.Outline
import Derived.IntWalk
import Derived.Deep.RegionHeld3
namespace Go.Proofs.Ytdfhnngcddaccaa.ru
open Go.ChangeShapes Go.WideShapes Go.ChangeAt Go.RowKit
open Go.Proofs.Ytdfhnngcddaccaa.el2 Go.Proofs.Ytdfhnngcddaccaa.tx Go.Proofs.Ytdfhnngcddaccaa.seq Go.Proofs.Ytdfhnngcddaccaa.tv
open Go.Proofs.Ytdfhnngcddaccaa.vers (In in_yes in_no in_of in_off in_range ret_b new2 new3)
open Go.Proofs.Ytdfhnngcddaccaa.sc (tkB)
open Go.Proofs.Ytdfhnngcddaccaa.sl (Ver)
set_option linter.unusedVariables false
set_option linter.unusedSimpArgs false
/-- the rules of a scheme, as the program holds them -/
def ruV (s : Int) : Value := if s = 1 then .iface 114 (.agg #[]) else if s = 2 then .iface 115 (.agg #[]) else if s = 4 then .iface 116 (.agg #[]) else .iface 112 (.agg #[])
theorem ru_1 {s : Int} (h : s = 1) : ruV s = .iface 114 (.agg #[]) := if_pos h
theorem ru_2 {s : Int} (h : s = 2) : ruV s = .iface 115 (.agg #[]) := by subst h; rfl
theorem ru_4 {s : Int} (h : s = 4) : ruV s = .iface 116 (.agg #[]) := by subst h; rfl
theorem ru_0 {s : Int} (h1 : s ≠ 1) (h2 : s ≠ 2) (h4 : s ≠ 4) : ruV s = .iface 112 (.agg #[]) := by unfold ruV; rw [if_neg h1, if_neg h2, if_neg h4]
set_option maxHeartbeats 1600000 in
theorem rules_of (s : Int) (w : World) :
    Calls Try.prog 36 #[.int .i64 s] w fun e w' => e = .returned (ruV s) ∧ w = w' := by
  by_cases q1 : s = 1
  case pos =>
    rw [ru_1 q1]
    subst q1
    go_enter Try.func36, Try.ntmps36
    go_wp2_with fail
    go_ret
    exact ⟨rfl, rfl⟩
  by_cases q2 : s = 2
  case pos =>
    rw [ru_2 q2]
    subst q2
    go_enter Try.func36, Try.ntmps36
    go_wp2_with fail
    go_ret
    exact ⟨rfl, rfl⟩
  by_cases q4 : s = 4
  case pos =>
    rw [ru_4 q4]
    subst q4
    go_enter Try.func36, Try.ntmps36
    go_wp2_with fail
    go_ret
    exact ⟨rfl, rfl⟩
  rw [ru_0 q1 q2 q4]
  have t1 : (s == 1) = false := by simpa using q1
  have t2 : (s == 2) = false := by simpa using q2
  have t4 : (s == 4) = false := by simpa using q4
  go_enter Try.func36, Try.ntmps36
  go_wp2_with fail
  go_ret
  exact ⟨rfl, rfl⟩
set_option maxHeartbeats 1600000 in
theorem takes_on (w : World) : Calls Try.prog 128 #[.agg #[]] w fun e w' => e = .returned (.bool true) ∧ Below w.heap.size w w' := by
  go_enter Try.func128, Try.ntmps128
  go_wp2_with fail
  go_ret
  exact ⟨rfl, new1 _ _⟩
theorem takes_snap (w : World) : Calls Try.prog 132 #[.agg #[]] w fun e w' => e = .returned (.bool true) ∧ Below w.heap.size w w' := by
  go_enter Try.func132, Try.ntmps132
  go_wp2_with fail
  go_ret
  exact ⟨rfl, new1 _ _⟩
theorem takes_opt (w : World) : Calls Try.prog 126 #[.agg #[]] w fun e w' => e = .returned (.bool false) ∧ Below w.heap.size w w' := by
  go_enter Try.func126, Try.ntmps126
  go_wp2_with fail
  go_ret
  exact ⟨rfl, new1 _ _⟩
theorem mt_tk1 (w : World) : (method 270 114 (.agg #[]) "loop.example/g01924/impl.takesLocks").run Try.prog w = .ok (128, .agg #[]) w := by kernel_rfl
theorem na_tk1 (w : World) : (nilAhead 270 114 (.agg #[]) "loop.example/g01924/impl.takesLocks").run Try.prog w = .ok (some false) w := by kernel_rfl
theorem mt_tk2 (w : World) : (method 270 115 (.agg #[]) "loop.example/g01924/impl.takesLocks").run Try.prog w = .ok (132, .agg #[]) w := by kernel_rfl
theorem na_tk2 (w : World) : (nilAhead 270 115 (.agg #[]) "loop.example/g01924/impl.takesLocks").run Try.prog w = .ok (some false) w := by kernel_rfl
theorem mt_tk4 (w : World) : (method 270 116 (.agg #[]) "loop.example/g01924/impl.takesLocks").run Try.prog w = .ok (126, .agg #[]) w := by kernel_rfl
theorem na_tk4 (w : World) : (nilAhead 270 116 (.agg #[]) "loop.example/g01924/impl.takesLocks").run Try.prog w = .ok (some false) w := by kernel_rfl
theorem mt_tk0 (w : World) : (method 270 112 (.agg #[]) "loop.example/g01924/impl.takesLocks").run Try.prog w = .ok (126, .agg #[]) w := by kernel_rfl
theorem na_tk0 (w : World) : (nilAhead 270 112 (.agg #[]) "loop.example/g01924/impl.takesLocks").run Try.prog w = .ok (some false) w := by kernel_rfl
theorem mt_cm1 (w : World) : (method 270 114 (.agg #[]) "loop.example/g01924/impl.commitCode").run Try.prog w = .ok (125, .agg #[]) w := by kernel_rfl
theorem na_cm1 (w : World) : (nilAhead 270 114 (.agg #[]) "loop.example/g01924/impl.commitCode").run Try.prog w = .ok (some false) w := by kernel_rfl
theorem mt_cm2 (w : World) : (method 270 115 (.agg #[]) "loop.example/g01924/impl.commitCode").run Try.prog w = .ok (131, .agg #[]) w := by kernel_rfl
theorem na_cm2 (w : World) : (nilAhead 270 115 (.agg #[]) "loop.example/g01924/impl.commitCode").run Try.prog w = .ok (some false) w := by kernel_rfl
theorem mt_cm4 (w : World) : (method 270 116 (.agg #[]) "loop.example/g01924/impl.commitCode").run Try.prog w = .ok (136, .agg #[]) w := by kernel_rfl
theorem na_cm4 (w : World) : (nilAhead 270 116 (.agg #[]) "loop.example/g01924/impl.commitCode").run Try.prog w = .ok (some false) w := by kernel_rfl
theorem mt_cm0 (w : World) : (method 270 112 (.agg #[]) "loop.example/g01924/impl.commitCode").run Try.prog w = .ok (125, .agg #[]) w := by kernel_rfl
theorem na_cm0 (w : World) : (nilAhead 270 112 (.agg #[]) "loop.example/g01924/impl.commitCode").run Try.prog w = .ok (some false) w := by kernel_rfl
theorem mt_wc1 (w : World) : (method 270 114 (.agg #[]) "loop.example/g01924/impl.writeCode").run Try.prog w = .ok (129, .agg #[]) w := by kernel_rfl
theorem na_wc1 (w : World) : (nilAhead 270 114 (.agg #[]) "loop.example/g01924/impl.writeCode").run Try.prog w = .ok (some false) w := by kernel_rfl
theorem mt_wc2 (w : World) : (method 270 115 (.agg #[]) "loop.example/g01924/impl.writeCode").run Try.prog w = .ok (133, .agg #[]) w := by kernel_rfl
theorem na_wc2 (w : World) : (nilAhead 270 115 (.agg #[]) "loop.example/g01924/impl.writeCode").run Try.prog w = .ok (some false) w := by kernel_rfl
theorem mt_wc4 (w : World) : (method 270 116 (.agg #[]) "loop.example/g01924/impl.writeCode").run Try.prog w = .ok (137, .agg #[]) w := by kernel_rfl
theorem na_wc4 (w : World) : (nilAhead 270 116 (.agg #[]) "loop.example/g01924/impl.writeCode").run Try.prog w = .ok (some false) w := by kernel_rfl
theorem mt_wc0 (w : World) : (method 270 112 (.agg #[]) "loop.example/g01924/impl.writeCode").run Try.prog w = .ok (127, .agg #[]) w := by kernel_rfl
theorem na_wc0 (w : World) : (nilAhead 270 112 (.agg #[]) "loop.example/g01924/impl.writeCode").run Try.prog w = .ok (some false) w := by kernel_rfl
theorem mt_ch1 (w : World) : (method 270 114 (.agg #[]) "loop.example/g01924/impl.chooseVersion").run Try.prog w = .ok (124, .agg #[]) w := by kernel_rfl
theorem na_ch1 (w : World) : (nilAhead 270 114 (.agg #[]) "loop.example/g01924/impl.chooseVersion").run Try.prog w = .ok (some false) w := by kernel_rfl
theorem mt_ch2 (w : World) : (method 270 115 (.agg #[]) "loop.example/g01924/impl.chooseVersion").run Try.prog w = .ok (130, .agg #[]) w := by kernel_rfl
theorem na_ch2 (w : World) : (nilAhead 270 115 (.agg #[]) "loop.example/g01924/impl.chooseVersion").run Try.prog w = .ok (some false) w := by kernel_rfl
theorem mt_ch4 (w : World) : (method 270 116 (.agg #[]) "loop.example/g01924/impl.chooseVersion").run Try.prog w = .ok (135, .agg #[]) w := by kernel_rfl
theorem na_ch4 (w : World) : (nilAhead 270 116 (.agg #[]) "loop.example/g01924/impl.chooseVersion").run Try.prog w = .ok (some false) w := by kernel_rfl
theorem mt_ch0 (w : World) : (method 270 112 (.agg #[]) "loop.example/g01924/impl.chooseVersion").run Try.prog w = .ok (124, .agg #[]) w := by kernel_rfl
theorem na_ch0 (w : World) : (nilAhead 270 112 (.agg #[]) "loop.example/g01924/impl.chooseVersion").run Try.prog w = .ok (some false) w := by kernel_rfl
theorem ru_cases (s : Int) : (s = 1 ∧ ruV s = .iface 114 (.agg #[])) ∨ (s = 2 ∧ ruV s = .iface 115 (.agg #[])) ∨ (s = 4 ∧ ruV s = .iface 116 (.agg #[])) ∨ ((s ≠ 1 ∧ s ≠ 2 ∧ s ≠ 4) ∧ ruV s = .iface 112 (.agg #[])) := by
  by_cases q1 : s = 1
  · exact .inl ⟨q1, ru_1 q1⟩
  by_cases q2 : s = 2
  · exact .inr (.inl ⟨q2, ru_2 q2⟩)
  by_cases q4 : s = 4
  · exact .inr (.inr (.inl ⟨q4, ru_4 q4⟩))
  · exact .inr (.inr (.inr ⟨⟨q1, q2, q4⟩, ru_0 q1 q2 q4⟩))
theorem tk_on {s : Int} (h : s = 1 ∨ s = 2) : tkB s = true := by rcases h with rfl | rfl <;> rfl
theorem tk_off {s : Int} (h1 : s ≠ 1) (h2 : s ≠ 2) : tkB s = false := by simp [tkB, h1, h2]
set_option maxRecDepth 100000 in
set_option maxHeartbeats 1600000 in
theorem impl_takes (s : Int) (w : World) :
    Calls Try.prog 19 #[.int .i64 s] w fun e w' => e = .returned (.bool (tkB s)) ∧ Below w.heap.size w w' := by
  obtain ⟨q, hq⟩ : ∃ q, tkB s = q := ⟨_, rfl⟩
  rw [hq]
  have HQ := Lib.hid hq
  clear hq
  rcases ru_cases s with ⟨q1, hv⟩ | ⟨q1, hv⟩ | ⟨q1, hv⟩ | ⟨q1, hv⟩
  · have HV := Lib.hid hv
    have Q1 := Lib.hid q1
    have m1 := mt_tk1
    clear hv q1
    go_enter Try.func19, Try.ntmps19
    go_wp2_with fail
    refine (rules_of s _).mono ?_
    rintro e W ⟨rfl, rfl⟩
    rw [HV.out]
    go_wp2_with fail
    refine (takes_on _).mono ?_
    rintro e W1 ⟨rfl, hb⟩
    have HB := Lib.hid hb
    clear hb
    go_wp2_with fail
    go_ret
    exact ⟨ret_b (by rw [← HQ.out, tk_on (.inl Q1.out)]), HB.out⟩
  · have HV := Lib.hid hv
    have Q1 := Lib.hid q1
    have m1 := mt_tk2
    clear hv q1
    go_enter Try.func19, Try.ntmps19
    go_wp2_with fail
    refine (rules_of s _).mono ?_
    rintro e W ⟨rfl, rfl⟩
    rw [HV.out]
    go_wp2_with fail
    refine (takes_snap _).mono ?_
    rintro e W1 ⟨rfl, hb⟩
    have HB := Lib.hid hb
    clear hb
    go_wp2_with fail
    go_ret
    exact ⟨ret_b (by rw [← HQ.out, tk_on (.inr Q1.out)]), HB.out⟩
  · have HV := Lib.hid hv
    have Q1 := Lib.hid q1
    have m1 := mt_tk4
    clear hv q1
    go_enter Try.func19, Try.ntmps19
    go_wp2_with fail
    refine (rules_of s _).mono ?_
    rintro e W ⟨rfl, rfl⟩
    rw [HV.out]
    go_wp2_with fail
    refine (takes_opt _).mono ?_
    rintro e W1 ⟨rfl, hb⟩
    have HB := Lib.hid hb
    clear hb
    go_wp2_with fail
    go_ret
    exact ⟨ret_b (by rw [← HQ.out, tk_off (by have := Q1.out; omega) (by have := Q1.out; omega)]), HB.out⟩
  · have HV := Lib.hid hv
    have Q1 := Lib.hid q1
    have m1 := mt_tk0
    clear hv q1
    go_enter Try.func19, Try.ntmps19
    go_wp2_with fail
    refine (rules_of s _).mono ?_
    rintro e W ⟨rfl, rfl⟩
    rw [HV.out]
    go_wp2_with fail
    refine (takes_opt _).mono ?_
    rintro e W1 ⟨rfl, hb⟩
    have HB := Lib.hid hb
    clear hb
    go_wp2_with fail
    go_ret
    exact ⟨ret_b (by rw [← HQ.out, tk_off Q1.out.1 Q1.out.2.1]), HB.out⟩
set_option maxHeartbeats 1600000 in
theorem spec_takes (s : Int) (w : World) :
    Calls Try.prog 21 #[.int .i64 s] w fun e w' => e = .returned (.bool (tkB s)) ∧ w = w' := by
  go_enter Try.func21, Try.ntmps21
  by_cases q1 : s = 1
  · have t1 : (s == 1) = true := by simpa using q1
    have HT : Hid (tkB s = true) := Lib.hid (by subst q1; rfl)
    clear q1
    go_wp2_with fail
    go_ret
    exact ⟨ret_b HT.out.symm, rfl⟩
  · have t1 : (s == 1) = false := by simpa using q1
    have HT : Hid (tkB s = (s == 2)) := Lib.hid (by rw [Bool.eq_iff_iff]; simp [tkB, q1])
    clear q1
    go_wp2_with fail
    go_ret
    exact ⟨ret_b HT.out.symm, rfl⟩
/-! the methods that answer a code -/
def ccM (s c b : Int) : Int := if b < c then (if s = 2 then 2 else if s = 4 then 3 else 0) else 0
def wcM (s c d b : Int) (f : Bool) : Int := if s = 1 then (if f = true then 1 else 0) else if s = 2 then (if f = true then 2 else if b < c then 2 else 0) else if s = 4 then (if b < c then 3 else if b < d then 3 else 0) else 0
theorem ret_i {a b : Int} (h : a = b) : Ending.returned (.int .i64 a) = .returned (.int .i64 b) := by rw [h]
theorem cc_0 {s c b : Int} (h2 : s ≠ 2) (h4 : s ≠ 4) : (0 : Int) = ccM s c b := by unfold ccM; rw [if_neg h2, if_neg h4]; split <;> rfl
theorem cc_no {s c b : Int} (h : ¬ b < c) : (0 : Int) = ccM s c b := by unfold ccM; rw [if_neg h]
theorem cc_2 {s c b : Int} (h : b < c) (hs : s = 2) : (2 : Int) = ccM s c b := by unfold ccM; rw [if_pos h, if_pos hs]
theorem cc_4 {s c b : Int} (h : b < c) (hs : s = 4) : (3 : Int) = ccM s c b := by unfold ccM; rw [if_pos h, if_neg (by omega), if_pos hs]
set_option maxHeartbeats 1600000 in
theorem cm_0 {s : Int} (x : Ver) (b : Int) (w : World) (h1 : s ≠ 2) (h2 : s ≠ 4) : Calls Try.prog 125 #[.agg #[], .agg #[.int .i64 x.a, .int .i64 x.b, .int .i64 x.c, .int .i64 x.d, .int .i64 x.e], .int .i64 b] w fun e w' => e = .returned (.int .i64 (ccM s x.c b)) ∧ Below w.heap.size w w' := by
  go_enter Try.func125, Try.ntmps125
  go_wp2_with fail
  go_ret
  exact ⟨ret_i (cc_0 h1 h2), new2 _ _ _⟩
set_option maxHeartbeats 1600000 in
theorem cm_2 {s : Int} (x : Ver) (b : Int) (w : World) (hs : s = 2) : Calls Try.prog 131 #[.agg #[], .agg #[.int .i64 x.a, .int .i64 x.b, .int .i64 x.c, .int .i64 x.d, .int .i64 x.e], .int .i64 b] w fun e w' => e = .returned (.int .i64 (ccM s x.c b)) ∧ Below w.heap.size w w' := by
  have HS := Lib.hid hs
  clear hs
  by_cases h : b < x.c
  · have t : decide (b < x.c) = true := decide_eq_true h
    have HE : Hid ((2 : Int) = ccM s x.c b) := Lib.hid (cc_2 h HS.out)
    clear h
    generalize ccM s x.c b = z at HE ⊢
    go_enter Try.func131, Try.ntmps131
    go_wp2_with fail
    go_ret
    exact ⟨ret_i HE.out, new2 _ _ _⟩
  · have t : decide (b < x.c) = false := decide_eq_false h
    have HE : Hid ((0 : Int) = ccM s x.c b) := Lib.hid (cc_no h)
    clear h
    generalize ccM s x.c b = z at HE ⊢
    go_enter Try.func131, Try.ntmps131
    go_wp2_with fail
    go_ret
    exact ⟨ret_i HE.out, new2 _ _ _⟩
set_option maxHeartbeats 1600000 in
theorem cm_4 {s : Int} (x : Ver) (b : Int) (w : World) (hs : s = 4) : Calls Try.prog 136 #[.agg #[], .agg #[.int .i64 x.a, .int .i64 x.b, .int .i64 x.c, .int .i64 x.d, .int .i64 x.e], .int .i64 b] w fun e w' => e = .returned (.int .i64 (ccM s x.c b)) ∧ Below w.heap.size w w' := by
  have HS := Lib.hid hs
  clear hs
  by_cases h : b < x.c
  · have t : decide (b < x.c) = true := decide_eq_true h
    have HE : Hid ((3 : Int) = ccM s x.c b) := Lib.hid (cc_4 h HS.out)
    clear h
    generalize ccM s x.c b = z at HE ⊢
    go_enter Try.func136, Try.ntmps136
    go_wp2_with fail
    go_ret
    exact ⟨ret_i HE.out, new2 _ _ _⟩
  · have t : decide (b < x.c) = false := decide_eq_false h
    have HE : Hid ((0 : Int) = ccM s x.c b) := Lib.hid (cc_no h)
    clear h
    generalize ccM s x.c b = z at HE ⊢
    go_enter Try.func136, Try.ntmps136
    go_wp2_with fail
    go_ret
    exact ⟨ret_i HE.out, new2 _ _ _⟩
theorem wc_0 {s c d b : Int} {f : Bool} (h1 : s ≠ 1) (h2 : s ≠ 2) (h4 : s ≠ 4) : (0 : Int) = wcM s c d b f := by unfold wcM; rw [if_neg h1, if_neg h2, if_neg h4]
theorem wc_1 {s c d b : Int} (h1 : s = 1) : (1 : Int) = wcM s c d b true := by subst h1; rfl
theorem wc_10 {s c d b : Int} (h1 : s = 1) : (0 : Int) = wcM s c d b false := by subst h1; rfl
theorem wc_2 {s c d b : Int} (h1 : s = 2) : (2 : Int) = wcM s c d b true := by subst h1; rfl
theorem wc_20 {s c d b : Int} (h1 : s = 2) : ccM s c b = wcM s c d b false := by subst h1; rfl
theorem wc_4 {s c d b : Int} {f : Bool} (h1 : s = 4) (h : b < c) : (3 : Int) = wcM s c d b f := by subst h1; unfold wcM; rw [if_neg (by omega), if_neg (by omega), if_pos rfl, if_pos h]
theorem wc_4d {s c d b : Int} {f : Bool} (h1 : s = 4) (h : ¬ b < c) (h2 : b < d) : (3 : Int) = wcM s c d b f := by subst h1; unfold wcM; rw [if_neg (by omega), if_neg (by omega), if_pos rfl, if_neg h, if_pos h2]
theorem wc_40 {s c d b : Int} {f : Bool} (h1 : s = 4) (h : ¬ b < c) (h2 : ¬ b < d) : (0 : Int) = wcM s c d b f := by subst h1; unfold wcM; rw [if_neg (by omega), if_neg (by omega), if_pos rfl, if_neg h, if_neg h2]
set_option maxHeartbeats 1600000 in
theorem wm_0 {s : Int} (x : Ver) (b : Int) (f : Bool) (w : World) (h1 : s ≠ 1) (h2 : s ≠ 2) (h4 : s ≠ 4) : Calls Try.prog 127 #[.agg #[], .agg #[.int .i64 x.a, .int .i64 x.b, .int .i64 x.c, .int .i64 x.d, .int .i64 x.e], .int .i64 b, .bool f] w fun e w' => e = .returned (.int .i64 (wcM s x.c x.d b f)) ∧ Below w.heap.size w w' := by
  go_enter Try.func127, Try.ntmps127
  go_wp2_with fail
  go_ret
  exact ⟨ret_i (wc_0 h1 h2 h4), new2 _ _ _⟩
set_option maxHeartbeats 1600000 in
theorem wm_1 {s : Int} (x : Ver) (b : Int) (f : Bool) (w : World) (hs : s = 1) : Calls Try.prog 129 #[.agg #[], .agg #[.int .i64 x.a, .int .i64 x.b, .int .i64 x.c, .int .i64 x.d, .int .i64 x.e], .int .i64 b, .bool f] w fun e w' => e = .returned (.int .i64 (wcM s x.c x.d b f)) ∧ Below w.heap.size w w' := by
  have HS := Lib.hid hs
  clear hs
  rcases f with _ | _
  · have HE : Hid ((0 : Int) = wcM s x.c x.d b false) := Lib.hid (wc_10 HS.out)
    generalize wcM s x.c x.d b false = z at HE ⊢
    go_enter Try.func129, Try.ntmps129
    go_wp2_with fail
    go_ret
    exact ⟨ret_i HE.out, new2 _ _ _⟩
  · have HE : Hid ((1 : Int) = wcM s x.c x.d b true) := Lib.hid (wc_1 HS.out)
    generalize wcM s x.c x.d b true = z at HE ⊢
    go_enter Try.func129, Try.ntmps129
    go_wp2_with fail
    go_ret
    exact ⟨ret_i HE.out, new2 _ _ _⟩
set_option maxHeartbeats 1600000 in
theorem wm_2 {s : Int} (x : Ver) (b : Int) (f : Bool) (w : World) (hs : s = 2) : Calls Try.prog 133 #[.agg #[], .agg #[.int .i64 x.a, .int .i64 x.b, .int .i64 x.c, .int .i64 x.d, .int .i64 x.e], .int .i64 b, .bool f] w fun e w' => e = .returned (.int .i64 (wcM s x.c x.d b f)) ∧ Below w.heap.size w w' := by
  have HS := Lib.hid hs
  clear hs
  rcases f with _ | _
  · have HE : Hid (ccM s x.c b = wcM s x.c x.d b false) := Lib.hid (wc_20 HS.out)
    generalize wcM s x.c x.d b false = z at HE ⊢
    go_enter Try.func133, Try.ntmps133
    go_wp2_with fail
    have hb0 := new2 w (.cells #[] 115) (.cells #[.int .i64 x.a, .int .i64 x.b, .int .i64 x.c, .int .i64 x.d, .int .i64 x.e] 34)
    generalize ((w.alloc _).alloc _) = W0 at hb0 ⊢
    have HB0 := Lib.hid hb0
    clear hb0
    refine (cm_2 x b _ HS.out).mono ?_
    rintro e W1 ⟨rfl, hb⟩
    have HB := Lib.hid (HB0.out.trans (hb.mono HB0.out.size))
    clear hb
    go_wp2_with fail
    go_ret
    exact ⟨ret_i HE.out, HB.out⟩
  · have HE : Hid ((2 : Int) = wcM s x.c x.d b true) := Lib.hid (wc_2 HS.out)
    generalize wcM s x.c x.d b true = z at HE ⊢
    go_enter Try.func133, Try.ntmps133
    go_wp2_with fail
    go_ret
    exact ⟨ret_i HE.out, new2 _ _ _⟩
set_option maxHeartbeats 1600000 in
theorem wm_4 {s : Int} (x : Ver) (b : Int) (f : Bool) (w : World) (hs : s = 4) : Calls Try.prog 137 #[.agg #[], .agg #[.int .i64 x.a, .int .i64 x.b, .int .i64 x.c, .int .i64 x.d, .int .i64 x.e], .int .i64 b, .bool f] w fun e w' => e = .returned (.int .i64 (wcM s x.c x.d b f)) ∧ Below w.heap.size w w' := by
  have HS := Lib.hid hs
  clear hs
  by_cases h : b < x.c
  · have t : decide (b < x.c) = true := decide_eq_true h
    have HE : Hid ((3 : Int) = wcM s x.c x.d b f) := Lib.hid (wc_4 HS.out h)
    clear h
    generalize wcM s x.c x.d b f = z at HE ⊢
    go_enter Try.func137, Try.ntmps137
    go_wp2_with fail
    go_ret
    exact ⟨ret_i HE.out, new2 _ _ _⟩
  have t : decide (b < x.c) = false := decide_eq_false h
  by_cases h2 : b < x.d
  · have t2 : decide (b < x.d) = true := decide_eq_true h2
    have HE : Hid ((3 : Int) = wcM s x.c x.d b f) := Lib.hid (wc_4d HS.out h h2)
    clear h h2
    generalize wcM s x.c x.d b f = z at HE ⊢
    go_enter Try.func137, Try.ntmps137
    go_wp2_with fail
    go_ret
    exact ⟨ret_i HE.out, new2 _ _ _⟩
  · have t2 : decide (b < x.d) = false := decide_eq_false h2
    have HE : Hid ((0 : Int) = wcM s x.c x.d b f) := Lib.hid (wc_40 HS.out h h2)
    clear h h2
    generalize wcM s x.c x.d b f = z at HE ⊢
    go_enter Try.func137, Try.ntmps137
    go_wp2_with fail
    go_ret
    exact ⟨ret_i HE.out, new2 _ _ _⟩
end Go.Proofs.Ytdfhnngcddaccaa.ru
