/- AreLocks of the program and of the model: what each answers; nothing that was there is written. -/
import Derived.Test.YtdfhnngcddaccaaLk
import Derived.Test.YtdfhnngcddaccaaRq
import Derived.LoopTactic
import Derived.Deep.QuietTactic
import Derived.BigQuiet
import Derived.IntWalk
namespace Go.Proofs.Ytdfhnngcddaccaa.lka
open Go.ChangeShapes Go.WideShapes Go.ChangeAt Go.RowKit
open Go.Proofs.Ytdfhnngcddaccaa.el2 Go.Proofs.Ytdfhnngcddaccaa.seq Go.Proofs.Ytdfhnngcddaccaa.lk
open Go.Proofs.Ytdfhnngcddaccaa.vers (In in_yes in_no in_of in_off in_range ret_b)
open Go.Proofs.Ytdfhnngcddaccaa.tv (is_key)
open Go.Proofs.Ytdfhnngcddaccaa.rx (qleft)
set_option linter.unusedVariables false
set_option linter.unusedSimpArgs false
theorem in_q {x lo hi : Int} {q : Bool} (h : In lo hi x = q) (w : World) : Calls Try.prog 59 #[.int .i64 x, .int .i64 lo, .int .i64 hi] w fun e w' => e = .returned (.bool q) ∧ w = w' := by
  subst h
  exact in_range _ _ _ _
theorem is_id (x : Int) (w : World) :
    Calls Try.prog 73 #[.int .i64 x] w fun e w' => e = .returned (.bool (In 1 9 x)) ∧ w = w' := by
  go_enter Try.func73, Try.ntmps73
  by_cases h : 1 ≤ x
  · have d : decide (1 ≤ x) = true := decide_eq_true h
    go_wp2
    go_ret
    simp [In, d]
  · have d : decide (1 ≤ x) = false := decide_eq_false h
    go_wp2
    go_ret
    simp [In, d]
theorem key_q {x : Int} {q : Bool} (h : In 0 5 x = q) (w : World) : Calls Try.prog 66 #[.int .i64 x] w fun e w' => e = .returned (.bool q) ∧ w = w' := by
  subst h
  exact is_key _ _
theorem id_q {x : Int} {q : Bool} (h : In 1 9 x = q) (w : World) : Calls Try.prog 73 #[.int .i64 x] w fun e w' => e = .returned (.bool q) ∧ w = w' := by
  subst h
  exact is_id _ _
theorem at_prev {w : World} {B n b o k : Nat} {A : Option Addr} {l : List E2} (h : Vs w B A n l) (hA : A = some ⟨b, o, none⟩) (hk : k < n) (h0 : 0 < k) : ∃ y, l[k - 1]? = some y ∧ At w b (o + (k - 1) * 2) y := by
  obtain ⟨b', o', y, e, _, hy, ha⟩ := h.at_ (k := k - 1) (by omega)
  rw [hA] at e
  injection e with e
  injection e with e1 e2
  subst e1 e2
  exact ⟨y, hy, ha⟩
theorem lk_bad {l : List E2} {k : Nat} {x : E2} (hx : l[k]? = some x) (h : okK x = false) : false = lkB l := (sq_bad hx h).symm
theorem lk_off {l : List E2} {k : Nat} {x y : E2} (hk : 0 < k) (hy : l[k - 1]? = some y) (hx : l[k]? = some x) (h : ¬ y.a < x.a) : false = lkB l := (sq_off hk hy hx (folK_no h)).symm
theorem lk_all {l : List E2} {n : Nat} (hn : l.length = n) (h : Pri okK folK l n) : true = lkB l := (sq_all hn h).symm
set_option maxRecDepth 100000 in
set_option maxHeartbeats 3200000 in
theorem spec_are {w : World} {B n c : Nat} {A : Option Addr} {l : List E2} (hn : n ≤ 140737488355328) (h1 : Vs w B A n l) (hB : B ≤ w.heap.size) :
    Calls Try.prog 45 #[.slice A n c] w fun e w' => e = .returned (.bool (lkB l)) ∧ Below w.heap.size w w' := by
  have H1 := Lib.hid h1
  have hln := h1.1
  clear h1
  go_enter Try.func45, Try.ntmps45
  go_wp2
  go_loopw [3] (fun i wr => ∃ k : Nat, k ≤ n ∧ i = .int .i64 k ∧ Pri okK folK l k ∧ Below w.heap.size w wr) (fun i _ => n - (intOf i).toNat)
  case atStart => exact ⟨0, by omega, rfl, pri_zero _ _ l, Below.refl _ _⟩
  case round =>
    obtain ⟨k, hk, rfl, hP, hb⟩ := hrel
    have HP := Lib.hid hP
    have HB := Lib.hid hb
    clear hP
    by_cases hlt : k < n
    · obtain ⟨b, o, x, hA, hbB, hx, a0, a1⟩ := (H1.out.below (below_le hb hB)).at_ hlt
      have HA := Lib.hid hA
      have HX := Lib.hid hx
      rcases hk1 : In 0 5 x.a with _ | _
      · have HK1 := Lib.hid hk1
        subst hA
        clear hk1 hx hb
        go_wp2_with fail
        go_quiet ((go_at_call 59; exact qleft (in_q HK1.out _)))
        go_wp2_with fail
        go_ret
        exact ⟨ret_b (lk_bad HX.out (okK_a HK1.out)), Go.Proofs.Ytdfhnngcddaccaa.tv.bdrewN HB.out _⟩
      rcases hk2 : In 1 9 x.b with _ | _
      · have HK1 := Lib.hid hk1
        have HK2 := Lib.hid hk2
        subst hA
        clear hk1 hk2 hx hb
        go_wp2_with fail
        go_quiet ((go_at_call 59; first | with_reducible exact qleft (in_q HK1.out _) | with_reducible exact qleft (in_q HK2.out _)))
        go_wp2_with fail
        go_ret
        exact ⟨ret_b (lk_bad HX.out (okK_b HK2.out)), Go.Proofs.Ytdfhnngcddaccaa.tv.bdrewN HB.out _⟩
      have HK1 := Lib.hid hk1
      have HK2 := Lib.hid hk2
      clear hk1 hk2
      rcases Nat.eq_zero_or_pos k with h0 | h0
      · subst hA
        have t0 : decide ((0 : Int) < (k : Int)) = false := decide_eq_false (by omega)
        have t00 : decide (0 < k) = false := decide_eq_false (by omega)
        have t01 : ¬ 0 < k := by omega
        have H00 := Lib.hid h0
        clear h0 hx hb
        go_wp2_with fail
        go_quiet ((go_at_call 59; first | with_reducible exact qleft (in_q HK1.out _) | with_reducible exact qleft (in_q HK2.out _)))
        go_wp2_with fail
        go_roundw
        case rel => exact ⟨k + 1, by omega, by go_num, pri_step HP.out HX.out (okK_yes HK1.out HK2.out) (fun h => absurd h (by have := H00.out; omega)), Go.Proofs.Ytdfhnngcddaccaa.tv.bdrewN HB.out _⟩
        case measure => simp [intOf]; omega
      obtain ⟨y, hy, y0, y1⟩ := at_prev (H1.out.below (below_le hb hB)) hA hlt h0
      have HY := Lib.hid hy
      have t0 : decide ((0 : Int) < (k : Int)) = true := decide_eq_true (by omega)
      have e1 : ((k : Int) - 1).toNat = k - 1 := by omega
      have e2 : (0 : Int) ≤ (k : Int) - 1 := by omega
      have e3 : (k : Int) - 1 < (n : Int) := by omega
      subst hA
      clear hx hb hy
      by_cases hf : y.a < x.a
      · have t1 : decide (x.a ≤ y.a) = false := decide_eq_false (by omega)
        have HFL := Lib.hid hf
        clear hf
        go_wp2_with fail
        go_quiet ((go_at_call 59; first | with_reducible exact qleft (in_q HK1.out _) | with_reducible exact qleft (in_q HK2.out _)))
        go_wp2_with fail
        go_roundw
        case rel => exact ⟨k + 1, by omega, by go_num, pri_step HP.out HX.out (okK_yes HK1.out HK2.out) (fun _ z hz => by rw [HY.out] at hz; injection hz with hz; subst hz; exact folK_yes (by have := HFL.out; omega)), Go.Proofs.Ytdfhnngcddaccaa.tv.bdrewN HB.out _⟩
        case measure => simp [intOf]; omega
      · have t1 : decide (x.a ≤ y.a) = true := decide_eq_true (by omega)
        have HFL := Lib.hid hf
        have H00 := Lib.hid h0
        clear hf
        go_wp2_with fail
        go_quiet ((go_at_call 59; first | with_reducible exact qleft (in_q HK1.out _) | with_reducible exact qleft (in_q HK2.out _)))
        go_wp2_with fail
        go_ret
        exact ⟨ret_b (lk_off H00.out HY.out HX.out (by have := HFL.out; omega)), Go.Proofs.Ytdfhnngcddaccaa.tv.bdrewN HB.out _⟩
    · obtain rfl : n = k := by omega
      go_wp2_with fail
      go_ret
      exact ⟨ret_b (lk_all hln HP.out), HB.out⟩
set_option maxRecDepth 100000 in
set_option maxHeartbeats 3200000 in
theorem impl_are {w : World} {B n c : Nat} {A : Option Addr} {l : List E2} (hn : n ≤ 140737488355328) (h1 : Vs w B A n l) (hB : B ≤ w.heap.size) :
    Calls Try.prog 43 #[.slice A n c] w fun e w' => e = .returned (.bool (lkB l)) ∧ Below w.heap.size w w' := by
  have H1 := Lib.hid h1
  have hln := h1.1
  clear h1
  go_enter Try.func43, Try.ntmps43
  go_wp2
  go_loopw [7] (fun i wr => ∃ k : Nat, k ≤ n ∧ i = .int .i64 k ∧ Pri okK folK l k ∧ Below w.heap.size w wr) (fun i _ => n - (intOf i).toNat)
  case atStart => exact ⟨0, by omega, rfl, pri_zero _ _ l, Below.refl _ _⟩
  case round =>
    obtain ⟨k, hk, rfl, hP, hb⟩ := hrel
    have HP := Lib.hid hP
    have HB := Lib.hid hb
    clear hP
    by_cases hlt : k < n
    · obtain ⟨b, o, x, hA, hbB, hx, a0, a1⟩ := (H1.out.below (below_le hb hB)).at_ hlt
      have HX := Lib.hid hx
      have hsz := hb.size
      have hn0 := new1 wr (.cells #[.int .i64 x.a, .int .i64 x.b] 99)
      have HB0 : Hid (Below w.heap.size w (wr.alloc (.cells #[.int .i64 x.a, .int .i64 x.b] 99))) := Lib.hid (hb.trans (hn0.mono hsz))
      rcases hk1 : In 0 5 x.a with _ | _
      · have HK1 := Lib.hid hk1
        subst hA
        clear hk1 hx hb hn0 hsz
        go_wp2_with (first | (go_at_call 66; refine (key_q HK1.out _).mono ?_; rintro e w9 ⟨rfl, rfl⟩) | fail)
        go_ret
        exact ⟨ret_b (lk_bad HX.out (okK_a HK1.out)), HB0.out⟩
      rcases hk2 : In 1 9 x.b with _ | _
      · have HK1 := Lib.hid hk1
        have HK2 := Lib.hid hk2
        subst hA
        clear hk1 hk2 hx hb hn0 hsz
        go_wp2_with (first | (go_at_call 66; refine (key_q HK1.out _).mono ?_; rintro e w9 ⟨rfl, rfl⟩) | (go_at_call 73; refine (id_q HK2.out _).mono ?_; rintro e w9 ⟨rfl, rfl⟩) | fail)
        go_ret
        exact ⟨ret_b (lk_bad HX.out (okK_b HK2.out)), HB0.out⟩
      have HK1 := Lib.hid hk1
      have HK2 := Lib.hid hk2
      clear hk1 hk2
      rcases Nat.eq_zero_or_pos k with h0 | h0
      · subst hA
        have t0 : decide ((0 : Int) < (k : Int)) = false := decide_eq_false (by omega)
        have t00 : decide (0 < k) = false := decide_eq_false (by omega)
        have t01 : ¬ 0 < k := by omega
        have H00 := Lib.hid h0
        clear h0 hx hb hn0 hsz
        go_wp2_with (first | (go_at_call 66; refine (key_q HK1.out _).mono ?_; rintro e w9 ⟨rfl, rfl⟩) | (go_at_call 73; refine (id_q HK2.out _).mono ?_; rintro e w9 ⟨rfl, rfl⟩) | fail)
        go_quiet (fail)
        go_wp2_with fail
        go_roundw
        case rel => exact ⟨k + 1, by omega, by go_num, pri_step HP.out HX.out (okK_yes HK1.out HK2.out) (fun h => absurd h (by have := H00.out; omega)), Go.Proofs.Ytdfhnngcddaccaa.tv.bdrewN HB0.out _⟩
        case measure => simp [intOf]; omega
      obtain ⟨y, hy, hya⟩ := at_prev (H1.out.below (below_le hb hB)) hA hlt h0
      obtain ⟨y0, y1⟩ := hya.keep (by omega) hn0
      have HY := Lib.hid hy
      have t0 : decide ((0 : Int) < (k : Int)) = true := decide_eq_true (by omega)
      have e1 : ((k : Int) - 1).toNat = k - 1 := by omega
      have e2 : (0 : Int) ≤ (k : Int) - 1 := by omega
      have e3 : (k : Int) - 1 < (n : Int) := by omega
      obtain ⟨z0, z1⟩ := atFlat (boxed wr x 99)
      subst hA
      clear hx hb hy hn0 hsz hya
      by_cases hf : y.a < x.a
      · have t1 : decide (x.a ≤ y.a) = false := decide_eq_false (by omega)
        have HFL := Lib.hid hf
        clear hf
        go_wp2_with (first | (go_at_call 66; refine (key_q HK1.out _).mono ?_; rintro e w9 ⟨rfl, rfl⟩) | (go_at_call 73; refine (id_q HK2.out _).mono ?_; rintro e w9 ⟨rfl, rfl⟩) | fail)
        go_quiet (fail)
        go_wp2_with fail
        go_roundw
        case rel => exact ⟨k + 1, by omega, by go_num, pri_step HP.out HX.out (okK_yes HK1.out HK2.out) (fun _ z hz => by rw [HY.out] at hz; injection hz with hz; subst hz; exact folK_yes (by have := HFL.out; omega)), Go.Proofs.Ytdfhnngcddaccaa.tv.bdrewN HB0.out _⟩
        case measure => simp [intOf]; omega
      · have t1 : decide (x.a ≤ y.a) = true := decide_eq_true (by omega)
        have HFL := Lib.hid hf
        have H00 := Lib.hid h0
        clear hf
        go_wp2_with (first | (go_at_call 66; refine (key_q HK1.out _).mono ?_; rintro e w9 ⟨rfl, rfl⟩) | (go_at_call 73; refine (id_q HK2.out _).mono ?_; rintro e w9 ⟨rfl, rfl⟩) | fail)
        go_quiet (fail)
        go_wp2_with fail
        go_ret
        exact ⟨ret_b (lk_off H00.out HY.out HX.out (by have := HFL.out; omega)), Go.Proofs.Ytdfhnngcddaccaa.tv.bdrewN HB0.out _⟩
    · obtain rfl : n = k := by omega
      go_wp2_with fail
      go_ret
      exact ⟨ret_b (lk_all hln HP.out), HB.out⟩
end Go.Proofs.Ytdfhnngcddaccaa.lka
