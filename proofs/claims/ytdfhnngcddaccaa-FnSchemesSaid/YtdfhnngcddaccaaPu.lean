/- The model's l5PutRead: a list with a read put in its place, in memory of its own. -/
import Derived.Test.YtdfhnngcddaccaaAo
import Derived.Test.YtdfhnngcddaccaaIns
namespace Go.Proofs.Ytdfhnngcddaccaa.pu
open Go.ChangeShapes Go.WideShapes Go.ChangeAt Go.RowKit
open Go.Proofs.Ytdfhnngcddaccaa.el2 Go.Proofs.Ytdfhnngcddaccaa.tx Go.Proofs.Ytdfhnngcddaccaa.seq Go.Proofs.Ytdfhnngcddaccaa.tv Go.Proofs.Ytdfhnngcddaccaa.tf Go.Proofs.Ytdfhnngcddaccaa.ap Go.Proofs.Ytdfhnngcddaccaa.bx Go.Proofs.Ytdfhnngcddaccaa.cl Go.Proofs.Ytdfhnngcddaccaa.lc Go.Proofs.Ytdfhnngcddaccaa.ins Go.Proofs.Ytdfhnngcddaccaa.rx Go.Proofs.Ytdfhnngcddaccaa.ao
set_option linter.unusedVariables false
set_option linter.unusedSimpArgs false
set_option maxRecDepth 100000 in
set_option maxHeartbeats 16000000 in
theorem put_r {w : World} {B n c : Nat} {A : Option Addr} {l : List E2} (m : E2) (hn : n ≤ 1048576) (hc : n ≤ c) (hA : (A = none ∧ c = 0) ∨ ∃ b o, A = some ⟨b, o, none⟩) (h1 : Vs w B A n l) (hB : B ≤ w.heap.size) :
    Calls Try.prog 84 #[.slice A n c, .agg #[.int .i64 m.a, .int .i64 m.b]] w fun e w' => ∃ A' c', e = .returned (.slice A' (insR m l).length c') ∧ w'.ownsRow w.heap.size 125 2 (.slice A' (insR m l).length c') (insR m l).length (flat (insR m l)) ∧ Below w.heap.size w w' := by
  have H1 := Lib.hid h1
  have hln := h1.1
  obtain ⟨i0, hi, hz, hs, hby⟩ := info_parts info_rm
  have HI := Lib.hid hi
  have HZ := Lib.hid hz
  have HS := Lib.hid hs
  have HBY := Lib.hid hby
  have HA := Lib.hid hA
  clear h1 hi hz hs hby hA
  go_enter Try.func84, Try.ntmps84
  go_wp2_with fail
  have hb := new1 w (.cells #[.int .i64 m.a, .int .i64 m.b] 125)
  have mb := boxed w m 125
  have hs0 : w.heap.size < (w.alloc (.cells #[.int .i64 m.a, .int .i64 m.b] 125)).heap.size := by simp
  generalize w.alloc _ = W0 at hb mb hs0 ⊢
  go_loopw [5] (fun i wr => ∃ k : Nat, k ≤ n ∧ i = .int .i64 k ∧ (∀ (j : Nat) (x : E2), j < k → l[j]? = some x → folR x m = true) ∧ Below w.heap.size w wr ∧ At wr w.heap.size 0 m ∧ w.heap.size < wr.heap.size) (fun i _ => n - (intOf i).toNat)
  case atStart => exact ⟨0, by omega, rfl, fun j x h => absurd h (by omega), hb, mb, hs0⟩
  case round =>
    clear hb mb hs0
    obtain ⟨k, hk, rfl, hP, hb, mb, hsz⟩ := hrel
    have HP := Lib.hid hP
    have HB := Lib.hid hb
    have MW := Lib.hid mb
    obtain ⟨m0, m1⟩ := atFlat mb
    clear hP mb
    by_cases hlt : k < n
    · obtain ⟨b, o, y, rfl, hbB, hx, a0, a1⟩ := (H1.out.below (below_le hb hB)).at_ hlt
      have HX := Lib.hid hx
      have hlt2 : (k : Int) < (n : Int) := by omega
      have tg : decide ((k : Int) < (n : Int)) = true := decide_eq_true hlt2
      clear hb hx
      obtain ⟨q, hq⟩ : ∃ q, folR y m = q := ⟨_, rfl⟩
      have HQ := Lib.hid hq
      clear hq
      cases q with
      | true =>
        go_wp2_with fail
        have YA : Hid (At wr b (o + k * 2) y) := Lib.hid ⟨a0, a1⟩
        have hbk0 : Below wr.heap.size wr wr.drew := (Below.refl _ _).drew
        go_region_held3 (fun w' => w'.cell? ⟨w.heap.size, 0, none⟩ = some (.int .i64 m.a) ∧ w'.cell? ⟨w.heap.size, 1, none⟩ = some (.int .i64 m.b) ∧ w'.cell? ⟨b, o + k * 2, none⟩ = some (.int .i64 y.a) ∧ w'.cell? ⟨b, o + k * 2 + 1, none⟩ = some (.int .i64 y.b)) (go_keep) (first | (go_at_call 86; (with_reducible refine (tv.before_s y m _).mono ?_); rintro e W1 ⟨he, hb'⟩; rw [HQ.out] at he; subst he; have hbk1 := hbk0.trans (hb'.mono hbk0.size); have MM := MW.out.keep hsz hbk1; have YY := YA.out.keep (show b < wr.heap.size by omega) hbk1; obtain ⟨c0, c1⟩ := atFlat MM; obtain ⟨e0, e1⟩ := YY))
        have B1 := Lib.hid (HB.out.trans (hbk1.mono HB.out.size))
        have M1 := Lib.hid MM
        have Y1 := Lib.hid (YA.out.keep (show b < wr.heap.size by omega) hbk1)
        have hs1 : w.heap.size < W1.heap.size := Nat.lt_of_lt_of_le hsz hbk1.size
        clear hbk0 hbk1 hb' MM c0 c1 e0 e1 a0 a1 m0 m1 YA
        go_wp2_with fail
        go_roundw
        case rel => exact ⟨k + 1, by omega, by go_num, all_step (p := fun x => folR x m) HP.out HX.out HQ.out, B1.out, M1.out, hs1⟩
        case measure => simp [intOf]; omega
      | false =>
        have HPS : Hid (posR m l = k) := Lib.hid (posR_is l k HP.out (by omega) fun x hx => by rw [HX.out] at hx; injection hx with hx; subst hx; exact HQ.out)
        go_wp2_with fail
        have YA : Hid (At wr b (o + k * 2) y) := Lib.hid ⟨a0, a1⟩
        have hbk0 : Below wr.heap.size wr wr.drew := (Below.refl _ _).drew
        go_region_held3 (fun w' => w'.cell? ⟨w.heap.size, 0, none⟩ = some (.int .i64 m.a) ∧ w'.cell? ⟨w.heap.size, 1, none⟩ = some (.int .i64 m.b) ∧ w'.cell? ⟨b, o + k * 2, none⟩ = some (.int .i64 y.a) ∧ w'.cell? ⟨b, o + k * 2 + 1, none⟩ = some (.int .i64 y.b)) (go_keep) (first | (go_at_call 86; (with_reducible refine (tv.before_s y m _).mono ?_); rintro e W1 ⟨he, hb'⟩; rw [HQ.out] at he; subst he; have hbk1 := hbk0.trans (hb'.mono hbk0.size); have MM := MW.out.keep hsz hbk1; have YY := YA.out.keep (show b < wr.heap.size by omega) hbk1; obtain ⟨c0, c1⟩ := atFlat MM; obtain ⟨e0, e1⟩ := YY))
        have B1 := Lib.hid (HB.out.trans (hbk1.mono HB.out.size))
        have M1 := Lib.hid MM
        have Y1 := Lib.hid (YA.out.keep (show b < wr.heap.size by omega) hbk1)
        have hs1 : w.heap.size < W1.heap.size := Nat.lt_of_lt_of_le hsz hbk1.size
        clear hbk0 hbk1 hb' MM c0 c1 e0 e1 a0 a1 m0 m1 YA
        go_wp2_with fail
        obtain ⟨a0, a1⟩ := Y1.out
        obtain ⟨m0, m1⟩ := atFlat M1.out
        by_cases hxy : y = m
        · have hnq := eql_yes hxy
          have HI2 : Hid (insR m l = l) := Lib.hid (ins_there (by rw [HPS.out, HX.out, hxy]))
          clear hxy
          go_quiet (fail)
          clear hnq
          generalize hW : W1.drewN _ = W2
          have B2 : Hid (Below w.heap.size w W2) := Lib.hid (by rw [← hW]; exact Off1 B1.out _)
          have hs2 : w.heap.size ≤ W2.heap.size := B2.out.size
          clear hW a0 a1 m0 m1
          obtain ⟨A', c', w3, hr, ho, hb3⟩ := app_empty (c := c) W2 27 Try.underlying27 HI.out HZ.out HS.out HBY.out rfl (H1.out.below (below_le B2.out hB)) (by omega) (by omega)
          have O3 := Lib.hid (own_more ho hs2)
          have B3 := Lib.hid (B2.out.trans (hb3.mono hs2))
          clear ho hb3
          go_wp2_with (at_builtin; refine Lib.wpList_append_run _ rfl _ _ 27 27 rfl _ _ rfl rfl _ _ hr ?_)
          go_ret
          rw [HI2.out, hln]
          exact ⟨_, _, rfl, O3.out, B3.out⟩
        · have hnq := eql_no hxy
          have HI2 : Hid (insR m l = l.take k ++ m :: l.drop k) := Lib.hid (by have := ins_new (m := m) (l := l) (by rw [HPS.out, HX.out]; intro h; injection h with h; exact hxy h); rw [HPS.out] at this; exact this)
          clear hxy
          go_quiet (fail)
          clear hnq
          generalize hW : W1.drewN _ = W2
          have B2 : Hid (Below w.heap.size w W2) := Lib.hid (by rw [← hW]; exact Off1 B1.out _)
          have M2 : Hid (At W2 w.heap.size 0 m) := Lib.hid (by rw [← hW]; exact M1.out)
          have hs2 : w.heap.size < W2.heap.size := by rw [← hW]; exact hs1
          clear hW a0 a1 m0 m1
          obtain ⟨m0, m1⟩ := atFlat M2.out
          have hck : ¬ c = k := by omega
          have hkc : (k : Int) ≤ (c : Int) := by omega
          have hkn : (k : Int) ≤ (n : Int) := by omega
          go_wp2_with fail
          have HLN : Hid ((insR m l).length = k + 1 + (n - k)) := Lib.hid (by rw [HI2.out, List.length_append, List.length_cons, List.length_take, List.length_drop]; omega)
          have hsA : W2.heap.size ≤ (W2.drew.alloc (.cells #[] 125)).heap.size := by simp
          have hsB : ((W2.drew.alloc (.cells #[] 125)).alloc (.cells #[.int .i64 m.a, .int .i64 m.b] 125)).heap.size = W2.heap.size + 1 + 1 := by simp
          have hsC : ((W2.drew.alloc (.cells #[.int .i64 m.a, .int .i64 m.b] 125)).alloc (.cells #[] 125)).heap.size = W2.heap.size + 1 + 1 := by simp
          have bA : Below W2.heap.size W2 (W2.drew.alloc (.cells #[] 125)) := ((Below.refl _ W2).drew).alloc (Nat.le_refl _) _
          have bB : Below W2.heap.size W2 ((W2.drew.alloc (.cells #[] 125)).alloc (.cells #[.int .i64 m.a, .int .i64 m.b] 125)) := bA.alloc (by simp) _
          have bC : Below W2.heap.size W2 ((W2.drew.alloc (.cells #[.int .i64 m.a, .int .i64 m.b] 125)).alloc (.cells #[] 125)) := (((Below.refl _ W2).drew).alloc (Nat.le_refl _) _).alloc (by simp) _
          have oA := own_empty W2.drew 125 W2.heap.size (Nat.le_refl _)
          have oB := own_keep oA (new1 (W2.drew.alloc (.cells #[] 125)) (.cells #[.int .i64 m.a, .int .i64 m.b] 125))
          have oC := own_empty (W2.drew.alloc (.cells #[.int .i64 m.a, .int .i64 m.b] 125)) 125 W2.heap.size (by simp)
          have mB := boxed (W2.drew.alloc (.cells #[] 125)) m 125
          have mC := (boxed W2.drew m 125).keep (B := W2.heap.size + 1) (Nat.lt_succ_self _) (below_le (new1 (W2.drew.alloc (.cells #[.int .i64 m.a, .int .i64 m.b] 125)) (.cells #[] 125)) (by simp))
          rw [show (W2.drew.alloc (.cells #[] 125)).heap.size = W2.heap.size + 1 by simp] at mB
          rw [show (W2.drew.alloc (.cells #[.int .i64 m.a, .int .i64 m.b] 125)).heap.size = W2.heap.size + 1 by simp] at oC
          have vP := Vs.take (k := k) (H1.out.below (below_le B2.out hB)) (by omega)
          have vD := Vs.drop (k := k) (H1.out.below (below_le B2.out hB)) (by omega)
          obtain ⟨a3, e3, x3, a4, e4, x4, a5, e5, x5, rA3, rA4, rA5, OA, BA, BA3⟩ := run3' (c1 := c) (c2 := c - k) _ m oA (vP.below (below_le bA (by omega))) (vD.below (below_le bA (by omega))) (show B ≤ W2.heap.size by omega) (by omega) hsA
          obtain ⟨b3, f3, y3, b4, f4, y4, b5, f5, y5, rB3, rB4, rB5, OB, BB⟩ := run3 (c1 := c) (c2 := c - k) _ oB mB (by omega) (show W2.heap.size + 1 ≠ W2.heap.size by omega) (vP.below (below_le bB (by omega))) (vD.below (below_le bB (by omega))) (show B ≤ W2.heap.size by omega) (by omega) (by omega)
          obtain ⟨d3, g3, z3, d4, g4, z4, d5, g5, z5, rC3, rC4, rC5, OC, BC⟩ := run3 (c1 := c) (c2 := c - k) _ oC mC (show W2.heap.size < _ by omega) (show W2.heap.size ≠ W2.heap.size + 1 by omega) (vP.below (below_le bC (by omega))) (vD.below (below_le bC (by omega))) (show B ≤ W2.heap.size by omega) (by omega) (by omega)
          have FA := Lib.hid (And.intro (own_more OA (show w.heap.size ≤ W2.heap.size by omega)) (B2.out.trans ((bA.trans BA).mono (by omega))))
          have FB := Lib.hid (And.intro (own_more OB (show w.heap.size ≤ W2.heap.size by omega)) (B2.out.trans ((bB.trans BB).mono (by omega))))
          have FC := Lib.hid (And.intro (own_more OC (show w.heap.size ≤ W2.heap.size by omega)) (B2.out.trans ((bC.trans BC).mono (by omega))))
          have X3 := bA.trans (BA3.mono (Nat.le_refl _))
          obtain ⟨n0, n1⟩ := atFlat (M2.out.keep hs2 X3)
          clear X3 BA3 OA OB OC BA BB BC oA oB oC mB mC vP vD bA bB bC hsA hsB hsC
          go_region_law (first | (refine step_append_run rfl (.tmp 35) (.tmp 38) 27 27 rfl _ _ (by simp [Act.eval, Act.put]) (by simp [Act.eval, Act.put]) rA3 ?_) | (refine step_append_run rfl (.tmp 35) (.tmp 38) 27 27 rfl _ _ (by simp [Act.eval, Act.put]) (by simp [Act.eval, Act.put]) rB3 ?_) | (refine step_append_run rfl (.tmp 35) (.tmp 38) 27 27 rfl _ _ (by simp [Act.eval, Act.put]) (by simp [Act.eval, Act.put]) rC3 ?_) | (refine step_append_run rfl (.tmp 39) (.tmp 41) 27 27 rfl _ _ (by simp [Act.eval, Act.put]) (by simp [Act.eval, Act.put]) rA4 ?_) | (refine step_append_run rfl (.tmp 39) (.tmp 41) 27 27 rfl _ _ (by simp [Act.eval, Act.put]) (by simp [Act.eval, Act.put]) rB4 ?_) | (refine step_append_run rfl (.tmp 39) (.tmp 41) 27 27 rfl _ _ (by simp [Act.eval, Act.put]) (by simp [Act.eval, Act.put]) rC4 ?_) | (refine step_append_run rfl (.tmp 42) (.tmp 45) 27 27 rfl _ _ (by simp [Act.eval, Act.put]) (by simp [Act.eval, Act.put]) rA5 ?_) | (refine step_append_run rfl (.tmp 42) (.tmp 45) 27 27 rfl _ _ (by simp [Act.eval, Act.put]) (by simp [Act.eval, Act.put]) rB5 ?_) | (refine step_append_run rfl (.tmp 42) (.tmp 45) 27 27 rfl _ _ (by simp [Act.eval, Act.put]) (by simp [Act.eval, Act.put]) rC5 ?_))
          all_goals go_wp2_with fail
          all_goals go_ret
          all_goals rw [HLN.out, HI2.out]
          all_goals (first | exact ⟨_, _, rfl, FA.out.1, FA.out.2⟩ | exact ⟨_, _, rfl, FB.out.1, FB.out.2⟩ | exact ⟨_, _, rfl, FC.out.1, FC.out.2⟩)
    · obtain rfl : n = k := by omega
      have tg : decide ((n : Int) < (n : Int)) = false := decide_eq_false (by omega)
      have HPS : Hid (posR m l = n) := Lib.hid (posR_is l n HP.out (by omega) fun x hx => by rw [List.getElem?_eq_none (by omega)] at hx; cases hx)
      have HI2 : Hid (insR m l = l ++ m :: []) := Lib.hid (by have := ins_new (m := m) (l := l) (by rw [HPS.out, List.getElem?_eq_none (by omega)]; intro h; cases h); rw [HPS.out, List.take_of_length_le (by omega), List.drop_of_length_le (by omega)] at this; exact this)
      have HLN : Hid ((insR m l).length = n + 1 + 0) := Lib.hid (by rw [HI2.out, List.length_append, List.length_cons, List.length_nil]; omega)
      clear hb
      go_wp2_with fail
      go_quiet (fail)
      go_wp2_with fail
      generalize hW1 : wr.drewN _ = W1
      have B1 : Hid (Below w.heap.size w W1) := Lib.hid (by rw [← hW1]; exact Off1 HB.out _)
      have M1 : Hid (At W1 w.heap.size 0 m) := Lib.hid (by rw [← hW1]; exact MW.out)
      have hs1 : w.heap.size < W1.heap.size := by rw [← hW1]; exact hsz
      clear hW1 m0 m1
      go_quiet (fail)
      generalize hW : W1.drewN _ = W2
      have B2 : Hid (Below w.heap.size w W2) := Lib.hid (by rw [← hW]; exact Off1 B1.out _)
      have M2 : Hid (At W2 w.heap.size 0 m) := Lib.hid (by rw [← hW]; exact M1.out)
      have hs2 : w.heap.size < W2.heap.size := by rw [← hW]; exact hs1
      clear hW
      obtain ⟨m0, m1⟩ := atFlat M2.out
      have hkc : (n : Int) ≤ (c : Int) := by omega
      have HV : Hid (Vs W2 B A n l) := Lib.hid (H1.out.below (below_le B2.out hB))
      rcases HA.out with ⟨rfl, hc0⟩ | ⟨ab, ao, rfl⟩
      · subst hc0
        obtain rfl : n = 0 := by omega
        go_wp2_with fail
        have hsA : W2.heap.size ≤ (W2.drew.alloc (.cells #[] 125)).heap.size := by simp
        have hsB : ((W2.drew.alloc (.cells #[] 125)).alloc (.cells #[.int .i64 m.a, .int .i64 m.b] 125)).heap.size = W2.heap.size + 1 + 1 := by simp
        have hsC : ((W2.drew.alloc (.cells #[.int .i64 m.a, .int .i64 m.b] 125)).alloc (.cells #[] 125)).heap.size = W2.heap.size + 1 + 1 := by simp
        have bA : Below W2.heap.size W2 (W2.drew.alloc (.cells #[] 125)) := ((Below.refl _ W2).drew).alloc (Nat.le_refl _) _
        have bB : Below W2.heap.size W2 ((W2.drew.alloc (.cells #[] 125)).alloc (.cells #[.int .i64 m.a, .int .i64 m.b] 125)) := bA.alloc (by simp) _
        have bC : Below W2.heap.size W2 ((W2.drew.alloc (.cells #[.int .i64 m.a, .int .i64 m.b] 125)).alloc (.cells #[] 125)) := (((Below.refl _ W2).drew).alloc (Nat.le_refl _) _).alloc (by simp) _
        have oA := own_empty W2.drew 125 W2.heap.size (Nat.le_refl _)
        have oB := own_keep oA (new1 (W2.drew.alloc (.cells #[] 125)) (.cells #[.int .i64 m.a, .int .i64 m.b] 125))
        have oC := own_empty (W2.drew.alloc (.cells #[.int .i64 m.a, .int .i64 m.b] 125)) 125 W2.heap.size (by simp)
        have mB := boxed (W2.drew.alloc (.cells #[] 125)) m 125
        have mC := (boxed W2.drew m 125).keep (B := W2.heap.size + 1) (Nat.lt_succ_self _) (below_le (new1 (W2.drew.alloc (.cells #[.int .i64 m.a, .int .i64 m.b] 125)) (.cells #[] 125)) (by simp))
        rw [show (W2.drew.alloc (.cells #[] 125)).heap.size = W2.heap.size + 1 by simp] at mB
        rw [show (W2.drew.alloc (.cells #[.int .i64 m.a, .int .i64 m.b] 125)).heap.size = W2.heap.size + 1 by simp] at oC
        have vP := (show Vs W2 B (none) 0 l from HV.out)
        have vD := Vs.nil_ W2 B (none)
        obtain ⟨a3, e3, x3, a4, e4, x4, a5, e5, x5, rA3, rA4, rA5, OA, BA, BA3⟩ := run3' (c1 := 0) (c2 := 0) _ m oA (vP.below (below_le bA (by omega))) (vD.below (below_le bA (by omega))) (show B ≤ W2.heap.size by omega) (by omega) hsA
        obtain ⟨b3, f3, y3, b4, f4, y4, b5, f5, y5, rB3, rB4, rB5, OB, BB⟩ := run3 (c1 := 0) (c2 := 0) _ oB mB (by omega) (show W2.heap.size + 1 ≠ W2.heap.size by omega) (vP.below (below_le bB (by omega))) (vD.below (below_le bB (by omega))) (show B ≤ W2.heap.size by omega) (by omega) (by omega)
        obtain ⟨d3, g3, z3, d4, g4, z4, d5, g5, z5, rC3, rC4, rC5, OC, BC⟩ := run3 (c1 := 0) (c2 := 0) _ oC mC (show W2.heap.size < _ by omega) (show W2.heap.size ≠ W2.heap.size + 1 by omega) (vP.below (below_le bC (by omega))) (vD.below (below_le bC (by omega))) (show B ≤ W2.heap.size by omega) (by omega) (by omega)
        have FA := Lib.hid (And.intro (own_more OA (show w.heap.size ≤ W2.heap.size by omega)) (B2.out.trans ((bA.trans BA).mono (by omega))))
        have FB := Lib.hid (And.intro (own_more OB (show w.heap.size ≤ W2.heap.size by omega)) (B2.out.trans ((bB.trans BB).mono (by omega))))
        have FC := Lib.hid (And.intro (own_more OC (show w.heap.size ≤ W2.heap.size by omega)) (B2.out.trans ((bC.trans BC).mono (by omega))))
        have X3 := bA.trans (BA3.mono (Nat.le_refl _))
        obtain ⟨n0, n1⟩ := atFlat (M2.out.keep hs2 X3)
        clear X3 BA3 OA OB OC BA BB BC oA oB oC mB mC vP vD bA bB bC hsA hsB hsC
        go_region_law (first | (refine step_append_run rfl (.tmp 35) (.tmp 38) 27 27 rfl _ _ (by simp [Act.eval, Act.put]) (by simp [Act.eval, Act.put]) rA3 ?_) | (refine step_append_run rfl (.tmp 35) (.tmp 38) 27 27 rfl _ _ (by simp [Act.eval, Act.put]) (by simp [Act.eval, Act.put]) rB3 ?_) | (refine step_append_run rfl (.tmp 35) (.tmp 38) 27 27 rfl _ _ (by simp [Act.eval, Act.put]) (by simp [Act.eval, Act.put]) rC3 ?_) | (refine step_append_run rfl (.tmp 39) (.tmp 41) 27 27 rfl _ _ (by simp [Act.eval, Act.put]) (by simp [Act.eval, Act.put]) rA4 ?_) | (refine step_append_run rfl (.tmp 39) (.tmp 41) 27 27 rfl _ _ (by simp [Act.eval, Act.put]) (by simp [Act.eval, Act.put]) rB4 ?_) | (refine step_append_run rfl (.tmp 39) (.tmp 41) 27 27 rfl _ _ (by simp [Act.eval, Act.put]) (by simp [Act.eval, Act.put]) rC4 ?_) | (refine step_append_run rfl (.tmp 42) (.tmp 45) 27 27 rfl _ _ (by simp [Act.eval, Act.put]) (by simp [Act.eval, Act.put]) rA5 ?_) | (refine step_append_run rfl (.tmp 42) (.tmp 45) 27 27 rfl _ _ (by simp [Act.eval, Act.put]) (by simp [Act.eval, Act.put]) rB5 ?_) | (refine step_append_run rfl (.tmp 42) (.tmp 45) 27 27 rfl _ _ (by simp [Act.eval, Act.put]) (by simp [Act.eval, Act.put]) rC5 ?_))
        all_goals go_wp2_with fail
        all_goals go_ret
        all_goals rw [HLN.out, HI2.out]
        all_goals (first | exact ⟨_, _, rfl, FA.out.1, FA.out.2⟩ | exact ⟨_, _, rfl, FB.out.1, FB.out.2⟩ | exact ⟨_, _, rfl, FC.out.1, FC.out.2⟩)
      · by_cases hcn : c = n
        · subst hcn
          go_wp2_with fail
          have hsA : W2.heap.size ≤ (W2.drew.alloc (.cells #[] 125)).heap.size := by simp
          have hsB : ((W2.drew.alloc (.cells #[] 125)).alloc (.cells #[.int .i64 m.a, .int .i64 m.b] 125)).heap.size = W2.heap.size + 1 + 1 := by simp
          have hsC : ((W2.drew.alloc (.cells #[.int .i64 m.a, .int .i64 m.b] 125)).alloc (.cells #[] 125)).heap.size = W2.heap.size + 1 + 1 := by simp
          have bA : Below W2.heap.size W2 (W2.drew.alloc (.cells #[] 125)) := ((Below.refl _ W2).drew).alloc (Nat.le_refl _) _
          have bB : Below W2.heap.size W2 ((W2.drew.alloc (.cells #[] 125)).alloc (.cells #[.int .i64 m.a, .int .i64 m.b] 125)) := bA.alloc (by simp) _
          have bC : Below W2.heap.size W2 ((W2.drew.alloc (.cells #[.int .i64 m.a, .int .i64 m.b] 125)).alloc (.cells #[] 125)) := (((Below.refl _ W2).drew).alloc (Nat.le_refl _) _).alloc (by simp) _
          have oA := own_empty W2.drew 125 W2.heap.size (Nat.le_refl _)
          have oB := own_keep oA (new1 (W2.drew.alloc (.cells #[] 125)) (.cells #[.int .i64 m.a, .int .i64 m.b] 125))
          have oC := own_empty (W2.drew.alloc (.cells #[.int .i64 m.a, .int .i64 m.b] 125)) 125 W2.heap.size (by simp)
          have mB := boxed (W2.drew.alloc (.cells #[] 125)) m 125
          have mC := (boxed W2.drew m 125).keep (B := W2.heap.size + 1) (Nat.lt_succ_self _) (below_le (new1 (W2.drew.alloc (.cells #[.int .i64 m.a, .int .i64 m.b] 125)) (.cells #[] 125)) (by simp))
          rw [show (W2.drew.alloc (.cells #[] 125)).heap.size = W2.heap.size + 1 by simp] at mB
          rw [show (W2.drew.alloc (.cells #[.int .i64 m.a, .int .i64 m.b] 125)).heap.size = W2.heap.size + 1 by simp] at oC
          have vP := (show Vs W2 B (some ⟨ab, ao, none⟩) c l from HV.out)
          have vD := Vs.nil_ W2 B (some ⟨ab, ao, none⟩)
          obtain ⟨a3, e3, x3, a4, e4, x4, a5, e5, x5, rA3, rA4, rA5, OA, BA, BA3⟩ := run3' (c1 := c) (c2 := 0) _ m oA (vP.below (below_le bA (by omega))) (vD.below (below_le bA (by omega))) (show B ≤ W2.heap.size by omega) (by omega) hsA
          obtain ⟨b3, f3, y3, b4, f4, y4, b5, f5, y5, rB3, rB4, rB5, OB, BB⟩ := run3 (c1 := c) (c2 := 0) _ oB mB (by omega) (show W2.heap.size + 1 ≠ W2.heap.size by omega) (vP.below (below_le bB (by omega))) (vD.below (below_le bB (by omega))) (show B ≤ W2.heap.size by omega) (by omega) (by omega)
          obtain ⟨d3, g3, z3, d4, g4, z4, d5, g5, z5, rC3, rC4, rC5, OC, BC⟩ := run3 (c1 := c) (c2 := 0) _ oC mC (show W2.heap.size < _ by omega) (show W2.heap.size ≠ W2.heap.size + 1 by omega) (vP.below (below_le bC (by omega))) (vD.below (below_le bC (by omega))) (show B ≤ W2.heap.size by omega) (by omega) (by omega)
          have FA := Lib.hid (And.intro (own_more OA (show w.heap.size ≤ W2.heap.size by omega)) (B2.out.trans ((bA.trans BA).mono (by omega))))
          have FB := Lib.hid (And.intro (own_more OB (show w.heap.size ≤ W2.heap.size by omega)) (B2.out.trans ((bB.trans BB).mono (by omega))))
          have FC := Lib.hid (And.intro (own_more OC (show w.heap.size ≤ W2.heap.size by omega)) (B2.out.trans ((bC.trans BC).mono (by omega))))
          have X3 := bA.trans (BA3.mono (Nat.le_refl _))
          obtain ⟨n0, n1⟩ := atFlat (M2.out.keep hs2 X3)
          clear X3 BA3 OA OB OC BA BB BC oA oB oC mB mC vP vD bA bB bC hsA hsB hsC
          go_region_law (first | (refine step_append_run rfl (.tmp 35) (.tmp 38) 27 27 rfl _ _ (by simp [Act.eval, Act.put]) (by simp [Act.eval, Act.put]) rA3 ?_) | (refine step_append_run rfl (.tmp 35) (.tmp 38) 27 27 rfl _ _ (by simp [Act.eval, Act.put]) (by simp [Act.eval, Act.put]) rB3 ?_) | (refine step_append_run rfl (.tmp 35) (.tmp 38) 27 27 rfl _ _ (by simp [Act.eval, Act.put]) (by simp [Act.eval, Act.put]) rC3 ?_) | (refine step_append_run rfl (.tmp 39) (.tmp 41) 27 27 rfl _ _ (by simp [Act.eval, Act.put]) (by simp [Act.eval, Act.put]) rA4 ?_) | (refine step_append_run rfl (.tmp 39) (.tmp 41) 27 27 rfl _ _ (by simp [Act.eval, Act.put]) (by simp [Act.eval, Act.put]) rB4 ?_) | (refine step_append_run rfl (.tmp 39) (.tmp 41) 27 27 rfl _ _ (by simp [Act.eval, Act.put]) (by simp [Act.eval, Act.put]) rC4 ?_) | (refine step_append_run rfl (.tmp 42) (.tmp 45) 27 27 rfl _ _ (by simp [Act.eval, Act.put]) (by simp [Act.eval, Act.put]) rA5 ?_) | (refine step_append_run rfl (.tmp 42) (.tmp 45) 27 27 rfl _ _ (by simp [Act.eval, Act.put]) (by simp [Act.eval, Act.put]) rB5 ?_) | (refine step_append_run rfl (.tmp 42) (.tmp 45) 27 27 rfl _ _ (by simp [Act.eval, Act.put]) (by simp [Act.eval, Act.put]) rC5 ?_))
          all_goals go_wp2_with fail
          all_goals go_ret
          all_goals rw [HLN.out, HI2.out]
          all_goals (first | exact ⟨_, _, rfl, FA.out.1, FA.out.2⟩ | exact ⟨_, _, rfl, FB.out.1, FB.out.2⟩ | exact ⟨_, _, rfl, FC.out.1, FC.out.2⟩)
        · go_wp2_with fail
          have hsA : W2.heap.size ≤ (W2.drew.alloc (.cells #[] 125)).heap.size := by simp
          have hsB : ((W2.drew.alloc (.cells #[] 125)).alloc (.cells #[.int .i64 m.a, .int .i64 m.b] 125)).heap.size = W2.heap.size + 1 + 1 := by simp
          have hsC : ((W2.drew.alloc (.cells #[.int .i64 m.a, .int .i64 m.b] 125)).alloc (.cells #[] 125)).heap.size = W2.heap.size + 1 + 1 := by simp
          have bA : Below W2.heap.size W2 (W2.drew.alloc (.cells #[] 125)) := ((Below.refl _ W2).drew).alloc (Nat.le_refl _) _
          have bB : Below W2.heap.size W2 ((W2.drew.alloc (.cells #[] 125)).alloc (.cells #[.int .i64 m.a, .int .i64 m.b] 125)) := bA.alloc (by simp) _
          have bC : Below W2.heap.size W2 ((W2.drew.alloc (.cells #[.int .i64 m.a, .int .i64 m.b] 125)).alloc (.cells #[] 125)) := (((Below.refl _ W2).drew).alloc (Nat.le_refl _) _).alloc (by simp) _
          have oA := own_empty W2.drew 125 W2.heap.size (Nat.le_refl _)
          have oB := own_keep oA (new1 (W2.drew.alloc (.cells #[] 125)) (.cells #[.int .i64 m.a, .int .i64 m.b] 125))
          have oC := own_empty (W2.drew.alloc (.cells #[.int .i64 m.a, .int .i64 m.b] 125)) 125 W2.heap.size (by simp)
          have mB := boxed (W2.drew.alloc (.cells #[] 125)) m 125
          have mC := (boxed W2.drew m 125).keep (B := W2.heap.size + 1) (Nat.lt_succ_self _) (below_le (new1 (W2.drew.alloc (.cells #[.int .i64 m.a, .int .i64 m.b] 125)) (.cells #[] 125)) (by simp))
          rw [show (W2.drew.alloc (.cells #[] 125)).heap.size = W2.heap.size + 1 by simp] at mB
          rw [show (W2.drew.alloc (.cells #[.int .i64 m.a, .int .i64 m.b] 125)).heap.size = W2.heap.size + 1 by simp] at oC
          have vP := (show Vs W2 B (some ⟨ab, ao, none⟩) n l from HV.out)
          have vD := Vs.nil_ W2 B (some ⟨ab, ao + n * 2, none⟩)
          obtain ⟨a3, e3, x3, a4, e4, x4, a5, e5, x5, rA3, rA4, rA5, OA, BA, BA3⟩ := run3' (c1 := c) (c2 := c - n) _ m oA (vP.below (below_le bA (by omega))) (vD.below (below_le bA (by omega))) (show B ≤ W2.heap.size by omega) (by omega) hsA
          obtain ⟨b3, f3, y3, b4, f4, y4, b5, f5, y5, rB3, rB4, rB5, OB, BB⟩ := run3 (c1 := c) (c2 := c - n) _ oB mB (by omega) (show W2.heap.size + 1 ≠ W2.heap.size by omega) (vP.below (below_le bB (by omega))) (vD.below (below_le bB (by omega))) (show B ≤ W2.heap.size by omega) (by omega) (by omega)
          obtain ⟨d3, g3, z3, d4, g4, z4, d5, g5, z5, rC3, rC4, rC5, OC, BC⟩ := run3 (c1 := c) (c2 := c - n) _ oC mC (show W2.heap.size < _ by omega) (show W2.heap.size ≠ W2.heap.size + 1 by omega) (vP.below (below_le bC (by omega))) (vD.below (below_le bC (by omega))) (show B ≤ W2.heap.size by omega) (by omega) (by omega)
          have FA := Lib.hid (And.intro (own_more OA (show w.heap.size ≤ W2.heap.size by omega)) (B2.out.trans ((bA.trans BA).mono (by omega))))
          have FB := Lib.hid (And.intro (own_more OB (show w.heap.size ≤ W2.heap.size by omega)) (B2.out.trans ((bB.trans BB).mono (by omega))))
          have FC := Lib.hid (And.intro (own_more OC (show w.heap.size ≤ W2.heap.size by omega)) (B2.out.trans ((bC.trans BC).mono (by omega))))
          have X3 := bA.trans (BA3.mono (Nat.le_refl _))
          obtain ⟨n0, n1⟩ := atFlat (M2.out.keep hs2 X3)
          clear X3 BA3 OA OB OC BA BB BC oA oB oC mB mC vP vD bA bB bC hsA hsB hsC
          go_region_law (first | (refine step_append_run rfl (.tmp 35) (.tmp 38) 27 27 rfl _ _ (by simp [Act.eval, Act.put]) (by simp [Act.eval, Act.put]) rA3 ?_) | (refine step_append_run rfl (.tmp 35) (.tmp 38) 27 27 rfl _ _ (by simp [Act.eval, Act.put]) (by simp [Act.eval, Act.put]) rB3 ?_) | (refine step_append_run rfl (.tmp 35) (.tmp 38) 27 27 rfl _ _ (by simp [Act.eval, Act.put]) (by simp [Act.eval, Act.put]) rC3 ?_) | (refine step_append_run rfl (.tmp 39) (.tmp 41) 27 27 rfl _ _ (by simp [Act.eval, Act.put]) (by simp [Act.eval, Act.put]) rA4 ?_) | (refine step_append_run rfl (.tmp 39) (.tmp 41) 27 27 rfl _ _ (by simp [Act.eval, Act.put]) (by simp [Act.eval, Act.put]) rB4 ?_) | (refine step_append_run rfl (.tmp 39) (.tmp 41) 27 27 rfl _ _ (by simp [Act.eval, Act.put]) (by simp [Act.eval, Act.put]) rC4 ?_) | (refine step_append_run rfl (.tmp 42) (.tmp 45) 27 27 rfl _ _ (by simp [Act.eval, Act.put]) (by simp [Act.eval, Act.put]) rA5 ?_) | (refine step_append_run rfl (.tmp 42) (.tmp 45) 27 27 rfl _ _ (by simp [Act.eval, Act.put]) (by simp [Act.eval, Act.put]) rB5 ?_) | (refine step_append_run rfl (.tmp 42) (.tmp 45) 27 27 rfl _ _ (by simp [Act.eval, Act.put]) (by simp [Act.eval, Act.put]) rC5 ?_))
          all_goals go_wp2_with fail
          all_goals go_ret
          all_goals rw [HLN.out, HI2.out]
          all_goals (first | exact ⟨_, _, rfl, FA.out.1, FA.out.2⟩ | exact ⟨_, _, rfl, FB.out.1, FB.out.2⟩ | exact ⟨_, _, rfl, FC.out.1, FC.out.2⟩)
end Go.Proofs.Ytdfhnngcddaccaa.pu
