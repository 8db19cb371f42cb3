/- The model's l5PutWrite: a list with a write put in its place, in memory of its own. -/
import Derived.Test.YtdfhnngcddaccaaAow
import Derived.Deep.CutRange
namespace Go.Proofs.Ytdfhnngcddaccaa.pw
open Go.ChangeShapes Go.WideShapes Go.ChangeAt Go.RowKit
open Go.Proofs.Ytdfhnngcddaccaa.el2 Go.Proofs.Ytdfhnngcddaccaa.tx Go.Proofs.Ytdfhnngcddaccaa.seq Go.Proofs.Ytdfhnngcddaccaa.tv Go.Proofs.Ytdfhnngcddaccaa.tf Go.Proofs.Ytdfhnngcddaccaa.ap Go.Proofs.Ytdfhnngcddaccaa.bx Go.Proofs.Ytdfhnngcddaccaa.cl Go.Proofs.Ytdfhnngcddaccaa.lc Go.Proofs.Ytdfhnngcddaccaa.rx Go.Proofs.Ytdfhnngcddaccaa.aow
set_option linter.unusedVariables false
set_option linter.unusedSimpArgs false
/-- how many stand in front of the key -/
def posW (key : Int) : List E2 → Nat
  | [] => 0
  | x :: r => if x.a < key then posW key r + 1 else 0
theorem posW_is {key : Int} : ∀ (l : List E2) (k : Nat), (∀ (j : Nat) (x : E2), j < k → l[j]? = some x → decide (x.a < key) = true) → k ≤ l.length → (∀ x, l[k]? = some x → ¬ x.a < key) → posW key l = k
  | [], k, _, hk, _ => by simp at hk; subst hk; rfl
  | x :: r, 0, _, _, h3 => by
    have := h3 x (by simp)
    unfold posW
    rw [if_neg this]
  | x :: r, k + 1, h1, h2, h3 => by
    have := of_decide_eq_true (h1 0 x (by omega) (by simp))
    unfold posW
    rw [if_pos this, posW_is r k (fun j y hj hy => h1 (j + 1) y (by omega) (by simpa using hy)) (by simpa using h2) (fun y hy => h3 y (by simpa using hy))]
theorem posW_le (key : Int) : ∀ l : List E2, posW key l ≤ l.length
  | [] => Nat.le_refl _
  | x :: r => by
    unfold posW
    have := posW_le key r
    split <;> simp <;> omega
/-- the list with the write put in its place; a write of the same key that stands there goes -/
def insW (m : E2) (l : List E2) : List E2 := l.take (posW m.a l) ++ m :: (if ((l[posW m.a l]?).map (·.a)) = some m.a then l.drop (posW m.a l + 1) else l.drop (posW m.a l))
theorem insW_hit {m y : E2} {l : List E2} {k : Nat} (hk : posW m.a l = k) (hy : l[k]? = some y) (h : y.a = m.a) : insW m l = l.take k ++ m :: l.drop (k + 1) := by
  unfold insW
  rw [hk, hy, if_pos (by simp [h])]
theorem insW_miss {m y : E2} {l : List E2} {k : Nat} (hk : posW m.a l = k) (hy : l[k]? = some y) (h : y.a ≠ m.a) : insW m l = l.take k ++ m :: l.drop k := by
  unfold insW
  rw [hk, hy, if_neg (by simp [h])]
theorem insW_end {m : E2} {l : List E2} {k : Nat} (hk : posW m.a l = k) (hn : l.length ≤ k) : insW m l = l.take k ++ m :: [] := by
  unfold insW
  rw [hk, List.getElem?_eq_none hn, if_neg (by simp), List.drop_of_length_le hn]
theorem insW_len (m : E2) (l : List E2) : (insW m l).length ≤ l.length + 1 := by
  have := posW_le m.a l
  unfold insW
  split <;> simp <;> omega
theorem app_snoc (P : List E2) (m : E2) (D : List E2) : P ++ [m] ++ D = P ++ m :: D := by simp
set_option maxRecDepth 100000 in
set_option maxHeartbeats 16000000 in
theorem put_w {w : World} {B n c : Nat} {A : Option Addr} {l : List E2} (m : E2) (hn : n ≤ 1048576) (hc : n ≤ c) (hA : (A = none ∧ c = 0) ∨ ∃ b o, A = some ⟨b, o, none⟩) (h1 : Vs w B A n l) (hB : B ≤ w.heap.size) :
    Calls Try.prog 85 #[.slice A n c, .agg #[.int .i64 m.a, .int .i64 m.b]] w fun e w' => ∃ A' c', e = .returned (.slice A' (insW m l).length c') ∧ w'.ownsRow w.heap.size 81 2 (.slice A' (insW m l).length c') (insW m l).length (flat (insW m l)) ∧ Below w.heap.size w w' := by
  have H1 := Lib.hid h1
  have hln := h1.1
  have HA := Lib.hid hA
  clear h1 hA
  go_enter Try.func85, Try.ntmps85
  go_wp2_with fail
  have hb := new1 w (.cells #[.int .i64 m.a, .int .i64 m.b] 81)
  have mb := boxed w m 81
  have hs0 : w.heap.size < (w.alloc (.cells #[.int .i64 m.a, .int .i64 m.b] 81)).heap.size := by simp
  generalize w.alloc _ = W0 at hb mb hs0 ⊢
  go_loopw [5] (fun i wr => ∃ k : Nat, k ≤ n ∧ i = .int .i64 k ∧ (∀ (j : Nat) (x : E2), j < k → l[j]? = some x → decide (x.a < m.a) = true) ∧ Below w.heap.size w wr ∧ At wr w.heap.size 0 m ∧ w.heap.size < wr.heap.size) (fun i _ => n - (intOf i).toNat)
  case atStart => exact ⟨0, by omega, rfl, fun j x h => absurd h (by omega), hb, mb, hs0⟩
  case round =>
    clear hb mb hs0
    obtain ⟨k, hk, rfl, hP, hb, mb, hsz⟩ := hrel
    have HP := Lib.hid hP
    have HB := Lib.hid hb
    have MW := Lib.hid mb
    obtain ⟨m0, m1⟩ := atFlat mb
    clear hP mb
    by_cases hlt : k < n
    · obtain ⟨b, o, y, rfl, hbB, hx, a0, a1⟩ := (H1.out.below (below_le hb hB)).at_ hlt
      have HX := Lib.hid hx
      have hlt2 : (k : Int) < (n : Int) := by omega
      have tg : decide ((k : Int) < (n : Int)) = true := decide_eq_true hlt2
      clear hb hx
      by_cases hq : y.a < m.a
      · have tq : decide (y.a < m.a) = true := decide_eq_true hq
        go_wp2_with fail
        go_quiet (fail)
        go_wp2_with fail
        go_roundw
        case rel => exact ⟨k + 1, by omega, by go_num, all_step (p := fun x => decide (x.a < m.a)) HP.out HX.out tq, Off1 HB.out _, MW.out, hsz⟩
        case measure => simp [intOf]; omega
      · have tq : decide (y.a < m.a) = false := decide_eq_false hq
        have HPS : Hid (posW m.a l = k) := Lib.hid (posW_is l k HP.out (by omega) fun x hx => by rw [HX.out] at hx; injection hx with hx; subst hx; exact hq)
        go_wp2_with fail
        go_quiet (fail)
        go_wp2_with fail
        generalize hW : wr.drewN _ = W2
        have B2 : Hid (Below w.heap.size w W2) := Lib.hid (by rw [← hW]; exact Off1 HB.out _)
        have M2 : Hid (At W2 w.heap.size 0 m) := Lib.hid (by rw [← hW]; exact MW.out)
        have hs2 : w.heap.size < W2.heap.size := by rw [← hW]; exact hsz
        clear hW a0 a1 m0 m1 tq
        obtain ⟨m0, m1⟩ := atFlat M2.out
        have hkc : (k : Int) ≤ (c : Int) := by omega
        go_cut [6] from 23 to 30 (fun v wx => ∃ (A4 : Option Addr) (c4 : Nat), v = .slice A4 (k + 1) c4 ∧ wx.ownsRow w.heap.size 81 2 (.slice A4 (k + 1) c4) (k + 1) (flat (l.take k ++ [m])) ∧ Below w.heap.size w wx ∧ At wx w.heap.size 0 m)
        case first =>
          have hsA : W2.heap.size ≤ (W2.drew.alloc (.cells #[] 81)).heap.size := by simp
          have hsB : ((W2.drew.alloc (.cells #[] 81)).alloc (.cells #[.int .i64 m.a, .int .i64 m.b] 81)).heap.size = W2.heap.size + 1 + 1 := by simp
          have hsC : ((W2.drew.alloc (.cells #[.int .i64 m.a, .int .i64 m.b] 81)).alloc (.cells #[] 81)).heap.size = W2.heap.size + 1 + 1 := by simp
          have bA : Below W2.heap.size W2 (W2.drew.alloc (.cells #[] 81)) := ((Below.refl _ W2).drew).alloc (Nat.le_refl _) _
          have bB : Below W2.heap.size W2 ((W2.drew.alloc (.cells #[] 81)).alloc (.cells #[.int .i64 m.a, .int .i64 m.b] 81)) := bA.alloc (by simp) _
          have bC : Below W2.heap.size W2 ((W2.drew.alloc (.cells #[.int .i64 m.a, .int .i64 m.b] 81)).alloc (.cells #[] 81)) := (((Below.refl _ W2).drew).alloc (Nat.le_refl _) _).alloc (by simp) _
          have oA := own_empty W2.drew 81 W2.heap.size (Nat.le_refl _)
          have oB := own_keep oA (new1 (W2.drew.alloc (.cells #[] 81)) (.cells #[.int .i64 m.a, .int .i64 m.b] 81))
          have oC := own_empty (W2.drew.alloc (.cells #[.int .i64 m.a, .int .i64 m.b] 81)) 81 W2.heap.size (by simp)
          have mB := boxed (W2.drew.alloc (.cells #[] 81)) m 81
          have mC := (boxed W2.drew m 81).keep (B := W2.heap.size + 1) (Nat.lt_succ_self _) (below_le (new1 (W2.drew.alloc (.cells #[.int .i64 m.a, .int .i64 m.b] 81)) (.cells #[] 81)) (by simp))
          rw [show (W2.drew.alloc (.cells #[] 81)).heap.size = W2.heap.size + 1 by simp] at mB
          rw [show (W2.drew.alloc (.cells #[.int .i64 m.a, .int .i64 m.b] 81)).heap.size = W2.heap.size + 1 by simp] at oC
          have vP := Vs.take (k := k) (H1.out.below (below_le B2.out hB)) (by omega)
          obtain ⟨a3, e3, x3, a4, e4, x4, rA3, rA4, OA, BA, BA3⟩ := run2' (c1 := c) _ m oA (vP.below (below_le bA (by omega))) (by omega) hsA
          obtain ⟨b3, f3, y3, b4, f4, y4, rB3, rB4, OB, BB⟩ := run2 (c1 := c) _ oB mB (by omega) (show W2.heap.size + 1 ≠ W2.heap.size by omega) (vP.below (below_le bB (by omega))) (by omega) (by omega)
          obtain ⟨d3, g3, z3, d4, g4, z4, rC3, rC4, OC, BC⟩ := run2 (c1 := c) _ oC mC (show W2.heap.size < _ by omega) (show W2.heap.size ≠ W2.heap.size + 1 by omega) (vP.below (below_le bC (by omega))) (by omega) (by omega)
          have FA := Lib.hid (And.intro (own_more OA (show w.heap.size ≤ W2.heap.size by omega)) (And.intro (B2.out.trans ((bA.trans BA).mono (by omega))) (M2.out.keep hs2 (bA.trans BA))))
          have FB := Lib.hid (And.intro (own_more OB (show w.heap.size ≤ W2.heap.size by omega)) (And.intro (B2.out.trans ((bB.trans BB).mono (by omega))) (M2.out.keep hs2 (bB.trans BB))))
          have FC := Lib.hid (And.intro (own_more OC (show w.heap.size ≤ W2.heap.size by omega)) (And.intro (B2.out.trans ((bC.trans BC).mono (by omega))) (M2.out.keep hs2 (bC.trans BC))))
          have X3 := bA.trans (BA3.mono (Nat.le_refl _))
          obtain ⟨n0, n1⟩ := atFlat (M2.out.keep hs2 X3)
          clear X3 BA3 OA OB OC BA BB BC oA oB oC mB mC vP bA bB bC hsA hsB hsC
          go_region_law (first | (refine step_append_run rfl (.tmp 23) (.tmp 26) 28 28 rfl _ _ (by simp [Act.eval, Act.put]) (by simp [Act.eval, Act.put]) rA3 ?_) | (refine step_append_run rfl (.tmp 23) (.tmp 26) 28 28 rfl _ _ (by simp [Act.eval, Act.put]) (by simp [Act.eval, Act.put]) rB3 ?_) | (refine step_append_run rfl (.tmp 23) (.tmp 26) 28 28 rfl _ _ (by simp [Act.eval, Act.put]) (by simp [Act.eval, Act.put]) rC3 ?_) | (refine step_append_run rfl (.tmp 27) (.tmp 29) 28 28 rfl _ _ (by simp [Act.eval, Act.put]) (by simp [Act.eval, Act.put]) rA4 ?_) | (refine step_append_run rfl (.tmp 27) (.tmp 29) 28 28 rfl _ _ (by simp [Act.eval, Act.put]) (by simp [Act.eval, Act.put]) rB4 ?_) | (refine step_append_run rfl (.tmp 27) (.tmp 29) 28 28 rfl _ _ (by simp [Act.eval, Act.put]) (by simp [Act.eval, Act.put]) rC4 ?_))
          all_goals go_wp2_with fail
          all_goals go_meet
          all_goals (first | exact ⟨_, _, rfl, FA.out⟩ | exact ⟨_, _, rfl, FB.out⟩ | exact ⟨_, _, rfl, FC.out⟩)
        case rest =>
          clear m0 m1
          obtain ⟨A4, c4, rfl, ho, hb, hm⟩ := hcut
          obtain ⟨m0, m1⟩ := atFlat hm
          have hvb := H1.out.below (below_le hb hB)
          obtain ⟨b', o', y', e, _, hx, a0, a1⟩ := hvb.at_ hlt
          rw [HX.out] at hx
          injection hx with hx
          injection e with e
          injection e with e1 e2
          subst hx e1 e2
          have HO := Lib.hid ho
          have HBB := Lib.hid hb
          clear ho hb hm hvb
          by_cases hya : y.a = m.a
          · have ty : (y.a == m.a) = true := by simpa using hya
            have HI2 := Lib.hid (insW_hit HPS.out HX.out hya)
            clear hya
            go_wp2_with fail
            go_quiet (fail)
            generalize hW : wc.drewN _ = W3
            have O3 : Hid (W3.ownsRow w.heap.size 81 2 (.slice A4 (k + 1) c4) (k + 1) (flat (l.take k ++ [m]))) := Lib.hid (by rw [← hW]; exact HO.out)
            have B3 : Hid (Below w.heap.size w W3) := Lib.hid (by rw [← hW]; exact Off1 HBB.out _)
            clear hW a0 a1 m0 m1 ty
            have hk1 : (k : Int) + 1 ≤ (n : Int) := by omega
            have hk2 : (n : Int) ≤ (c : Int) := by omega
            have hk0 : (0 : Int) ≤ (k : Int) + 1 := by omega
            have hkt : ((k : Int) + 1).toNat = k + 1 := by omega
            have HLN : Hid ((insW m l).length = k + 1 + (n - (k + 1))) := Lib.hid (by rw [HI2.out, List.length_append, List.length_cons, List.length_take, List.length_drop]; omega)
            by_cases hck : c = k + 1
            · obtain rfl : n = k + 1 := by omega
              have hd0 : Hid (l.drop (k + 1) = []) := Lib.hid (List.drop_of_length_le (by omega))
              obtain ⟨A5, c5, W5, hr, ho5, _, hb5⟩ := app_own (c := c - (k + 1)) W3 O3.out (Vs.nil_ W3 B (some ⟨b, o, none⟩)) (by omega) (B3.out.size)
              have FO := Lib.hid ho5
              have FB := Lib.hid (B3.out.trans hb5)
              clear ho5 hb5
              go_wp2_with (at_builtin; refine Lib.wpList_append_run _ rfl _ _ 28 28 rfl _ _ rfl rfl _ _ hr ?_)
              go_ret
              rw [HLN.out, HI2.out, hd0.out, Nat.sub_self]
              exact ⟨_, _, rfl, by have := FO.out; rw [app_snoc] at this; exact this, FB.out⟩
            · have vD := Vs.drop (k := k + 1) (H1.out.below (below_le B3.out hB)) (by omega)
              obtain ⟨A5, c5, W5, hr, ho5, _, hb5⟩ := app_own (c := c - (k + 1)) W3 O3.out vD (by omega) (B3.out.size)
              have FO := Lib.hid ho5
              have FB := Lib.hid (B3.out.trans hb5)
              clear ho5 hb5 vD
              go_wp2_with (at_builtin; refine Lib.wpList_append_run _ rfl _ _ 28 28 rfl _ _ rfl rfl _ _ hr ?_)
              go_ret
              rw [HLN.out, HI2.out]
              exact ⟨_, _, rfl, by have := FO.out; rw [app_snoc] at this; exact this, FB.out⟩
          · have ty : (y.a == m.a) = false := by simpa using hya
            have HI2 := Lib.hid (insW_miss HPS.out HX.out hya)
            clear hya
            go_wp2_with fail
            go_quiet (fail)
            generalize hW : wc.drewN _ = W3
            have O3 : Hid (W3.ownsRow w.heap.size 81 2 (.slice A4 (k + 1) c4) (k + 1) (flat (l.take k ++ [m]))) := Lib.hid (by rw [← hW]; exact HO.out)
            have B3 : Hid (Below w.heap.size w W3) := Lib.hid (by rw [← hW]; exact Off1 HBB.out _)
            clear hW a0 a1 m0 m1 ty
            have hk1 : (k : Int) ≤ (n : Int) := by omega
            have hk2 : (n : Int) ≤ (c : Int) := by omega
            have hck : ¬ c = k := by omega
            have HLN : Hid ((insW m l).length = k + 1 + (n - k)) := Lib.hid (by rw [HI2.out, List.length_append, List.length_cons, List.length_take, List.length_drop]; omega)
            have vD := Vs.drop (k := k) (H1.out.below (below_le B3.out hB)) (by omega)
            obtain ⟨A5, c5, W5, hr, ho5, _, hb5⟩ := app_own (c := c - k) W3 O3.out vD (by omega) (B3.out.size)
            have FO := Lib.hid ho5
            have FB := Lib.hid (B3.out.trans hb5)
            clear ho5 hb5 vD
            go_wp2_with (at_builtin; refine Lib.wpList_append_run _ rfl _ _ 28 28 rfl _ _ rfl rfl _ _ hr ?_)
            go_ret
            rw [HLN.out, HI2.out]
            exact ⟨_, _, rfl, by have := FO.out; rw [app_snoc] at this; exact this, FB.out⟩
    · obtain rfl : n = k := by omega
      have tg : decide ((n : Int) < (n : Int)) = false := decide_eq_false (by omega)
      have HPS : Hid (posW m.a l = n) := Lib.hid (posW_is l n HP.out (by omega) fun x hx => by rw [List.getElem?_eq_none (by omega)] at hx; cases hx)
      have HI2 := Lib.hid (insW_end HPS.out (by omega))
      have HLN : Hid ((insW m l).length = n + 1 + 0) := Lib.hid (by rw [HI2.out, List.length_append, List.length_cons, List.length_nil, List.length_take]; omega)
      clear hb
      go_wp2_with fail
      go_quiet (fail)
      go_wp2_with fail
      generalize hW : wr.drewN _ = W2
      have B2 : Hid (Below w.heap.size w W2) := Lib.hid (by rw [← hW]; exact Off1 HB.out _)
      have M2 : Hid (At W2 w.heap.size 0 m) := Lib.hid (by rw [← hW]; exact MW.out)
      have hs2 : w.heap.size < W2.heap.size := by rw [← hW]; exact hsz
      clear hW m0 m1
      obtain ⟨m0, m1⟩ := atFlat M2.out
      have hkc : (n : Int) ≤ (c : Int) := by omega
      rcases HA.out with ⟨rfl, hc0⟩ | ⟨ab, ao, rfl⟩
      · subst hc0
        obtain rfl : n = 0 := by omega
        go_cut [6] from 23 to 30 (fun v wx => ∃ (A4 : Option Addr) (c4 : Nat), v = .slice A4 (0 + 1) c4 ∧ wx.ownsRow w.heap.size 81 2 (.slice A4 (0 + 1) c4) (0 + 1) (flat (l.take 0 ++ [m])) ∧ Below w.heap.size w wx ∧ At wx w.heap.size 0 m)
        case first =>
          have hsA : W2.heap.size ≤ (W2.drew.alloc (.cells #[] 81)).heap.size := by simp
          have hsB : ((W2.drew.alloc (.cells #[] 81)).alloc (.cells #[.int .i64 m.a, .int .i64 m.b] 81)).heap.size = W2.heap.size + 1 + 1 := by simp
          have hsC : ((W2.drew.alloc (.cells #[.int .i64 m.a, .int .i64 m.b] 81)).alloc (.cells #[] 81)).heap.size = W2.heap.size + 1 + 1 := by simp
          have bA : Below W2.heap.size W2 (W2.drew.alloc (.cells #[] 81)) := ((Below.refl _ W2).drew).alloc (Nat.le_refl _) _
          have bB : Below W2.heap.size W2 ((W2.drew.alloc (.cells #[] 81)).alloc (.cells #[.int .i64 m.a, .int .i64 m.b] 81)) := bA.alloc (by simp) _
          have bC : Below W2.heap.size W2 ((W2.drew.alloc (.cells #[.int .i64 m.a, .int .i64 m.b] 81)).alloc (.cells #[] 81)) := (((Below.refl _ W2).drew).alloc (Nat.le_refl _) _).alloc (by simp) _
          have oA := own_empty W2.drew 81 W2.heap.size (Nat.le_refl _)
          have oB := own_keep oA (new1 (W2.drew.alloc (.cells #[] 81)) (.cells #[.int .i64 m.a, .int .i64 m.b] 81))
          have oC := own_empty (W2.drew.alloc (.cells #[.int .i64 m.a, .int .i64 m.b] 81)) 81 W2.heap.size (by simp)
          have mB := boxed (W2.drew.alloc (.cells #[] 81)) m 81
          have mC := (boxed W2.drew m 81).keep (B := W2.heap.size + 1) (Nat.lt_succ_self _) (below_le (new1 (W2.drew.alloc (.cells #[.int .i64 m.a, .int .i64 m.b] 81)) (.cells #[] 81)) (by simp))
          rw [show (W2.drew.alloc (.cells #[] 81)).heap.size = W2.heap.size + 1 by simp] at mB
          rw [show (W2.drew.alloc (.cells #[.int .i64 m.a, .int .i64 m.b] 81)).heap.size = W2.heap.size + 1 by simp] at oC
          have vP := Vs.take (k := 0) (H1.out.below (below_le B2.out hB)) (by omega)
          obtain ⟨a3, e3, x3, a4, e4, x4, rA3, rA4, OA, BA, BA3⟩ := run2' (c1 := 0) _ m oA (vP.below (below_le bA (by omega))) (by omega) hsA
          obtain ⟨b3, f3, y3, b4, f4, y4, rB3, rB4, OB, BB⟩ := run2 (c1 := 0) _ oB mB (by omega) (show W2.heap.size + 1 ≠ W2.heap.size by omega) (vP.below (below_le bB (by omega))) (by omega) (by omega)
          obtain ⟨d3, g3, z3, d4, g4, z4, rC3, rC4, OC, BC⟩ := run2 (c1 := 0) _ oC mC (show W2.heap.size < _ by omega) (show W2.heap.size ≠ W2.heap.size + 1 by omega) (vP.below (below_le bC (by omega))) (by omega) (by omega)
          have FA := Lib.hid (And.intro (own_more OA (show w.heap.size ≤ W2.heap.size by omega)) (And.intro (B2.out.trans ((bA.trans BA).mono (by omega))) (M2.out.keep hs2 (bA.trans BA))))
          have FB := Lib.hid (And.intro (own_more OB (show w.heap.size ≤ W2.heap.size by omega)) (And.intro (B2.out.trans ((bB.trans BB).mono (by omega))) (M2.out.keep hs2 (bB.trans BB))))
          have FC := Lib.hid (And.intro (own_more OC (show w.heap.size ≤ W2.heap.size by omega)) (And.intro (B2.out.trans ((bC.trans BC).mono (by omega))) (M2.out.keep hs2 (bC.trans BC))))
          have X3 := bA.trans (BA3.mono (Nat.le_refl _))
          obtain ⟨n0, n1⟩ := atFlat (M2.out.keep hs2 X3)
          clear X3 BA3 OA OB OC BA BB BC oA oB oC mB mC vP bA bB bC hsA hsB hsC
          go_region_law (first | (refine step_append_run rfl (.tmp 23) (.tmp 26) 28 28 rfl _ _ (by simp [Act.eval, Act.put]) (by simp [Act.eval, Act.put]) rA3 ?_) | (refine step_append_run rfl (.tmp 23) (.tmp 26) 28 28 rfl _ _ (by simp [Act.eval, Act.put]) (by simp [Act.eval, Act.put]) rB3 ?_) | (refine step_append_run rfl (.tmp 23) (.tmp 26) 28 28 rfl _ _ (by simp [Act.eval, Act.put]) (by simp [Act.eval, Act.put]) rC3 ?_) | (refine step_append_run rfl (.tmp 27) (.tmp 29) 28 28 rfl _ _ (by simp [Act.eval, Act.put]) (by simp [Act.eval, Act.put]) rA4 ?_) | (refine step_append_run rfl (.tmp 27) (.tmp 29) 28 28 rfl _ _ (by simp [Act.eval, Act.put]) (by simp [Act.eval, Act.put]) rB4 ?_) | (refine step_append_run rfl (.tmp 27) (.tmp 29) 28 28 rfl _ _ (by simp [Act.eval, Act.put]) (by simp [Act.eval, Act.put]) rC4 ?_))
          all_goals go_wp2_with fail
          all_goals go_meet
          all_goals (first | exact ⟨_, _, rfl, FA.out⟩ | exact ⟨_, _, rfl, FB.out⟩ | exact ⟨_, _, rfl, FC.out⟩)
        case rest =>
          clear m0 m1
          obtain ⟨A4, c4, rfl, ho, hb, hm⟩ := hcut
          obtain ⟨m0, m1⟩ := atFlat hm
          have HO := Lib.hid ho
          have HBB := Lib.hid hb
          clear ho hb hm
          go_wp2_with fail
          go_quiet (fail)
          generalize hW : wc.drewN _ = W3
          have O3 : Hid (W3.ownsRow w.heap.size 81 2 (.slice A4 (0 + 1) c4) (0 + 1) (flat (l.take 0 ++ [m]))) := Lib.hid (by rw [← hW]; exact HO.out)
          have B3 : Hid (Below w.heap.size w W3) := Lib.hid (by rw [← hW]; exact Off1 HBB.out _)
          clear hW m0 m1
          obtain ⟨A5, c5, W5, hr, ho5, _, hb5⟩ := app_own (c := 0) W3 O3.out (Vs.nil_ W3 B (none)) (by omega) (B3.out.size)
          have FO := Lib.hid ho5
          have FB := Lib.hid (B3.out.trans hb5)
          clear ho5 hb5
          go_wp2_with (at_builtin; refine Lib.wpList_append_run _ rfl _ _ 28 28 rfl _ _ rfl rfl _ _ hr ?_)
          go_ret
          rw [HLN.out, HI2.out]
          exact ⟨_, _, rfl, by have := FO.out; rw [app_snoc] at this; exact this, FB.out⟩
      · have hnn : (n : Int) ≤ (n : Int) := Int.le_refl _
        go_cut [6] from 23 to 30 (fun v wx => ∃ (A4 : Option Addr) (c4 : Nat), v = .slice A4 (n + 1) c4 ∧ wx.ownsRow w.heap.size 81 2 (.slice A4 (n + 1) c4) (n + 1) (flat (l.take n ++ [m])) ∧ Below w.heap.size w wx ∧ At wx w.heap.size 0 m)
        case first =>
          have hsA : W2.heap.size ≤ (W2.drew.alloc (.cells #[] 81)).heap.size := by simp
          have hsB : ((W2.drew.alloc (.cells #[] 81)).alloc (.cells #[.int .i64 m.a, .int .i64 m.b] 81)).heap.size = W2.heap.size + 1 + 1 := by simp
          have hsC : ((W2.drew.alloc (.cells #[.int .i64 m.a, .int .i64 m.b] 81)).alloc (.cells #[] 81)).heap.size = W2.heap.size + 1 + 1 := by simp
          have bA : Below W2.heap.size W2 (W2.drew.alloc (.cells #[] 81)) := ((Below.refl _ W2).drew).alloc (Nat.le_refl _) _
          have bB : Below W2.heap.size W2 ((W2.drew.alloc (.cells #[] 81)).alloc (.cells #[.int .i64 m.a, .int .i64 m.b] 81)) := bA.alloc (by simp) _
          have bC : Below W2.heap.size W2 ((W2.drew.alloc (.cells #[.int .i64 m.a, .int .i64 m.b] 81)).alloc (.cells #[] 81)) := (((Below.refl _ W2).drew).alloc (Nat.le_refl _) _).alloc (by simp) _
          have oA := own_empty W2.drew 81 W2.heap.size (Nat.le_refl _)
          have oB := own_keep oA (new1 (W2.drew.alloc (.cells #[] 81)) (.cells #[.int .i64 m.a, .int .i64 m.b] 81))
          have oC := own_empty (W2.drew.alloc (.cells #[.int .i64 m.a, .int .i64 m.b] 81)) 81 W2.heap.size (by simp)
          have mB := boxed (W2.drew.alloc (.cells #[] 81)) m 81
          have mC := (boxed W2.drew m 81).keep (B := W2.heap.size + 1) (Nat.lt_succ_self _) (below_le (new1 (W2.drew.alloc (.cells #[.int .i64 m.a, .int .i64 m.b] 81)) (.cells #[] 81)) (by simp))
          rw [show (W2.drew.alloc (.cells #[] 81)).heap.size = W2.heap.size + 1 by simp] at mB
          rw [show (W2.drew.alloc (.cells #[.int .i64 m.a, .int .i64 m.b] 81)).heap.size = W2.heap.size + 1 by simp] at oC
          have vP := Vs.take (k := n) (H1.out.below (below_le B2.out hB)) (by omega)
          obtain ⟨a3, e3, x3, a4, e4, x4, rA3, rA4, OA, BA, BA3⟩ := run2' (c1 := c) _ m oA (vP.below (below_le bA (by omega))) (by omega) hsA
          obtain ⟨b3, f3, y3, b4, f4, y4, rB3, rB4, OB, BB⟩ := run2 (c1 := c) _ oB mB (by omega) (show W2.heap.size + 1 ≠ W2.heap.size by omega) (vP.below (below_le bB (by omega))) (by omega) (by omega)
          obtain ⟨d3, g3, z3, d4, g4, z4, rC3, rC4, OC, BC⟩ := run2 (c1 := c) _ oC mC (show W2.heap.size < _ by omega) (show W2.heap.size ≠ W2.heap.size + 1 by omega) (vP.below (below_le bC (by omega))) (by omega) (by omega)
          have FA := Lib.hid (And.intro (own_more OA (show w.heap.size ≤ W2.heap.size by omega)) (And.intro (B2.out.trans ((bA.trans BA).mono (by omega))) (M2.out.keep hs2 (bA.trans BA))))
          have FB := Lib.hid (And.intro (own_more OB (show w.heap.size ≤ W2.heap.size by omega)) (And.intro (B2.out.trans ((bB.trans BB).mono (by omega))) (M2.out.keep hs2 (bB.trans BB))))
          have FC := Lib.hid (And.intro (own_more OC (show w.heap.size ≤ W2.heap.size by omega)) (And.intro (B2.out.trans ((bC.trans BC).mono (by omega))) (M2.out.keep hs2 (bC.trans BC))))
          have X3 := bA.trans (BA3.mono (Nat.le_refl _))
          obtain ⟨n0, n1⟩ := atFlat (M2.out.keep hs2 X3)
          clear X3 BA3 OA OB OC BA BB BC oA oB oC mB mC vP bA bB bC hsA hsB hsC
          go_region_law (first | (refine step_append_run rfl (.tmp 23) (.tmp 26) 28 28 rfl _ _ (by simp [Act.eval, Act.put]) (by simp [Act.eval, Act.put]) rA3 ?_) | (refine step_append_run rfl (.tmp 23) (.tmp 26) 28 28 rfl _ _ (by simp [Act.eval, Act.put]) (by simp [Act.eval, Act.put]) rB3 ?_) | (refine step_append_run rfl (.tmp 23) (.tmp 26) 28 28 rfl _ _ (by simp [Act.eval, Act.put]) (by simp [Act.eval, Act.put]) rC3 ?_) | (refine step_append_run rfl (.tmp 27) (.tmp 29) 28 28 rfl _ _ (by simp [Act.eval, Act.put]) (by simp [Act.eval, Act.put]) rA4 ?_) | (refine step_append_run rfl (.tmp 27) (.tmp 29) 28 28 rfl _ _ (by simp [Act.eval, Act.put]) (by simp [Act.eval, Act.put]) rB4 ?_) | (refine step_append_run rfl (.tmp 27) (.tmp 29) 28 28 rfl _ _ (by simp [Act.eval, Act.put]) (by simp [Act.eval, Act.put]) rC4 ?_))
          all_goals go_wp2_with fail
          all_goals go_meet
          all_goals (first | exact ⟨_, _, rfl, FA.out⟩ | exact ⟨_, _, rfl, FB.out⟩ | exact ⟨_, _, rfl, FC.out⟩)
        case rest =>
          clear m0 m1
          obtain ⟨A4, c4, rfl, ho, hb, hm⟩ := hcut
          obtain ⟨m0, m1⟩ := atFlat hm
          have HO := Lib.hid ho
          have HBB := Lib.hid hb
          clear ho hb hm
          go_wp2_with fail
          go_quiet (fail)
          generalize hW : wc.drewN _ = W3
          have O3 : Hid (W3.ownsRow w.heap.size 81 2 (.slice A4 (n + 1) c4) (n + 1) (flat (l.take n ++ [m]))) := Lib.hid (by rw [← hW]; exact HO.out)
          have B3 : Hid (Below w.heap.size w W3) := Lib.hid (by rw [← hW]; exact Off1 HBB.out _)
          clear hW m0 m1
          by_cases hcn : c = n
          · subst hcn
            obtain ⟨A5, c5, W5, hr, ho5, _, hb5⟩ := app_own (c := 0) W3 O3.out (Vs.nil_ W3 B (some ⟨ab, ao, none⟩)) (by omega) (B3.out.size)
            have FO := Lib.hid ho5
            have FB := Lib.hid (B3.out.trans hb5)
            clear ho5 hb5
            go_wp2_with (at_builtin; refine Lib.wpList_append_run _ rfl _ _ 28 28 rfl _ _ rfl rfl _ _ hr ?_)
            go_ret
            rw [HLN.out, HI2.out]
            exact ⟨_, _, rfl, by have := FO.out; rw [app_snoc] at this; exact this, FB.out⟩
          · have hcn2 : ¬ c = n := hcn
            obtain ⟨A5, c5, W5, hr, ho5, _, hb5⟩ := app_own (c := c - n) W3 O3.out (Vs.nil_ W3 B (some ⟨ab, ao + n * 2, none⟩)) (by omega) (B3.out.size)
            have FO := Lib.hid ho5
            have FB := Lib.hid (B3.out.trans hb5)
            clear ho5 hb5
            go_wp2_with (at_builtin; refine Lib.wpList_append_run _ rfl _ _ 28 28 rfl _ _ rfl rfl _ _ hr ?_)
            go_ret
            rw [HLN.out, HI2.out]
            exact ⟨_, _, rfl, by have := FO.out; rw [app_snoc] at this; exact this, FB.out⟩
end Go.Proofs.Ytdfhnngcddaccaa.pw
