/- WriteKeys of the program and of the model: what each answers, in memory of its own. -/
import Derived.Test.YtajllccgfhminaaOwi
import Derived.Test.YtajllccgfhminaaRx
import Derived.Test.YtajllccgfhminaaBx
import Derived.Test.YtajllccgfhminaaCl
namespace Go.Proofs.Ytajllccgfhminaa.wk
open Go.ChangeShapes Go.WideShapes Go.ChangeAt Go.RowKit
open Go.Proofs.Ytajllccgfhminaa.el2 Go.Proofs.Ytajllccgfhminaa.tx Go.Proofs.Ytajllccgfhminaa.seq Go.Proofs.Ytajllccgfhminaa.tv Go.Proofs.Ytajllccgfhminaa.tf Go.Proofs.Ytajllccgfhminaa.bx Go.Proofs.Ytajllccgfhminaa.owi
set_option linter.unusedVariables false
set_option linter.unusedSimpArgs false
noncomputable def wkL (x : Hd) (R S : List E2) : List Int := if txB x R S = true then S.map (·.a) else []
theorem wkL_len (x : Hd) (R S : List E2) : (wkL x R S).length ≤ S.length := by unfold wkL; split <;> simp
theorem wk_yes {x : Hd} {R S : List E2} (h : txB x R S = true) : wkL x R S = S.map (·.a) := by simp [wkL, h]
theorem wk_no {x : Hd} {R S : List E2} (h : txB x R S = false) : wkL x R S = [] := by simp [wkL, h]
theorem ks_step {S : List E2} {k : Nat} {y : E2} (hx : S[k]? = some y) : (S.take k).map (·.a) ++ [y.a] = (S.take (k + 1)).map (·.a) := by
  rw [List.take_add_one, hx]; simp
theorem ks_len {S : List E2} {k : Nat} (h : k ≤ S.length) : ((S.take k).map (·.a)).length = k := by simp [List.length_take]; omega
theorem ks_end {x : Hd} {R S : List E2} {n : Nat} (hn : S.length = n) (hk : 0 < n → txB x R S = true) : (S.take n).map (·.a) = wkL x R S := by
  rcases Nat.eq_zero_or_pos n with h0 | h0
  · subst h0
    obtain rfl : S = [] := List.eq_nil_of_length_eq_zero hn
    simp [wkL]
  · rw [wk_yes (hk h0), List.take_of_length_le (by omega)]
theorem ks_no {x : Hd} {R S : List E2} {k : Nat} (h : txB x R S = false) (hk : 0 < k → txB x R S = true) : (S.take k).map (·.a) = wkL x R S := by
  rcases Nat.eq_zero_or_pos k with h0 | h0
  · subst h0; rw [wk_no h]; simp
  · rw [hk h0] at h; cases h
theorem own_made0 (W : World) (base : Nat) (hb : base ≤ W.heap.size) : (W.alloc (.cells #[] 3)).ownsRow base 3 1 (.slice (some ⟨W.heap.size, 0, none⟩) 0 0) 0 (mi []) :=
  ⟨rfl, .inr ⟨W.heap.size, 0, #[], rfl, hb, heap_alloc_new W _, Nat.le_refl _, by unfold maxLen; omega, rfl, rfl⟩⟩
/-- what the walk goes on with -/
def WL (w : World) (x : Hd) (u v : Value) (W : World) : Prop := Below w.heap.size w W ∧ w.heap.size < W.heap.size ∧ TB W w.heap.size x u v
theorem WL.call {w W W' : World} {x : Hd} {u v : Value} (h : WL w x u v W) (hb : Below W.heap.size W W') : WL w x u v W' := ⟨h.1.trans (hb.mono h.1.size), Nat.lt_of_lt_of_le h.2.1 hb.size, h.2.2.keep h.2.1 hb⟩
theorem WL.grown {w W W' : World} {x : Hd} {u v : Value} (h : WL w x u v W) (hb : Below (w.heap.size + 1) W W') : WL w x u v W' := ⟨h.1.trans (hb.mono (by omega)), Nat.lt_of_lt_of_le h.2.1 hb.size, h.2.2.keep (Nat.lt_succ_self _) hb⟩
theorem grown_i {w w' : World} {base n : Nat} {v : Value} {xs : List Value} (ho : w.ownsRow base 3 1 v n xs) (hg : w.grownBy w' v.ownBlock) (hb : base ≤ w.heap.size) : Below base w w' :=
  (Below.refl _ _).grown hg hb fun q hq => (ho.lt q hq).1
set_option maxRecDepth 100000 in
set_option maxHeartbeats 3200000 in
theorem spec_wk {w : World} {B n c n2 c2 : Nat} {A A2 : Option Addr} {R S : List E2} (x : Hd) (hn : n ≤ 2097152) (hn2 : n2 ≤ 2097152) (h1 : Vs w B A n R) (h2 : Vs w B A2 n2 S) (hB : B ≤ w.heap.size) :
    Calls Try.prog 30 #[.agg #[.int .i64 x.i, .int .i64 x.s, .int .i64 x.t, .int .i64 x.b, .int .i64 x.l, .int .i64 x.h, .int .i64 x.c, .slice A n c, .slice A2 n2 c2]] w fun e w' => ∃ A' c', e = .returned (.slice A' (wkL x R S).length c') ∧ w'.ownsRow w.heap.size 3 1 (.slice A' (wkL x R S).length c') (wkL x R S).length (mi (wkL x R S)) ∧ Below w.heap.size w w' := by
  have H1 := Lib.hid h1
  have H2 := Lib.hid h2
  have hln := h2.1
  obtain ⟨i0, hi, hz, hs, hby⟩ := info_parts info_i
  have HI := Lib.hid hi
  have HZ := Lib.hid hz
  have HS := Lib.hid hs
  have HBY := Lib.hid hby
  clear h1 h2 hi hz hs hby
  go_enter Try.func30, Try.ntmps30
  go_wp2_with fail
  have hL : WL w x (.slice A n c) (.slice A2 n2 c2) (w.alloc (.cells #[.int .i64 x.i, .int .i64 x.s, .int .i64 x.t, .int .i64 x.b, .int .i64 x.l, .int .i64 x.h, .int .i64 x.c, .slice A n c, .slice A2 n2 c2] 27)) := ⟨new1 w _, by simp, TB.new w x A n c A2 n2 c2 27⟩
  have hs0 : (w.alloc (.cells #[.int .i64 x.i, .int .i64 x.s, .int .i64 x.t, .int .i64 x.b, .int .i64 x.l, .int .i64 x.h, .int .i64 x.c, .slice A n c, .slice A2 n2 c2] 27)).heap.size = w.heap.size + 1 := by simp
  have hE := own_made0 (w.alloc (.cells #[.int .i64 x.i, .int .i64 x.s, .int .i64 x.t, .int .i64 x.b, .int .i64 x.l, .int .i64 x.h, .int .i64 x.c, .slice A n c, .slice A2 n2 c2] 27)) (w.heap.size + 1) (by omega)
  have hL1 := hL.call (new1 _ (.cells #[] 3))
  rw [hs0] at hE
  generalize (w.alloc _).alloc _ = W1 at hE hL1 ⊢
  have L1 := Lib.hid hL1
  have E1 := Lib.hid hE
  clear hL hL1 hE hs0
  try go_wp2_with fail
  go_loopw [3, 4] (fun o i wr => ∃ (k c' : Nat) (A' : Option Addr), k ≤ n2 ∧ i = .int .i64 k ∧ o = .slice A' k c' ∧ wr.ownsRow (w.heap.size + 1) 3 1 (.slice A' k c') k (mi ((S.take k).map (·.a))) ∧ (0 < k → txB x R S = true) ∧ WL w x (.slice A n c) (.slice A2 n2 c2) wr) (fun _ i _ => n2 - (intOf i).toNat)
  case atStart => exact ⟨0, 0, _, by omega, rfl, rfl, by simpa using E1.out, fun h => absurd h (by omega), L1.out⟩
  case round =>
    obtain ⟨k, c', A', hk, rfl, rfl, hO, hP, hL⟩ := hrel
    have OW := Lib.hid hO
    have HP := Lib.hid hP
    have LW := Lib.hid hL
    have hsz := hL.2.1
    obtain ⟨t0, t1, t2, t3, t4, t5, t6, t7, t8⟩ := hL.2.2
    clear hO hP hL
    by_cases hlt : k < n2
    · have t : decide (k < n2) = true := decide_eq_true hlt
      go_wp2_with fail
      refine (Go.Proofs.Ytajllccgfhminaa.tvs.spec_tx x (by omega) (by omega) (H1.out.below (below_le LW.out.1 hB)) (H2.out.below (below_le LW.out.1 hB)) (by omega)).mono ?_
      rintro e W2 ⟨rfl, hb⟩
      have L2 := Lib.hid (LW.out.call hb)
      have O2 := Lib.hid (own_keep OW.out hb)
      clear hb t0 t1 t2 t3 t4 t5 t6 t7 t8
      rcases hrx : txB x R S with _ | _
      · have HE : Hid ((S.take k).map (·.a) = wkL x R S) := Lib.hid (ks_no hrx HP.out)
        have HM : Hid ((wkL x R S).length = k) := Lib.hid (by rw [← HE.out]; exact ks_len (by omega))
        clear hrx
        go_wp2_with fail
        go_ret
        rw [HM.out, ← HE.out]
        exact ⟨_, _, rfl, own_more O2.out (by omega), L2.out.1⟩
      have HRX := Lib.hid hrx
      clear hrx
      obtain ⟨t0, t1, t2, t3, t4, t5, t6, t7, t8⟩ := L2.out.2.2
      clear t0 t1 t2 t3 t4 t5 t6 t7
      obtain ⟨b, o, y, rfl, hbB, hx, a0, a1⟩ := (H2.out.below (below_le L2.out.1 hB)).at_ hlt
      have HX := Lib.hid hx
      have hs2 := L2.out.2.1
      have hn1 := new1 W2 (.cells #[.int .i64 y.a] 3)
      have hO3 := own_keep O2.out hn1
      have hone : (W2.alloc (.cells #[.int .i64 y.a] 3)).cell? ⟨W2.heap.size, 0, none⟩ = some (.int .i64 y.a) := World.cell?_alloc_mark W2 _ 3 _ 0
      obtain ⟨v', w4, hr, ho4, hg4⟩ := run_append_i (P := Try.prog) (W2.alloc (.cells #[.int .i64 y.a] 3)) 50 50 3 i0 _ Try.underlying50 HI.out HZ.out HS.out HBY.out rfl hO3 hone (c := 1) (by omega) (by simp; omega)
      have hb4 : Below (w.heap.size + 1) W2 w4 := (hn1.mono (by omega)).trans (grown_i hO3 hg4 (by simp; omega))
      rw [ks_step hx] at ho4
      obtain ⟨A4, c4, rfl⟩ := own_form ho4
      have O4 := Lib.hid ho4
      have L4 := Lib.hid (L2.out.grown hb4)
      clear hO3 hone hn1 ho4 hg4 hb4 hx hs2 a1
      go_wp2_with (at_builtin; refine Lib.wpList_append_run _ rfl _ _ 50 50 rfl _ _ rfl rfl _ _ hr ?_)
      go_roundw
      case rel => exact ⟨k + 1, c4, A4, by omega, by go_num, rfl, O4.out, fun _ => HRX.out, L4.out⟩
      case measure => simp [intOf]; omega
    · obtain rfl : n2 = k := by omega
      have HE : Hid ((S.take n2).map (·.a) = wkL x R S) := Lib.hid (ks_end hln HP.out)
      have HM : Hid ((wkL x R S).length = n2) := Lib.hid (by rw [← HE.out]; exact ks_len (by omega))
      clear t0 t1 t2 t3 t4 t5 t6 t7
      go_wp2_with fail
      go_ret
      rw [HM.out, ← HE.out]
      exact ⟨_, _, rfl, own_more OW.out (by omega), LW.out.1⟩
set_option maxRecDepth 100000 in
set_option maxHeartbeats 3200000 in
theorem impl_wk {w : World} {B n c n2 c2 : Nat} {A A2 : Option Addr} {R S : List E2} (x : Hd) (hn : n ≤ 2097152) (hn2 : n2 ≤ 2097152) (h1 : Vs w B A n R) (h2 : Vs w B A2 n2 S) (hB : B ≤ w.heap.size) :
    Calls Try.prog 29 #[.agg #[.int .i64 x.i, .int .i64 x.s, .int .i64 x.t, .int .i64 x.b, .int .i64 x.l, .int .i64 x.h, .int .i64 x.c, .slice A n c, .slice A2 n2 c2]] w fun e w' => ∃ A' c', e = .returned (.slice A' (wkL x R S).length c') ∧ w'.ownsRow w.heap.size 3 1 (.slice A' (wkL x R S).length c') (wkL x R S).length (mi (wkL x R S)) ∧ Below w.heap.size w w' := by
  have H1 := Lib.hid h1
  have H2 := Lib.hid h2
  have hln := h2.1
  obtain ⟨i0, hi, hz, hs, hby⟩ := info_parts info_i
  have HI := Lib.hid hi
  have HZ := Lib.hid hz
  have HS := Lib.hid hs
  have HBY := Lib.hid hby
  clear h1 h2 hi hz hs hby
  go_enter Try.func29, Try.ntmps29
  go_wp2_with fail
  have hL : WL w x (.slice A n c) (.slice A2 n2 c2) (w.alloc (.cells #[.int .i64 x.i, .int .i64 x.s, .int .i64 x.t, .int .i64 x.b, .int .i64 x.l, .int .i64 x.h, .int .i64 x.c, .slice A n c, .slice A2 n2 c2] 27)) := ⟨new1 w _, by simp, TB.new w x A n c A2 n2 c2 27⟩
  generalize w.alloc _ = W0 at hL ⊢
  have L0 := Lib.hid hL
  have hsz := hL.2.1
  obtain ⟨t0, t1, t2, t3, t4, t5, t6, t7, t8⟩ := hL.2.2
  clear hL
  try go_wp2_with fail
  refine (impl_tx x (by omega) (by omega) (H1.out.below (below_le L0.out.1 hB)) (H2.out.below (below_le L0.out.1 hB)) (by omega)).mono ?_
  rintro e W1 ⟨rfl, hb⟩
  have L1 := Lib.hid (L0.out.call hb)
  clear hb t0 t1 t2 t3 t4 t5 t6 t7 t8 hsz
  rcases hrx : txB x R S with _ | _
  · have HE : Hid (wkL x R S = []) := Lib.hid (wk_no hrx)
    clear hrx
    go_wp2_with fail
    go_ret
    rw [HE.out]
    exact ⟨_, _, rfl, World.ownsRow_nil _ _ _ _, L1.out.1⟩
  have HRX := Lib.hid hrx
  clear hrx
  obtain ⟨t0, t1, t2, t3, t4, t5, t6, t7, t8⟩ := L1.out.2.2
  have hsz := L1.out.2.1
  obtain ⟨W2, hmk, hE, hg⟩ := run_make_own (P := Try.prog) W1 (w.heap.size + 1) 50 3 i0 _ 1 Try.underlying50 HI.out HZ.out HS.out .i64 .i64 n2 (by rw [HBY.out]; omega) (by unfold maxLen; omega) (by omega)
  have hb2 : Below W1.heap.size W1 W2 := (Below.refl _ _).grown hg (Nat.le_refl _) (fun q hq => by cases hq)
  have L2 := Lib.hid (L1.out.call hb2)
  have E2 := Lib.hid hE
  have t8' := (L2.out.2.2).2.2.2.2.2.2.2.2
  clear t0 t1 t2 t3 t4 t5 t6 t7 hE hg hb2
  go_wp2_with fail
  clear hmk t8 t8'
  go_loopw [3, 16] (fun o i wr => ∃ (k c' : Nat) (A' : Option Addr), k ≤ n2 ∧ i = .int .i64 k ∧ o = .slice A' k c' ∧ wr.ownsRow (w.heap.size + 1) 3 1 (.slice A' k c') k (mi ((S.take k).map (·.a))) ∧ WL w x (.slice A n c) (.slice A2 n2 c2) wr) (fun _ i _ => n2 - (intOf i).toNat)
  case atStart => exact ⟨0, _, _, by omega, rfl, rfl, by simpa using E2.out, L2.out⟩
  case round =>
    obtain ⟨k, c', A', hk, rfl, rfl, hO, hL⟩ := hrel
    have OW := Lib.hid hO
    have LW := Lib.hid hL
    have hsz2 := hL.2.1
    clear hO hL
    by_cases hlt : k < n2
    · obtain ⟨b, o, y, rfl, hbB, hx, a0, a1⟩ := (H2.out.below (below_le LW.out.1 hB)).at_ hlt
      have hn0 := new1 wr (.cells #[.int .i64 y.a, .int .i64 y.b] 55)
      have mb := boxed wr y 55
      have hn1 := new1 (wr.alloc (.cells #[.int .i64 y.a, .int .i64 y.b] 55)) (.cells #[.int .i64 y.a] 3)
      have hO3 := own_keep (own_keep OW.out hn0) hn1
      have hone : ((wr.alloc (.cells #[.int .i64 y.a, .int .i64 y.b] 55)).alloc (.cells #[.int .i64 y.a] 3)).cell? ⟨(wr.alloc (.cells #[.int .i64 y.a, .int .i64 y.b] 55)).heap.size, 0, none⟩ = some (.int .i64 y.a) := World.cell?_alloc_mark _ _ 3 _ 0
      obtain ⟨v', w4, hr, ho4, hg4⟩ := run_append_i (P := Try.prog) ((wr.alloc (.cells #[.int .i64 y.a, .int .i64 y.b] 55)).alloc (.cells #[.int .i64 y.a] 3)) 50 50 3 i0 _ Try.underlying50 HI.out HZ.out HS.out HBY.out rfl hO3 hone (c := 1) (by omega) (by simp; omega)
      have hb4 : Below (w.heap.size + 1) wr w4 := ((hn0.trans (hn1.mono (by simp))).mono (by omega)).trans (grown_i hO3 hg4 (by simp; omega))
      rw [show (wr.alloc (.cells #[.int .i64 y.a, .int .i64 y.b] 55)).heap.size = wr.heap.size + 1 by simp] at hr
      rw [ks_step hx] at ho4
      obtain ⟨A4, c4, rfl⟩ := own_form ho4
      have O4 := Lib.hid ho4
      have L4 := Lib.hid (LW.out.grown hb4)
      clear hO3 hone hn1 ho4 hg4 hb4 hx hn0 mb
      go_wp2_with (at_builtin; refine Lib.wpList_append_run _ rfl _ _ 50 50 rfl _ _ rfl rfl _ _ hr ?_)
      go_roundw
      case rel => exact ⟨k + 1, c4, A4, by omega, by go_num, rfl, O4.out, L4.out⟩
      case measure => simp [intOf]; omega
    · obtain rfl : n2 = k := by omega
      have HE : Hid ((S.take n2).map (·.a) = wkL x R S) := Lib.hid (ks_end hln fun _ => HRX.out)
      have HM : Hid ((wkL x R S).length = n2) := Lib.hid (by rw [← HE.out]; exact ks_len (by omega))
      go_wp2_with fail
      go_ret
      rw [HM.out, ← HE.out]
      exact ⟨_, _, rfl, own_more OW.out (by omega), LW.out.1⟩
end Go.Proofs.Ytajllccgfhminaa.wk
