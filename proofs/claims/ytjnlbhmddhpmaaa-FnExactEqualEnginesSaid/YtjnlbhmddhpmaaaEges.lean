/- EqualEngines of the model: what it answers. -/
import Derived.Test.YtjnlbhmddhpmaaaEge
import Derived.StillTailTactics
namespace Go.Proofs.Ytjnlbhmddhpmaaa.ege
open Go.ChangeShapes Go.WideShapes Go.ChangeAt Go.RowKit
open Go.Proofs.Ytjnlbhmddhpmaaa.el2 Go.Proofs.Ytjnlbhmddhpmaaa.tx Go.Proofs.Ytjnlbhmddhpmaaa.seq Go.Proofs.Ytjnlbhmddhpmaaa.te Go.Proofs.Ytjnlbhmddhpmaaa.lke Go.Proofs.Ytjnlbhmddhpmaaa.ts Go.Proofs.Ytjnlbhmddhpmaaa.ego Go.Proofs.Ytjnlbhmddhpmaaa.eg
open Go.Proofs.Ytjnlbhmddhpmaaa.mkr (Tr)
open Go.Proofs.Ytjnlbhmddhpmaaa.sl (Ver)
open Go.Proofs.Ytjnlbhmddhpmaaa.st (Rs)
open Go.Proofs.Ytjnlbhmddhpmaaa.eqst (rB)
open Go.Proofs.Ytjnlbhmddhpmaaa.vers (ret_b new2 new3)
set_option linter.unusedVariables false
set_option linter.unusedSimpArgs false
set_option linter.constructorNameAsVariable false
theorem bdrew9 {B : Nat} {w w' : World} (h : Below B w w') (n : Nat) : Below B w (w'.drewN n) := ⟨h.os, h.tape, h.output, h.size, h.block⟩
theorem EB.drewN {w : World} {b : Nat} {q : Bool} {u1 u2 u3 u4 : Value} {z : Int} (h : EB w b q u1 u2 u3 u4 z) (n : Nat) : EB (w.drewN n) b q u1 u2 u3 u4 z := h
set_option maxRecDepth 100000 in
set_option maxHeartbeats 6400000 in
theorem spec_eqe {w : World} {B n1 c1 n2 c2 n3 c3 n4 c4 m1 d1 m2 d2 m3 d3 m4 d4 : Nat} {A1 A2 A3 A4 B1 B2 B3 B4 : Option Addr} {C C' : List (List Ver)} {L L' : List Tr} {K X K' X' : List E2} (q q' : Bool) (z z' : Int) (hn1 : n1 ≤ 2097152) (hn2 : n2 ≤ 2097152) (hn3 : n3 ≤ 2097152) (hn4 : n4 ≤ 2097152) (hm1 : m1 ≤ 2097152) (hm2 : m2 ≤ 2097152) (hm3 : m3 ≤ 2097152) (hm4 : m4 ≤ 2097152) (h : ER w B A1 n1 C A2 n2 L A3 n3 K A4 n4 X) (h' : ER w B B1 m1 C' B2 m2 L' B3 m3 K' B4 m4 X') (hB : B ≤ w.heap.size) :
    Calls Try.prog 23 #[.agg #[.bool q, .slice A1 n1 c1, .slice A2 n2 c2, .slice A3 n3 c3, .slice A4 n4 c4, .int .i64 z], .agg #[.bool q', .slice B1 m1 d1, .slice B2 m2 d2, .slice B3 m3 d3, .slice B4 m4 d4, .int .i64 z']] w fun e w' => e = .returned (.bool (eqE q C L K X z q' C' L' K' X' z')) ∧ Below w.heap.size w w' := by
  have H := Lib.hid h
  have H' := Lib.hid h'
  clear h h'
  have ta := (EB.new w q (.slice A1 n1 c1) (.slice A2 n2 c2) (.slice A3 n3 c3) (.slice A4 n4 c4) z 29).keep (by simp) (Go.Proofs.Ytjnlbhmddhpmaaa.el2.new1 _ (.cells #[.bool q', .slice B1 m1 d1, .slice B2 m2 d2, .slice B3 m3 d3, .slice B4 m4 d4, .int .i64 z'] 29))
  have tb := EB.new (w.alloc (.cells #[.bool q, .slice A1 n1 c1, .slice A2 n2 c2, .slice A3 n3 c3, .slice A4 n4 c4, .int .i64 z] 29)) q' (.slice B1 m1 d1) (.slice B2 m2 d2) (.slice B3 m3 d3) (.slice B4 m4 d4) z' 29
  rw [show (w.alloc _).heap.size = w.heap.size + 1 by simp] at tb
  have hb := new2 w (.cells #[.bool q, .slice A1 n1 c1, .slice A2 n2 c2, .slice A3 n3 c3, .slice A4 n4 c4, .int .i64 z] 29) (.cells #[.bool q', .slice B1 m1 d1, .slice B2 m2 d2, .slice B3 m3 d3, .slice B4 m4 d4, .int .i64 z'] 29)
  have hs : ((w.alloc (.cells #[.bool q, .slice A1 n1 c1, .slice A2 n2 c2, .slice A3 n3 c3, .slice A4 n4 c4, .int .i64 z] 29)).alloc (.cells #[.bool q', .slice B1 m1 d1, .slice B2 m2 d2, .slice B3 m3 d3, .slice B4 m4 d4, .int .i64 z'] 29)).heap.size = w.heap.size + 2 := by simp
  by_cases hq : q = q'
  case neg =>
    have t : (q == q') = false := by simpa using hq
    have HZ : Hid (false = eqE q C L K X z q' C' L' K' X' z') := Lib.hid (by unfold eqE; rw [decide_eq_false hq]; rfl)
    clear hq
    go_enter Try.func23, Try.ntmps23
    go_wp2_with fail
    go_ret
    exact ⟨ret_b HZ.out, hb⟩
  subst hq
  have t : (q == q) = true := by simp
  generalize hr : rB C C' = bhr
  cases bhr with
  | false =>
    have HR := Lib.hid hr
    have HZ : Hid (false = eqE q C L K X z q C' L' K' X' z') := Lib.hid (by unfold eqE; rw [hr]; simp)
    clear hr
    go_enter Try.func23, Try.ntmps23
    go_wp2_with fail
    generalize (w.alloc _).alloc _ = W0 at ta tb hb hs ⊢
    have HB0 := Lib.hid hb
    have TA0 := Lib.hid ta
    have TC0 := Lib.hid tb
    have hs0 : w.heap.size + 2 ≤ W0.heap.size := by omega
    clear hb ta tb hs
    refine (Go.Proofs.Ytjnlbhmddhpmaaa.eqst.spec_stores (B := B) (by omega) (by omega) (H.out.below (below_le HB0.out hB)).s (H'.out.below (below_le HB0.out hB)).s (by omega)).mono ?_
    rintro e W1 ⟨rfl, hb⟩
    rw [HR.out]
    have hs1 := hb.size
    have HB1 := Lib.hid (HB0.out.trans (hb.mono HB0.out.size))
    have TA1 := Lib.hid (TA0.out.of_block (hb.block _ (by omega)))
    have TC1 := Lib.hid (TC0.out.of_block (hb.block _ (by omega)))
    clear hb
    obtain ⟨t0, t1, t2, t3, t4, t5⟩ := TA1.out
    obtain ⟨v0, v1, v2, v3, v4, v5⟩ := TC1.out
    go_wp2_with fail
    go_ret
    exact ⟨ret_b HZ.out, HB1.out⟩
  | true =>
  have HR := Lib.hid hr
  clear hr
  by_cases hn2 : n2 = m2
  case neg =>
    have tq : ((n2 : Int) == (m2 : Int)) = false := by simp; omega
    have HZ : Hid (false = eqE q C L K X z q C' L' K' X' z') := Lib.hid (by unfold eqE; rw [tB_len (l := L) (m := L') (by have := H.out.t.1; have := H'.out.t.1; omega)]; simp)
    go_enter Try.func23, Try.ntmps23
    go_wp2_with fail
    generalize (w.alloc _).alloc _ = W0 at ta tb hb hs ⊢
    have HB0 := Lib.hid hb
    have TA0 := Lib.hid ta
    have TC0 := Lib.hid tb
    have hs0 : w.heap.size + 2 ≤ W0.heap.size := by omega
    clear hb ta tb hs
    refine (Go.Proofs.Ytjnlbhmddhpmaaa.eqst.spec_stores (B := B) (by omega) (by omega) (H.out.below (below_le HB0.out hB)).s (H'.out.below (below_le HB0.out hB)).s (by omega)).mono ?_
    rintro e W1 ⟨rfl, hb⟩
    rw [HR.out]
    have hs1 := hb.size
    have HB1 := Lib.hid (HB0.out.trans (hb.mono HB0.out.size))
    have TA1 := Lib.hid (TA0.out.of_block (hb.block _ (by omega)))
    have TC1 := Lib.hid (TC0.out.of_block (hb.block _ (by omega)))
    clear hb
    obtain ⟨t0, t1, t2, t3, t4, t5⟩ := TA1.out
    obtain ⟨v0, v1, v2, v3, v4, v5⟩ := TC1.out
    go_wp2_with fail
    go_ret
    exact ⟨ret_b HZ.out, HB1.out⟩
  subst hn2
  by_cases hn3 : n3 = m3
  case neg =>
    have tq : ((n3 : Int) == (m3 : Int)) = false := by simp; omega
    have HZ : Hid (false = eqE q C L K X z q C' L' K' X' z') := Lib.hid (by unfold eqE; rw [lB_len (l := K) (m := K') (by have := H.out.k.1; have := H'.out.k.1; omega)]; simp)
    go_enter Try.func23, Try.ntmps23
    go_wp2_with fail
    generalize (w.alloc _).alloc _ = W0 at ta tb hb hs ⊢
    have HB0 := Lib.hid hb
    have TA0 := Lib.hid ta
    have TC0 := Lib.hid tb
    have hs0 : w.heap.size + 2 ≤ W0.heap.size := by omega
    clear hb ta tb hs
    refine (Go.Proofs.Ytjnlbhmddhpmaaa.eqst.spec_stores (B := B) (by omega) (by omega) (H.out.below (below_le HB0.out hB)).s (H'.out.below (below_le HB0.out hB)).s (by omega)).mono ?_
    rintro e W1 ⟨rfl, hb⟩
    rw [HR.out]
    have hs1 := hb.size
    have HB1 := Lib.hid (HB0.out.trans (hb.mono HB0.out.size))
    have TA1 := Lib.hid (TA0.out.of_block (hb.block _ (by omega)))
    have TC1 := Lib.hid (TC0.out.of_block (hb.block _ (by omega)))
    clear hb
    obtain ⟨t0, t1, t2, t3, t4, t5⟩ := TA1.out
    obtain ⟨v0, v1, v2, v3, v4, v5⟩ := TC1.out
    go_wp2_with fail
    go_ret
    exact ⟨ret_b HZ.out, HB1.out⟩
  subst hn3
  by_cases hn4 : n4 = m4
  case neg =>
    have tq : ((n4 : Int) == (m4 : Int)) = false := by simp; omega
    have HZ : Hid (false = eqE q C L K X z q C' L' K' X' z') := Lib.hid (by unfold eqE; rw [lB_len (l := X) (m := X') (by have := H.out.x.1; have := H'.out.x.1; omega)]; simp)
    go_enter Try.func23, Try.ntmps23
    go_wp2_with fail
    generalize (w.alloc _).alloc _ = W0 at ta tb hb hs ⊢
    have HB0 := Lib.hid hb
    have TA0 := Lib.hid ta
    have TC0 := Lib.hid tb
    have hs0 : w.heap.size + 2 ≤ W0.heap.size := by omega
    clear hb ta tb hs
    refine (Go.Proofs.Ytjnlbhmddhpmaaa.eqst.spec_stores (B := B) (by omega) (by omega) (H.out.below (below_le HB0.out hB)).s (H'.out.below (below_le HB0.out hB)).s (by omega)).mono ?_
    rintro e W1 ⟨rfl, hb⟩
    rw [HR.out]
    have hs1 := hb.size
    have HB1 := Lib.hid (HB0.out.trans (hb.mono HB0.out.size))
    have TA1 := Lib.hid (TA0.out.of_block (hb.block _ (by omega)))
    have TC1 := Lib.hid (TC0.out.of_block (hb.block _ (by omega)))
    clear hb
    obtain ⟨t0, t1, t2, t3, t4, t5⟩ := TA1.out
    obtain ⟨v0, v1, v2, v3, v4, v5⟩ := TC1.out
    go_wp2_with fail
    go_ret
    exact ⟨ret_b HZ.out, HB1.out⟩
  subst hn4
  by_cases hz : z = z'
  case neg =>
    have tz : (z == z') = false := by simpa using hz
    have HZ : Hid (false = eqE q C L K X z q C' L' K' X' z') := Lib.hid (by unfold eqE; rw [decide_eq_false hz]; simp)
    clear hz
    go_enter Try.func23, Try.ntmps23
    go_wp2_with fail
    generalize (w.alloc _).alloc _ = W0 at ta tb hb hs ⊢
    have HB0 := Lib.hid hb
    have TA0 := Lib.hid ta
    have TC0 := Lib.hid tb
    have hs0 : w.heap.size + 2 ≤ W0.heap.size := by omega
    clear hb ta tb hs
    refine (Go.Proofs.Ytjnlbhmddhpmaaa.eqst.spec_stores (B := B) (by omega) (by omega) (H.out.below (below_le HB0.out hB)).s (H'.out.below (below_le HB0.out hB)).s (by omega)).mono ?_
    rintro e W1 ⟨rfl, hb⟩
    rw [HR.out]
    have hs1 := hb.size
    have HB1 := Lib.hid (HB0.out.trans (hb.mono HB0.out.size))
    have TA1 := Lib.hid (TA0.out.of_block (hb.block _ (by omega)))
    have TC1 := Lib.hid (TC0.out.of_block (hb.block _ (by omega)))
    clear hb
    obtain ⟨t0, t1, t2, t3, t4, t5⟩ := TA1.out
    obtain ⟨v0, v1, v2, v3, v4, v5⟩ := TC1.out
    go_wp2_with fail
    go_ret
    exact ⟨ret_b HZ.out, HB1.out⟩
  subst hz
  have tz : (z == z) = true := by simp
  have HE : Hid (eqE q C L K X z q C' L' K' X' z = (tB L L' && lB K K' && lB X X')) := Lib.hid (by unfold eqE; rw [HR.out]; simp)
  go_enter Try.func23, Try.ntmps23
  go_wp2_with fail
  generalize (w.alloc _).alloc _ = W0 at ta tb hb hs ⊢
  have HB0 := Lib.hid hb
  have TA0 := Lib.hid ta
  have TC0 := Lib.hid tb
  have hs0 : w.heap.size + 2 ≤ W0.heap.size := by omega
  clear hb ta tb hs
  refine (Go.Proofs.Ytjnlbhmddhpmaaa.eqst.spec_stores (B := B) (by omega) (by omega) (H.out.below (below_le HB0.out hB)).s (H'.out.below (below_le HB0.out hB)).s (by omega)).mono ?_
  rintro e W1 ⟨rfl, hb⟩
  rw [HR.out]
  have hs1 := hb.size
  have HB1 := Lib.hid (HB0.out.trans (hb.mono HB0.out.size))
  have TA1 := Lib.hid (TA0.out.of_block (hb.block _ (by omega)))
  have TC1 := Lib.hid (TC0.out.of_block (hb.block _ (by omega)))
  clear hb
  obtain ⟨t0, t1, t2, t3, t4, t5⟩ := TA1.out
  obtain ⟨v0, v1, v2, v3, v4, v5⟩ := TC1.out
  go_wp2_with fail
  clear t0 t1 t2 t3 t4 t5 v0 v1 v2 v3 v4 v5
  go_loopw [5] (fun i wr => ∃ k : Nat, k ≤ n2 ∧ i = .int .i64 k ∧ L.take k = L'.take k ∧ Below w.heap.size w wr ∧ w.heap.size + 2 ≤ wr.heap.size ∧ EB wr w.heap.size q (.slice A1 n1 c1) (.slice A2 n2 c2) (.slice A3 n3 c3) (.slice A4 n4 c4) z ∧ EB wr (w.heap.size + 1) q (.slice B1 m1 d1) (.slice B2 n2 d2) (.slice B3 n3 d3) (.slice B4 n4 d4) z) (fun i _ => n2 - (intOf i).toNat)
  case atStart => exact ⟨0, by omega, rfl, rfl, HB1.out, by omega, TA1.out, TC1.out⟩
  case round =>
    obtain ⟨k, hk, rfl, ht, hb, hsz, hA, hC⟩ := hrel
    have HT := Lib.hid ht
    have HB := Lib.hid hb
    have TA := Lib.hid hA
    have TC := Lib.hid hC
    obtain ⟨t0, t1, t2, t3, t4, t5⟩ := hA
    obtain ⟨v0, v1, v2, v3, v4, v5⟩ := hC
    clear ht hb
    by_cases hlt : k < n2
    · obtain ⟨b, o, t, P, p1, pc, Q, q1, qc, rfl, hbB, hx, ⟨a0, a1, a2, a3, a4, a5, a6, a7, a8⟩, hp1, hq1, hv, hu⟩ := (H.out.below (below_le HB.out hB)).t.at_ hlt
      obtain ⟨b', o', t', P', p1', pc', Q', q1', qc', rfl, hbB', hx', ⟨e0, e1, e2, e3, e4, e5, e6, e7, e8⟩, hp1', hq1', hv', hu'⟩ := (H'.out.below (below_le HB.out hB)).t.at_ hlt
      have HX := Lib.hid hx
      have HX' := Lib.hid hx'
      have HV := Lib.hid hv
      have HV' := Lib.hid hv'
      have HU := Lib.hid hu
      have HU' := Lib.hid hu'
      clear hx hx' hv hv' hu hu'
      rcases he : eqT t.x t.R t.S t'.x t'.R t'.S with _ | _
      · have HQ := Lib.hid he
        clear he
        have HZ : Hid (false = eqE q C L K X z q C' L' K' X' z) := Lib.hid (by rw [HE.out, t_at HX.out HX'.out HQ.out]; rfl)
        go_wp2_with fail
        go_still_tail 10, (by kernel_rfl)
        change wpList _ _ _ _ _ wr.drew
        go_wp2_with fail
        refine (spec_eqtx (w := wr.drew) (B := B) t.x t'.x (by omega) (by omega) (by omega) (by omega) HV.out HU.out HV'.out HU'.out (by simp; omega)).mono ?_
        rintro e W2 ⟨rfl, hb1⟩
        rw [HQ.out]
        have hs2 := hb1.size
        have HB2 := Lib.hid (HB.out.drew.trans (hb1.mono HB.out.size))
        clear hb1
        go_wp2_with fail
        go_ret
        exact ⟨ret_b HZ.out, HB2.out⟩
      · have HQ := Lib.hid he
        clear he
        go_wp2_with fail
        go_still_tail 10, (by kernel_rfl)
        change wpList _ _ _ _ _ wr.drew
        go_wp2_with fail
        refine (spec_eqtx (w := wr.drew) (B := B) t.x t'.x (by omega) (by omega) (by omega) (by omega) HV.out HU.out HV'.out HU'.out (by simp; omega)).mono ?_
        rintro e W2 ⟨rfl, hb1⟩
        rw [HQ.out]
        have hs2 := hb1.size
        have HB2 := Lib.hid (HB.out.drew.trans (hb1.mono HB.out.size))
        have hsz2 : w.heap.size + 2 ≤ W2.heap.size := Nat.le_trans hsz hs2
        have TA2 := Lib.hid ((show EB wr.drew _ _ _ _ _ _ _ from TA.out).of_block (hb1.block _ (Nat.lt_of_lt_of_le (by omega) hsz)))
        have TC2 := Lib.hid ((show EB wr.drew _ _ _ _ _ _ _ from TC.out).of_block (hb1.block _ (Nat.lt_of_lt_of_le (by omega) hsz)))
        clear hb1
        go_wp2_with fail
        go_roundw
        case rel => exact ⟨k + 1, by omega, by go_num, t_step HT.out HX.out HX'.out HQ.out, HB2.out, hsz2, TA2.out, TC2.out⟩
        case measure => simp [intOf]; omega
    · have HL : Hid (tB L L' = true) := Lib.hid (t_all H.out.t.1 H'.out.t.1 (by have := HT.out; rwa [show k = n2 by omega] at this))
      go_wp2_with fail
      clear t0 t1 t2 t3 t4 t5 v0 v1 v2 v3 v4 v5
      go_loopw [6] (fun i wr => ∃ k : Nat, k ≤ n3 ∧ i = .int .i64 k ∧ K.take k = K'.take k ∧ Below w.heap.size w wr ∧ w.heap.size + 2 ≤ wr.heap.size ∧ EB wr w.heap.size q (.slice A1 n1 c1) (.slice A2 n2 c2) (.slice A3 n3 c3) (.slice A4 n4 c4) z ∧ EB wr (w.heap.size + 1) q (.slice B1 m1 d1) (.slice B2 n2 d2) (.slice B3 n3 d3) (.slice B4 n4 d4) z) (fun i _ => n3 - (intOf i).toNat)
      case atStart => exact ⟨0, by omega, rfl, rfl, HB.out, hsz, TA.out, TC.out⟩
      case round =>
        obtain ⟨k, hk, rfl, ht, hb, hsz, hA, hC⟩ := hrel
        have HT := Lib.hid ht
        have HB := Lib.hid hb
        have TA := Lib.hid hA
        have TC := Lib.hid hC
        obtain ⟨t0, t1, t2, t3, t4, t5⟩ := hA
        obtain ⟨v0, v1, v2, v3, v4, v5⟩ := hC
        clear ht hb
        by_cases hlt : k < n3
        · obtain ⟨b, o, x, rfl, hbB, hx, a0, a1⟩ := (H.out.below (below_le HB.out hB)).k.at_ hlt
          obtain ⟨b', o', y, rfl, hbB', hy, d0, d1⟩ := (H'.out.below (below_le HB.out hB)).k.at_ hlt
          have HX := Lib.hid hx
          have HY := Lib.hid hy
          clear hx hy
          by_cases hxy : x = y
          · have hnq := neq_no_k hxy
            have HXY := Lib.hid hxy
            clear hxy
            go_wp2_with fail
            go_quiet (fail)
            clear hnq
            go_wp2_with fail
            go_roundw
            case rel => exact ⟨k + 1, by omega, by go_num, take_step HT.out HX.out (by rw [HXY.out]; exact HY.out), bdrew9 HB.out _, hsz, EB.drewN TA.out _, EB.drewN TC.out _⟩
            case measure => simp [intOf]; omega
          · have hnq := neq_yes_k hxy
            have HZ : Hid (false = eqE q C L K X z q C' L' K' X' z) := Lib.hid (by rw [HE.out, lB_no (at_ne HX.out HY.out hxy)]; simp)
            clear hxy
            go_wp2_with fail
            go_quiet (fail)
            clear hnq
            go_wp2_with fail
            go_ret
            exact ⟨ret_b HZ.out, bdrew9 HB.out _⟩
        · have HK : Hid (lB K K' = true) := Lib.hid (lB_yes (all_eq H.out.k.1 H'.out.k.1 (by have := HT.out; rwa [show k = n3 by omega] at this)))
          go_wp2_with fail
          clear t0 t1 t2 t3 t4 t5 v0 v1 v2 v3 v4 v5
          go_loopw [7] (fun i wr => ∃ k : Nat, k ≤ n4 ∧ i = .int .i64 k ∧ X.take k = X'.take k ∧ Below w.heap.size w wr ∧ w.heap.size + 2 ≤ wr.heap.size ∧ EB wr w.heap.size q (.slice A1 n1 c1) (.slice A2 n2 c2) (.slice A3 n3 c3) (.slice A4 n4 c4) z ∧ EB wr (w.heap.size + 1) q (.slice B1 m1 d1) (.slice B2 n2 d2) (.slice B3 n3 d3) (.slice B4 n4 d4) z) (fun i _ => n4 - (intOf i).toNat)
          case atStart => exact ⟨0, by omega, rfl, rfl, HB.out, hsz, TA.out, TC.out⟩
          case round =>
            obtain ⟨k, hk, rfl, ht, hb, hsz, hA, hC⟩ := hrel
            have HT := Lib.hid ht
            have HB := Lib.hid hb
            have TA := Lib.hid hA
            have TC := Lib.hid hC
            obtain ⟨t0, t1, t2, t3, t4, t5⟩ := hA
            obtain ⟨v0, v1, v2, v3, v4, v5⟩ := hC
            clear ht hb
            by_cases hlt : k < n4
            · obtain ⟨b, o, x, rfl, hbB, hx, a0, a1⟩ := (H.out.below (below_le HB.out hB)).x.at_ hlt
              obtain ⟨b', o', y, rfl, hbB', hy, d0, d1⟩ := (H'.out.below (below_le HB.out hB)).x.at_ hlt
              have HX := Lib.hid hx
              have HY := Lib.hid hy
              clear hx hy
              by_cases hxy : x = y
              · have hnq := neq_no_x hxy
                have HXY := Lib.hid hxy
                clear hxy
                go_wp2_with fail
                go_quiet (fail)
                clear hnq
                go_wp2_with fail
                go_roundw
                case rel => exact ⟨k + 1, by omega, by go_num, take_step HT.out HX.out (by rw [HXY.out]; exact HY.out), bdrew9 HB.out _, hsz, EB.drewN TA.out _, EB.drewN TC.out _⟩
                case measure => simp [intOf]; omega
              · have hnq := neq_yes_x hxy
                have HZ : Hid (false = eqE q C L K X z q C' L' K' X' z) := Lib.hid (by rw [HE.out, lB_no (at_ne HX.out HY.out hxy)]; simp)
                clear hxy
                go_wp2_with fail
                go_quiet (fail)
                clear hnq
                go_wp2_with fail
                go_ret
                exact ⟨ret_b HZ.out, bdrew9 HB.out _⟩
            · have HX : Hid (lB X X' = true) := Lib.hid (lB_yes (all_eq H.out.x.1 H'.out.x.1 (by have := HT.out; rwa [show k = n4 by omega] at this)))
              have HZ : Hid (true = eqE q C L K X z q C' L' K' X' z) := Lib.hid (by rw [HE.out, HL.out, HK.out, HX.out]; rfl)
              go_wp2_with fail
              go_ret
              exact ⟨ret_b HZ.out, HB.out⟩
end Go.Proofs.Ytjnlbhmddhpmaaa.ege
