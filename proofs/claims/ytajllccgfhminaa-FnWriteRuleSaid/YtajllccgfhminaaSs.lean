/- StaleReads of the model: what it answers, in memory of its own. -/
import Derived.Test.YtajllccgfhminaaRh
import Derived.Test.YtajllccgfhminaaCl
namespace Go.Proofs.Ytajllccgfhminaa.ss
open Go.ChangeShapes Go.WideShapes Go.ChangeAt Go.RowKit
open Go.Proofs.Ytajllccgfhminaa.el2 Go.Proofs.Ytajllccgfhminaa.tx Go.Proofs.Ytajllccgfhminaa.seq Go.Proofs.Ytajllccgfhminaa.tv Go.Proofs.Ytajllccgfhminaa.tf Go.Proofs.Ytajllccgfhminaa.rx Go.Proofs.Ytajllccgfhminaa.ri Go.Proofs.Ytajllccgfhminaa.ap Go.Proofs.Ytajllccgfhminaa.bx Go.Proofs.Ytajllccgfhminaa.cl
open Go.Proofs.Ytajllccgfhminaa.vers (new2)
open Go.Proofs.Ytajllccgfhminaa.sl (Ver)
open Go.Proofs.Ytajllccgfhminaa.st (Rs)
open Go.Proofs.Ytajllccgfhminaa.val (stB)
open Go.Proofs.Ytajllccgfhminaa.find (fndI)
set_option linter.unusedVariables false
set_option linter.unusedSimpArgs false
/-- a read is stale: its version has a successor -/
noncomputable def stP (C : List (List Ver)) (m : E2) : Bool := decide ((verOf C m).e < 1000)
noncomputable def staleK (C : List (List Ver)) (R : List E2) (k : Nat) : List E2 := (R.take k).filter (stP C)
noncomputable def staleL (C : List (List Ver)) (x : Hd) (R S : List E2) : List E2 := if rexB C x R S = true then R.filter (stP C) else []
theorem stale_zero (C : List (List Ver)) (R : List E2) : staleK C R 0 = [] := by simp [staleK]
theorem stale_hit {C : List (List Ver)} {R : List E2} {k : Nat} {y : E2} {v : Ver} (hx : R[k]? = some y) (hv : verOf C y = v) (h : v.e < 1000) : staleK C R (k + 1) = staleK C R k ++ [y] := by
  unfold staleK
  rw [List.take_add_one, hx]
  simp [stP, hv, h]
theorem stale_miss {C : List (List Ver)} {R : List E2} {k : Nat} {y : E2} {v : Ver} (hx : R[k]? = some y) (hv : verOf C y = v) (h : ¬ v.e < 1000) : staleK C R (k + 1) = staleK C R k := by
  unfold staleK
  rw [List.take_add_one, hx]
  simp [stP, hv]
  omega
theorem stale_len (C : List (List Ver)) (R : List E2) (k : Nat) : (staleK C R k).length ≤ R.length := by
  unfold staleK
  refine Nat.le_trans (List.length_filter_le _ _) ?_
  rw [List.length_take]
  omega
theorem staleL_len (C : List (List Ver)) (x : Hd) (R S : List E2) : (staleL C x R S).length ≤ R.length := by
  unfold staleL
  split
  · exact List.length_filter_le _ _
  · simp
theorem stale_no {C : List (List Ver)} {x : Hd} {R S : List E2} {k : Nat} (h : rexB C x R S = false) (hk : 0 < k → rexB C x R S = true) : staleK C R k = staleL C x R S := by
  rcases Nat.eq_zero_or_pos k with h0 | h0
  · subst h0; simp [staleL, h, stale_zero]
  · rw [hk h0] at h; cases h
theorem stale_end {C : List (List Ver)} {x : Hd} {R S : List E2} {n : Nat} (hn : R.length = n) (hk : 0 < n → rexB C x R S = true) : staleK C R n = staleL C x R S := by
  rcases Nat.eq_zero_or_pos n with h0 | h0
  · subst h0
    obtain rfl : R = [] := List.eq_nil_of_length_eq_zero hn
    simp [staleK, staleL]
  · unfold staleL
    rw [if_pos (hk h0), staleK, List.take_of_length_le (by omega)]
theorem ls_grown {w W W' : World} {sv u v : Value} {x : Hd} (h : LS w sv x u v W) (hb : Below (w.heap.size + 1 + 1) W W') : LS w sv x u v W' where
  bel := h.bel.trans (hb.mono (by omega))
  size := Nat.le_trans h.size hb.size
  st := (hb.cell (p := ⟨w.heap.size, 0, none⟩) (by simp only; omega)).trans h.st
  tb := h.tb.keep (by omega) hb
theorem ret_s {A : Option Addr} {m m' c : Nat} (h : m = m') : Ending.returned (.slice A m c) = .returned (.slice A m' c) := by rw [h]
set_option maxRecDepth 100000 in
set_option maxHeartbeats 3200000 in
theorem spec_stale {w : World} {B n c n2 c2 N cN : Nat} {A A2 D : Option Addr} {R S : List E2} {C : List (List Ver)} (x : Hd) (hn : n ≤ 2097152) (hn2 : n2 ≤ 2097152) (hN : N ≤ 2097152) (h1 : Vs w B A n R) (h2 : Vs w B A2 n2 S) (h3 : Rs w B D N C) (hB : B ≤ w.heap.size) :
    Calls Try.prog 17 #[.agg #[.slice D N cN], .agg #[.int .i64 x.i, .int .i64 x.s, .int .i64 x.t, .int .i64 x.b, .int .i64 x.l, .int .i64 x.h, .int .i64 x.c, .slice A n c, .slice A2 n2 c2]] w fun e w' => ∃ A' c', e = .returned (.slice A' (staleL C x R S).length c') ∧ w'.ownsRow w.heap.size 37 2 (.slice A' (staleL C x R S).length c') (staleL C x R S).length (flat (staleL C x R S)) ∧ Below w.heap.size w w' := by
  have H1 := Lib.hid h1
  have H2 := Lib.hid h2
  have H3 := Lib.hid h3
  have hln := h1.1
  obtain ⟨i0, hi, hz, hs, hby⟩ := info_parts info_rm
  have HI := Lib.hid hi
  have HZ := Lib.hid hz
  have HS := Lib.hid hs
  have HBY := Lib.hid hby
  clear h1 h2 h3 hi hz hs hby
  go_enter Try.func17, Try.ntmps17
  go_wp2_with fail
  have hL := LS.mk2 w (.slice D N cN) 40 27 x A n c A2 n2 c2
  have hs0 : ((w.alloc (.cells #[.slice D N cN] 40)).alloc (.cells #[.int .i64 x.i, .int .i64 x.s, .int .i64 x.t, .int .i64 x.b, .int .i64 x.l, .int .i64 x.h, .int .i64 x.c, .slice A n c, .slice A2 n2 c2] 27)).heap.size = w.heap.size + 1 + 1 := by simp
  generalize ((w.alloc _).alloc _) = W0 at hL hs0 ⊢
  have hE := own_empty W0 37 (w.heap.size + 1 + 1) (by omega)
  have hL1 := hL.call (new1 W0 (.cells #[] 37))
  rw [hs0] at hE
  generalize W0.alloc _ = W1 at hE hL1 ⊢
  have L1 := Lib.hid hL1
  have E1 := Lib.hid hE
  clear hL hL1 hE hs0
  try go_wp2_with fail
  go_loopw [5, 6, 7] (fun o i _ wr => ∃ (k m c' : Nat) (A' : Option Addr), k ≤ n ∧ i = .int .i64 k ∧ o = .slice A' m c' ∧ wr.ownsRow (w.heap.size + 1 + 1) 37 2 (.slice A' m c') m (flat (staleK C R k)) ∧ (0 < k → rexB C x R S = true) ∧ LS w (.slice D N cN) x (.slice A n c) (.slice A2 n2 c2) wr) (fun _ i _ _ => n - (intOf i).toNat)
  case atStart => exact ⟨0, 0, 0, _, by omega, rfl, rfl, by rw [stale_zero]; exact E1.out, fun h => absurd h (by omega), L1.out⟩
  case round =>
    obtain ⟨k, m, c', A', hk, rfl, rfl, hO, hP, hL⟩ := hrel
    have OW := Lib.hid hO
    have HP := Lib.hid hP
    have hm : (staleK C R k).length = m := by have := hO.1; rw [flat_len] at this; omega
    have hmn : m ≤ n := by have := stale_len C R k; omega
    have HM := Lib.hid hm
    have LW := Lib.hid hL
    have c0 := hL.st
    obtain ⟨t0, t1, t2, t3, t4, t5, t6, t7, t8⟩ := hL.tb
    clear hO hP hL hm
    by_cases hlt : k < n
    · have t : decide (k < n) = true := decide_eq_true hlt
      go_wp2_with fail
      refine (spec_rex x (by omega) (by omega) (by omega) (H1.out.below (below_le LW.out.bel hB)) (H2.out.below (below_le LW.out.bel hB)) (H3.out.below (below_le LW.out.bel hB)) (by have := LW.out.size; omega)).mono ?_
      rintro e W2 ⟨rfl, hb⟩
      have L2 := Lib.hid (LW.out.call hb)
      have O2 := Lib.hid (own_keep OW.out hb)
      clear hb c0 t0 t1 t2 t3 t4 t5 t6 t7 t8
      rcases hrx : rexB C x R S with _ | _
      · have HE : Hid (staleK C R k = staleL C x R S) := Lib.hid (stale_no hrx HP.out)
        clear hrx
        go_wp2_with fail
        go_ret
        rw [← HE.out, HM.out]
        exact ⟨_, _, rfl, own_more O2.out (by omega), L2.out.bel⟩
      have HRX := Lib.hid hrx
      clear hrx
      have c0 := L2.out.st
      obtain ⟨t0, t1, t2, t3, t4, t5, t6, t7, t8⟩ := L2.out.tb
      clear t0 t1 t2 t3 t4 t5 t6 t8
      obtain ⟨b, o, y, rfl, hbB, hx, a0, a1⟩ := (H1.out.below (below_le L2.out.bel hB)).at_ hlt
      obtain ⟨hst, htx, hall⟩ := rex_parts HRX.out
      have hkey := key_of htx hx
      have hhas := all_at hall hx
      have h6 := val.st_six hst
      rw [H3.out.1] at h6
      have HX := Lib.hid hx
      obtain ⟨s1, s2⟩ := hkey
      have s3 : y.a < (N : Int) := by omega
      have s4 : y.a.toNat < N := by omega
      clear h6 hst htx hall
      obtain ⟨b2, o2, l, A9, n9, c9, rfl, hb2, hl, d0, hn9, hv⟩ := (H3.out.below (below_le L2.out.bel hB)).at_ s4
      have HL := Lib.hid hl
      have HV := Lib.hid hv
      have hln' := hv.1
      unfold hasV at hhas
      rw [ch_at hl] at hhas
      obtain ⟨j, hj, hjl⟩ := fnd_lt (of_decide_eq_true hhas)
      clear hx hl hv hhas
      obtain ⟨b3, o3, v, rfl, hbB3, hx3, e0, e1, e2, e3, e4⟩ := HV.out.at_ (k := j) (by omega)
      have HJ := Lib.hid hj
      have HVV : Hid (verOf C y = v) := Lib.hid (ver_at HL.out hj hx3)
      have hj1 : (0 : Int) ≤ (j : Int) := by omega
      have hj2 : (j : Int) < (n9 : Int) := by omega
      clear hj hx3 e0 e1 e2 e3 hjl hln'
      go_wp2_with fail
      go_quiet (fail)
      go_wp2_with fail
      refine (spec_findq y.b HJ.out hn9 (vsd HV.out _)).mono ?_
      rintro e W3 ⟨rfl, hW⟩
      have L3 : Hid (LS w (.slice (some ⟨b2, o2, none⟩) N cN) x (.slice (some ⟨b, o, none⟩) n c) (.slice A2 n2 c2) W3) := Lib.hid (by rw [← hW]; exact L2.out.drewN _)
      have O3 : Hid (W3.ownsRow (w.heap.size + 1 + 1) 37 2 (.slice A' m c') m (flat (staleK C R k))) := Lib.hid (by rw [← hW]; exact O2.out)
      have f4 : W3.cell? ⟨b3, o3 + j * 5 + 4, none⟩ = some (.int .i64 v.e) := by rw [← hW]; exact e4
      have f0 : W3.cell? ⟨b, o + k * 2, none⟩ = some (.int .i64 y.a) := by rw [← hW]; exact a0
      have f1 : W3.cell? ⟨b, o + k * 2 + 1, none⟩ = some (.int .i64 y.b) := by rw [← hW]; exact a1
      have f7 : W3.cell? ⟨w.heap.size + 1, 7, none⟩ = some (.slice (some ⟨b, o, none⟩) n c) := by rw [← hW]; exact t7
      clear hW e4 a0 a1 t7 c0 d0
      by_cases hst : v.e < 1000
      · have t2 : decide (v.e < 1000) = true := decide_eq_true hst
        have hO3 := own_keep O3.out (new1 W3 (.cells #[.int .i64 y.a, .int .i64 y.b] 37))
        have hone : Vs (W3.alloc (.cells #[.int .i64 y.a, .int .i64 y.b] 37)) (W3.heap.size + 1) (some ⟨W3.heap.size, 0, none⟩) 1 [y] := ⟨rfl, fun _ => ⟨W3.heap.size, 0, rfl, by omega, fun k z hz => by
          match k, hz with
          | 0, hz => injection hz with hz; subst hz; exact boxed W3 y 37⟩⟩
        have hs3 := L3.out.size
        obtain ⟨v', w4, hr, ho4, hg4⟩ := run_append_e2 (P := Try.prog) (W3.alloc (.cells #[.int .i64 y.a, .int .i64 y.b] 37)) 24 24 37 i0 _ Try.underlying24 HI.out HZ.out HS.out HBY.out rfl hO3 hone (c := 1) (by omega) (by simp; omega)
        have hb4 : Below (w.heap.size + 1 + 1) W3 w4 := ((new1 W3 (.cells #[.int .i64 y.a, .int .i64 y.b] 37)).mono (by omega)).grown hg4 (by simp; omega) (fun q hq => by
          rcases hO3.2 with ⟨e, _⟩ | ⟨g, cap, cur, e, hg, _⟩
          · rw [e] at hq; simp [Value.ownBlock] at hq
          · rw [e] at hq; simp [Value.ownBlock] at hq; omega)
        rw [← stale_hit HX.out HVV.out hst] at ho4
        obtain ⟨A4, c4, rfl, _⟩ := own_vs ho4 (by rw [stale_hit HX.out HVV.out hst, List.length_append, HM.out]; rfl)
        have O4 := Lib.hid ho4
        have L4 := Lib.hid (ls_grown L3.out hb4)
        clear hO3 hone hs3 ho4 hg4 hb4
        go_wp2_with (at_builtin; refine Lib.wpList_append_run _ rfl _ _ 24 24 rfl _ _ rfl rfl _ _ hr ?_)
        go_roundw
        case rel => exact ⟨k + 1, m + 1, c4, A4, by omega, by go_num, rfl, O4.out, fun _ => HRX.out, L4.out⟩
        case measure => simp [intOf]; omega
      · have t2 : decide (v.e < 1000) = false := decide_eq_false hst
        have HE := Lib.hid (stale_miss (C := C) HX.out HVV.out hst)
        go_wp2_with fail
        go_roundw
        case rel => exact ⟨k + 1, m, c', A', by omega, by go_num, rfl, by rw [HE.out]; exact O3.out, fun _ => HRX.out, L3.out⟩
        case measure => simp [intOf]; omega
    · obtain rfl : n = k := by omega
      have HE : Hid (staleK C R n = staleL C x R S) := Lib.hid (stale_end hln HP.out)
      go_wp2_with fail
      go_ret
      rw [← HE.out, HM.out]
      exact ⟨_, _, rfl, own_more OW.out (by omega), LW.out.bel⟩
end Go.Proofs.Ytajllccgfhminaa.ss
