/- Chapter 6: the store's version of a read, ReadsExist of the program and of the model: what each answers; nothing that was there is written. -/
import Derived.Test.YtjnlbhmddhpmaaaGreatRx
import Derived.Test.YtjnlbhmddhpmaaaGreatTf
import Derived.Test.YtjnlbhmddhpmaaaGreatTvs
import Derived.Test.YtjnlbhmddhpmaaaGreatVal
import Derived.Test.YtjnlbhmddhpmaaaGreatFind
namespace Go.Proofs.YtjnlbhmddhpmaaaGreat.rx
open Go.ChangeShapes Go.WideShapes Go.ChangeAt Go.RowKit
open Go.Proofs.YtjnlbhmddhpmaaaGreat.el2 Go.Proofs.YtjnlbhmddhpmaaaGreat.tx Go.Proofs.YtjnlbhmddhpmaaaGreat.seq Go.Proofs.YtjnlbhmddhpmaaaGreat.tv Go.Proofs.YtjnlbhmddhpmaaaGreat.tf
open Go.Proofs.YtjnlbhmddhpmaaaGreat.vers (new2)
open Go.Proofs.YtjnlbhmddhpmaaaGreat.sl (Ver)
open Go.Proofs.YtjnlbhmddhpmaaaGreat.st (Rs)
open Go.Proofs.YtjnlbhmddhpmaaaGreat.val (stB)
open Go.Proofs.YtjnlbhmddhpmaaaGreat.find (fndI)
set_option linter.unusedVariables false
set_option linter.unusedSimpArgs false
theorem qleft {P : Program} {f : FuncId} {args : Array Value} {w : World} {n : Nat} {v : Value} (h : Calls P f args (w.drewN n) fun e w' => e = .returned v ∧ w.drewN n = w') : Calls P f args (w.drewN n) fun e w'' => e = .returned v ∧ ∃ m, w'' = w.drewN m := h.mono fun _ _ ⟨he, hm⟩ => ⟨he, n, hm.symm⟩
theorem vsd {w : World} {B n : Nat} {A : Option Addr} {l : List Ver} (h : Go.Proofs.YtjnlbhmddhpmaaaGreat.sl.Vs w B A n l) (m : Nat) : Go.Proofs.YtjnlbhmddhpmaaaGreat.sl.Vs (w.drewN m) B A n l := h
set_option maxRecDepth 100000 in
set_option maxHeartbeats 3200000 in
theorem spec_rex2 {w : World} {B n c n2 c2 N cN : Nat} {A A2 D : Option Addr} {R S : List E2} {C : List (List Ver)} (x : Hd) (hn : n ≤ 140737488355328) (hn2 : n2 ≤ 140737488355328) (hN : N ≤ 140737488355328) (h1 : Vs w B A n R) (h2 : Vs w B A2 n2 S) (h3 : Rs w B D N C) (hB : B ≤ w.heap.size) (hst : stB C = true) (htx : txB x R S = true) :
    Calls Tryz.prog 19 #[.agg #[.slice D N cN], .agg #[.int .i64 x.i, .int .i64 x.s, .int .i64 x.t, .int .i64 x.b, .int .i64 x.l, .int .i64 x.h, .int .i64 x.c, .slice A n c, .slice A2 n2 c2]] w fun e w' => e = .returned (.bool (rexB C x R S)) ∧ Below w.heap.size w w' := by
  have H1 := Lib.hid h1
  have H2 := Lib.hid h2
  have H3 := Lib.hid h3
  have hln := h1.1
  clear h1 h2 h3
  rw [rex_all hst htx]
  have h6 : N = 6 := by have := val.st_six hst; rw [H3.out.1] at this; exact this
  have H6 := Lib.hid h6
  have HST := Lib.hid hst
  have HTX := Lib.hid htx
  clear hst htx h6
  go_enter Tryz.func19, Tryz.ntmps19
  go_wp2_with fail
  have hL := LS.mk2 w (.slice D N cN) 34 55 x A n c A2 n2 c2
  generalize ((w.alloc _).alloc _) = W0 at hL ⊢
  have L0 := Lib.hid hL
  have c0 := hL.st
  clear hL
  go_wp2_with fail
  refine (val.spec_store hN (H3.out.below (below_le L0.out.bel hB)) (by have := L0.out.size; omega)).mono ?_
  rintro e W1 ⟨rfl, hb⟩
  rw [HST.out]
  have L1 := Lib.hid (L0.out.call hb)
  have tb := L1.out.tb
  obtain ⟨t0, t1, t2, t3, t4, t5, t6, t7, t8⟩ := tb
  clear hb c0
  go_wp2_with fail
  refine (tvs.spec_tx x hn hn2 (H1.out.below (below_le L1.out.bel hB)) (H2.out.below (below_le L1.out.bel hB)) (by have := L1.out.size; omega)).mono ?_
  rintro e W2 ⟨rfl, hb⟩
  rw [HTX.out]
  have L2 := Lib.hid (L1.out.call hb)
  clear hb t0 t1 t2 t3 t4 t5 t6 t7 t8
  go_wp2_with fail
  go_loopw [5] (fun i wr => ∃ k : Nat, k ≤ n ∧ i = .int .i64 k ∧ (∀ (j : Nat) (y : E2), j < k → R[j]? = some y → hasV C y = true) ∧ LS w (.slice D N cN) x (.slice A n c) (.slice A2 n2 c2) wr) (fun i _ => n - (intOf i).toNat)
  case atStart => exact ⟨0, by omega, rfl, fun j y h => absurd h (by omega), L2.out⟩
  case round =>
    obtain ⟨k, hk, rfl, hP, hL⟩ := hrel
    have HP := Lib.hid hP
    have LW := Lib.hid hL
    have c0 := hL.st
    obtain ⟨t0, t1, t2, t3, t4, t5, t6, t7, t8⟩ := hL.tb
    clear hP hL t0 t1 t2 t3 t4 t5 t6 t8
    by_cases hlt : k < n
    · obtain ⟨b, o, y, rfl, hbB, hx, a0, a1⟩ := (H1.out.below (below_le LW.out.bel hB)).at_ hlt
      have hkey := key_of HTX.out hx
      have HX := Lib.hid hx
      obtain ⟨s1, s2⟩ := hkey
      have h6 := H6.out
      have s3 : y.a < (N : Int) := by omega
      have s4 : y.a.toNat < N := by omega
      clear h6
      obtain ⟨b2, o2, l, A', n', c', rfl, hb2, hl, d0, hn', hv⟩ := (H3.out.below (below_le LW.out.bel hB)).at_ s4
      have HL := Lib.hid hl
      have HV := Lib.hid hv
      clear hx hl hv
      generalize hz : fndI y.b l 0 = z
      have HZ := Lib.hid hz
      clear hz
      by_cases hzz : 0 ≤ z
      · have t : decide (z < 0) = false := decide_eq_false (by omega)
        go_wp2_with fail
        go_quiet ((go_at_call 39; exact qleft (spec_findq _ HZ.out hn' (vsd HV.out _))))
        go_wp2_with fail
        go_roundw
        case rel => exact ⟨k + 1, by omega, by go_num, all_step HP.out HX.out (has_at HL.out HZ.out (decide_eq_true hzz)), LW.out.drewN _⟩
        case measure => simp [intOf]; omega
      · have t : decide (z < 0) = true := decide_eq_true (by omega)
        go_wp2_with fail
        go_quiet ((go_at_call 39; exact qleft (spec_findq _ HZ.out hn' (vsd HV.out _))))
        go_wp2_with fail
        go_ret
        exact ⟨vers.ret_b (all_bad HX.out (has_at HL.out HZ.out (decide_eq_false (by omega)))).symm, Off1 LW.out.bel _⟩
    · obtain rfl : n = k := by omega
      go_wp2_with fail
      go_ret
      exact ⟨vers.ret_b (all_good hln HP.out).symm, LW.out.bel⟩
theorem spec_rex {w : World} {B n c n2 c2 N cN : Nat} {A A2 D : Option Addr} {R S : List E2} {C : List (List Ver)} (x : Hd) (hn : n ≤ 140737488355328) (hn2 : n2 ≤ 140737488355328) (hN : N ≤ 140737488355328) (h1 : Vs w B A n R) (h2 : Vs w B A2 n2 S) (h3 : Rs w B D N C) (hB : B ≤ w.heap.size) :
    Calls Tryz.prog 19 #[.agg #[.slice D N cN], .agg #[.int .i64 x.i, .int .i64 x.s, .int .i64 x.t, .int .i64 x.b, .int .i64 x.l, .int .i64 x.h, .int .i64 x.c, .slice A n c, .slice A2 n2 c2]] w fun e w' => e = .returned (.bool (rexB C x R S)) ∧ Below w.heap.size w w' := by
  rcases hst : stB C with _ | _
  · exact spec_rex0 x hn hn2 hN h1 h2 h3 hB hst
  · rcases htx : txB x R S with _ | _
    · exact spec_rex1 x hn hn2 hN h1 h2 h3 hB hst htx
    · exact spec_rex2 x hn hn2 hN h1 h2 h3 hB hst htx
end Go.Proofs.YtjnlbhmddhpmaaaGreat.rx
