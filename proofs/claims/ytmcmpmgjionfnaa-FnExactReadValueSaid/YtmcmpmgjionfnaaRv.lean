/- ReadValue of the program and of the model: what each answers; nothing that was there is written. -/
import Derived.Test.YtmcmpmgjionfnaaRi
namespace Go.Proofs.Ytmcmpmgjionfnaa.rv
open Go.ChangeShapes Go.WideShapes Go.ChangeAt Go.RowKit
open Go.Proofs.Ytmcmpmgjionfnaa.el2 Go.Proofs.Ytmcmpmgjionfnaa.tx Go.Proofs.Ytmcmpmgjionfnaa.seq Go.Proofs.Ytmcmpmgjionfnaa.tv Go.Proofs.Ytmcmpmgjionfnaa.tf Go.Proofs.Ytmcmpmgjionfnaa.rx Go.Proofs.Ytmcmpmgjionfnaa.ri
open Go.Proofs.Ytmcmpmgjionfnaa.vers (new2 In in_yes)
open Go.Proofs.Ytmcmpmgjionfnaa.sl (Ver)
open Go.Proofs.Ytmcmpmgjionfnaa.st (Rs)
open Go.Proofs.Ytmcmpmgjionfnaa.val (stB)
open Go.Proofs.Ytmcmpmgjionfnaa.find (fndI)
set_option linter.unusedVariables false
set_option linter.unusedSimpArgs false
noncomputable def okB (C : List (List Ver)) (x : Hd) (R S : List E2) (k : Int) : Bool := stB C && txB x R S && In 0 5 k
noncomputable def rvB (C : List (List Ver)) (x : Hd) (R S : List E2) (k cr : Int) : Bool := okB C x R S k && (decide (0 ≤ fndW k S 0) || hasV C ⟨k, cr⟩)
noncomputable def rvV (C : List (List Ver)) (x : Hd) (R S : List E2) (k cr : Int) : Int := if rvB C x R S k cr = true then (if 0 ≤ fndW k S 0 then (S.getD (fndW k S 0).toNat default).b else (verOf C ⟨k, cr⟩).b) else 0
section
variable {C : List (List Ver)} {x : Hd} {R S : List E2} {k cr : Int}
theorem ok_st (h : stB C = false) : okB C x R S k = false := by simp [okB, h]
theorem ok_tx (h : txB x R S = false) : okB C x R S k = false := by simp [okB, h]
theorem ok_in (h : In 0 5 k = false) : okB C x R S k = false := by simp [okB, h]
theorem ok_yes (h : stB C = true) (h2 : txB x R S = true) (h3 : In 0 5 k = true) : okB C x R S k = true := by simp [okB, h, h2, h3]
theorem rvB_ok (h : okB C x R S k = false) : false = rvB C x R S k cr := by simp [rvB, h]
theorem rvB_w (h : okB C x R S k = true) (h2 : 0 ≤ fndW k S 0) : true = rvB C x R S k cr := by simp [rvB, h, h2]
theorem rvB_s (h : okB C x R S k = true) (h2 : fndW k S 0 < 0) : hasV C ⟨k, cr⟩ = rvB C x R S k cr := by
  have h3 : ¬ 0 ≤ fndW k S 0 := by omega
  simp [rvB, h, h3]
theorem rvV_no (h : false = rvB C x R S k cr) : 0 = rvV C x R S k cr := by simp [rvV, ← h]
theorem rvV_w {j : Nat} {m : E2} (h : okB C x R S k = true) (h2 : fndW k S 0 = j) (hm : S[j]? = some m) : m.b = rvV C x R S k cr := by
  have h0 : 0 ≤ fndW k S 0 := by omega
  rw [rvV, if_pos (rvB_w h h0).symm, if_pos h0, h2]
  simp [List.getD, hm]
theorem rvV_s (h : okB C x R S k = true) (h2 : fndW k S 0 < 0) (h3 : hasV C ⟨k, cr⟩ = true) : (verOf C ⟨k, cr⟩).b = rvV C x R S k cr := by
  rw [rvV, if_pos ((rvB_s h h2).symm.trans h3), if_neg (by omega)]
theorem ret_2 {a b : Int} {p q : Bool} (h : a = b) (h2 : p = q) : Ending.returned (.tuple #[.int .i64 a, .bool p]) = .returned (.tuple #[.int .i64 b, .bool q]) := by rw [h, h2]
end
theorem fndw_range (c : Int) (l : List E2) (k : Nat) : fndW c l k = -1 ∨ ((k : Int) ≤ fndW c l k ∧ fndW c l k < k + l.length) := by
  induction l generalizing k with
  | nil => left; rfl
  | cons x r ih =>
    unfold fndW
    split
    · right
      refine ⟨by omega, ?_⟩
      simp
      omega
    · rcases ih (k + 1) with h | ⟨h1, h2⟩
      · left; exact h
      · right
        refine ⟨by omega, ?_⟩
        simp only [List.length_cons]
        omega
theorem fndw_lt {c : Int} {l : List E2} (h : 0 ≤ fndW c l 0) : ∃ j : Nat, fndW c l 0 = j ∧ j < l.length := by
  rcases fndw_range c l 0 with e | ⟨h1, h2⟩
  · omega
  · exact ⟨(fndW c l 0).toNat, by omega, by omega⟩
set_option maxRecDepth 100000 in
set_option maxHeartbeats 3200000 in
theorem spec_rv {w : World} {B n c n2 c2 N cN : Nat} {A A2 D : Option Addr} {R S : List E2} {C : List (List Ver)} (x : Hd) (key cr : Int) (hn : n ≤ 140737488355328) (hn2 : n2 ≤ 140737488355328) (hN : N ≤ 140737488355328) (h1 : Vs w B A n R) (h2 : Vs w B A2 n2 S) (h3 : Rs w B D N C) (hB : B ≤ w.heap.size) :
    Calls Try.prog 37 #[.agg #[.slice D N cN], .agg #[.int .i64 x.i, .int .i64 x.s, .int .i64 x.t, .int .i64 x.b, .int .i64 x.l, .int .i64 x.h, .int .i64 x.c, .slice A n c, .slice A2 n2 c2], .int .i64 key, .int .i64 cr] w fun e w' => e = .returned (.tuple #[.int .i64 (rvV C x R S key cr), .bool (rvB C x R S key cr)]) ∧ Below w.heap.size w w' := by
  have H1 := Lib.hid h1
  have H2 := Lib.hid h2
  have H3 := Lib.hid h3
  clear h1 h2 h3
  go_enter Try.func37, Try.ntmps37
  go_wp2_with fail
  have hL := LS.mk2 w (.slice D N cN) 40 27 x A n c A2 n2 c2
  generalize ((w.alloc _).alloc _) = W0 at hL ⊢
  have L0 := Lib.hid hL
  have c0 := hL.st
  clear hL
  go_wp2_with fail
  refine (val.spec_store hN (H3.out.below (below_le L0.out.bel hB)) (by have := L0.out.size; omega)).mono ?_
  rintro e W1 ⟨rfl, hb⟩
  have L1 := Lib.hid (L0.out.call hb)
  obtain ⟨t0, t1, t2, t3, t4, t5, t6, t7, t8⟩ := L1.out.tb
  clear hb c0
  rcases hst : stB C with _ | _
  · have HST := Lib.hid hst
    clear hst t0 t1 t2 t3 t4 t5 t6 t7 t8
    go_wp2_with fail
    go_ret2
    exact ⟨ret_2 (rvV_no (rvB_ok (ok_st HST.out))) (rvB_ok (ok_st HST.out)), L1.out.bel⟩
  have HST := Lib.hid hst
  clear hst
  go_wp2_with fail
  refine (tvs.spec_tx x hn hn2 (H1.out.below (below_le L1.out.bel hB)) (H2.out.below (below_le L1.out.bel hB)) (by have := L1.out.size; omega)).mono ?_
  rintro e W2 ⟨rfl, hb⟩
  have L2 := Lib.hid (L1.out.call hb)
  clear hb t0 t1 t2 t3 t4 t5 t6 t7 t8
  rcases htx : txB x R S with _ | _
  · have HTX := Lib.hid htx
    clear htx
    go_wp2_with fail
    go_ret2
    exact ⟨ret_2 (rvV_no (rvB_ok (ok_tx HTX.out))) (rvB_ok (ok_tx HTX.out)), L2.out.bel⟩
  have HTX := Lib.hid htx
  clear htx
  go_wp2_with fail
  refine (vers.in_range _ _ _ _).mono ?_
  rintro e W3 ⟨rfl, rfl⟩
  rcases hin : In 0 5 key with _ | _
  · have HIN := Lib.hid hin
    clear hin
    go_wp2_with fail
    go_ret2
    exact ⟨ret_2 (rvV_no (rvB_ok (ok_in HIN.out))) (rvB_ok (ok_in HIN.out)), L2.out.bel⟩
  have OK := Lib.hid (ok_yes HST.out HTX.out hin)
  obtain ⟨s1, s2⟩ := in_yes hin
  have h6 := val.st_six HST.out
  rw [H3.out.1] at h6
  have s3 : key < (N : Int) := by omega
  have s4 : key.toNat < N := by omega
  obtain ⟨t0, t1, t2, t3, t4, t5, t6, t7, t8⟩ := L2.out.tb
  clear hin h6 s2
  go_wp2_with fail
  refine (spec_findw x key hn hn2 (H1.out.below (below_le L2.out.bel hB)) (H2.out.below (below_le L2.out.bel hB)) (by have := L2.out.size; omega)).mono ?_
  rintro e W4 ⟨rfl, hb⟩
  have L4 := Lib.hid (L2.out.call hb)
  clear hb t0 t1 t2 t3 t4 t5 t6 t7 t8
  by_cases hz : 0 ≤ fndW key S 0
  · obtain ⟨j, hj, hjl⟩ := fndw_lt hz
    rw [hj]
    have hln := H2.out.1
    obtain ⟨b, o, m, rfl, hbB, hx, a0, a1⟩ := (H2.out.below (below_le L4.out.bel hB)).at_ (k := j) (by omega)
    have HJ := Lib.hid hj
    have HX := Lib.hid hx
    obtain ⟨t0, t1, t2, t3, t4, t5, t6, t7, t8⟩ := L4.out.tb
    have hj0 : (0 : Int) ≤ (j : Int) := by omega
    have hj1 : (j : Int) < (n2 : Int) := by omega
    have t : decide (0 ≤ (j : Int)) = true := decide_eq_true hj0
    clear hj hx hz hjl hln t0 t1 t2 t3 t4 t5 t6 t7 a0
    go_wp2_with fail
    go_ret2
    exact ⟨ret_2 (rvV_w OK.out HJ.out HX.out) (rvB_w OK.out (by rw [HJ.out]; omega)), L4.out.bel⟩
  obtain ⟨z, hzz⟩ : ∃ z, fndW key S 0 = z := ⟨_, rfl⟩
  rw [hzz] at hz ⊢
  have t : decide (0 ≤ z) = false := decide_eq_false hz
  have HZ : Hid (fndW key S 0 < 0) := Lib.hid (by rw [hzz]; omega)
  clear hzz hz
  have c0 := L4.out.st
  obtain ⟨b2, o2, l, A', n', c', rfl, hb2, hl, d0, hn', hv⟩ := (H3.out.below (below_le L4.out.bel hB)).at_ s4
  have HL := Lib.hid hl
  have HV := Lib.hid hv
  have hln' := hv.1
  clear hl hv
  obtain ⟨u, hu⟩ : ∃ u, fndI cr l 0 = u := ⟨_, rfl⟩
  have HU := Lib.hid hu
  clear hu
  go_wp2_with fail
  refine (spec_findq cr HU.out hn' HV.out).mono ?_
  rintro e W5 ⟨rfl, rfl⟩
  by_cases hu0 : 0 ≤ u
  · obtain ⟨j, hj, hjl⟩ := fnd_lt (c := cr) (l := l) (by rw [HU.out]; exact hu0)
    have hj2 : u = (j : Int) := by rw [← HU.out]; exact hj
    subst hj2
    obtain ⟨b, o, v, rfl, hbB, hx, a0, a1, a2, a3, a4⟩ := HV.out.at_ (k := j) (by omega)
    have hjn : (j : Int) < (n' : Int) := by omega
    have t2 : decide ((j : Int) < 0) = false := decide_eq_false (by omega)
    have HX := Lib.hid hx
    have HH : Hid (hasV C ⟨key, cr⟩ = true) := Lib.hid (has_at HL.out HU.out (decide_eq_true hu0))
    have HE : Hid (verOf C ⟨key, cr⟩ = v) := Lib.hid (ver_at HL.out HU.out HX.out)
    clear hx hj hjl hln' a0 a2 a3 a4
    go_wp2_with fail
    go_ret2
    exact ⟨ret_2 (by rw [← rvV_s OK.out HZ.out HH.out, HE.out]) (by rw [← rvB_s OK.out HZ.out, HH.out]), L4.out.bel⟩
  · have t2 : decide (u < 0) = true := decide_eq_true (by omega)
    have HH : Hid (hasV C ⟨key, cr⟩ = false) := Lib.hid (has_at HL.out HU.out (decide_eq_false hu0))
    have HR : Hid (false = rvB C x R S key cr) := Lib.hid (by rw [← rvB_s OK.out HZ.out, HH.out])
    go_wp2_with fail
    go_ret2
    exact ⟨ret_2 (rvV_no HR.out) HR.out, L4.out.bel⟩
set_option maxRecDepth 100000 in
set_option maxHeartbeats 3200000 in
theorem impl_rv {w : World} {B n c n2 c2 N cN : Nat} {A A2 D : Option Addr} {R S : List E2} {C : List (List Ver)} (x : Hd) (key cr : Int) (hn : n ≤ 140737488355328) (hn2 : n2 ≤ 140737488355328) (hN : N ≤ 140737488355328) (h1 : Vs w B A n R) (h2 : Vs w B A2 n2 S) (h3 : Rs w B D N C) (hB : B ≤ w.heap.size) :
    Calls Try.prog 38 #[.agg #[.slice D N cN], .agg #[.int .i64 x.i, .int .i64 x.s, .int .i64 x.t, .int .i64 x.b, .int .i64 x.l, .int .i64 x.h, .int .i64 x.c, .slice A n c, .slice A2 n2 c2], .int .i64 key, .int .i64 cr] w fun e w' => e = .returned (.tuple #[.int .i64 (rvV C x R S key cr), .bool (rvB C x R S key cr)]) ∧ Below w.heap.size w w' := by
  have H1 := Lib.hid h1
  have H2 := Lib.hid h2
  have H3 := Lib.hid h3
  clear h1 h2 h3
  go_enter Try.func38, Try.ntmps38
  go_wp2_with fail
  have hL := LS.mk2 w (.slice D N cN) 40 27 x A n c A2 n2 c2
  generalize ((w.alloc _).alloc _) = W0 at hL ⊢
  have L0 := Lib.hid hL
  have c0 := hL.st
  clear hL
  go_wp2_with fail
  refine (val.impl_store hN (H3.out.below (below_le L0.out.bel hB)) (by have := L0.out.size; omega)).mono ?_
  rintro e W1 ⟨rfl, hb⟩
  have L1 := Lib.hid (L0.out.call hb)
  obtain ⟨t0, t1, t2, t3, t4, t5, t6, t7, t8⟩ := L1.out.tb
  clear hb c0
  rcases hst : stB C with _ | _
  · have HST := Lib.hid hst
    clear hst t0 t1 t2 t3 t4 t5 t6 t7 t8
    go_wp2_with fail
    go_ret2
    exact ⟨ret_2 (rvV_no (rvB_ok (ok_st HST.out))) (rvB_ok (ok_st HST.out)), L1.out.bel⟩
  have HST := Lib.hid hst
  clear hst
  go_wp2_with fail
  refine (tv.impl_tx x hn hn2 (H1.out.below (below_le L1.out.bel hB)) (H2.out.below (below_le L1.out.bel hB)) (by have := L1.out.size; omega)).mono ?_
  rintro e W2 ⟨rfl, hb⟩
  have L2 := Lib.hid (L1.out.call hb)
  clear hb t0 t1 t2 t3 t4 t5 t6 t7 t8
  rcases htx : txB x R S with _ | _
  · have HTX := Lib.hid htx
    clear htx
    go_wp2_with fail
    go_ret2
    exact ⟨ret_2 (rvV_no (rvB_ok (ok_tx HTX.out))) (rvB_ok (ok_tx HTX.out)), L2.out.bel⟩
  have HTX := Lib.hid htx
  clear htx
  go_wp2_with fail
  refine (tv.is_key _ _).mono ?_
  rintro e W3 ⟨rfl, rfl⟩
  rcases hin : In 0 5 key with _ | _
  · have HIN := Lib.hid hin
    clear hin
    go_wp2_with fail
    go_ret2
    exact ⟨ret_2 (rvV_no (rvB_ok (ok_in HIN.out))) (rvB_ok (ok_in HIN.out)), L2.out.bel⟩
  have OK := Lib.hid (ok_yes HST.out HTX.out hin)
  obtain ⟨s1, s2⟩ := in_yes hin
  have h6 := val.st_six HST.out
  rw [H3.out.1] at h6
  have s3 : key < (N : Int) := by omega
  have s4 : key.toNat < N := by omega
  obtain ⟨t0, t1, t2, t3, t4, t5, t6, t7, t8⟩ := L2.out.tb
  clear hin h6 s2
  go_wp2_with fail
  refine (impl_findw x key hn hn2 (H1.out.below (below_le L2.out.bel hB)) (H2.out.below (below_le L2.out.bel hB)) (by have := L2.out.size; omega)).mono ?_
  rintro e W4 ⟨rfl, hb⟩
  have L4 := Lib.hid (L2.out.call hb)
  clear hb t0 t1 t2 t3 t4 t5 t6 t7 t8
  by_cases hz : 0 ≤ fndW key S 0
  · obtain ⟨j, hj, hjl⟩ := fndw_lt hz
    rw [hj]
    have hln := H2.out.1
    obtain ⟨b, o, m, rfl, hbB, hx, a0, a1⟩ := (H2.out.below (below_le L4.out.bel hB)).at_ (k := j) (by omega)
    have HJ := Lib.hid hj
    have HX := Lib.hid hx
    obtain ⟨t0, t1, t2, t3, t4, t5, t6, t7, t8⟩ := L4.out.tb
    have hj0 : (0 : Int) ≤ (j : Int) := by omega
    have hj1 : (j : Int) < (n2 : Int) := by omega
    have t : decide (0 ≤ (j : Int)) = true := decide_eq_true hj0
    clear hj hx hz hjl hln t0 t1 t2 t3 t4 t5 t6 t7 a0
    go_wp2_with fail
    go_ret2
    exact ⟨ret_2 (rvV_w OK.out HJ.out HX.out) (rvB_w OK.out (by rw [HJ.out]; omega)), L4.out.bel⟩
  obtain ⟨z, hzz⟩ : ∃ z, fndW key S 0 = z := ⟨_, rfl⟩
  rw [hzz] at hz ⊢
  have t : decide (0 ≤ z) = false := decide_eq_false hz
  have HZ : Hid (fndW key S 0 < 0) := Lib.hid (by rw [hzz]; omega)
  clear hzz hz
  have c0 := L4.out.st
  go_wp2_with fail
  refine (impl_vof (⟨key, cr⟩ : E2) w.heap.size (by have := L4.out.size; omega) c0 s1 s3 (H3.out.below (below_le L4.out.bel hB)) (by have := L4.out.size; omega)).mono ?_
  rintro e W5 ⟨⟨hh, rfl⟩ | ⟨hh, b4, o4, rfl, hbB4, hA⟩, hb⟩
  · have HB5 := Lib.hid (L4.out.call hb).bel
    have HR : Hid (false = rvB C x R S key cr) := Lib.hid (by rw [← rvB_s OK.out HZ.out, hh])
    clear hb hh c0
    go_wp2_with fail
    go_ret2
    exact ⟨ret_2 (rvV_no HR.out) HR.out, HB5.out⟩
  · have HB5 := Lib.hid (L4.out.call hb).bel
    have HH := Lib.hid hh
    obtain ⟨e0, e1, e2, e3, e4⟩ := hA
    obtain ⟨u, hu⟩ : ∃ u, (verOf C ⟨key, cr⟩).b = u := ⟨_, rfl⟩
    rw [hu] at e1
    have HU := Lib.hid hu
    clear hb hh e0 e2 e3 e4 hu c0
    go_wp2_with fail
    go_ret2
    exact ⟨ret_2 (by rw [← rvV_s OK.out HZ.out HH.out, HU.out]) (by rw [← rvB_s OK.out HZ.out, HH.out]), HB5.out⟩
end Go.Proofs.Ytmcmpmgjionfnaa.rv
