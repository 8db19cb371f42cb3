/- RefreshHigh of the program and of the model: what each answers; nothing that was there is written. -/
import Derived.Test.YtbnkkgjkhpbgiaaGreatDoorRi
import Derived.Lib.MinMax
namespace Go.Proofs.YtbnkkgjkhpbgiaaGreatDoor.rh
open Go.ChangeShapes Go.WideShapes Go.ChangeAt Go.RowKit
open Go.Proofs.YtbnkkgjkhpbgiaaGreatDoor.el2 Go.Proofs.YtbnkkgjkhpbgiaaGreatDoor.tx Go.Proofs.YtbnkkgjkhpbgiaaGreatDoor.seq Go.Proofs.YtbnkkgjkhpbgiaaGreatDoor.tv Go.Proofs.YtbnkkgjkhpbgiaaGreatDoor.tf Go.Proofs.YtbnkkgjkhpbgiaaGreatDoor.rx Go.Proofs.YtbnkkgjkhpbgiaaGreatDoor.ri
open Go.Proofs.YtbnkkgjkhpbgiaaGreatDoor.vers (new2)
open Go.Proofs.YtbnkkgjkhpbgiaaGreatDoor.sl (Ver)
open Go.Proofs.YtbnkkgjkhpbgiaaGreatDoor.st (Rs)
open Go.Proofs.YtbnkkgjkhpbgiaaGreatDoor.val (stB)
open Go.Proofs.YtbnkkgjkhpbgiaaGreatDoor.find (fndI)
set_option linter.unusedVariables false
set_option linter.unusedSimpArgs false
/-- the least successor among the versions of the first k reads -/
noncomputable def hiK (C : List (List Ver)) (R : List E2) (k : Nat) : Int := (R.take k).foldl (fun h m => min h (verOf C m).e) 1000
noncomputable def rhI (C : List (List Ver)) (x : Hd) (R S : List E2) : Int := if rexB C x R S = true then hiK C R R.length else 0
theorem hi_step {C : List (List Ver)} {R : List E2} {k : Nat} {y : E2} {z : Int} (hx : R[k]? = some y) (hz : (verOf C y).e = z) : hiK C R (k + 1) = min (hiK C R k) z := by
  unfold hiK
  have hk := lt_get hx
  rw [List.take_add_one, hx, ← hz]
  simp [List.foldl_append]
theorem rh_no {C : List (List Ver)} {x : Hd} {R S : List E2} (h : rexB C x R S = false) : (0 : Int) = rhI C x R S := by simp [rhI, h]
theorem rh_yes {C : List (List Ver)} {x : Hd} {R S : List E2} {n : Nat} (hn : R.length = n) (h : rexB C x R S = true) : hiK C R n = rhI C x R S := by subst hn; simp [rhI, h]
theorem ret_i {a b : Int} (h : a = b) : Ending.returned (.int .i64 a) = .returned (.int .i64 b) := by rw [h]
theorem val_i {a b : Int} (h : a = b) : Value.int .i64 a = .int .i64 b := by rw [h]
set_option maxRecDepth 100000 in
set_option maxHeartbeats 3200000 in
theorem spec_rh {w : World} {B n c n2 c2 N cN : Nat} {A A2 D : Option Addr} {R S : List E2} {C : List (List Ver)} (x : Hd) (hn : n ≤ 140737488355328) (hn2 : n2 ≤ 140737488355328) (hN : N ≤ 140737488355328) (h1 : Vs w B A n R) (h2 : Vs w B A2 n2 S) (h3 : Rs w B D N C) (hB : B ≤ w.heap.size) :
    Calls Tryz.prog 33 #[.agg #[.slice D N cN], .agg #[.int .i64 x.i, .int .i64 x.s, .int .i64 x.t, .int .i64 x.b, .int .i64 x.l, .int .i64 x.h, .int .i64 x.c, .slice A n c, .slice A2 n2 c2]] w fun e w' => e = .returned (.int .i64 (rhI C x R S)) ∧ Below w.heap.size w w' := by
  have H1 := Lib.hid h1
  have H2 := Lib.hid h2
  have H3 := Lib.hid h3
  have hln := h1.1
  clear h1 h2 h3
  go_enter Tryz.func33, Tryz.ntmps33
  go_wp2_with fail
  have hL := LS.mk2 w (.slice D N cN) 26 30 x A n c A2 n2 c2
  generalize ((w.alloc _).alloc _) = W0 at hL ⊢
  have L0 := Lib.hid hL
  have c0 := hL.st
  obtain ⟨t0, t1, t2, t3, t4, t5, t6, t7, t8⟩ := hL.tb
  clear hL
  go_wp2_with fail
  refine (spec_rex x hn hn2 hN (H1.out.below (below_le L0.out.bel hB)) (H2.out.below (below_le L0.out.bel hB)) (H3.out.below (below_le L0.out.bel hB)) (by have := L0.out.size; omega)).mono ?_
  rintro e W1 ⟨rfl, hb⟩
  have L1 := Lib.hid (L0.out.call hb)
  clear hb c0 t0 t1 t2 t3 t4 t5 t6 t7 t8
  rcases hrx : rexB C x R S with _ | _
  · have HRX := Lib.hid hrx
    clear hrx
    go_wp2_with fail
    go_ret
    exact ⟨ret_i (rh_no HRX.out), L1.out.bel⟩
  have HRX := Lib.hid hrx
  clear hrx
  go_wp2_with fail
  go_loopw [5, 6, 7] (fun a i _ wr => ∃ k : Nat, k ≤ n ∧ i = .int .i64 k ∧ a = .int .i64 (hiK C R k) ∧ LS w (.slice D N cN) x (.slice A n c) (.slice A2 n2 c2) wr) (fun _ i _ _ => n - (intOf i).toNat)
  case atStart => exact ⟨0, by omega, rfl, rfl, L1.out⟩
  case round =>
    obtain ⟨k, hk, rfl, rfl, hL⟩ := hrel
    have LW := Lib.hid hL
    have c0 := hL.st
    obtain ⟨t0, t1, t2, t3, t4, t5, t6, t7, t8⟩ := hL.tb
    clear hL t0 t1 t2 t3 t4 t5 t6 t8
    by_cases hlt : k < n
    · obtain ⟨b, o, y, rfl, hbB, hx, a0, a1⟩ := (H1.out.below (below_le LW.out.bel hB)).at_ hlt
      obtain ⟨hst, htx, hall⟩ := rex_parts HRX.out
      have hkey := key_of htx hx
      have hhas := all_at hall hx
      have h6 := val.st_six hst
      rw [H3.out.1] at h6
      have HX := Lib.hid hx
      obtain ⟨s1, s2⟩ := hkey
      have s3 : y.a < (N : Int) := by omega
      have s4 : y.a.toNat < N := by omega
      clear h6 hst htx hall
      obtain ⟨b2, o2, l, A', n', c', rfl, hb2, hl, d0, hn', hv⟩ := (H3.out.below (below_le LW.out.bel hB)).at_ s4
      have HL := Lib.hid hl
      have HV := Lib.hid hv
      have hln' := hv.1
      unfold hasV at hhas
      rw [ch_at hl] at hhas
      obtain ⟨j, hj, hjl⟩ := fnd_lt (of_decide_eq_true hhas)
      clear hx hl hv hhas
      obtain ⟨b3, o3, v, rfl, hbB3, hx3, e0, e1, e2, e3, e4⟩ := HV.out.at_ (k := j) (by omega)
      have HJ := Lib.hid hj
      have HX3 := Lib.hid hx3
      have hj1 : (0 : Int) ≤ (j : Int) := by omega
      have hj2 : (j : Int) < (n' : Int) := by omega
      clear hj hx3 e0 e1 e2 e3 hjl hln'
      obtain ⟨z, hz⟩ : ∃ z, hiK C R k = z := ⟨_, rfl⟩
      rw [hz]
      have HZ := Lib.hid hz
      clear hz
      go_wp2_with fail
      go_quiet (fail)
      go_wp2_with fail
      refine (spec_findq y.b HJ.out hn' (vsd HV.out _)).mono ?_
      rintro e W2 ⟨rfl, rfl⟩
      go_wp2_with fail
      go_roundw
      case rel => exact ⟨k + 1, by omega, by go_num, val_i (by rw [hi_step HX.out (by rw [ver_at HL.out HJ.out HX3.out]), HZ.out]), LW.out.drewN _⟩
      case measure => simp [intOf]; omega
    · obtain rfl : n = k := by omega
      obtain ⟨z, hz⟩ : ∃ z, hiK C R n = z := ⟨_, rfl⟩
      rw [hz]
      have HZ := Lib.hid hz
      clear hz
      go_wp2_with fail
      go_ret
      exact ⟨ret_i (by rw [← HZ.out]; exact rh_yes hln HRX.out), LW.out.bel⟩
set_option maxRecDepth 100000 in
set_option maxHeartbeats 3200000 in
theorem impl_rh {w : World} {B n c n2 c2 N cN : Nat} {A A2 D : Option Addr} {R S : List E2} {C : List (List Ver)} (x : Hd) (hn : n ≤ 140737488355328) (hn2 : n2 ≤ 140737488355328) (hN : N ≤ 140737488355328) (h1 : Vs w B A n R) (h2 : Vs w B A2 n2 S) (h3 : Rs w B D N C) (hB : B ≤ w.heap.size) :
    Calls Tryz.prog 28 #[.agg #[.slice D N cN], .agg #[.int .i64 x.i, .int .i64 x.s, .int .i64 x.t, .int .i64 x.b, .int .i64 x.l, .int .i64 x.h, .int .i64 x.c, .slice A n c, .slice A2 n2 c2]] w fun e w' => e = .returned (.int .i64 (rhI C x R S)) ∧ Below w.heap.size w w' := by
  have H1 := Lib.hid h1
  have H2 := Lib.hid h2
  have H3 := Lib.hid h3
  have hln := h1.1
  clear h1 h2 h3
  go_enter Tryz.func28, Tryz.ntmps28
  go_wp2_with fail
  have hL := LS.mk2 w (.slice D N cN) 26 30 x A n c A2 n2 c2
  generalize ((w.alloc _).alloc _) = W0 at hL ⊢
  have L0 := Lib.hid hL
  have c0 := hL.st
  obtain ⟨t0, t1, t2, t3, t4, t5, t6, t7, t8⟩ := hL.tb
  clear hL
  go_wp2_with fail
  refine (impl_rex x hn hn2 hN (H1.out.below (below_le L0.out.bel hB)) (H2.out.below (below_le L0.out.bel hB)) (H3.out.below (below_le L0.out.bel hB)) (by have := L0.out.size; omega)).mono ?_
  rintro e W1 ⟨rfl, hb⟩
  have L1 := Lib.hid (L0.out.call hb)
  clear hb c0 t0 t1 t2 t3 t4 t5 t6 t7 t8
  rcases hrx : rexB C x R S with _ | _
  · have HRX := Lib.hid hrx
    clear hrx
    go_wp2_with fail
    go_ret
    exact ⟨ret_i (rh_no HRX.out), L1.out.bel⟩
  have HRX := Lib.hid hrx
  clear hrx
  obtain ⟨t0, t1, t2, t3, t4, t5, t6, t7, t8⟩ := L1.out.tb
  clear t0 t1 t2 t3 t4 t5 t6 t8
  go_wp2_with fail
  clear t7
  go_loopw [5, 7, 15] (fun a _ i wr => ∃ k : Nat, k ≤ n ∧ i = .int .i64 k ∧ a = .int .i64 (hiK C R k) ∧ LS w (.slice D N cN) x (.slice A n c) (.slice A2 n2 c2) wr) (fun _ _ i _ => n - (intOf i).toNat)
  case atStart => exact ⟨0, by omega, rfl, rfl, L1.out⟩
  case round =>
    obtain ⟨k, hk, rfl, rfl, hL⟩ := hrel
    have LW := Lib.hid hL
    clear hL
    obtain ⟨z, hz⟩ : ∃ z, hiK C R k = z := ⟨_, rfl⟩
    rw [hz]
    have HZ := Lib.hid hz
    clear hz
    by_cases hlt : k < n
    · obtain ⟨b, o, y, rfl, hbB, hx, a0, a1⟩ := (H1.out.below (below_le LW.out.bel hB)).at_ hlt
      obtain ⟨hst, htx, hall⟩ := rex_parts HRX.out
      have hkey := key_of htx hx
      have hhas := all_at hall hx
      have h6 := val.st_six hst
      rw [H3.out.1] at h6
      have HX := Lib.hid hx
      have HH := Lib.hid hhas
      obtain ⟨s1, s2⟩ := hkey
      have s3 : y.a < (N : Int) := by omega
      clear h6 hst htx hall hx hhas
      go_wp2_with fail
      have hb := new1 wr (.cells #[.int .i64 y.a, .int .i64 y.b] 38)
      have LX := Lib.hid (LW.out.call hb)
      clear hb a0 a1
      generalize hW : wr.alloc _ = W2 at LX ⊢
      clear hW
      refine (impl_vof y w.heap.size (by have := LX.out.size; omega) LX.out.st s1 s3 (H3.out.below (below_le LX.out.bel hB)) (by have := LX.out.size; omega)).mono ?_
      rintro e W3 ⟨⟨hn, rfl⟩ | ⟨hn, b4, o4, rfl, hbB4, hA⟩, hb1⟩
      · exact absurd hn (by rw [HH.out]; exact fun h => by cases h)
      · have L3 := Lib.hid (LX.out.call hb1)
        obtain ⟨e0, e1, e2, e3, e4⟩ := hA
        obtain ⟨u, hu⟩ : ∃ u, (verOf C y).e = u := ⟨_, rfl⟩
        rw [hu] at e4
        have HU := Lib.hid hu
        clear hb1 e0 e1 e2 e3 hn hu
        go_wp2_with fail
        go_roundw
        case rel => exact ⟨k + 1, by omega, by go_num, val_i (by rw [hi_step HX.out HU.out, HZ.out]), L3.out⟩
        case measure => simp [intOf]; omega
    · obtain rfl : n = k := by omega
      go_wp2_with fail
      go_ret
      exact ⟨ret_i (by rw [← HZ.out]; exact rh_yes hln HRX.out), LW.out.bel⟩
end Go.Proofs.YtbnkkgjkhpbgiaaGreatDoor.rh
