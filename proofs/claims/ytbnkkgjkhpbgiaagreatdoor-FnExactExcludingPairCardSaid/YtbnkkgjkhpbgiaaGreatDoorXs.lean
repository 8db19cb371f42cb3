/- ExcludingPair of the model: what it answers; nothing that was there is written. -/
import Derived.Test.YtbnkkgjkhpbgiaaGreatDoorLq
import Derived.Test.YtbnkkgjkhpbgiaaGreatDoorLo
import Derived.Test.YtbnkkgjkhpbgiaaGreatDoorFw
namespace Go.Proofs.YtbnkkgjkhpbgiaaGreatDoor.xs
open Go.ChangeShapes Go.WideShapes Go.ChangeAt Go.RowKit
open Go.Proofs.YtbnkkgjkhpbgiaaGreatDoor.el2 Go.Proofs.YtbnkkgjkhpbgiaaGreatDoor.tx Go.Proofs.YtbnkkgjkhpbgiaaGreatDoor.seq Go.Proofs.YtbnkkgjkhpbgiaaGreatDoor.tv Go.Proofs.YtbnkkgjkhpbgiaaGreatDoor.tf Go.Proofs.YtbnkkgjkhpbgiaaGreatDoor.rx Go.Proofs.YtbnkkgjkhpbgiaaGreatDoor.ri Go.Proofs.YtbnkkgjkhpbgiaaGreatDoor.rl Go.Proofs.YtbnkkgjkhpbgiaaGreatDoor.ov Go.Proofs.YtbnkkgjkhpbgiaaGreatDoor.bx Go.Proofs.YtbnkkgjkhpbgiaaGreatDoor.mx Go.Proofs.YtbnkkgjkhpbgiaaGreatDoor.em Go.Proofs.YtbnkkgjkhpbgiaaGreatDoor.ep
open Go.Proofs.YtbnkkgjkhpbgiaaGreatDoor.vers (new2)
open Go.Proofs.YtbnkkgjkhpbgiaaGreatDoor.sl (Ver)
open Go.Proofs.YtbnkkgjkhpbgiaaGreatDoor.st (Rs)
open Go.Proofs.YtbnkkgjkhpbgiaaGreatDoor.val (stB)
set_option linter.unusedVariables false
set_option linter.unusedSimpArgs false
open Go.Proofs.YtbnkkgjkhpbgiaaGreatDoor.fw Go.Proofs.YtbnkkgjkhpbgiaaGreatDoor.lq
open Go.Proofs.YtbnkkgjkhpbgiaaGreatDoor.rh (rhI)
theorem ret_p {a a2 b b2 : E2} {p q : Bool} (h : a = a2) (h2 : b = b2) (h3 : p = q) : Ending.returned (.tuple #[.agg #[.int .i64 a.a, .int .i64 a.b], .agg #[.int .i64 b.a, .int .i64 b.b], .bool p]) = .returned (.tuple #[.agg #[.int .i64 a2.a, .int .i64 a2.b], .agg #[.int .i64 b2.a, .int .i64 b2.b], .bool q]) := by rw [h, h2, h3]
set_option maxRecDepth 100000 in
set_option maxHeartbeats 6400000 in
theorem spec_xp {w : World} {B n c n2 c2 N cN : Nat} {A A2 D : Option Addr} {R S : List E2} {C : List (List Ver)} (x : Hd) (z : Int) (hn : n ≤ 1048576) (hn2 : n2 ≤ 1048576) (hN : N ≤ 1048576) (h1 : Vs w B A n R) (h2 : Vs w B A2 n2 S) (h3 : Rs w B D N C) (hB : B ≤ w.heap.size) :
    Calls Tryz.prog 14 #[.agg #[.slice D N cN], .agg #[.int .i64 x.i, .int .i64 x.s, .int .i64 x.t, .int .i64 x.b, .int .i64 x.l, .int .i64 x.h, .int .i64 x.c, .slice A n c, .slice A2 n2 c2], .int .i64 z] w fun e w' => e = .returned (.tuple #[.agg #[.int .i64 (xpL C x R S z).a, .int .i64 (xpL C x R S z).b], .agg #[.int .i64 (xpH C x R S z).a, .int .i64 (xpH C x R S z).b], .bool (xpB C x R S z)]) ∧ Below w.heap.size w w' := by
  have H1 := Lib.hid h1
  have H2 := Lib.hid h2
  have H3 := Lib.hid h3
  have hln := h1.1
  clear h1 h2 h3
  obtain ⟨q1, hq1⟩ : ∃ q, rlI C x R S = q := ⟨_, rfl⟩
  obtain ⟨q2, hq2⟩ : ∃ q, rhI C x R S = q := ⟨_, rfl⟩
  have HQ1 := Lib.hid hq1
  have HQ2 := Lib.hid hq2
  clear hq1 hq2
  obtain ⟨m1, hm1⟩ : ∃ q, fstAt (cand C R S) (rlI C x R S) = q := ⟨_, rfl⟩
  have HM1 := Lib.hid hm1
  clear hm1
  obtain ⟨fa, ha⟩ : ∃ q, fwL C x R S z = q := ⟨_, rfl⟩
  obtain ⟨fb, hb0⟩ : ∃ q, fwH C x R S z = q := ⟨_, rfl⟩
  have HA := Lib.hid ha
  have HBB := Lib.hid hb0
  clear ha hb0
  go_enter Tryz.func14, Tryz.ntmps14
  go_wp2_with fail
  have hL := LQ.mk4 w x A A2 D n c n2 c2 N cN
  generalize ((((w.alloc _).alloc _).alloc _).alloc _) = W0 at hL ⊢
  have L0 := Lib.hid hL
  have c0 := hL.ls.st
  obtain ⟨t0, t1, t2, t3, t4, t5, t6, t7, t8⟩ := hL.ls.tb
  clear hL
  go_wp2_with fail
  refine (spec_fw x z (by omega) (by omega) (by omega) (H1.out.below (below_le L0.out.ls.bel hB)) (H2.out.below (below_le L0.out.ls.bel hB)) (H3.out.below (below_le L0.out.ls.bel hB)) (by have := L0.out.size; omega)).mono ?_
  rintro e W1 ⟨he, hb⟩
  rw [HA.out, HBB.out] at he
  have L1 := Lib.hid (L0.out.call hb)
  clear hb c0 t0 t1 t2 t3 t4 t5 t6 t7 t8
  obtain ⟨fq, hfq⟩ : ∃ q, fwB C x R S z = q := ⟨_, rfl⟩
  rw [hfq] at he
  subst he
  have HFQ := Lib.hid hfq
  clear hfq
  have c0 := L1.out.ls.st
  obtain ⟨t0, t1, t2, t3, t4, t5, t6, t7, t8⟩ := L1.out.ls.tb
  go_wp2_with fail
  refine (Go.Proofs.YtbnkkgjkhpbgiaaGreatDoor.rh.spec_rh x (by omega) (by omega) (by omega) (H1.out.below (below_le L1.out.ls.bel hB)) (H2.out.below (below_le L1.out.ls.bel hB)) (H3.out.below (below_le L1.out.ls.bel hB)) (by have := L1.out.size; omega)).mono ?_
  rintro e W2 ⟨he, hb⟩
  rw [HQ2.out] at he
  subst he
  have L2 := Lib.hid (L1.out.call hb)
  clear hb c0 t0 t1 t2 t3 t4 t5 t6 t7 t8
  cases fq
  case false =>
    have HX := Lib.hid (xp_no HFQ.out)
    obtain ⟨z0, z1⟩ := L2.out.r1.cells
    obtain ⟨y0, y1⟩ := L2.out.r2.cells
    have f0 := L2.out.r1.fz 0
    have f1 := L2.out.r1.fz 1
    have g0 := L2.out.r2.fz 0
    have g1 := L2.out.r2.fz 1
    go_wp2_with fail
    clear z0 z1 y0 y1 f0 f1 g0 g1
    generalize hW : World.setCell _ _ _ = W9
    have hp : LQ w (.slice D N cN) x (.slice A n c) (.slice A2 n2 c2) (⟨0, 0⟩ : E2) (⟨0, 0⟩ : E2) W9 := by first | (rw [← hW]; exact (L2.out.put1 (⟨0, 0⟩ : E2)).put2 (⟨0, 0⟩ : E2)) | (rw [← hW]; exact (L2.out.put2 (⟨0, 0⟩ : E2)).put1 (⟨0, 0⟩ : E2))
    obtain ⟨e0, e1⟩ := hp.r1.cells
    obtain ⟨e2, e3⟩ := hp.r2.cells
    exact bodyPost_ret (v := .tuple #[.agg #[.int .i64 ((⟨0, 0⟩ : E2)).a, .int .i64 ((⟨0, 0⟩ : E2)).b], .agg #[.int .i64 ((⟨0, 0⟩ : E2)).a, .int .i64 ((⟨0, 0⟩ : E2)).b], .bool false]) (by simp [results, Tryz.results14, go_sem, e0, e1, e2, e3]) rfl ⟨ret_p (xpL_no HX.out).symm (xpH_no HX.out).symm HX.out.symm, by first | exact hp.ls.bel | exact hp.ls.bel.drew⟩
  case true =>
    have HRX := Lib.hid (fw_parts HFQ.out).1
    have c0 := L2.out.ls.st
    obtain ⟨t0, t1, t2, t3, t4, t5, t6, t7, t8⟩ := L2.out.ls.tb
    go_wp2_with fail
    refine (spec_rl x (by omega) (by omega) (by omega) (H1.out.below (below_le L2.out.ls.bel hB)) (H2.out.below (below_le L2.out.ls.bel hB)) (H3.out.below (below_le L2.out.ls.bel hB)) (by have := L2.out.size; omega)).mono ?_
    rintro e W3 ⟨he, hb⟩
    rw [HQ1.out] at he
    subst he
    have L3 := Lib.hid (L2.out.call hb)
    clear hb c0 t0 t1 t2 t3 t4 t5 t6 t7 t8
    by_cases hlt : q1 < q2
    · have HX := Lib.hid (xp_lt (C := C) (x := x) (R := R) (S := S) (z := z) (by rw [HQ1.out, HQ2.out]; exact hlt))
      have t : decide (q1 < q2) = true := decide_eq_true hlt
      clear hlt
      obtain ⟨z0, z1⟩ := L3.out.r1.cells
      obtain ⟨y0, y1⟩ := L3.out.r2.cells
      have f0 := L3.out.r1.fz 0
      have f1 := L3.out.r1.fz 1
      have g0 := L3.out.r2.fz 0
      have g1 := L3.out.r2.fz 1
      go_wp2_with fail
      clear z0 z1 y0 y1 f0 f1 g0 g1
      generalize hW : World.setCell _ _ _ = W9
      have hp : LQ w (.slice D N cN) x (.slice A n c) (.slice A2 n2 c2) (⟨0, 0⟩ : E2) (⟨0, 0⟩ : E2) W9 := by first | (rw [← hW]; exact (L3.out.put1 (⟨0, 0⟩ : E2)).put2 (⟨0, 0⟩ : E2)) | (rw [← hW]; exact (L3.out.put2 (⟨0, 0⟩ : E2)).put1 (⟨0, 0⟩ : E2))
      obtain ⟨e0, e1⟩ := hp.r1.cells
      obtain ⟨e2, e3⟩ := hp.r2.cells
      exact bodyPost_ret (v := .tuple #[.agg #[.int .i64 ((⟨0, 0⟩ : E2)).a, .int .i64 ((⟨0, 0⟩ : E2)).b], .agg #[.int .i64 ((⟨0, 0⟩ : E2)).a, .int .i64 ((⟨0, 0⟩ : E2)).b], .bool false]) (by simp [results, Tryz.results14, go_sem, e0, e1, e2, e3]) rfl ⟨ret_p (xpL_no HX.out).symm (xpH_no HX.out).symm HX.out.symm, by first | exact hp.ls.bel | exact hp.ls.bel.drew⟩
    · have HX := Lib.hid (xp_yes HFQ.out (by rw [HQ1.out, HQ2.out]; omega))
      have t : decide (q1 < q2) = false := decide_eq_false hlt
      clear hlt
      go_wp2_with fail
      clear t
      go_loopw [13, 14] (fun i _ wr => ∃ k : Nat, k ≤ n ∧ i = .int .i64 k ∧ (∀ (j : Nat) (z : E2), j < k → R[j]? = some z → (verOf C z).e ≠ q2) ∧ LQ w (.slice D N cN) x (.slice A n c) (.slice A2 n2 c2) ⟨0, 0⟩ ⟨0, 0⟩ wr) (fun i _ _ => n - (intOf i).toNat)
      case atStart => exact ⟨0, by omega, rfl, fun j z hj => absurd hj (by omega), L3.out⟩
      case round =>
        obtain ⟨k, hk, rfl, hP, hL⟩ := hrel
        have LW := Lib.hid hL
        have HPP := Lib.hid hP
        have c0 := hL.ls.st
        obtain ⟨t0, t1, t2, t3, t4, t5, t6, t7, t8⟩ := hL.ls.tb
        clear hL hP t0 t1 t2 t3 t4 t5 t6 t8
        by_cases hlt : k < n
        · obtain ⟨b, o, y, rfl, hbB, hx, a0, a1⟩ := (H1.out.below (below_le LW.out.ls.bel hB)).at_ hlt
          obtain ⟨hst, htx, hall⟩ := rex_parts HRX.out
          have hkey := key_of htx hx
          have hhas := all_at hall hx
          have h6 := val.st_six hst
          rw [H3.out.1] at h6
          have HX2 := Lib.hid hx
          obtain ⟨s1, s2⟩ := hkey
          have s3 : y.a < (N : Int) := by omega
          have s4 : y.a.toNat < N := by omega
          clear h6 hst htx hall
          obtain ⟨b2, o2, l, A', n', c', rfl, hb2, hl, d0, hn', hv⟩ := (H3.out.below (below_le LW.out.ls.bel hB)).at_ s4
          have HL := Lib.hid hl
          have HV := Lib.hid hv
          have hln' := hv.1
          unfold hasV at hhas
          rw [ch_at hl] at hhas
          obtain ⟨j, hj, hjl⟩ := fnd_lt (of_decide_eq_true hhas)
          clear hx hl hv hhas
          obtain ⟨b3, o3, v, rfl, hbB3, hx3, e0, e1, e2, e3, e4⟩ := HV.out.at_ (k := j) (by omega)
          have HJ := Lib.hid hj
          have HVE : Hid ((verOf C y).e = v.e) := Lib.hid (by rw [ver_at HL.out hj hx3])
          have hj1 : (0 : Int) ≤ (j : Int) := by omega
          have hj2 : (j : Int) < (n' : Int) := by omega
          clear hj hx3 e0 e1 e2 e3 hjl hln'
          go_wp2_with fail
          go_quiet (fail)
          go_wp2_with fail
          refine (spec_findq y.b HJ.out hn' (vsd HV.out _)).mono ?_
          rintro e W4 ⟨rfl, rfl⟩
          generalize hW : wr.drewN _ = W4
          have L4 : Hid (LQ w (.slice (some ⟨b2, o2, none⟩) N cN) x (.slice (some ⟨b, o, none⟩) n c) (.slice A2 n2 c2) ⟨0, 0⟩ ⟨0, 0⟩ W4) := Lib.hid (by rw [← hW]; exact LW.out.drewN _)
          have a0' : W4.cell? ⟨b, o + k * 2, none⟩ = some (.int .i64 y.a) := by rw [← hW]; exact a0
          have a1' : W4.cell? ⟨b, o + k * 2 + 1, none⟩ = some (.int .i64 y.b) := by rw [← hW]; exact a1
          have e4' : W4.cell? ⟨b3, o3 + j * 5 + 4, none⟩ = some (.int .i64 v.e) := by rw [← hW]; exact e4
          clear hW c0 t7 a0 a1 e4 d0
          have hsz4 := L4.out.size
          have hwb := L4.out.ls.bel.size
          have hlb : b < W4.heap.size := by omega
          by_cases hvq : v.e = q2
          · have tq : (v.e == q2) = true := by simpa using hvq
            have HVQ := Lib.hid hvq
            have HM2 := Lib.hid (hm_hit HX2.out (HVE.out.trans hvq) HPP.out)
            have HNE := Lib.hid (xp_ne HX.out)
            clear hvq
            have c0 := L4.out.ls.st
            obtain ⟨t0, t1, t2, t3, t4, t5, t6, t7, t8⟩ := L4.out.ls.tb
            go_wp2_with fail
            clear tq
            have hbk0 : Below W4.heap.size W4 W4.drew := (Below.refl _ _).drew
            have M0 := Lib.hid (L4.out.call hbk0)
            go_region_held3 (fun w' => w'.cell? ⟨w.heap.size, 0, none⟩ = some (.slice (some ⟨b2, o2, none⟩) N cN) ∧ w'.cell? ⟨w.heap.size + 1, 0, none⟩ = some (.int .i64 x.i) ∧ w'.cell? ⟨w.heap.size + 1, 1, none⟩ = some (.int .i64 x.s) ∧ w'.cell? ⟨w.heap.size + 1, 2, none⟩ = some (.int .i64 x.t) ∧ w'.cell? ⟨w.heap.size + 1, 3, none⟩ = some (.int .i64 x.b) ∧ w'.cell? ⟨w.heap.size + 1, 4, none⟩ = some (.int .i64 x.l) ∧ w'.cell? ⟨w.heap.size + 1, 5, none⟩ = some (.int .i64 x.h) ∧ w'.cell? ⟨w.heap.size + 1, 6, none⟩ = some (.int .i64 x.c) ∧ w'.cell? ⟨w.heap.size + 1, 7, none⟩ = some (.slice (some ⟨b, o, none⟩) n c) ∧ w'.cell? ⟨w.heap.size + 1, 8, none⟩ = some (.slice A2 n2 c2) ∧ w'.cell? ⟨b, o + k * 2, none⟩ = some (.int .i64 y.a) ∧ w'.cell? ⟨b, o + k * 2 + 1, none⟩ = some (.int .i64 y.b)) (first | ((repeat' apply And.intro) <;> first | with_reducible exact (cell2 (by simp only; omega)).trans (by assumption) | with_reducible exact (cell2 (by simp only; omega)).trans ((cell2 (by simp only; omega)).trans (by assumption))) | go_keep) (first | (go_at_call 37; (with_reducible refine (Go.Proofs.YtbnkkgjkhpbgiaaGreatDoor.lo.spec_lo x (by omega) (by omega) (by omega) (H1.out.below (below_le M0.out.ls.bel hB)) (H2.out.below (below_le M0.out.ls.bel hB)) (H3.out.below (below_le M0.out.ls.bel hB)) (by have := M0.out.size; omega) HRX.out HNE.out).mono ?_); rintro e W5 ⟨he, hb⟩; rw [HM1.out] at he; subst he; have hbk1 := hbk0.trans (hb.mono hbk0.size); clear hb; have M1 := Lib.hid (L4.out.call hbk1); have v0 := M1.out.ls.st; obtain ⟨u0, u1, u2, u3, u4, u5, u6, u7, u8⟩ := M1.out.ls.tb; have k0 := (hbk1.cell (p := ⟨b, o + k * 2, none⟩) hlb).trans a0'; have k1 := (hbk1.cell (p := ⟨b, o + k * 2 + 1, none⟩) hlb).trans a1'; have hlb5 : b < W5.heap.size := Nat.lt_of_lt_of_le hlb hbk1.size; obtain ⟨z0, z1⟩ := M1.out.r1.cells; obtain ⟨y0, y1⟩ := M1.out.r2.cells; have f0 := M1.out.r1.fz 0; have f1 := M1.out.r1.fz 1; have g0 := M1.out.r2.fz 0; have g1 := M1.out.r2.fz 1))
            all_goals
              clear hbk0 hbk1 c0 t0 t1 t2 t3 t4 t5 t6 t7 t8 v0 u0 u1 u2 u3 u4 u5 u6 u7 u8 k0 k1 a0' a1' e4'
              try go_wp2_with fail
              clear z0 z1 y0 y1 f0 f1 g0 g1
              generalize hW : World.setCell _ _ _ = W9
              have hp : LQ w (.slice (some ⟨b2, o2, none⟩) N cN) x (.slice (some ⟨b, o, none⟩) n c) (.slice A2 n2 c2) m1 y W9 := by first | (rw [← hW]; exact (M1.out.put1 m1).put2 y) | (rw [← hW]; exact (M1.out.put2 y).put1 m1)
              obtain ⟨e0, e1⟩ := hp.r1.cells
              obtain ⟨e2, e3⟩ := hp.r2.cells
              exact bodyPost_ret (v := .tuple #[.agg #[.int .i64 (m1).a, .int .i64 (m1).b], .agg #[.int .i64 (y).a, .int .i64 (y).b], .bool true]) (by simp [results, Tryz.results14, go_sem, e0, e1, e2, e3]) rfl ⟨ret_p (by rw [xpL_yes HX.out]; exact HM1.out.symm) (by rw [xpH_yes HX.out, HQ2.out]; exact HM2.out.symm) HX.out.symm, by first | exact hp.ls.bel | exact hp.ls.bel.drew⟩
          · have tq : (v.e == q2) = false := by simpa using hvq
            have HVQ := Lib.hid hvq
            clear hvq
            go_wp2_with fail
            go_roundw
            case rel => exact ⟨k + 1, by omega, by go_num, ne_step (f := fun z => (verOf C z).e) HPP.out HX2.out (by rw [HVE.out]; exact HVQ.out), L4.out⟩
            case measure => simp [intOf]; omega
        · obtain rfl : n = k := by omega
          obtain ⟨j, y, hy, he⟩ := xp_read HX.out
          exact absurd (he.trans HQ2.out) (HPP.out j y (by have := lt_get hy; omega) hy)
end Go.Proofs.YtbnkkgjkhpbgiaaGreatDoor.xs
