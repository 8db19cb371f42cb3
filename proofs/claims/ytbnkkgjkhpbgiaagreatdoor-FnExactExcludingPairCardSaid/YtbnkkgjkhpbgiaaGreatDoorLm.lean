/- lowMark, highMark of the program: what each answers; nothing that was there is written. -/
import Derived.Test.YtbnkkgjkhpbgiaaGreatDoorMx
import Derived.Test.YtbnkkgjkhpbgiaaGreatDoorEp
namespace Go.Proofs.YtbnkkgjkhpbgiaaGreatDoor.lm
open Go.ChangeShapes Go.WideShapes Go.ChangeAt Go.RowKit
open Go.Proofs.YtbnkkgjkhpbgiaaGreatDoor.el2 Go.Proofs.YtbnkkgjkhpbgiaaGreatDoor.tx Go.Proofs.YtbnkkgjkhpbgiaaGreatDoor.seq Go.Proofs.YtbnkkgjkhpbgiaaGreatDoor.tv Go.Proofs.YtbnkkgjkhpbgiaaGreatDoor.tf Go.Proofs.YtbnkkgjkhpbgiaaGreatDoor.rx Go.Proofs.YtbnkkgjkhpbgiaaGreatDoor.ri Go.Proofs.YtbnkkgjkhpbgiaaGreatDoor.rl Go.Proofs.YtbnkkgjkhpbgiaaGreatDoor.ov Go.Proofs.YtbnkkgjkhpbgiaaGreatDoor.bx Go.Proofs.YtbnkkgjkhpbgiaaGreatDoor.mx Go.Proofs.YtbnkkgjkhpbgiaaGreatDoor.em Go.Proofs.YtbnkkgjkhpbgiaaGreatDoor.ep
open Go.Proofs.YtbnkkgjkhpbgiaaGreatDoor.vers (new2)
open Go.Proofs.YtbnkkgjkhpbgiaaGreatDoor.sl (Ver)
open Go.Proofs.YtbnkkgjkhpbgiaaGreatDoor.st (Rs)
open Go.Proofs.YtbnkkgjkhpbgiaaGreatDoor.val (stB)
set_option linter.unusedVariables false
set_option linter.unusedSimpArgs false
set_option maxRecDepth 100000 in
set_option maxHeartbeats 3200000 in
theorem impl_hm {w : World} {B n c n2 c2 N cN : Nat} {A A2 D : Option Addr} {R S : List E2} {C : List (List Ver)} (x : Hd) (v : Int) (hn : n ≤ 1048576) (hn2 : n2 ≤ 1048576) (hN : N ≤ 1048576) (h1 : Vs w B A n R) (h2 : Vs w B A2 n2 S) (h3 : Rs w B D N C) (hB : B ≤ w.heap.size) (hr : rexB C x R S = true) :
    Calls Tryz.prog 60 #[.agg #[.slice D N cN], .agg #[.int .i64 x.i, .int .i64 x.s, .int .i64 x.t, .int .i64 x.b, .int .i64 x.l, .int .i64 x.h, .int .i64 x.c, .slice A n c, .slice A2 n2 c2], .int .i64 v] w fun e w' => e = .returned (.agg #[.int .i64 (fstAt (sucR C R) v).a, .int .i64 (fstAt (sucR C R) v).b]) ∧ Below w.heap.size w w' := by
  have H1 := Lib.hid h1
  have H2 := Lib.hid h2
  have H3 := Lib.hid h3
  have hln := h1.1
  have hln2 := h2.1
  have HRX := Lib.hid hr
  clear h1 h2 h3 hr
  go_enter Tryz.func60, Tryz.ntmps60
  go_wp2_with fail
  have hL := LM.mk3 w x A A2 D n c n2 c2 N cN
  generalize (((w.alloc _).alloc _).alloc _) = W0 at hL ⊢
  have L0 := Lib.hid hL
  clear hL
  go_loopw [8, 12] (fun _ i wr => ∃ k : Nat, k ≤ n ∧ i = .int .i64 k ∧ (∀ (j : Nat) (z : E2), j < k → R[j]? = some z → (verOf C z).e ≠ v) ∧ LM w (.slice D N cN) x (.slice A n c) (.slice A2 n2 c2) ⟨0, 0⟩ wr) (fun _ i _ => n - (intOf i).toNat)
  case atStart => exact ⟨0, by omega, rfl, fun j z hj => absurd hj (by omega), L0.out⟩
  case round =>
    obtain ⟨k, hk, rfl, hP, hL⟩ := hrel
    have LW := Lib.hid hL
    have HPP := Lib.hid hP
    clear hL hP
    by_cases hlt : k < n
    · obtain ⟨b, o, y, rfl, hbB, hx, a0, a1⟩ := (H1.out.below (below_le LW.out.ls.bel hB)).at_ hlt
      obtain ⟨hst, htx, hall⟩ := rex_parts HRX.out
      have hkey := key_of htx hx
      have hhas := all_at hall hx
      have h6 := val.st_six hst
      rw [H3.out.1] at h6
      have HX := Lib.hid hx
      have HH := Lib.hid hhas
      obtain ⟨s1, s2⟩ := hkey
      have s3 : y.a < (N : Int) := by omega
      clear h6 hst htx hall hx hhas
      go_wp2_with fail
      have hb := new1 wr (.cells #[.int .i64 y.a, .int .i64 y.b] 38)
      have mb := boxed wr y 38
      have hsz := LW.out.size
      have LX := Lib.hid (LW.out.call hb)
      have hs1 : wr.heap.size < (wr.alloc (.cells #[.int .i64 y.a, .int .i64 y.b] 38)).heap.size := by simp
      clear hb a0 a1
      generalize wr.alloc _ = W2 at LX mb hs1 ⊢
      have MB := Lib.hid mb
      clear mb
      refine (impl_vof y w.heap.size (by have := LX.out.size; omega) LX.out.ls.st s1 s3 (H3.out.below (below_le LX.out.ls.bel hB)) (by have := LX.out.size; omega)).mono ?_
      rintro e W3 ⟨⟨hn, rfl⟩ | ⟨hn, b4, o4, rfl, hbB4, hA⟩, hb1⟩
      · exact absurd hn (by rw [HH.out]; exact fun h => by cases h)
      · have L3 := Lib.hid (LX.out.call hb1)
        obtain ⟨m0, m1⟩ := atFlat (MB.out.keep hs1 hb1)
        obtain ⟨e0, e1, e2, e3, e4⟩ := hA
        obtain ⟨u, hu⟩ : ∃ u, (verOf C y).e = u := ⟨_, rfl⟩
        rw [hu] at e4
        have HU := Lib.hid hu
        clear hb1 e0 e1 e2 e3 hn hu
        by_cases huv : u = v
        · subst huv
          have t : (u == u) = true := by simp
          obtain ⟨z0, z1⟩ := L3.out.rb.cells
          have f0 := L3.out.rb.fz 0
          have f1 := L3.out.rb.fz 1
          go_wp2_with fail
          have hp := L3.out.put y
          clear z0 z1 f0 f1
          generalize World.setCell (World.setCell _ _ _) _ _ = W9 at hp ⊢
          obtain ⟨e0, e1⟩ := hp.rb.cells
          exact bodyPost_ret (v := .agg #[.int .i64 y.a, .int .i64 y.b]) (by simp [results, Tryz.results60, go_sem, e0, e1]) rfl ⟨ret_m (hm_hit HX.out HU.out HPP.out).symm, hp.ls.bel⟩
        · have t : (u == v) = false := by simpa using huv
          have HUV := Lib.hid huv
          clear huv
          go_wp2_with fail
          go_roundw
          case rel => exact ⟨k + 1, by omega, by go_num, ne_step (f := fun z => (verOf C z).e) HPP.out HX.out (by rw [HU.out]; exact HUV.out), L3.out⟩
          case measure => simp [intOf]; omega
    · obtain rfl : n = k := by omega
      obtain ⟨z0, z1⟩ := LW.out.rb.cells
      have f0 := LW.out.rb.fz 0
      have f1 := LW.out.rb.fz 1
      go_wp2_with fail
      have hp := LW.out.put (⟨0, 0⟩ : E2)
      clear z0 z1 f0 f1
      generalize World.setCell (World.setCell _ _ _) _ _ = W9 at hp ⊢
      obtain ⟨e0, e1⟩ := hp.rb.cells
      exact bodyPost_ret (v := .agg #[.int .i64 (⟨0, 0⟩ : E2).a, .int .i64 (⟨0, 0⟩ : E2).b]) (by simp [results, Tryz.results60, go_sem, e0, e1]) rfl ⟨ret_z (hm_none hln HPP.out).symm, hp.ls.bel⟩
set_option maxRecDepth 100000 in
set_option maxHeartbeats 3200000 in
theorem impl_lm {w : World} {B n c n2 c2 N cN : Nat} {A A2 D : Option Addr} {R S : List E2} {C : List (List Ver)} (x : Hd) (v : Int) (hn : n ≤ 1048576) (hn2 : n2 ≤ 1048576) (hN : N ≤ 1048576) (h1 : Vs w B A n R) (h2 : Vs w B A2 n2 S) (h3 : Rs w B D N C) (hB : B ≤ w.heap.size) (hr : rexB C x R S = true) :
    Calls Tryz.prog 59 #[.agg #[.slice D N cN], .agg #[.int .i64 x.i, .int .i64 x.s, .int .i64 x.t, .int .i64 x.b, .int .i64 x.l, .int .i64 x.h, .int .i64 x.c, .slice A n c, .slice A2 n2 c2], .int .i64 v] w fun e w' => e = .returned (.agg #[.int .i64 (fstAt (cand C R S) v).a, .int .i64 (fstAt (cand C R S) v).b]) ∧ Below w.heap.size w w' := by
  have H1 := Lib.hid h1
  have H2 := Lib.hid h2
  have H3 := Lib.hid h3
  have hln := h1.1
  have hln2 := h2.1
  have HRX := Lib.hid hr
  clear h1 h2 h3 hr
  go_enter Tryz.func59, Tryz.ntmps59
  go_wp2_with fail
  have hL := LM.mk3 w x A A2 D n c n2 c2 N cN
  generalize (((w.alloc _).alloc _).alloc _) = W0 at hL ⊢
  have L0 := Lib.hid hL
  clear hL
  go_loopw [8, 14] (fun _ i wr => ∃ k : Nat, k ≤ n ∧ i = .int .i64 k ∧ (∀ (j : Nat) (z : E2), j < k → R[j]? = some z → z.b ≠ v) ∧ LM w (.slice D N cN) x (.slice A n c) (.slice A2 n2 c2) ⟨0, 0⟩ wr) (fun _ i _ => n - (intOf i).toNat)
  case atStart => exact ⟨0, by omega, rfl, fun j z hj => absurd hj (by omega), L0.out⟩
  case round =>
    obtain ⟨k, hk, rfl, hP, hL⟩ := hrel
    have LW := Lib.hid hL
    have HPP := Lib.hid hP
    clear hL hP
    by_cases hlt : k < n
    · obtain ⟨b, o, y, rfl, hbB, hx, a0, a1⟩ := (H1.out.below (below_le LW.out.ls.bel hB)).at_ hlt
      have HX := Lib.hid hx
      clear hx
      have LX := Lib.hid (LW.out.call (new1 wr (.cells #[.int .i64 y.a, .int .i64 y.b] 38)))
      by_cases huv : y.b = v
      · have t : (y.b == v) = true := by simpa using huv
        have HUV := Lib.hid huv
        clear huv
        obtain ⟨z0, z1⟩ := LX.out.rb.cells
        have f0 := LX.out.rb.fz 0
        have f1 := LX.out.rb.fz 1
        go_wp2_with fail
        have hp := LX.out.put y
        clear z0 z1 f0 f1
        generalize World.setCell (World.setCell _ _ _) _ _ = W9 at hp ⊢
        obtain ⟨e0, e1⟩ := hp.rb.cells
        exact bodyPost_ret (v := .agg #[.int .i64 y.a, .int .i64 y.b]) (by simp [results, Tryz.results59, go_sem, e0, e1]) rfl ⟨ret_m (lm_read HX.out HUV.out HPP.out).symm, hp.ls.bel⟩
      · have t : (y.b == v) = false := by simpa using huv
        have HUV := Lib.hid huv
        clear huv
        go_wp2_with fail
        go_roundw
        case rel => exact ⟨k + 1, by omega, by go_num, ne_step (f := fun z => z.b) HPP.out HX.out HUV.out, LX.out⟩
        case measure => simp [intOf]; omega
    · obtain rfl : n = k := by omega
      have HNR := Lib.hid (ne_all (f := fun z => z.b) hln HPP.out)
      have c0 := LW.out.ls.st
      obtain ⟨t0, t1, t2, t3, t4, t5, t6, t7, t8⟩ := LW.out.ls.tb
      obtain ⟨l, hlq⟩ : ∃ l, ovL C x R S = l := ⟨_, rfl⟩
      have hov : l = S.map (ovM C) := by rw [← hlq]; exact if_pos (rex_both HRX.out)
      have hq : l.length = n2 := by rw [hov, List.length_map]; exact hln2
      have HLQ := Lib.hid hlq
      have HQ := Lib.hid hq
      have HOV := Lib.hid hov
      clear hlq hq hov
      go_wp2_with fail
      refine (impl_ov x (by omega) (by omega) (by omega) (H1.out.below (below_le LW.out.ls.bel hB)) (H2.out.below (below_le LW.out.ls.bel hB)) (H3.out.below (below_le LW.out.ls.bel hB)) (by have := LW.out.size; omega)).mono ?_
      rintro e W1 ⟨A7, c7, he, ho, hb⟩
      rw [HLQ.out, HQ.out] at he ho
      subst he
      have L1 := Lib.hid (LW.out.call hb)
      obtain ⟨A8, c8, hv8, hvs⟩ := own_vs ho HQ.out
      obtain ⟨rfl, -, rfl⟩ : A8 = A7 ∧ True ∧ c8 = c7 := by injection hv8 with e1 e2 e3; exact ⟨e1.symm, trivial, e3.symm⟩
      have HV := Lib.hid (show Vs W1 W1.heap.size A8 n2 l from hvs.1)
      clear hb ho hv8 hvs c0 t0 t1 t2 t3 t4 t5 t6 t7 t8
      go_wp2_with fail
      go_loopw [10, 28] (fun _ i wr => ∃ k : Nat, k ≤ n2 ∧ i = .int .i64 k ∧ (∀ (j : Nat) (z : E2), j < k → S[j]? = some z → (latOf C z).d ≠ v) ∧ LM w (.slice D N cN) x (.slice A n c) (.slice A2 n2 c2) ⟨0, 0⟩ wr ∧ Below W1.heap.size W1 wr) (fun _ i _ => n2 - (intOf i).toNat)
      case atStart => exact ⟨0, by omega, rfl, fun j z hj => absurd hj (by omega), L1.out, Below.refl _ _⟩
      case round =>
        clear LW HPP
        obtain ⟨k, hk, rfl, hP, hL, hB1⟩ := hrel
        have LW := Lib.hid hL
        have HPP := Lib.hid hP
        have HB1 := Lib.hid hB1
        clear hL hP hB1
        by_cases hlt : k < n2
        · obtain ⟨b, o, y', rfl, hbB, hx, a0, a1⟩ := (HV.out.below HB1.out).at_ hlt
          obtain ⟨hst, htx, hall⟩ := rex_parts HRX.out
          have hy := List.getElem?_eq_getElem (show k < S.length by omega)
          obtain ⟨y, hyq⟩ : ∃ y, S[k]'(by omega) = y := ⟨_, rfl⟩
          rw [hyq] at hy
          have hyo : y' = ovM C y := by rw [HOV.out, List.getElem?_map, hy] at hx; simpa using hx.symm
          have hkey := wkey_of htx hy
          obtain ⟨hver, hhas⟩ := ver_lat hst hkey.1 hkey.2
          rw [← hyo] at hver hhas
          have h6 := val.st_six hst
          rw [H3.out.1] at h6
          have s1 : 0 ≤ y'.a := by rw [hyo]; exact hkey.1
          have s2 : y'.a ≤ 5 := by rw [hyo]; exact hkey.2
          have s3 : y'.a < (N : Int) := by omega
          have HX := Lib.hid hy
          have HH := Lib.hid hhas
          have HYO := Lib.hid hyo
          have HVR := Lib.hid hver
          clear h6 hst htx hall hx hhas hyq hy hyo hkey hver
          go_wp2_with fail
          have hb := new1 wr (.cells #[.int .i64 y'.a, .int .i64 y'.b] 38)
          have mb := boxed wr y' 38
          have hsz := LW.out.size
          have LX := Lib.hid (LW.out.call hb)
          have HBX : Hid (Below W1.heap.size W1 (wr.alloc (.cells #[.int .i64 y'.a, .int .i64 y'.b] 38))) := Lib.hid (HB1.out.trans (hb.mono HB1.out.size))
          have hs1 : wr.heap.size < (wr.alloc (.cells #[.int .i64 y'.a, .int .i64 y'.b] 38)).heap.size := by simp
          clear hb a0 a1
          generalize wr.alloc _ = W2 at LX mb hs1 HBX ⊢
          have MB := Lib.hid mb
          clear mb
          refine (impl_vof y' w.heap.size (by have := LX.out.size; omega) LX.out.ls.st s1 s3 (H3.out.below (below_le LX.out.ls.bel hB)) (by have := LX.out.size; omega)).mono ?_
          rintro e W3 ⟨⟨hn, rfl⟩ | ⟨hn, b4, o4, rfl, hbB4, hA⟩, hb1⟩
          · exact absurd hn (by rw [HH.out]; exact fun h => by cases h)
          · have L3 := Lib.hid (LX.out.call hb1)
            have HB3 := Lib.hid (HBX.out.trans (hb1.mono HBX.out.size))
            obtain ⟨m0, m1⟩ := atFlat (MB.out.keep hs1 hb1)
            rw [HVR.out] at hA
            obtain ⟨e0, e1, e2, e3, e4⟩ := hA
            obtain ⟨u, hu⟩ : ∃ u, (latOf C y).d = u := ⟨_, rfl⟩
            rw [hu] at e3
            have HU := Lib.hid hu
            clear hb1 e0 e1 e2 e4 hn hu
            by_cases huv : u = v
            · subst huv
              have t : (u == u) = true := by simp
              obtain ⟨z0, z1⟩ := L3.out.rb.cells
              have f0 := L3.out.rb.fz 0
              have f1 := L3.out.rb.fz 1
              go_wp2_with fail
              have hp := L3.out.put y'
              clear z0 z1 f0 f1
              generalize World.setCell (World.setCell _ _ _) _ _ = W9 at hp ⊢
              obtain ⟨e0, e1⟩ := hp.rb.cells
              exact bodyPost_ret (v := .agg #[.int .i64 y'.a, .int .i64 y'.b]) (by simp [results, Tryz.results59, go_sem, e0, e1]) rfl ⟨ret_m (by rw [HYO.out]; exact (lm_over hln HX.out HU.out HNR.out HPP.out).symm), hp.ls.bel⟩
            · have t : (u == v) = false := by simpa using huv
              have HUV := Lib.hid huv
              clear huv
              go_wp2_with fail
              go_roundw
              case rel => exact ⟨k + 1, by omega, by go_num, ne_step (f := fun z => (latOf C z).d) HPP.out HX.out (by rw [HU.out]; exact HUV.out), L3.out, HB3.out⟩
              case measure => simp [intOf]; omega
        · obtain rfl : n2 = k := by omega
          obtain ⟨z0, z1⟩ := LW.out.rb.cells
          have f0 := LW.out.rb.fz 0
          have f1 := LW.out.rb.fz 1
          go_wp2_with fail
          have hp := LW.out.put (⟨0, 0⟩ : E2)
          clear z0 z1 f0 f1
          generalize World.setCell (World.setCell _ _ _) _ _ = W9 at hp ⊢
          obtain ⟨e0, e1⟩ := hp.rb.cells
          exact bodyPost_ret (v := .agg #[.int .i64 (⟨0, 0⟩ : E2).a, .int .i64 (⟨0, 0⟩ : E2).b]) (by simp [results, Tryz.results59, go_sem, e0, e1]) rfl ⟨ret_z (lm_none hln hln2 HNR.out HPP.out).symm, hp.ls.bel⟩
end Go.Proofs.YtbnkkgjkhpbgiaaGreatDoor.lm
