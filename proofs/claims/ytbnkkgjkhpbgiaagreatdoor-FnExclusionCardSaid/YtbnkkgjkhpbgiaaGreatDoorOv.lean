/- OverwrittenVersions of the program and of the model: what each answers, in memory of its own. -/
import Derived.Test.YtbnkkgjkhpbgiaaGreatDoorRl
import Derived.Test.YtbnkkgjkhpbgiaaGreatDoorCl
import Derived.Test.YtbnkkgjkhpbgiaaGreatDoorSs
import Derived.Test.YtbnkkgjkhpbgiaaGreatDoorAo
namespace Go.Proofs.YtbnkkgjkhpbgiaaGreatDoor.ov
open Go.ChangeShapes Go.WideShapes Go.ChangeAt Go.RowKit
open Go.Proofs.YtbnkkgjkhpbgiaaGreatDoor.el2 Go.Proofs.YtbnkkgjkhpbgiaaGreatDoor.tx Go.Proofs.YtbnkkgjkhpbgiaaGreatDoor.seq Go.Proofs.YtbnkkgjkhpbgiaaGreatDoor.tv Go.Proofs.YtbnkkgjkhpbgiaaGreatDoor.tf Go.Proofs.YtbnkkgjkhpbgiaaGreatDoor.rx Go.Proofs.YtbnkkgjkhpbgiaaGreatDoor.ri Go.Proofs.YtbnkkgjkhpbgiaaGreatDoor.ap Go.Proofs.YtbnkkgjkhpbgiaaGreatDoor.bx Go.Proofs.YtbnkkgjkhpbgiaaGreatDoor.cl Go.Proofs.YtbnkkgjkhpbgiaaGreatDoor.rl Go.Proofs.YtbnkkgjkhpbgiaaGreatDoor.ss Go.Proofs.YtbnkkgjkhpbgiaaGreatDoor.ao
open Go.Proofs.YtbnkkgjkhpbgiaaGreatDoor.vers (new2)
open Go.Proofs.YtbnkkgjkhpbgiaaGreatDoor.sl (Ver)
open Go.Proofs.YtbnkkgjkhpbgiaaGreatDoor.st (Rs)
open Go.Proofs.YtbnkkgjkhpbgiaaGreatDoor.val (stB)
set_option linter.unusedVariables false
set_option linter.unusedSimpArgs false
/-- the mark of a write: its key, the creation of the key's latest version -/
noncomputable def ovM (C : List (List Ver)) (m : E2) : E2 := ⟨m.a, (latOf C m).c⟩
noncomputable def ovK (C : List (List Ver)) (S : List E2) (k : Nat) : List E2 := (S.take k).map (ovM C)
noncomputable def ovL (C : List (List Ver)) (x : Hd) (R S : List E2) : List E2 := if bothB C x R S = true then S.map (ovM C) else []
theorem ovL_len (C : List (List Ver)) (x : Hd) (R S : List E2) : (ovL C x R S).length ≤ S.length := by unfold ovL; split <;> simp
theorem ovK_len {C : List (List Ver)} {S : List E2} {k : Nat} (h : k ≤ S.length) : (ovK C S k).length = k := by simp [ovK, List.length_take]; omega
theorem ovK_step {C : List (List Ver)} {S : List E2} {k : Nat} {y : E2} {z : Ver} (hx : S[k]? = some y) (hz : latOf C y = z) : ovK C S k ++ [⟨y.a, z.c⟩] = ovK C S (k + 1) := by
  unfold ovK
  rw [List.take_add_one, hx, ← hz]
  simp [ovM]
theorem ov_end {C : List (List Ver)} {x : Hd} {R S : List E2} {n : Nat} (hn : S.length = n) (hk : 0 < n → bothB C x R S = true) : ovK C S n = ovL C x R S := by
  rcases Nat.eq_zero_or_pos n with h0 | h0
  · subst h0
    obtain rfl : S = [] := List.eq_nil_of_length_eq_zero hn
    simp [ovL, ovK]
  · unfold ovK ovL
    rw [if_pos (hk h0), List.take_of_length_le (by omega)]
theorem ov_no {C : List (List Ver)} {x : Hd} {R S : List E2} {k : Nat} (h : bothB C x R S = false) (hk : 0 < k → bothB C x R S = true) : ovK C S k = ovL C x R S := by
  rcases Nat.eq_zero_or_pos k with h0 | h0
  · subst h0; simp [ovL, ovK, h]
  · rw [hk h0] at h; cases h
theorem ovL_no {C : List (List Ver)} {x : Hd} {R S : List E2} (h : bothB C x R S = false) : ovL C x R S = [] := by simp [ovL, h]
set_option maxRecDepth 100000 in
set_option maxHeartbeats 3200000 in
theorem spec_ov {w : World} {B n c n2 c2 N cN : Nat} {A A2 D : Option Addr} {R S : List E2} {C : List (List Ver)} (x : Hd) (hn : n ≤ 2097152) (hn2 : n2 ≤ 2097152) (hN : N ≤ 2097152) (h1 : Vs w B A n R) (h2 : Vs w B A2 n2 S) (h3 : Rs w B D N C) (hB : B ≤ w.heap.size) :
    Calls Tryz.prog 65 #[.agg #[.slice D N cN], .agg #[.int .i64 x.i, .int .i64 x.s, .int .i64 x.t, .int .i64 x.b, .int .i64 x.l, .int .i64 x.h, .int .i64 x.c, .slice A n c, .slice A2 n2 c2]] w fun e w' => ∃ A' c', e = .returned (.slice A' (ovL C x R S).length c') ∧ w'.ownsRow w.heap.size 38 2 (.slice A' (ovL C x R S).length c') (ovL C x R S).length (flat (ovL C x R S)) ∧ Below w.heap.size w w' := by
  have H1 := Lib.hid h1
  have H2 := Lib.hid h2
  have H3 := Lib.hid h3
  have hln := h1.1
  have hln2 := h2.1
  clear h1 h2 h3
  go_enter Tryz.func65, Tryz.ntmps65
  go_wp2_with fail
  have hL := LS.mk2 w (.slice D N cN) 26 30 x A n c A2 n2 c2
  have hs0 : ((w.alloc (.cells #[.slice D N cN] 26)).alloc (.cells #[.int .i64 x.i, .int .i64 x.s, .int .i64 x.t, .int .i64 x.b, .int .i64 x.l, .int .i64 x.h, .int .i64 x.c, .slice A n c, .slice A2 n2 c2] 30)).heap.size = w.heap.size + 1 + 1 := by simp
  generalize ((w.alloc _).alloc _) = W0 at hL hs0 ⊢
  have hE := own_empty W0 38 (w.heap.size + 1 + 1) (by omega)
  have hL1 := hL.call (new1 W0 (.cells #[] 38))
  rw [hs0] at hE
  generalize W0.alloc _ = W1 at hE hL1 ⊢
  have L1 := Lib.hid hL1
  have E1 := Lib.hid hE
  clear hL hL1 hE hs0
  try go_wp2_with fail
  go_loopw [5, 6, 7] (fun o i _ wr => ∃ (k c' : Nat) (A' : Option Addr), k ≤ n2 ∧ i = .int .i64 k ∧ o = .slice A' k c' ∧ wr.ownsRow (w.heap.size + 1 + 1) 38 2 (.slice A' k c') k (flat (ovK C S k)) ∧ (0 < k → bothB C x R S = true) ∧ LS w (.slice D N cN) x (.slice A n c) (.slice A2 n2 c2) wr) (fun _ i _ _ => n2 - (intOf i).toNat)
  case atStart => exact ⟨0, 0, _, by omega, rfl, rfl, by simpa [ovK] using E1.out, fun h => absurd h (by omega), L1.out⟩
  case round =>
    obtain ⟨k, c', A', hk, rfl, rfl, hO, hP, hL⟩ := hrel
    have OW := Lib.hid hO
    have HP := Lib.hid hP
    have LW := Lib.hid hL
    have c0 := hL.st
    obtain ⟨t0, t1, t2, t3, t4, t5, t6, t7, t8⟩ := hL.tb
    clear hO hP hL t0 t1 t2 t3 t4 t5 t6 t7
    by_cases hlt : k < n2
    · have t : decide (k < n2) = true := decide_eq_true hlt
      go_wp2_with fail
      refine (val.spec_store (by omega) (H3.out.below (below_le LW.out.bel hB)) (by have := LW.out.size; omega)).mono ?_
      rintro e W2 ⟨rfl, hb⟩
      have L2 := Lib.hid (LW.out.call hb)
      have O2 := Lib.hid (own_keep OW.out hb)
      clear hb c0 t8
      rcases hst : stB C with _ | _
      · have HE : Hid (ovK C S k = ovL C x R S) := Lib.hid (ov_no (no_st hst) HP.out)
        have HM : Hid ((ovL C x R S).length = k) := Lib.hid (by rw [← HE.out]; exact ovK_len (by omega))
        clear hst
        go_wp2_with fail
        go_ret
        rw [HM.out, ← HE.out]
        exact ⟨_, _, rfl, own_more O2.out (by omega), L2.out.bel⟩
      have HST := Lib.hid hst
      obtain ⟨t0, t1, t2, t3, t4, t5, t6, t7, t8⟩ := L2.out.tb
      clear hst
      go_wp2_with fail
      refine (tvs.spec_tx x (by omega) (by omega) (H1.out.below (below_le L2.out.bel hB)) (H2.out.below (below_le L2.out.bel hB)) (by have := L2.out.size; omega)).mono ?_
      rintro e W3 ⟨rfl, hb⟩
      have L3 := Lib.hid (L2.out.call hb)
      have O3 := Lib.hid (own_keep O2.out hb)
      clear hb t0 t1 t2 t3 t4 t5 t6 t7 t8
      rcases htx : txB x R S with _ | _
      · have HE : Hid (ovK C S k = ovL C x R S) := Lib.hid (ov_no (no_tx htx) HP.out)
        have HM : Hid ((ovL C x R S).length = k) := Lib.hid (by rw [← HE.out]; exact ovK_len (by omega))
        clear htx
        go_wp2_with fail
        go_ret
        rw [HM.out, ← HE.out]
        exact ⟨_, _, rfl, own_more O3.out (by omega), L3.out.bel⟩
      have HTX := Lib.hid htx
      clear htx
      have c0 := L3.out.st
      obtain ⟨t0, t1, t2, t3, t4, t5, t6, t7, t8⟩ := L3.out.tb
      clear t0 t1 t2 t3 t4 t5 t6 t7
      obtain ⟨b, o, y, rfl, hbB, hx, a0, a1⟩ := (H2.out.below (below_le L3.out.bel hB)).at_ hlt
      have HX := Lib.hid hx
      clear hx a1
      have h6 := val.st_six HST.out
      rw [H3.out.1] at h6
      obtain ⟨s1, s2⟩ := wkey_of HTX.out HX.out
      have s3 : y.a < (N : Int) := by omega
      have s4 : y.a.toNat < N := by omega
      clear h6
      obtain ⟨b2, o2, l, A9, n9, c9, rfl, hb2, hl, d0, hn9, hv⟩ := (H3.out.below (below_le L3.out.bel hB)).at_ s4
      have HL := Lib.hid hl
      have HV := Lib.hid hv
      clear hl hv
      obtain ⟨z, hz⟩ : ∃ z, latOf C y = z := ⟨_, rfl⟩
      have HZ := Lib.hid hz
      have HLV : Hid (Go.Proofs.YtbnkkgjkhpbgiaaGreatDoor.find.lastV l = z) := Lib.hid (by rw [lat_at HL.out, hz])
      clear hz
      go_wp2_with fail
      refine (Go.Proofs.YtbnkkgjkhpbgiaaGreatDoor.find.latest_spec HLV.out hn9 (HV.out.more (show B ≤ W3.heap.size by have := L3.out.bel.size; omega)) (Nat.le_refl _)).mono ?_
      rintro e W4 ⟨rfl, hb⟩
      have L4 := Lib.hid (L3.out.call hb)
      have O4 := Lib.hid (own_keep O3.out hb)
      have hf := fld2 (.int .i64 z.a) (.int .i64 z.b) (.int .i64 z.c) (.int .i64 z.d) (.int .i64 z.e) W4
      clear hb c0 t8 a0 d0
      have hs4 := L4.out.size
      have hn4 := new1 W4 (.cells #[.int .i64 y.a, .int .i64 z.c] 38)
      obtain ⟨A5, c5, W5, hr, ho5, _, hb5⟩ := app_own (c := 1) _ (own_keep O4.out hn4) (one_vs (boxed W4 ⟨y.a, z.c⟩ 38)) (by omega) (by simp; omega)
      have hb6 : Below (w.heap.size + 1 + 1) W4 W5 := (hn4.mono (by omega)).trans hb5
      rw [ovK_step HX.out HZ.out] at ho5
      have O5 := Lib.hid ho5
      have L5 := Lib.hid (ls_grown L4.out hb6)
      clear hn4 ho5 hb5 hb6
      go_wp2_with (at_builtin; refine Lib.wpList_append_run _ rfl _ _ 27 27 rfl _ _ rfl rfl _ _ hr ?_)
      go_roundw
      case rel => exact ⟨k + 1, c5, A5, by omega, by go_num, rfl, O5.out, fun _ => both_yes HST.out HTX.out, L5.out⟩
      case measure => simp [intOf]; omega
    · obtain rfl : n2 = k := by omega
      have HE : Hid (ovK C S n2 = ovL C x R S) := Lib.hid (ov_end hln2 HP.out)
      have HM : Hid ((ovL C x R S).length = n2) := Lib.hid (by rw [← HE.out]; exact ovK_len (by omega))
      go_wp2_with fail
      go_ret
      rw [HM.out, ← HE.out]
      exact ⟨_, _, rfl, own_more OW.out (by omega), LW.out.bel⟩
set_option maxRecDepth 100000 in
set_option maxHeartbeats 3200000 in
theorem impl_ov {w : World} {B n c n2 c2 N cN : Nat} {A A2 D : Option Addr} {R S : List E2} {C : List (List Ver)} (x : Hd) (hn : n ≤ 2097152) (hn2 : n2 ≤ 2097152) (hN : N ≤ 2097152) (h1 : Vs w B A n R) (h2 : Vs w B A2 n2 S) (h3 : Rs w B D N C) (hB : B ≤ w.heap.size) :
    Calls Tryz.prog 87 #[.agg #[.slice D N cN], .agg #[.int .i64 x.i, .int .i64 x.s, .int .i64 x.t, .int .i64 x.b, .int .i64 x.l, .int .i64 x.h, .int .i64 x.c, .slice A n c, .slice A2 n2 c2]] w fun e w' => ∃ A' c', e = .returned (.slice A' (ovL C x R S).length c') ∧ w'.ownsRow w.heap.size 38 2 (.slice A' (ovL C x R S).length c') (ovL C x R S).length (flat (ovL C x R S)) ∧ Below w.heap.size w w' := by
  have H1 := Lib.hid h1
  have H2 := Lib.hid h2
  have H3 := Lib.hid h3
  have hln := h1.1
  have hln2 := h2.1
  clear h1 h2 h3
  go_enter Tryz.func87, Tryz.ntmps87
  go_wp2_with fail
  have hL := LS.mk2 w (.slice D N cN) 26 30 x A n c A2 n2 c2
  generalize ((w.alloc _).alloc _) = W0 at hL ⊢
  have L0 := Lib.hid hL
  have c0 := hL.st
  clear hL
  go_wp2_with fail
  refine (val.impl_store (by omega) (H3.out.below (below_le L0.out.bel hB)) (by have := L0.out.size; omega)).mono ?_
  rintro e W1 ⟨rfl, hb⟩
  have L1 := Lib.hid (L0.out.call hb)
  clear hb c0
  rcases hst : stB C with _ | _
  · have HE := Lib.hid (no_st (x := x) (R := R) (S := S) hst)
    clear hst
    go_wp2_with fail
    go_ret
    rw [ovL_no HE.out]
    exact ⟨_, _, rfl, World.ownsRow_nil _ _ _ _, L1.out.bel⟩
  obtain ⟨t0, t1, t2, t3, t4, t5, t6, t7, t8⟩ := L1.out.tb
  have HST := Lib.hid hst
  clear hst
  go_wp2_with fail
  refine (impl_tx x (by omega) (by omega) (H1.out.below (below_le L1.out.bel hB)) (H2.out.below (below_le L1.out.bel hB)) (by have := L1.out.size; omega)).mono ?_
  rintro e W2 ⟨rfl, hb⟩
  have L2 := Lib.hid (L1.out.call hb)
  clear hb t0 t1 t2 t3 t4 t5 t6 t7 t8
  rcases htx : txB x R S with _ | _
  · have HE := Lib.hid (no_tx (C := C) htx)
    clear htx
    go_wp2_with fail
    go_ret
    rw [ovL_no HE.out]
    exact ⟨_, _, rfl, World.ownsRow_nil _ _ _ _, L2.out.bel⟩
  have HTX := Lib.hid htx
  clear htx
  obtain ⟨t0, t1, t2, t3, t4, t5, t6, t7, t8⟩ := L2.out.tb
  have hsz2 := L2.out.size
  obtain ⟨i0, hi, hz, hs, hby⟩ := info_parts info_rm
  obtain ⟨W3, hmk, hE, hg⟩ := run_make_own (P := Tryz.prog) W2 (w.heap.size + 1 + 1) 27 38 i0 _ 2 Tryz.underlying27 hi hz hs .i64 .i64 n2 (by rw [hby]; omega) (by unfold maxLen; omega) (by omega)
  have hb3 : Below W2.heap.size W2 W3 := (Below.refl _ _).grown hg (Nat.le_refl _) (fun q hq => by cases hq)
  have L3 := Lib.hid (L2.out.call hb3)
  have E3 := Lib.hid hE
  have t8' := (L3.out.tb).2.2.2.2.2.2.2.2
  clear t0 t1 t2 t3 t4 t5 t6 t7 hE hg hb3 hi hz hs hby
  go_wp2_with fail
  clear hmk t8 t8'
  go_loopw [5, 7, 23] (fun o _ i wr => ∃ (k c' : Nat) (A' : Option Addr), k ≤ n2 ∧ i = .int .i64 k ∧ o = .slice A' k c' ∧ wr.ownsRow (w.heap.size + 1 + 1) 38 2 (.slice A' k c') k (flat (ovK C S k)) ∧ LS w (.slice D N cN) x (.slice A n c) (.slice A2 n2 c2) wr) (fun _ _ i _ => n2 - (intOf i).toNat)
  case atStart => exact ⟨0, _, _, by omega, rfl, rfl, by simpa [ovK, flat] using E3.out, L3.out⟩
  case round =>
    obtain ⟨k, c', A', hk, rfl, rfl, hO, hL⟩ := hrel
    have OW := Lib.hid hO
    have LW := Lib.hid hL
    clear hO hL
    by_cases hlt : k < n2
    · obtain ⟨b, o, y, rfl, hbB, hx, a0, a1⟩ := (H2.out.below (below_le LW.out.bel hB)).at_ hlt
      have HX := Lib.hid hx
      clear hx
      have hb := new1 wr (.cells #[.int .i64 y.a, .int .i64 y.b] 93)
      have mb := boxed wr y 93
      have hs1 : wr.heap.size < (wr.alloc (.cells #[.int .i64 y.a, .int .i64 y.b] 93)).heap.size := by simp
      have LX := Lib.hid (LW.out.call hb)
      have OX := Lib.hid (own_keep OW.out hb)
      have hsz := LX.out.size
      go_wp2_with fail
      generalize wr.alloc _ = W4 at hb mb LX OX hsz hs1 ⊢
      have h6 := val.st_six HST.out
      rw [H3.out.1] at h6
      obtain ⟨s1, s2⟩ := wkey_of HTX.out HX.out
      have s3 : y.a < (N : Int) := by omega
      have s4 : y.a.toNat < N := by omega
      clear h6
      obtain ⟨b2, o2, l, A9, n9, c9, rfl, hb2, hl, d0, hn9, hv⟩ := (H3.out.below (below_le LX.out.bel hB)).at_ s4
      have HL := Lib.hid hl
      have HV := Lib.hid hv
      clear hl hv
      obtain ⟨z, hz⟩ : ∃ z, latOf C y = z := ⟨_, rfl⟩
      have HZ := Lib.hid hz
      have HLV : Hid (Go.Proofs.YtbnkkgjkhpbgiaaGreatDoor.find.lastV l = z) := Lib.hid (by rw [lat_at HL.out, hz])
      clear hz
      have c0 := LX.out.st
      have MB := Lib.hid mb
      obtain ⟨m0, m1⟩ := atFlat mb
      have hq : B ≤ W4.heap.size := by have := LX.out.bel.size; omega
      have hbk0 : Below W4.heap.size W4 W4.drew := (Below.refl _ _).drew
      have hf := fld2 (.int .i64 z.a) (.int .i64 z.b) (.int .i64 z.c) (.int .i64 z.d) (.int .i64 z.e)
      clear a0 a1 mb hb
      go_region_law (first | (go_simp; go_at_call 54; refine (Go.Proofs.YtbnkkgjkhpbgiaaGreatDoor.find.latest_impl HLV.out hn9 ((HV.out.below (below_le hbk0 hq)).more hq) (Nat.le_refl _)).mono ?_; rintro e W5 ⟨rfl, hb5⟩; have hbk1 := hbk0.trans (hb5.mono hbk0.size); have hn5 := new1 W5 (.cells #[.int .i64 y.a, .int .i64 z.c] 38); have M5 := MB.out.keep hs1 hbk1; obtain ⟨n0, n1⟩ := atFlat M5; have O5 := Lib.hid (own_keep OX.out hbk1); obtain ⟨A6, c6, W6, hr, ho6, _, hb6⟩ := app_own (c := 1) _ (own_keep O5.out hn5) (one_vs (boxed W5 ⟨y.a, z.c⟩ 38)) (by omega) (by have := hbk1.size; simp; omega)) | (refine step_append_run rfl (.tmp 27) (.tmp 39) 27 27 rfl _ _ (by simp [Act.eval, Act.put]) (by simp [Act.eval, Act.put]) hr ?_))
      all_goals
        have hb7 : Below (w.heap.size + 1 + 1) W4 W6 := ((hbk1.trans (hn5.mono hbk1.size)).mono (by omega)).trans hb6
        rw [ovK_step HX.out HZ.out] at ho6
        have O6 := Lib.hid ho6
        have L6 := Lib.hid (ls_grown LX.out hb7)
        clear hf hbk0 hbk1 hn5 hr ho6 hb6 hb7 hb5 c0 d0 m0 m1 n0 n1
        go_wp2_with fail
        go_roundw
        case rel => exact ⟨k + 1, c6, A6, by omega, by go_num, rfl, O6.out, L6.out⟩
        case measure => simp [intOf]; omega
    · obtain rfl : n2 = k := by omega
      have HE : Hid (ovK C S n2 = ovL C x R S) := Lib.hid (ov_end hln2 fun _ => both_yes HST.out HTX.out)
      have HM : Hid ((ovL C x R S).length = n2) := Lib.hid (by rw [← HE.out]; exact ovK_len (by omega))
      go_wp2_with fail
      go_ret
      rw [HM.out, ← HE.out]
      exact ⟨_, _, rfl, own_more OW.out (by omega), LW.out.bel⟩
end Go.Proofs.YtbnkkgjkhpbgiaaGreatDoor.ov
