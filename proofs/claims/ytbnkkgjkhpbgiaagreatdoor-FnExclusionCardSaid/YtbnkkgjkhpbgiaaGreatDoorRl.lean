/- RefreshLow of the program and of the model: what each answers; nothing that was there is written. -/
import Derived.Test.YtbnkkgjkhpbgiaaGreatDoorRi
import Derived.Lib.MinMax
import Derived.Deep.RegionHeld3
namespace Go.Proofs.YtbnkkgjkhpbgiaaGreatDoor.rl
open Go.ChangeShapes Go.WideShapes Go.ChangeAt Go.RowKit
open Go.Proofs.YtbnkkgjkhpbgiaaGreatDoor.el2 Go.Proofs.YtbnkkgjkhpbgiaaGreatDoor.tx Go.Proofs.YtbnkkgjkhpbgiaaGreatDoor.seq Go.Proofs.YtbnkkgjkhpbgiaaGreatDoor.tv Go.Proofs.YtbnkkgjkhpbgiaaGreatDoor.tf Go.Proofs.YtbnkkgjkhpbgiaaGreatDoor.rx Go.Proofs.YtbnkkgjkhpbgiaaGreatDoor.ri
open Go.Proofs.YtbnkkgjkhpbgiaaGreatDoor.vers (new2)
open Go.Proofs.YtbnkkgjkhpbgiaaGreatDoor.sl (Ver)
open Go.Proofs.YtbnkkgjkhpbgiaaGreatDoor.st (Rs)
open Go.Proofs.YtbnkkgjkhpbgiaaGreatDoor.val (stB)
set_option linter.unusedVariables false
set_option linter.unusedSimpArgs false
/-- both are valid -/
noncomputable def bothB (C : List (List Ver)) (x : Hd) (R S : List E2) : Bool := stB C && txB x R S
theorem no_st {C : List (List Ver)} {x : Hd} {R S : List E2} (h : stB C = false) : bothB C x R S = false := by simp [bothB, h]
theorem no_tx {C : List (List Ver)} {x : Hd} {R S : List E2} (h : txB x R S = false) : bothB C x R S = false := by simp [bothB, h]
theorem both_yes {C : List (List Ver)} {x : Hd} {R S : List E2} (hs : stB C = true) (ht : txB x R S = true) : bothB C x R S = true := by simp [bothB, hs, ht]
theorem both_parts {C : List (List Ver)} {x : Hd} {R S : List E2} (h : bothB C x R S = true) : stB C = true ∧ txB x R S = true := by simpa [bothB] using h
theorem tx_wr {x : Hd} {R S : List E2} (h : txB x R S = true) : wrB S = true := by simp only [txB, Bool.and_eq_true] at h; exact h.2
theorem okW_key {m : E2} (h : okW m = true) : 0 ≤ m.a ∧ m.a ≤ 5 := by
  simp only [okW, vers.In, Bool.and_eq_true, decide_eq_true_eq] at h
  exact h.1
theorem wkey_of {x : Hd} {R S : List E2} {k : Nat} {m : E2} (h : txB x R S = true) (hx : S[k]? = some m) : 0 ≤ m.a ∧ m.a ≤ 5 := okW_key ((sq_of (tx_wr h)).1 k m hx)
/-- the latest version of a write's key -/
noncomputable def latOf (C : List (List Ver)) (m : E2) : Ver := Go.Proofs.YtbnkkgjkhpbgiaaGreatDoor.find.lastV (chOf C m.a)
theorem lat_at {C : List (List Ver)} {m : E2} {l : List Ver} (h : C[m.a.toNat]? = some l) : Go.Proofs.YtbnkkgjkhpbgiaaGreatDoor.find.lastV l = latOf C m := by unfold latOf; rw [ch_at h]
theorem fld3 (a b c d e : Value) (W : World) : (Instr.field 72 (.agg #[a, b, c, d, e]) 3).run Tryz.prog W = .ok d W := by
  have hu := Tryz.underlying72
  simp [Instr.field, run_underlying hu, go_sem, asAgg]
theorem fld2 (a b c d e : Value) (W : World) : (Instr.field 72 (.agg #[a, b, c, d, e]) 2).run Tryz.prog W = .ok c W := by
  have hu := Tryz.underlying72
  simp [Instr.field, run_underlying hu, go_sem, asAgg]
theorem ret_i {a b : Int} (h : a = b) : Ending.returned (.int .i64 a) = .returned (.int .i64 b) := by rw [h]
theorem val_i {a b : Int} (h : a = b) : Value.int .i64 a = .int .i64 b := by rw [h]
/-- the greatest creation among the first k reads -/
def loR (R : List E2) (k : Nat) : Int := (R.take k).foldl (fun a m => max a m.b) 0
/-- .. and of the readers of the latest versions of the first k written keys -/
noncomputable def loW (C : List (List Ver)) (R S : List E2) (k : Nat) : Int := (S.take k).foldl (fun a m => max a (latOf C m).d) (loR R R.length)
noncomputable def rlI (C : List (List Ver)) (x : Hd) (R S : List E2) : Int := if bothB C x R S = true then loW C R S S.length else 0
theorem loR_step {R : List E2} {k : Nat} {y : E2} (hx : R[k]? = some y) : loR R (k + 1) = max (loR R k) y.b := by
  unfold loR
  rw [List.take_add_one, hx]
  simp [List.foldl_append]
theorem loW_step {C : List (List Ver)} {R S : List E2} {k : Nat} {y : E2} {z : Ver} (hx : S[k]? = some y) (hz : latOf C y = z) : loW C R S (k + 1) = max (loW C R S k) z.d := by
  unfold loW
  rw [List.take_add_one, hx, ← hz]
  simp [List.foldl_append]
theorem loW_zero {C : List (List Ver)} {R S : List E2} {n : Nat} (hn : R.length = n) : loR R n = loW C R S 0 := by subst hn; simp [loW]
theorem rl_no {C : List (List Ver)} {x : Hd} {R S : List E2} (h : bothB C x R S = false) : (0 : Int) = rlI C x R S := by simp [rlI, h]
theorem rl_yes {C : List (List Ver)} {x : Hd} {R S : List E2} {n : Nat} (hn : S.length = n) (h : bothB C x R S = true) : loW C R S n = rlI C x R S := by subst hn; simp [rlI, h]
set_option maxRecDepth 100000 in
set_option maxHeartbeats 3200000 in
theorem spec_rl {w : World} {B n c n2 c2 N cN : Nat} {A A2 D : Option Addr} {R S : List E2} {C : List (List Ver)} (x : Hd) (hn : n ≤ 2097152) (hn2 : n2 ≤ 2097152) (hN : N ≤ 2097152) (h1 : Vs w B A n R) (h2 : Vs w B A2 n2 S) (h3 : Rs w B D N C) (hB : B ≤ w.heap.size) :
    Calls Tryz.prog 32 #[.agg #[.slice D N cN], .agg #[.int .i64 x.i, .int .i64 x.s, .int .i64 x.t, .int .i64 x.b, .int .i64 x.l, .int .i64 x.h, .int .i64 x.c, .slice A n c, .slice A2 n2 c2]] w fun e w' => e = .returned (.int .i64 (rlI C x R S)) ∧ Below w.heap.size w w' := by
  have H1 := Lib.hid h1
  have H2 := Lib.hid h2
  have H3 := Lib.hid h3
  have hln := h1.1
  have hln2 := h2.1
  clear h1 h2 h3
  go_enter Tryz.func32, Tryz.ntmps32
  go_wp2_with fail
  have hL := LS.mk2 w (.slice D N cN) 26 30 x A n c A2 n2 c2
  generalize ((w.alloc _).alloc _) = W0 at hL ⊢
  have L0 := Lib.hid hL
  have c0 := hL.st
  clear hL
  go_wp2_with fail
  refine (val.spec_store (by omega) (H3.out.below (below_le L0.out.bel hB)) (by have := L0.out.size; omega)).mono ?_
  rintro e W1 ⟨rfl, hb⟩
  have L1 := Lib.hid (L0.out.call hb)
  clear hb c0
  rcases hst : stB C with _ | _
  · have HE := Lib.hid (no_st (x := x) (R := R) (S := S) hst)
    clear hst
    go_wp2_with fail
    go_ret
    exact ⟨ret_i (rl_no HE.out), L1.out.bel⟩
  obtain ⟨t0, t1, t2, t3, t4, t5, t6, t7, t8⟩ := L1.out.tb
  have HST := Lib.hid hst
  clear hst
  go_wp2_with fail
  refine (tvs.spec_tx x (by omega) (by omega) (H1.out.below (below_le L1.out.bel hB)) (H2.out.below (below_le L1.out.bel hB)) (by have := L1.out.size; omega)).mono ?_
  rintro e W2 ⟨rfl, hb⟩
  have L2 := Lib.hid (L1.out.call hb)
  clear hb t0 t1 t2 t3 t4 t5 t6 t7 t8
  rcases htx : txB x R S with _ | _
  · have HE := Lib.hid (no_tx (C := C) htx)
    clear htx
    go_wp2_with fail
    go_ret
    exact ⟨ret_i (rl_no HE.out), L2.out.bel⟩
  have HTX := Lib.hid htx
  clear htx
  go_wp2_with fail
  go_loopw [5, 6] (fun a i wr => ∃ k : Nat, k ≤ n ∧ i = .int .i64 k ∧ a = .int .i64 (loR R k) ∧ LS w (.slice D N cN) x (.slice A n c) (.slice A2 n2 c2) wr) (fun _ i _ => n - (intOf i).toNat)
  case atStart => exact ⟨0, by omega, rfl, rfl, L2.out⟩
  case round =>
    obtain ⟨k, hk, rfl, rfl, hL⟩ := hrel
    have LW := Lib.hid hL
    obtain ⟨t0, t1, t2, t3, t4, t5, t6, t7, t8⟩ := hL.tb
    clear hL t0 t1 t2 t3 t4 t5 t6 t8
    obtain ⟨z, hz⟩ : ∃ z, loR R k = z := ⟨_, rfl⟩
    rw [hz]
    have HZ := Lib.hid hz
    clear hz
    by_cases hlt : k < n
    · obtain ⟨b, o, y, rfl, hbB, hx, a0, a1⟩ := (H1.out.below (below_le LW.out.bel hB)).at_ hlt
      have HX := Lib.hid hx
      clear hx
      go_wp2_with fail
      go_roundw
      case rel => exact ⟨k + 1, by omega, by go_num, val_i (by rw [loR_step HX.out, HZ.out]), LW.out⟩
      case measure => simp [intOf]; omega
    · obtain rfl : n = k := by omega
      have HZ2 : Hid (loW C R S 0 = z) := Lib.hid (by rw [← loW_zero hln, HZ.out])
      go_wp2_with fail
      clear t7
      go_loopw [5, 7] (fun a i wr => ∃ k : Nat, k ≤ n2 ∧ i = .int .i64 k ∧ a = .int .i64 (loW C R S k) ∧ LS w (.slice D N cN) x (.slice A n c) (.slice A2 n2 c2) wr) (fun _ i _ => n2 - (intOf i).toNat)
      case atStart => exact ⟨0, by omega, rfl, val_i HZ2.out.symm, LW.out⟩
      case round =>
        clear LW HZ HZ2
        obtain ⟨k, hk, rfl, rfl, hL⟩ := hrel
        have LW := Lib.hid hL
        have c0 := hL.st
        obtain ⟨t0, t1, t2, t3, t4, t5, t6, t7, t8⟩ := hL.tb
        clear hL t0 t1 t2 t3 t4 t5 t6 t7
        obtain ⟨v, hv⟩ : ∃ z, loW C R S k = z := ⟨_, rfl⟩
        rw [hv]
        have HVV := Lib.hid hv
        clear hv
        by_cases hlt : k < n2
        · obtain ⟨b, o, y, rfl, hbB, hx, a0, a1⟩ := (H2.out.below (below_le LW.out.bel hB)).at_ hlt
          have HX := Lib.hid hx
          clear hx
          have h6 := val.st_six HST.out
          rw [H3.out.1] at h6
          obtain ⟨s1, s2⟩ := wkey_of HTX.out HX.out
          have s3 : y.a < (N : Int) := by omega
          have s4 : y.a.toNat < N := by omega
          clear h6
          obtain ⟨b2, o2, l, A9, n9, c9, rfl, hb2, hl, d0, hn9, hv⟩ := (H3.out.below (below_le LW.out.bel hB)).at_ s4
          have HL := Lib.hid hl
          have HV := Lib.hid hv
          clear hl hv
          obtain ⟨z, hz⟩ : ∃ z, latOf C y = z := ⟨_, rfl⟩
          have HZ := Lib.hid hz
          have HLV : Hid (Go.Proofs.YtbnkkgjkhpbgiaaGreatDoor.find.lastV l = z) := Lib.hid (by rw [lat_at HL.out, hz])
          clear hz
          go_wp2_with fail
          have hbk0 : Below wr.heap.size wr wr.drew := (Below.refl _ _).drew
          have hsz := LW.out.size
          have hlb : b < wr.heap.size := by omega
          have hlb2 : b2 < wr.heap.size := by omega
          have C0 := Lib.hid c0
          have T8 := Lib.hid t8
          have A0 := Lib.hid a0
          have D0 := Lib.hid d0
          clear a1
          go_region_held3 (fun w' => w'.cell? ⟨w.heap.size, 0, none⟩ = some (.slice (some ⟨b2, o2, none⟩) N cN) ∧ w'.cell? ⟨w.heap.size + 1, 8, none⟩ = some (.slice (some ⟨b, o, none⟩) n2 c2) ∧ w'.cell? ⟨b, o + k * 2, none⟩ = some (.int .i64 y.a) ∧ w'.cell? ⟨b2, o2 + y.a.toNat, none⟩ = some (.slice A9 n9 c9)) (go_keep) (first | (go_at_call 58; (with_reducible refine (Go.Proofs.YtbnkkgjkhpbgiaaGreatDoor.find.latest_spec HLV.out hn9 ((HV.out.below (below_le hbk0 (Nat.le_trans hB LW.out.bel.size))).more (show B ≤ wr.heap.size by omega)) (Nat.le_refl _)).mono ?_); rintro e W3 ⟨he, hb'⟩; subst he; have hf := fld3 (.int .i64 z.a) (.int .i64 z.b) (.int .i64 z.c) (.int .i64 z.d) (.int .i64 z.e); have hbk1 := hbk0.trans (hb'.mono hbk0.size); have c1 := (hbk1.cell (p := ⟨w.heap.size, 0, none⟩) (by simp only; omega)).trans C0.out; have e8 := (hbk1.cell (p := ⟨w.heap.size + 1, 8, none⟩) (by simp only; omega)).trans T8.out; have e0 := (hbk1.cell (p := ⟨b, o + k * 2, none⟩) hlb).trans A0.out; have e9 := (hbk1.cell (p := ⟨b2, o2 + y.a.toNat, none⟩) hlb2).trans D0.out))
          have L3 := Lib.hid (LW.out.call hbk1)
          clear hf c1 e8 e0 e9 hbk0 hbk1 hb' c0 t8 a0 d0
          go_wp2_with fail
          go_roundw
          case rel => exact ⟨k + 1, by omega, by go_num, val_i (by rw [loW_step HX.out HZ.out, HVV.out]), L3.out⟩
          case measure => simp [intOf]; omega
        · obtain rfl : n2 = k := by omega
          go_wp2_with fail
          go_ret
          exact ⟨ret_i (by rw [← HVV.out]; exact rl_yes hln2 (both_yes HST.out HTX.out)), LW.out.bel⟩
set_option maxRecDepth 100000 in
set_option maxHeartbeats 3200000 in
theorem impl_rl {w : World} {B n c n2 c2 N cN : Nat} {A A2 D : Option Addr} {R S : List E2} {C : List (List Ver)} (x : Hd) (hn : n ≤ 2097152) (hn2 : n2 ≤ 2097152) (hN : N ≤ 2097152) (h1 : Vs w B A n R) (h2 : Vs w B A2 n2 S) (h3 : Rs w B D N C) (hB : B ≤ w.heap.size) :
    Calls Tryz.prog 27 #[.agg #[.slice D N cN], .agg #[.int .i64 x.i, .int .i64 x.s, .int .i64 x.t, .int .i64 x.b, .int .i64 x.l, .int .i64 x.h, .int .i64 x.c, .slice A n c, .slice A2 n2 c2]] w fun e w' => e = .returned (.int .i64 (rlI C x R S)) ∧ Below w.heap.size w w' := by
  have H1 := Lib.hid h1
  have H2 := Lib.hid h2
  have H3 := Lib.hid h3
  have hln := h1.1
  have hln2 := h2.1
  clear h1 h2 h3
  go_enter Tryz.func27, Tryz.ntmps27
  go_wp2_with fail
  have hL := LS.mk2 w (.slice D N cN) 26 30 x A n c A2 n2 c2
  generalize ((w.alloc _).alloc _) = W0 at hL ⊢
  have L0 := Lib.hid hL
  have c0 := hL.st
  clear hL
  go_wp2_with fail
  refine (val.impl_store (by omega) (H3.out.below (below_le L0.out.bel hB)) (by have := L0.out.size; omega)).mono ?_
  rintro e W1 ⟨rfl, hb⟩
  have L1 := Lib.hid (L0.out.call hb)
  clear hb c0
  rcases hst : stB C with _ | _
  · have HE := Lib.hid (no_st (x := x) (R := R) (S := S) hst)
    clear hst
    go_wp2_with fail
    go_ret
    exact ⟨ret_i (rl_no HE.out), L1.out.bel⟩
  obtain ⟨t0, t1, t2, t3, t4, t5, t6, t7, t8⟩ := L1.out.tb
  have HST := Lib.hid hst
  clear hst
  go_wp2_with fail
  refine (impl_tx x (by omega) (by omega) (H1.out.below (below_le L1.out.bel hB)) (H2.out.below (below_le L1.out.bel hB)) (by have := L1.out.size; omega)).mono ?_
  rintro e W2 ⟨rfl, hb⟩
  have L2 := Lib.hid (L1.out.call hb)
  clear hb t0 t1 t2 t3 t4 t5 t6 t7 t8
  rcases htx : txB x R S with _ | _
  · have HE := Lib.hid (no_tx (C := C) htx)
    clear htx
    go_wp2_with fail
    go_ret
    exact ⟨ret_i (rl_no HE.out), L2.out.bel⟩
  have HTX := Lib.hid htx
  clear htx
  obtain ⟨t0, t1, t2, t3, t4, t5, t6, t7, t8⟩ := L2.out.tb
  clear t0 t1 t2 t3 t4 t5 t6 t8
  go_wp2_with fail
  clear t7
  go_loopw [5, 7, 21] (fun a _ i wr => ∃ k : Nat, k ≤ n ∧ i = .int .i64 k ∧ a = .int .i64 (loR R k) ∧ LS w (.slice D N cN) x (.slice A n c) (.slice A2 n2 c2) wr) (fun _ _ i _ => n - (intOf i).toNat)
  case atStart => exact ⟨0, by omega, rfl, rfl, L2.out⟩
  case round =>
    obtain ⟨k, hk, rfl, rfl, hL⟩ := hrel
    have LW := Lib.hid hL
    clear hL
    obtain ⟨z, hz⟩ : ∃ z, loR R k = z := ⟨_, rfl⟩
    rw [hz]
    have HZ := Lib.hid hz
    clear hz
    by_cases hlt : k < n
    · obtain ⟨b, o, y, rfl, hbB, hx, a0, a1⟩ := (H1.out.below (below_le LW.out.bel hB)).at_ hlt
      have HX := Lib.hid hx
      have LX := Lib.hid (LW.out.call (new1 wr (.cells #[.int .i64 y.a, .int .i64 y.b] 38)))
      clear hx
      go_wp2_with fail
      go_roundw
      case rel => exact ⟨k + 1, by omega, by go_num, val_i (by rw [loR_step HX.out, HZ.out]), LX.out⟩
      case measure => simp [intOf]; omega
    · obtain rfl : n = k := by omega
      have HZ2 : Hid (loW C R S 0 = z) := Lib.hid (by rw [← loW_zero hln, HZ.out])
      obtain ⟨t0, t1, t2, t3, t4, t5, t6, t7, t8⟩ := LW.out.tb
      clear t0 t1 t2 t3 t4 t5 t6 t7
      go_wp2_with fail
      clear t8
      go_loopw [5, 9, 33] (fun a _ i wr => ∃ k : Nat, k ≤ n2 ∧ i = .int .i64 k ∧ a = .int .i64 (loW C R S k) ∧ LS w (.slice D N cN) x (.slice A n c) (.slice A2 n2 c2) wr) (fun _ _ i _ => n2 - (intOf i).toNat)
      case atStart => exact ⟨0, by omega, rfl, val_i HZ2.out.symm, LW.out⟩
      case round =>
        clear LW HZ HZ2
        obtain ⟨k, hk, rfl, rfl, hL⟩ := hrel
        have LW := Lib.hid hL
        clear hL
        obtain ⟨v, hv⟩ : ∃ z, loW C R S k = z := ⟨_, rfl⟩
        rw [hv]
        have HVV := Lib.hid hv
        clear hv
        by_cases hlt : k < n2
        · obtain ⟨b, o, y, rfl, hbB, hx, a0, a1⟩ := (H2.out.below (below_le LW.out.bel hB)).at_ hlt
          have HX := Lib.hid hx
          clear hx
          have hb := new1 wr (.cells #[.int .i64 y.a, .int .i64 y.b] 93)
          have mb := boxed wr y 93
          have LX := Lib.hid (LW.out.call hb)
          have c0 := LX.out.st
          have hsz := LW.out.size
          have h6 := val.st_six HST.out
          rw [H3.out.1] at h6
          obtain ⟨s1, s2⟩ := wkey_of HTX.out HX.out
          have s3 : y.a < (N : Int) := by omega
          have s4 : y.a.toNat < N := by omega
          clear h6
          obtain ⟨b2, o2, l, A9, n9, c9, rfl, hb2, hl, d0, hn9, hv⟩ := (H3.out.below (below_le LX.out.bel hB)).at_ s4
          have HL := Lib.hid hl
          have HV := Lib.hid hv
          clear hl hv
          obtain ⟨z, hz⟩ : ∃ z, latOf C y = z := ⟨_, rfl⟩
          have HZ := Lib.hid hz
          have HLV : Hid (Go.Proofs.YtbnkkgjkhpbgiaaGreatDoor.find.lastV l = z) := Lib.hid (by rw [lat_at HL.out, hz])
          clear hz
          clear mb
          go_wp2_with fail
          generalize hW : wr.alloc _ = W2 at c0 d0 hb LX HV ⊢
          clear hW a0 a1
          refine (Go.Proofs.YtbnkkgjkhpbgiaaGreatDoor.find.latest_impl HLV.out hn9 (HV.out.more (show B ≤ W2.heap.size by have := hb.size; omega)) (Nat.le_refl _)).mono ?_
          rintro e W3 ⟨rfl, hb3⟩
          have L3 := Lib.hid (LX.out.call hb3)
          have hf := fld3 (.int .i64 z.a) (.int .i64 z.b) (.int .i64 z.c) (.int .i64 z.d) (.int .i64 z.e) W3
          clear c0 d0 hb hb3
          go_wp2_with fail
          go_roundw
          case rel => exact ⟨k + 1, by omega, by go_num, val_i (by rw [loW_step HX.out HZ.out, HVV.out]), L3.out⟩
          case measure => simp [intOf]; omega
        · obtain rfl : n2 = k := by omega
          go_wp2_with fail
          go_ret
          exact ⟨ret_i (by rw [← HVV.out]; exact rl_yes hln2 (both_yes HST.out HTX.out)), LW.out.bel⟩
end Go.Proofs.YtbnkkgjkhpbgiaaGreatDoor.rl
