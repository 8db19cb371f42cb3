/- The model's l9Fits and l9Install. -/
import Derived.Test.YthbbpfgjbidbhaaGreatDoorApl
import Derived.Test.YthbbpfgjbidbhaaGreatDoorRg
import Derived.Test.YthbbpfgjbidbhaaGreatDoorLc
import Derived.BigRegion
import Derived.Deep.RegionHeld3
namespace Go.Proofs.YthbbpfgjbidbhaaGreatDoor.li
open Go.ChangeShapes Go.WideShapes Go.ChangeAt Go.RowKit
open Go.Proofs.YthbbpfgjbidbhaaGreatDoor.sl Go.Proofs.YthbbpfgjbidbhaaGreatDoor.st Go.Proofs.YthbbpfgjbidbhaaGreatDoor.flat Go.Proofs.YthbbpfgjbidbhaaGreatDoor.os Go.Proofs.YthbbpfgjbidbhaaGreatDoor.oq Go.Proofs.YthbbpfgjbidbhaaGreatDoor.av Go.Proofs.YthbbpfgjbidbhaaGreatDoor.oc Go.Proofs.YthbbpfgjbidbhaaGreatDoor.ist Go.Proofs.YthbbpfgjbidbhaaGreatDoor.cs Go.Proofs.YthbbpfgjbidbhaaGreatDoor.apl Go.Proofs.YthbbpfgjbidbhaaGreatDoor.rg
open Go.Proofs.YthbbpfgjbidbhaaGreatDoor.el2 (new1 E2)
open Go.Proofs.YthbbpfgjbidbhaaGreatDoor.tx (Hd TB)
open Go.Proofs.YthbbpfgjbidbhaaGreatDoor.tv (wrB)
open Go.Proofs.YthbbpfgjbidbhaaGreatDoor.val (stB)
open Go.Proofs.YthbbpfgjbidbhaaGreatDoor.last (lstS)
open Go.Proofs.YthbbpfgjbidbhaaGreatDoor.find (fndI)
open Go.Proofs.YthbbpfgjbidbhaaGreatDoor.rx (LS chOf ch_at hasV)
open Go.Proofs.YthbbpfgjbidbhaaGreatDoor.ao (step_append_run)
open Go.Proofs.YthbbpfgjbidbhaaGreatDoor.bx (Bx OwnT CopO txv)
open Go.Proofs.YthbbpfgjbidbhaaGreatDoor.ct (rdV suV nwV atJ rdL wrL onK rdC wrC atJ_at atJ_len rdK wrK insC fitB rdK_step wrK_step)
set_option linter.unusedVariables false
set_option linter.unusedSimpArgs false
set_option linter.constructorNameAsVariable false
set_option maxRecDepth 100000 in
set_option maxHeartbeats 3200000 in
theorem spec_fits {w : World} {B cN n c n2 c2 : Nat} {D A A2 : Option Addr} {S : List E2} {C : List (List Ver)} (x : Hd) (hn2 : n2 ≤ 1048576) (h2 : el2.Vs w B A2 n2 S) (h3 : Rs w B D 6 C) (hB : B ≤ w.heap.size) (hw : wrB S = true) :
    Calls Tryz.prog 20 #[.agg #[.slice D 6 cN], .agg #[.int .i64 x.i, .int .i64 x.s, .int .i64 x.t, .int .i64 x.b, .int .i64 x.l, .int .i64 x.h, .int .i64 x.c, .slice A n c, .slice A2 n2 c2]] w fun e w' => e = .returned (.bool (fitB C S)) ∧ Below w.heap.size w w' := by
  have H2 := Lib.hid h2
  have H3 := Lib.hid h3
  have HW := Lib.hid hw
  have hl2 := h2.1
  have hC6 := h3.1
  clear h2 h3 hw
  go_enter Tryz.func20, Tryz.ntmps20
  go_wp2_with fail
  have hL := LS.mk2 w (.slice D 6 cN) 33 37 x A n c A2 n2 c2
  generalize ((w.alloc _).alloc _) = W0 at hL ⊢
  have L0 := Lib.hid hL
  clear hL
  go_loopw [5] (fun i wr => ∃ k : Nat, k ≤ n2 ∧ i = .int .i64 k ∧ LS w (.slice D 6 cN) x (.slice A n c) (.slice A2 n2 c2) wr ∧ ∀ (j : Nat) (m : E2), j < k → S[j]? = some m → (chOf C m.a).length < 50) (fun i _ => n2 - (intOf i).toNat)
  case atStart => exact ⟨0, by omega, rfl, L0.out, fun j m h => absurd h (by omega)⟩
  case round =>
    obtain ⟨k, hk, rfl, hL, hf⟩ := hrel
    have LW := Lib.hid hL
    have FK := Lib.hid hf
    obtain ⟨t0, t1, t2, t3, t4, t5, t6, t7, t8⟩ := hL.tb
    have d0 := hL.st
    clear hL hf t0 t1 t2 t3 t4 t5 t6 t7
    by_cases hlt : k < n2
    · have t : decide ((k : Int) < (n2 : Int)) = true := decide_eq_true (by omega)
      obtain ⟨b, o, m, rfl, hbB, hx, a0, a1⟩ := (H2.out.below (Go.Proofs.YthbbpfgjbidbhaaGreatDoor.el2.below_le LW.out.bel hB)).at_ (k := k) hlt
      obtain ⟨m0, m5, _⟩ := Go.Proofs.YthbbpfgjbidbhaaGreatDoor.cq.wr_key HW.out hx
      obtain ⟨kk, hkk, hk6, hl⟩ := get_key (C := C) hC6 m0 m5
      obtain ⟨b2, o2, l, A', n', c', rfl, hb2, hl2', d1, hn', hv⟩ := (H3.out.below (Go.Proofs.YthbbpfgjbidbhaaGreatDoor.el2.below_le LW.out.bel hB)).at_ hk6
      rw [hl] at hl2'
      injection hl2' with hl2'
      subst hl2'
      have HX := Lib.hid hx
      have hln := hv.1
      have k1 : (kk : Int) < ((6 : Nat) : Int) := by omega
      rw [hkk] at a0
      have hkn : (k : Int) < (n2 : Int) := by omega
      clear hx hv a1 hl hkk
      by_cases h50 : 50 ≤ n'
      · have t5 : decide ((50 : Int) ≤ (n' : Int)) = true := decide_eq_true (by omega)
        have HF : Hid (fitB C S = false) := Lib.hid (fit_no HX.out (by omega))
        go_wp2_with fail
        go_quiet (fail)
        go_wp2_with fail
        go_ret
        exact ⟨by rw [HF.out]; rfl, (Go.Proofs.YthbbpfgjbidbhaaGreatDoor.tf.Off1 LW.out.bel _)⟩
      · have t5 : decide ((50 : Int) ≤ (n' : Int)) = false := decide_eq_false (by omega)
        have F2 : Hid (∀ (j : Nat) (m : E2), j < k + 1 → S[j]? = some m → (chOf C m.a).length < 50) := Lib.hid fun j m' hj hm' => by
          by_cases e : j = k
          · subst e
            have e2 := HX.out
            rw [hm'] at e2
            injection e2 with e2
            rw [e2]
            omega
          · exact FK.out j m' (by omega) hm'
        go_wp2_with fail
        go_quiet (fail)
        go_wp2_with fail
        go_roundw
        case rel => exact ⟨k + 1, by omega, by go_num, LW.out.drewN _, F2.out⟩
        case measure => simp [intOf]; omega
    · have t : decide ((k : Int) < (n2 : Int)) = false := decide_eq_false (by omega)
      have HF : Hid (fitB C S = true) := Lib.hid (fit_yes fun j m hj => FK.out j m (by omega))
      go_wp2_with fail
      go_ret
      exact ⟨by rw [HF.out]; rfl, LW.out.bel⟩
/-- what an install hands back -/
def InR (w : World) (n n2 : Nat) (R S : List E2) (CF : List (List Ver)) (y : Hd) (e : Ending) (w' : World) : Prop :=
  ∃ A' c' A2 c2 B2 d2, e = .returned (.tuple #[.agg #[.slice A' 6 c'], .agg #[.int .i64 y.i, .int .i64 y.s, .int .i64 y.t, .int .i64 y.b, .int .i64 y.l, .int .i64 y.h, .int .i64 y.c, .slice A2 n c2, .slice B2 n2 d2]]) ∧ OS w' w.heap.size (.slice A' 6 c') 6 CF ∧ OwnT w' w.heap.size (.slice A2 n c2) n R (.slice B2 n2 d2) n2 S ∧ Below w.heap.size w w'
set_option maxRecDepth 100000 in
set_option maxHeartbeats 12800000 in
theorem spec_install {w : World} {B cN n c n2 c2 : Nat} {D A A2 : Option Addr} {R S : List E2} {C : List (List Ver)} (x : Hd) (z L H : Int) (hn : n ≤ 1048576) (hn2 : n2 ≤ 1048576) (h1 : el2.Vs w B A n R) (h2 : el2.Vs w B A2 n2 S) (h3 : Rs w B D 6 C) (hB : B ≤ w.heap.size)
    (hst : stB C = true) (hz : lstS C < z) (hrk : ∀ m ∈ R, 0 ≤ m.a ∧ m.a ≤ 5) (hall : R.all (hasV C) = true) (hw : wrB S = true) (hfit : fitB C S = true) :
    Calls Tryz.prog 23 #[.agg #[.slice D 6 cN], .agg #[.int .i64 x.i, .int .i64 x.s, .int .i64 x.t, .int .i64 x.b, .int .i64 x.l, .int .i64 x.h, .int .i64 x.c, .slice A n c, .slice A2 n2 c2], .int .i64 z, .int .i64 L, .int .i64 H] w (InR w n n2 R S (insC C x.i z H R S) ⟨x.i, x.s, 2, x.b, L, H, z⟩) := by
  have H1 := Lib.hid h1
  have H2 := Lib.hid h2
  have H3 := Lib.hid h3
  have hlR := h1.1
  have hlS := h2.1
  have HST := Lib.hid hst
  have HZ := Lib.hid hz
  have HK := Lib.hid hrk
  have HA := Lib.hid hall
  have HW := Lib.hid hw
  have HFT := Lib.hid hfit
  have hlen := st_len50 hst
  clear h1 h2 h3 hst hz hrk hall hw hfit
  go_enter Tryz.func23, Tryz.ntmps23
  go_wp2_with fail
  have hL := LS.mk2 w (.slice D 6 cN) 33 37 x A n c A2 n2 c2
  have hs0 : ((w.alloc (.cells #[.slice D 6 cN] 33)).alloc (.cells #[.int .i64 x.i, .int .i64 x.s, .int .i64 x.t, .int .i64 x.b, .int .i64 x.l, .int .i64 x.h, .int .i64 x.c, .slice A n c, .slice A2 n2 c2] 37)).heap.size = w.heap.size + 2 := by simp
  generalize ((w.alloc _).alloc _) = W0 at hL hs0 ⊢
  have hz0 : SBx w ((W0.alloc (.cells #[.slice none 0 0] 33)).alloc (.cells #[.int .i64 0, .int .i64 0, .int .i64 0, .int .i64 0, .int .i64 0, .int .i64 0, .int .i64 0, .slice none 0 0, .slice none 0 0] 37)) (w.heap.size + 1 + 1) (.slice none 0 0) := (SBx.zero hL.bel (by omega)).alloc _
  have hz1 : TBx w ((W0.alloc (.cells #[.slice none 0 0] 33)).alloc (.cells #[.int .i64 0, .int .i64 0, .int .i64 0, .int .i64 0, .int .i64 0, .int .i64 0, .int .i64 0, .slice none 0 0, .slice none 0 0] 37)) (w.heap.size + 1 + 1 + 1) ⟨0, 0, 0, 0, 0, 0, 0⟩ (.slice none 0 0) (.slice none 0 0) := TBx.zero (bel_alloc hL.bel _) (by simp; omega)
  have hL1 := (hL.call (new1 W0 (.cells #[.slice none 0 0] 33))).call (new1 (W0.alloc (.cells #[.slice none 0 0] 33)) (.cells #[.int .i64 0, .int .i64 0, .int .i64 0, .int .i64 0, .int .i64 0, .int .i64 0, .int .i64 0, .slice none 0 0, .slice none 0 0] 37))
  have hs1 : w.heap.size + 4 ≤ ((W0.alloc (.cells #[.slice none 0 0] 33)).alloc (.cells #[.int .i64 0, .int .i64 0, .int .i64 0, .int .i64 0, .int .i64 0, .int .i64 0, .int .i64 0, .slice none 0 0, .slice none 0 0] 37)).heap.size := by simp; omega
  generalize ((W0.alloc _).alloc _) = W1 at hz0 hz1 hL1 hs1 ⊢
  have HB1 := Lib.hid hL1.bel
  have Z0 := Lib.hid hz0
  have Z1 := Lib.hid hz1
  have L1 := Lib.hid hL1
  have c0 := hL1.st
  clear hL hz0 hz1 hs0 hL1
  go_wp2_with fail
  refine (Go.Proofs.YthbbpfgjbidbhaaGreatDoor.ls.spec_copys (by omega) (fun l hl => Nat.le_trans (hlen l hl) (by omega)) (H3.out.below (Go.Proofs.YthbbpfgjbidbhaaGreatDoor.el2.below_le HB1.out hB)) (by omega)).mono ?_
  rintro e V1 ⟨A5, c5, rfl, ho1, hb1⟩
  have OQ1 := Lib.hid (OQ.of_os ho1)
  have L2 := Lib.hid ((L1.out.call hb1).call (new1 V1 (.cells #[.slice A5 6 c5] 33)))
  have hv1 := hb1.size
  have HBV := Lib.hid hb1
  clear c0 ho1 hb1
  have hs2 : (V1.alloc (.cells #[.slice A5 6 c5] 33)).heap.size = V1.heap.size + 1 := by simp
  have hBW2 : Below W1.heap.size W1 (V1.alloc (.cells #[.slice A5 6 c5] 33)) := bel_alloc HBV.out _
  obtain ⟨t0, t1, t2, t3, t4, t5, t6, t7, t8⟩ := L2.out.tb
  go_wp2_with fail
  refine (Go.Proofs.YthbbpfgjbidbhaaGreatDoor.lc.copy_m x (by omega) (by omega) (H1.out.below (Go.Proofs.YthbbpfgjbidbhaaGreatDoor.el2.below_le L2.out.bel hB)) (H2.out.below (Go.Proofs.YthbbpfgjbidbhaaGreatDoor.el2.below_le L2.out.bel hB)) (by omega)).mono ?_
  rintro e V2 ⟨u2, v2, rfl, ho2, hb2⟩
  have hq2 := OT.of ho2
  obtain ⟨A9, c9, B9, d9, rfl, rfl, _, _⟩ := hq2.form hlR hlS
  have hv2 := hb2.size
  have hsx : SBx W1 V2 V1.heap.size (.slice A5 6 c5) := (SBx.zero (u := .slice A5 6 c5) (t := 33) HBV.out rfl).call hb2
  have hBW3 : Below W1.heap.size W1 V2 := hBW2.trans (hb2.mono (by omega))
  have hoq : OQ V2 (fun q => W1.heap.size ≤ q ∧ q < V1.heap.size) (.slice A5 6 c5) 6 C := oqC (oqA OQ1.out _) hb2
  have hR0 : Rg9 W1 (V2.alloc (.cells #[.int .i64 x.i, .int .i64 x.s, .int .i64 2, .int .i64 x.b, .int .i64 L, .int .i64 H, .int .i64 z, .slice A9 n c9, .slice B9 n2 d9] 37)) V1.heap.size V2.heap.size W1.heap.size V1.heap.size (V1.heap.size + 1) V2.heap.size (.slice A5 6 c5) 6 C ⟨x.i, x.s, 2, x.b, L, H, z⟩ (.slice A9 n c9) n R (.slice B9 n2 d9) n2 S := by
    rw [hs2] at hq2 hv2
    exact ⟨bel_alloc hBW3 _, hsx.alloc _, TBx.new (x := ⟨x.i, x.s, 2, x.b, L, H, z⟩) hBW3 rfl, oqA hoq _, otA hq2 _, Nat.le_refl _, hv1, by omega, by omega, by simp, by omega, by omega, by omega, by omega, by omega⟩
  have hZ0' := (Z0.out.call hBW3).alloc (.cells #[.int .i64 x.i, .int .i64 x.s, .int .i64 2, .int .i64 x.b, .int .i64 L, .int .i64 H, .int .i64 z, .slice A9 n c9, .slice B9 n2 d9] 37)
  have hZ1' := (Z1.out.call hBW3).alloc (.cells #[.int .i64 x.i, .int .i64 x.s, .int .i64 2, .int .i64 x.b, .int .i64 L, .int .i64 H, .int .i64 z, .slice A9 n c9, .slice B9 n2 d9] 37)
  have hL3 := (L2.out.call hb2).call (new1 V2 (.cells #[.int .i64 x.i, .int .i64 x.s, .int .i64 2, .int .i64 x.b, .int .i64 L, .int .i64 H, .int .i64 z, .slice A9 n c9, .slice B9 n2 d9] 37))
  have hv12 : V1.heap.size + 1 ≤ V2.heap.size := by omega
  unfold txv
  clear t0 t1 t2 t3 t4 t5 t6 t7 t8 ho2 hb2 hsx hoq hBW2 hBW3 hq2 OQ1 L2 HBV hs2 hv2
  go_wp2_with fail
  generalize V2.alloc _ = W4 at hR0 hZ0' hZ1' hL3 ⊢
  have R4 := Lib.hid hR0
  have Z04 := Lib.hid hZ0'
  have Z14 := Lib.hid hZ1'
  have L4 := Lib.hid hL3
  have hl45 := hR0.l4
  have hxl := hR0.sbx.lt
  have hyl := hR0.tbx.bx.lt
  have hsz4 := hL3.size
  clear hR0 hZ0' hZ1' hL3
  obtain ⟨Q, hQ⟩ : ∃ Q : Nat → Prop, Q = fun q => (W1.heap.size ≤ q ∧ q < V1.heap.size) ∨ W4.heap.size ≤ q := ⟨_, rfl⟩
  have qNo : ∀ q, q < W4.heap.size → ¬ (W1.heap.size ≤ q ∧ q < V1.heap.size) → ¬ Q q := fun q h1 h2 => by rw [hQ]; rintro (h | h); exact h2 h; omega
  have qBig : ∀ q, W4.heap.size ≤ q → Q q := fun q h1 => by rw [hQ]; exact .inr h1
  have O4 : Hid (OQ W4 Q (.slice A5 6 c5) 6 C) := Lib.hid (R4.out.oq.mono fun q _ h => by rw [hQ]; exact .inl h)
  have HQ := Lib.hid hQ
  have bW : ∀ {W : World}, Agr (fun q => ¬ Q q) W4 W → Below w.heap.size w W := fun {W} h => L4.out.bel.trans (h.below (B := w.heap.size) (by omega) fun q hq => qNo q (by omega) (by omega))
  have xW : ∀ {W : World}, Agr (fun q => ¬ Q q) W4 W → W.cell? ⟨V1.heap.size, 0, none⟩ = some (.slice A5 6 c5) := fun {W} h => (World.cell?_of_block (a := ⟨V1.heap.size, 0, none⟩) (h.block V1.heap.size (by omega) (qNo _ (by omega) (by omega)))).trans R4.out.sbx.cell
  have tW : ∀ {W : World}, Agr (fun q => ¬ Q q) W4 W → TB W (w.heap.size + 1) x (.slice A n c) (.slice A2 n2 c2) := fun {W} h => L4.out.tb.of_block (h.block (w.heap.size + 1) (by omega) (qNo _ (by omega) (by omega)))
  clear hQ
  go_loopw [14] (fun i wr => ∃ k : Nat, k ≤ n ∧ i = .int .i64 k ∧ OQ wr Q (.slice A5 6 c5) 6 (rdK z C R k) ∧ Agr (fun q => ¬ Q q) W4 wr) (fun i _ => n - (intOf i).toNat)
  case atStart => exact ⟨0, by omega, rfl, O4.out, Agr.refl _ _⟩
  case round =>
    obtain ⟨k, hk, rfl, hoq, hag⟩ := hrel
    have OK := Lib.hid hoq
    have AK := Lib.hid hag
    have hsz9 := hag.size
    obtain ⟨t0, t1, t2, t3, t4, t5, t6, t7, t8⟩ := tW hag
    clear hoq t0 t1 t2 t3 t4 t5 t6
    by_cases hlt : k < n
    · have t : decide ((k : Int) < (n : Int)) = true := decide_eq_true (by omega)
      obtain ⟨b, o, m, rfl, hbB, hx, a0, a1⟩ := (H1.out.below (Go.Proofs.YthbbpfgjbidbhaaGreatDoor.el2.below_le (bW hag) hB)).at_ (k := k) hlt
      obtain ⟨kk, l, j, y, hkk, hk6, hl, hl50, hl0, hj, hy⟩ := rd_at (k := k) HST.out HZ.out HK.out HA.out hx
      obtain ⟨g, cap, b', c', hL⟩ := OQ.chain OK.out hk6 hl hl0
      have ho := hL.out
      injection ho with ho1 _ ho3
      subst ho1 ho3
      have hjl := Go.Proofs.YthbbpfgjbidbhaaGreatDoor.el2.lt_get hy
      rw [hkk] at a0
      have k1 : (kk : Int) < 6 := by omega
      have k2 : (j : Int) < (l.length : Int) := by omega
      have hl9 : l.length ≤ 140737488355328 := by omega
      have HKK := Lib.hid hkk
      have HX := Lib.hid hx
      have HY := Lib.hid hy
      have HJ := Lib.hid hj
      have HL := Lib.hid hl
      have LI := Lib.hid hL
      have hqb := hL.qb
      have x0 := xW hag
      have d0 := hL.cell
      clear hx hy hj hl hL hkk
      go_wp2_with fail
      go_quiet ((go_at_call 48; exact Go.Proofs.YthbbpfgjbidbhaaGreatDoor.rx.qleft (Go.Proofs.YthbbpfgjbidbhaaGreatDoor.rx.spec_findq _ HJ.out hl9 (Go.Proofs.YthbbpfgjbidbhaaGreatDoor.rx.vsd LI.out.vs _))))
      go_wp2_with fail
      generalize hW : wr.drewN _ = W5
      have hb5 : Below wr.heap.size wr W5 := by rw [← hW]; exact ⟨rfl, rfl, rfl, Nat.le_refl _, fun _ _ => rfl⟩
      clear hW x0 d0 a0 a1 t7 t8
      have L5 := Lib.hid (LI.out.keep hb5)
      have O5 := Lib.hid (OK.out.below hb5)
      have A5' := Lib.hid (AK.out.trans (Agr.of_below hb5 _))
      have x0 := xW A5'.out
      have d0 := L5.out.cell
      have f4 := L5.out.free2 (j * 5 + 3)
      obtain ⟨y0, y1, y2, y3, y4⟩ := L5.out.at_ HY.out
      clear y0 y1 y2 y4 hb5
      go_region
      have O6 := Lib.hid (OQ.read O5.out (by have := HKK.out; omega) (by have := HKK.out; omega) hk6 HL.out L5.out HJ.out HY.out z)
      have A6 := Lib.hid (A5'.out.set (p := ⟨b', j * 5 + 3, none⟩) (.int .i64 (max y.d z)) (fun e => e hqb))
      rw [show rdC z (rdK z C R k) m = rdK z C R (k + 1) from (rdK_step HX.out).symm] at O6
      clear x0 d0 f4 y3 L5 O5 A5'
      generalize W5.setCell _ _ = W6 at O6 A6 ⊢
      have O7 := Lib.hid (O6.out.below ((Below.refl _ W6).drew))
      have A7 := Lib.hid (A6.out.trans (Agr.of_below ((Below.refl _ W6).drew) _))
      go_wp2_with fail
      go_roundw
      case rel => exact ⟨k + 1, by omega, by go_num, O7.out, A7.out⟩
      case measure => simp [intOf]; omega
    · have t : decide ((k : Int) < (n : Int)) = false := decide_eq_false (by omega)
      obtain rfl : n = k := by omega
      go_wp2_with fail
      clear t7 t8
      obtain ⟨C1, hC1⟩ : ∃ C1, C1 = rdK z C R R.length := ⟨_, rfl⟩
      rw [show rdK z C R n = C1 by rw [hC1, hlR]] at OK
      have HC1 := Lib.hid hC1
      clear hC1
      go_loopw [17] (fun i wr => ∃ k : Nat, k ≤ n2 ∧ i = .int .i64 k ∧ OQ wr Q (.slice A5 6 c5) 6 (wrK x.i z H C1 S k) ∧ Agr (fun q => ¬ Q q) W4 wr) (fun i _ => n2 - (intOf i).toNat)
      case atStart => exact ⟨0, by omega, rfl, OK.out, AK.out⟩
      case round =>
        obtain ⟨k, hk, rfl, hoq, hag2⟩ := hrel
        clear hag hsz9 OK AK
        have OK := Lib.hid hoq
        have AK := Lib.hid hag2
        have hsz9 := hag2.size
        obtain ⟨t0, t1, t2, t3, t4, t5, t6, t7, t8⟩ := tW hag2
        clear hoq t1 t2 t3 t4 t5 t6 t7
        by_cases hlt : k < n2
        · have t : decide ((k : Int) < (n2 : Int)) = true := decide_eq_true (by omega)
          obtain ⟨b, o, m, rfl, hbB, hx, a0, a1⟩ := (H2.out.below (Go.Proofs.YthbbpfgjbidbhaaGreatDoor.el2.below_le (bW hag2) hB)).at_ (k := k) hlt
          obtain ⟨kk, l, hkk, hk6, hl, hl50, hl0, hle⟩ := wr_at (i := x.i) (z := z) (h := H) (R := R) (k := k) HST.out HZ.out HK.out HW.out hx
          rw [← HC1.out] at hl
          obtain ⟨g, cap, b', c', hL⟩ := OQ.chain OK.out hk6 hl hl0
          have ho := hL.out
          injection ho with ho1 _ ho3
          subst ho1 ho3
          have hkn : m.a.toNat = kk := by omega
          rw [hkk] at a0
          have k1 : (kk : Int) < 6 := by omega
          have HX := Lib.hid hx
          have HL := Lib.hid hl
          have LI := Lib.hid hL
          have hqb := hL.qb
          have x0 := xW hag2
          have d0 := hL.cell
          have f0 := hL.free
          have s5 := hL.free2 ((l.length - 1) * 5 + 4)
          have HLE := Lib.hid hle
          have hl6 : l.length ≤ 50 := hl50
          clear hle
          obtain ⟨yl, hyl⟩ : ∃ y, l[l.length - 1]? = some y := ⟨_, List.getElem?_eq_getElem (by omega)⟩
          obtain ⟨e0, e1, e2, e3, e4⟩ := Lies.at_ hL hyl
          have s1 : IntKind.i64.wrap ((l.length : Int) - 1) = (l.length : Int) - 1 := IntWalk.i64_in _ (by omega)
          have s2 : (0 : Int) ≤ (l.length : Int) - 1 := by omega
          have s3 : ((l.length : Int) - 1).toNat = l.length - 1 := by omega
          have s4 : (l.length : Int) - 1 < (l.length : Int) := by omega
          clear hx hl hL hkk e0 e1 e2 e3 hyl
          go_wp2_with fail
          have hbl := LI.out.bl
          have hgl := LI.out.gl
          have hfl : flat (atJ (suV H) l (l.length - 1)) = (flat l).set ((l.length - 1) * 5 + 4) (.int .i64 H) := by
            have hx : l[l.length - 1]? = some l[l.length - 1] := List.getElem?_eq_getElem (by omega)
            rw [atJ_at hx]
            exact flat_set4 l _ _ _ hx
          have hlen1 : (atJ (suV H) l (l.length - 1)).length = l.length := atJ_len _ _ _
          have O5 := Lib.hid (OQ.succ OK.out hk6 HL.out hl0 LI.out H)
          have L5 := Lib.hid (Lies.set LI.out hlen1 hfl)
          have A5' := Lib.hid (AK.out.set (p := ⟨b', (l.length - 1) * 5 + 4, none⟩) (.int .i64 H) (fun e => e hqb))
          clear x0 d0 f0 s5 e4 t0 t8
          generalize wr.setCell _ _ = W5 at O5 L5 A5' ⊢
          have hsz5 := A5'.out.size
          obtain ⟨_, _, e9, hbB9, hx9⟩ := (H2.out.below (Go.Proofs.YthbbpfgjbidbhaaGreatDoor.el2.below_le (bW A5'.out) hB)).2 (by omega)
          injection e9 with e9
          injection e9 with e91 e92
          subst e91 e92
          have a1' := (hx9 k m HX.out).2
          have x0 := xW A5'.out
          obtain ⟨t0, t1, t2, t3, t4, t5, t6, t7, t8⟩ := tW A5'.out
          clear t1 t2 t3 t4 t5 t6 t7 hx9
          have hd : Below W5.heap.size W5 ((W5.alloc (.cells #[.int .i64 x.i, .int .i64 m.b, .int .i64 z, .int .i64 z, .int .i64 1000] 81)).drew) := (new1 W5 _).drew
          have hmA : At ((W5.alloc (.cells #[.int .i64 x.i, .int .i64 m.b, .int .i64 z, .int .i64 z, .int .i64 1000] 81)).drew) W5.heap.size 0 (nwV x.i z m) := ch.boxed W5 (nwV x.i z m) 81
          have hbl5 := L5.out.bl
          have hgl5 := L5.out.gl
          have hO6 := OK.out.len
          obtain ⟨A6, c6, w', hr, hc9, hf9, hg9, hoq⟩ := OQ.app (O5.out.below hd) hk6 (by rw [List.getElem?_set_self (by rw [hO6]; exact hk6)]) (L5.out.keep hd) (by rw [hlen1]; omega) (fun q hq => qBig q (by simp only [World.size_drew, World.size_alloc] at hq; omega)) (q := W5.heap.size) hmA (by simp) (by omega)
          rw [hlen1] at hr hc9 hoq
          rw [wr_set hkn HL.out, show wrC x.i z H (wrK x.i z H C1 S k) m = wrK x.i z H C1 S (k + 1) from (wrK_step HX.out).symm] at hoq
          have OF := Lib.hid hoq
          have GF := Lib.hid hg9
          have AF := Lib.hid ((A5'.out.trans ((Agr.of_below hd _).trans (Agr.of_grown GF.out (fun q hq e => hq (by injection e with e; rw [e]; exact hqb))))).set (p := ⟨g, kk, none⟩) (.slice A6 (l.length + 1) c6) (fun e => e LI.out.qg))
          have nq : ∀ q, q < W4.heap.size → ¬ (W1.heap.size ≤ q ∧ q < V1.heap.size) → q ≠ b' ∧ q ≠ g := fun q h1 h2 => ⟨fun e => qNo q h1 h2 (e ▸ hqb), fun e => qNo q h1 h2 (e ▸ LI.out.qg)⟩
          have gA : ∀ {p : Addr} {u : Value}, W5.cell? p = some u → p.block < W5.heap.size → ((W5.alloc (.cells #[.int .i64 x.i, .int .i64 m.b, .int .i64 z, .int .i64 z, .int .i64 1000] 81)).drew).cell? p = some u := fun {p u} hp hl => (hd.cell (p := p) hl).trans hp
          have gD : ∀ {p : Addr} {u : Value}, W5.cell? p = some u → p.block < W5.heap.size → p.block ≠ b' → w'.cell? p = some u := fun {p u} hp hl hn => GF.out.cell (gA hp hl) (fun e => hn (by injection e))
          have n1 := nq V1.heap.size (by omega) (by omega)
          have n2' := nq (w.heap.size + 1) (by omega) (by omega)
          have n3 := nq b (by omega) (by omega)
          have hS0 : W5.drew.cell? ⟨V1.heap.size, 0, none⟩ = some (.slice (some ⟨g, 0, none⟩) 6 c5) ∧ W5.drew.cell? ⟨w.heap.size + 1, 0, none⟩ = some (.int .i64 x.i) ∧ W5.drew.cell? ⟨w.heap.size + 1, 8, none⟩ = some (.slice (some ⟨b, o, none⟩) n2 c2) ∧ W5.drew.cell? ⟨b, o + k * 2 + 1, none⟩ = some (.int .i64 m.b) := ⟨x0, t0, t8, a1'⟩
          have hS1 : ((W5.alloc (.cells #[.int .i64 x.i, .int .i64 m.b, .int .i64 z, .int .i64 z, .int .i64 1000] 81)).drew).cell? ⟨V1.heap.size, 0, none⟩ = some (.slice (some ⟨g, 0, none⟩) 6 c5) ∧ ((W5.alloc (.cells #[.int .i64 x.i, .int .i64 m.b, .int .i64 z, .int .i64 z, .int .i64 1000] 81)).drew).cell? ⟨w.heap.size + 1, 0, none⟩ = some (.int .i64 x.i) ∧ ((W5.alloc (.cells #[.int .i64 x.i, .int .i64 m.b, .int .i64 z, .int .i64 z, .int .i64 1000] 81)).drew).cell? ⟨w.heap.size + 1, 8, none⟩ = some (.slice (some ⟨b, o, none⟩) n2 c2) ∧ ((W5.alloc (.cells #[.int .i64 x.i, .int .i64 m.b, .int .i64 z, .int .i64 z, .int .i64 1000] 81)).drew).cell? ⟨b, o + k * 2 + 1, none⟩ = some (.int .i64 m.b) := ⟨gA x0 (by show V1.heap.size < _; omega), gA t0 (by show w.heap.size + 1 < _; omega), gA t8 (by show w.heap.size + 1 < _; omega), gA a1' (by show b < _; omega)⟩
          have hS2 : w'.cell? ⟨V1.heap.size, 0, none⟩ = some (.slice (some ⟨g, 0, none⟩) 6 c5) ∧ w'.cell? ⟨w.heap.size + 1, 0, none⟩ = some (.int .i64 x.i) ∧ w'.cell? ⟨w.heap.size + 1, 8, none⟩ = some (.slice (some ⟨b, o, none⟩) n2 c2) ∧ w'.cell? ⟨b, o + k * 2 + 1, none⟩ = some (.int .i64 m.b) := ⟨gD x0 (by show V1.heap.size < _; omega) n1.1, gD t0 (by show w.heap.size + 1 < _; omega) n2'.1, gD t8 (by show w.heap.size + 1 < _; omega) n2'.1, gD a1' (by show b < _; omega) n3.1⟩
          have hS3 : (w'.setCell ⟨g, kk, none⟩ (.slice A6 (l.length + 1) c6)).cell? ⟨V1.heap.size, 0, none⟩ = some (.slice (some ⟨g, 0, none⟩) 6 c5) ∧ (w'.setCell ⟨g, kk, none⟩ (.slice A6 (l.length + 1) c6)).cell? ⟨w.heap.size + 1, 0, none⟩ = some (.int .i64 x.i) ∧ (w'.setCell ⟨g, kk, none⟩ (.slice A6 (l.length + 1) c6)).cell? ⟨w.heap.size + 1, 8, none⟩ = some (.slice (some ⟨b, o, none⟩) n2 c2) ∧ (w'.setCell ⟨g, kk, none⟩ (.slice A6 (l.length + 1) c6)).cell? ⟨b, o + k * 2 + 1, none⟩ = some (.int .i64 m.b) := ⟨set_other hS2.1 n1.2.symm, set_other hS2.2.1 n2'.2.symm, set_other hS2.2.2.1 n2'.2.symm, set_other hS2.2.2.2 n3.2.symm⟩
          have d0 := L5.out.cell
          rw [hlen1] at d0
          have d1 : ((W5.alloc (.cells #[.int .i64 x.i, .int .i64 m.b, .int .i64 z, .int .i64 z, .int .i64 1000] 81)).drew).cell? ⟨g, kk, none⟩ = some (.slice (some ⟨b', 0, none⟩) l.length c') := gA d0 hgl5
          clear gA gD hd hmA hg9 hoq nq n1 n2' n3
          refine wp_region_held_drew (S := fun w' => w'.cell? ⟨V1.heap.size, 0, none⟩ = some (.slice (some ⟨g, 0, none⟩) 6 c5) ∧ w'.cell? ⟨w.heap.size + 1, 0, none⟩ = some (.int .i64 x.i) ∧ w'.cell? ⟨w.heap.size + 1, 8, none⟩ = some (.slice (some ⟨b, o, none⟩) n2 c2) ∧ w'.cell? ⟨b, o + k * 2 + 1, none⟩ = some (.int .i64 m.b)) (by kernel_rfl) hS0 (fun hHeld => ?_)
          refine wpAnyH_take (i := 0) (oi := { dst := some 104, op := Op.fieldAddr 33 (Operand.tmp 12) 0, type := 0, pos := "l09_commit.go:31", after := #[], guard := none }) (v := ?_) rfl (by kernel_rfl) (by kernel_rfl) (by kernel_rfl) (fun _ _ _ h => h) (Or.inl ⟨by rfl, ?_⟩) (by assumption) ?_
          rotate_left
          · intro w9 hSw
            (try dsimp only at hSw)
            go_simp
            (try with_reducible rfl)
          (try simp only [Act.put, List.setIfInBounds_toArray, List.set_cons_zero, List.set_cons_succ])
          refine wpAnyH_take (i := 1) (oi := { dst := some 105, op := Op.load 31 (Operand.tmp 104), type := 31, pos := "l09_commit.go:31", after := #[{ on := 0, ground := Ground.data }], guard := none }) (v := ?_) rfl (by kernel_rfl) (by kernel_rfl) (by kernel_rfl) (fun _ _ _ h => h) (Or.inl ⟨by rfl, ?_⟩) (by assumption) ?_
          rotate_left
          · intro w9 hSw
            (try dsimp only at hSw)
            go_simp
            (try with_reducible rfl)
          (try simp only [Act.put, List.setIfInBounds_toArray, List.set_cons_zero, List.set_cons_succ])
          refine wpAnyH_take (i := 2) (oi := { dst := some 106, op := Op.move (Operand.tmp 18), type := 3, pos := "l09_commit.go:31", after := #[], guard := none }) (v := ?_) rfl (by kernel_rfl) (by kernel_rfl) (by kernel_rfl) (fun _ _ _ h => h) (Or.inl ⟨by rfl, ?_⟩) (by assumption) ?_
          rotate_left
          · intro w9 hSw
            (try dsimp only at hSw)
            go_simp
            (try with_reducible rfl)
          (try simp only [Act.put, List.setIfInBounds_toArray, List.set_cons_zero, List.set_cons_succ])
          refine wpAnyH_take (i := 3) (oi := { dst := some 107, op := Op.fieldAddr 33 (Operand.tmp 12) 0, type := 0, pos := "l09_commit.go:31", after := #[], guard := none }) (v := ?_) rfl (by kernel_rfl) (by kernel_rfl) (by kernel_rfl) (fun _ _ _ h => h) (Or.inl ⟨by rfl, ?_⟩) (by assumption) ?_
          rotate_left
          · intro w9 hSw
            (try dsimp only at hSw)
            go_simp
            (try with_reducible rfl)
          (try simp only [Act.put, List.setIfInBounds_toArray, List.set_cons_zero, List.set_cons_succ])
          refine wpAnyH_take (i := 4) (oi := { dst := some 108, op := Op.load 31 (Operand.tmp 107), type := 31, pos := "l09_commit.go:31", after := #[{ on := 3, ground := Ground.data }], guard := none }) (v := ?_) rfl (by kernel_rfl) (by kernel_rfl) (by kernel_rfl) (fun _ _ _ h => h) (Or.inl ⟨by rfl, ?_⟩) (by assumption) ?_
          rotate_left
          · intro w9 hSw
            (try dsimp only at hSw)
            go_simp
            (try with_reducible rfl)
          (try simp only [Act.put, List.setIfInBounds_toArray, List.set_cons_zero, List.set_cons_succ])
          refine wpAnyH_take (i := 5) (oi := { dst := some 109, op := Op.move (Operand.tmp 18), type := 3, pos := "l09_commit.go:31", after := #[], guard := none }) (v := ?_) rfl (by kernel_rfl) (by kernel_rfl) (by kernel_rfl) (fun _ _ _ h => h) (Or.inl ⟨by rfl, ?_⟩) (by assumption) ?_
          rotate_left
          · intro w9 hSw
            (try dsimp only at hSw)
            go_simp
            (try with_reducible rfl)
          (try simp only [Act.put, List.setIfInBounds_toArray, List.set_cons_zero, List.set_cons_succ])
          refine wpAnyH_take (i := 6) (oi := { dst := some 110, op := Op.indexAddr 31 (Operand.tmp 108) (Operand.tmp 109), type := 0, pos := "l09_commit.go:31", after := #[{ on := 4, ground := Ground.data }, { on := 5, ground := Ground.data }], guard := none }) (v := ?_) rfl (by kernel_rfl) (by kernel_rfl) (by kernel_rfl) (fun _ _ _ h => h) (Or.inl ⟨by rfl, ?_⟩) (by assumption) ?_
          rotate_left
          · intro w9 hSw
            (try dsimp only at hSw)
            go_simp
            (try with_reducible rfl)
          (try simp only [Act.put, List.setIfInBounds_toArray, List.set_cons_zero, List.set_cons_succ])
          refine wpAnyH_take (i := 8) (oi := { dst := some 112, op := Op.fieldAddr 37 (Operand.tmp 6) 0, type := 0, pos := "l09_commit.go:31", after := #[], guard := none }) (v := ?_) rfl (by kernel_rfl) (by kernel_rfl) (by kernel_rfl) (fun _ _ _ h => h) (Or.inl ⟨by rfl, ?_⟩) (by assumption) ?_
          rotate_left
          · intro w9 hSw
            (try dsimp only at hSw)
            go_simp
            (try with_reducible rfl)
          (try simp only [Act.put, List.setIfInBounds_toArray, List.set_cons_zero, List.set_cons_succ])
          refine wpAnyH_take (i := 9) (oi := { dst := some 113, op := Op.load 3 (Operand.tmp 112), type := 3, pos := "l09_commit.go:31", after := #[{ on := 8, ground := Ground.data }], guard := none }) (v := ?_) rfl (by kernel_rfl) (by kernel_rfl) (by kernel_rfl) (fun _ _ _ h => h) (Or.inl ⟨by rfl, ?_⟩) (by assumption) ?_
          rotate_left
          · intro w9 hSw
            (try dsimp only at hSw)
            go_simp
            (try with_reducible rfl)
          (try simp only [Act.put, List.setIfInBounds_toArray, List.set_cons_zero, List.set_cons_succ])
          refine wpAnyH_take (i := 10) (oi := { dst := some 114, op := Op.fieldAddr 37 (Operand.tmp 6) 8, type := 0, pos := "l09_commit.go:31", after := #[], guard := none }) (v := ?_) rfl (by kernel_rfl) (by kernel_rfl) (by kernel_rfl) (fun _ _ _ h => h) (Or.inl ⟨by rfl, ?_⟩) (by assumption) ?_
          rotate_left
          · intro w9 hSw
            (try dsimp only at hSw)
            go_simp
            (try with_reducible rfl)
          (try simp only [Act.put, List.setIfInBounds_toArray, List.set_cons_zero, List.set_cons_succ])
          refine wpAnyH_take (i := 11) (oi := { dst := some 115, op := Op.load 35 (Operand.tmp 114), type := 35, pos := "l09_commit.go:31", after := #[{ on := 10, ground := Ground.data }], guard := none }) (v := ?_) rfl (by kernel_rfl) (by kernel_rfl) (by kernel_rfl) (fun _ _ _ h => h) (Or.inl ⟨by rfl, ?_⟩) (by assumption) ?_
          rotate_left
          · intro w9 hSw
            (try dsimp only at hSw)
            go_simp
            (try with_reducible rfl)
          (try simp only [Act.put, List.setIfInBounds_toArray, List.set_cons_zero, List.set_cons_succ])
          refine wpAnyH_take (i := 12) (oi := { dst := some 116, op := Op.move (Operand.tmp 17), type := 3, pos := "l09_commit.go:31", after := #[], guard := none }) (v := ?_) rfl (by kernel_rfl) (by kernel_rfl) (by kernel_rfl) (fun _ _ _ h => h) (Or.inl ⟨by rfl, ?_⟩) (by assumption) ?_
          rotate_left
          · intro w9 hSw
            (try dsimp only at hSw)
            go_simp
            (try with_reducible rfl)
          (try simp only [Act.put, List.setIfInBounds_toArray, List.set_cons_zero, List.set_cons_succ])
          refine wpAnyH_take (i := 13) (oi := { dst := some 117, op := Op.indexAddr 35 (Operand.tmp 115) (Operand.tmp 116), type := 0, pos := "l09_commit.go:31", after := #[{ on := 11, ground := Ground.data }, { on := 12, ground := Ground.data }], guard := none }) (v := ?_) rfl (by kernel_rfl) (by kernel_rfl) (by kernel_rfl) (fun _ _ _ h => h) (Or.inl ⟨by rfl, ?_⟩) (by assumption) ?_
          rotate_left
          · intro w9 hSw
            (try dsimp only at hSw)
            go_simp
            (try with_reducible rfl)
          (try simp only [Act.put, List.setIfInBounds_toArray, List.set_cons_zero, List.set_cons_succ])
          refine wpAnyH_take (i := 14) (oi := { dst := some 118, op := Op.fieldAddr 75 (Operand.tmp 117) 1, type := 0, pos := "l09_commit.go:31", after := #[{ on := 13, ground := Ground.data }], guard := none }) (v := ?_) rfl (by kernel_rfl) (by kernel_rfl) (by kernel_rfl) (fun _ _ _ h => h) (Or.inl ⟨by rfl, ?_⟩) (by assumption) ?_
          rotate_left
          · intro w9 hSw
            (try dsimp only at hSw)
            go_simp
            (try with_reducible rfl)
          (try simp only [Act.put, List.setIfInBounds_toArray, List.set_cons_zero, List.set_cons_succ])
          refine wpAnyH_take (i := 15) (oi := { dst := some 119, op := Op.load 3 (Operand.tmp 118), type := 3, pos := "l09_commit.go:31", after := #[{ on := 14, ground := Ground.data }], guard := none }) (v := ?_) rfl (by kernel_rfl) (by kernel_rfl) (by kernel_rfl) (fun _ _ _ h => h) (Or.inl ⟨by rfl, ?_⟩) (by assumption) ?_
          rotate_left
          · intro w9 hSw
            (try dsimp only at hSw)
            go_simp
            (try with_reducible rfl)
          (try simp only [Act.put, List.setIfInBounds_toArray, List.set_cons_zero, List.set_cons_succ])
          refine wpAnyH_take (i := 16) (oi := { dst := some 120, op := Op.move (Operand.tmp 2), type := 3, pos := "l09_commit.go:31", after := #[], guard := none }) (v := ?_) rfl (by kernel_rfl) (by kernel_rfl) (by kernel_rfl) (fun _ _ _ h => h) (Or.inl ⟨by rfl, ?_⟩) (by assumption) ?_
          rotate_left
          · intro w9 hSw
            (try dsimp only at hSw)
            go_simp
            (try with_reducible rfl)
          (try simp only [Act.put, List.setIfInBounds_toArray, List.set_cons_zero, List.set_cons_succ])
          refine wpAnyH_take (i := 17) (oi := { dst := some 121, op := Op.move (Operand.tmp 2), type := 3, pos := "l09_commit.go:31", after := #[], guard := none }) (v := ?_) rfl (by kernel_rfl) (by kernel_rfl) (by kernel_rfl) (fun _ _ _ h => h) (Or.inl ⟨by rfl, ?_⟩) (by assumption) ?_
          rotate_left
          · intro w9 hSw
            (try dsimp only at hSw)
            go_simp
            (try with_reducible rfl)
          (try simp only [Act.put, List.setIfInBounds_toArray, List.set_cons_zero, List.set_cons_succ])
          refine wpAnyH_take (i := 18) (oi := { dst := some 122, op := Op.build 81 #[(0, Operand.tmp 113), (1, Operand.tmp 119), (2, Operand.tmp 120), (3, Operand.tmp 121), (4, Operand.const (Value.int IntKind.i64 1000))], type := 81, pos := "l09_commit.go:31", after := #[{ on := 9, ground := Ground.data }, { on := 15, ground := Ground.data }, { on := 16, ground := Ground.data }, { on := 17, ground := Ground.data }], guard := none }) (v := ?_) rfl (by kernel_rfl) (by kernel_rfl) (by kernel_rfl) (fun _ _ _ h => h) (Or.inl ⟨by rfl, ?_⟩) (by assumption) ?_
          rotate_left
          · intro w9 hSw
            (try dsimp only at hSw)
            go_simp
            (try with_reducible rfl)
          (try simp only [Act.put, List.setIfInBounds_toArray, List.set_cons_zero, List.set_cons_succ])
          refine wpAnyH_ready (rs := [7, 19]) (by kernel_rfl) (by simp) ?_
          refine AllReadyH.cons (o := { dst := some 111, op := Op.load 73 (Operand.tmp 110), type := 73, pos := "l09_commit.go:31", after := #[{ on := 6, ground := Ground.data }], guard := none }) rfl (fun K hK => ?_) (AllReadyH.cons (o := { dst := some 123, op := Op.buildSlice 73 1 #[(0, Operand.tmp 122)], type := 73, pos := "l09_commit.go:31", after := #[{ on := 18, ground := Ground.data }], guard := none }) rfl (fun K hK => ?_) AllReadyH.nil)
          · go_simp
            refine hK.out _ _ hS0 (fun hHeld => ?_)
            clear hK K
            (try simp only [Act.put, List.setIfInBounds_toArray, List.set_cons_zero, List.set_cons_succ])
            refine wpAnyH_ready (rs := [19]) (by kernel_rfl) (by simp) ?_
            refine AllReadyH.cons (o := { dst := some 123, op := Op.buildSlice 73 1 #[(0, Operand.tmp 122)], type := 73, pos := "l09_commit.go:31", after := #[{ on := 18, ground := Ground.data }], guard := none }) rfl (fun K hK => ?_) AllReadyH.nil
            go_simp
            refine hK.out _ _ hS1 (fun hHeld => ?_)
            clear hK K
            (try simp only [Act.put, List.setIfInBounds_toArray, List.set_cons_zero, List.set_cons_succ])
            refine wpAnyH_ready (rs := [20]) (by kernel_rfl) (by simp) ?_
            refine AllReadyH.cons (o := { dst := some 124, op := Op.call { callee := Callee.builtin Builtin.append, args := #[Operand.tmp 111, Operand.tmp 123], argTypes := #[73, 73] }, type := 73, pos := "l09_commit.go:31", after := #[{ on := 7, ground := Ground.data }, { on := 19, ground := Ground.data }], guard := none }) rfl (fun K hK => ?_) AllReadyH.nil
            refine step_append_run rfl (.tmp 111) (.tmp 123) 73 73 rfl _ _ (by simp [Act.eval, Act.put]) (by simp [Act.eval, Act.put]) hr ?_
            refine hK.out _ _ hS2 (fun hHeld => ?_)
            clear hK K
            (try simp only [Act.put, List.setIfInBounds_toArray, List.set_cons_zero, List.set_cons_succ])
            refine wpAnyH_take (i := 21) (oi := { dst := some 125, op := Op.indexAddr 31 (Operand.tmp 105) (Operand.tmp 106), type := 0, pos := "l09_commit.go:31", after := #[{ on := 1, ground := Ground.data }, { on := 2, ground := Ground.data }, { on := 0, ground := Ground.phase }, { on := 1, ground := Ground.phase }, { on := 2, ground := Ground.phase }, { on := 3, ground := Ground.phase }, { on := 4, ground := Ground.phase }, { on := 5, ground := Ground.phase }, { on := 6, ground := Ground.phase }, { on := 7, ground := Ground.phase }, { on := 8, ground := Ground.phase }, { on := 9, ground := Ground.phase }, { on := 10, ground := Ground.phase }, { on := 11, ground := Ground.phase }, { on := 12, ground := Ground.phase }, { on := 13, ground := Ground.phase }, { on := 14, ground := Ground.phase }, { on := 15, ground := Ground.phase }, { on := 16, ground := Ground.phase }, { on := 17, ground := Ground.phase }, { on := 18, ground := Ground.phase }, { on := 19, ground := Ground.phase }, { on := 20, ground := Ground.phase }], guard := none }) (v := ?_) rfl (by kernel_rfl) (by kernel_rfl) (by kernel_rfl) (fun _ _ _ h => h) (Or.inl ⟨by rfl, ?_⟩) (by assumption) ?_
            rotate_left
            · intro w9 hSw
              (try dsimp only at hSw)
              go_simp
              (try with_reducible rfl)
            (try simp only [Act.put, List.setIfInBounds_toArray, List.set_cons_zero, List.set_cons_succ])
            refine wpAnyH_ready (rs := [22]) (by kernel_rfl) (by simp) ?_
            refine AllReadyH.cons (o := { dst := none, op := Op.store 73 (Operand.tmp 125) (Operand.tmp 124), type := 0, pos := "l09_commit.go:31", after := #[{ on := 21, ground := Ground.data }, { on := 20, ground := Ground.data }, { on := 20, ground := Ground.chain }, { on := 0, ground := Ground.phase }, { on := 1, ground := Ground.phase }, { on := 2, ground := Ground.phase }, { on := 3, ground := Ground.phase }, { on := 4, ground := Ground.phase }, { on := 5, ground := Ground.phase }, { on := 6, ground := Ground.phase }, { on := 7, ground := Ground.phase }, { on := 8, ground := Ground.phase }, { on := 9, ground := Ground.phase }, { on := 10, ground := Ground.phase }, { on := 11, ground := Ground.phase }, { on := 12, ground := Ground.phase }, { on := 13, ground := Ground.phase }, { on := 14, ground := Ground.phase }, { on := 15, ground := Ground.phase }, { on := 16, ground := Ground.phase }, { on := 17, ground := Ground.phase }, { on := 18, ground := Ground.phase }, { on := 19, ground := Ground.phase }, { on := 20, ground := Ground.phase }], guard := none }) rfl (fun K hK => ?_) AllReadyH.nil
            go_simp
            refine hK.out _ _ hS3 (fun hHeld => ?_)
            clear hK K
            (try simp only [Act.put, List.setIfInBounds_toArray, List.set_cons_zero, List.set_cons_succ])
            refine wpAnyH_done (by kernel_rfl) ?_ _
            clear hHeld hS0 hS1 hS2 hS3 hr hc9 hf9 x0 d0 d1 a1' t0 t8
            have hOF := OF.out
            have hAF := AF.out
            clear OF AF GF
            generalize World.setCell w' _ _ = W9 at hOF hAF ⊢
            have OF := Lib.hid hOF
            have AF := Lib.hid hAF
            clear hOF hAF
            go_wp2_with fail
            go_roundw
            case rel => exact ⟨k + 1, by omega, by go_num, OF.out, AF.out⟩
            case measure => simp [intOf]; omega
          · go_simp
            refine hK.out _ _ hS1 (fun hHeld => ?_)
            clear hK K
            (try simp only [Act.put, List.setIfInBounds_toArray, List.set_cons_zero, List.set_cons_succ])
            refine wpAnyH_ready (rs := [7]) (by kernel_rfl) (by simp) ?_
            refine AllReadyH.cons (o := { dst := some 111, op := Op.load 73 (Operand.tmp 110), type := 73, pos := "l09_commit.go:31", after := #[{ on := 6, ground := Ground.data }], guard := none }) rfl (fun K hK => ?_) AllReadyH.nil
            go_simp
            refine hK.out _ _ hS1 (fun hHeld => ?_)
            clear hK K
            (try simp only [Act.put, List.setIfInBounds_toArray, List.set_cons_zero, List.set_cons_succ])
            refine wpAnyH_ready (rs := [20]) (by kernel_rfl) (by simp) ?_
            refine AllReadyH.cons (o := { dst := some 124, op := Op.call { callee := Callee.builtin Builtin.append, args := #[Operand.tmp 111, Operand.tmp 123], argTypes := #[73, 73] }, type := 73, pos := "l09_commit.go:31", after := #[{ on := 7, ground := Ground.data }, { on := 19, ground := Ground.data }], guard := none }) rfl (fun K hK => ?_) AllReadyH.nil
            refine step_append_run rfl (.tmp 111) (.tmp 123) 73 73 rfl _ _ (by simp [Act.eval, Act.put]) (by simp [Act.eval, Act.put]) hr ?_
            refine hK.out _ _ hS2 (fun hHeld => ?_)
            clear hK K
            (try simp only [Act.put, List.setIfInBounds_toArray, List.set_cons_zero, List.set_cons_succ])
            refine wpAnyH_take (i := 21) (oi := { dst := some 125, op := Op.indexAddr 31 (Operand.tmp 105) (Operand.tmp 106), type := 0, pos := "l09_commit.go:31", after := #[{ on := 1, ground := Ground.data }, { on := 2, ground := Ground.data }, { on := 0, ground := Ground.phase }, { on := 1, ground := Ground.phase }, { on := 2, ground := Ground.phase }, { on := 3, ground := Ground.phase }, { on := 4, ground := Ground.phase }, { on := 5, ground := Ground.phase }, { on := 6, ground := Ground.phase }, { on := 7, ground := Ground.phase }, { on := 8, ground := Ground.phase }, { on := 9, ground := Ground.phase }, { on := 10, ground := Ground.phase }, { on := 11, ground := Ground.phase }, { on := 12, ground := Ground.phase }, { on := 13, ground := Ground.phase }, { on := 14, ground := Ground.phase }, { on := 15, ground := Ground.phase }, { on := 16, ground := Ground.phase }, { on := 17, ground := Ground.phase }, { on := 18, ground := Ground.phase }, { on := 19, ground := Ground.phase }, { on := 20, ground := Ground.phase }], guard := none }) (v := ?_) rfl (by kernel_rfl) (by kernel_rfl) (by kernel_rfl) (fun _ _ _ h => h) (Or.inl ⟨by rfl, ?_⟩) (by assumption) ?_
            rotate_left
            · intro w9 hSw
              (try dsimp only at hSw)
              go_simp
              (try with_reducible rfl)
            (try simp only [Act.put, List.setIfInBounds_toArray, List.set_cons_zero, List.set_cons_succ])
            refine wpAnyH_ready (rs := [22]) (by kernel_rfl) (by simp) ?_
            refine AllReadyH.cons (o := { dst := none, op := Op.store 73 (Operand.tmp 125) (Operand.tmp 124), type := 0, pos := "l09_commit.go:31", after := #[{ on := 21, ground := Ground.data }, { on := 20, ground := Ground.data }, { on := 20, ground := Ground.chain }, { on := 0, ground := Ground.phase }, { on := 1, ground := Ground.phase }, { on := 2, ground := Ground.phase }, { on := 3, ground := Ground.phase }, { on := 4, ground := Ground.phase }, { on := 5, ground := Ground.phase }, { on := 6, ground := Ground.phase }, { on := 7, ground := Ground.phase }, { on := 8, ground := Ground.phase }, { on := 9, ground := Ground.phase }, { on := 10, ground := Ground.phase }, { on := 11, ground := Ground.phase }, { on := 12, ground := Ground.phase }, { on := 13, ground := Ground.phase }, { on := 14, ground := Ground.phase }, { on := 15, ground := Ground.phase }, { on := 16, ground := Ground.phase }, { on := 17, ground := Ground.phase }, { on := 18, ground := Ground.phase }, { on := 19, ground := Ground.phase }, { on := 20, ground := Ground.phase }], guard := none }) rfl (fun K hK => ?_) AllReadyH.nil
            go_simp
            refine hK.out _ _ hS3 (fun hHeld => ?_)
            clear hK K
            (try simp only [Act.put, List.setIfInBounds_toArray, List.set_cons_zero, List.set_cons_succ])
            refine wpAnyH_done (by kernel_rfl) ?_ _
            clear hHeld hS0 hS1 hS2 hS3 hr hc9 hf9 x0 d0 d1 a1' t0 t8
            have hOF := OF.out
            have hAF := AF.out
            clear OF AF GF
            generalize World.setCell w' _ _ = W9 at hOF hAF ⊢
            have OF := Lib.hid hOF
            have AF := Lib.hid hAF
            clear hOF hAF
            go_wp2_with fail
            go_roundw
            case rel => exact ⟨k + 1, by omega, by go_num, OF.out, AF.out⟩
            case measure => simp [intOf]; omega
        · have t : decide ((k : Int) < (n2 : Int)) = false := decide_eq_false (by omega)
          obtain rfl : n2 = k := by omega
          go_wp2_with fail
          clear t0 t8
          have hT9 := OT.keep (V' := wr) R4.out.ot fun q h h' => hag2.block q (by omega) (qNo q (by omega) (by omega))
          have blk : ∀ q, q < W4.heap.size → ¬ (W1.heap.size ≤ q ∧ q < V1.heap.size) → wr.heap[q]? = W4.heap[q]? := fun q h1 h2 => hag2.block q h1 (qNo q h1 h2)
          have T5 := Lib.hid (TBx.mk R4.out.tbx.lo (R4.out.tbx.bx.of_block (blk V2.heap.size (by omega) (by omega))))
          have Z05 : Hid (SBx w wr (w.heap.size + 1 + 1) (.slice none 0 0)) := Lib.hid ⟨Z04.out.lo, Nat.lt_of_lt_of_le Z04.out.lt hsz9, (World.cell?_of_block (a := ⟨w.heap.size + 1 + 1, 0, none⟩) (blk (w.heap.size + 1 + 1) Z04.out.lt (by omega))).trans Z04.out.cell, (World.frozen?_of_block (a := ⟨w.heap.size + 1 + 1, 0, none⟩) (blk (w.heap.size + 1 + 1) Z04.out.lt (by omega))).trans Z04.out.free⟩
          have Z15 : Hid (TBx w wr (w.heap.size + 1 + 1 + 1) ⟨0, 0, 0, 0, 0, 0, 0⟩ (.slice none 0 0) (.slice none 0 0)) := Lib.hid ⟨Z14.out.lo, Z14.out.bx.of_block (blk (w.heap.size + 1 + 1 + 1) Z14.out.bx.lt (by omega))⟩
          have HB5 := Lib.hid (bW hag2)
          have OT5 := Lib.hid hT9
          have k0 := xW hag2
          have OK2 := OK.out
          have hQ5 : ∀ q, Q q → w.heap.size + 4 ≤ q := fun q h => by rw [HQ.out] at h; omega
          clear hT9 blk hag2 AK OK bW xW tW Z04 Z14
          rw [show wrK x.i z H C1 S n2 = insC C x.i z H R S by rw [HC1.out, ← hlS]; rfl] at OK2
          have OK := Lib.hid OK2
          clear OK2
          obtain ⟨b0, b1, b2, b3, b4, b5, b6, b7, b8⟩ := T5.out.bx.tb
          have r0 := Z05.out.cell
          have r1 := Z05.out.free
          obtain ⟨z0, z1, z2, z3, z4, z5, z6, z7, z8⟩ := Z15.out.bx.tb
          have y0 := Z15.out.bx.fz 0
          have y1 := Z15.out.bx.fz 1
          have y2 := Z15.out.bx.fz 2
          have y3 := Z15.out.bx.fz 3
          have y4 := Z15.out.bx.fz 4
          have y5 := Z15.out.bx.fz 5
          have y6 := Z15.out.bx.fz 6
          have y7 := Z15.out.bx.fz 7
          have y8 := Z15.out.bx.fz 8
          go_region
          have F0 := (fin1 (s := .slice A5 6 c5) (x := ⟨x.i, x.s, 2, x.b, L, H, z⟩) (u := .slice A9 n c9) (v := .slice B9 n2 d9) Z05.out Z15.out (by omega)).drew
          clear k0 b0 b1 b2 b3 b4 b5 b6 b7 b8 r0 r1 z0 z1 z2 z3 z4 z5 z6 z7 z8 y0 y1 y2 y3 y4 y5 y6 y7 y8
          generalize World.drew _ = Wf at F0 ⊢
          have F := Lib.hid F0
          clear F0
          go_wp2_with fail
          have es := F.out.st
          obtain ⟨e0, e1, e2, e3, e4, e5, e6, e7, e8⟩ := F.out.tb
          obtain ⟨hO, hT, hB9⟩ := fin_end OK.out hQ5 OT5.out (by omega) (by omega) HB5.out F.out
          refine bodyPost_ret (v := .tuple #[.agg #[.slice A5 6 c5], .agg #[.int .i64 x.i, .int .i64 x.s, .int .i64 2, .int .i64 x.b, .int .i64 L, .int .i64 H, .int .i64 z, .slice A9 n c9, .slice B9 n2 d9]]) (by simp [results, Tryz.results23, go_sem, es, e0, e1, e2, e3, e4, e5, e6, e7, e8]) rfl ?_
          exact ⟨_, _, _, _, _, _, rfl, hO, hT, hB9⟩
end Go.Proofs.YthbbpfgjbidbhaaGreatDoor.li
