/- CommitCode of the model: what it answers; nothing that was there is written. -/
import Derived.Test.YtdfhnngcddaccaaCmc
namespace Go.Proofs.Ytdfhnngcddaccaa.cms
open Go.ChangeShapes Go.WideShapes Go.ChangeAt Go.RowKit
open Go.Proofs.Ytdfhnngcddaccaa.el2 Go.Proofs.Ytdfhnngcddaccaa.tx Go.Proofs.Ytdfhnngcddaccaa.seq Go.Proofs.Ytdfhnngcddaccaa.tv Go.Proofs.Ytdfhnngcddaccaa.rx Go.Proofs.Ytdfhnngcddaccaa.ru Go.Proofs.Ytdfhnngcddaccaa.ruc Go.Proofs.Ytdfhnngcddaccaa.sc Go.Proofs.Ytdfhnngcddaccaa.cho Go.Proofs.Ytdfhnngcddaccaa.rl Go.Proofs.Ytdfhnngcddaccaa.cmc
open Go.Proofs.Ytdfhnngcddaccaa.vers (In in_yes in_no in_of in_off ret_b new2 new3)
open Go.Proofs.Ytdfhnngcddaccaa.sl (Ver)
open Go.Proofs.Ytdfhnngcddaccaa.st (Rs)
open Go.Proofs.Ytdfhnngcddaccaa.val (stB)
open Go.Proofs.Ytdfhnngcddaccaa.find (lastV vAt store5 below5 latest_spec latest_impl)
set_option linter.unusedVariables false
set_option linter.unusedSimpArgs false
theorem cm_no {s c b : Int} (h : ¬ b < c) : ccM s c b = 0 := by unfold ccM; rw [if_neg h]
theorem cm_2v {s c b : Int} (h : b < c) (h2 : s = 2) : ccM s c b = 2 := by unfold ccM; rw [if_pos h, if_pos h2]
theorem cm_4v {s c b : Int} (h : b < c) (h4 : s = 4) : ccM s c b = 3 := by unfold ccM; rw [if_pos h, if_neg (by omega), if_pos h4]
theorem cm_0v {s c b : Int} (h2 : s ≠ 2) (h4 : s ≠ 4) : ccM s c b = 0 := by unfold ccM; rw [if_neg h2, if_neg h4]; split <;> rfl
set_option maxRecDepth 100000 in
set_option maxHeartbeats 12800000 in
theorem spec_cc {w : World} {B n c n2 c2 N cN : Nat} {A A2 D : Option Addr} {R S : List E2} {C : List (List Ver)} (x : Hd) (hn : n ≤ 1048576) (hn2 : n2 ≤ 1048576) (hN : N ≤ 1048576) (h1 : Vs w B A n R) (h2 : Vs w B A2 n2 S) (h3 : Rs w B D N C) (hB : B ≤ w.heap.size) :
    Calls Try.prog 14 #[.agg #[.slice D N cN], .agg #[.int .i64 x.i, .int .i64 x.s, .int .i64 x.t, .int .i64 x.b, .int .i64 x.l, .int .i64 x.h, .int .i64 x.c, .slice A n c, .slice A2 n2 c2]] w fun e w' => e = .returned (.int .i64 (ccI C x R S)) ∧ Below w.heap.size w w' := by
  have H1 := Lib.hid h1
  have H2 := Lib.hid h2
  have H3 := Lib.hid h3
  have hln := h1.1
  have hln2 := h2.1
  have hln3 := h3.1
  clear h1 h2 h3
  obtain ⟨i, hi⟩ : ∃ i, ccI C x R S = i := ⟨_, rfl⟩
  rw [hi]
  have HI := Lib.hid hi
  clear hi
  obtain ⟨gq, hgq⟩ : ∃ q, gdB C x R S 0 = q := ⟨_, rfl⟩
  have HG := Lib.hid hgq
  clear hgq
  go_enter Try.func14, Try.ntmps14
  go_wp2_with fail
  have hL := LS.mk2 w (.slice D N cN) 26 30 x A n c A2 n2 c2
  generalize ((w.alloc _).alloc _) = W0 at hL ⊢
  have L0 := Lib.hid hL
  have c0 := hL.st
  obtain ⟨t0, t1, t2, t3, t4, t5, t6, t7, t8⟩ := hL.tb
  clear hL
  go_wp2_with fail
  refine (spec_good x 0 (by omega) (by omega) (by omega) (H1.out.below (below_le L0.out.bel hB)) (H2.out.below (below_le L0.out.bel hB)) (H3.out.below (below_le L0.out.bel hB)) (by have := L0.out.size; omega)).mono ?_
  rintro e W1 ⟨rfl, hb⟩
  rw [HG.out]
  have L1 := Lib.hid (L0.out.call hb)
  clear hb c0 t0 t1 t2 t3 t4 t5 t6 t7 t8
  rcases gq with _ | _
  · have HE : Hid ((6 : Int) = i) := Lib.hid (by rw [← HI.out, cc_no HG.out])
    go_wp2_with fail
    go_ret
    exact ⟨ret_j HE.out, L1.out.bel⟩
  have HTX : Hid (txB x R S = true) := Lib.hid (gd_parts HG.out).2.1
  have HST : Hid (stB C = true) := Lib.hid (gd_parts HG.out).1
  go_wp2_with fail
  go_loopw [5] (fun i wr => ∃ k : Nat, k ≤ n2 ∧ i = .int .i64 k ∧ Pass C x S k ∧ LS w (.slice D N cN) x (.slice A n c) (.slice A2 n2 c2) wr) (fun i _ => n2 - (intOf i).toNat)
  case atStart => exact ⟨0, by omega, rfl, pass_0 C x S, L1.out⟩
  case round =>
    obtain ⟨k, hk, rfl, hp, hL⟩ := hrel
    have HP := Lib.hid hp
    have LW := Lib.hid hL
    have c0 := hL.st
    obtain ⟨t0, t1, t2, t3, t4, t5, t6, t7, t8⟩ := hL.tb
    clear hp hL t0 t2 t4 t5 t6 t7
    by_cases hlt : k < n2
    · obtain ⟨b, o, y, rfl, hbB, hx, a0, a1⟩ := (H2.out.below (below_le LW.out.bel hB)).at_ hlt
      have HX := Lib.hid hx
      clear hx a1
      have hsz := LW.out.size
      have h6 := val.st_six HST.out
      rw [H3.out.1] at h6
      obtain ⟨s1, s2⟩ := wkey_of HTX.out HX.out
      have s3 : y.a < (N : Int) := by omega
      have s4 : y.a.toNat < N := by omega
      clear h6
      obtain ⟨b2, o2, l, A9, n9, c9, rfl, hb2, hl, d0, hn9, hv⟩ := (H3.out.below (below_le LW.out.bel hB)).at_ s4
      have HV := Lib.hid hv
      obtain ⟨z0, hz0⟩ : ∃ z, latOf C y = z := ⟨_, rfl⟩
      have HZ0 := Lib.hid hz0
      have HLV : Hid (lastV l = z0) := Lib.hid (by rw [lat_at hl, hz0])
      clear hv hz0 hl
      have hlb : b < wr.heap.size := by omega
      have hlb2 : b2 < wr.heap.size := by omega
      have hBw : B ≤ wr.heap.size := by omega
      go_wp2_with fail
      have hbk0 : Below wr.heap.size wr wr.drew := (Below.refl _ _).drew
      have LD := Lib.hid (LW.out.call hbk0)
      have hlbd : b < wr.drew.heap.size := Nat.lt_of_lt_of_le hlb hbk0.size
      have hlbd2 : b2 < wr.drew.heap.size := Nat.lt_of_lt_of_le hlb2 hbk0.size
      have hBd : B ≤ wr.drew.heap.size := Nat.le_trans hBw hbk0.size
      go_region_held3 (fun w' => w'.cell? ⟨w.heap.size, 0, none⟩ = some (.slice (some ⟨b2, o2, none⟩) N cN) ∧ w'.cell? ⟨w.heap.size + 1, 8, none⟩ = some (.slice (some ⟨b, o, none⟩) n2 c2) ∧ w'.cell? ⟨w.heap.size + 1, 3, none⟩ = some (.int .i64 x.b) ∧ w'.cell? ⟨b, o + k * 2, none⟩ = some (.int .i64 y.a) ∧ w'.cell? ⟨b2, o2 + y.a.toNat, none⟩ = some (.slice A9 n9 c9)) (go_keep) (first | (go_at_call 20; (with_reducible refine (latest_spec HLV.out hn9 ((HV.out.below (below_le hbk0 hBw)).more hBd) (Nat.le_refl _)).mono ?_); rintro e W5 ⟨he, hb'⟩; subst he; have hf := fld2 (.int .i64 z0.a) (.int .i64 z0.b) (.int .i64 z0.c) (.int .i64 z0.d) (.int .i64 z0.e); have L5 := Lib.hid (LD.out.call hb'); have c1 := L5.out.st; obtain ⟨_, ts1, _, t3b, _, _, _, _, t8b⟩ := L5.out.tb; have e0 := (hb'.cell (p := ⟨b, o + k * 2, none⟩) hlbd).trans ((hbk0.cell (p := ⟨b, o + k * 2, none⟩) hlb).trans a0); have d1 := (hb'.cell (p := ⟨b2, o2 + y.a.toNat, none⟩) hlbd2).trans ((hbk0.cell (p := ⟨b2, o2 + y.a.toNat, none⟩) hlb2).trans d0)))
      all_goals
        clear hf c1 t3b e0 d1 c0 d0 t3 t1 t8 t8b a0 hbk0 hb' hlb hlb2 hlbd hlbd2
        by_cases hc : z0.c ≤ x.b
        · have t1 : decide (z0.c ≤ x.b) = true := decide_eq_true hc
          have HE : Hid (ccM x.s z0.c x.b = 0) := Lib.hid (cm_no (by omega))
          clear ts1
          go_wp2_with fail
          go_roundw
          case rel => exact ⟨k + 1, by omega, by go_num, pass_step HP.out HX.out HZ0.out HE.out, L5.out⟩
          case measure => simp [intOf]; omega
        have t1 : decide (z0.c ≤ x.b) = false := decide_eq_false hc
        have hc' : x.b < z0.c := by omega
        by_cases q2 : x.s = 2
        · have t2 : (x.s == 2) = true := by simpa using q2
          have HE : Hid ((2 : Int) = i) := Lib.hid (by rw [cc_hit HG.out HX.out HZ0.out (cm_2v hc' q2) (by omega)]; exact HI.out)
          clear q2
          go_wp2_with fail
          go_ret
          exact ⟨ret_j HE.out, L5.out.bel⟩
        have t2 : (x.s == 2) = false := by simpa using q2
        by_cases q4 : x.s = 4
        · have t4 : (x.s == 4) = true := by simpa using q4
          have HE : Hid ((3 : Int) = i) := Lib.hid (by rw [cc_hit HG.out HX.out HZ0.out (cm_4v hc' q4) (by omega)]; exact HI.out)
          clear q2 q4
          go_wp2_with fail
          go_ret
          exact ⟨ret_j HE.out, L5.out.bel⟩
        have t4 : (x.s == 4) = false := by simpa using q4
        have HE : Hid (ccM x.s z0.c x.b = 0) := Lib.hid (cm_0v q2 q4)
        clear q2 q4
        go_wp2_with fail
        go_roundw
        case rel => exact ⟨k + 1, by omega, by go_num, pass_step HP.out HX.out HZ0.out HE.out, L5.out⟩
        case measure => simp [intOf]; omega
    · obtain rfl : n2 = k := by omega
      clear t1 t3 c0
      go_wp2_with fail
      go_ret
      exact ⟨ret_j (by rw [cc_end HG.out hln2 HP.out]; exact HI.out), LW.out.bel⟩
end Go.Proofs.Ytdfhnngcddaccaa.cms
