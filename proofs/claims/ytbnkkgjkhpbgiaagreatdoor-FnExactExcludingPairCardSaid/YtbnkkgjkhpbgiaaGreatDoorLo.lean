/- The model's l8Low: the mark that sets the low end; nothing that was there is written. -/
import Derived.Test.YtbnkkgjkhpbgiaaGreatDoorMx
import Derived.Test.YtbnkkgjkhpbgiaaGreatDoorEp
import Derived.Deep.RegionHeld3
namespace Go.Proofs.YtbnkkgjkhpbgiaaGreatDoor.lo
open Go.ChangeShapes Go.WideShapes Go.ChangeAt Go.RowKit
open Go.Proofs.YtbnkkgjkhpbgiaaGreatDoor.el2 Go.Proofs.YtbnkkgjkhpbgiaaGreatDoor.tx Go.Proofs.YtbnkkgjkhpbgiaaGreatDoor.seq Go.Proofs.YtbnkkgjkhpbgiaaGreatDoor.tv Go.Proofs.YtbnkkgjkhpbgiaaGreatDoor.tf Go.Proofs.YtbnkkgjkhpbgiaaGreatDoor.rx Go.Proofs.YtbnkkgjkhpbgiaaGreatDoor.ri Go.Proofs.YtbnkkgjkhpbgiaaGreatDoor.rl Go.Proofs.YtbnkkgjkhpbgiaaGreatDoor.ov Go.Proofs.YtbnkkgjkhpbgiaaGreatDoor.bx Go.Proofs.YtbnkkgjkhpbgiaaGreatDoor.mx Go.Proofs.YtbnkkgjkhpbgiaaGreatDoor.em Go.Proofs.YtbnkkgjkhpbgiaaGreatDoor.ep
open Go.Proofs.YtbnkkgjkhpbgiaaGreatDoor.vers (new2)
open Go.Proofs.YtbnkkgjkhpbgiaaGreatDoor.sl (Ver)
open Go.Proofs.YtbnkkgjkhpbgiaaGreatDoor.st (Rs)
open Go.Proofs.YtbnkkgjkhpbgiaaGreatDoor.val (stB)
set_option linter.unusedVariables false
set_option linter.unusedSimpArgs false
/-- the boxes of a store, of a transaction, of the result, of the best mark so far -/
structure LN (w : World) (sv : Value) (x : Hd) (u1 u2 : Value) (m : E2) (W : World) : Prop where
  lm : LM w sv x u1 u2 ⟨0, 0⟩ W
  size : w.heap.size + 4 ≤ W.heap.size
  bb : Mx W (w.heap.size + 3) m
section
variable {w W W' : World} {x : Hd} {u1 u2 sv : Value} {m m' : E2}
theorem LN.keep (h : LN w sv x u1 u2 m W) (hb : Below (w.heap.size + 4) W W') : LN w sv x u1 u2 m W' :=
  ⟨h.lm.keep (hb.mono (by omega)), Nat.le_trans h.size hb.size, h.bb.keep hb (by omega)⟩
theorem LN.call (h : LN w sv x u1 u2 m W) (hb : Below W.heap.size W W') : LN w sv x u1 u2 m W' := h.keep (below_le hb h.size)
theorem LN.put (h : LN w sv x u1 u2 m W) (m' : E2) : LN w sv x u1 u2 m' (World.setCell (World.setCell W ⟨w.heap.size + 3, 0, none⟩ (.int .i64 m'.a)) ⟨w.heap.size + 3, 1, none⟩ (.int .i64 m'.b)) :=
  have ho := off2 W (w.heap.size + 3) (.int .i64 m'.a) (.int .i64 m'.b)
  ⟨h.lm.keep (ho.below (Nat.le_refl _)), by rw [ho.size]; exact h.size, h.bb.put m'⟩
end
theorem LN.mk4 (w : World) (x : Hd) (A A2 D : Option Addr) (n c n2 c2 N cN : Nat) : LN w (.slice D N cN) x (.slice A n c) (.slice A2 n2 c2) ⟨0, 0⟩ ((((w.alloc (.cells #[.slice D N cN] 26)).alloc (.cells #[.int .i64 x.i, .int .i64 x.s, .int .i64 x.t, .int .i64 x.b, .int .i64 x.l, .int .i64 x.h, .int .i64 x.c, .slice A n c, .slice A2 n2 c2] 30)).alloc (.cells #[.int .i64 0, .int .i64 0] 38)).alloc (.cells #[.int .i64 0, .int .i64 0] 38)) where
  lm := (LM.mk3 w x A A2 D n c n2 c2 N cN).call (new1 _ _)
  size := by simp
  bb := by
    have h := Mx.zero (((w.alloc (.cells #[.slice D N cN] 26)).alloc (.cells #[.int .i64 x.i, .int .i64 x.s, .int .i64 x.t, .int .i64 x.b, .int .i64 x.l, .int .i64 x.h, .int .i64 x.c, .slice A n c, .slice A2 n2 c2] 30)).alloc (.cells #[.int .i64 0, .int .i64 0] 38))
    rw [show (((w.alloc (.cells #[.slice D N cN] 26)).alloc (.cells #[.int .i64 x.i, .int .i64 x.s, .int .i64 x.t, .int .i64 x.b, .int .i64 x.l, .int .i64 x.h, .int .i64 x.c, .slice A n c, .slice A2 n2 c2] 30)).alloc (.cells #[.int .i64 0, .int .i64 0] 38)).heap.size = w.heap.size + 3 by simp] at h
    exact h
/-- how far the search has come -/
noncomputable def upR (R : List E2) (k : Nat) : Int × E2 := ((candR R).take k).foldl up (-1, ⟨0, 0⟩)
noncomputable def upS (C : List (List Ver)) (R S : List E2) (k : Nat) : Int × E2 := ((candS C S).take k).foldl up ((candR R).foldl up (-1, ⟨0, 0⟩))
section
variable {C : List (List Ver)} {R S : List E2} {k : Nat} {y : E2}
theorem upR_step (h : R[k]? = some y) : upR R (k + 1) = up (upR R k) (y, y.b) := by
  unfold upR
  rw [List.take_add_one, candR_at h]
  simp [List.foldl_append]
theorem upS_step (h : S[k]? = some y) : upS C R S (k + 1) = up (upS C R S k) (ovM C y, (latOf C y).d) := by
  unfold upS
  rw [List.take_add_one, candS_at h]
  simp [List.foldl_append]
theorem upR_all {n : Nat} (h : R.length = n) : upR R n = upS C R S 0 := by
  unfold upR upS
  rw [List.take_of_length_le (by rw [candR_len]; omega)]
  rfl
theorem upS_all {n : Nat} (h : S.length = n) : upS C R S n = (cand C R S).foldl up (-1, ⟨0, 0⟩) := by
  unfold upS cand
  rw [List.take_of_length_le (by rw [candS_len]; omega), List.foldl_append]
theorem up_hit {s : Int × E2} {p : E2 × Int} (h : s.1 < p.2) : up s p = (p.2, p.1) := if_pos h
theorem up_miss {s : Int × E2} {p : E2 × Int} (h : ¬ s.1 < p.2) : up s p = s := if_neg h
end
/-- a box of a version -/
def Vx (w : World) (b : Nat) (x : Ver) : Prop := ∃ f, w.rowIs b 72 5 f ∧ f 0 = .int .i64 x.a ∧ f 1 = .int .i64 x.b ∧ f 2 = .int .i64 x.c ∧ f 3 = .int .i64 x.d ∧ f 4 = .int .i64 x.e
section
variable {w w' : World} {b : Nat} {x y : Ver}
theorem Vx.cells (h : Vx w b x) : w.cell? ⟨b, 0, none⟩ = some (.int .i64 x.a) ∧ w.cell? ⟨b, 1, none⟩ = some (.int .i64 x.b) ∧ w.cell? ⟨b, 2, none⟩ = some (.int .i64 x.c) ∧ w.cell? ⟨b, 3, none⟩ = some (.int .i64 x.d) ∧ w.cell? ⟨b, 4, none⟩ = some (.int .i64 x.e) := by
  obtain ⟨f, hf, h0, h1, h2, h3, h4⟩ := h
  exact ⟨(hf.cell (show 0 < 5 by decide)).trans (by rw [h0]), (hf.cell (show 1 < 5 by decide)).trans (by rw [h1]), (hf.cell (show 2 < 5 by decide)).trans (by rw [h2]), (hf.cell (show 3 < 5 by decide)).trans (by rw [h3]), (hf.cell (show 4 < 5 by decide)).trans (by rw [h4])⟩
theorem Vx.fz (h : Vx w b x) (i : Nat) : w.frozen? ⟨b, i, none⟩ = false := by obtain ⟨f, hf, _⟩ := h; exact hf.frozen i
theorem Vx.lt (h : Vx w b x) : b < w.heap.size := by obtain ⟨f, hf, _⟩ := h; exact hf.lt
theorem Vx.of_block (h : Vx w b x) (hk : w'.heap[b]? = w.heap[b]?) : Vx w' b x := by obtain ⟨f, hf, hr⟩ := h; exact ⟨f, hf.of_block hk, hr⟩
theorem Vx.new (w : World) (x : Ver) : Vx (w.alloc (.cells #[.int .i64 x.a, .int .i64 x.b, .int .i64 x.c, .int .i64 x.d, .int .i64 x.e] 72)) w.heap.size x :=
  ⟨fun i => if i = 0 then .int .i64 x.a else if i = 1 then .int .i64 x.b else if i = 2 then .int .i64 x.c else if i = 3 then .int .i64 x.d else .int .i64 x.e, World.rowIs_alloc w #[.int .i64 x.a, .int .i64 x.b, .int .i64 x.c, .int .i64 x.d, .int .i64 x.e] 72 _ (fun i hi => by
    have : i = 0 ∨ i = 1 ∨ i = 2 ∨ i = 3 ∨ i = 4 := by simp at hi; omega
    rcases this with rfl | rfl | rfl | rfl | rfl <;> rfl), rfl, rfl, rfl, rfl, rfl⟩
theorem Vx.zero (w : World) : Vx (w.alloc (.cells #[.int .i64 0, .int .i64 0, .int .i64 0, .int .i64 0, .int .i64 0] 72)) w.heap.size ⟨0, 0, 0, 0, 0⟩ := Vx.new w ⟨0, 0, 0, 0, 0⟩
theorem Vx.put (h : Vx w b y) (x : Ver) : Vx (World.setCell (World.setCell (World.setCell (World.setCell (World.setCell w ⟨b, 0, none⟩ (.int .i64 x.a)) ⟨b, 1, none⟩ (.int .i64 x.b)) ⟨b, 2, none⟩ (.int .i64 x.c)) ⟨b, 3, none⟩ (.int .i64 x.d)) ⟨b, 4, none⟩ (.int .i64 x.e)) b x := by
  obtain ⟨f, hf, _⟩ := h
  exact ⟨_, ((((hf.set 0 (.int .i64 x.a)).set 1 (.int .i64 x.b)).set 2 (.int .i64 x.c)).set 3 (.int .i64 x.d)).set 4 (.int .i64 x.e), rfl, rfl, rfl, rfl, rfl⟩
theorem off5 (V : World) (bb : Nat) (v0 v1 v2 v3 v4 : Value) : Off bb V (World.setCell (World.setCell (World.setCell (World.setCell (World.setCell V ⟨bb, 0, none⟩ v0) ⟨bb, 1, none⟩ v1) ⟨bb, 2, none⟩ v2) ⟨bb, 3, none⟩ v3) ⟨bb, 4, none⟩ v4) :=
  (((((Off.refl bb V).setCell (p := ⟨bb, 0, none⟩) rfl _).setCell (p := ⟨bb, 1, none⟩) rfl _).setCell (p := ⟨bb, 2, none⟩) rfl _).setCell (p := ⟨bb, 3, none⟩) rfl _).setCell (p := ⟨bb, 4, none⟩) rfl _
end
theorem cell5 {V : World} {bb : Nat} {v0 v1 v2 v3 v4 : Value} {p : Addr} (h : p.block ≠ bb) : World.cell? (World.setCell (World.setCell (World.setCell (World.setCell (World.setCell V ⟨bb, 0, none⟩ v0) ⟨bb, 1, none⟩ v1) ⟨bb, 2, none⟩ v2) ⟨bb, 3, none⟩ v3) ⟨bb, 4, none⟩ v4) p = V.cell? p := World.cell?_of_block (a := p) ((off5 V bb v0 v1 v2 v3 v4).block _ h)
/-- the blocks from s on that were there in V are as they were -/
structure KB (s : Nat) (V W : World) : Prop where
  size : V.heap.size ≤ W.heap.size
  block : ∀ q, s ≤ q → q < V.heap.size → W.heap[q]? = V.heap[q]?
section
variable {s q : Nat} {V W W' : World}
theorem KB.refl (s : Nat) (V : World) : KB s V V := ⟨Nat.le_refl _, fun _ _ _ => rfl⟩
theorem KB.call (h : KB s V W) (hb : Below W.heap.size W W') : KB s V W' := ⟨Nat.le_trans h.size hb.size, fun q h1 h2 => (hb.block q (Nat.lt_of_lt_of_le h2 h.size)).trans (h.block q h1 h2)⟩
theorem KB.off (h : KB s V W) (ho : Off q W W') (hq : q < s) : KB s V W' := ⟨by rw [ho.size]; exact h.size, fun p h1 h2 => (ho.block p (by omega)).trans (h.block p h1 h2)⟩
theorem KB.cell (h : KB s V W) {p : Addr} {v : Value} (h1 : s ≤ p.block) (h2 : p.block < V.heap.size) (hc : V.cell? p = some v) : W.cell? p = some v := (World.cell?_of_block (w := V) (a := p) (h.block p.block h1 h2)).trans hc
end
theorem val_i {a b : Int} (h : a = b) : Value.int .i64 a = .int .i64 b := by rw [h]
set_option maxRecDepth 100000 in
set_option maxHeartbeats 6400000 in
theorem spec_lo {w : World} {B n c n2 c2 N cN : Nat} {A A2 D : Option Addr} {R S : List E2} {C : List (List Ver)} (x : Hd) (hn : n ≤ 1048576) (hn2 : n2 ≤ 1048576) (hN : N ≤ 1048576) (h1 : Vs w B A n R) (h2 : Vs w B A2 n2 S) (h3 : Rs w B D N C) (hB : B ≤ w.heap.size) (hr : rexB C x R S = true) (hne : R ≠ []) :
    Calls Tryz.prog 37 #[.agg #[.slice D N cN], .agg #[.int .i64 x.i, .int .i64 x.s, .int .i64 x.t, .int .i64 x.b, .int .i64 x.l, .int .i64 x.h, .int .i64 x.c, .slice A n c, .slice A2 n2 c2]] w fun e w' => e = .returned (.agg #[.int .i64 (fstAt (cand C R S) (rlI C x R S)).a, .int .i64 (fstAt (cand C R S) (rlI C x R S)).b]) ∧ Below w.heap.size w w' := by
  have H1 := Lib.hid h1
  have H2 := Lib.hid h2
  have H3 := Lib.hid h3
  have hln := h1.1
  have hln2 := h2.1
  have HRX := Lib.hid hr
  have HEND := Lib.hid (low_mark (C := C) (S := S) (x := x) (rex_both hr) hne)
  clear h1 h2 h3 hr hne
  go_enter Tryz.func37, Tryz.ntmps37
  go_wp2_with fail
  have hL := LN.mk4 w x A A2 D n c n2 c2 N cN
  generalize ((((w.alloc _).alloc _).alloc _).alloc _) = W0 at hL ⊢
  have L0 := Lib.hid hL
  clear hL
  try go_wp2_with fail
  go_loopw [6, 7] (fun a i wr => ∃ k : Nat, k ≤ n ∧ i = .int .i64 k ∧ a = .int .i64 (upR R k).1 ∧ LN w (.slice D N cN) x (.slice A n c) (.slice A2 n2 c2) (upR R k).2 wr) (fun _ i _ => n - (intOf i).toNat)
  case atStart => exact ⟨0, by omega, rfl, rfl, L0.out⟩
  case round =>
    obtain ⟨k, hk, rfl, rfl, hL⟩ := hrel
    have LW := Lib.hid hL
    obtain ⟨t0, t1, t2, t3, t4, t5, t6, t7, t8⟩ := hL.lm.ls.tb
    clear hL t0 t1 t2 t3 t4 t5 t6 t8
    obtain ⟨z, hz⟩ : ∃ z, (upR R k).1 = z := ⟨_, rfl⟩
    rw [hz]
    have HZ := Lib.hid hz
    clear hz
    by_cases hlt : k < n
    · obtain ⟨b, o, y, rfl, hbB, hx, a0, a1⟩ := (H1.out.below (below_le LW.out.lm.ls.bel hB)).at_ hlt
      have HX := Lib.hid hx
      clear hx
      have hsz := LW.out.size
      have hbl : b < wr.heap.size := by omega
      by_cases hzy : z < y.b
      · have t : decide (z < y.b) = true := decide_eq_true hzy
        have HH : Hid (upR R (k + 1) = (y.b, y)) := Lib.hid (by rw [upR_step HX.out, up_hit (by rw [HZ.out]; exact hzy)])
        clear hzy
        obtain ⟨z0, z1⟩ := LW.out.bb.cells
        have f0 := LW.out.bb.fz 0
        have f1 := LW.out.bb.fz 1
        go_wp2_with fail
        have hp := LW.out.put y
        clear z0 z1 f0 f1 t7 a0 a1
        generalize World.setCell (World.setCell _ _ _) _ _ = W9 at hp ⊢
        go_roundw
        case rel => exact ⟨k + 1, by omega, by go_num, val_i (by rw [HH.out]), by rw [HH.out]; exact hp⟩
        case measure => simp [intOf]; omega
      · have t : decide (z < y.b) = false := decide_eq_false hzy
        have HH : Hid (upR R (k + 1) = upR R k) := Lib.hid (by rw [upR_step HX.out, up_miss (by rw [HZ.out]; exact hzy)])
        clear hzy
        go_wp2_with fail
        go_roundw
        case rel => exact ⟨k + 1, by omega, by go_num, val_i (by rw [HH.out]; exact HZ.out.symm), by rw [HH.out]; exact LW.out⟩
        case measure => simp [intOf]; omega
    · obtain rfl : n = k := by omega
      clear t7
      have HZ2 : Hid ((upS C R S 0).1 = z) := Lib.hid (by rw [← upR_all (C := C) (S := S) hln]; exact HZ.out)
      have c0 := LW.out.lm.ls.st
      obtain ⟨t0, t1, t2, t3, t4, t5, t6, t7, t8⟩ := LW.out.lm.ls.tb
      obtain ⟨l, hlq⟩ : ∃ l, ovL C x R S = l := ⟨_, rfl⟩
      have hov : l = S.map (ovM C) := by rw [← hlq]; exact if_pos (rex_both HRX.out)
      have hq : l.length = n2 := by rw [hov, List.length_map]; exact hln2
      have HLQ := Lib.hid hlq
      have HQ := Lib.hid hq
      have HOV := Lib.hid hov
      clear hlq hq hov
      go_wp2_with fail
      obtain ⟨s0, hs0⟩ : ∃ s, wr.heap.size = s := ⟨_, rfl⟩
      have hs4 : w.heap.size + 4 ≤ s0 := by rw [← hs0]; exact LW.out.size
      refine (spec_ov x (by omega) (by omega) (by omega) (H1.out.below (below_le LW.out.lm.ls.bel hB)) (H2.out.below (below_le LW.out.lm.ls.bel hB)) (H3.out.below (below_le LW.out.lm.ls.bel hB)) (by have := LW.out.size; omega)).mono ?_
      rintro e W1 ⟨A7, c7, he, ho, hb⟩
      rw [HLQ.out, HQ.out] at he ho
      subst he
      have L1 := Lib.hid (LW.out.call hb)
      have L1' : Hid (LN w (.slice D N cN) x (.slice A n c) (.slice A2 n2 c2) (upS C R S 0).2 W1) := Lib.hid (by rw [← upR_all (C := C) (S := S) hln]; exact L1.out)
      obtain ⟨A8, c8, hv8, hvs⟩ := own_vs ho HQ.out
      obtain ⟨rfl, -, rfl⟩ : A8 = A7 ∧ True ∧ c8 = c7 := by injection hv8 with e1 e2 e3; exact ⟨e1.symm, trivial, e3.symm⟩
      have HV := Lib.hid (show Vs W1 W1.heap.size A8 n2 l from hvs.1)
      have HS0 : Hid (∀ q o, A8 = some ⟨q, o, none⟩ → s0 ≤ q) := Lib.hid (by rw [← hs0]; exact hvs.2)
      clear hb hs0 ho hv8 hvs c0 t0 t1 t2 t3 t4 t5 t6 t7 t8 L1
      go_wp2_with fail
      go_loopw [6, 9] (fun a i wr => ∃ k : Nat, k ≤ n2 ∧ i = .int .i64 k ∧ a = .int .i64 (upS C R S k).1 ∧ LN w (.slice D N cN) x (.slice A n c) (.slice A2 n2 c2) (upS C R S k).2 wr ∧ KB s0 W1 wr) (fun _ i _ => n2 - (intOf i).toNat)
      case atStart => exact ⟨0, by omega, rfl, val_i HZ2.out.symm, L1'.out, KB.refl _ _⟩
      case round =>
        clear LW HZ HZ2 L1'
        obtain ⟨k, hk, rfl, rfl, hL, hB1⟩ := hrel
        have LW := Lib.hid hL
        have HB1 := Lib.hid hB1
        clear hL hB1
        obtain ⟨z, hz⟩ : ∃ z, (upS C R S k).1 = z := ⟨_, rfl⟩
        rw [hz]
        have HZ := Lib.hid hz
        clear hz
        by_cases hlt : k < n2
        · obtain ⟨b, o, y', rfl, hbB, hx, a0, a1⟩ := HV.out.at_ hlt
          have hs0b := HS0.out b o rfl
          have a0 := HB1.out.cell (p := ⟨b, o + k * 2, none⟩) hs0b hbB a0
          have a1 := HB1.out.cell (p := ⟨b, o + k * 2 + 1, none⟩) hs0b hbB a1
          obtain ⟨hst, htx, hall⟩ := rex_parts HRX.out
          have hy := List.getElem?_eq_getElem (show k < S.length by omega)
          obtain ⟨y, hyq⟩ : ∃ y, S[k]'(by omega) = y := ⟨_, rfl⟩
          rw [hyq] at hy
          have hyo : y' = ovM C y := by rw [HOV.out, List.getElem?_map, hy] at hx; simpa using hx.symm
          have hkey := wkey_of htx hy
          have h6 := val.st_six hst
          rw [H3.out.1] at h6
          have hya : y'.a = y.a := by rw [hyo]; rfl
          have s1 : 0 ≤ y'.a := by omega
          have s2 : y'.a ≤ 5 := by omega
          have s3 : y'.a < (N : Int) := by omega
          have s4 : y'.a.toNat < N := by omega
          have HX := Lib.hid hy
          have HYO := Lib.hid hyo
          obtain ⟨b2, o2, l2, A9, n9, c9, rfl, hb2, hl, d0, hn9, hv⟩ := (H3.out.below (below_le LW.out.lm.ls.bel hB)).at_ s4
          have HV9 := Lib.hid hv
          obtain ⟨u, hu⟩ : ∃ u, latOf C y = u := ⟨_, rfl⟩
          have HU := Lib.hid hu
          have HLV : Hid (Go.Proofs.YtbnkkgjkhpbgiaaGreatDoor.find.lastV l2 = u) := Lib.hid (by rw [← hu, ← lat_at (m := y) (by rw [← hya]; exact hl)])
          have c0 := LW.out.lm.ls.st
          have hsz := LW.out.size
          have hs1 := HB1.out.size
          have hlb : b < wr.heap.size := by omega
          have hlb2 : b2 < wr.heap.size := by omega
          clear hst htx hall hy hyq hyo hkey h6 hx hl hv hu hya
          have hbk0 : Below wr.heap.size wr wr.drew := (Below.refl _ _).drew
          have hbka : Below wr.heap.size wr (wr.alloc (.cells #[.int .i64 0, .int .i64 0, .int .i64 0, .int .i64 0, .int .i64 0] 72)).drew := ((Below.refl _ _).alloc (Nat.le_refl _) _).drew
          have zbx := Vx.zero wr
          go_wp2_with fail
          go_region_held3 (fun w' => w'.cell? ⟨w.heap.size, 0, none⟩ = some (.slice (some ⟨b2, o2, none⟩) N cN) ∧ w'.cell? ⟨b, o + k * 2, none⟩ = some (.int .i64 y'.a) ∧ w'.cell? ⟨b2, o2 + y'.a.toNat, none⟩ = some (.slice A9 n9 c9)) (first | ((repeat' apply And.intro) <;> first | with_reducible exact (cell5 (by simp only; omega)).trans (by assumption)) | go_keep) (first | (go_at_call 58; (with_reducible refine (Go.Proofs.YtbnkkgjkhpbgiaaGreatDoor.find.latest_spec HLV.out hn9 ((HV9.out.below (below_le hbk0 (Nat.le_trans hB LW.out.lm.ls.bel.size))).more (show B ≤ wr.heap.size by omega)) (Nat.le_refl _)).mono ?_); rintro e W3 ⟨he, hb'⟩; subst he; have hbk1 := hbk0.trans (hb'.mono hbk0.size); have e0 := (hbk1.cell (p := ⟨w.heap.size, 0, none⟩) (by simp only; omega)).trans c0; have e1 := (hbk1.cell (p := ⟨b, o + k * 2, none⟩) hlb).trans a0; have e2 := (hbk1.cell (p := ⟨b2, o2 + y'.a.toNat, none⟩) hlb2).trans d0) | (go_at_call 58; (with_reducible refine (Go.Proofs.YtbnkkgjkhpbgiaaGreatDoor.find.latest_spec HLV.out hn9 ((HV9.out.below (below_le hbka (Nat.le_trans hB LW.out.lm.ls.bel.size))).more (show B ≤ (wr.alloc (.cells #[.int .i64 0, .int .i64 0, .int .i64 0, .int .i64 0, .int .i64 0] 72)).heap.size by simp; omega)) (Nat.le_refl _)).mono ?_); rintro e W3 ⟨he, hb'⟩; subst he; have hbk1 := hbka.trans (hb'.mono hbka.size); have zb3 := zbx.of_block (hb'.block wr.heap.size (by simp)); obtain ⟨z0, z1, z2, z3, z4⟩ := zb3.cells; have f0 := zb3.fz 0; have f1 := zb3.fz 1; have f2 := zb3.fz 2; have f3 := zb3.fz 3; have f4 := zb3.fz 4; have e0 := (hbk1.cell (p := ⟨w.heap.size, 0, none⟩) (by simp only; omega)).trans c0; have e1 := (hbk1.cell (p := ⟨b, o + k * 2, none⟩) hlb).trans a0; have e2 := (hbk1.cell (p := ⟨b2, o2 + y'.a.toNat, none⟩) hlb2).trans d0))
          · have vx := Vx.new W3 u
            have hbx := hbk1.alloc hbk1.size (.cells #[.int .i64 u.a, .int .i64 u.b, .int .i64 u.c, .int .i64 u.d, .int .i64 u.e] 72)
            have hsv : W3.heap.size < (W3.alloc (.cells #[.int .i64 u.a, .int .i64 u.b, .int .i64 u.c, .int .i64 u.d, .int .i64 u.e] 72)).heap.size := by simp
            have hs3 := hbk1.size
            clear hbk1 e0 e1 e2 c0 d0 zbx hbk0 hbka hb'

            generalize hvb : W3.heap.size = vb at vx hsv hs3 ⊢
            generalize W3.alloc _ = W9 at vx hbx hsv ⊢
            obtain ⟨-, -, -, v3, -⟩ := vx.cells
            have L9 := Lib.hid (LW.out.call hbx)
            have HB9 := Lib.hid (HB1.out.call hbx)
            have a0 := (hbx.cell (p := ⟨b, o + k * 2, none⟩) hlb).trans a0
            have a1 := (hbx.cell (p := ⟨b, o + k * 2 + 1, none⟩) hlb).trans a1
            clear hbx vx hvb
            by_cases hzu : z < u.d
            · have t : decide (z < u.d) = true := decide_eq_true hzu
              have HH : Hid (upS C R S (k + 1) = (u.d, y')) := Lib.hid (by rw [upS_step HX.out, HU.out, up_hit (by rw [HZ.out]; exact hzu), HYO.out])
              clear hzu
              obtain ⟨z0, z1⟩ := L9.out.bb.cells
              have f0 := L9.out.bb.fz 0
              have f1 := L9.out.bb.fz 1
              go_wp2_with fail
              have hp := L9.out.put y'
              have hpb : KB s0 W1 (World.setCell (World.setCell W9 ⟨w.heap.size + 3, 0, none⟩ (.int .i64 y'.a)) ⟨w.heap.size + 3, 1, none⟩ (.int .i64 y'.b)) := HB9.out.off (off2 W9 (w.heap.size + 3) (.int .i64 y'.a) (.int .i64 y'.b)) (by omega)
              clear z0 z1 f0 f1 a0 a1 v3
              generalize World.setCell (World.setCell _ _ _) _ _ = W10 at hp hpb ⊢
              go_roundw
              case rel => exact ⟨k + 1, by omega, by go_num, val_i (by rw [HH.out]), by rw [HH.out]; exact hp, hpb⟩
              case measure => simp [intOf]; omega
            · have t : decide (z < u.d) = false := decide_eq_false hzu
              have HH : Hid (upS C R S (k + 1) = upS C R S k) := Lib.hid (by rw [upS_step HX.out, HU.out, up_miss (by rw [HZ.out]; exact hzu)])
              clear hzu
              go_wp2_with fail
              go_roundw
              case rel => exact ⟨k + 1, by omega, by go_num, val_i (by rw [HH.out]; exact HZ.out.symm), by rw [HH.out]; exact L9.out, HB9.out⟩
              case measure => simp [intOf]; omega
          · have vx := zb3.put u
            have hbx := hbk1.trans ((off5 W3 wr.heap.size (.int .i64 u.a) (.int .i64 u.b) (.int .i64 u.c) (.int .i64 u.d) (.int .i64 u.e)).below (Nat.le_refl _))
            clear hbk1 e0 e1 e2 c0 d0 zbx hbk0 hbka zb3 z0 z1 z2 z3 z4 f0 f1 f2 f3 f4 hb'

            have hvb : True := trivial
            generalize World.setCell (World.setCell (World.setCell (World.setCell (World.setCell _ _ _) _ _) _ _) _ _) _ _ = W9 at vx hbx ⊢
            obtain ⟨-, -, -, v3, -⟩ := vx.cells
            have L9 := Lib.hid (LW.out.call hbx)
            have HB9 := Lib.hid (HB1.out.call hbx)
            have a0 := (hbx.cell (p := ⟨b, o + k * 2, none⟩) hlb).trans a0
            have a1 := (hbx.cell (p := ⟨b, o + k * 2 + 1, none⟩) hlb).trans a1
            clear hbx vx hvb
            by_cases hzu : z < u.d
            · have t : decide (z < u.d) = true := decide_eq_true hzu
              have HH : Hid (upS C R S (k + 1) = (u.d, y')) := Lib.hid (by rw [upS_step HX.out, HU.out, up_hit (by rw [HZ.out]; exact hzu), HYO.out])
              clear hzu
              obtain ⟨z0, z1⟩ := L9.out.bb.cells
              have f0 := L9.out.bb.fz 0
              have f1 := L9.out.bb.fz 1
              go_wp2_with fail
              have hp := L9.out.put y'
              have hpb : KB s0 W1 (World.setCell (World.setCell W9 ⟨w.heap.size + 3, 0, none⟩ (.int .i64 y'.a)) ⟨w.heap.size + 3, 1, none⟩ (.int .i64 y'.b)) := HB9.out.off (off2 W9 (w.heap.size + 3) (.int .i64 y'.a) (.int .i64 y'.b)) (by omega)
              clear z0 z1 f0 f1 a0 a1 v3
              generalize World.setCell (World.setCell _ _ _) _ _ = W10 at hp hpb ⊢
              go_roundw
              case rel => exact ⟨k + 1, by omega, by go_num, val_i (by rw [HH.out]), by rw [HH.out]; exact hp, hpb⟩
              case measure => simp [intOf]; omega
            · have t : decide (z < u.d) = false := decide_eq_false hzu
              have HH : Hid (upS C R S (k + 1) = upS C R S k) := Lib.hid (by rw [upS_step HX.out, HU.out, up_miss (by rw [HZ.out]; exact hzu)])
              clear hzu
              go_wp2_with fail
              go_roundw
              case rel => exact ⟨k + 1, by omega, by go_num, val_i (by rw [HH.out]; exact HZ.out.symm), by rw [HH.out]; exact L9.out, HB9.out⟩
              case measure => simp [intOf]; omega
        · obtain rfl : n2 = k := by omega
          obtain ⟨g0, g1⟩ := LW.out.bb.cells
          obtain ⟨z0, z1⟩ := LW.out.lm.rb.cells
          have f0 := LW.out.lm.rb.fz 0
          have f1 := LW.out.lm.rb.fz 1
          obtain ⟨m, hm⟩ : ∃ m, (upS C R S n2).2 = m := ⟨_, rfl⟩
          rw [hm] at g0 g1
          have HM := Lib.hid hm
          clear hm
          go_wp2_with fail
          have hp := LW.out.lm.put m
          clear z0 z1 f0 f1 g0 g1
          generalize World.setCell (World.setCell _ _ _) _ _ = W9 at hp ⊢
          obtain ⟨e0, e1⟩ := hp.rb.cells
          exact bodyPost_ret (v := .agg #[.int .i64 m.a, .int .i64 m.b]) (by simp [results, Tryz.results37, go_sem, e0, e1]) rfl ⟨ret_m (by rw [← HM.out, upS_all hln2]; exact HEND.out), hp.ls.bel⟩
end Go.Proofs.YtbnkkgjkhpbgiaaGreatDoor.lo
