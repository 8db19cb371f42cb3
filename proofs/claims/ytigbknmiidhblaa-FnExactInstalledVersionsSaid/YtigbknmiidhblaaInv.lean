/- InstalledVersions of both: in memory of its own; nothing that was there is written. -/
import Derived.Test.YtigbknmiidhblaaCst
import Derived.Test.YtigbknmiidhblaaRi
import Derived.Test.YtigbknmiidhblaaVal
import Derived.Test.YtigbknmiidhblaaAv
namespace Go.Proofs.Ytigbknmiidhblaa.inv
open Go.ChangeShapes Go.WideShapes Go.ChangeAt Go.RowKit
open Go.Proofs.Ytigbknmiidhblaa.el2 Go.Proofs.Ytigbknmiidhblaa.tx Go.Proofs.Ytigbknmiidhblaa.seq Go.Proofs.Ytigbknmiidhblaa.tv Go.Proofs.Ytigbknmiidhblaa.rx Go.Proofs.Ytigbknmiidhblaa.cq
open Go.Proofs.Ytigbknmiidhblaa.sl (Ver)
open Go.Proofs.Ytigbknmiidhblaa.st (Rs)
open Go.Proofs.Ytigbknmiidhblaa.val (stB)
open Go.Proofs.Ytigbknmiidhblaa.find (fndI)
open Go.Proofs.Ytigbknmiidhblaa.av (run_append_v one_vs)
open Go.Proofs.Ytigbknmiidhblaa.oq (own_lo)
set_option linter.unusedVariables false
set_option linter.unusedSimpArgs false
set_option linter.constructorNameAsVariable false
/-- a list of versions in memory of the call's own -/
def VlO (w : World) (l : List Ver) (e : Ending) (w' : World) : Prop :=
  ∃ A' c', e = .returned (.slice A' l.length c') ∧ w'.ownsRow w.heap.size 66 5 (.slice A' l.length c') l.length (flat.flat l) ∧ Below w.heap.size w w'
theorem inst_no {C : List (List Ver)} {x : Hd} {R S : List E2} (h : instB C x R S = false) : [] = instL C x R S := (if_neg (by rw [h]; exact Bool.false_ne_true)).symm
theorem inst_yes {C : List (List Ver)} {x : Hd} {R S : List E2} {z : Int} (h : instB C x R S = true) (hz : cstI x R S = z) : instK C x.i z 6 = instL C x R S := by subst hz; exact (if_pos h).symm
theorem instB_0 {C : List (List Ver)} {x : Hd} {R S : List E2} (h : cstI x R S = 0) : instB C x R S = false := by simp [instB, h]
theorem instB_s {C : List (List Ver)} {x : Hd} {R S : List E2} (h : stB C = false) : instB C x R S = false := by simp [instB, h]
theorem instB_y {C : List (List Ver)} {x : Hd} {R S : List E2} (h : cstI x R S ≠ 0) (h2 : stB C = true) : instB C x R S = true := by simp [instB, h, h2]
theorem ist_none {C : List (List Ver)} {i z : Int} {k : Nat} (h : instV C i z k = none) : instK C i z (k + 1) = instK C i z k := by rw [instK_step, h]; simp
theorem ist_some {C : List (List Ver)} {i z : Int} {k : Nat} {v : Ver} (h : instV C i z k = some v) : instK C i z (k + 1) = instK C i z k ++ [v] := by rw [instK_step, h]; rfl
theorem instK_len (C : List (List Ver)) (i z : Int) : ∀ k, (instK C i z k).length ≤ k
  | 0 => Nat.le_refl _
  | k + 1 => by
    have := instK_len C i z k
    rcases h : instV C i z k with _ | v
    · rw [ist_none h]; omega
    · rw [ist_some h, List.length_append]; simp; omega
theorem instL_len (C : List (List Ver)) (x : Hd) (R S : List E2) : (instL C x R S).length ≤ 6 := by
  unfold instL
  split
  · exact instK_len _ _ _ 6
  · simp
theorem own_form {w : World} {base n : Nat} {v : Value} {xs : List Value} {t : TypeId} (h : w.ownsRow base t 5 v n xs) : ∃ A c, v = .slice A n c := by
  rcases h.2 with ⟨rfl, rfl⟩ | ⟨g, cap, cur, rfl, _⟩
  · exact ⟨none, 0, rfl⟩
  · exact ⟨_, cap, rfl⟩
/-- one version more: what the append hands back -/
theorem app_one (W : World) {base k c0 : Nat} {A0 : Option Addr} {xs : List Ver} (v : Ver) (ho : W.ownsRow base 66 5 (.slice A0 k c0) k (flat.flat xs)) (hk : k ≤ 6) (hb : base ≤ W.heap.size) :
    ∃ A' c' V', (Builtin.append_ #[42, 42] 42 #[.slice A0 k c0, .slice (some ⟨W.heap.size, 0, none⟩) 1 1]).run Try.prog (W.alloc (.cells #[.int .i64 v.a, .int .i64 v.b, .int .i64 v.c, .int .i64 v.d, .int .i64 v.e] 66)) = .ok (.slice A' (k + 1) c') V' ∧ V'.ownsRow base 66 5 (.slice A' (k + 1) c') (k + 1) (flat.flat (xs ++ [v])) ∧ Below base W V' := by
  have hn := new1 W (.cells #[.int .i64 v.a, .int .i64 v.b, .int .i64 v.c, .int .i64 v.d, .int .i64 v.e] 66)
  have ho' := flat.own_keep ho hn
  have hs : (W.alloc (.cells #[.int .i64 v.a, .int .i64 v.b, .int .i64 v.c, .int .i64 v.d, .int .i64 v.e] 66)).heap.size = W.heap.size + 1 := by simp
  obtain ⟨v', V', hr, ho2, hg, hq⟩ := run_append_v (W.alloc (.cells #[.int .i64 v.a, .int .i64 v.b, .int .i64 v.c, .int .i64 v.d, .int .i64 v.e] 66)) (own_lo ho' fun q _ => Nat.zero_le q) (c := 1) (one_vs (ch.boxed W v 66)) (by omega)
  obtain ⟨A', c', rfl⟩ := own_form ho2
  refine ⟨A', c', V', hr, own_lo ho2 fun q e => ?_, (hn.mono hb).grown hg (by omega) fun q e => (ho'.lt q e).1⟩
  rcases hq q e with h | h
  · exact (ho'.lt q h).1
  · omega
theorem ls_low {w W W' : World} {sv u v : Value} {x : Hd} (h : LS w sv x u v W) (hb : Below (w.heap.size + 2) W W') : LS w sv x u v W' where
  bel := h.bel.trans (hb.mono (by omega))
  size := Nat.le_trans h.size hb.size
  st := (hb.cell (p := ⟨w.heap.size, 0, none⟩) (by simp)).trans h.st
  tb := h.tb.keep (by omega) hb
set_option maxRecDepth 100000 in
set_option maxHeartbeats 6400000 in
theorem impl_inst {w : World} {B n c n2 c2 N cN : Nat} {A A2 D : Option Addr} {R S : List E2} {C : List (List Ver)} (x : Hd) (hn : n ≤ 1048576) (hn2 : n2 ≤ 1048576) (hN : N ≤ 1048576) (h1 : Vs w B A n R) (h2 : Vs w B A2 n2 S) (h3 : Rs w B D N C) (hB : B ≤ w.heap.size) :
    Calls Try.prog 18 #[.agg #[.slice D N cN], .agg #[.int .i64 x.i, .int .i64 x.s, .int .i64 x.t, .int .i64 x.b, .int .i64 x.l, .int .i64 x.h, .int .i64 x.c, .slice A n c, .slice A2 n2 c2]] w (VlO w (instL C x R S)) := by
  have H1 := Lib.hid h1
  have H2 := Lib.hid h2
  have H3 := Lib.hid h3
  have hCN := h3.1
  obtain ⟨z, hz⟩ : ∃ z, cstI x R S = z := ⟨_, rfl⟩
  have hzr := cst_range x R S
  rw [hz] at hzr
  have HZ := Lib.hid hz
  clear h1 h2 h3 hz
  go_enter Try.func18, Try.ntmps18
  go_wp2_with fail
  have hL := LS.mk2 w (.slice D N cN) 46 30 x A n c A2 n2 c2
  generalize ((w.alloc _).alloc _) = W0 at hL ⊢
  have L0 := Lib.hid hL
  obtain ⟨t0, t1, t2, t3, t4, t5, t6, t7, t8⟩ := hL.tb
  clear hL
  go_wp2_with fail
  refine (Go.Proofs.Ytigbknmiidhblaa.cst.impl_cst x (by omega) (by omega) (H1.out.below (below_le L0.out.bel hB)) (H2.out.below (below_le L0.out.bel hB)) (by have := L0.out.size; omega)).mono ?_
  rintro e W1 ⟨rfl, hb1⟩
  rw [HZ.out]
  have L1 := Lib.hid (L0.out.call hb1)
  clear hb1 t0 t1 t2 t3 t4 t5 t6 t7 t8
  have c0 := L1.out.st
  by_cases hz0 : z = 0
  · have t : (z == 0) = true := by rw [hz0]; rfl
    have HE : Hid ([] = instL C x R S) := Lib.hid (inst_no (instB_0 (HZ.out.trans hz0)))
    clear hz0
    go_wp2_with fail
    go_ret
    rw [← HE.out]
    exact ⟨_, _, rfl, World.ownsRow_nil _ _ _ _, L1.out.bel⟩
  · have t : (z == 0) = false := beq_eq_false_iff_ne.2 hz0
    go_wp2_with fail
    refine (Go.Proofs.Ytigbknmiidhblaa.val.impl_store (by omega) (H3.out.below (below_le L1.out.bel hB)) (by have := L1.out.size; omega)).mono ?_
    rintro e W2 ⟨rfl, hb2⟩
    have L2 := Lib.hid (L1.out.call hb2)
    clear hb2 c0
    rcases hq : stB C with _ | _
    · have HE : Hid ([] = instL C x R S) := Lib.hid (inst_no (instB_s hq))
      go_wp2_with fail
      go_ret
      rw [← HE.out]
      exact ⟨_, _, rfl, World.ownsRow_nil _ _ _ _, L2.out.bel⟩
    · have HE : Hid (instK C x.i z 6 = instL C x R S) := Lib.hid (inst_yes (instB_y (by rw [HZ.out]; exact hz0) hq) HZ.out)
      have h6 := Go.Proofs.Ytigbknmiidhblaa.val.st_six hq
      obtain rfl : N = 6 := by omega
      have c0 := L2.out.st
      clear hq hz0 t
      go_wp2_with fail
      clear c0
      go_loopw [21, 6] (fun i u wr => ∃ (k m : Nat) (A0 : Option Addr) (c0 : Nat), k ≤ 6 ∧ m = (instK C x.i z k).length ∧ i = .int .i64 k ∧ u = .slice A0 m c0 ∧ wr.ownsRow (w.heap.size + 2) 66 5 (.slice A0 m c0) m (flat.flat (instK C x.i z k)) ∧ LS w (.slice D 6 cN) x (.slice A n c) (.slice A2 n2 c2) wr) (fun i _ _ => 6 - (intOf i).toNat)
      case atStart => exact ⟨0, 0, none, 0, by omega, rfl, rfl, rfl, World.ownsRow_nil _ _ _ _, L2.out⟩
      case round =>
        obtain ⟨k, m, A0, c0, hk, hm, rfl, rfl, ho, hL⟩ := hrel
        have OW := Lib.hid ho
        have LW := Lib.hid hL
        have HM := Lib.hid hm
        have hmk : m ≤ 6 := by have := instK_len C x.i z k; omega
        clear ho hL hm
        by_cases hlt : k < 6
        · have t : decide ((k : Int) < 6) = true := decide_eq_true (by omega)
          go_wp2_with fail
          refine (Go.Proofs.Ytigbknmiidhblaa.ri.impl_vof (B := B) (C := C) ⟨(k : Int), z⟩ w.heap.size (by have := LW.out.size; omega) LW.out.st (by show (0 : Int) ≤ (k : Int); omega) (by show (k : Int) < ((6 : Nat) : Int); omega) (H3.out.below (below_le LW.out.bel hB)) (by have := LW.out.size; omega)).mono ?_
          rintro e W3 ⟨hvo, hb3⟩
          have L3 := Lib.hid (LW.out.call hb3)
          have O3 := Lib.hid (flat.own_keep OW.out hb3)
          clear hb3
          rcases hvo with ⟨hh, rfl⟩ | ⟨hh, b, o, rfl, hbB, hat⟩
          · have HN : Hid (instK C x.i z (k + 1) = instK C x.i z k) := Lib.hid (ist_none (instV_no hh))
            clear hh
            go_wp2_with fail
            go_quiet (fail)
            go_wp2_with fail
            go_roundw
            case rel => exact ⟨k + 1, m, A0, c0, by omega, by rw [HN.out]; exact HM.out, by go_num, rfl, by rw [HN.out]; exact O3.out, L3.out.drewN _⟩
            case measure => simp [intOf]; omega
          · obtain ⟨v, hv⟩ : ∃ v, verOf C ⟨(k : Int), z⟩ = v := ⟨_, rfl⟩
            rw [hv] at hat
            have AT := Lib.hid hat
            obtain ⟨v0, v1, v2, v3, v4⟩ := hat
            obtain ⟨t0, t1, t2, t3, t4, t5, t6, t7, t8⟩ := L3.out.tb
            by_cases hi : v.a = x.i
            · have HN : Hid (instK C x.i z (k + 1) = instK C x.i z k ++ [v]) := Lib.hid (ist_some (instV_yes hh hv hi))
              have t9 : (v.a == x.i) = true := by rw [hi]; simp
              clear hh hv hi t1 t2 t3 t4 t5 t6 t7 t8 v1 v2 v3 v4
              go_wp2_with fail
              go_quiet (fail)
              generalize hW : W3.drewN _ = W4
              have L4 : Hid (LS w (.slice D 6 cN) x (.slice A n c) (.slice A2 n2 c2) W4) := Lib.hid (by rw [← hW]; exact L3.out.drewN _)
              have O4 : Hid (W4.ownsRow (w.heap.size + 2) 66 5 (.slice A0 m c0) m (flat.flat (instK C x.i z k))) := Lib.hid (by rw [← hW]; exact O3.out)
              have A4 : Hid (sl.At W4 b o v) := Lib.hid (by rw [← hW]; exact AT.out)
              clear hW v0 t0
              obtain ⟨v0, v1, v2, v3, v4⟩ := A4.out
              obtain ⟨A', c', W5, hr, ho5, hb5⟩ := app_one W4 v O4.out hmk L4.out.size
              go_wp2_with (at_builtin; refine Lib.wpList_append_run _ rfl _ _ 42 42 rfl _ _ rfl rfl _ _ hr ?_)
              have L5 := Lib.hid (ls_low L4.out hb5)
              have O5 := Lib.hid ho5
              clear v0 v1 v2 v3 v4 hr ho5 hb5
              go_roundw
              case rel => exact ⟨k + 1, m + 1, A', c', by omega, by rw [HN.out, List.length_append, ← HM.out]; rfl, by go_num, rfl, by rw [HN.out]; exact O5.out, L5.out⟩
              case measure => simp [intOf]; omega
            · have HN : Hid (instK C x.i z (k + 1) = instK C x.i z k) := Lib.hid (ist_none (instV_ne (by rw [hv]; exact hi)))
              have t9 : (v.a == x.i) = false := beq_eq_false_iff_ne.2 hi
              clear hh hv hi t1 t2 t3 t4 t5 t6 t7 t8 v1 v2 v3 v4
              go_wp2_with fail
              go_quiet (fail)
              go_wp2_with fail
              go_roundw
              case rel => exact ⟨k + 1, m, A0, c0, by omega, by rw [HN.out]; exact HM.out, by go_num, rfl, by rw [HN.out]; exact O3.out, L3.out.drewN _⟩
              case measure => simp [intOf]; omega
        · obtain rfl : k = 6 := by omega
          have t : decide (((6 : Nat) : Int) < 6) = false := by decide
          go_wp2_with fail
          go_ret
          have hm := HM.out
          subst hm
          rw [← HE.out]
          exact ⟨A0, c0, rfl, own_lo OW.out fun q e => by have := (OW.out.lt q e).1; omega, LW.out.bel⟩
set_option maxRecDepth 100000 in
set_option maxHeartbeats 6400000 in
theorem spec_inst0 {w : World} {B n c n2 c2 N cN : Nat} {A A2 D : Option Addr} {R S : List E2} {C : List (List Ver)} (x : Hd) (hn : n ≤ 1048576) (hn2 : n2 ≤ 1048576) (hN : N ≤ 1048576) (h1 : Vs w B A n R) (h2 : Vs w B A2 n2 S) (h3 : Rs w B D N C) (hB : B ≤ w.heap.size) (hbad : instB C x R S = false) :
    Calls Try.prog 16 #[.agg #[.slice D N cN], .agg #[.int .i64 x.i, .int .i64 x.s, .int .i64 x.t, .int .i64 x.b, .int .i64 x.l, .int .i64 x.h, .int .i64 x.c, .slice A n c, .slice A2 n2 c2]] w (VlO w (instL C x R S)) := by
  have H1 := Lib.hid h1
  have H2 := Lib.hid h2
  have H3 := Lib.hid h3
  have hCN := h3.1
  obtain ⟨z, hz⟩ : ∃ z, cstI x R S = z := ⟨_, rfl⟩
  have hzr := cst_range x R S
  rw [hz] at hzr
  have HZ := Lib.hid hz
  clear h1 h2 h3 hz
  have HE : Hid ([] = instL C x R S) := Lib.hid (inst_no hbad)
  have HBad := Lib.hid hbad
  clear hbad
  go_enter Try.func16, Try.ntmps16
  go_wp2_with fail
  have hL := LS.mk2 w (.slice D N cN) 46 30 x A n c A2 n2 c2
  have hs9 : ((w.alloc (.cells #[.slice D N cN] 46)).alloc (.cells #[.int .i64 x.i, .int .i64 x.s, .int .i64 x.t, .int .i64 x.b, .int .i64 x.l, .int .i64 x.h, .int .i64 x.c, .slice A n c, .slice A2 n2 c2] 30)).heap.size = w.heap.size + 1 + 1 := by simp
  generalize ((w.alloc _).alloc _) = W0 at hL hs9 ⊢
  have hL2 := hL.call (new1 W0 (.cells #[] 66))
  have ho := av.own_empty W0
  rw [hs9] at ho
  have hz0 := hL.size
  have L0 := Lib.hid hL2
  obtain ⟨t0, t1, t2, t3, t4, t5, t6, t7, t8⟩ := hL2.tb
  clear hL hL2
  go_wp2_with fail
  refine (Go.Proofs.Ytigbknmiidhblaa.cst.spec_cst x (by omega) (by omega) (H1.out.below (below_le L0.out.bel hB)) (H2.out.below (below_le L0.out.bel hB)) (by have := L0.out.size; omega)).mono ?_
  rintro e W1 ⟨rfl, hb1⟩
  rw [HZ.out]
  have L1 := Lib.hid (L0.out.call hb1)
  have O1 := Lib.hid (own_lo (lo' := w.heap.size) (flat.own_keep ho hb1) fun q e => by simp [Value.ownBlock] at e; omega)
  clear hb1 ho t0 t1 t2 t3 t4 t5 t6 t7 t8
  have c0 := L1.out.st
  go_wp2_with fail
  go_loopw [7, 5] (fun i u wr => i = .int .i64 0 ∧ u = .slice (some ⟨w.heap.size + 1 + 1, 0, none⟩) 0 0 ∧ wr.ownsRow w.heap.size 66 5 (.slice (some ⟨w.heap.size + 1 + 1, 0, none⟩) 0 0) 0 (flat.flat []) ∧ LS w (.slice D N cN) x (.slice A n c) (.slice A2 n2 c2) wr) (fun i _ _ => 0)
  case atStart => exact ⟨rfl, rfl, O1.out, L1.out⟩
  case round =>
    clear c0
    obtain ⟨rfl, rfl, ho, hL⟩ := hrel
    have OW := Lib.hid ho
    have LW := Lib.hid hL
    have c0 := hL.st
    clear ho hL
    by_cases hN0 : 0 < N
    · have t : decide ((0 : Int) < (N : Int)) = true := decide_eq_true (by omega)
      by_cases hz0' : z = 0
      · have tz : decide ((0 : Int) < z) = false := decide_eq_false (by omega)
        clear hz0'
        go_wp2_with fail
        go_ret
        rw [← HE.out]
        exact ⟨_, _, rfl, OW.out, LW.out.bel⟩
      · have tz : decide ((0 : Int) < z) = true := decide_eq_true (by omega)
        have hst : stB C = false := by
          rcases hq : stB C with _ | _
          · rfl
          · have := HBad.out
            rw [instB_y (by rw [HZ.out]; exact hz0') hq] at this
            cases this
        go_wp2_with fail
        refine (Go.Proofs.Ytigbknmiidhblaa.val.spec_store (by omega) (H3.out.below (below_le LW.out.bel hB)) (by have := LW.out.size; omega)).mono ?_
        rintro e W2 ⟨rfl, hb2⟩
        rw [hst]
        have L2 := Lib.hid (LW.out.call hb2)
        have O2 := Lib.hid (flat.own_keep OW.out hb2)
        clear hb2 c0 hst hz0'
        go_wp2_with fail
        go_ret
        rw [← HE.out]
        exact ⟨_, _, rfl, O2.out, L2.out.bel⟩
    · have t : decide ((0 : Int) < (N : Int)) = false := decide_eq_false (by omega)
      go_wp2_with fail
      go_ret
      rw [← HE.out]
      exact ⟨_, _, rfl, OW.out, LW.out.bel⟩
set_option maxRecDepth 100000 in
set_option maxHeartbeats 6400000 in
theorem spec_inst1 {w : World} {B n c n2 c2 N cN : Nat} {A A2 D : Option Addr} {R S : List E2} {C : List (List Ver)} (x : Hd) (hn : n ≤ 1048576) (hn2 : n2 ≤ 1048576) (hN : N ≤ 1048576) (h1 : Vs w B A n R) (h2 : Vs w B A2 n2 S) (h3 : Rs w B D N C) (hB : B ≤ w.heap.size) (hgood : instB C x R S = true) :
    Calls Try.prog 16 #[.agg #[.slice D N cN], .agg #[.int .i64 x.i, .int .i64 x.s, .int .i64 x.t, .int .i64 x.b, .int .i64 x.l, .int .i64 x.h, .int .i64 x.c, .slice A n c, .slice A2 n2 c2]] w (VlO w (instL C x R S)) := by
  have H1 := Lib.hid h1
  have H2 := Lib.hid h2
  have H3 := Lib.hid h3
  have hCN := h3.1
  obtain ⟨z, hz⟩ : ∃ z, cstI x R S = z := ⟨_, rfl⟩
  have hzr := cst_range x R S
  rw [hz] at hzr
  have HZ := Lib.hid hz
  clear h1 h2 h3 hz
  have HE : Hid (instK C x.i z 6 = instL C x R S) := Lib.hid (inst_yes hgood HZ.out)
  have hz0 : z ≠ 0 ∧ stB C = true := by
    have := hgood
    simp only [instB, Bool.and_eq_true, decide_eq_true_eq, HZ.out] at this
    exact this
  have HST := Lib.hid hz0.2
  have h6 := Go.Proofs.Ytigbknmiidhblaa.val.st_six hz0.2
  obtain rfl : N = 6 := by omega
  have tz : decide ((0 : Int) < z) = true := decide_eq_true (by omega)
  clear hgood hz0
  go_enter Try.func16, Try.ntmps16
  go_wp2_with fail
  have hL := LS.mk2 w (.slice D 6 cN) 46 30 x A n c A2 n2 c2
  have hs9 : ((w.alloc (.cells #[.slice D 6 cN] 46)).alloc (.cells #[.int .i64 x.i, .int .i64 x.s, .int .i64 x.t, .int .i64 x.b, .int .i64 x.l, .int .i64 x.h, .int .i64 x.c, .slice A n c, .slice A2 n2 c2] 30)).heap.size = w.heap.size + 1 + 1 := by simp
  generalize ((w.alloc _).alloc _) = W0 at hL hs9 ⊢
  have hL2 := hL.call (new1 W0 (.cells #[] 66))
  have ho := av.own_empty W0
  rw [hs9] at ho
  have hz0 := hL.size
  have L0 := Lib.hid hL2
  obtain ⟨t0, t1, t2, t3, t4, t5, t6, t7, t8⟩ := hL2.tb
  clear hL hL2
  go_wp2_with fail
  refine (Go.Proofs.Ytigbknmiidhblaa.cst.spec_cst x (by omega) (by omega) (H1.out.below (below_le L0.out.bel hB)) (H2.out.below (below_le L0.out.bel hB)) (by have := L0.out.size; omega)).mono ?_
  rintro e W1 ⟨rfl, hb1⟩
  rw [HZ.out]
  have L1 := Lib.hid (L0.out.call hb1)
  have O1 := Lib.hid (own_lo (lo' := w.heap.size + 2) (flat.own_keep ho hb1) fun q e => by simp [Value.ownBlock] at e; omega)
  clear hb1 ho t0 t1 t2 t3 t4 t5 t6 t7 t8
  go_wp2_with fail
  go_loopw [7, 5] (fun i u wr => ∃ (k m : Nat) (A0 : Option Addr) (c0 : Nat), k ≤ 6 ∧ m = (instK C x.i z k).length ∧ i = .int .i64 k ∧ u = .slice A0 m c0 ∧ wr.ownsRow (w.heap.size + 2) 66 5 (.slice A0 m c0) m (flat.flat (instK C x.i z k)) ∧ LS w (.slice D 6 cN) x (.slice A n c) (.slice A2 n2 c2) wr) (fun i _ _ => 6 - (intOf i).toNat)
  case atStart => exact ⟨0, 0, some ⟨w.heap.size + 1 + 1, 0, none⟩, 0, by omega, rfl, rfl, rfl, O1.out, L1.out⟩
  case round =>
    obtain ⟨k, m, A0, c0, hk, hm, rfl, rfl, ho, hL⟩ := hrel
    have OW := Lib.hid ho
    have LW := Lib.hid hL
    have HM := Lib.hid hm
    have hmk : m ≤ 6 := by have := instK_len C x.i z k; omega
    have d0 := hL.st
    clear ho hL hm
    by_cases hlt : k < 6
    · have t : decide ((k : Int) < 6) = true := decide_eq_true (by omega)
      go_wp2_with fail
      refine (Go.Proofs.Ytigbknmiidhblaa.val.spec_store (by omega) (H3.out.below (below_le LW.out.bel hB)) (by have := LW.out.size; omega)).mono ?_
      rintro e W2 ⟨rfl, hb2⟩
      rw [HST.out]
      have L2 := Lib.hid (LW.out.call hb2)
      have O2 := Lib.hid (flat.own_keep OW.out hb2)
      clear hb2 d0
      have d0 := L2.out.st
      obtain ⟨b2, o2, l, A', n', c', rfl, hb2, hl, d1, hn', hv⟩ := (H3.out.below (below_le L2.out.bel hB)).at_ hlt
      have HL := Lib.hid hl
      have HV := Lib.hid hv
      have hk1 : (k : Int) < ((6 : Nat) : Int) := by omega
      obtain ⟨f, hf⟩ : ∃ f, fndI z l 0 = f := ⟨_, rfl⟩
      have HF := Lib.hid hf
      clear hl hv hf
      go_wp2_with fail
      refine (Go.Proofs.Ytigbknmiidhblaa.rx.spec_findq z HF.out hn' HV.out).mono ?_
      rintro e W3 ⟨rfl, rfl⟩
      obtain ⟨t0, t1, t2, t3, t4, t5, t6, t7, t8⟩ := L2.out.tb
      clear t1 t2 t3 t4 t5 t6 t7 t8
      by_cases hff : 0 ≤ f
      · have tf : decide ((0 : Int) ≤ f) = true := decide_eq_true hff
        obtain ⟨j, hj, hjl⟩ := fnd_lt (c := z) (l := l) (by rw [HF.out]; exact hff)
        obtain rfl : f = (j : Int) := by rw [← HF.out]; exact hj
        have hln := HV.out.1
        obtain ⟨b, o, v, rfl, hbB, hx, v0, v1, v2, v3, v4⟩ := HV.out.at_ (k := j) (by omega)
        have HX := Lib.hid hx
        have hh : hasV C ⟨(k : Int), z⟩ = true := has_at (m := ⟨(k : Int), z⟩) HL.out HF.out (decide_eq_true hff)
        have hvv : verOf C ⟨(k : Int), z⟩ = v := ver_at (m := ⟨(k : Int), z⟩) HL.out HF.out HX.out
        have hjn : (j : Int) < (n' : Int) := by omega
        have AT : Hid (sl.At W2 b (o + j * 5) v) := Lib.hid ⟨v0, v1, v2, v3, v4⟩
        by_cases hi : v.a = x.i
        · have HN : Hid (instK C x.i z (k + 1) = instK C x.i z k ++ [v]) := Lib.hid (ist_some (instV_yes hh hvv hi))
          have t9 : (v.a == x.i) = true := by rw [hi]; simp
          clear hh hvv hi hx v1 v2 v3 v4 hj
          go_wp2_with fail
          go_quiet (fail)
          generalize hW : W2.drewN _ = W4
          have L4 : Hid (LS w (.slice (some ⟨b2, o2, none⟩) 6 cN) x (.slice A n c) (.slice A2 n2 c2) W4) := Lib.hid (by rw [← hW]; exact L2.out.drewN _)
          have O4 : Hid (W4.ownsRow (w.heap.size + 2) 66 5 (.slice A0 m c0) m (flat.flat (instK C x.i z k))) := Lib.hid (by rw [← hW]; exact O2.out)
          have A4 : Hid (sl.At W4 b (o + j * 5) v) := Lib.hid (by rw [← hW]; exact AT.out)
          have D4 : Hid (W4.cell? ⟨b2, o2 + k, none⟩ = some (.slice (some ⟨b, o, none⟩) n' c')) := Lib.hid (by rw [← hW]; exact d1)
          clear hW v0 t0 d0 d1
          have d0 := L4.out.st
          have d1 := D4.out
          obtain ⟨v0, v1, v2, v3, v4⟩ := A4.out
          obtain ⟨A', c', W5, hr, ho5, hb5⟩ := app_one W4 v O4.out hmk L4.out.size
          go_wp2_with (at_builtin; refine Lib.wpList_append_run _ rfl _ _ 42 42 rfl _ _ rfl rfl _ _ hr ?_)
          have L5 := Lib.hid (ls_low L4.out hb5)
          have O5 := Lib.hid ho5
          clear v0 v1 v2 v3 v4 hr ho5 hb5 d0 d1
          go_roundw
          case rel => exact ⟨k + 1, m + 1, A', c', by omega, by rw [HN.out, List.length_append, ← HM.out]; rfl, by go_num, rfl, by rw [HN.out]; exact O5.out, L5.out⟩
          case measure => simp [intOf]; omega
        · have HN : Hid (instK C x.i z (k + 1) = instK C x.i z k) := Lib.hid (ist_none (instV_ne (by rw [hvv]; exact hi)))
          have t9 : (v.a == x.i) = false := beq_eq_false_iff_ne.2 hi
          clear hh hvv hi hx v1 v2 v3 v4 hj
          go_wp2_with fail
          go_quiet (fail)
          go_wp2_with fail
          go_roundw
          case rel => exact ⟨k + 1, m, A0, c0, by omega, by rw [HN.out]; exact HM.out, by go_num, rfl, by rw [HN.out]; exact O2.out, L2.out.drewN _⟩
          case measure => simp [intOf]; omega
      · have tf : decide ((0 : Int) ≤ f) = false := decide_eq_false hff
        have HN : Hid (instK C x.i z (k + 1) = instK C x.i z k) := Lib.hid (ist_none (instV_no (has_at (m := ⟨(k : Int), z⟩) HL.out HF.out (decide_eq_false hff))))
        go_wp2_with fail
        go_quiet (fail)
        go_wp2_with fail
        go_roundw
        case rel => exact ⟨k + 1, m, A0, c0, by omega, by rw [HN.out]; exact HM.out, by go_num, rfl, by rw [HN.out]; exact O2.out, L2.out.drewN _⟩
        case measure => simp [intOf]; omega
    · obtain rfl : k = 6 := by omega
      have t : decide (((6 : Nat) : Int) < 6) = false := by decide
      go_wp2_with fail
      go_ret
      have hm := HM.out
      subst hm
      rw [← HE.out]
      exact ⟨A0, c0, rfl, own_lo OW.out fun q e => by have := (OW.out.lt q e).1; omega, LW.out.bel⟩
theorem spec_inst {w : World} {B n c n2 c2 N cN : Nat} {A A2 D : Option Addr} {R S : List E2} {C : List (List Ver)} (x : Hd) (hn : n ≤ 1048576) (hn2 : n2 ≤ 1048576) (hN : N ≤ 1048576) (h1 : Vs w B A n R) (h2 : Vs w B A2 n2 S) (h3 : Rs w B D N C) (hB : B ≤ w.heap.size) :
    Calls Try.prog 16 #[.agg #[.slice D N cN], .agg #[.int .i64 x.i, .int .i64 x.s, .int .i64 x.t, .int .i64 x.b, .int .i64 x.l, .int .i64 x.h, .int .i64 x.c, .slice A n c, .slice A2 n2 c2]] w (VlO w (instL C x R S)) := by
  rcases h : instB C x R S with _ | _
  · exact spec_inst0 x hn hn2 hN h1 h2 h3 hB h
  · exact spec_inst1 x hn hn2 hN h1 h2 h3 hB h
end Go.Proofs.Ytigbknmiidhblaa.inv
