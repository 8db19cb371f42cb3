/- TrackRead of the program and of the model: what each answers, in memory of its own. -/
import Derived.Test.YtajllccgfhminaaAd
import Derived.Test.YtajllccgfhminaaPu
import Derived.Test.YtajllccgfhminaaTvs
import Derived.Test.YtajllccgfhminaaCh
namespace Go.Proofs.Ytajllccgfhminaa.tk
open Go.ChangeShapes Go.WideShapes Go.ChangeAt Go.RowKit
open Go.Proofs.Ytajllccgfhminaa.el2 Go.Proofs.Ytajllccgfhminaa.tx Go.Proofs.Ytajllccgfhminaa.seq Go.Proofs.Ytajllccgfhminaa.tv Go.Proofs.Ytajllccgfhminaa.tf Go.Proofs.Ytajllccgfhminaa.ap Go.Proofs.Ytajllccgfhminaa.bx Go.Proofs.Ytajllccgfhminaa.cl Go.Proofs.Ytajllccgfhminaa.lc Go.Proofs.Ytajllccgfhminaa.ro Go.Proofs.Ytajllccgfhminaa.ao Go.Proofs.Ytajllccgfhminaa.ins Go.Proofs.Ytajllccgfhminaa.pu Go.Proofs.Ytajllccgfhminaa.ad
open Go.Proofs.Ytajllccgfhminaa.vers (new2 new3 In vB ret_b)
open Go.Proofs.Ytajllccgfhminaa.sl (Ver)
set_option linter.unusedVariables false
set_option linter.unusedSimpArgs false
noncomputable def actB (x : Hd) (R S : List E2) : Bool := txB x R S && decide (x.t = 1)
noncomputable def trB (x : Hd) (R S : List E2) (k : Int) (v : Ver) : Bool := actB x R S && decide (R.length < 60) && In 0 5 k && vB v.a v.b v.c v.d v.e
noncomputable def trX (x : Hd) (R S : List E2) (k : Int) (v : Ver) : Hd := if trB x R S k v = true then { x with l := max x.l v.c, h := min x.h v.e } else x
noncomputable def trR (x : Hd) (R S : List E2) (k : Int) (v : Ver) : List E2 := if trB x R S k v = true then insR ⟨k, v.c⟩ R else R
/-- what TrackRead hands back -/
def TrO (x : Hd) (R S : List E2) (n2 : Nat) (k : Int) (v : Ver) (w : World) (e : Ending) (w' : World) : Prop :=
  ∃ A' c' A2' c2', e = .returned (.tuple #[txv (trX x R S k v) (.slice A' (trR x R S k v).length c') (.slice A2' n2 c2'), .bool (trB x R S k v)]) ∧ OwnT w' w.heap.size (.slice A' (trR x R S k v).length c') (trR x R S k v).length (trR x R S k v) (.slice A2' n2 c2') n2 S ∧ Below w.heap.size w w'
section
variable {x : Hd} {R S : List E2} {k : Int} {v : Ver}
theorem tr_yes (h : trB x R S k v = true) : trX x R S k v = { x with l := max x.l v.c, h := min x.h v.e } ∧ trR x R S k v = insR ⟨k, v.c⟩ R := ⟨if_pos h, if_pos h⟩
theorem tr_no (h : trB x R S k v = false) : trX x R S k v = x ∧ trR x R S k v = R := ⟨if_neg (by simp [h]), if_neg (by simp [h])⟩
theorem ver_off {w w' : World} {b o : Nat} {x : Ver} (h : Go.Proofs.Ytajllccgfhminaa.sl.At w b o x) (hk : w'.heap[b]? = w.heap[b]?) : Go.Proofs.Ytajllccgfhminaa.sl.At w' b o x :=
  ⟨(World.cell?_of_block (w := w) (a := ⟨b, o, none⟩) hk).trans h.1, (World.cell?_of_block (w := w) (a := ⟨b, o + 1, none⟩) hk).trans h.2.1, (World.cell?_of_block (w := w) (a := ⟨b, o + 2, none⟩) hk).trans h.2.2.1, (World.cell?_of_block (w := w) (a := ⟨b, o + 3, none⟩) hk).trans h.2.2.2.1, (World.cell?_of_block (w := w) (a := ⟨b, o + 4, none⟩) hk).trans h.2.2.2.2⟩
theorem trR_len (x : Hd) (R S : List E2) (k : Int) (v : Ver) : (trR x R S k v).length ≤ R.length + 1 := by
  unfold trR
  split
  · exact ins_len
  · omega
theorem act_t (h : txB x R S = true) : decide (x.t = 1) = actB x R S := by simp [actB, h]
theorem act_f (h : txB x R S = false) : false = actB x R S := by simp [actB, h]
theorem tr_a (h : actB x R S = false) : false = trB x R S k v := by simp [trB, h]
theorem tr_b (h : ¬ R.length < 60) : false = trB x R S k v := by simp [trB, h]
theorem tr_c (h : In 0 5 k = false) : false = trB x R S k v := by simp [trB, h]
theorem tr_d (h : actB x R S = true) (h2 : R.length < 60) (h3 : In 0 5 k = true) : vB v.a v.b v.c v.d v.e = trB x R S k v := by simp [trB, h, h2, h3]
theorem tr_all (h : trB x R S k v = true) : txB x R S = true ∧ x.t = 1 ∧ R.length < 60 ∧ In 0 5 k = true ∧ vB v.a v.b v.c v.d v.e = true := by
  simp only [trB, actB, Bool.and_eq_true, decide_eq_true_eq] at h
  exact ⟨h.1.1.1.1, h.1.1.1.2, h.1.1.2, h.1.2, h.2⟩
theorem trR_max (x : Hd) (R S : List E2) (k : Int) (v : Ver) : (trR x R S k v).length ≤ R.length ∨ (trR x R S k v).length ≤ 61 := by
  by_cases h : trB x R S k v = true
  · have h60 := (tr_all h).2.2.1
    have hl := trR_len x R S k v
    omega
  · rw [(tr_no (Bool.eq_false_iff.2 h)).2]
    exact .inl (Nat.le_refl _)
theorem tx_sq (h : txB x R S = true) : SqP okR folR R ∧ R.length ≤ 60 := by
  simp only [txB, rdB, Bool.and_eq_true, decide_eq_true_eq] at h
  exact ⟨sq_of h.1.2.2, h.1.2.1⟩
end
set_option maxRecDepth 100000 in
set_option maxHeartbeats 1600000 in
theorem impl_active {w : World} {B n c n2 c2 : Nat} {A A2 : Option Addr} {R S : List E2} (x : Hd) (hn : n ≤ 1048576) (hn2 : n2 ≤ 1048576) (h1 : Vs w B A n R) (h2 : Vs w B A2 n2 S) (hB : B ≤ w.heap.size) :
    Calls Try.prog 82 #[.agg #[.int .i64 x.i, .int .i64 x.s, .int .i64 x.t, .int .i64 x.b, .int .i64 x.l, .int .i64 x.h, .int .i64 x.c, .slice A n c, .slice A2 n2 c2]] w fun e w' => e = .returned (.bool (actB x R S)) ∧ Below w.heap.size w w' := by
  have H1 := Lib.hid h1
  have H2 := Lib.hid h2
  clear h1 h2
  go_enter Try.func82, Try.ntmps82
  go_wp2_with fail
  have hb := new1 w (.cells #[.int .i64 x.i, .int .i64 x.s, .int .i64 x.t, .int .i64 x.b, .int .i64 x.l, .int .i64 x.h, .int .i64 x.c, .slice A n c, .slice A2 n2 c2] 27)
  have tb := TB.new w x A n c A2 n2 c2 27
  have hs : (w.alloc (.cells #[.int .i64 x.i, .int .i64 x.s, .int .i64 x.t, .int .i64 x.b, .int .i64 x.l, .int .i64 x.h, .int .i64 x.c, .slice A n c, .slice A2 n2 c2] 27)).heap.size = w.heap.size + 1 := by simp
  generalize w.alloc _ = W0 at hb tb hs ⊢
  have HB0 := Lib.hid hb
  have HT0 := Lib.hid tb
  obtain ⟨t0, t1, t2, t3, t4, t5, t6, t7, t8⟩ := tb
  clear hb
  go_wp2_with fail
  refine (impl_tx x (by omega) (by omega) (H1.out.below (below_le HB0.out hB)) (H2.out.below (below_le HB0.out hB)) (by omega)).mono ?_
  rintro e W1 ⟨rfl, hb1⟩
  clear t0 t1 t2 t3 t4 t5 t6 t7 t8
  obtain ⟨t0, t1, t2, t3, t4, t5, t6, t7, t8⟩ := HT0.out.keep (by omega) hb1
  have HB1 := Lib.hid (HB0.out.trans (hb1.mono (by omega)))
  clear hb1 t0 t1 t3 t4 t5 t6 t7 t8
  rcases hq : txB x R S with _ | _
  · have HQ := Lib.hid hq
    clear hq
    go_wp2_with fail
    go_ret
    exact ⟨ret_b (act_f HQ.out), HB1.out⟩
  · have HQ := Lib.hid hq
    clear hq
    go_wp2_with fail
    go_ret
    exact ⟨ret_b (by rw [← act_t HQ.out, Bool.eq_iff_iff]; simp), HB1.out⟩
set_option maxRecDepth 100000 in
set_option maxHeartbeats 1600000 in
theorem impl_may {w : World} {B n c n2 c2 : Nat} {A A2 : Option Addr} {R S : List E2} (x : Hd) (k : Int) (v : Ver) (hn : n ≤ 1048576) (hn2 : n2 ≤ 1048576) (h1 : Vs w B A n R) (h2 : Vs w B A2 n2 S) (hB : B ≤ w.heap.size) :
    Calls Try.prog 56 #[.agg #[.int .i64 x.i, .int .i64 x.s, .int .i64 x.t, .int .i64 x.b, .int .i64 x.l, .int .i64 x.h, .int .i64 x.c, .slice A n c, .slice A2 n2 c2], .int .i64 k, .agg #[.int .i64 v.a, .int .i64 v.b, .int .i64 v.c, .int .i64 v.d, .int .i64 v.e]] w fun e w' => e = .returned (.bool (trB x R S k v)) ∧ Below w.heap.size w w' := by
  have H1 := Lib.hid h1
  have H2 := Lib.hid h2
  have hln := h1.1
  clear h1 h2
  go_enter Try.func56, Try.ntmps56
  go_wp2_with fail
  have hb := new2 w (.cells #[.int .i64 x.i, .int .i64 x.s, .int .i64 x.t, .int .i64 x.b, .int .i64 x.l, .int .i64 x.h, .int .i64 x.c, .slice A n c, .slice A2 n2 c2] 27) (.cells #[.int .i64 v.a, .int .i64 v.b, .int .i64 v.c, .int .i64 v.d, .int .i64 v.e] 29)
  have tb := (TB.new w x A n c A2 n2 c2 27).keep (B := w.heap.size + 1) (by omega) (below_le (new1 (w.alloc (.cells #[.int .i64 x.i, .int .i64 x.s, .int .i64 x.t, .int .i64 x.b, .int .i64 x.l, .int .i64 x.h, .int .i64 x.c, .slice A n c, .slice A2 n2 c2] 27)) (.cells #[.int .i64 v.a, .int .i64 v.b, .int .i64 v.c, .int .i64 v.d, .int .i64 v.e] 29)) (by simp))
  have vb := Go.Proofs.Ytajllccgfhminaa.ch.boxed (w.alloc (.cells #[.int .i64 x.i, .int .i64 x.s, .int .i64 x.t, .int .i64 x.b, .int .i64 x.l, .int .i64 x.h, .int .i64 x.c, .slice A n c, .slice A2 n2 c2] 27)) v 29
  have hs : ((w.alloc (.cells #[.int .i64 x.i, .int .i64 x.s, .int .i64 x.t, .int .i64 x.b, .int .i64 x.l, .int .i64 x.h, .int .i64 x.c, .slice A n c, .slice A2 n2 c2] 27)).alloc (.cells #[.int .i64 v.a, .int .i64 v.b, .int .i64 v.c, .int .i64 v.d, .int .i64 v.e] 29)).heap.size = w.heap.size + 2 := by simp
  rw [show (w.alloc (.cells #[.int .i64 x.i, .int .i64 x.s, .int .i64 x.t, .int .i64 x.b, .int .i64 x.l, .int .i64 x.h, .int .i64 x.c, .slice A n c, .slice A2 n2 c2] 27)).heap.size = w.heap.size + 1 by simp] at vb
  generalize (w.alloc _).alloc _ = W0 at hb tb vb hs ⊢
  have HB0 := Lib.hid hb
  have HT0 := Lib.hid tb
  have HV0 := Lib.hid vb
  obtain ⟨t0, t1, t2, t3, t4, t5, t6, t7, t8⟩ := tb
  clear hb vb
  go_wp2_with fail
  refine (impl_active x (by omega) (by omega) (H1.out.below (below_le HB0.out hB)) (H2.out.below (below_le HB0.out hB)) (by omega)).mono ?_
  rintro e W1 ⟨rfl, hb1⟩
  clear t0 t1 t2 t3 t4 t5 t6 t7 t8
  obtain ⟨t0, t1, t2, t3, t4, t5, t6, t7, t8⟩ := HT0.out.keep (by omega) hb1
  obtain ⟨v0, v1, v2, v3, v4⟩ := Go.Proofs.Ytajllccgfhminaa.ch.atFlat (HV0.out.keep (B := W0.heap.size) (by omega) hb1)
  have HB1 := Lib.hid (HB0.out.trans (hb1.mono (by omega)))
  clear hb1 t0 t1 t2 t3 t4 t5 t6 t8
  rcases hq : actB x R S with _ | _
  · have HQ := Lib.hid hq
    clear hq
    go_wp2_with fail
    go_ret
    exact ⟨ret_b (tr_a HQ.out), HB1.out⟩
  have HQ := Lib.hid hq
  clear hq
  by_cases hl : n < 60
  · have tl : decide ((n : Int) < 60) = true := decide_eq_true (by omega)
    go_wp2_with fail
    refine (is_key k _).mono ?_
    rintro e W2 ⟨rfl, rfl⟩
    rcases hk : In 0 5 k with _ | _
    · have HK := Lib.hid hk
      clear hk
      go_wp2_with fail
      go_ret
      exact ⟨ret_b (tr_c HK.out), HB1.out⟩
    have HK := Lib.hid hk
    clear hk
    go_wp2_with fail
    refine (vers.impl_version v.a v.b v.c v.d v.e _).mono ?_
    rintro e W2 ⟨rfl, hb2⟩
    have HB2 := Lib.hid (HB1.out.trans (hb2.mono HB1.out.size))
    have HE : Hid (vB v.a v.b v.c v.d v.e = trB x R S k v) := Lib.hid (tr_d HQ.out (by omega) HK.out)
    clear hb2
    rw [HE.out]
    clear v0 v1 v2 v3 v4 t7
    rcases hq2 : trB x R S k v with _ | _
    all_goals
      have HQ2 := Lib.hid hq2
      clear hq2
      go_wp2_with fail
      go_ret
      exact ⟨ret_b HQ2.out.symm, HB2.out⟩
  · have tl : decide ((n : Int) < 60) = false := decide_eq_false (by omega)
    go_wp2_with fail
    go_ret
    exact ⟨ret_b (tr_b (by omega)), HB1.out⟩
/-- the boxes of a transaction, of a version and of the result -/
structure L3 (w : World) (x : Hd) (u1 u2 : Value) (v : Ver) (W : World) : Prop where
  bel : Below w.heap.size w W
  size : w.heap.size + 3 ≤ W.heap.size
  tb : TB W w.heap.size x u1 u2
  vb : Go.Proofs.Ytajllccgfhminaa.sl.At W (w.heap.size + 1) 0 v
  rb : Bx W (w.heap.size + 2) ⟨0, 0, 0, 0, 0, 0, 0⟩ (.slice none 0 0) (.slice none 0 0)
theorem L3.keep {w W W' : World} {x : Hd} {u1 u2 : Value} {v : Ver} (h : L3 w x u1 u2 v W) (hb : Below (w.heap.size + 3) W W') : L3 w x u1 u2 v W' :=
  ⟨h.bel.trans (hb.mono (by omega)), Nat.le_trans h.size hb.size, h.tb.keep (by omega) hb, h.vb.keep (by omega) hb, h.rb.keep hb (by omega)⟩
theorem L3.mk3 (w : World) (x : Hd) (A A2 : Option Addr) (n c n2 c2 : Nat) (v : Ver) : L3 w x (.slice A n c) (.slice A2 n2 c2) v (((w.alloc (.cells #[.int .i64 x.i, .int .i64 x.s, .int .i64 x.t, .int .i64 x.b, .int .i64 x.l, .int .i64 x.h, .int .i64 x.c, .slice A n c, .slice A2 n2 c2] 27)).alloc (.cells #[.int .i64 v.a, .int .i64 v.b, .int .i64 v.c, .int .i64 v.d, .int .i64 v.e] 29)).alloc (.cells #[.int .i64 0, .int .i64 0, .int .i64 0, .int .i64 0, .int .i64 0, .int .i64 0, .int .i64 0, .slice none 0 0, .slice none 0 0] 27)) where
  bel := new3 _ _ _ _
  size := by simp
  tb := ((TB.new w x A n c A2 n2 c2 27).keep (B := w.heap.size + 1) (by omega) (below_le (new1 (w.alloc (.cells #[.int .i64 x.i, .int .i64 x.s, .int .i64 x.t, .int .i64 x.b, .int .i64 x.l, .int .i64 x.h, .int .i64 x.c, .slice A n c, .slice A2 n2 c2] 27)) (.cells #[.int .i64 v.a, .int .i64 v.b, .int .i64 v.c, .int .i64 v.d, .int .i64 v.e] 29)) (by simp))).keep (B := w.heap.size + 1) (by omega) (below_le (new1 ((w.alloc (.cells #[.int .i64 x.i, .int .i64 x.s, .int .i64 x.t, .int .i64 x.b, .int .i64 x.l, .int .i64 x.h, .int .i64 x.c, .slice A n c, .slice A2 n2 c2] 27)).alloc (.cells #[.int .i64 v.a, .int .i64 v.b, .int .i64 v.c, .int .i64 v.d, .int .i64 v.e] 29)) (.cells #[.int .i64 0, .int .i64 0, .int .i64 0, .int .i64 0, .int .i64 0, .int .i64 0, .int .i64 0, .slice none 0 0, .slice none 0 0] 27)) (by simp))
  vb := by
    have h := (Go.Proofs.Ytajllccgfhminaa.ch.boxed (w.alloc (.cells #[.int .i64 x.i, .int .i64 x.s, .int .i64 x.t, .int .i64 x.b, .int .i64 x.l, .int .i64 x.h, .int .i64 x.c, .slice A n c, .slice A2 n2 c2] 27)) v 29).keep (B := w.heap.size + 2) (by simp) (below_le (new1 ((w.alloc (.cells #[.int .i64 x.i, .int .i64 x.s, .int .i64 x.t, .int .i64 x.b, .int .i64 x.l, .int .i64 x.h, .int .i64 x.c, .slice A n c, .slice A2 n2 c2] 27)).alloc (.cells #[.int .i64 v.a, .int .i64 v.b, .int .i64 v.c, .int .i64 v.d, .int .i64 v.e] 29)) (.cells #[.int .i64 0, .int .i64 0, .int .i64 0, .int .i64 0, .int .i64 0, .int .i64 0, .int .i64 0, .slice none 0 0, .slice none 0 0] 27)) (by simp))
    rw [show (w.alloc (.cells #[.int .i64 x.i, .int .i64 x.s, .int .i64 x.t, .int .i64 x.b, .int .i64 x.l, .int .i64 x.h, .int .i64 x.c, .slice A n c, .slice A2 n2 c2] 27)).heap.size = w.heap.size + 1 by simp] at h
    exact h
  rb := by
    have h := Bx.zero ((w.alloc (.cells #[.int .i64 x.i, .int .i64 x.s, .int .i64 x.t, .int .i64 x.b, .int .i64 x.l, .int .i64 x.h, .int .i64 x.c, .slice A n c, .slice A2 n2 c2] 27)).alloc (.cells #[.int .i64 v.a, .int .i64 v.b, .int .i64 v.c, .int .i64 v.d, .int .i64 v.e] 29))
    rw [show ((w.alloc (.cells #[.int .i64 x.i, .int .i64 x.s, .int .i64 x.t, .int .i64 x.b, .int .i64 x.l, .int .i64 x.h, .int .i64 x.c, .slice A n c, .slice A2 n2 c2] 27)).alloc (.cells #[.int .i64 v.a, .int .i64 v.b, .int .i64 v.c, .int .i64 v.d, .int .i64 v.e] 29)).heap.size = w.heap.size + 2 by simp] at h
    exact h
set_option maxRecDepth 100000 in
set_option maxHeartbeats 3200000 in
theorem impl_track {w : World} {B n c n2 c2 : Nat} {A A2 : Option Addr} {R S : List E2} (x : Hd) (k : Int) (v : Ver) (hn : n ≤ 1048576) (hn2 : n2 ≤ 1048576) (h1 : Vs w B A n R) (h2 : Vs w B A2 n2 S) (hB : B ≤ w.heap.size) :
    Calls Try.prog 11 #[.agg #[.int .i64 x.i, .int .i64 x.s, .int .i64 x.t, .int .i64 x.b, .int .i64 x.l, .int .i64 x.h, .int .i64 x.c, .slice A n c, .slice A2 n2 c2], .int .i64 k, .agg #[.int .i64 v.a, .int .i64 v.b, .int .i64 v.c, .int .i64 v.d, .int .i64 v.e]] w (TrO x R S n2 k v w) := by
  have H1 := Lib.hid h1
  have H2 := Lib.hid h2
  have hln := h1.1
  clear h1 h2
  go_enter Try.func11, Try.ntmps11
  go_wp2_with fail
  have hL := L3.mk3 w x A A2 n c n2 c2 v
  generalize ((w.alloc _).alloc _).alloc _ = W0 at hL ⊢
  have L0 := Lib.hid hL
  have hz0 := hL.size
  obtain ⟨t0, t1, t2, t3, t4, t5, t6, t7, t8⟩ := hL.tb
  clear hL
  try go_wp2_with fail
  refine (copy_t x (by omega) (by omega) (H1.out.below (below_le L0.out.bel hB)) (H2.out.below (below_le L0.out.bel hB)) (by omega)).mono ?_
  rintro e W1 ⟨u, u2, rfl, ho, hb⟩
  obtain ⟨A', c', rfl, _⟩ := own_vs ho.1 hln
  obtain ⟨A2', c2', rfl, _⟩ := own_vs ho.2 (by have := ho.2.1; rw [flat_len] at this; omega)
  have L1 := Lib.hid (L0.out.keep (below_le hb hz0))
  have O1 := Lib.hid (ho.more hz0)
  have hz1 := hb.size
  clear ho hb t0 t1 t2 t3 t4 t5 t6 t7 t8
  obtain ⟨t0, t1, t2, t3, t4, t5, t6, t7, t8⟩ := L1.out.tb
  obtain ⟨v0, v1, v2, v3, v4⟩ := Go.Proofs.Ytajllccgfhminaa.ch.atFlat L1.out.vb
  have hlt0 : w.heap.size < W1.heap.size := by omega
  have hlt1 : w.heap.size + 1 < W1.heap.size := by omega
  go_wp2_with fail
  have bo2 : Bo (W1.alloc (.cells #[.int .i64 x.i, .int .i64 x.s, .int .i64 x.t, .int .i64 x.b, .int .i64 x.l, .int .i64 x.h, .int .i64 x.c, .slice A' n c', .slice A2' n2 c2'] 27)) (w.heap.size + 3) W1.heap.size x A' n c' R A2' n2 c2' S := ⟨Bx.new W1 x _ _, O1.out.keep (new1 W1 _), by omega⟩
  have l2 := L1.out.keep (below_le (new1 W1 (.cells #[.int .i64 x.i, .int .i64 x.s, .int .i64 x.t, .int .i64 x.b, .int .i64 x.l, .int .i64 x.h, .int .i64 x.c, .slice A' n c', .slice A2' n2 c2'] 27)) (by omega))
  generalize W1.alloc _ = W2 at bo2 l2 ⊢
  have L2 := Lib.hid l2
  have hz2 := l2.size
  have BO2 := Lib.hid bo2
  clear bo2 l2 t0 t1 t2 t3 t4 t5 t6 t7 t8 v0 v1 v2 v3 v4
  refine (impl_may x k v hn hn2 (H1.out.below (below_le L2.out.bel hB)) (H2.out.below (below_le L2.out.bel hB)) (by omega)).mono ?_
  rintro e W3 ⟨rfl, hb⟩
  have L3' := Lib.hid (L2.out.keep (below_le hb hz2))
  have BO3 := Lib.hid (BO2.out.keep hb)
  have hz3 := hb.size
  clear hb
  rcases hq : trB x R S k v with _ | _
  · have HQ := Lib.hid hq
    have HE := Lib.hid (tr_no hq)
    clear hq
    obtain ⟨t0, t1, t2, t3, t4, t5, t6, t7, t8⟩ := BO3.out.bx.tb
    obtain ⟨z0, z1, z2, z3, z4, z5, z6, z7, z8⟩ := L3'.out.rb.tb
    have y0 := L3'.out.rb.fz 0
    have y1 := L3'.out.rb.fz 1
    have y2 := L3'.out.rb.fz 2
    have y3 := L3'.out.rb.fz 3
    have y4 := L3'.out.rb.fz 4
    have y5 := L3'.out.rb.fz 5
    have y6 := L3'.out.rb.fz 6
    have y7 := L3'.out.rb.fz 7
    have y8 := L3'.out.rb.fz 8
    go_wp2_with fail
    obtain ⟨hT, hO, hB9⟩ := give_back (w := w) (x := x) L3'.out.rb BO3.out.own (by omega) (by omega) L3'.out.bel (by omega)
    clear t0 t1 t2 t3 t4 t5 t6 t7 t8 z0 z1 z2 z3 z4 z5 z6 z7 z8 y0 y1 y2 y3 y4 y5 y6 y7 y8
    generalize (((((((((World.setCell _ _ _).setCell _ _).setCell _ _).setCell _ _).setCell _ _).setCell _ _).setCell _ _).setCell _ _).setCell _ _) = W9 at hT hO hB9 ⊢
    obtain ⟨e0, e1, e2, e3, e4, e5, e6, e7, e8⟩ := hT
    refine bodyPost_ret (v := .tuple #[txv x (.slice A' n c') (.slice A2' n2 c2'), .bool false]) (by simp [results, Try.results11, go_sem, e0, e1, e2, e3, e4, e5, e6, e7, e8]) rfl ?_
    unfold TrO
    rw [HE.out.1, HE.out.2, HQ.out, hln]
    exact ⟨_, _, _, _, rfl, hO, hB9⟩
  · have HQ := Lib.hid hq
    have HE := Lib.hid (tr_yes hq)
    obtain ⟨htx, ht1, hl60, hkk, hvv⟩ := tr_all hq
    obtain ⟨hsq, _⟩ := tx_sq htx
    have HSQ := Lib.hid hsq
    obtain ⟨v0, v1, v2, v3, v4⟩ := Go.Proofs.Ytajllccgfhminaa.ch.atFlat L3'.out.vb
    clear hq htx ht1 hl60 hkk hvv hsq
    go_wp2_with fail
    refine (add_read ⟨k, v.c⟩ BO3.out (by omega) HSQ.out).mono ?_
    rintro e W4 ⟨rfl, A4, c4, hB4, hb⟩
    have L4 := Lib.hid (L3'.out.keep hb)
    have BO4 := Lib.hid hB4
    have hz4 := hb.size
    clear hb hB4 v0 v1 v2 v3 v4
    obtain ⟨v0, v1, v2, v3, v4⟩ := Go.Proofs.Ytajllccgfhminaa.ch.atFlat L4.out.vb
    go_wp2_with fail
    refine (raise_low v.c BO4.out).mono ?_
    rintro e W5 ⟨rfl, hB5, hb⟩
    have L5 := Lib.hid (L4.out.keep hb)
    have BO5 := Lib.hid hB5
    have hz5 := hb.size
    clear hb hB5 v0 v1 v2 v3 v4
    obtain ⟨v0, v1, v2, v3, v4⟩ := Go.Proofs.Ytajllccgfhminaa.ch.atFlat L5.out.vb
    go_wp2_with fail
    refine (lower_high v.e BO5.out).mono ?_
    rintro e W6 ⟨rfl, hB6, hb⟩
    have L6 := Lib.hid (L5.out.keep hb)
    have BO6 := Lib.hid hB6
    have hz6 := hb.size
    clear hb hB6 v0 v1 v2 v3 v4
    obtain ⟨t0, t1, t2, t3, t4, t5, t6, t7, t8⟩ := BO6.out.bx.tb
    obtain ⟨z0, z1, z2, z3, z4, z5, z6, z7, z8⟩ := L6.out.rb.tb
    have y0 := L6.out.rb.fz 0
    have y1 := L6.out.rb.fz 1
    have y2 := L6.out.rb.fz 2
    have y3 := L6.out.rb.fz 3
    have y4 := L6.out.rb.fz 4
    have y5 := L6.out.rb.fz 5
    have y6 := L6.out.rb.fz 6
    have y7 := L6.out.rb.fz 7
    have y8 := L6.out.rb.fz 8
    go_wp2_with fail
    obtain ⟨hT, hO, hB9⟩ := give_back (w := w) (x := { x with l := max x.l v.c, h := min x.h v.e }) L6.out.rb BO6.out.own (by omega) (by omega) L6.out.bel (by omega)
    clear t0 t1 t2 t3 t4 t5 t6 t7 t8 z0 z1 z2 z3 z4 z5 z6 z7 z8 y0 y1 y2 y3 y4 y5 y6 y7 y8
    generalize (((((((((World.setCell _ _ _).setCell _ _).setCell _ _).setCell _ _).setCell _ _).setCell _ _).setCell _ _).setCell _ _).setCell _ _) = W9 at hT hO hB9 ⊢
    obtain ⟨e0, e1, e2, e3, e4, e5, e6, e7, e8⟩ := hT
    refine bodyPost_ret (v := .tuple #[txv { x with l := max x.l v.c, h := min x.h v.e } (.slice A4 (insR ⟨k, v.c⟩ R).length c4) (.slice A2' n2 c2'), .bool true]) (by simp [results, Try.results11, go_sem, e0, e1, e2, e3, e4, e5, e6, e7, e8]) rfl ?_
    unfold TrO
    rw [HE.out.1, HE.out.2, HQ.out]
    exact ⟨_, _, _, _, rfl, hO, hB9⟩
/-- a new list of reads in memory that was not there -/
theorem Bo.new7 {w w' : World} {base tb n c n2 c2 n' c' : Nat} {x : Hd} {A A2 A' : Option Addr} {R S R' : List E2} (h : Bo w base tb x A n c R A2 n2 c2 S) (ho : w'.ownsRow w.heap.size 37 2 (.slice A' n' c') n' (flat R')) (hb : Below w.heap.size w w') :
    Bx w' tb x (.slice A n c) (.slice A2 n2 c2) ∧ Bo (w'.setCell ⟨tb, 7, none⟩ (.slice A' n' c')) base tb x A' n' c' R' A2 n2 c2 S ∧ Below base w (w'.setCell ⟨tb, 7, none⟩ (.slice A' n' c')) :=
  h.put7 (own_more ho (Nat.le_trans h.le (Nat.le_of_lt h.lt))) ⟨hb.os, hb.tape, hb.output, hb.size, fun k hk _ => hb.block k hk⟩
section
variable {x : Hd} {R S : List E2} {k : Int} {v : Ver}
theorem tr_t (h : txB x R S = false) : false = trB x R S k v := by simp [trB, actB, h]
theorem tr_s (h : x.t ≠ 1) : false = trB x R S k v := by simp [trB, actB, h]
theorem tr_v (h : vB v.a v.b v.c v.d v.e = false) : false = trB x R S k v := by simp [trB, h]
theorem tr_l (h : R.length = 60) : false = trB x R S k v := by simp [trB, h]
theorem tr_y (h : txB x R S = true) (h1 : x.t = 1) (h2 : In 0 5 k = true) (h3 : vB v.a v.b v.c v.d v.e = true) (h4 : R.length ≠ 60) : trB x R S k v = true := by
  have := (tx_sq h).2
  simp [trB, actB, h, h1, h2, h3]
  omega
end
set_option maxRecDepth 100000 in
set_option maxHeartbeats 1600000 in
theorem spec_track {w : World} {B n c n2 c2 : Nat} {A A2 : Option Addr} {R S : List E2} (x : Hd) (k : Int) (v : Ver) (hn : n ≤ 1048576) (hn2 : n2 ≤ 1048576) (h1 : Vs w B A n R) (h2 : Vs w B A2 n2 S) (hB : B ≤ w.heap.size) (hc : n ≤ c) (hA : (A = none ∧ c = 0) ∨ ∃ b o, A = some ⟨b, o, none⟩) :
    Calls Try.prog 12 #[.agg #[.int .i64 x.i, .int .i64 x.s, .int .i64 x.t, .int .i64 x.b, .int .i64 x.l, .int .i64 x.h, .int .i64 x.c, .slice A n c, .slice A2 n2 c2], .int .i64 k, .agg #[.int .i64 v.a, .int .i64 v.b, .int .i64 v.c, .int .i64 v.d, .int .i64 v.e]] w (TrO x R S n2 k v w) := by
  have H1 := Lib.hid h1
  have H2 := Lib.hid h2
  have HA := Lib.hid hA
  have hln := h1.1
  clear h1 h2 hA
  go_enter Try.func12, Try.ntmps12
  go_wp2_with fail
  have hL := L3.mk3 w x A A2 n c n2 c2 v
  generalize ((w.alloc _).alloc _).alloc _ = W0 at hL ⊢
  have L0 := Lib.hid hL
  have hz0 := hL.size
  obtain ⟨t0, t1, t2, t3, t4, t5, t6, t7, t8⟩ := hL.tb
  clear hL
  try go_wp2_with fail
  refine (copy_m x (by omega) (by omega) (H1.out.below (below_le L0.out.bel hB)) (H2.out.below (below_le L0.out.bel hB)) (by omega)).mono ?_
  rintro e W1 ⟨u, u2, rfl, ho, hb⟩
  obtain ⟨A', c', rfl, _⟩ := own_vs ho.1 hln
  obtain ⟨A2', c2', rfl, _⟩ := own_vs ho.2 (by have := ho.2.1; rw [flat_len] at this; omega)
  have L1 := Lib.hid (L0.out.keep (below_le hb hz0))
  have O1 := Lib.hid (ho.more hz0)
  have hz1 := hb.size
  clear ho hb t0 t1 t2 t3 t4 t5 t6 t7 t8
  obtain ⟨t0, t1, t2, t3, t4, t5, t6, t7, t8⟩ := L1.out.tb
  have hlt0 : w.heap.size < W1.heap.size := by omega
  have hlt1 : w.heap.size + 1 < W1.heap.size := by omega
  go_wp2_with fail
  have bo2 : Bo (W1.alloc (.cells #[.int .i64 x.i, .int .i64 x.s, .int .i64 x.t, .int .i64 x.b, .int .i64 x.l, .int .i64 x.h, .int .i64 x.c, .slice A' n c', .slice A2' n2 c2'] 27)) (w.heap.size + 3) W1.heap.size x A' n c' R A2' n2 c2' S := ⟨Bx.new W1 x _ _, O1.out.keep (new1 W1 _), by omega⟩
  have l2 := L1.out.keep (below_le (new1 W1 (.cells #[.int .i64 x.i, .int .i64 x.s, .int .i64 x.t, .int .i64 x.b, .int .i64 x.l, .int .i64 x.h, .int .i64 x.c, .slice A' n c', .slice A2' n2 c2'] 27)) (by omega))
  have hz12 : W1.heap.size < (W1.alloc (.cells #[.int .i64 x.i, .int .i64 x.s, .int .i64 x.t, .int .i64 x.b, .int .i64 x.l, .int .i64 x.h, .int .i64 x.c, .slice A' n c', .slice A2' n2 c2'] 27)).heap.size := by simp
  generalize W1.alloc _ = W2 at bo2 l2 hz12 ⊢
  have L2 := Lib.hid l2
  have hz2 := l2.size
  have BO2 := Lib.hid bo2
  clear bo2 l2 t0 t1 t2 t3 t4 t5 t6 t7 t8
  refine (tvs.spec_tx x (by omega) (by omega) (H1.out.below (below_le L2.out.bel hB)) (H2.out.below (below_le L2.out.bel hB)) (by omega)).mono ?_
  rintro e W4 ⟨rfl, hb⟩
  have L4 := Lib.hid (L2.out.keep (below_le hb hz2))
  have BO4 := Lib.hid (BO2.out.keep hb)
  have hz4 := hb.size
  clear hb
  rcases hq : txB x R S with _ | _
  · have HT := Lib.hid hq
    clear hq
    have HQ : Hid (false = trB x R S k v) := Lib.hid (tr_t HT.out)
    have HE := Lib.hid (tr_no HQ.out.symm)
    obtain ⟨t0, t1, t2, t3, t4, t5, t6, t7, t8⟩ := BO4.out.bx.tb
    obtain ⟨z0, z1, z2, z3, z4, z5, z6, z7, z8⟩ := L4.out.rb.tb
    have y0 := L4.out.rb.fz 0
    have y1 := L4.out.rb.fz 1
    have y2 := L4.out.rb.fz 2
    have y3 := L4.out.rb.fz 3
    have y4 := L4.out.rb.fz 4
    have y5 := L4.out.rb.fz 5
    have y6 := L4.out.rb.fz 6
    have y7 := L4.out.rb.fz 7
    have y8 := L4.out.rb.fz 8
    go_wp2_with fail
    obtain ⟨hT, hO, hB9⟩ := give_back (w := w) (x := x) L4.out.rb BO4.out.own (by omega) (by omega) L4.out.bel (by omega)
    clear t0 t1 t2 t3 t4 t5 t6 t7 t8 z0 z1 z2 z3 z4 z5 z6 z7 z8 y0 y1 y2 y3 y4 y5 y6 y7 y8
    generalize (((((((((World.setCell _ _ _).setCell _ _).setCell _ _).setCell _ _).setCell _ _).setCell _ _).setCell _ _).setCell _ _).setCell _ _) = W9 at hT hO hB9 ⊢
    obtain ⟨e0, e1, e2, e3, e4, e5, e6, e7, e8⟩ := hT
    refine bodyPost_ret (v := .tuple #[txv x (.slice A' n c') (.slice A2' n2 c2'), .bool false]) (by simp [results, Try.results12, go_sem, e0, e1, e2, e3, e4, e5, e6, e7, e8]) rfl ?_
    unfold TrO
    rw [HE.out.1, HE.out.2, ← HQ.out, hln]
    exact ⟨_, _, _, _, rfl, hO, hB9⟩
  have HT := Lib.hid hq
  clear hq
  obtain ⟨t0, t1, t2, t3, t4, t5, t6, t7, t8⟩ := L4.out.tb
  clear t0 t1 t3 t4 t5 t6 t8
  by_cases hs : x.t = 1
  · have hs1 : (x.t != 1) = false := by simp [hs]
    have HSS := Lib.hid hs
    clear hs
    go_wp2_with fail
    refine (vers.in_range k 0 5 _).mono ?_
    rintro e W5 ⟨rfl, rfl⟩
    rcases hq : In 0 5 k with _ | _
    · have HK := Lib.hid hq
      clear hq
      have HQ : Hid (false = trB x R S k v) := Lib.hid (tr_c HK.out)
      have HE := Lib.hid (tr_no HQ.out.symm)
      obtain ⟨t0, t1, t2, t3, t4, t5, t6, t7, t8⟩ := BO4.out.bx.tb
      obtain ⟨z0, z1, z2, z3, z4, z5, z6, z7, z8⟩ := L4.out.rb.tb
      have y0 := L4.out.rb.fz 0
      have y1 := L4.out.rb.fz 1
      have y2 := L4.out.rb.fz 2
      have y3 := L4.out.rb.fz 3
      have y4 := L4.out.rb.fz 4
      have y5 := L4.out.rb.fz 5
      have y6 := L4.out.rb.fz 6
      have y7 := L4.out.rb.fz 7
      have y8 := L4.out.rb.fz 8
      go_wp2_with fail
      obtain ⟨hT, hO, hB9⟩ := give_back (w := w) (x := x) L4.out.rb BO4.out.own (by omega) (by omega) L4.out.bel (by omega)
      clear t0 t1 t2 t3 t4 t5 t6 t7 t8 z0 z1 z2 z3 z4 z5 z6 z7 z8 y0 y1 y2 y3 y4 y5 y6 y7 y8
      generalize (((((((((World.setCell _ _ _).setCell _ _).setCell _ _).setCell _ _).setCell _ _).setCell _ _).setCell _ _).setCell _ _).setCell _ _) = W9 at hT hO hB9 ⊢
      obtain ⟨e0, e1, e2, e3, e4, e5, e6, e7, e8⟩ := hT
      refine bodyPost_ret (v := .tuple #[txv x (.slice A' n c') (.slice A2' n2 c2'), .bool false]) (by simp [results, Try.results12, go_sem, e0, e1, e2, e3, e4, e5, e6, e7, e8]) rfl ?_
      unfold TrO
      rw [HE.out.1, HE.out.2, ← HQ.out, hln]
      exact ⟨_, _, _, _, rfl, hO, hB9⟩
    have HK := Lib.hid hq
    clear hq
    obtain ⟨v0, v1, v2, v3, v4⟩ := Go.Proofs.Ytajllccgfhminaa.ch.atFlat L4.out.vb
    go_wp2_with fail
    refine (vers.spec_version v.a v.b v.c v.d v.e _).mono ?_
    rintro e W5 ⟨rfl, hb⟩
    have L5 := Lib.hid (L4.out.keep (below_le hb (by omega)))
    have BO5 := Lib.hid (BO4.out.keep hb)
    have hz5 := hb.size
    clear hb v0 v1 v2 v3 v4 t2 t7
    obtain ⟨t0, t1, t2, t3, t4, t5, t6, t7, t8⟩ := L5.out.tb
    clear t0 t1 t2 t3 t4 t5 t6 t8
    rcases hq : vB v.a v.b v.c v.d v.e with _ | _
    · have HV := Lib.hid hq
      clear hq
      have HQ : Hid (false = trB x R S k v) := Lib.hid (tr_v HV.out)
      have HE := Lib.hid (tr_no HQ.out.symm)
      obtain ⟨t0, t1, t2, t3, t4, t5, t6, t7, t8⟩ := BO5.out.bx.tb
      obtain ⟨z0, z1, z2, z3, z4, z5, z6, z7, z8⟩ := L5.out.rb.tb
      have y0 := L5.out.rb.fz 0
      have y1 := L5.out.rb.fz 1
      have y2 := L5.out.rb.fz 2
      have y3 := L5.out.rb.fz 3
      have y4 := L5.out.rb.fz 4
      have y5 := L5.out.rb.fz 5
      have y6 := L5.out.rb.fz 6
      have y7 := L5.out.rb.fz 7
      have y8 := L5.out.rb.fz 8
      go_wp2_with fail
      obtain ⟨hT, hO, hB9⟩ := give_back (w := w) (x := x) L5.out.rb BO5.out.own (by omega) (by omega) L5.out.bel (by omega)
      clear t0 t1 t2 t3 t4 t5 t6 t7 t8 z0 z1 z2 z3 z4 z5 z6 z7 z8 y0 y1 y2 y3 y4 y5 y6 y7 y8
      generalize (((((((((World.setCell _ _ _).setCell _ _).setCell _ _).setCell _ _).setCell _ _).setCell _ _).setCell _ _).setCell _ _).setCell _ _) = W9 at hT hO hB9 ⊢
      obtain ⟨e0, e1, e2, e3, e4, e5, e6, e7, e8⟩ := hT
      refine bodyPost_ret (v := .tuple #[txv x (.slice A' n c') (.slice A2' n2 c2'), .bool false]) (by simp [results, Try.results12, go_sem, e0, e1, e2, e3, e4, e5, e6, e7, e8]) rfl ?_
      unfold TrO
      rw [HE.out.1, HE.out.2, ← HQ.out, hln]
      exact ⟨_, _, _, _, rfl, hO, hB9⟩
    have HV := Lib.hid hq
    clear hq
    by_cases hl : n = 60
    · have hl1 : ((n : Int) == 60) = true := by simp; omega
      have HLL : Hid (R.length = 60) := Lib.hid (by omega)
      clear hl
      have HQ : Hid (false = trB x R S k v) := Lib.hid (tr_l HLL.out)
      have HE := Lib.hid (tr_no HQ.out.symm)
      obtain ⟨t0, t1, t2, t3, t4, t5, t6, t7, t8⟩ := BO5.out.bx.tb
      obtain ⟨z0, z1, z2, z3, z4, z5, z6, z7, z8⟩ := L5.out.rb.tb
      have y0 := L5.out.rb.fz 0
      have y1 := L5.out.rb.fz 1
      have y2 := L5.out.rb.fz 2
      have y3 := L5.out.rb.fz 3
      have y4 := L5.out.rb.fz 4
      have y5 := L5.out.rb.fz 5
      have y6 := L5.out.rb.fz 6
      have y7 := L5.out.rb.fz 7
      have y8 := L5.out.rb.fz 8
      go_wp2_with fail
      obtain ⟨hT, hO, hB9⟩ := give_back (w := w) (x := x) L5.out.rb BO5.out.own (by omega) (by omega) L5.out.bel (by omega)
      clear t0 t1 t2 t3 t4 t5 t6 t7 t8 z0 z1 z2 z3 z4 z5 z6 z7 z8 y0 y1 y2 y3 y4 y5 y6 y7 y8
      generalize (((((((((World.setCell _ _ _).setCell _ _).setCell _ _).setCell _ _).setCell _ _).setCell _ _).setCell _ _).setCell _ _).setCell _ _) = W9 at hT hO hB9 ⊢
      obtain ⟨e0, e1, e2, e3, e4, e5, e6, e7, e8⟩ := hT
      refine bodyPost_ret (v := .tuple #[txv x (.slice A' n c') (.slice A2' n2 c2'), .bool false]) (by simp [results, Try.results12, go_sem, e0, e1, e2, e3, e4, e5, e6, e7, e8]) rfl ?_
      unfold TrO
      rw [HE.out.1, HE.out.2, ← HQ.out, hln]
      exact ⟨_, _, _, _, rfl, hO, hB9⟩
    have hl1 : ((n : Int) == 60) = false := by simp; omega
    have HQ : Hid (trB x R S k v = true) := Lib.hid (tr_y HT.out HSS.out HK.out HV.out (by omega))
    clear hl
    have HE := Lib.hid (tr_yes HQ.out)
    obtain ⟨v0, v1, v2, v3, v4⟩ := Go.Proofs.Ytajllccgfhminaa.ch.atFlat L5.out.vb
    go_wp2_with fail
    refine (put_r ⟨k, v.c⟩ hn hc HA.out (H1.out.below (below_le L5.out.bel hB)) (by omega)).mono ?_
    rintro e W6 ⟨A6, c6, rfl, ho, hb⟩
    obtain ⟨hx, hB7, hbl⟩ := Bo.new7 BO5.out ho hb
    have L6 := Lib.hid (L5.out.keep (below_le hb (by omega)))
    have hz6 := hb.size
    have o8 := (Off.refl W1.heap.size (W6.setCell ⟨W1.heap.size, 7, none⟩ (.slice A6 (insR ⟨k, v.c⟩ R).length c6))).setCell (p := ⟨W1.heap.size, 4, none⟩) rfl (.int .i64 (max x.l v.c))
    have o9 := o8.setCell (p := ⟨W1.heap.size, 5, none⟩) rfl (.int .i64 (min x.h v.e))
    have B9 := (hB7.put4 (max x.l v.c)).put5 (min x.h v.e)
    have l9 := L5.out.keep (hbl.trans (o9.below (by omega)))
    have hz7 := hbl.size
    have hz9 := o9.size
    have L9 := Lib.hid l9
    have BO9 := Lib.hid B9
    obtain ⟨d0, d1, d2, d3, d4, d5, d6, d7, d8⟩ := hx.tb
    have f4 := hx.fz 4
    have f5 := hx.fz 5
    have f7 := hx.fz 7
    clear ho hb hx hB7 hbl v0 v1 v2 v3 v4 t7 o8 o9 B9 l9
    obtain ⟨v0, v1, v2, v3, v4⟩ := Go.Proofs.Ytajllccgfhminaa.ch.atFlat L6.out.vb
    obtain ⟨t0, t1, t2, t3, t4, t5, t6, t7, t8⟩ := L6.out.tb
    clear t0 t1 t2 t3 t6 t7 t8
    obtain ⟨z0, z1, z2, z3, z4, z5, z6, z7, z8⟩ := L6.out.rb.tb
    have y0 := L6.out.rb.fz 0
    have y1 := L6.out.rb.fz 1
    have y2 := L6.out.rb.fz 2
    have y3 := L6.out.rb.fz 3
    have y4 := L6.out.rb.fz 4
    have y5 := L6.out.rb.fz 5
    have y6 := L6.out.rb.fz 6
    have y7 := L6.out.rb.fz 7
    have y8 := L6.out.rb.fz 8
    go_wp2_with fail
    obtain ⟨hT, hO, hB9⟩ := give_back (w := w) (x := { x with l := max x.l v.c, h := min x.h v.e }) L9.out.rb BO9.out.own (by omega) (by omega) L9.out.bel (by omega)
    clear t4 t5 z0 z1 z2 z3 z4 z5 z6 z7 z8 y0 y1 y2 y3 y4 y5 y6 y7 y8 d0 d1 d2 d3 d4 d5 d6 d7 d8 v0 v1 v2 v3 v4
    generalize (((((((((World.setCell _ _ _).setCell _ _).setCell _ _).setCell _ _).setCell _ _).setCell _ _).setCell _ _).setCell _ _).setCell _ _) = W10 at hT hO hB9 ⊢
    obtain ⟨e0, e1, e2, e3, e4, e5, e6, e7, e8⟩ := hT
    refine bodyPost_ret (v := .tuple #[txv { x with l := max x.l v.c, h := min x.h v.e } (.slice A6 (insR ⟨k, v.c⟩ R).length c6) (.slice A2' n2 c2'), .bool true]) (by simp [results, Try.results12, go_sem, e0, e1, e2, e3, e4, e5, e6, e7, e8]) rfl ?_
    unfold TrO
    rw [HE.out.1, HE.out.2, HQ.out]
    exact ⟨_, _, _, _, rfl, hO, hB9⟩
  · have hs1 : (x.t != 1) = true := by simp [hs]
    have HSS := Lib.hid hs
    clear hs
    have HQ : Hid (false = trB x R S k v) := Lib.hid (tr_s HSS.out)
    have HE := Lib.hid (tr_no HQ.out.symm)
    obtain ⟨t0, t1, t2, t3, t4, t5, t6, t7, t8⟩ := BO4.out.bx.tb
    obtain ⟨z0, z1, z2, z3, z4, z5, z6, z7, z8⟩ := L4.out.rb.tb
    have y0 := L4.out.rb.fz 0
    have y1 := L4.out.rb.fz 1
    have y2 := L4.out.rb.fz 2
    have y3 := L4.out.rb.fz 3
    have y4 := L4.out.rb.fz 4
    have y5 := L4.out.rb.fz 5
    have y6 := L4.out.rb.fz 6
    have y7 := L4.out.rb.fz 7
    have y8 := L4.out.rb.fz 8
    go_wp2_with fail
    obtain ⟨hT, hO, hB9⟩ := give_back (w := w) (x := x) L4.out.rb BO4.out.own (by omega) (by omega) L4.out.bel (by omega)
    clear t0 t1 t2 t3 t4 t5 t6 t7 t8 z0 z1 z2 z3 z4 z5 z6 z7 z8 y0 y1 y2 y3 y4 y5 y6 y7 y8
    generalize (((((((((World.setCell _ _ _).setCell _ _).setCell _ _).setCell _ _).setCell _ _).setCell _ _).setCell _ _).setCell _ _).setCell _ _) = W9 at hT hO hB9 ⊢
    obtain ⟨e0, e1, e2, e3, e4, e5, e6, e7, e8⟩ := hT
    refine bodyPost_ret (v := .tuple #[txv x (.slice A' n c') (.slice A2' n2 c2'), .bool false]) (by simp [results, Try.results12, go_sem, e0, e1, e2, e3, e4, e5, e6, e7, e8]) rfl ?_
    unfold TrO
    rw [HE.out.1, HE.out.2, ← HQ.out, hln]
    exact ⟨_, _, _, _, rfl, hO, hB9⟩
end Go.Proofs.Ytajllccgfhminaa.tk
