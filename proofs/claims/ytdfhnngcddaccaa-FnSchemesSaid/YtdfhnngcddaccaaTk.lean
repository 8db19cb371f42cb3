/- TrackRead of the program and of the model: what each answers, in memory of its own. -/
import Derived.Test.YtdfhnngcddaccaaAd
import Derived.Test.YtdfhnngcddaccaaPu
import Derived.Test.YtdfhnngcddaccaaTvs
import Derived.Test.YtdfhnngcddaccaaCh
namespace Go.Proofs.Ytdfhnngcddaccaa.tk
open Go.ChangeShapes Go.WideShapes Go.ChangeAt Go.RowKit
open Go.Proofs.Ytdfhnngcddaccaa.el2 Go.Proofs.Ytdfhnngcddaccaa.tx Go.Proofs.Ytdfhnngcddaccaa.seq Go.Proofs.Ytdfhnngcddaccaa.tv Go.Proofs.Ytdfhnngcddaccaa.tf Go.Proofs.Ytdfhnngcddaccaa.ap Go.Proofs.Ytdfhnngcddaccaa.bx Go.Proofs.Ytdfhnngcddaccaa.cl Go.Proofs.Ytdfhnngcddaccaa.lc Go.Proofs.Ytdfhnngcddaccaa.ro Go.Proofs.Ytdfhnngcddaccaa.ao Go.Proofs.Ytdfhnngcddaccaa.ins Go.Proofs.Ytdfhnngcddaccaa.pu Go.Proofs.Ytdfhnngcddaccaa.ad
open Go.Proofs.Ytdfhnngcddaccaa.vers (new2 new3 In vB ret_b)
open Go.Proofs.Ytdfhnngcddaccaa.sl (Ver)
set_option linter.unusedVariables false
set_option linter.unusedSimpArgs false
noncomputable def actB (x : Hd) (R S : List E2) : Bool := txB x R S && decide (x.t = 1)
noncomputable def trB (x : Hd) (R S : List E2) (k : Int) (v : Ver) : Bool := actB x R S && decide (R.length < 60) && In 0 5 k && vB v.a v.b v.c v.d v.e
noncomputable def trX (x : Hd) (R S : List E2) (k : Int) (v : Ver) : Hd := if trB x R S k v = true then { x with l := max x.l v.c, h := min x.h v.e } else x
noncomputable def trR (x : Hd) (R S : List E2) (k : Int) (v : Ver) : List E2 := if trB x R S k v = true then insR ⟨k, v.c⟩ R else R
/-- what TrackRead hands back -/
def TrO (x : Hd) (R S : List E2) (n2 : Nat) (k : Int) (v : Ver) (w : World) (e : Ending) (w' : World) : Prop :=
  ∃ A' c' A2' c2', e = .returned (.tuple #[txv (trX x R S k v) (.slice A' (trR x R S k v).length c') (.slice A2' n2 c2'), .bool (trB x R S k v)]) ∧ OwnT w' w.heap.size (.slice A' (trR x R S k v).length c') (trR x R S k v).length (trR x R S k v) (.slice A2' n2 c2') n2 S ∧ Below w.heap.size w w'
section
variable {x : Hd} {R S : List E2} {k : Int} {v : Ver}
theorem tr_yes (h : trB x R S k v = true) : trX x R S k v = { x with l := max x.l v.c, h := min x.h v.e } ∧ trR x R S k v = insR ⟨k, v.c⟩ R := ⟨if_pos h, if_pos h⟩
theorem tr_no (h : trB x R S k v = false) : trX x R S k v = x ∧ trR x R S k v = R := ⟨if_neg (by simp [h]), if_neg (by simp [h])⟩
theorem ver_off {w w' : World} {b o : Nat} {x : Ver} (h : Go.Proofs.Ytdfhnngcddaccaa.sl.At w b o x) (hk : w'.heap[b]? = w.heap[b]?) : Go.Proofs.Ytdfhnngcddaccaa.sl.At w' b o x :=
  ⟨(World.cell?_of_block (w := w) (a := ⟨b, o, none⟩) hk).trans h.1, (World.cell?_of_block (w := w) (a := ⟨b, o + 1, none⟩) hk).trans h.2.1, (World.cell?_of_block (w := w) (a := ⟨b, o + 2, none⟩) hk).trans h.2.2.1, (World.cell?_of_block (w := w) (a := ⟨b, o + 3, none⟩) hk).trans h.2.2.2.1, (World.cell?_of_block (w := w) (a := ⟨b, o + 4, none⟩) hk).trans h.2.2.2.2⟩
theorem trR_len (x : Hd) (R S : List E2) (k : Int) (v : Ver) : (trR x R S k v).length ≤ R.length + 1 := by
  unfold trR
  split
  · exact ins_len
  · omega
theorem act_t (h : txB x R S = true) : decide (x.t = 1) = actB x R S := by simp [actB, h]
theorem act_f (h : txB x R S = false) : false = actB x R S := by simp [actB, h]
theorem tr_a (h : actB x R S = false) : false = trB x R S k v := by simp [trB, h]
theorem tr_b (h : ¬ R.length < 60) : false = trB x R S k v := by simp [trB, h]
theorem tr_c (h : In 0 5 k = false) : false = trB x R S k v := by simp [trB, h]
theorem tr_d (h : actB x R S = true) (h2 : R.length < 60) (h3 : In 0 5 k = true) : vB v.a v.b v.c v.d v.e = trB x R S k v := by simp [trB, h, h2, h3]
theorem tr_all (h : trB x R S k v = true) : txB x R S = true ∧ x.t = 1 ∧ R.length < 60 ∧ In 0 5 k = true ∧ vB v.a v.b v.c v.d v.e = true := by
  simp only [trB, actB, Bool.and_eq_true, decide_eq_true_eq] at h
  exact ⟨h.1.1.1.1, h.1.1.1.2, h.1.1.2, h.1.2, h.2⟩
theorem trR_max (x : Hd) (R S : List E2) (k : Int) (v : Ver) : (trR x R S k v).length ≤ R.length ∨ (trR x R S k v).length ≤ 61 := by
  by_cases h : trB x R S k v = true
  · have h60 := (tr_all h).2.2.1
    have hl := trR_len x R S k v
    omega
  · rw [(tr_no (Bool.eq_false_iff.2 h)).2]
    exact .inl (Nat.le_refl _)
theorem tx_sq (h : txB x R S = true) : SqP okR folR R ∧ R.length ≤ 60 := by
  simp only [txB, rdB, Bool.and_eq_true, decide_eq_true_eq] at h
  exact ⟨sq_of h.1.2.2, h.1.2.1⟩
end
set_option maxRecDepth 100000 in
set_option maxHeartbeats 1600000 in
theorem impl_active {w : World} {B n c n2 c2 : Nat} {A A2 : Option Addr} {R S : List E2} (x : Hd) (hn : n ≤ 1048576) (hn2 : n2 ≤ 1048576) (h1 : Vs w B A n R) (h2 : Vs w B A2 n2 S) (hB : B ≤ w.heap.size) :
    Calls Try.prog 40 #[.agg #[.int .i64 x.i, .int .i64 x.s, .int .i64 x.t, .int .i64 x.b, .int .i64 x.l, .int .i64 x.h, .int .i64 x.c, .slice A n c, .slice A2 n2 c2]] w fun e w' => e = .returned (.bool (actB x R S)) ∧ Below w.heap.size w w' := by
  have H1 := Lib.hid h1
  have H2 := Lib.hid h2
  clear h1 h2
  go_enter Try.func40, Try.ntmps40
  go_wp2_with fail
  have hb := new1 w (.cells #[.int .i64 x.i, .int .i64 x.s, .int .i64 x.t, .int .i64 x.b, .int .i64 x.l, .int .i64 x.h, .int .i64 x.c, .slice A n c, .slice A2 n2 c2] 30)
  have tb := TB.new w x A n c A2 n2 c2 30
  have hs : (w.alloc (.cells #[.int .i64 x.i, .int .i64 x.s, .int .i64 x.t, .int .i64 x.b, .int .i64 x.l, .int .i64 x.h, .int .i64 x.c, .slice A n c, .slice A2 n2 c2] 30)).heap.size = w.heap.size + 1 := by simp
  generalize w.alloc _ = W0 at hb tb hs ⊢
  have HB0 := Lib.hid hb
  have HT0 := Lib.hid tb
  obtain ⟨t0, t1, t2, t3, t4, t5, t6, t7, t8⟩ := tb
  clear hb
  go_wp2_with fail
  refine (impl_tx x (by omega) (by omega) (H1.out.below (below_le HB0.out hB)) (H2.out.below (below_le HB0.out hB)) (by omega)).mono ?_
  rintro e W1 ⟨rfl, hb1⟩
  clear t0 t1 t2 t3 t4 t5 t6 t7 t8
  obtain ⟨t0, t1, t2, t3, t4, t5, t6, t7, t8⟩ := HT0.out.keep (by omega) hb1
  have HB1 := Lib.hid (HB0.out.trans (hb1.mono (by omega)))
  clear hb1 t0 t1 t3 t4 t5 t6 t7 t8
  rcases hq : txB x R S with _ | _
  · have HQ := Lib.hid hq
    clear hq
    go_wp2_with fail
    go_ret
    exact ⟨ret_b (act_f HQ.out), HB1.out⟩
  · have HQ := Lib.hid hq
    clear hq
    go_wp2_with fail
    go_ret
    exact ⟨ret_b (by rw [← act_t HQ.out, Bool.eq_iff_iff]; simp), HB1.out⟩
/-- the boxes of a transaction, of a version and of the result -/
structure L3 (w : World) (x : Hd) (u1 u2 : Value) (v : Ver) (W : World) : Prop where
  bel : Below w.heap.size w W
  size : w.heap.size + 3 ≤ W.heap.size
  tb : TB W w.heap.size x u1 u2
  vb : Go.Proofs.Ytdfhnngcddaccaa.sl.At W (w.heap.size + 1) 0 v
  rb : Bx W (w.heap.size + 2) ⟨0, 0, 0, 0, 0, 0, 0⟩ (.slice none 0 0) (.slice none 0 0)
theorem L3.keep {w W W' : World} {x : Hd} {u1 u2 : Value} {v : Ver} (h : L3 w x u1 u2 v W) (hb : Below (w.heap.size + 3) W W') : L3 w x u1 u2 v W' :=
  ⟨h.bel.trans (hb.mono (by omega)), Nat.le_trans h.size hb.size, h.tb.keep (by omega) hb, h.vb.keep (by omega) hb, h.rb.keep hb (by omega)⟩
theorem L3.mk3 (w : World) (x : Hd) (A A2 : Option Addr) (n c n2 c2 : Nat) (v : Ver) : L3 w x (.slice A n c) (.slice A2 n2 c2) v (((w.alloc (.cells #[.int .i64 x.i, .int .i64 x.s, .int .i64 x.t, .int .i64 x.b, .int .i64 x.l, .int .i64 x.h, .int .i64 x.c, .slice A n c, .slice A2 n2 c2] 30)).alloc (.cells #[.int .i64 v.a, .int .i64 v.b, .int .i64 v.c, .int .i64 v.d, .int .i64 v.e] 34)).alloc (.cells #[.int .i64 0, .int .i64 0, .int .i64 0, .int .i64 0, .int .i64 0, .int .i64 0, .int .i64 0, .slice none 0 0, .slice none 0 0] 30)) where
  bel := new3 _ _ _ _
  size := by simp
  tb := ((TB.new w x A n c A2 n2 c2 30).keep (B := w.heap.size + 1) (by omega) (below_le (new1 (w.alloc (.cells #[.int .i64 x.i, .int .i64 x.s, .int .i64 x.t, .int .i64 x.b, .int .i64 x.l, .int .i64 x.h, .int .i64 x.c, .slice A n c, .slice A2 n2 c2] 30)) (.cells #[.int .i64 v.a, .int .i64 v.b, .int .i64 v.c, .int .i64 v.d, .int .i64 v.e] 34)) (by simp))).keep (B := w.heap.size + 1) (by omega) (below_le (new1 ((w.alloc (.cells #[.int .i64 x.i, .int .i64 x.s, .int .i64 x.t, .int .i64 x.b, .int .i64 x.l, .int .i64 x.h, .int .i64 x.c, .slice A n c, .slice A2 n2 c2] 30)).alloc (.cells #[.int .i64 v.a, .int .i64 v.b, .int .i64 v.c, .int .i64 v.d, .int .i64 v.e] 34)) (.cells #[.int .i64 0, .int .i64 0, .int .i64 0, .int .i64 0, .int .i64 0, .int .i64 0, .int .i64 0, .slice none 0 0, .slice none 0 0] 30)) (by simp))
  vb := by
    have h := (Go.Proofs.Ytdfhnngcddaccaa.ch.boxed (w.alloc (.cells #[.int .i64 x.i, .int .i64 x.s, .int .i64 x.t, .int .i64 x.b, .int .i64 x.l, .int .i64 x.h, .int .i64 x.c, .slice A n c, .slice A2 n2 c2] 30)) v 34).keep (B := w.heap.size + 2) (by simp) (below_le (new1 ((w.alloc (.cells #[.int .i64 x.i, .int .i64 x.s, .int .i64 x.t, .int .i64 x.b, .int .i64 x.l, .int .i64 x.h, .int .i64 x.c, .slice A n c, .slice A2 n2 c2] 30)).alloc (.cells #[.int .i64 v.a, .int .i64 v.b, .int .i64 v.c, .int .i64 v.d, .int .i64 v.e] 34)) (.cells #[.int .i64 0, .int .i64 0, .int .i64 0, .int .i64 0, .int .i64 0, .int .i64 0, .int .i64 0, .slice none 0 0, .slice none 0 0] 30)) (by simp))
    rw [show (w.alloc (.cells #[.int .i64 x.i, .int .i64 x.s, .int .i64 x.t, .int .i64 x.b, .int .i64 x.l, .int .i64 x.h, .int .i64 x.c, .slice A n c, .slice A2 n2 c2] 30)).heap.size = w.heap.size + 1 by simp] at h
    exact h
  rb := by
    have h := Bx.zero ((w.alloc (.cells #[.int .i64 x.i, .int .i64 x.s, .int .i64 x.t, .int .i64 x.b, .int .i64 x.l, .int .i64 x.h, .int .i64 x.c, .slice A n c, .slice A2 n2 c2] 30)).alloc (.cells #[.int .i64 v.a, .int .i64 v.b, .int .i64 v.c, .int .i64 v.d, .int .i64 v.e] 34))
    rw [show ((w.alloc (.cells #[.int .i64 x.i, .int .i64 x.s, .int .i64 x.t, .int .i64 x.b, .int .i64 x.l, .int .i64 x.h, .int .i64 x.c, .slice A n c, .slice A2 n2 c2] 30)).alloc (.cells #[.int .i64 v.a, .int .i64 v.b, .int .i64 v.c, .int .i64 v.d, .int .i64 v.e] 34)).heap.size = w.heap.size + 2 by simp] at h
    exact h
/-- a new list of reads in memory that was not there -/
theorem Bo.new7 {w w' : World} {base tb n c n2 c2 n' c' : Nat} {x : Hd} {A A2 A' : Option Addr} {R S R' : List E2} (h : Bo w base tb x A n c R A2 n2 c2 S) (ho : w'.ownsRow w.heap.size 125 2 (.slice A' n' c') n' (flat R')) (hb : Below w.heap.size w w') :
    Bx w' tb x (.slice A n c) (.slice A2 n2 c2) ∧ Bo (w'.setCell ⟨tb, 7, none⟩ (.slice A' n' c')) base tb x A' n' c' R' A2 n2 c2 S ∧ Below base w (w'.setCell ⟨tb, 7, none⟩ (.slice A' n' c')) :=
  h.put7 (own_more ho (Nat.le_trans h.le (Nat.le_of_lt h.lt))) ⟨hb.os, hb.tape, hb.output, hb.size, fun k hk _ => hb.block k hk⟩
section
variable {x : Hd} {R S : List E2} {k : Int} {v : Ver}
theorem tr_t (h : txB x R S = false) : false = trB x R S k v := by simp [trB, actB, h]
theorem tr_s (h : x.t ≠ 1) : false = trB x R S k v := by simp [trB, actB, h]
theorem tr_v (h : vB v.a v.b v.c v.d v.e = false) : false = trB x R S k v := by simp [trB, h]
theorem tr_l (h : R.length = 60) : false = trB x R S k v := by simp [trB, h]
theorem tr_y (h : txB x R S = true) (h1 : x.t = 1) (h2 : In 0 5 k = true) (h3 : vB v.a v.b v.c v.d v.e = true) (h4 : R.length ≠ 60) : trB x R S k v = true := by
  have := (tx_sq h).2
  simp [trB, actB, h, h1, h2, h3]
  omega
end
end Go.Proofs.Ytdfhnngcddaccaa.tk
