/- TrackWrite of the program and of the model: what each answers, in memory of its own. -/
import Derived.Test.YtajllccgfhminaaMs
import Derived.Test.YtajllccgfhminaaSf
import Derived.Test.YtajllccgfhminaaRd
import Derived.Test.YtajllccgfhminaaRl
namespace Go.Proofs.Ytajllccgfhminaa.tw
open Go.ChangeShapes Go.WideShapes Go.ChangeAt Go.RowKit
open Go.Proofs.Ytajllccgfhminaa.el2 Go.Proofs.Ytajllccgfhminaa.tx Go.Proofs.Ytajllccgfhminaa.seq Go.Proofs.Ytajllccgfhminaa.tv Go.Proofs.Ytajllccgfhminaa.tf Go.Proofs.Ytajllccgfhminaa.ap Go.Proofs.Ytajllccgfhminaa.bx Go.Proofs.Ytajllccgfhminaa.cl Go.Proofs.Ytajllccgfhminaa.lc Go.Proofs.Ytajllccgfhminaa.ad Go.Proofs.Ytajllccgfhminaa.tk Go.Proofs.Ytajllccgfhminaa.sf Go.Proofs.Ytajllccgfhminaa.pw Go.Proofs.Ytajllccgfhminaa.mw Go.Proofs.Ytajllccgfhminaa.rl
open Go.Proofs.Ytajllccgfhminaa.vers (new2 new3 In)
open Go.Proofs.Ytajllccgfhminaa.sl (Ver)
open Go.Proofs.Ytajllccgfhminaa.st (Rs)
open Go.Proofs.Ytajllccgfhminaa.val (stB)
open Go.Proofs.Ytajllccgfhminaa.rd (rlB rlV)
set_option linter.unusedVariables false
set_option linter.unusedSimpArgs false
noncomputable def twB (C : List (List Ver)) (x : Hd) (R S : List E2) (k v : Int) : Bool := rlB C k && actB x R S && In (-1) 99 v
noncomputable def twX (C : List (List Ver)) (x : Hd) (R S : List E2) (k v : Int) : Hd := if twB C x R S k v = true then { x with l := max x.l (rlV C k).d } else x
noncomputable def twS (C : List (List Ver)) (x : Hd) (R S : List E2) (k v : Int) : List E2 := if twB C x R S k v = true then insW ⟨k, v⟩ S else S
/-- what TrackWrite hands back -/
def TwO (C : List (List Ver)) (x : Hd) (n : Nat) (R S : List E2) (k v : Int) (w : World) (e : Ending) (w' : World) : Prop :=
  ∃ A' c' A2' c2', e = .returned (.tuple #[txv (twX C x R S k v) (.slice A' n c') (.slice A2' (twS C x R S k v).length c2'), .bool (twB C x R S k v)]) ∧ OwnT w' w.heap.size (.slice A' n c') n R (.slice A2' (twS C x R S k v).length c2') (twS C x R S k v).length (twS C x R S k v) ∧ Below w.heap.size w w'
section
variable {C : List (List Ver)} {x : Hd} {R S : List E2} {k v : Int}
theorem tw_yes (h : twB C x R S k v = true) : twX C x R S k v = { x with l := max x.l (rlV C k).d } ∧ twS C x R S k v = insW ⟨k, v⟩ S := ⟨if_pos h, if_pos h⟩
theorem tw_no (h : twB C x R S k v = false) : twX C x R S k v = x ∧ twS C x R S k v = S := ⟨if_neg (by simp [h]), if_neg (by simp [h])⟩
theorem tw_r (h : rlB C k = false) : twB C x R S k v = false := by simp [twB, h]
theorem tw_a (h : actB x R S = false) : twB C x R S k v = false := by simp [twB, h]
theorem tw_v (h : In (-1) 99 v = false) : twB C x R S k v = false := by simp [twB, h]
theorem tw_s (h : stB C = false) : twB C x R S k v = false := by simp [twB, rlB, h]
theorem tw_t (h : txB x R S = false) : twB C x R S k v = false := by simp [twB, actB, h]
theorem tw_n (h : x.t ≠ 1) : twB C x R S k v = false := by simp [twB, actB, h]
theorem tw_k (h : In 0 5 k = false) : twB C x R S k v = false := by simp [twB, rlB, h]
theorem tw_y (h : rlB C k = true) (h1 : actB x R S = true) (h2 : In (-1) 99 v = true) : twB C x R S k v = true := by simp [twB, h, h1, h2]
theorem tw_y2 (hs : stB C = true) (ht : txB x R S = true) (h1 : x.t = 1) (hk : In 0 5 k = true) (h2 : In (-1) 99 v = true) : twB C x R S k v = true := by simp [twB, rlB, actB, hs, ht, h1, hk, h2]
theorem rl_y (hs : stB C = true) (hk : In 0 5 k = true) : rlB C k = true := by simp [rlB, hs, hk]
theorem act_tx (h : actB x R S = true) : txB x R S = true := by simp only [actB, Bool.and_eq_true] at h; exact h.1
theorem in_lo {a b z : Int} (h : In a b z = true) : a ≤ z ∧ z ≤ b := by simpa [In] using h
theorem okW_in {m : E2} (h : okW m = true) : 0 ≤ m.a ∧ m.a ≤ 5 ∧ -1 ≤ m.b ∧ m.b ≤ 99 := by
  simp only [okW, Bool.and_eq_true] at h
  have h1 := in_lo h.1
  have h2 := in_lo h.2
  omega
theorem tx_in (h : txB x R S = true) {j : Nat} {m : E2} (hm : S[j]? = some m) : 0 ≤ m.a ∧ m.a ≤ 5 ∧ -1 ≤ m.b ∧ m.b ≤ 99 := okW_in ((sq_of (tx_wr h)).1 j m hm)
theorem asc_adj : ∀ {l : List E2}, (∀ (j : Nat) (a b : E2), l[j]? = some a → l[j + 1]? = some b → a.a < b.a) → Asc l
  | [], _ => List.Pairwise.nil
  | [a], _ => List.pairwise_singleton _ _
  | a :: b :: r, h => by
    have ih : Asc (b :: r) := asc_adj fun j p q hp hq => h (j + 1) p q (by simpa using hp) (by simpa using hq)
    have hab := h 0 a b (by simp) (by simp)
    refine List.pairwise_cons.2 ⟨fun z hz => ?_, ih⟩
    rcases List.mem_cons.1 hz with e | hz
    · subst e; exact hab
    · have := (List.pairwise_cons.1 ih).1 z hz; omega
theorem tx_asc (h : txB x R S = true) : Asc S := asc_adj fun j a b ha hb => by
  have := (sq_of (tx_wr h)).2 j a b ha hb
  simpa [folW] using this
theorem asc_len : ∀ (l : List E2) (lo : Int), Asc l → (∀ m ∈ l, lo ≤ m.a ∧ m.a ≤ 5) → (l.length : Int) ≤ max 0 (6 - lo)
  | [], lo, _, _ => by simp; omega
  | a :: r, lo, ha, hm => by
    obtain ⟨h1, h2⟩ := List.pairwise_cons.1 ha
    have hl := hm a (by simp)
    have ih := asc_len r (a.a + 1) h2 fun m hmr => by have := h1 m hmr; have := hm m (List.mem_cons_of_mem _ hmr); omega
    simp only [List.length_cons]
    omega
theorem tx_six (h : txB x R S = true) : S.length ≤ 6 := by
  have := asc_len S 0 (tx_asc h) fun m hm => by
    obtain ⟨j, hj, e⟩ := List.getElem_of_mem hm
    have := tx_in h (j := j) (m := m) (by rw [List.getElem?_eq_getElem hj, e])
    omega
  omega
end
/-- the boxes of a store, of a transaction and of the result -/
structure LZ (w : World) (sv : Value) (x : Hd) (u1 u2 : Value) (W : World) : Prop where
  bel : Below w.heap.size w W
  size : w.heap.size + 3 ≤ W.heap.size
  st : W.cell? ⟨w.heap.size, 0, none⟩ = some sv
  tb : TB W (w.heap.size + 1) x u1 u2
  rb : Bx W (w.heap.size + 2) ⟨0, 0, 0, 0, 0, 0, 0⟩ (.slice none 0 0) (.slice none 0 0)
theorem LZ.keep {w W W' : World} {x : Hd} {u1 u2 sv : Value} (h : LZ w sv x u1 u2 W) (hb : Below (w.heap.size + 3) W W') : LZ w sv x u1 u2 W' :=
  ⟨h.bel.trans (hb.mono (by omega)), Nat.le_trans h.size hb.size, (hb.cell (p := ⟨w.heap.size, 0, none⟩) (by simp only; omega)).trans h.st, h.tb.keep (by omega) hb, h.rb.keep hb (by omega)⟩
theorem LZ.call {w W W' : World} {x : Hd} {u1 u2 sv : Value} (h : LZ w sv x u1 u2 W) (hb : Below W.heap.size W W') : LZ w sv x u1 u2 W' := h.keep (below_le hb h.size)
theorem LZ.mk3 (w : World) (x : Hd) (A A2 D : Option Addr) (n c n2 c2 N cN : Nat) : LZ w (.slice D N cN) x (.slice A n c) (.slice A2 n2 c2) (((w.alloc (.cells #[.slice D N cN] 40)).alloc (.cells #[.int .i64 x.i, .int .i64 x.s, .int .i64 x.t, .int .i64 x.b, .int .i64 x.l, .int .i64 x.h, .int .i64 x.c, .slice A n c, .slice A2 n2 c2] 27)).alloc (.cells #[.int .i64 0, .int .i64 0, .int .i64 0, .int .i64 0, .int .i64 0, .int .i64 0, .int .i64 0, .slice none 0 0, .slice none 0 0] 27)) where
  bel := new3 _ _ _ _
  size := by simp
  st := by
    have h := st.up (.cells #[.int .i64 x.i, .int .i64 x.s, .int .i64 x.t, .int .i64 x.b, .int .i64 x.l, .int .i64 x.h, .int .i64 x.c, .slice A n c, .slice A2 n2 c2] 27) (st.one_cell w (.slice D N cN) 40) (by simp)
    exact st.up _ h (by simp; omega)
  tb := by
    have h := (TB.new (w.alloc (.cells #[.slice D N cN] 40)) x A n c A2 n2 c2 27).keep (B := w.heap.size + 2) (by simp) (below_le (new1 ((w.alloc (.cells #[.slice D N cN] 40)).alloc (.cells #[.int .i64 x.i, .int .i64 x.s, .int .i64 x.t, .int .i64 x.b, .int .i64 x.l, .int .i64 x.h, .int .i64 x.c, .slice A n c, .slice A2 n2 c2] 27)) (.cells #[.int .i64 0, .int .i64 0, .int .i64 0, .int .i64 0, .int .i64 0, .int .i64 0, .int .i64 0, .slice none 0 0, .slice none 0 0] 27)) (by simp))
    simpa using h
  rb := by
    have h := Bx.zero ((w.alloc (.cells #[.slice D N cN] 40)).alloc (.cells #[.int .i64 x.i, .int .i64 x.s, .int .i64 x.t, .int .i64 x.b, .int .i64 x.l, .int .i64 x.h, .int .i64 x.c, .slice A n c, .slice A2 n2 c2] 27))
    rw [show ((w.alloc (.cells #[.slice D N cN] 40)).alloc (.cells #[.int .i64 x.i, .int .i64 x.s, .int .i64 x.t, .int .i64 x.b, .int .i64 x.l, .int .i64 x.h, .int .i64 x.c, .slice A n c, .slice A2 n2 c2] 27)).heap.size = w.heap.size + 2 by simp] at h
    exact h
set_option maxRecDepth 100000 in
set_option maxHeartbeats 6400000 in
theorem impl_tw {w : World} {B n c n2 c2 N cN : Nat} {A A2 D : Option Addr} {R S : List E2} {C : List (List Ver)} (x : Hd) (k v : Int) (hn : n ≤ 1048576) (hn2 : n2 ≤ 1048576) (hN : N ≤ 1048576) (h1 : Vs w B A n R) (h2 : Vs w B A2 n2 S) (h3 : Rs w B D N C) (hB : B ≤ w.heap.size) :
    Calls Try.prog 24 #[.agg #[.slice D N cN], .agg #[.int .i64 x.i, .int .i64 x.s, .int .i64 x.t, .int .i64 x.b, .int .i64 x.l, .int .i64 x.h, .int .i64 x.c, .slice A n c, .slice A2 n2 c2], .int .i64 k, .int .i64 v] w (TwO C x n R S k v w) := by
  have H1 := Lib.hid h1
  have H2 := Lib.hid h2
  have H3 := Lib.hid h3
  have hln := h1.1
  have hln2 := h2.1
  clear h1 h2 h3
  go_enter Try.func24, Try.ntmps24
  go_wp2_with fail
  have hL := LZ.mk3 w x A A2 D n c n2 c2 N cN
  generalize ((w.alloc _).alloc _).alloc _ = W0 at hL ⊢
  have L0 := Lib.hid hL
  have hz0 := hL.size
  obtain ⟨t0, t1, t2, t3, t4, t5, t6, t7, t8⟩ := hL.tb
  clear hL
  try go_wp2_with fail
  refine (copy_t x (by omega) (by omega) (H1.out.below (below_le L0.out.bel hB)) (H2.out.below (below_le L0.out.bel hB)) (by omega)).mono ?_
  rintro e W1 ⟨u, u2, rfl, ho, hb⟩
  obtain ⟨A', c', rfl, _⟩ := own_vs ho.1 hln
  obtain ⟨A2', c2', rfl, _⟩ := own_vs ho.2 hln2
  have L1 := Lib.hid (L0.out.call hb)
  have O1 := Lib.hid (ho.more hz0)
  have hz1 := hb.size
  clear ho hb t0 t1 t2 t3 t4 t5 t6 t7 t8
  obtain ⟨t0, t1, t2, t3, t4, t5, t6, t7, t8⟩ := L1.out.tb
  have c0 := L1.out.st
  have hlt0 : w.heap.size < W1.heap.size := by omega
  have hlt1 : w.heap.size + 1 < W1.heap.size := by omega
  go_wp2_with fail
  have bo2 : Bo (W1.alloc (.cells #[.int .i64 x.i, .int .i64 x.s, .int .i64 x.t, .int .i64 x.b, .int .i64 x.l, .int .i64 x.h, .int .i64 x.c, (.slice A' n c'), (.slice A2' n2 c2')] 27)) (w.heap.size + 3) W1.heap.size x A' n c' R A2' n2 c2' S := ⟨Bx.new W1 x _ _, O1.out.keep (new1 W1 _), by omega⟩
  have l2 := L1.out.call (new1 W1 (.cells #[.int .i64 x.i, .int .i64 x.s, .int .i64 x.t, .int .i64 x.b, .int .i64 x.l, .int .i64 x.h, .int .i64 x.c, (.slice A' n c'), (.slice A2' n2 c2')] 27))
  generalize htb : W1.heap.size = tb at bo2 ⊢
  generalize W1.alloc _ = W2 at bo2 l2 ⊢
  have L2 := Lib.hid l2
  have hz2 := l2.size
  have BO2 := Lib.hid bo2
  have htw : w.heap.size + 3 ≤ tb := by omega
  clear bo2 l2 t0 t1 t2 t3 t4 t5 t6 t7 t8 c0 hlt0 hlt1 hz1 htb
  have c0 := L2.out.st
  try go_wp2_with fail
  obtain ⟨z, hz⟩ : ∃ z, rlV C k = z := ⟨_, rfl⟩
  obtain ⟨q, hq⟩ : ∃ q, rlB C k = q := ⟨_, rfl⟩
  refine (Go.Proofs.Ytajllccgfhminaa.rd.impl_latest k hz hq (by omega) (H3.out.below (below_le L2.out.bel hB)) (by omega)).mono ?_
  rintro e W3 ⟨rfl, hb⟩
  have L3 := Lib.hid (L2.out.call hb)
  have BO3 := Lib.hid (BO2.out.keep hb)
  have hz3 := hb.size
  clear hb
  clear c0
  cases q
  · have HQ : Hid (twB C x R S k v = false) := Lib.hid (tw_r hq)
    clear hq
    have HZ := Lib.hid hz
    have hnv := new1 W3 (.cells #[.int .i64 z.a, .int .i64 z.b, .int .i64 z.c, .int .i64 z.d, .int .i64 z.e] 29)
    have vb := Go.Proofs.Ytajllccgfhminaa.ch.boxed W3 z 29
    have l3 := L3.out.call hnv
    have bo3 := BO3.out.keep hnv
    have hlt3 : W3.heap.size < (W3.alloc (.cells #[.int .i64 z.a, .int .i64 z.b, .int .i64 z.c, .int .i64 z.d, .int .i64 z.e] 29)).heap.size := by simp
    clear hz hnv
    have L4 := Lib.hid l3
    have BO4 := Lib.hid bo3
    have hz4 := l3.size
    clear l3 bo3 vb
    have HE := Lib.hid (tw_no HQ.out)
    obtain ⟨t0, t1, t2, t3, t4, t5, t6, t7, t8⟩ := BO4.out.bx.tb
    obtain ⟨z0, z1, z2, z3, z4, z5, z6, z7, z8⟩ := L4.out.rb.tb
    have y0 := L4.out.rb.fz 0
    have y1 := L4.out.rb.fz 1
    have y2 := L4.out.rb.fz 2
    have y3 := L4.out.rb.fz 3
    have y4 := L4.out.rb.fz 4
    have y5 := L4.out.rb.fz 5
    have y6 := L4.out.rb.fz 6
    have y7 := L4.out.rb.fz 7
    have y8 := L4.out.rb.fz 8
    go_wp2_with fail
    obtain ⟨hT, hO, hB9⟩ := give_back (w := w) (x := x) L4.out.rb BO4.out.own (by omega) (by omega) L4.out.bel (by omega)
    clear t0 t1 t2 t3 t4 t5 t6 t7 t8 z0 z1 z2 z3 z4 z5 z6 z7 z8 y0 y1 y2 y3 y4 y5 y6 y7 y8
    generalize (((((((((World.setCell _ _ _).setCell _ _).setCell _ _).setCell _ _).setCell _ _).setCell _ _).setCell _ _).setCell _ _).setCell _ _) = W9 at hT hO hB9 ⊢
    obtain ⟨e0, e1, e2, e3, e4, e5, e6, e7, e8⟩ := hT
    refine bodyPost_ret (v := .tuple #[txv x (.slice A' n c') (.slice A2' n2 c2'), .bool false]) (by simp [results, Try.results24, go_sem, e0, e1, e2, e3, e4, e5, e6, e7, e8]) rfl ?_
    unfold TwO
    rw [HE.out.1, HE.out.2, HQ.out, hln2]
    exact ⟨_, _, _, _, rfl, hO, hB9⟩
  have HR := Lib.hid hq
  clear hq
  have HZ := Lib.hid hz
  have hnv := new1 W3 (.cells #[.int .i64 z.a, .int .i64 z.b, .int .i64 z.c, .int .i64 z.d, .int .i64 z.e] 29)
  have vb := Go.Proofs.Ytajllccgfhminaa.ch.boxed W3 z 29
  have l3 := L3.out.call hnv
  have bo3 := BO3.out.keep hnv
  have hlt3 : W3.heap.size < (W3.alloc (.cells #[.int .i64 z.a, .int .i64 z.b, .int .i64 z.c, .int .i64 z.d, .int .i64 z.e] 29)).heap.size := by simp
  obtain ⟨t0, t1, t2, t3, t4, t5, t6, t7, t8⟩ := l3.tb
  clear hz hnv
  go_wp2_with fail
  generalize hqv : W3.heap.size = qv at vb hlt3 t0 t1 t2 t3 t4 t5 t6 t7 t8 ⊢
  have htq : tb < qv := by have := BO3.out.lt; omega
  generalize W3.alloc _ = W4 at vb l3 bo3 hlt3 t0 t1 t2 t3 t4 t5 t6 t7 t8 ⊢
  have L4 := Lib.hid l3
  have BO4 := Lib.hid bo3
  have VB4 := Lib.hid vb
  have hz4 := l3.size
  clear l3 bo3 vb
  try go_wp2_with fail
  refine (impl_active x (by omega) (by omega) (H1.out.below (below_le L4.out.bel hB)) (H2.out.below (below_le L4.out.bel hB)) (by omega)).mono ?_
  rintro e W5 ⟨rfl, hb⟩
  have L5 := Lib.hid (L4.out.call hb)
  have BO5 := Lib.hid (BO4.out.keep hb)
  have hz5 := hb.size
  have VB5 := Lib.hid (VB4.out.keep hlt3 hb)
  clear hb
  clear t0 t1 t2 t3 t4 t5 t6 t7 t8
  rcases hq : actB x R S with _ | _
  · have HQ : Hid (twB C x R S k v = false) := Lib.hid (tw_a hq)
    clear hq
    have HE := Lib.hid (tw_no HQ.out)
    obtain ⟨t0, t1, t2, t3, t4, t5, t6, t7, t8⟩ := BO5.out.bx.tb
    obtain ⟨z0, z1, z2, z3, z4, z5, z6, z7, z8⟩ := L5.out.rb.tb
    have y0 := L5.out.rb.fz 0
    have y1 := L5.out.rb.fz 1
    have y2 := L5.out.rb.fz 2
    have y3 := L5.out.rb.fz 3
    have y4 := L5.out.rb.fz 4
    have y5 := L5.out.rb.fz 5
    have y6 := L5.out.rb.fz 6
    have y7 := L5.out.rb.fz 7
    have y8 := L5.out.rb.fz 8
    go_wp2_with fail
    obtain ⟨hT, hO, hB9⟩ := give_back (w := w) (x := x) L5.out.rb BO5.out.own (by omega) (by omega) L5.out.bel (by omega)
    clear t0 t1 t2 t3 t4 t5 t6 t7 t8 z0 z1 z2 z3 z4 z5 z6 z7 z8 y0 y1 y2 y3 y4 y5 y6 y7 y8
    generalize (((((((((World.setCell _ _ _).setCell _ _).setCell _ _).setCell _ _).setCell _ _).setCell _ _).setCell _ _).setCell _ _).setCell _ _) = W9 at hT hO hB9 ⊢
    obtain ⟨e0, e1, e2, e3, e4, e5, e6, e7, e8⟩ := hT
    refine bodyPost_ret (v := .tuple #[txv x (.slice A' n c') (.slice A2' n2 c2'), .bool false]) (by simp [results, Try.results24, go_sem, e0, e1, e2, e3, e4, e5, e6, e7, e8]) rfl ?_
    unfold TwO
    rw [HE.out.1, HE.out.2, HQ.out, hln2]
    exact ⟨_, _, _, _, rfl, hO, hB9⟩
  have HA := Lib.hid hq
  clear hq
  go_wp2_with fail
  refine (Go.Proofs.Ytajllccgfhminaa.vers.value_range v _).mono ?_
  rintro e W6 ⟨rfl, rfl⟩
  rcases hq : In (-1) 99 v with _ | _
  · have HQ : Hid (twB C x R S k v = false) := Lib.hid (tw_v hq)
    clear hq
    have HE := Lib.hid (tw_no HQ.out)
    obtain ⟨t0, t1, t2, t3, t4, t5, t6, t7, t8⟩ := BO5.out.bx.tb
    obtain ⟨z0, z1, z2, z3, z4, z5, z6, z7, z8⟩ := L5.out.rb.tb
    have y0 := L5.out.rb.fz 0
    have y1 := L5.out.rb.fz 1
    have y2 := L5.out.rb.fz 2
    have y3 := L5.out.rb.fz 3
    have y4 := L5.out.rb.fz 4
    have y5 := L5.out.rb.fz 5
    have y6 := L5.out.rb.fz 6
    have y7 := L5.out.rb.fz 7
    have y8 := L5.out.rb.fz 8
    go_wp2_with fail
    obtain ⟨hT, hO, hB9⟩ := give_back (w := w) (x := x) L5.out.rb BO5.out.own (by omega) (by omega) L5.out.bel (by omega)
    clear t0 t1 t2 t3 t4 t5 t6 t7 t8 z0 z1 z2 z3 z4 z5 z6 z7 z8 y0 y1 y2 y3 y4 y5 y6 y7 y8
    generalize (((((((((World.setCell _ _ _).setCell _ _).setCell _ _).setCell _ _).setCell _ _).setCell _ _).setCell _ _).setCell _ _).setCell _ _) = W9 at hT hO hB9 ⊢
    obtain ⟨e0, e1, e2, e3, e4, e5, e6, e7, e8⟩ := hT
    refine bodyPost_ret (v := .tuple #[txv x (.slice A' n c') (.slice A2' n2 c2'), .bool false]) (by simp [results, Try.results24, go_sem, e0, e1, e2, e3, e4, e5, e6, e7, e8]) rfl ?_
    unfold TwO
    rw [HE.out.1, HE.out.2, HQ.out, hln2]
    exact ⟨_, _, _, _, rfl, hO, hB9⟩
  have HV := Lib.hid hq
  clear hq
  have HQ : Hid (twB C x R S k v = true) := Lib.hid (tw_y HR.out HA.out HV.out)
  have HE := Lib.hid (tw_yes HQ.out)
  have htx := act_tx HA.out
  have hs6 := tx_six htx
  have HASC := Lib.hid (tx_asc htx)
  have hkk : 0 ≤ k ∧ k ≤ 5 := by
    have := HR.out
    simp only [rlB, Bool.and_eq_true] at this
    exact in_lo this.2
  have hvv : -1 ≤ v ∧ v ≤ 99 := in_lo HV.out
  have HIN : Hid (∀ (j : Nat) (y : E2), S[j]? = some y → (Lit.int .i64 y.a).wf = true ∧ (Lit.int .i64 y.b).wf = true) := Lib.hid fun j y hy => by
    have h := tx_in htx hy
    exact ⟨WalkArith.wf_i64 (by omega), WalkArith.wf_i64 (by omega)⟩
  have wk : (Lit.int .i64 k).wf = true := WalkArith.wf_i64 (by omega)
  have wv : (Lit.int .i64 v).wf = true := WalkArith.wf_i64 (by omega)
  obtain ⟨t0, t1, t2, t3, t4, t5, t6, t7, t8⟩ := L5.out.tb
  clear htx t0 t1 t2 t3 t4 t5 t6 t7
  go_wp2_with fail
  refine (Go.Proofs.Ytajllccgfhminaa.ms.impl_set (by omega) (H2.out.below (below_le L5.out.bel hB)) HIN.out (by omega)).mono ?_
  rintro e W6 ⟨rfl, ⟨D6, hown6, hmi6⟩, hb6⟩
  have hkey := Go.Maps.keyOf_int_mk (P := Try.prog) (k := 3) Try.underlying3 wk
  clear t8
  go_wp2_with (first | (at_mapUpdate; refine wpList_mapUpdate_own _ rfl _ _ _ 114 rfl 3 3 Go.Proofs.Ytajllccgfhminaa.ms.law_i Try.underlying114 _ W5.heap.size n2 _ rfl hown6 (by unfold maxLen; omega) _ _ _ rfl rfl hkey _ [] (plainElem_int Try.underlying3 wv) ?_; intro w7 hown7 hg7) | fail)
  have hb7 : Below W5.heap.size W5 w7 := hb6.grown hg7 hb6.size (fun j hj => by cases hj; exact Nat.le_refl _)
  have OM := Lib.hid hown7
  have MI7 := Lib.hid (hmi6.put k v)
  have L7 := Lib.hid (L5.out.call hb7)
  have BO7 := Lib.hid (BO5.out.keep hb7)
  have VB7 := Lib.hid (VB5.out.keep (B := W5.heap.size) (by omega) hb7)
  have hz7 := hb7.size
  clear hown6 hmi6 hown7 hg7 hb6 hb7 hkey
  try go_wp2_with fail
  refine (Go.Proofs.Ytajllccgfhminaa.ms.impl_sorted OM.out MI7.out (by omega)).mono ?_
  rintro e W8 ⟨A8, c8, r8, rfl, ho8, ha8, hf8, hb8⟩
  obtain rfl : r8 = insW ⟨k, v⟩ S := asc_insW HASC.out ha8 hf8
  have L8 := Lib.hid (L7.out.call hb8)
  obtain ⟨hx8, hB8⟩ := Bo.new8 BO7.out ho8 hb8
  have VB8 := VB7.out.keep (B := w7.heap.size) (by omega) hb8
  have hz8 := hb8.size
  obtain ⟨m8, hm8⟩ : ∃ m, (insW ⟨k, v⟩ S).length = m := ⟨_, rfl⟩
  obtain ⟨Q8, hQ8⟩ : ∃ Q, insW ⟨k, v⟩ S = Q := ⟨_, rfl⟩
  rw [hm8, hQ8] at hB8
  rw [hm8]
  have o9 := (Off.refl tb W8).setCell (p := ⟨tb, 8, none⟩) rfl (.slice A8 m8 c8)
  have l9 := L8.out.keep (o9.below htw)
  obtain ⟨_, _, _, _, _, _, _, _, d8⟩ := hx8.tb
  have f8 := hx8.fz 8
  have HM8 := Lib.hid hm8
  have HQ8 := Lib.hid hQ8
  obtain ⟨_, _, _, v3, _⟩ := Go.Proofs.Ytajllccgfhminaa.ch.atFlat (ver_off VB8 (o9.block qv (by omega)))
  have hz9 : (W8.setCell ⟨tb, 8, none⟩ (.slice A8 m8 c8)).heap.size = W8.heap.size := o9.size
  clear ho8 ha8 hf8 hb8 hx8 VB8 hm8 hQ8 o9
  go_wp2_with fail
  generalize W8.setCell _ _ = W9 at hB8 l9 v3 hz9 ⊢
  have L9 := Lib.hid l9
  have BO9 := Lib.hid hB8
  clear l9 hB8 d8 f8
  try go_wp2_with fail
  refine (raise_low z.d BO9.out).mono ?_
  rintro e Wa ⟨rfl, hBa, hb⟩
  have La := Lib.hid (L9.out.keep hb)
  have BOa := Lib.hid hBa
  clear hb hBa v3
  obtain ⟨t0, t1, t2, t3, t4, t5, t6, t7, t8⟩ := BOa.out.bx.tb
  obtain ⟨z0, z1, z2, z3, z4, z5, z6, z7, z8⟩ := La.out.rb.tb
  have y0 := La.out.rb.fz 0
  have y1 := La.out.rb.fz 1
  have y2 := La.out.rb.fz 2
  have y3 := La.out.rb.fz 3
  have y4 := La.out.rb.fz 4
  have y5 := La.out.rb.fz 5
  have y6 := La.out.rb.fz 6
  have y7 := La.out.rb.fz 7
  have y8 := La.out.rb.fz 8
  go_wp2_with fail
  obtain ⟨hT, hO, hB9⟩ := give_back (w := w) (x := { x with l := max x.l z.d }) La.out.rb BOa.out.own (by omega) (by omega) La.out.bel (by omega)
  clear t0 t1 t2 t3 t4 t5 t6 t7 t8 z0 z1 z2 z3 z4 z5 z6 z7 z8 y0 y1 y2 y3 y4 y5 y6 y7 y8
  generalize (((((((((World.setCell _ _ _).setCell _ _).setCell _ _).setCell _ _).setCell _ _).setCell _ _).setCell _ _).setCell _ _).setCell _ _) = W9 at hT hO hB9 ⊢
  obtain ⟨e0, e1, e2, e3, e4, e5, e6, e7, e8⟩ := hT
  refine bodyPost_ret (v := .tuple #[txv { x with l := max x.l z.d } (.slice A' n c') (.slice A8 m8 c8), .bool true]) (by simp [results, Try.results24, go_sem, e0, e1, e2, e3, e4, e5, e6, e7, e8]) rfl ?_
  unfold TwO
  rw [HE.out.1, HE.out.2, HQ.out, HZ.out, HQ8.out, show Q8.length = m8 by rw [← HQ8.out]; exact HM8.out]
  exact ⟨_, _, _, _, rfl, hO, hB9⟩
set_option maxRecDepth 100000 in
set_option maxHeartbeats 6400000 in
theorem spec_tw {w : World} {B n c n2 c2 N cN : Nat} {A A2 D : Option Addr} {R S : List E2} {C : List (List Ver)} (x : Hd) (k v : Int) (hn : n ≤ 1048576) (hn2 : n2 ≤ 1048576) (hN : N ≤ 1048576) (h1 : Vs w B A n R) (h2 : Vs w B A2 n2 S) (h3 : Rs w B D N C) (hB : B ≤ w.heap.size) (hc : n2 ≤ c2) (hA : (A2 = none ∧ c2 = 0) ∨ ∃ b o, A2 = some ⟨b, o, none⟩) :
    Calls Try.prog 25 #[.agg #[.slice D N cN], .agg #[.int .i64 x.i, .int .i64 x.s, .int .i64 x.t, .int .i64 x.b, .int .i64 x.l, .int .i64 x.h, .int .i64 x.c, .slice A n c, .slice A2 n2 c2], .int .i64 k, .int .i64 v] w (TwO C x n R S k v w) := by
  have H1 := Lib.hid h1
  have H2 := Lib.hid h2
  have H3 := Lib.hid h3
  have hln := h1.1
  have hln2 := h2.1
  have HA := Lib.hid hA
  clear hA
  clear h1 h2 h3
  go_enter Try.func25, Try.ntmps25
  go_wp2_with fail
  have hL := LZ.mk3 w x A A2 D n c n2 c2 N cN
  generalize ((w.alloc _).alloc _).alloc _ = W0 at hL ⊢
  have L0 := Lib.hid hL
  have hz0 := hL.size
  obtain ⟨t0, t1, t2, t3, t4, t5, t6, t7, t8⟩ := hL.tb
  clear hL
  try go_wp2_with fail
  refine (copy_m x (by omega) (by omega) (H1.out.below (below_le L0.out.bel hB)) (H2.out.below (below_le L0.out.bel hB)) (by omega)).mono ?_
  rintro e W1 ⟨u, u2, rfl, ho, hb⟩
  obtain ⟨A', c', rfl, _⟩ := own_vs ho.1 hln
  obtain ⟨A2', c2', rfl, _⟩ := own_vs ho.2 hln2
  have L1 := Lib.hid (L0.out.call hb)
  have O1 := Lib.hid (ho.more hz0)
  have hz1 := hb.size
  clear ho hb t0 t1 t2 t3 t4 t5 t6 t7 t8
  obtain ⟨t0, t1, t2, t3, t4, t5, t6, t7, t8⟩ := L1.out.tb
  have c0 := L1.out.st
  have hlt0 : w.heap.size < W1.heap.size := by omega
  have hlt1 : w.heap.size + 1 < W1.heap.size := by omega
  go_wp2_with fail
  have bo2 : Bo (W1.alloc (.cells #[.int .i64 x.i, .int .i64 x.s, .int .i64 x.t, .int .i64 x.b, .int .i64 x.l, .int .i64 x.h, .int .i64 x.c, (.slice A' n c'), (.slice A2' n2 c2')] 27)) (w.heap.size + 3) W1.heap.size x A' n c' R A2' n2 c2' S := ⟨Bx.new W1 x _ _, O1.out.keep (new1 W1 _), by omega⟩
  have l2 := L1.out.call (new1 W1 (.cells #[.int .i64 x.i, .int .i64 x.s, .int .i64 x.t, .int .i64 x.b, .int .i64 x.l, .int .i64 x.h, .int .i64 x.c, (.slice A' n c'), (.slice A2' n2 c2')] 27))
  generalize htb : W1.heap.size = tb at bo2 ⊢
  generalize W1.alloc _ = W2 at bo2 l2 ⊢
  have L2 := Lib.hid l2
  have hz2 := l2.size
  have BO2 := Lib.hid bo2
  have htw : w.heap.size + 3 ≤ tb := by omega
  clear bo2 l2 t0 t1 t2 t3 t4 t5 t6 t7 t8 c0 hlt0 hlt1 hz1 htb
  have c0 := L2.out.st
  try go_wp2_with fail
  refine (val.spec_store (by omega) (H3.out.below (below_le L2.out.bel hB)) (by omega)).mono ?_
  rintro e W3 ⟨rfl, hb⟩
  have L3 := Lib.hid (L2.out.call hb)
  have BO3 := Lib.hid (BO2.out.keep hb)
  have hz3 := hb.size
  clear hb
  clear c0
  rcases hst : stB C with _ | _
  · have HQ : Hid (twB C x R S k v = false) := Lib.hid (tw_s hst)
    clear hst
    have HE := Lib.hid (tw_no HQ.out)
    obtain ⟨t0, t1, t2, t3, t4, t5, t6, t7, t8⟩ := BO3.out.bx.tb
    obtain ⟨z0, z1, z2, z3, z4, z5, z6, z7, z8⟩ := L3.out.rb.tb
    have y0 := L3.out.rb.fz 0
    have y1 := L3.out.rb.fz 1
    have y2 := L3.out.rb.fz 2
    have y3 := L3.out.rb.fz 3
    have y4 := L3.out.rb.fz 4
    have y5 := L3.out.rb.fz 5
    have y6 := L3.out.rb.fz 6
    have y7 := L3.out.rb.fz 7
    have y8 := L3.out.rb.fz 8
    go_wp2_with fail
    obtain ⟨hT, hO, hB9⟩ := give_back (w := w) (x := x) L3.out.rb BO3.out.own (by omega) (by omega) L3.out.bel (by omega)
    clear t0 t1 t2 t3 t4 t5 t6 t7 t8 z0 z1 z2 z3 z4 z5 z6 z7 z8 y0 y1 y2 y3 y4 y5 y6 y7 y8
    generalize (((((((((World.setCell _ _ _).setCell _ _).setCell _ _).setCell _ _).setCell _ _).setCell _ _).setCell _ _).setCell _ _).setCell _ _) = W9 at hT hO hB9 ⊢
    obtain ⟨e0, e1, e2, e3, e4, e5, e6, e7, e8⟩ := hT
    refine bodyPost_ret (v := .tuple #[txv x (.slice A' n c') (.slice A2' n2 c2'), .bool false]) (by simp [results, Try.results25, go_sem, e0, e1, e2, e3, e4, e5, e6, e7, e8]) rfl ?_
    unfold TwO
    rw [HE.out.1, HE.out.2, HQ.out, hln2]
    exact ⟨_, _, _, _, rfl, hO, hB9⟩
  have HST := Lib.hid hst
  clear hst
  obtain ⟨t0, t1, t2, t3, t4, t5, t6, t7, t8⟩ := L3.out.tb
  go_wp2_with fail
  refine (tvs.spec_tx x (by omega) (by omega) (H1.out.below (below_le L3.out.bel hB)) (H2.out.below (below_le L3.out.bel hB)) (by omega)).mono ?_
  rintro e W4 ⟨rfl, hb⟩
  have L4 := Lib.hid (L3.out.call hb)
  have BO4 := Lib.hid (BO3.out.keep hb)
  have hz4 := hb.size
  clear hb
  clear t0 t1 t2 t3 t4 t5 t6 t7 t8
  rcases hq : txB x R S with _ | _
  · have HQ : Hid (twB C x R S k v = false) := Lib.hid (tw_t hq)
    clear hq
    have HE := Lib.hid (tw_no HQ.out)
    obtain ⟨t0, t1, t2, t3, t4, t5, t6, t7, t8⟩ := BO4.out.bx.tb
    obtain ⟨z0, z1, z2, z3, z4, z5, z6, z7, z8⟩ := L4.out.rb.tb
    have y0 := L4.out.rb.fz 0
    have y1 := L4.out.rb.fz 1
    have y2 := L4.out.rb.fz 2
    have y3 := L4.out.rb.fz 3
    have y4 := L4.out.rb.fz 4
    have y5 := L4.out.rb.fz 5
    have y6 := L4.out.rb.fz 6
    have y7 := L4.out.rb.fz 7
    have y8 := L4.out.rb.fz 8
    go_wp2_with fail
    obtain ⟨hT, hO, hB9⟩ := give_back (w := w) (x := x) L4.out.rb BO4.out.own (by omega) (by omega) L4.out.bel (by omega)
    clear t0 t1 t2 t3 t4 t5 t6 t7 t8 z0 z1 z2 z3 z4 z5 z6 z7 z8 y0 y1 y2 y3 y4 y5 y6 y7 y8
    generalize (((((((((World.setCell _ _ _).setCell _ _).setCell _ _).setCell _ _).setCell _ _).setCell _ _).setCell _ _).setCell _ _).setCell _ _) = W9 at hT hO hB9 ⊢
    obtain ⟨e0, e1, e2, e3, e4, e5, e6, e7, e8⟩ := hT
    refine bodyPost_ret (v := .tuple #[txv x (.slice A' n c') (.slice A2' n2 c2'), .bool false]) (by simp [results, Try.results25, go_sem, e0, e1, e2, e3, e4, e5, e6, e7, e8]) rfl ?_
    unfold TwO
    rw [HE.out.1, HE.out.2, HQ.out, hln2]
    exact ⟨_, _, _, _, rfl, hO, hB9⟩
  have HT := Lib.hid hq
  clear hq
  obtain ⟨t0, t1, t2, t3, t4, t5, t6, t7, t8⟩ := L4.out.tb
  clear t0 t1 t3 t5 t6
  by_cases hs : x.t = 1
  · have hs1 : (x.t != 1) = false := by simp [hs]
    have HSS := Lib.hid hs
    clear hs
    go_wp2_with fail
    refine (vers.in_range k 0 5 _).mono ?_
    rintro e W5 ⟨rfl, rfl⟩
    rcases hq : In 0 5 k with _ | _
    · have HQ : Hid (twB C x R S k v = false) := Lib.hid (tw_k hq)
      clear hq t2 t4 t7 t8
      have HE := Lib.hid (tw_no HQ.out)
      obtain ⟨t0, t1, t2, t3, t4, t5, t6, t7, t8⟩ := BO4.out.bx.tb
      obtain ⟨z0, z1, z2, z3, z4, z5, z6, z7, z8⟩ := L4.out.rb.tb
      have y0 := L4.out.rb.fz 0
      have y1 := L4.out.rb.fz 1
      have y2 := L4.out.rb.fz 2
      have y3 := L4.out.rb.fz 3
      have y4 := L4.out.rb.fz 4
      have y5 := L4.out.rb.fz 5
      have y6 := L4.out.rb.fz 6
      have y7 := L4.out.rb.fz 7
      have y8 := L4.out.rb.fz 8
      go_wp2_with fail
      obtain ⟨hT, hO, hB9⟩ := give_back (w := w) (x := x) L4.out.rb BO4.out.own (by omega) (by omega) L4.out.bel (by omega)
      clear t0 t1 t2 t3 t4 t5 t6 t7 t8 z0 z1 z2 z3 z4 z5 z6 z7 z8 y0 y1 y2 y3 y4 y5 y6 y7 y8
      generalize (((((((((World.setCell _ _ _).setCell _ _).setCell _ _).setCell _ _).setCell _ _).setCell _ _).setCell _ _).setCell _ _).setCell _ _) = W9 at hT hO hB9 ⊢
      obtain ⟨e0, e1, e2, e3, e4, e5, e6, e7, e8⟩ := hT
      refine bodyPost_ret (v := .tuple #[txv x (.slice A' n c') (.slice A2' n2 c2'), .bool false]) (by simp [results, Try.results25, go_sem, e0, e1, e2, e3, e4, e5, e6, e7, e8]) rfl ?_
      unfold TwO
      rw [HE.out.1, HE.out.2, HQ.out, hln2]
      exact ⟨_, _, _, _, rfl, hO, hB9⟩
    have HK := Lib.hid hq
    clear hq
    go_wp2_with fail
    refine (vers.in_range v (-1) 99 _).mono ?_
    rintro e W5 ⟨rfl, rfl⟩
    rcases hq : In (-1) 99 v with _ | _
    · have HQ : Hid (twB C x R S k v = false) := Lib.hid (tw_v hq)
      clear hq t2 t4 t7 t8
      have HE := Lib.hid (tw_no HQ.out)
      obtain ⟨t0, t1, t2, t3, t4, t5, t6, t7, t8⟩ := BO4.out.bx.tb
      obtain ⟨z0, z1, z2, z3, z4, z5, z6, z7, z8⟩ := L4.out.rb.tb
      have y0 := L4.out.rb.fz 0
      have y1 := L4.out.rb.fz 1
      have y2 := L4.out.rb.fz 2
      have y3 := L4.out.rb.fz 3
      have y4 := L4.out.rb.fz 4
      have y5 := L4.out.rb.fz 5
      have y6 := L4.out.rb.fz 6
      have y7 := L4.out.rb.fz 7
      have y8 := L4.out.rb.fz 8
      go_wp2_with fail
      obtain ⟨hT, hO, hB9⟩ := give_back (w := w) (x := x) L4.out.rb BO4.out.own (by omega) (by omega) L4.out.bel (by omega)
      clear t0 t1 t2 t3 t4 t5 t6 t7 t8 z0 z1 z2 z3 z4 z5 z6 z7 z8 y0 y1 y2 y3 y4 y5 y6 y7 y8
      generalize (((((((((World.setCell _ _ _).setCell _ _).setCell _ _).setCell _ _).setCell _ _).setCell _ _).setCell _ _).setCell _ _).setCell _ _) = W9 at hT hO hB9 ⊢
      obtain ⟨e0, e1, e2, e3, e4, e5, e6, e7, e8⟩ := hT
      refine bodyPost_ret (v := .tuple #[txv x (.slice A' n c') (.slice A2' n2 c2'), .bool false]) (by simp [results, Try.results25, go_sem, e0, e1, e2, e3, e4, e5, e6, e7, e8]) rfl ?_
      unfold TwO
      rw [HE.out.1, HE.out.2, HQ.out, hln2]
      exact ⟨_, _, _, _, rfl, hO, hB9⟩
    have HV := Lib.hid hq
    clear hq t2 t7
    have HQ : Hid (twB C x R S k v = true) := Lib.hid (tw_y2 HST.out HT.out HSS.out HK.out HV.out)
    have HE := Lib.hid (tw_yes HQ.out)
    go_wp2_with fail
    refine (put_w ⟨k, v⟩ (by omega) hc HA.out (H2.out.below (below_le L4.out.bel hB)) (by omega)).mono ?_
    rintro e W5 ⟨A8, c8, rfl, ho, hb⟩
    have L5 := Lib.hid (L4.out.call hb)
    obtain ⟨hx8, hB8⟩ := Bo.new8 BO4.out ho hb
    have hz5 := hb.size
    obtain ⟨m8, hm8⟩ : ∃ m, (insW ⟨k, v⟩ S).length = m := ⟨_, rfl⟩
    obtain ⟨Q8, hQ8⟩ : ∃ Q, insW ⟨k, v⟩ S = Q := ⟨_, rfl⟩
    rw [hm8, hQ8] at hB8
    rw [hm8]
    have o9 := (Off.refl tb W5).setCell (p := ⟨tb, 8, none⟩) rfl (.slice A8 m8 c8)
    have l9 := L5.out.keep (o9.below htw)
    obtain ⟨_, _, _, _, _, _, _, _, d8⟩ := hx8.tb
    have f8 := hx8.fz 8
    have HM8 := Lib.hid hm8
    have HQ8 := Lib.hid hQ8
    have hz9 : (W5.setCell ⟨tb, 8, none⟩ (.slice A8 m8 c8)).heap.size = W5.heap.size := o9.size
    clear ho hb hx8 hm8 hQ8 o9 t4 t8
    go_wp2_with fail
    generalize W5.setCell _ _ = W6 at hB8 l9 hz9 ⊢
    have L6 := Lib.hid l9
    have BO6 := Lib.hid hB8
    clear l9 hB8 d8 f8
    obtain ⟨_, _, _, _, t4, _, _, _, _⟩ := L6.out.tb
    have T4 := Lib.hid t4
    have c0 := L6.out.st
    have C0 := Lib.hid c0
    have h6 := val.st_six HST.out
    rw [H3.out.1] at h6
    obtain ⟨s1, s2⟩ := in_lo HK.out
    have s3 : k < (N : Int) := by omega
    have s4 : k.toNat < N := by omega
    clear h6
    obtain ⟨b2, o2, l, A9, n9, c9, rfl, hb2, hl, d0, hn9, hv⟩ := (H3.out.below (below_le L6.out.bel hB)).at_ s4
    have D0 := Lib.hid d0
    have HVV := Lib.hid hv
    obtain ⟨z, hz⟩ : ∃ z, rlV C k = z := ⟨_, rfl⟩
    have HZ := Lib.hid hz
    have HLV : Hid (Go.Proofs.Ytajllccgfhminaa.find.lastV l = z) := Lib.hid (by rw [← hz]; exact (Go.Proofs.Ytajllccgfhminaa.rd.rlV_yes (rl_y HST.out HK.out) hl).symm)
    have hBw : B ≤ W6.heap.size := by omega
    have hb2w : b2 < W6.heap.size := by omega
    have hb2t : b2 ≠ tb := by omega
    have hbk0 : Below W6.heap.size W6 W6.drew := (Below.refl _ _).drew
    have hbt := BO6.out.lt
    clear hl hv hz
    try go_wp2_with fail
    go_region_held3 (fun w' => w'.cell? ⟨w.heap.size, 0, none⟩ = some (.slice (some ⟨b2, o2, none⟩) N cN) ∧ w'.cell? ⟨w.heap.size + 1, 4, none⟩ = some (.int .i64 x.l) ∧ w'.cell? ⟨b2, o2 + k.toNat, none⟩ = some (.slice A9 n9 c9)) (first | with_reducible exact hSt | go_keep) (first | (go_at_call 33; (with_reducible refine (Go.Proofs.Ytajllccgfhminaa.find.latest_spec HLV.out hn9 ((HVV.out.below (below_le hbk0 hBw)).more hBw) (Nat.le_refl _)).mono ?_); rintro e W7 ⟨he, hb'⟩; subst he; have hf := fld3 (.int .i64 z.a) (.int .i64 z.b) (.int .i64 z.c) (.int .i64 z.d) (.int .i64 z.e); have hbk1 := hbk0.trans (hb'.mono hbk0.size); have B7 := BO6.out.keep hbk1; have e1 := (hbk1.cell (p := ⟨w.heap.size, 0, none⟩) (by simp only; omega)).trans C0.out; have e2 := (hbk1.cell (p := ⟨w.heap.size + 1, 4, none⟩) (by simp only; omega)).trans T4.out; have e3 := (hbk1.cell (p := ⟨b2, o2 + k.toNat, none⟩) hb2w).trans D0.out; obtain ⟨_, _, _, _, d4, _, _, _, _⟩ := B7.bx.tb; have f4 := B7.bx.fz 4; have o4 := (Off.refl tb W7).setCell (p := ⟨tb, 4, none⟩) rfl (.int .i64 (max x.l z.d)); have hSt := And.intro ((World.cell?_of_block (w := W7) (a := ⟨w.heap.size, 0, none⟩) (o4.block _ (show w.heap.size ≠ tb by omega))).trans e1) (And.intro ((World.cell?_of_block (w := W7) (a := ⟨w.heap.size + 1, 4, none⟩) (o4.block _ (show w.heap.size + 1 ≠ tb by omega))).trans e2) ((World.cell?_of_block (w := W7) (a := ⟨b2, o2 + k.toNat, none⟩) (o4.block _ hb2t)).trans e3))))
    have l7 := L6.out.call hbk1
    have b8 := B7.put4 (max x.l z.d)
    have l8 := l7.keep (((Off.refl tb W7).setCell (p := ⟨tb, 4, none⟩) rfl (.int .i64 (max x.l z.d))).below htw)
    clear hf hbk0 hbk1 B7 e1 e2 e3 d4 f4 hb' l7 t4 c0 d0 o4 hSt
    have L8 := Lib.hid l8
    have BO8 := Lib.hid b8
    clear l8 b8
    obtain ⟨t0, t1, t2, t3, t4, t5, t6, t7, t8⟩ := BO8.out.bx.tb
    obtain ⟨z0, z1, z2, z3, z4, z5, z6, z7, z8⟩ := L8.out.rb.tb
    have y0 := L8.out.rb.fz 0
    have y1 := L8.out.rb.fz 1
    have y2 := L8.out.rb.fz 2
    have y3 := L8.out.rb.fz 3
    have y4 := L8.out.rb.fz 4
    have y5 := L8.out.rb.fz 5
    have y6 := L8.out.rb.fz 6
    have y7 := L8.out.rb.fz 7
    have y8 := L8.out.rb.fz 8
    go_wp2_with fail
    obtain ⟨hT, hO, hB9⟩ := give_back (w := w) (x := { x with l := max x.l z.d }) L8.out.rb BO8.out.own (by omega) (by omega) L8.out.bel (by omega)
    clear t0 t1 t2 t3 t4 t5 t6 t7 t8 z0 z1 z2 z3 z4 z5 z6 z7 z8 y0 y1 y2 y3 y4 y5 y6 y7 y8
    generalize (((((((((World.setCell _ _ _).setCell _ _).setCell _ _).setCell _ _).setCell _ _).setCell _ _).setCell _ _).setCell _ _).setCell _ _) = W9 at hT hO hB9 ⊢
    obtain ⟨e0, e1, e2, e3, e4, e5, e6, e7, e8⟩ := hT
    refine bodyPost_ret (v := .tuple #[txv { x with l := max x.l z.d } (.slice A' n c') (.slice A8 m8 c8), .bool true]) (by simp [results, Try.results25, go_sem, e0, e1, e2, e3, e4, e5, e6, e7, e8]) rfl ?_
    unfold TwO
    rw [HE.out.1, HE.out.2, HQ.out, HZ.out, HQ8.out, show Q8.length = m8 by rw [← HQ8.out]; exact HM8.out]
    exact ⟨_, _, _, _, rfl, hO, hB9⟩
  · have hs1 : (x.t != 1) = true := by simp [hs]
    have HQ : Hid (twB C x R S k v = false) := Lib.hid (tw_n hs)
    clear hs t4 t7 t8
    have HE := Lib.hid (tw_no HQ.out)
    obtain ⟨t0, t1, t2, t3, t4, t5, t6, t7, t8⟩ := BO4.out.bx.tb
    obtain ⟨z0, z1, z2, z3, z4, z5, z6, z7, z8⟩ := L4.out.rb.tb
    have y0 := L4.out.rb.fz 0
    have y1 := L4.out.rb.fz 1
    have y2 := L4.out.rb.fz 2
    have y3 := L4.out.rb.fz 3
    have y4 := L4.out.rb.fz 4
    have y5 := L4.out.rb.fz 5
    have y6 := L4.out.rb.fz 6
    have y7 := L4.out.rb.fz 7
    have y8 := L4.out.rb.fz 8
    go_wp2_with fail
    obtain ⟨hT, hO, hB9⟩ := give_back (w := w) (x := x) L4.out.rb BO4.out.own (by omega) (by omega) L4.out.bel (by omega)
    clear t0 t1 t2 t3 t4 t5 t6 t7 t8 z0 z1 z2 z3 z4 z5 z6 z7 z8 y0 y1 y2 y3 y4 y5 y6 y7 y8
    generalize (((((((((World.setCell _ _ _).setCell _ _).setCell _ _).setCell _ _).setCell _ _).setCell _ _).setCell _ _).setCell _ _).setCell _ _) = W9 at hT hO hB9 ⊢
    obtain ⟨e0, e1, e2, e3, e4, e5, e6, e7, e8⟩ := hT
    refine bodyPost_ret (v := .tuple #[txv x (.slice A' n c') (.slice A2' n2 c2'), .bool false]) (by simp [results, Try.results25, go_sem, e0, e1, e2, e3, e4, e5, e6, e7, e8]) rfl ?_
    unfold TwO
    rw [HE.out.1, HE.out.2, HQ.out, hln2]
    exact ⟨_, _, _, _, rfl, hO, hB9⟩
end Go.Proofs.Ytajllccgfhminaa.tw
