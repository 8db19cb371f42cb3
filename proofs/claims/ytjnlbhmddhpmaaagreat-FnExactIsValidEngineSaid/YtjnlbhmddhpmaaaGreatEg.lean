/- An engine: the law's own helpers over it: how much it counts, the copy, the comparison, the marks. -/
import Derived.Test.YtjnlbhmddhpmaaaGreatEgo
import Derived.Test.YtjnlbhmddhpmaaaGreatLw
import Derived.Test.YtjnlbhmddhpmaaaGreatOwk
import Derived.Test.YtjnlbhmddhpmaaaGreatOwt
import Derived.WalkKit
import Derived.ProofKit
import Derived.Below
import Derived.Lib.Hide
import Derived.LoopTactic
import Derived.Deep.QuietTactic
import Derived.BigQuiet
import Derived.StillTailTactics
import Derived.Outline
import Derived.IntWalk
import Derived.Deep.OwnRows
namespace Go.Proofs.YtjnlbhmddhpmaaaGreat.eg
open Go.ChangeShapes Go.WideShapes Go.ChangeAt Go.RowKit
open Go.Proofs.YtjnlbhmddhpmaaaGreat.el2 Go.Proofs.YtjnlbhmddhpmaaaGreat.fr Go.Proofs.YtjnlbhmddhpmaaaGreat.ow2 Go.Proofs.YtjnlbhmddhpmaaaGreat.ts Go.Proofs.YtjnlbhmddhpmaaaGreat.tl Go.Proofs.YtjnlbhmddhpmaaaGreat.tlm Go.Proofs.YtjnlbhmddhpmaaaGreat.ego
open Go.Proofs.YtjnlbhmddhpmaaaGreat.mkr (Tr)
open Go.Proofs.YtjnlbhmddhpmaaaGreat.sl (Ver)
open Go.Proofs.YtjnlbhmddhpmaaaGreat.st (Rs R0 RR cnt tot szR szR_no szR_yes)
open Go.Proofs.YtjnlbhmddhpmaaaGreat.vers (new2 new3)
set_option linter.unusedVariables false
set_option linter.unusedSimpArgs false
set_option linter.constructorNameAsVariable false
/-- the six cells of block b -/
def EB (w : World) (b : Nat) (q : Bool) (u1 u2 u3 u4 : Value) (z : Int) : Prop := w.cell? ⟨b, 0, none⟩ = some (.bool q) ∧ w.cell? ⟨b, 1, none⟩ = some u1 ∧ w.cell? ⟨b, 2, none⟩ = some u2 ∧ w.cell? ⟨b, 3, none⟩ = some u3 ∧ w.cell? ⟨b, 4, none⟩ = some u4 ∧ w.cell? ⟨b, 5, none⟩ = some (.int .i64 z)
section
variable {w w' : World} {B b : Nat} {q : Bool} {u1 u2 u3 u4 : Value} {z : Int}
theorem EB.of_block (h : EB w b q u1 u2 u3 u4 z) (hk : w'.heap[b]? = w.heap[b]?) : EB w' b q u1 u2 u3 u4 z := by
  obtain ⟨h0, h1, h2, h3, h4, h5⟩ := h
  exact ⟨(World.cell?_of_block (w := w) (a := ⟨b, 0, none⟩) hk).trans h0, (World.cell?_of_block (w := w) (a := ⟨b, 1, none⟩) hk).trans h1, (World.cell?_of_block (w := w) (a := ⟨b, 2, none⟩) hk).trans h2, (World.cell?_of_block (w := w) (a := ⟨b, 3, none⟩) hk).trans h3, (World.cell?_of_block (w := w) (a := ⟨b, 4, none⟩) hk).trans h4, (World.cell?_of_block (w := w) (a := ⟨b, 5, none⟩) hk).trans h5⟩
theorem EB.keep (h : EB w b q u1 u2 u3 u4 z) (hb : b < B) (hk : Below B w w') : EB w' b q u1 u2 u3 u4 z := h.of_block (hk.block b hb)
theorem EB.fr {lo hi : Nat} (h : EB w b q u1 u2 u3 u4 z) (hf : FR lo hi w w') (hd : b < lo ∨ hi ≤ b) (hs : b < w.heap.size) : EB w' b q u1 u2 u3 u4 z := h.of_block (hf.block b hs hd)
theorem EB.new (w : World) (q : Bool) (u1 u2 u3 u4 : Value) (z : Int) (t : TypeId) : EB (w.alloc (.cells #[.bool q, u1, u2, u3, u4, .int .i64 z] t)) w.heap.size q u1 u2 u3 u4 z :=
  ⟨World.cell?_alloc_mark w _ t _ 0, World.cell?_alloc_mark w _ t _ 1, World.cell?_alloc_mark w _ t _ 2, World.cell?_alloc_mark w _ t _ 3, World.cell?_alloc_mark w _ t _ 4, World.cell?_alloc_mark w _ t _ 5⟩
end
theorem ret_i {a b : Int} (h : a = b) : Ending.returned (.int .i64 a) = .returned (.int .i64 b) := by rw [h]
theorem ts_wide {M M' : Nat} {w : World} {B n : Nat} {A : Option Addr} {L : List Tr} (h : Ts M w B A n L) (hM : M ≤ M' := by omega) : Ts M' w B A n L := ⟨h.1, fun hn => by
  obtain ⟨b, o, e, hb, hx⟩ := h.2 hn
  refine ⟨b, o, e, hb, fun k t hl => ?_⟩
  obtain ⟨A1, n1, c1, A2, n2, c2, h9, h1, h2, h3, h4⟩ := hx k t hl
  exact ⟨A1, n1, c1, A2, n2, c2, h9, by omega, by omega, h3, h4⟩⟩
/-! how much it counts -/
def totE (C : List (List Ver)) (L : List Tr) (n3 n4 : Nat) : Nat := tot C + totT L + n3 + n4
def szE (left : Int) (C : List (List Ver)) (L : List Tr) (n3 n4 : Nat) : Int := if left < totE C L n3 n4 then -1 else left - totE C L n3 n4
theorem totE_eq (C : List (List Ver)) (L : List Tr) (n3 n4 : Nat) : totE C L n3 n4 = C.length + cnt C + (L.length + cntT L) + n3 + n4 := rfl
theorem szE_no {left : Int} {C : List (List Ver)} {L : List Tr} {n3 n4 : Nat} (h : left < totE C L n3 n4) : szE left C L n3 n4 = -1 := if_pos h
theorem szE_yes {left : Int} {C : List (List Ver)} {L : List Tr} {n3 n4 : Nat} (h : (totE C L n3 n4 : Int) ≤ left) : szE left C L n3 n4 = left - totE C L n3 n4 := if_neg (by omega)
set_option maxRecDepth 100000 in
set_option maxHeartbeats 1600000 in
theorem count_eg {w : World} {B n1 c1 n2 c2 n3 c3 n4 c4 : Nat} {A1 A2 A3 A4 : Option Addr} {C : List (List Ver)} {L : List Tr} {left : Int} (q : Bool) (z : Int) (hn1 : n1 ≤ 9223372036854775807) (hn2 : n2 ≤ 9223372036854775807) (hn3 : n3 ≤ 9223372036854775807) (hn4 : n4 ≤ 9223372036854775807) (h1 : R0 w B A1 n1 C) (h2 : Ts 9223372036854775807 w B A2 n2 L) (hB : B ≤ w.heap.size) (h0 : 0 ≤ left) (hl : left ≤ 1048576) :
    Calls Tryz.prog 4 #[.agg #[.bool q, .slice A1 n1 c1, .slice A2 n2 c2, .slice A3 n3 c3, .slice A4 n4 c4, .int .i64 z], .int .i64 left] w fun e w' => e = .returned (.int .i64 (szE left C L n3 n4)) ∧ Below w.heap.size w w' := by
  have H1 := Lib.hid h1
  have H2 := Lib.hid h2
  clear h1 h2
  have hb := new1 w (.cells #[.bool q, .slice A1 n1 c1, .slice A2 n2 c2, .slice A3 n3 c3, .slice A4 n4 c4, .int .i64 z] 29)
  have tb := EB.new w q (.slice A1 n1 c1) (.slice A2 n2 c2) (.slice A3 n3 c3) (.slice A4 n4 c4) z 29
  have HEQ : Hid (totE C L n3 n4 = tot C + totT L + n3 + n4) := Lib.hid rfl
  have hlt0 : w.heap.size < (w.alloc (.cells #[.bool q, .slice A1 n1 c1, .slice A2 n2 c2, .slice A3 n3 c3, .slice A4 n4 c4, .int .i64 z] 29)).heap.size := by simp
  by_cases ha : left < tot C
  · have HC1 : Hid (szR left C = -1) := Lib.hid (szR_no (by omega))
    have HZ : Hid (szE left C L n3 n4 = -1) := Lib.hid (szE_no (by have := HEQ.out; omega))
    go_enter Tryz.func4, Tryz.ntmps4
    go_wp2_with fail
    generalize w.alloc (.cells #[.bool q, .slice A1 n1 c1, .slice A2 n2 c2, .slice A3 n3 c3, .slice A4 n4 c4, .int .i64 z] 29) = W0 at hb tb hlt0 ⊢
    have HB0 := Lib.hid hb
    have TB0 := Lib.hid tb
    have hs0 := hb.size
    have TBL0 : Hid (w.heap.size < W0.heap.size) := Lib.hid hlt0
    clear hb tb hlt0
    refine (Go.Proofs.YtjnlbhmddhpmaaaGreat.st.count_store hn1 (H1.out.below (below_le HB0.out hB)) (by omega) h0 hl).mono ?_
    rintro e W1 ⟨rfl, hb⟩
    rw [HC1.out]
    have HB1 := Lib.hid (HB0.out.trans (hb.mono HB0.out.size))
    have hs1 := HB1.out.size
    have TB1 := Lib.hid (TB0.out.of_block (hb.block _ (by have := TBL0.out; omega)))
    have TBL1 : Hid (w.heap.size < W1.heap.size) := Lib.hid (Nat.lt_of_lt_of_le TBL0.out hb.size)
    clear hb
    go_wp2_with fail
    go_ret
    exact ⟨ret_i HZ.out.symm, HB1.out⟩
  obtain ⟨l1, hl1⟩ : ∃ l1 : Int, l1 = left - tot C := ⟨_, rfl⟩
  have l10 : 0 ≤ l1 := by omega
  have l11 : l1 ≤ 1048576 := by omega
  have d1 : decide (l1 < 0) = false := decide_eq_false (by omega)
  have HC1 : Hid (szR left C = l1) := Lib.hid (by rw [szR_yes (by omega)]; omega)
  have HL1 := Lib.hid hl1
  clear hl1
  by_cases hb2 : l1 < totT L
  · have HC2 : Hid (szL l1 L = -1) := Lib.hid (szL_no (by omega))
    have HZ : Hid (szE left C L n3 n4 = -1) := Lib.hid (szE_no (by have := HEQ.out; have := HL1.out; omega))
    go_enter Tryz.func4, Tryz.ntmps4
    go_wp2_with fail
    generalize w.alloc (.cells #[.bool q, .slice A1 n1 c1, .slice A2 n2 c2, .slice A3 n3 c3, .slice A4 n4 c4, .int .i64 z] 29) = W0 at hb tb hlt0 ⊢
    have HB0 := Lib.hid hb
    have TB0 := Lib.hid tb
    have hs0 := hb.size
    have TBL0 : Hid (w.heap.size < W0.heap.size) := Lib.hid hlt0
    clear hb tb hlt0
    refine (Go.Proofs.YtjnlbhmddhpmaaaGreat.st.count_store hn1 (H1.out.below (below_le HB0.out hB)) (by omega) h0 hl).mono ?_
    rintro e W1 ⟨rfl, hb⟩
    rw [HC1.out]
    have HB1 := Lib.hid (HB0.out.trans (hb.mono HB0.out.size))
    have hs1 := HB1.out.size
    have TB1 := Lib.hid (TB0.out.of_block (hb.block _ (by have := TBL0.out; omega)))
    have TBL1 : Hid (w.heap.size < W1.heap.size) := Lib.hid (Nat.lt_of_lt_of_le TBL0.out hb.size)
    clear hb
    obtain ⟨t0, t1, t2, t3, t4, t5⟩ := TB1.out
    go_wp2_with fail
    clear t0 t1 t2 t3 t4 t5
    refine (count_txs (w := W1) (B := B) (c := c2) (left := l1) hn2 (H2.out.below (below_le HB1.out hB)) (by omega) l10 l11).mono ?_
    rintro e W2 ⟨rfl, hb⟩
    rw [HC2.out]
    have HB2 := Lib.hid (HB1.out.trans (hb.mono HB1.out.size))
    have hs2 := HB2.out.size
    have TB2 := Lib.hid (TB1.out.of_block (hb.block _ (by have := TBL1.out; omega)))
    have TBL2 : Hid (w.heap.size < W2.heap.size) := Lib.hid (Nat.lt_of_lt_of_le TBL1.out hb.size)
    clear hb
    go_wp2_with fail
    go_ret
    exact ⟨ret_i HZ.out.symm, HB2.out⟩
  obtain ⟨l2, hl2⟩ : ∃ l2 : Int, l2 = l1 - totT L := ⟨_, rfl⟩
  have l20 : 0 ≤ l2 := by omega
  have l21 : l2 ≤ 1048576 := by omega
  have d2 : decide (l2 < 0) = false := decide_eq_false (by omega)
  have HC2 : Hid (szL l1 L = l2) := Lib.hid (by rw [szL_yes (by omega)]; omega)
  have HL2 := Lib.hid hl2
  clear hl2
  by_cases hb3 : l2 < n3
  · have HC3 : Hid (Go.Proofs.YtjnlbhmddhpmaaaGreat.owk.szV l2 n3 = -1) := Lib.hid (Go.Proofs.YtjnlbhmddhpmaaaGreat.owk.szK_no hb3)
    have HZ : Hid (szE left C L n3 n4 = -1) := Lib.hid (szE_no (by have := HEQ.out; have := HL1.out; have := HL2.out; omega))
    go_enter Tryz.func4, Tryz.ntmps4
    go_wp2_with fail
    generalize w.alloc (.cells #[.bool q, .slice A1 n1 c1, .slice A2 n2 c2, .slice A3 n3 c3, .slice A4 n4 c4, .int .i64 z] 29) = W0 at hb tb hlt0 ⊢
    have HB0 := Lib.hid hb
    have TB0 := Lib.hid tb
    have hs0 := hb.size
    have TBL0 : Hid (w.heap.size < W0.heap.size) := Lib.hid hlt0
    clear hb tb hlt0
    refine (Go.Proofs.YtjnlbhmddhpmaaaGreat.st.count_store hn1 (H1.out.below (below_le HB0.out hB)) (by omega) h0 hl).mono ?_
    rintro e W1 ⟨rfl, hb⟩
    rw [HC1.out]
    have HB1 := Lib.hid (HB0.out.trans (hb.mono HB0.out.size))
    have hs1 := HB1.out.size
    have TB1 := Lib.hid (TB0.out.of_block (hb.block _ (by have := TBL0.out; omega)))
    have TBL1 : Hid (w.heap.size < W1.heap.size) := Lib.hid (Nat.lt_of_lt_of_le TBL0.out hb.size)
    clear hb
    obtain ⟨t0, t1, t2, t3, t4, t5⟩ := TB1.out
    go_wp2_with fail
    clear t0 t1 t2 t3 t4 t5
    refine (count_txs (w := W1) (B := B) (c := c2) (left := l1) hn2 (H2.out.below (below_le HB1.out hB)) (by omega) l10 l11).mono ?_
    rintro e W2 ⟨rfl, hb⟩
    rw [HC2.out]
    have HB2 := Lib.hid (HB1.out.trans (hb.mono HB1.out.size))
    have hs2 := HB2.out.size
    have TB2 := Lib.hid (TB1.out.of_block (hb.block _ (by have := TBL1.out; omega)))
    have TBL2 : Hid (w.heap.size < W2.heap.size) := Lib.hid (Nat.lt_of_lt_of_le TBL1.out hb.size)
    clear hb
    obtain ⟨t0, t1, t2, t3, t4, t5⟩ := TB2.out
    go_wp2_with fail
    clear t0 t1 t2 t3 t4 t5
    refine (Go.Proofs.YtjnlbhmddhpmaaaGreat.owk.count_k A3 n3 c3 l2 _ hn3 l20 l21).mono ?_
    rintro e W3 ⟨rfl, hb⟩
    rw [HC3.out]
    have HB3 := Lib.hid (HB2.out.trans (hb.mono HB2.out.size))
    have hs3 := HB3.out.size
    have TB3 := Lib.hid (TB2.out.of_block (hb.block _ (by have := TBL2.out; omega)))
    have TBL3 : Hid (w.heap.size < W3.heap.size) := Lib.hid (Nat.lt_of_lt_of_le TBL2.out hb.size)
    clear hb
    go_wp2_with fail
    go_ret
    exact ⟨ret_i HZ.out.symm, HB3.out⟩
  obtain ⟨l3, hl3⟩ : ∃ l3 : Int, l3 = l2 - n3 := ⟨_, rfl⟩
  have l30 : 0 ≤ l3 := by omega
  have l31 : l3 ≤ 1048576 := by omega
  have d3 : decide (l3 < 0) = false := decide_eq_false (by omega)
  have HC3 : Hid (Go.Proofs.YtjnlbhmddhpmaaaGreat.owk.szV l2 n3 = l3) := Lib.hid (by rw [Go.Proofs.YtjnlbhmddhpmaaaGreat.owk.szK_yes hb3]; omega)
  have HL3 := Lib.hid hl3
  clear hl3
  by_cases hb4 : l3 < n4
  · have HC4 : Hid (Go.Proofs.YtjnlbhmddhpmaaaGreat.owt.szV l3 n4 = -1) := Lib.hid (Go.Proofs.YtjnlbhmddhpmaaaGreat.owt.szK_no hb4)
    have HZ : Hid (szE left C L n3 n4 = -1) := Lib.hid (szE_no (by have := HEQ.out; have := HL1.out; have := HL2.out; have := HL3.out; omega))
    go_enter Tryz.func4, Tryz.ntmps4
    go_wp2_with fail
    generalize w.alloc (.cells #[.bool q, .slice A1 n1 c1, .slice A2 n2 c2, .slice A3 n3 c3, .slice A4 n4 c4, .int .i64 z] 29) = W0 at hb tb hlt0 ⊢
    have HB0 := Lib.hid hb
    have TB0 := Lib.hid tb
    have hs0 := hb.size
    have TBL0 : Hid (w.heap.size < W0.heap.size) := Lib.hid hlt0
    clear hb tb hlt0
    refine (Go.Proofs.YtjnlbhmddhpmaaaGreat.st.count_store hn1 (H1.out.below (below_le HB0.out hB)) (by omega) h0 hl).mono ?_
    rintro e W1 ⟨rfl, hb⟩
    rw [HC1.out]
    have HB1 := Lib.hid (HB0.out.trans (hb.mono HB0.out.size))
    have hs1 := HB1.out.size
    have TB1 := Lib.hid (TB0.out.of_block (hb.block _ (by have := TBL0.out; omega)))
    have TBL1 : Hid (w.heap.size < W1.heap.size) := Lib.hid (Nat.lt_of_lt_of_le TBL0.out hb.size)
    clear hb
    obtain ⟨t0, t1, t2, t3, t4, t5⟩ := TB1.out
    go_wp2_with fail
    clear t0 t1 t2 t3 t4 t5
    refine (count_txs (w := W1) (B := B) (c := c2) (left := l1) hn2 (H2.out.below (below_le HB1.out hB)) (by omega) l10 l11).mono ?_
    rintro e W2 ⟨rfl, hb⟩
    rw [HC2.out]
    have HB2 := Lib.hid (HB1.out.trans (hb.mono HB1.out.size))
    have hs2 := HB2.out.size
    have TB2 := Lib.hid (TB1.out.of_block (hb.block _ (by have := TBL1.out; omega)))
    have TBL2 : Hid (w.heap.size < W2.heap.size) := Lib.hid (Nat.lt_of_lt_of_le TBL1.out hb.size)
    clear hb
    obtain ⟨t0, t1, t2, t3, t4, t5⟩ := TB2.out
    go_wp2_with fail
    clear t0 t1 t2 t3 t4 t5
    refine (Go.Proofs.YtjnlbhmddhpmaaaGreat.owk.count_k A3 n3 c3 l2 _ hn3 l20 l21).mono ?_
    rintro e W3 ⟨rfl, hb⟩
    rw [HC3.out]
    have HB3 := Lib.hid (HB2.out.trans (hb.mono HB2.out.size))
    have hs3 := HB3.out.size
    have TB3 := Lib.hid (TB2.out.of_block (hb.block _ (by have := TBL2.out; omega)))
    have TBL3 : Hid (w.heap.size < W3.heap.size) := Lib.hid (Nat.lt_of_lt_of_le TBL2.out hb.size)
    clear hb
    obtain ⟨t0, t1, t2, t3, t4, t5⟩ := TB3.out
    go_wp2_with fail
    clear t0 t1 t2 t3 t4 t5
    refine (Go.Proofs.YtjnlbhmddhpmaaaGreat.owt.count_k A4 n4 c4 l3 _ hn4 l30 l31).mono ?_
    rintro e W4 ⟨rfl, hb⟩
    rw [HC4.out]
    have HB4 := Lib.hid (HB3.out.trans (hb.mono HB3.out.size))
    have hs4 := HB4.out.size
    have TB4 := Lib.hid (TB3.out.of_block (hb.block _ (by have := TBL3.out; omega)))
    have TBL4 : Hid (w.heap.size < W4.heap.size) := Lib.hid (Nat.lt_of_lt_of_le TBL3.out hb.size)
    clear hb
    go_wp2_with fail
    go_ret
    exact ⟨ret_i HZ.out.symm, HB4.out⟩
  obtain ⟨l4, hl4⟩ : ∃ l4 : Int, l4 = l3 - n4 := ⟨_, rfl⟩
  have d4 : decide (l4 < 0) = false := decide_eq_false (by omega)
  have HC4 : Hid (Go.Proofs.YtjnlbhmddhpmaaaGreat.owt.szV l3 n4 = l4) := Lib.hid (by rw [Go.Proofs.YtjnlbhmddhpmaaaGreat.owt.szK_yes hb4]; omega)
  have HZ : Hid (l4 = szE left C L n3 n4) := Lib.hid (by have := HEQ.out; have := HL1.out; have := HL2.out; have := HL3.out; rw [szE_yes (by omega)]; omega)
  clear hl4
  go_enter Tryz.func4, Tryz.ntmps4
  go_wp2_with fail
  generalize w.alloc (.cells #[.bool q, .slice A1 n1 c1, .slice A2 n2 c2, .slice A3 n3 c3, .slice A4 n4 c4, .int .i64 z] 29) = W0 at hb tb hlt0 ⊢
  have HB0 := Lib.hid hb
  have TB0 := Lib.hid tb
  have hs0 := hb.size
  have TBL0 : Hid (w.heap.size < W0.heap.size) := Lib.hid hlt0
  clear hb tb hlt0
  refine (Go.Proofs.YtjnlbhmddhpmaaaGreat.st.count_store hn1 (H1.out.below (below_le HB0.out hB)) (by omega) h0 hl).mono ?_
  rintro e W1 ⟨rfl, hb⟩
  rw [HC1.out]
  have HB1 := Lib.hid (HB0.out.trans (hb.mono HB0.out.size))
  have hs1 := HB1.out.size
  have TB1 := Lib.hid (TB0.out.of_block (hb.block _ (by have := TBL0.out; omega)))
  have TBL1 : Hid (w.heap.size < W1.heap.size) := Lib.hid (Nat.lt_of_lt_of_le TBL0.out hb.size)
  clear hb
  obtain ⟨t0, t1, t2, t3, t4, t5⟩ := TB1.out
  go_wp2_with fail
  clear t0 t1 t2 t3 t4 t5
  refine (count_txs (w := W1) (B := B) (c := c2) (left := l1) hn2 (H2.out.below (below_le HB1.out hB)) (by omega) l10 l11).mono ?_
  rintro e W2 ⟨rfl, hb⟩
  rw [HC2.out]
  have HB2 := Lib.hid (HB1.out.trans (hb.mono HB1.out.size))
  have hs2 := HB2.out.size
  have TB2 := Lib.hid (TB1.out.of_block (hb.block _ (by have := TBL1.out; omega)))
  have TBL2 : Hid (w.heap.size < W2.heap.size) := Lib.hid (Nat.lt_of_lt_of_le TBL1.out hb.size)
  clear hb
  obtain ⟨t0, t1, t2, t3, t4, t5⟩ := TB2.out
  go_wp2_with fail
  clear t0 t1 t2 t3 t4 t5
  refine (Go.Proofs.YtjnlbhmddhpmaaaGreat.owk.count_k A3 n3 c3 l2 _ hn3 l20 l21).mono ?_
  rintro e W3 ⟨rfl, hb⟩
  rw [HC3.out]
  have HB3 := Lib.hid (HB2.out.trans (hb.mono HB2.out.size))
  have hs3 := HB3.out.size
  have TB3 := Lib.hid (TB2.out.of_block (hb.block _ (by have := TBL2.out; omega)))
  have TBL3 : Hid (w.heap.size < W3.heap.size) := Lib.hid (Nat.lt_of_lt_of_le TBL2.out hb.size)
  clear hb
  obtain ⟨t0, t1, t2, t3, t4, t5⟩ := TB3.out
  go_wp2_with fail
  clear t0 t1 t2 t3 t4 t5
  refine (Go.Proofs.YtjnlbhmddhpmaaaGreat.owt.count_k A4 n4 c4 l3 _ hn4 l30 l31).mono ?_
  rintro e W4 ⟨rfl, hb⟩
  rw [HC4.out]
  have HB4 := Lib.hid (HB3.out.trans (hb.mono HB3.out.size))
  have hs4 := HB4.out.size
  have TB4 := Lib.hid (TB3.out.of_block (hb.block _ (by have := TBL3.out; omega)))
  have TBL4 : Hid (w.heap.size < W4.heap.size) := Lib.hid (Nat.lt_of_lt_of_le TBL3.out hb.size)
  clear hb
  go_wp2_with fail
  go_ret
  exact ⟨ret_i HZ.out, HB4.out⟩
/-! the comparison -/
set_option maxHeartbeats 1600000 in
theorem same_eg {w : World} {B n1 c1 n2 c2 n3 c3 n4 c4 d1 d2 d3 d4 : Nat} {A1 A2 A3 A4 B1 B2 B3 B4 : Option Addr} {C : List (List Ver)} {L : List Tr} {K X : List E2} (q : Bool) (z : Int) (hn1 : n1 ≤ 2097152) (hn2 : n2 ≤ 2097152) (hn3 : n3 ≤ 2097152) (hn4 : n4 ≤ 2097152) (h : ER w B A1 n1 C A2 n2 L A3 n3 K A4 n4 X) (h' : ER w B B1 n1 C B2 n2 L B3 n3 K B4 n4 X) (hB : B ≤ w.heap.size) :
    Calls Tryz.prog 8 #[.agg #[.bool q, .slice A1 n1 c1, .slice A2 n2 c2, .slice A3 n3 c3, .slice A4 n4 c4, .int .i64 z], .agg #[.bool q, .slice B1 n1 d1, .slice B2 n2 d2, .slice B3 n3 d3, .slice B4 n4 d4, .int .i64 z]] w fun e w' => e = .returned (.bool true) ∧ Below w.heap.size w w' := by
  have H := Lib.hid h
  have H' := Lib.hid h'
  clear h h'
  have ta := (EB.new w q (.slice A1 n1 c1) (.slice A2 n2 c2) (.slice A3 n3 c3) (.slice A4 n4 c4) z 39).keep (by simp) (new1 _ (.cells #[.bool q, .slice B1 n1 d1, .slice B2 n2 d2, .slice B3 n3 d3, .slice B4 n4 d4, .int .i64 z] 39))
  have tb := EB.new (w.alloc (.cells #[.bool q, .slice A1 n1 c1, .slice A2 n2 c2, .slice A3 n3 c3, .slice A4 n4 c4, .int .i64 z] 39)) q (.slice B1 n1 d1) (.slice B2 n2 d2) (.slice B3 n3 d3) (.slice B4 n4 d4) z 39
  rw [show (w.alloc _).heap.size = w.heap.size + 1 by simp] at tb
  have hb := new2 w (.cells #[.bool q, .slice A1 n1 c1, .slice A2 n2 c2, .slice A3 n3 c3, .slice A4 n4 c4, .int .i64 z] 39) (.cells #[.bool q, .slice B1 n1 d1, .slice B2 n2 d2, .slice B3 n3 d3, .slice B4 n4 d4, .int .i64 z] 39)
  have hs : ((w.alloc (.cells #[.bool q, .slice A1 n1 c1, .slice A2 n2 c2, .slice A3 n3 c3, .slice A4 n4 c4, .int .i64 z] 39)).alloc (.cells #[.bool q, .slice B1 n1 d1, .slice B2 n2 d2, .slice B3 n3 d3, .slice B4 n4 d4, .int .i64 z] 39)).heap.size = w.heap.size + 2 := by simp
  go_enter Tryz.func8, Tryz.ntmps8
  go_wp2_with fail
  generalize (w.alloc _).alloc _ = W0 at ta tb hb hs ⊢
  have HB0 := Lib.hid hb
  have TA0 := Lib.hid ta
  have TC0 := Lib.hid tb
  have hs0 : w.heap.size + 2 ≤ W0.heap.size := by omega
  clear hb ta tb hs
  refine (Go.Proofs.YtjnlbhmddhpmaaaGreat.st.same_store (B := B) (by omega) (H.out.below (below_le HB0.out hB)).s (H'.out.below (below_le HB0.out hB)).s (by omega)).mono ?_
  rintro e W1 ⟨rfl, hb⟩
  have hs1 := hb.size
  have HB1 := Lib.hid (HB0.out.trans (hb.mono HB0.out.size))
  have TA1 := Lib.hid (TA0.out.of_block (hb.block _ (by omega)))
  have TC1 := Lib.hid (TC0.out.of_block (hb.block _ (by omega)))
  clear hb
  obtain ⟨t0, t1, t2, t3, t4, t5⟩ := TA1.out
  obtain ⟨v0, v1, v2, v3, v4, v5⟩ := TC1.out
  go_wp2_with fail
  clear t0 t1 t2 t3 t4 t5 v0 v1 v2 v3 v4 v5
  refine (same_txs (B := B) (by omega) (ts_wide (H.out.below (below_le HB1.out hB)).t) (ts_wide (H'.out.below (below_le HB1.out hB)).t) (by omega)).mono ?_
  rintro e W2 ⟨rfl, hb⟩
  have hs2 := hb.size
  have HB2 := Lib.hid (HB1.out.trans (hb.mono HB1.out.size))
  have TA2 := Lib.hid (TA1.out.of_block (hb.block _ (by omega)))
  have TC2 := Lib.hid (TC1.out.of_block (hb.block _ (by omega)))
  clear hb
  obtain ⟨t0, t1, t2, t3, t4, t5⟩ := TA2.out
  obtain ⟨v0, v1, v2, v3, v4, v5⟩ := TC2.out
  go_wp2_with fail
  clear t0 t1 t2 t3 t4 t5 v0 v1 v2 v3 v4 v5
  refine (Go.Proofs.YtjnlbhmddhpmaaaGreat.rLock.same (B := B) (by omega) (H.out.below (below_le HB2.out hB)).k (H'.out.below (below_le HB2.out hB)).k (by omega)).mono ?_
  rintro e W3 ⟨rfl, hb⟩
  have hs3 := hb.size
  have HB3 := Lib.hid (HB2.out.trans (hb.mono HB2.out.size))
  have TA3 := Lib.hid (TA2.out.of_block (hb.block _ (by omega)))
  have TC3 := Lib.hid (TC2.out.of_block (hb.block _ (by omega)))
  clear hb
  obtain ⟨t0, t1, t2, t3, t4, t5⟩ := TA3.out
  obtain ⟨v0, v1, v2, v3, v4, v5⟩ := TC3.out
  go_wp2_with fail
  clear t0 t1 t2 t3 t4 t5 v0 v1 v2 v3 v4 v5
  refine (Go.Proofs.YtjnlbhmddhpmaaaGreat.rWait.same (B := B) (by omega) (H.out.below (below_le HB3.out hB)).x (H'.out.below (below_le HB3.out hB)).x (by omega)).mono ?_
  rintro e W4 ⟨rfl, hb⟩
  have hs4 := hb.size
  have HB4 := Lib.hid (HB3.out.trans (hb.mono HB3.out.size))
  have TA4 := Lib.hid (TA3.out.of_block (hb.block _ (by omega)))
  have TC4 := Lib.hid (TC3.out.of_block (hb.block _ (by omega)))
  clear hb
  obtain ⟨t0, t1, t2, t3, t4, t5⟩ := TA4.out
  obtain ⟨v0, v1, v2, v3, v4, v5⟩ := TC4.out
  go_wp2_with fail
  go_ret
  exact ⟨rfl, HB4.out⟩
/-! the copy -/
def ef (q : Bool) (u1 u2 u3 u4 : Value) (z : Int) : Nat → Value
  | 0 => .bool q
  | 1 => u1
  | 2 => u2
  | 3 => u3
  | 4 => u4
  | _ => .int .i64 z
theorem six_e (q : Bool) (u1 u2 u3 u4 : Value) (z : Int) : ∀ i, i < 6 → (#[.bool q, u1, u2, u3, u4, .int .i64 z] : Array Value)[i]? = some (ef q u1 u2 u3 u4 z i) := by
  intro i hi
  match i, hi with
  | 0, _ => rfl
  | 1, _ => rfl
  | 2, _ => rfl
  | 3, _ => rfl
  | 4, _ => rfl
  | 5, _ => rfl
theorem fr_set (W : World) (p : Addr) (v : Value) : FR p.block (p.block + 1) W (W.setCell p v) := fr_off ((Off.refl p.block W).setCell rfl v)
/-- a copy of its own -/
def CopE (q : Bool) (n1 : Nat) (C : List (List Ver)) (n2 : Nat) (L : List Tr) (n3 : Nat) (K : List E2) (n4 : Nat) (X : List E2) (z : Int) (w : World) (e : Ending) (w' : World) : Prop :=
  ∃ N1 N2 N3 N4, e = .returned (.agg #[.bool q, .slice (some ⟨N1, 0, none⟩) n1 n1, .slice (some ⟨N2, 0, none⟩) n2 n2, .slice (some ⟨N3, 0, none⟩) n3 n3, .slice (some ⟨N4, 0, none⟩) n4 n4, .int .i64 z]) ∧ EO w' w.heap.size w'.heap.size (some ⟨N1, 0, none⟩) n1 C (some ⟨N2, 0, none⟩) n2 L (some ⟨N3, 0, none⟩) n3 K (some ⟨N4, 0, none⟩) n4 X ∧ Below w.heap.size w w'
set_option maxRecDepth 100000 in
set_option maxHeartbeats 3200000 in
theorem copy_eg {w : World} {B n1 c1 n2 c2 n3 c3 n4 c4 : Nat} {A1 A2 A3 A4 : Option Addr} {C : List (List Ver)} {L : List Tr} {K X : List E2} (q : Bool) (z : Int) (hn1 : n1 ≤ 2097152) (hn2 : n2 ≤ 2097152) (hn3 : n3 ≤ 2097152) (hn4 : n4 ≤ 2097152) (hc : cnt C ≤ 2097152) (hl : cntT L ≤ 2097152) (h : ER w B A1 n1 C A2 n2 L A3 n3 K A4 n4 X) (hB : B ≤ w.heap.size) :
    Calls Tryz.prog 6 #[.agg #[.bool q, .slice A1 n1 c1, .slice A2 n2 c2, .slice A3 n3 c3, .slice A4 n4 c4, .int .i64 z]] w (CopE q n1 C n2 L n3 K n4 X z w) := by
  have H := Lib.hid h
  clear h
  have ta := ((EB.new w q (.slice A1 n1 c1) (.slice A2 n2 c2) (.slice A3 n3 c3) (.slice A4 n4 c4) z 29).keep (by simp) (new1 (w.alloc (.cells #[.bool q, .slice A1 n1 c1, .slice A2 n2 c2, .slice A3 n3 c3, .slice A4 n4 c4, .int .i64 z] 29)) (.cells #[.bool false, .slice none 0 0, .slice none 0 0, .slice none 0 0, .slice none 0 0, .int .i64 0] 39))).keep (by simp; omega) (new1 ((w.alloc (.cells #[.bool q, .slice A1 n1 c1, .slice A2 n2 c2, .slice A3 n3 c3, .slice A4 n4 c4, .int .i64 z] 29)).alloc (.cells #[.bool false, .slice none 0 0, .slice none 0 0, .slice none 0 0, .slice none 0 0, .int .i64 0] 39)) (.cells #[.bool q, .slice none 0 0, .slice none 0 0, .slice none 0 0, .slice none 0 0, .int .i64 0] 39))
  have r1 := (World.rowIs_alloc (w.alloc (.cells #[.bool q, .slice A1 n1 c1, .slice A2 n2 c2, .slice A3 n3 c3, .slice A4 n4 c4, .int .i64 z] 29)) #[.bool false, .slice none 0 0, .slice none 0 0, .slice none 0 0, .slice none 0 0, .int .i64 0] 39 (ef false (.slice none 0 0) (.slice none 0 0) (.slice none 0 0) (.slice none 0 0) 0) (six_e _ _ _ _ _ _)).alloc (.cells #[.bool q, .slice none 0 0, .slice none 0 0, .slice none 0 0, .slice none 0 0, .int .i64 0] 39)
  have r2 := World.rowIs_alloc ((w.alloc (.cells #[.bool q, .slice A1 n1 c1, .slice A2 n2 c2, .slice A3 n3 c3, .slice A4 n4 c4, .int .i64 z] 29)).alloc (.cells #[.bool false, .slice none 0 0, .slice none 0 0, .slice none 0 0, .slice none 0 0, .int .i64 0] 39)) #[.bool q, .slice none 0 0, .slice none 0 0, .slice none 0 0, .slice none 0 0, .int .i64 0] 39 (ef q (.slice none 0 0) (.slice none 0 0) (.slice none 0 0) (.slice none 0 0) 0) (six_e _ _ _ _ _ _)
  have hb := new3 w (.cells #[.bool q, .slice A1 n1 c1, .slice A2 n2 c2, .slice A3 n3 c3, .slice A4 n4 c4, .int .i64 z] 29) (.cells #[.bool false, .slice none 0 0, .slice none 0 0, .slice none 0 0, .slice none 0 0, .int .i64 0] 39) (.cells #[.bool q, .slice none 0 0, .slice none 0 0, .slice none 0 0, .slice none 0 0, .int .i64 0] 39)
  have hs : (((w.alloc (.cells #[.bool q, .slice A1 n1 c1, .slice A2 n2 c2, .slice A3 n3 c3, .slice A4 n4 c4, .int .i64 z] 29)).alloc (.cells #[.bool false, .slice none 0 0, .slice none 0 0, .slice none 0 0, .slice none 0 0, .int .i64 0] 39)).alloc (.cells #[.bool q, .slice none 0 0, .slice none 0 0, .slice none 0 0, .slice none 0 0, .int .i64 0] 39)).heap.size = w.heap.size + 3 := by simp
  rw [show (w.alloc (.cells #[.bool q, .slice A1 n1 c1, .slice A2 n2 c2, .slice A3 n3 c3, .slice A4 n4 c4, .int .i64 z] 29)).heap.size = w.heap.size + 1 by simp] at r1
  rw [show ((w.alloc (.cells #[.bool q, .slice A1 n1 c1, .slice A2 n2 c2, .slice A3 n3 c3, .slice A4 n4 c4, .int .i64 z] 29)).alloc (.cells #[.bool false, .slice none 0 0, .slice none 0 0, .slice none 0 0, .slice none 0 0, .int .i64 0] 39)).heap.size = w.heap.size + 1 + 1 by simp] at r2
  go_enter Tryz.func6, Tryz.ntmps6
  go_wp2_with fail
  generalize (((w.alloc (.cells #[.bool q, .slice A1 n1 c1, .slice A2 n2 c2, .slice A3 n3 c3, .slice A4 n4 c4, .int .i64 z] 29)).alloc (.cells #[.bool false, .slice none 0 0, .slice none 0 0, .slice none 0 0, .slice none 0 0, .int .i64 0] 39)).alloc (.cells #[.bool q, .slice none 0 0, .slice none 0 0, .slice none 0 0, .slice none 0 0, .int .i64 0] 39)) = W0 at ta r1 r2 hb hs ⊢
  have HB0 := Lib.hid hb
  have TA0 := Lib.hid ta
  have R1_0 := Lib.hid r1
  have R2_0 := Lib.hid r2
  have hs0 : w.heap.size + 3 ≤ W0.heap.size := by omega
  clear hb ta r1 r2 hs
  refine (Go.Proofs.YtjnlbhmddhpmaaaGreat.st.copy_storeR hn1 hc (H.out.below (below_le HB0.out hB)).s (by omega)).mono ?_
  rintro e W1 ⟨N1, rfl, hN, hR, hb⟩
  have hs1 := hb.size
  have O1_1 : Hid (SO W1 (w.heap.size + 3) W1.heap.size (some ⟨N1, 0, none⟩) n1 C) := Lib.hid (SO.of_rr hR (H.out.s.1) (by omega) (Nat.le_refl _) hc)
  have HB1 := Lib.hid (HB0.out.trans (hb.mono HB0.out.size))
  have TA1 := Lib.hid (TA0.out.of_block (hb.block _ (by omega)))
  have R1_1 := Lib.hid (R1_0.out.of_block (hb.block _ (by omega)))
  have R2_1 := Lib.hid (R2_0.out.of_block (hb.block _ (by omega)))
  clear hb hR hN
  have c1 := R2_1.out.cell (i := 1) (show 1 < 6 by decide)
  have g1 := R2_1.out.frozen 1
  obtain ⟨t0, t1, t2, t3, t4, t5⟩ := TA1.out
  go_wp2_with fail
  clear t0 t1 t2 t3 t4 t5 c1 g1
  have hf := fr_set W1 ⟨w.heap.size + 1 + 1, 1, none⟩ (.slice (some ⟨N1, 0, none⟩) n1 n1)
  have hs2 : W1.heap.size ≤ (W1.setCell ⟨w.heap.size + 1 + 1, 1, none⟩ (.slice (some ⟨N1, 0, none⟩) n1 n1)).heap.size := hf.size
  have hq : (W1.setCell ⟨w.heap.size + 1 + 1, 1, none⟩ (.slice (some ⟨N1, 0, none⟩) n1 n1)).heap.size ≤ W1.heap.size := by simp
  have ta := TA1.out.fr hf (.inl (by simp only; omega)) (by omega)
  have r1 := R1_1.out.setOther (a := ⟨w.heap.size + 1 + 1, 1, none⟩) (by simp) (.slice (some ⟨N1, 0, none⟩) n1 n1)
  have r2 := R2_1.out.set 1 (.slice (some ⟨N1, 0, none⟩) n1 n1)
  have hb := HB1.out.setCell (p := ⟨w.heap.size + 1 + 1, 1, none⟩) (by simp only; omega) (.slice (some ⟨N1, 0, none⟩) n1 n1)
  have o1 := (O1_1.out.fr hf (.inr (by simp only; omega)) (Nat.le_refl _)).wide (Nat.le_refl _) hs2
  generalize W1.setCell _ _ = W2 at hf hs2 hq ta r1 r2 hb o1 ⊢
  have TA2 := Lib.hid ta
  have R1_2 := Lib.hid r1
  have R2_2 := Lib.hid r2
  have HB2 := Lib.hid hb
  have O1_2 := Lib.hid o1
  clear O1_1 o1
  clear hf hq ta r1 r2 hb
  refine (copy_txs hn2 hl (H.out.below (below_le HB2.out hB)).t (by omega)).mono ?_
  rintro e W3 ⟨N2, rfl, hN, hNl, hR, hb⟩
  have hs3 := hb.size
  have O2_3 : Hid (OwL W3 (w.heap.size + 3) W3.heap.size (some ⟨N2, 0, none⟩) n2 L) := Lib.hid (OwL.of_rt hR (H.out.t.1) (by omega) (Nat.le_refl _))
  have O1_3 := Lib.hid ((O1_2.out.fr (FR.of_below (lo := W2.heap.size) (hi := W2.heap.size) hb) (.inl (by omega)) (by omega)).wide (Nat.le_refl _) hs3)
  clear O1_2
  have HB3 := Lib.hid (HB2.out.trans (hb.mono HB2.out.size))
  have TA3 := Lib.hid (TA2.out.of_block (hb.block _ (by omega)))
  have R1_3 := Lib.hid (R1_2.out.of_block (hb.block _ (by omega)))
  have R2_3 := Lib.hid (R2_2.out.of_block (hb.block _ (by omega)))
  clear hb hR hN hNl
  have c2 := R2_3.out.cell (i := 2) (show 2 < 6 by decide)
  have g2 := R2_3.out.frozen 2
  obtain ⟨t0, t1, t2, t3, t4, t5⟩ := TA3.out
  go_wp2_with fail
  clear t0 t1 t2 t3 t4 t5 c2 g2
  have hf := fr_set W3 ⟨w.heap.size + 1 + 1, 2, none⟩ (.slice (some ⟨N2, 0, none⟩) n2 n2)
  have hs4 : W3.heap.size ≤ (W3.setCell ⟨w.heap.size + 1 + 1, 2, none⟩ (.slice (some ⟨N2, 0, none⟩) n2 n2)).heap.size := hf.size
  have hq : (W3.setCell ⟨w.heap.size + 1 + 1, 2, none⟩ (.slice (some ⟨N2, 0, none⟩) n2 n2)).heap.size ≤ W3.heap.size := by simp
  have ta := TA3.out.fr hf (.inl (by simp only; omega)) (by omega)
  have r1 := R1_3.out.setOther (a := ⟨w.heap.size + 1 + 1, 2, none⟩) (by simp) (.slice (some ⟨N2, 0, none⟩) n2 n2)
  have r2 := R2_3.out.set 2 (.slice (some ⟨N2, 0, none⟩) n2 n2)
  have hb := HB3.out.setCell (p := ⟨w.heap.size + 1 + 1, 2, none⟩) (by simp only; omega) (.slice (some ⟨N2, 0, none⟩) n2 n2)
  have o1 := (O1_3.out.fr hf (.inr (by simp only; omega)) (Nat.le_refl _)).wide (Nat.le_refl _) hs4
  have o2 := (O2_3.out.fr hf (.inr (by simp only; omega)) (Nat.le_refl _)).wide (Nat.le_refl _) hs4
  generalize W3.setCell _ _ = W4 at hf hs4 hq ta r1 r2 hb o1 o2 ⊢
  have TA4 := Lib.hid ta
  have R1_4 := Lib.hid r1
  have R2_4 := Lib.hid r2
  have HB4 := Lib.hid hb
  have O1_4 := Lib.hid o1
  clear O1_3 o1
  have O2_4 := Lib.hid o2
  clear O2_3 o2
  clear hf hq ta r1 r2 hb
  refine (Go.Proofs.YtjnlbhmddhpmaaaGreat.owk.own_k hn3 (H.out.below (below_le HB4.out hB)).k (by omega)).mono ?_
  rintro e W5 ⟨N3, rfl, hR, hb⟩
  have hs5 := hb.size
  have O3_5 : Hid (OwS 60 W5 (w.heap.size + 3) W5.heap.size (some ⟨N3, 0, none⟩) n3 K) := Lib.hid (hR.wide (by omega) (Nat.le_refl _))
  have O1_5 := Lib.hid ((O1_4.out.fr (FR.of_below (lo := W4.heap.size) (hi := W4.heap.size) hb) (.inl (by omega)) (by omega)).wide (Nat.le_refl _) hs5)
  clear O1_4
  have O2_5 := Lib.hid ((O2_4.out.fr (FR.of_below (lo := W4.heap.size) (hi := W4.heap.size) hb) (.inl (by omega)) (by omega)).wide (Nat.le_refl _) hs5)
  clear O2_4
  have HB5 := Lib.hid (HB4.out.trans (hb.mono HB4.out.size))
  have TA5 := Lib.hid (TA4.out.of_block (hb.block _ (by omega)))
  have R1_5 := Lib.hid (R1_4.out.of_block (hb.block _ (by omega)))
  have R2_5 := Lib.hid (R2_4.out.of_block (hb.block _ (by omega)))
  clear hb hR
  have c3 := R2_5.out.cell (i := 3) (show 3 < 6 by decide)
  have g3 := R2_5.out.frozen 3
  obtain ⟨t0, t1, t2, t3, t4, t5⟩ := TA5.out
  go_wp2_with fail
  clear t0 t1 t2 t3 t4 t5 c3 g3
  have hf := fr_set W5 ⟨w.heap.size + 1 + 1, 3, none⟩ (.slice (some ⟨N3, 0, none⟩) n3 n3)
  have hs6 : W5.heap.size ≤ (W5.setCell ⟨w.heap.size + 1 + 1, 3, none⟩ (.slice (some ⟨N3, 0, none⟩) n3 n3)).heap.size := hf.size
  have hq : (W5.setCell ⟨w.heap.size + 1 + 1, 3, none⟩ (.slice (some ⟨N3, 0, none⟩) n3 n3)).heap.size ≤ W5.heap.size := by simp
  have ta := TA5.out.fr hf (.inl (by simp only; omega)) (by omega)
  have r1 := R1_5.out.setOther (a := ⟨w.heap.size + 1 + 1, 3, none⟩) (by simp) (.slice (some ⟨N3, 0, none⟩) n3 n3)
  have r2 := R2_5.out.set 3 (.slice (some ⟨N3, 0, none⟩) n3 n3)
  have hb := HB5.out.setCell (p := ⟨w.heap.size + 1 + 1, 3, none⟩) (by simp only; omega) (.slice (some ⟨N3, 0, none⟩) n3 n3)
  have o1 := (O1_5.out.fr hf (.inr (by simp only; omega)) (Nat.le_refl _)).wide (Nat.le_refl _) hs6
  have o2 := (O2_5.out.fr hf (.inr (by simp only; omega)) (Nat.le_refl _)).wide (Nat.le_refl _) hs6
  have o3 := (O3_5.out.fr hf (.inr (by simp only; omega)) (Nat.le_refl _)).wide (Nat.le_refl _) hs6
  generalize W5.setCell _ _ = W6 at hf hs6 hq ta r1 r2 hb o1 o2 o3 ⊢
  have TA6 := Lib.hid ta
  have R1_6 := Lib.hid r1
  have R2_6 := Lib.hid r2
  have HB6 := Lib.hid hb
  have O1_6 := Lib.hid o1
  clear O1_5 o1
  have O2_6 := Lib.hid o2
  clear O2_5 o2
  have O3_6 := Lib.hid o3
  clear O3_5 o3
  clear hf hq ta r1 r2 hb
  refine (Go.Proofs.YtjnlbhmddhpmaaaGreat.owt.own_k hn4 (H.out.below (below_le HB6.out hB)).x (by omega)).mono ?_
  rintro e W7 ⟨N4, rfl, hR, hb⟩
  have hs7 := hb.size
  have O4_7 : Hid (OwS 62 W7 (w.heap.size + 3) W7.heap.size (some ⟨N4, 0, none⟩) n4 X) := Lib.hid (hR.wide (by omega) (Nat.le_refl _))
  have O1_7 := Lib.hid ((O1_6.out.fr (FR.of_below (lo := W6.heap.size) (hi := W6.heap.size) hb) (.inl (by omega)) (by omega)).wide (Nat.le_refl _) hs7)
  clear O1_6
  have O2_7 := Lib.hid ((O2_6.out.fr (FR.of_below (lo := W6.heap.size) (hi := W6.heap.size) hb) (.inl (by omega)) (by omega)).wide (Nat.le_refl _) hs7)
  clear O2_6
  have O3_7 := Lib.hid ((O3_6.out.fr (FR.of_below (lo := W6.heap.size) (hi := W6.heap.size) hb) (.inl (by omega)) (by omega)).wide (Nat.le_refl _) hs7)
  clear O3_6
  have HB7 := Lib.hid (HB6.out.trans (hb.mono HB6.out.size))
  have TA7 := Lib.hid (TA6.out.of_block (hb.block _ (by omega)))
  have R1_7 := Lib.hid (R1_6.out.of_block (hb.block _ (by omega)))
  have R2_7 := Lib.hid (R2_6.out.of_block (hb.block _ (by omega)))
  clear hb hR
  have c4 := R2_7.out.cell (i := 4) (show 4 < 6 by decide)
  have g4 := R2_7.out.frozen 4
  obtain ⟨t0, t1, t2, t3, t4, t5⟩ := TA7.out
  have c0 : W7.cell? ⟨w.heap.size + 1 + 1, 0, none⟩ = some (.bool q) := R2_7.out.cell (show 0 < 6 by decide)
  have c1 : W7.cell? ⟨w.heap.size + 1 + 1, 1, none⟩ = some (.slice (some ⟨N1, 0, none⟩) n1 n1) := R2_7.out.cell (show 1 < 6 by decide)
  have c2 : W7.cell? ⟨w.heap.size + 1 + 1, 2, none⟩ = some (.slice (some ⟨N2, 0, none⟩) n2 n2) := R2_7.out.cell (show 2 < 6 by decide)
  have c3 : W7.cell? ⟨w.heap.size + 1 + 1, 3, none⟩ = some (.slice (some ⟨N3, 0, none⟩) n3 n3) := R2_7.out.cell (show 3 < 6 by decide)
  have c5 : W7.cell? ⟨w.heap.size + 1 + 1, 5, none⟩ = some (.int .i64 0) := R2_7.out.cell (show 5 < 6 by decide)
  have g5 := R2_7.out.frozen 5
  have y0 : W7.cell? ⟨w.heap.size + 1, 0, none⟩ = some (.bool false) := R1_7.out.cell (show 0 < 6 by decide)
  have x0 := R1_7.out.frozen 0
  have y1 : W7.cell? ⟨w.heap.size + 1, 1, none⟩ = some (.slice none 0 0) := R1_7.out.cell (show 1 < 6 by decide)
  have x1 := R1_7.out.frozen 1
  have y2 : W7.cell? ⟨w.heap.size + 1, 2, none⟩ = some (.slice none 0 0) := R1_7.out.cell (show 2 < 6 by decide)
  have x2 := R1_7.out.frozen 2
  have y3 : W7.cell? ⟨w.heap.size + 1, 3, none⟩ = some (.slice none 0 0) := R1_7.out.cell (show 3 < 6 by decide)
  have x3 := R1_7.out.frozen 3
  have y4 : W7.cell? ⟨w.heap.size + 1, 4, none⟩ = some (.slice none 0 0) := R1_7.out.cell (show 4 < 6 by decide)
  have x4 := R1_7.out.frozen 4
  have y5 : W7.cell? ⟨w.heap.size + 1, 5, none⟩ = some (.int .i64 0) := R1_7.out.cell (show 5 < 6 by decide)
  have x5 := R1_7.out.frozen 5
  go_wp2_with fail
  have r1 := ((((((((R1_7.out.setOther (a := ⟨w.heap.size + 1 + 1, 4, none⟩) (by simp) (.slice (some ⟨N4, 0, none⟩) n4 n4)).setOther (a := ⟨w.heap.size + 1 + 1, 5, none⟩) (by simp) (.int .i64 z)).set 0 (.bool q)).set 1 (.slice (some ⟨N1, 0, none⟩) n1 n1)).set 2 (.slice (some ⟨N2, 0, none⟩) n2 n2)).set 3 (.slice (some ⟨N3, 0, none⟩) n3 n3)).set 4 (.slice (some ⟨N4, 0, none⟩) n4 n4)).set 5 (.int .i64 z))
  have hb := ((((((((HB7.out.setCell (p := ⟨w.heap.size + 1 + 1, 4, none⟩) (by simp only; omega) (.slice (some ⟨N4, 0, none⟩) n4 n4)).setCell (p := ⟨w.heap.size + 1 + 1, 5, none⟩) (by simp only; omega) (.int .i64 z)).setCell (p := ⟨w.heap.size + 1, 0, none⟩) (by simp only; omega) (.bool q)).setCell (p := ⟨w.heap.size + 1, 1, none⟩) (by simp only; omega) (.slice (some ⟨N1, 0, none⟩) n1 n1)).setCell (p := ⟨w.heap.size + 1, 2, none⟩) (by simp only; omega) (.slice (some ⟨N2, 0, none⟩) n2 n2)).setCell (p := ⟨w.heap.size + 1, 3, none⟩) (by simp only; omega) (.slice (some ⟨N3, 0, none⟩) n3 n3)).setCell (p := ⟨w.heap.size + 1, 4, none⟩) (by simp only; omega) (.slice (some ⟨N4, 0, none⟩) n4 n4)).setCell (p := ⟨w.heap.size + 1, 5, none⟩) (by simp only; omega) (.int .i64 z))
  have o1 := ((((((((O1_7.out.fr (fr_set _ ⟨w.heap.size + 1 + 1, 4, none⟩ (.slice (some ⟨N4, 0, none⟩) n4 n4)) (.inr (by simp only; omega)) (by simp)).fr (fr_set _ ⟨w.heap.size + 1 + 1, 5, none⟩ (.int .i64 z)) (.inr (by simp only; omega)) (by simp)).fr (fr_set _ ⟨w.heap.size + 1, 0, none⟩ (.bool q)) (.inr (by simp only; omega)) (by simp)).fr (fr_set _ ⟨w.heap.size + 1, 1, none⟩ (.slice (some ⟨N1, 0, none⟩) n1 n1)) (.inr (by simp only; omega)) (by simp)).fr (fr_set _ ⟨w.heap.size + 1, 2, none⟩ (.slice (some ⟨N2, 0, none⟩) n2 n2)) (.inr (by simp only; omega)) (by simp)).fr (fr_set _ ⟨w.heap.size + 1, 3, none⟩ (.slice (some ⟨N3, 0, none⟩) n3 n3)) (.inr (by simp only; omega)) (by simp)).fr (fr_set _ ⟨w.heap.size + 1, 4, none⟩ (.slice (some ⟨N4, 0, none⟩) n4 n4)) (.inr (by simp only; omega)) (by simp)).fr (fr_set _ ⟨w.heap.size + 1, 5, none⟩ (.int .i64 z)) (.inr (by simp only; omega)) (by simp))
  have o2 := ((((((((O2_7.out.fr (fr_set _ ⟨w.heap.size + 1 + 1, 4, none⟩ (.slice (some ⟨N4, 0, none⟩) n4 n4)) (.inr (by simp only; omega)) (by simp)).fr (fr_set _ ⟨w.heap.size + 1 + 1, 5, none⟩ (.int .i64 z)) (.inr (by simp only; omega)) (by simp)).fr (fr_set _ ⟨w.heap.size + 1, 0, none⟩ (.bool q)) (.inr (by simp only; omega)) (by simp)).fr (fr_set _ ⟨w.heap.size + 1, 1, none⟩ (.slice (some ⟨N1, 0, none⟩) n1 n1)) (.inr (by simp only; omega)) (by simp)).fr (fr_set _ ⟨w.heap.size + 1, 2, none⟩ (.slice (some ⟨N2, 0, none⟩) n2 n2)) (.inr (by simp only; omega)) (by simp)).fr (fr_set _ ⟨w.heap.size + 1, 3, none⟩ (.slice (some ⟨N3, 0, none⟩) n3 n3)) (.inr (by simp only; omega)) (by simp)).fr (fr_set _ ⟨w.heap.size + 1, 4, none⟩ (.slice (some ⟨N4, 0, none⟩) n4 n4)) (.inr (by simp only; omega)) (by simp)).fr (fr_set _ ⟨w.heap.size + 1, 5, none⟩ (.int .i64 z)) (.inr (by simp only; omega)) (by simp))
  have o3 := ((((((((O3_7.out.fr (fr_set _ ⟨w.heap.size + 1 + 1, 4, none⟩ (.slice (some ⟨N4, 0, none⟩) n4 n4)) (.inr (by simp only; omega)) (by simp)).fr (fr_set _ ⟨w.heap.size + 1 + 1, 5, none⟩ (.int .i64 z)) (.inr (by simp only; omega)) (by simp)).fr (fr_set _ ⟨w.heap.size + 1, 0, none⟩ (.bool q)) (.inr (by simp only; omega)) (by simp)).fr (fr_set _ ⟨w.heap.size + 1, 1, none⟩ (.slice (some ⟨N1, 0, none⟩) n1 n1)) (.inr (by simp only; omega)) (by simp)).fr (fr_set _ ⟨w.heap.size + 1, 2, none⟩ (.slice (some ⟨N2, 0, none⟩) n2 n2)) (.inr (by simp only; omega)) (by simp)).fr (fr_set _ ⟨w.heap.size + 1, 3, none⟩ (.slice (some ⟨N3, 0, none⟩) n3 n3)) (.inr (by simp only; omega)) (by simp)).fr (fr_set _ ⟨w.heap.size + 1, 4, none⟩ (.slice (some ⟨N4, 0, none⟩) n4 n4)) (.inr (by simp only; omega)) (by simp)).fr (fr_set _ ⟨w.heap.size + 1, 5, none⟩ (.int .i64 z)) (.inr (by simp only; omega)) (by simp))
  have o4 := ((((((((O4_7.out.fr (fr_set _ ⟨w.heap.size + 1 + 1, 4, none⟩ (.slice (some ⟨N4, 0, none⟩) n4 n4)) (.inr (by simp only; omega)) (by simp)).fr (fr_set _ ⟨w.heap.size + 1 + 1, 5, none⟩ (.int .i64 z)) (.inr (by simp only; omega)) (by simp)).fr (fr_set _ ⟨w.heap.size + 1, 0, none⟩ (.bool q)) (.inr (by simp only; omega)) (by simp)).fr (fr_set _ ⟨w.heap.size + 1, 1, none⟩ (.slice (some ⟨N1, 0, none⟩) n1 n1)) (.inr (by simp only; omega)) (by simp)).fr (fr_set _ ⟨w.heap.size + 1, 2, none⟩ (.slice (some ⟨N2, 0, none⟩) n2 n2)) (.inr (by simp only; omega)) (by simp)).fr (fr_set _ ⟨w.heap.size + 1, 3, none⟩ (.slice (some ⟨N3, 0, none⟩) n3 n3)) (.inr (by simp only; omega)) (by simp)).fr (fr_set _ ⟨w.heap.size + 1, 4, none⟩ (.slice (some ⟨N4, 0, none⟩) n4 n4)) (.inr (by simp only; omega)) (by simp)).fr (fr_set _ ⟨w.heap.size + 1, 5, none⟩ (.int .i64 z)) (.inr (by simp only; omega)) (by simp))
  have hq : W7.heap.size ≤ (World.setCell (World.setCell (World.setCell (World.setCell (World.setCell (World.setCell (World.setCell (World.setCell W7 ⟨w.heap.size + 1 + 1, 4, none⟩ (.slice (some ⟨N4, 0, none⟩) n4 n4)) ⟨w.heap.size + 1 + 1, 5, none⟩ (.int .i64 z)) ⟨w.heap.size + 1, 0, none⟩ (.bool q)) ⟨w.heap.size + 1, 1, none⟩ (.slice (some ⟨N1, 0, none⟩) n1 n1)) ⟨w.heap.size + 1, 2, none⟩ (.slice (some ⟨N2, 0, none⟩) n2 n2)) ⟨w.heap.size + 1, 3, none⟩ (.slice (some ⟨N3, 0, none⟩) n3 n3)) ⟨w.heap.size + 1, 4, none⟩ (.slice (some ⟨N4, 0, none⟩) n4 n4)) ⟨w.heap.size + 1, 5, none⟩ (.int .i64 z)).heap.size := by simp
  generalize ((((((((W7.setCell _ _).setCell _ _).setCell _ _).setCell _ _).setCell _ _).setCell _ _).setCell _ _).setCell _ _) = WF at r1 hb hq o1 o2 o3 o4 ⊢
  have e0 : WF.cell? ⟨w.heap.size + 1, 0, none⟩ = some (.bool q) := r1.cell (show 0 < 6 by decide)
  have e1 : WF.cell? ⟨w.heap.size + 1, 1, none⟩ = some (.slice (some ⟨N1, 0, none⟩) n1 n1) := r1.cell (show 1 < 6 by decide)
  have e2 : WF.cell? ⟨w.heap.size + 1, 2, none⟩ = some (.slice (some ⟨N2, 0, none⟩) n2 n2) := r1.cell (show 2 < 6 by decide)
  have e3 : WF.cell? ⟨w.heap.size + 1, 3, none⟩ = some (.slice (some ⟨N3, 0, none⟩) n3 n3) := r1.cell (show 3 < 6 by decide)
  have e4 : WF.cell? ⟨w.heap.size + 1, 4, none⟩ = some (.slice (some ⟨N4, 0, none⟩) n4 n4) := r1.cell (show 4 < 6 by decide)
  have e5 : WF.cell? ⟨w.heap.size + 1, 5, none⟩ = some (.int .i64 z) := r1.cell (show 5 < 6 by decide)
  exact bodyPost_ret (v := .agg #[.bool q, .slice (some ⟨N1, 0, none⟩) n1 n1, .slice (some ⟨N2, 0, none⟩) n2 n2, .slice (some ⟨N3, 0, none⟩) n3 n3, .slice (some ⟨N4, 0, none⟩) n4 n4, .int .i64 z]) (by simp [results, Tryz.results6, go_sem, e0, e1, e2, e3, e4, e5]) rfl ⟨N1, N2, N3, N4, rfl, EO.wide ⟨o1, o2, o3, o4⟩ (by omega) hq, hb⟩
/-! the marks -/
def VV (t : TypeId) : Prop := t = 81
/-! as a law asks for them -/
theorem copied_eg {w : World} {B n1 c1 n2 c2 n3 c3 n4 c4 : Nat} {A1 A2 A3 A4 : Option Addr} {C : List (List Ver)} {L : List Tr} {K X : List E2} (q : Bool) (z : Int) (hn1 : n1 ≤ 2097152) (hn2 : n2 ≤ 2097152) (hn3 : n3 ≤ 2097152) (hn4 : n4 ≤ 2097152) (hc : cnt C ≤ 2097152) (hl : cntT L ≤ 2097152) (h : ER w B A1 n1 C A2 n2 L A3 n3 K A4 n4 X) (hB : B ≤ w.heap.size) :
    Calls Tryz.prog 6 #[.agg #[.bool q, .slice A1 n1 c1, .slice A2 n2 c2, .slice A3 n3 c3, .slice A4 n4 c4, .int .i64 z]] w fun e w' => ∃ N1 N2 N3 N4, e = .returned (.agg #[.bool q, .slice (some ⟨N1, 0, none⟩) n1 n1, .slice (some ⟨N2, 0, none⟩) n2 n2, .slice (some ⟨N3, 0, none⟩) n3 n3, .slice (some ⟨N4, 0, none⟩) n4 n4, .int .i64 z]) ∧ ER w' w'.heap.size (some ⟨N1, 0, none⟩) n1 C (some ⟨N2, 0, none⟩) n2 L (some ⟨N3, 0, none⟩) n3 K (some ⟨N4, 0, none⟩) n4 X ∧ Below w.heap.size w w' :=
  (copy_eg q z hn1 hn2 hn3 hn4 hc hl h hB).mono fun e w' ⟨N1, N2, N3, N4, he, ho, hb⟩ => ⟨N1, N2, N3, N4, he, ho.er (Nat.le_refl _) hc hl, hb⟩
theorem owned_eg {w : World} {B n1 c1 n2 c2 n3 c3 n4 c4 : Nat} {A1 A2 A3 A4 : Option Addr} {C : List (List Ver)} {L : List Tr} {K X : List E2} (q : Bool) (z : Int) (hn1 : n1 ≤ 2097152) (hn2 : n2 ≤ 2097152) (hn3 : n3 ≤ 2097152) (hn4 : n4 ≤ 2097152) (hc : cnt C ≤ 2097152) (hl : cntT L ≤ 2097152) (h : ER w B A1 n1 C A2 n2 L A3 n3 K A4 n4 X) (hB : B ≤ w.heap.size) :
    Calls Tryz.prog 6 #[.agg #[.bool q, .slice A1 n1 c1, .slice A2 n2 c2, .slice A3 n3 c3, .slice A4 n4 c4, .int .i64 z]] w fun e w' => ∃ N1 N2 N3 N4, e = .returned (.agg #[.bool q, .slice (some ⟨N1, 0, none⟩) n1 n1, .slice (some ⟨N2, 0, none⟩) n2 n2, .slice (some ⟨N3, 0, none⟩) n3 n3, .slice (some ⟨N4, 0, none⟩) n4 n4, .int .i64 z]) ∧ EO w' w.heap.size w'.heap.size (some ⟨N1, 0, none⟩) n1 C (some ⟨N2, 0, none⟩) n2 L (some ⟨N3, 0, none⟩) n3 K (some ⟨N4, 0, none⟩) n4 X ∧ ER w' w'.heap.size (some ⟨N1, 0, none⟩) n1 C (some ⟨N2, 0, none⟩) n2 L (some ⟨N3, 0, none⟩) n3 K (some ⟨N4, 0, none⟩) n4 X ∧ Below w.heap.size w w' :=
  (copy_eg q z hn1 hn2 hn3 hn4 hc hl h hB).mono fun e w' ⟨N1, N2, N3, N4, he, ho, hb⟩ => ⟨N1, N2, N3, N4, he, ho, ho.er (Nat.le_refl _) hc hl, hb⟩
theorem k4_eq (C : List (List Ver)) (L : List Tr) (n3 n4 : Nat) : k4 1 C L n3 n4 = 1 + ((cnt C * 5 + (L.length * 7 + cntT L * 2) + n3 * 2 + n4 * 2 : Nat) : Int) := by
  unfold k4 k3 k2 k1 elk
  rw [List.take_of_length_le (Nat.le_refl _)]
  omega
end Go.Proofs.YtjnlbhmddhpmaaaGreat.eg
