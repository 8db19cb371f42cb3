/- The model's IsValidTransaction, and what it answers; nothing that was there is written. -/
import Derived.Test.YtjnlbhmddhpmaaaGreatTv
import Derived.WalkKit
import Derived.ProofKit
import Derived.Below
import Derived.Lib.Hide
import Derived.LoopTactic
import Derived.Deep.QuietTactic
import Derived.BigQuiet
import Derived.StillTailTactics
import Derived.Outline
import Derived.IntWalk
import Derived.Deep.RegionHeld3
namespace Go.Proofs.YtjnlbhmddhpmaaaGreat.tvs
open Go.ChangeShapes Go.WideShapes Go.ChangeAt Go.RowKit
open Go.Proofs.YtjnlbhmddhpmaaaGreat.el2 Go.Proofs.YtjnlbhmddhpmaaaGreat.tx Go.Proofs.YtjnlbhmddhpmaaaGreat.seq Go.Proofs.YtjnlbhmddhpmaaaGreat.tv
open Go.Proofs.YtjnlbhmddhpmaaaGreat.vers (In in_yes in_no in_of in_off in_range stamp0 high_end tx_id is_stamp value_range ret_b new2 new3)
set_option linter.unusedVariables false
set_option linter.unusedSimpArgs false
set_option linter.constructorNameAsVariable false
theorem tx_bad {x : Hd} {R S : List E2} (h : hdB x = false ∨ sqB okR folR R = false ∨ sqB okW folW S = false ∨ 60 < R.length) : false = txB x R S := by
  rcases h with h | h | h | h
  · exact (txB_h h).symm
  · exact (txB_r (rd_off h)).symm
  · simp [txB, wrB, h]
  · exact (txB_r (rd_long h)).symm
theorem hd_i {x : Hd} (h : In 1 9 x.i = false) : hdB x = false := by simp [hdB, h]
theorem hd_s {x : Hd} (h : In 1 4 x.s = false) : hdB x = false := by simp [hdB, h]
theorem hd_b {x : Hd} (h : In 0 999 x.b = false) : hdB x = false := by simp [hdB, h]
theorem hd_l {x : Hd} (h : In 0 999 x.l = false) : hdB x = false := by simp [hdB, h]
theorem hd_h {x : Hd} (h : In 1 1000 x.h = false) : hdB x = false := by simp [hdB, h]
theorem hd_c {x : Hd} (h : ¬ cmP x.t x.c) : hdB x = false := by simp [hdB, cm_no h]
theorem tx_good {x : Hd} {R S : List E2} {n : Nat} (h0 : In 1 9 x.i = true) (h1 : In 1 4 x.s = true) (h2 : In 0 999 x.b = true) (h3 : In 0 999 x.l = true) (h4 : In 1 1000 x.h = true) (h5 : cmP x.t x.c) (hn : R.length = n) (hr : sqB okR folR R = true) (hs : sqB okW folW S = true) : decide ((n : Int) ≤ 60) = txB x R S := by
  have e : decide ((n : Int) ≤ 60) = decide (R.length ≤ 60) := decide_eq_decide.2 (by omega)
  rw [e]
  simp [txB, hdB, rdB, wrB, h0, h1, h2, h3, h4, cm_yes h5, hr, hs]
set_option maxRecDepth 100000 in
set_option maxHeartbeats 6400000 in
theorem spec_tx {w : World} {B n c n2 c2 : Nat} {A A2 : Option Addr} {l l2 : List E2} (x0 : Hd) (hn : n ≤ 140737488355328) (hn2 : n2 ≤ 140737488355328) (h1 : Vs w B A n l) (h2 : Vs w B A2 n2 l2) (hB : B ≤ w.heap.size) :
    Calls Tryz.prog 18 #[.agg #[.int .i64 x0.i, .int .i64 x0.s, .int .i64 x0.t, .int .i64 x0.b, .int .i64 x0.l, .int .i64 x0.h, .int .i64 x0.c, .slice A n c, .slice A2 n2 c2]] w fun e w' => e = .returned (.bool (txB x0 l l2)) ∧ Below w.heap.size w w' := by
  have H1 := Lib.hid h1
  have H2 := Lib.hid h2
  have hln := h1.1
  have hln2 := h2.1
  clear h1 h2
  go_enter Tryz.func18, Tryz.ntmps18
  go_wp2_with fail
  have hb := new1 w (.cells #[.int .i64 x0.i, .int .i64 x0.s, .int .i64 x0.t, .int .i64 x0.b, .int .i64 x0.l, .int .i64 x0.h, .int .i64 x0.c, .slice A n c, .slice A2 n2 c2] 55)
  have tb := TB.new w x0 A n c A2 n2 c2 55
  have hs : w.heap.size < (w.alloc (.cells #[.int .i64 x0.i, .int .i64 x0.s, .int .i64 x0.t, .int .i64 x0.b, .int .i64 x0.l, .int .i64 x0.h, .int .i64 x0.c, .slice A n c, .slice A2 n2 c2] 55)).heap.size := by simp
  generalize w.alloc _ = W0 at hb tb hs ⊢
  go_loopw [3] (fun i wr => ∃ k : Nat, k ≤ n ∧ i = .int .i64 k ∧ Pri okR folR l k ∧ Below w.heap.size w wr ∧ w.heap.size < wr.heap.size ∧ TB wr w.heap.size x0 (.slice A n c) (.slice A2 n2 c2)) (fun i _ => n - (intOf i).toNat)
  case atStart => exact ⟨0, by omega, rfl, pri_zero _ _ l, hb, hs, tb⟩
  case round =>
    clear hb tb hs
    obtain ⟨k, hk, rfl, hP, hb, tlt, tb⟩ := hrel
    have HP := Lib.hid hP
    clear hP
    by_cases hlt : k < n
    · obtain ⟨b, o, x, rfl, hbB, hx, a0, a1⟩ := (H1.out.below (below_le hb hB)).at_ hlt
      have HB := Lib.hid hb
      have HX := Lib.hid hx
      have TW := Lib.hid tb
      obtain ⟨tc0, tc1, tc2, tc3, tc4, tc5, tc6, tc7, tc8⟩ := tb
      clear hb hx tc0 tc1 tc2 tc3 tc4 tc5 tc6 tc8
      rcases hk1 : In 0 5 x.a with _ | _
      · have HK1 := Lib.hid hk1
        go_wp2_with fail
        have q0 := new1 wr (.cells #[.int .i64 x.a, .int .i64 x.b] 83)
        have q1 := boxed wr x 83
        have q2 : wr.heap.size < (wr.alloc (.cells #[.int .i64 x.a, .int .i64 x.b] 83)).heap.size := by simp
        have hbs := HB.out.size
        obtain ⟨N, hN⟩ : ∃ N, N = wr.heap.size := ⟨_, rfl⟩
        simp only [← hN] at q0 q1 q2 hbs ⊢
        generalize wr.alloc (.cells #[.int .i64 x.a, .int .i64 x.b] 83) = wq at q0 q1 q2 ⊢
        have TC : Hid (wq.cell? ⟨w.heap.size, 7, none⟩ = some (.slice (some ⟨b, o, none⟩) n c)) := Lib.hid ((q0.cell (p := ⟨w.heap.size, 7, none⟩) (by simp; omega)).trans tc7)
        have TL : w.heap.size < wq.heap.size := by omega
        have TQ : Hid (TB wq w.heap.size x0 (.slice (some ⟨b, o, none⟩) n c) (.slice A2 n2 c2)) := Lib.hid (TW.out.keep (B := N) (by omega) q0)
        clear tc7
        have HQ : Hid (Below w.heap.size w wq) := Lib.hid (HB.out.trans (q0.mono hbs))
        have Q1 := Lib.hid q1
        clear a0 a1 hN q0 q1
        refine class_region wq.heap.size (by kernel_rfl) (by kernel_rfl) ?_
        with_reducible refine class_opk (.pointer (some ⟨N, 0, none⟩)) ?_ ?_ ?_
        · first | exact rfl | go_simp
        · intro W hW
          go_simp
        intro K hK
        go_simp
        with_reducible refine hK _ ?_
        clear hK K
        with_reducible refine class_opk (.int .i64 x.a) ?_ ?_ ?_
        · first | exact rfl | go_simp
        · intro W hW
          obtain ⟨g0, g1⟩ := atFlat (Q1.out.keep (B := wq.heap.size) q2 hW)
          go_simp
        intro K hK
        go_simp
        with_reducible refine hK _ ?_
        clear hK K
        with_reducible refine class_opk (.bool false) ?_ ?_ ?_
        · first | exact rfl | go_simp
        · intro W hW
          go_simp
          refine class_call0 hW ?_
          rw [← HK1.out]
          exact in_range _ _ _ _
        intro K hK
        go_simp
        with_reducible refine hK _ ?_
        clear hK K
        with_reducible refine class_opk (.bool true) ?_ ?_ ?_
        · first | exact rfl | go_simp
        · intro W hW
          go_simp
        intro K hK
        go_simp
        with_reducible refine hK _ ?_
        clear hK K
        with_reducible refine class_opk (.bool true) ?_ ?_ ?_
        · first | exact rfl | go_simp
        · intro W hW
          go_simp
        intro K hK
        go_simp
        with_reducible refine hK _ ?_
        clear hK K
        with_reducible refine class_skipk ?_ ?_
        · first | exact rfl | (go_simp; try simp [undef])
        intro K hK
        go_simp
        with_reducible refine hK _ ?_
        clear hK K
        with_reducible refine class_skipk ?_ ?_
        · first | exact rfl | (go_simp; try simp [undef])
        intro K hK
        go_simp
        with_reducible refine hK _ ?_
        clear hK K
        with_reducible refine class_skipk ?_ ?_
        · first | exact rfl | (go_simp; try simp [undef])
        intro K hK
        go_simp
        with_reducible refine hK _ ?_
        clear hK K
        with_reducible refine class_skipk ?_ ?_
        · first | exact rfl | (go_simp; try simp [undef])
        intro K hK
        go_simp
        with_reducible refine hK _ ?_
        clear hK K
        with_reducible refine class_opk (.bool true) ?_ ?_ ?_
        · first | exact rfl | go_simp
        · intro W hW
          go_simp
        intro K hK
        go_simp
        with_reducible refine hK _ ?_
        clear hK K
        with_reducible refine class_opk (.bool true) ?_ ?_ ?_
        · first | exact rfl | go_simp
        · intro W hW
          go_simp
        intro K hK
        go_simp
        with_reducible refine hK _ ?_
        clear hK K
        with_reducible refine class_skipk ?_ ?_
        · first | exact rfl | (go_simp; try simp [undef])
        intro K hK
        go_simp
        with_reducible refine hK _ ?_
        clear hK K
        with_reducible refine class_skipk ?_ ?_
        · first | exact rfl | (go_simp; try simp [undef])
        intro K hK
        go_simp
        with_reducible refine hK _ ?_
        clear hK K
        with_reducible refine class_skipk ?_ ?_
        · first | exact rfl | (go_simp; try simp [undef])
        intro K hK
        go_simp
        with_reducible refine hK _ ?_
        clear hK K
        with_reducible refine class_skipk ?_ ?_
        · first | exact rfl | (go_simp; try simp [undef])
        intro K hK
        go_simp
        with_reducible refine hK _ ?_
        clear hK K
        with_reducible refine class_skipk ?_ ?_
        · first | exact rfl | (go_simp; try simp [undef])
        intro K hK
        go_simp
        with_reducible refine hK _ ?_
        clear hK K
        with_reducible refine class_skipk ?_ ?_
        · first | exact rfl | (go_simp; try simp [undef])
        intro K hK
        go_simp
        with_reducible refine hK _ ?_
        clear hK K
        with_reducible refine class_skipk ?_ ?_
        · first | exact rfl | (go_simp; try simp [undef])
        intro K hK
        go_simp
        with_reducible refine hK _ ?_
        clear hK K
        with_reducible refine class_skipk ?_ ?_
        · first | exact rfl | (go_simp; try simp [undef])
        intro K hK
        go_simp
        with_reducible refine hK _ ?_
        clear hK K
        with_reducible refine class_skipk ?_ ?_
        · first | exact rfl | (go_simp; try simp [undef])
        intro K hK
        go_simp
        with_reducible refine hK _ ?_
        clear hK K
        with_reducible refine class_skipk ?_ ?_
        · first | exact rfl | (go_simp; try simp [undef])
        intro K hK
        go_simp
        with_reducible refine hK _ ?_
        clear hK K
        with_reducible refine class_skipk ?_ ?_
        · first | exact rfl | (go_simp; try simp [undef])
        intro K hK
        go_simp
        with_reducible refine hK _ ?_
        clear hK K
        with_reducible refine class_skipk ?_ ?_
        · first | exact rfl | (go_simp; try simp [undef])
        intro K hK
        go_simp
        with_reducible refine hK _ ?_
        clear hK K
        with_reducible refine class_skipk ?_ ?_
        · first | exact rfl | (go_simp; try simp [undef])
        intro K hK
        go_simp
        with_reducible refine hK _ ?_
        clear hK K
        with_reducible refine class_opk (.bool true) ?_ ?_ ?_
        · first | exact rfl | go_simp
        · intro W hW
          go_simp
        intro K hK
        go_simp
        with_reducible refine hK _ ?_
        clear hK K
        with_reducible refine class_end ?_
        intro W1 hW1
        go_simp
        have HB1 : Hid (Below w.heap.size w W1) := Lib.hid (HQ.out.trans (hW1.mono HQ.out.size))
        have TL1 := Nat.lt_of_lt_of_le TL hW1.size
        have TQ1 := Lib.hid (TQ.out.keep TL hW1)
        clear hW1
        go_wp2_with fail
        go_ret
        exact ⟨ret_b (tx_bad (x := x0) (.inr (.inl (sq_bad HX.out (okR_a HK1.out))))), HB1.out⟩
      have HK1 := Lib.hid hk1
      rcases hk2 : In 0 999 x.b with _ | _
      · have HK2 := Lib.hid hk2
        go_wp2_with fail
        have q0 := new1 wr (.cells #[.int .i64 x.a, .int .i64 x.b] 83)
        have q1 := boxed wr x 83
        have q2 : wr.heap.size < (wr.alloc (.cells #[.int .i64 x.a, .int .i64 x.b] 83)).heap.size := by simp
        have hbs := HB.out.size
        obtain ⟨N, hN⟩ : ∃ N, N = wr.heap.size := ⟨_, rfl⟩
        simp only [← hN] at q0 q1 q2 hbs ⊢
        generalize wr.alloc (.cells #[.int .i64 x.a, .int .i64 x.b] 83) = wq at q0 q1 q2 ⊢
        have TC : Hid (wq.cell? ⟨w.heap.size, 7, none⟩ = some (.slice (some ⟨b, o, none⟩) n c)) := Lib.hid ((q0.cell (p := ⟨w.heap.size, 7, none⟩) (by simp; omega)).trans tc7)
        have TL : w.heap.size < wq.heap.size := by omega
        have TQ : Hid (TB wq w.heap.size x0 (.slice (some ⟨b, o, none⟩) n c) (.slice A2 n2 c2)) := Lib.hid (TW.out.keep (B := N) (by omega) q0)
        clear tc7
        have HQ : Hid (Below w.heap.size w wq) := Lib.hid (HB.out.trans (q0.mono hbs))
        have Q1 := Lib.hid q1
        clear a0 a1 hN q0 q1
        refine class_region wq.heap.size (by kernel_rfl) (by kernel_rfl) ?_
        with_reducible refine class_opk (.pointer (some ⟨N, 0, none⟩)) ?_ ?_ ?_
        · first | exact rfl | go_simp
        · intro W hW
          go_simp
        intro K hK
        go_simp
        with_reducible refine hK _ ?_
        clear hK K
        with_reducible refine class_opk (.int .i64 x.a) ?_ ?_ ?_
        · first | exact rfl | go_simp
        · intro W hW
          obtain ⟨g0, g1⟩ := atFlat (Q1.out.keep (B := wq.heap.size) q2 hW)
          go_simp
        intro K hK
        go_simp
        with_reducible refine hK _ ?_
        clear hK K
        with_reducible refine class_opk (.bool true) ?_ ?_ ?_
        · first | exact rfl | go_simp
        · intro W hW
          go_simp
          refine class_call0 hW ?_
          rw [← HK1.out]
          exact in_range _ _ _ _
        intro K hK
        go_simp
        with_reducible refine hK _ ?_
        clear hK K
        with_reducible refine class_opk (.bool false) ?_ ?_ ?_
        · first | exact rfl | go_simp
        · intro W hW
          go_simp
        intro K hK
        go_simp
        with_reducible refine hK _ ?_
        clear hK K
        with_reducible refine class_opk (.bool false) ?_ ?_ ?_
        · first | exact rfl | go_simp
        · intro W hW
          go_simp
        intro K hK
        go_simp
        with_reducible refine hK _ ?_
        clear hK K
        with_reducible refine class_opk (.pointer (some ⟨N, 1, none⟩)) ?_ ?_ ?_
        · first | exact rfl | go_simp
        · intro W hW
          go_simp
        intro K hK
        go_simp
        with_reducible refine hK _ ?_
        clear hK K
        with_reducible refine class_opk (.int .i64 x.b) ?_ ?_ ?_
        · first | exact rfl | go_simp
        · intro W hW
          obtain ⟨g0, g1⟩ := atFlat (Q1.out.keep (B := wq.heap.size) q2 hW)
          go_simp
        intro K hK
        go_simp
        with_reducible refine hK _ ?_
        clear hK K
        with_reducible refine class_opk (.bool false) ?_ ?_ ?_
        · first | exact rfl | go_simp
        · intro W hW
          go_simp
          refine class_call0 hW ?_
          rw [← HK2.out]
          exact in_range _ _ _ _
        intro K hK
        go_simp
        with_reducible refine hK _ ?_
        clear hK K
        with_reducible refine class_opk (.bool true) ?_ ?_ ?_
        · first | exact rfl | go_simp
        · intro W hW
          go_simp
        intro K hK
        go_simp
        with_reducible refine hK _ ?_
        clear hK K
        with_reducible refine class_opk (.bool true) ?_ ?_ ?_
        · first | exact rfl | go_simp
        · intro W hW
          go_simp
        intro K hK
        go_simp
        with_reducible refine hK _ ?_
        clear hK K
        with_reducible refine class_opk (.bool true) ?_ ?_ ?_
        · first | exact rfl | go_simp
        · intro W hW
          go_simp
        intro K hK
        go_simp
        with_reducible refine hK _ ?_
        clear hK K
        with_reducible refine class_skipk ?_ ?_
        · first | exact rfl | (go_simp; try simp [undef])
        intro K hK
        go_simp
        with_reducible refine hK _ ?_
        clear hK K
        with_reducible refine class_skipk ?_ ?_
        · first | exact rfl | (go_simp; try simp [undef])
        intro K hK
        go_simp
        with_reducible refine hK _ ?_
        clear hK K
        with_reducible refine class_skipk ?_ ?_
        · first | exact rfl | (go_simp; try simp [undef])
        intro K hK
        go_simp
        with_reducible refine hK _ ?_
        clear hK K
        with_reducible refine class_skipk ?_ ?_
        · first | exact rfl | (go_simp; try simp [undef])
        intro K hK
        go_simp
        with_reducible refine hK _ ?_
        clear hK K
        with_reducible refine class_skipk ?_ ?_
        · first | exact rfl | (go_simp; try simp [undef])
        intro K hK
        go_simp
        with_reducible refine hK _ ?_
        clear hK K
        with_reducible refine class_skipk ?_ ?_
        · first | exact rfl | (go_simp; try simp [undef])
        intro K hK
        go_simp
        with_reducible refine hK _ ?_
        clear hK K
        with_reducible refine class_skipk ?_ ?_
        · first | exact rfl | (go_simp; try simp [undef])
        intro K hK
        go_simp
        with_reducible refine hK _ ?_
        clear hK K
        with_reducible refine class_skipk ?_ ?_
        · first | exact rfl | (go_simp; try simp [undef])
        intro K hK
        go_simp
        with_reducible refine hK _ ?_
        clear hK K
        with_reducible refine class_skipk ?_ ?_
        · first | exact rfl | (go_simp; try simp [undef])
        intro K hK
        go_simp
        with_reducible refine hK _ ?_
        clear hK K
        with_reducible refine class_skipk ?_ ?_
        · first | exact rfl | (go_simp; try simp [undef])
        intro K hK
        go_simp
        with_reducible refine hK _ ?_
        clear hK K
        with_reducible refine class_skipk ?_ ?_
        · first | exact rfl | (go_simp; try simp [undef])
        intro K hK
        go_simp
        with_reducible refine hK _ ?_
        clear hK K
        with_reducible refine class_skipk ?_ ?_
        · first | exact rfl | (go_simp; try simp [undef])
        intro K hK
        go_simp
        with_reducible refine hK _ ?_
        clear hK K
        with_reducible refine class_skipk ?_ ?_
        · first | exact rfl | (go_simp; try simp [undef])
        intro K hK
        go_simp
        with_reducible refine hK _ ?_
        clear hK K
        with_reducible refine class_opk (.bool true) ?_ ?_ ?_
        · first | exact rfl | go_simp
        · intro W hW
          go_simp
        intro K hK
        go_simp
        with_reducible refine hK _ ?_
        clear hK K
        with_reducible refine class_end ?_
        intro W1 hW1
        go_simp
        have HB1 : Hid (Below w.heap.size w W1) := Lib.hid (HQ.out.trans (hW1.mono HQ.out.size))
        have TL1 := Nat.lt_of_lt_of_le TL hW1.size
        have TQ1 := Lib.hid (TQ.out.keep TL hW1)
        clear hW1
        go_wp2_with fail
        go_ret
        exact ⟨ret_b (tx_bad (x := x0) (.inr (.inl (sq_bad HX.out (okR_b HK2.out))))), HB1.out⟩
      have HK2 := Lib.hid hk2
      by_cases h0 : 0 < k
      · obtain ⟨b', o', y, hbo, hbB', hy, d0, d1⟩ := (H1.out.below (below_le HB.out hB)).at_ (k := k - 1) (by omega)
        injection hbo with hbo
        injection hbo with e1 e2
        subst e1
        subst e2
        have HY := Lib.hid hy
        clear hy
        have s1 : IntKind.i64.wrap ((k : Int) - 1) = (k : Int) - 1 := IntWalk.i64_in _ (by omega)
        have s2 : (0 : Int) ≤ (k : Int) - 1 := by omega
        have s3 : ((k : Int) - 1).toNat = k - 1 := by omega
        have s4 : (k : Int) - 1 < (n : Int) := by omega
        have s5 : (1 : Int) ≤ (k : Int) := by omega
        have hg : decide (0 < k) = true := decide_eq_true h0
        rcases hf : folR y x with _ | _
        · have HF := Lib.hid hf
          go_wp2_with fail
          have q0 := new1 wr (.cells #[.int .i64 x.a, .int .i64 x.b] 83)
          have q1 := boxed wr x 83
          have q2 : wr.heap.size < (wr.alloc (.cells #[.int .i64 x.a, .int .i64 x.b] 83)).heap.size := by simp
          have hbs := HB.out.size
          obtain ⟨N, hN⟩ : ∃ N, N = wr.heap.size := ⟨_, rfl⟩
          simp only [← hN] at q0 q1 q2 hbs ⊢
          generalize wr.alloc (.cells #[.int .i64 x.a, .int .i64 x.b] 83) = wq at q0 q1 q2 ⊢
          have E0 : Hid (At wq b (o + (k - 1) * 2) y) := Lib.hid (At.keep ⟨d0, d1⟩ (B := N) (by omega) q0)
          have E1 : b < wq.heap.size := by omega
          clear d0 d1
          have TC : Hid (wq.cell? ⟨w.heap.size, 7, none⟩ = some (.slice (some ⟨b, o, none⟩) n c)) := Lib.hid ((q0.cell (p := ⟨w.heap.size, 7, none⟩) (by simp; omega)).trans tc7)
          have TL : w.heap.size < wq.heap.size := by omega
          have TQ : Hid (TB wq w.heap.size x0 (.slice (some ⟨b, o, none⟩) n c) (.slice A2 n2 c2)) := Lib.hid (TW.out.keep (B := N) (by omega) q0)
          clear tc7
          have HQ : Hid (Below w.heap.size w wq) := Lib.hid (HB.out.trans (q0.mono hbs))
          have Q1 := Lib.hid q1
          clear a0 a1 hN q0 q1
          refine class_region wq.heap.size (by kernel_rfl) (by kernel_rfl) ?_
          with_reducible refine class_opk (.pointer (some ⟨N, 0, none⟩)) ?_ ?_ ?_
          · first | exact rfl | go_simp
          · intro W hW
            go_simp
          intro K hK
          go_simp
          with_reducible refine hK _ ?_
          clear hK K
          with_reducible refine class_opk (.int .i64 x.a) ?_ ?_ ?_
          · first | exact rfl | go_simp
          · intro W hW
            obtain ⟨g0, g1⟩ := atFlat (Q1.out.keep (B := wq.heap.size) q2 hW)
            go_simp
          intro K hK
          go_simp
          with_reducible refine hK _ ?_
          clear hK K
          with_reducible refine class_opk (.bool true) ?_ ?_ ?_
          · first | exact rfl | go_simp
          · intro W hW
            go_simp
            refine class_call0 hW ?_
            rw [← HK1.out]
            exact in_range _ _ _ _
          intro K hK
          go_simp
          with_reducible refine hK _ ?_
          clear hK K
          with_reducible refine class_opk (.bool false) ?_ ?_ ?_
          · first | exact rfl | go_simp
          · intro W hW
            go_simp
          intro K hK
          go_simp
          with_reducible refine hK _ ?_
          clear hK K
          with_reducible refine class_opk (.bool false) ?_ ?_ ?_
          · first | exact rfl | go_simp
          · intro W hW
            go_simp
          intro K hK
          go_simp
          with_reducible refine hK _ ?_
          clear hK K
          with_reducible refine class_opk (.pointer (some ⟨N, 1, none⟩)) ?_ ?_ ?_
          · first | exact rfl | go_simp
          · intro W hW
            go_simp
          intro K hK
          go_simp
          with_reducible refine hK _ ?_
          clear hK K
          with_reducible refine class_opk (.int .i64 x.b) ?_ ?_ ?_
          · first | exact rfl | go_simp
          · intro W hW
            obtain ⟨g0, g1⟩ := atFlat (Q1.out.keep (B := wq.heap.size) q2 hW)
            go_simp
          intro K hK
          go_simp
          with_reducible refine hK _ ?_
          clear hK K
          with_reducible refine class_opk (.bool true) ?_ ?_ ?_
          · first | exact rfl | go_simp
          · intro W hW
            go_simp
            refine class_call0 hW ?_
            rw [← HK2.out]
            exact in_range _ _ _ _
          intro K hK
          go_simp
          with_reducible refine hK _ ?_
          clear hK K
          with_reducible refine class_opk (.bool false) ?_ ?_ ?_
          · first | exact rfl | go_simp
          · intro W hW
            go_simp
          intro K hK
          go_simp
          with_reducible refine hK _ ?_
          clear hK K
          with_reducible refine class_opk (.bool false) ?_ ?_ ?_
          · first | exact rfl | go_simp
          · intro W hW
            go_simp
          intro K hK
          go_simp
          with_reducible refine hK _ ?_
          clear hK K
          with_reducible refine class_opk (.bool false) ?_ ?_ ?_
          · first | exact rfl | go_simp
          · intro W hW
            go_simp
          intro K hK
          go_simp
          with_reducible refine hK _ ?_
          clear hK K
          with_reducible refine class_opk (.int .i64 k) ?_ ?_ ?_
          · first | exact rfl | go_simp
          · intro W hW
            go_simp
          intro K hK
          go_simp
          with_reducible refine hK _ ?_
          clear hK K
          with_reducible refine class_opk (.bool true) ?_ ?_ ?_
          · first | exact rfl | go_simp
          · intro W hW
            go_simp
          intro K hK
          go_simp
          with_reducible refine hK _ ?_
          clear hK K
          with_reducible refine class_opk (.bool true) ?_ ?_ ?_
          · first | exact rfl | go_simp
          · intro W hW
            go_simp
          intro K hK
          go_simp
          with_reducible refine hK _ ?_
          clear hK K
          with_reducible refine class_opk (.pointer (some ⟨w.heap.size, 7, none⟩)) ?_ ?_ ?_
          · first | exact rfl | go_simp
          · intro W hW
            go_simp
          intro K hK
          go_simp
          with_reducible refine hK _ ?_
          clear hK K
          with_reducible refine class_opk (.slice (some ⟨b, o, none⟩) n c) ?_ ?_ ?_
          · first | exact rfl | go_simp
          · intro W hW
            have g := (hW.cell (p := ⟨w.heap.size, 7, none⟩) TL).trans TC.out
            go_simp
          intro K hK
          go_simp
          with_reducible refine hK _ ?_
          clear hK K
          with_reducible refine class_opk (.int .i64 k) ?_ ?_ ?_
          · first | exact rfl | go_simp
          · intro W hW
            go_simp
          intro K hK
          go_simp
          with_reducible refine hK _ ?_
          clear hK K
          with_reducible refine class_opk (.int .i64 ((k : Int) - 1)) ?_ ?_ ?_
          · first | exact rfl | go_simp
          · intro W hW
            go_simp
          intro K hK
          go_simp
          with_reducible refine hK _ ?_
          clear hK K
          with_reducible refine class_opk (.pointer (some ⟨b, o + (k - 1) * 2, none⟩)) ?_ ?_ ?_
          · first | exact rfl | go_simp
          · intro W hW
            go_simp
          intro K hK
          go_simp
          with_reducible refine hK _ ?_
          clear hK K
          with_reducible refine class_opk (.agg #[.int .i64 y.a, .int .i64 y.b]) ?_ ?_ ?_
          · first | exact rfl | go_simp
          · intro W hW
            obtain ⟨g0, g1⟩ := E0.out.keep (B := wq.heap.size) E1 hW
            go_simp
          intro K hK
          go_simp
          with_reducible refine hK _ ?_
          clear hK K
          with_reducible refine class_opk (.agg #[.int .i64 x.a, .int .i64 x.b]) ?_ ?_ ?_
          · first | exact rfl | go_simp
          · intro W hW
            obtain ⟨g0, g1⟩ := atFlat (Q1.out.keep (B := wq.heap.size) q2 hW)
            go_simp
          intro K hK
          go_simp
          with_reducible refine hK _ ?_
          clear hK K
          with_reducible refine class_opk (.bool false) ?_ ?_ ?_
          · first | exact rfl | go_simp
          · intro W hW
            go_simp
            refine class_call hW ?_
            rw [← HF.out]
            exact before_s _ _ _
          intro K hK
          go_simp
          with_reducible refine hK _ ?_
          clear hK K
          with_reducible refine class_opk (.bool true) ?_ ?_ ?_
          · first | exact rfl | go_simp
          · intro W hW
            go_simp
          intro K hK
          go_simp
          with_reducible refine hK _ ?_
          clear hK K
          with_reducible refine class_opk (.bool true) ?_ ?_ ?_
          · first | exact rfl | go_simp
          · intro W hW
            go_simp
          intro K hK
          go_simp
          with_reducible refine hK _ ?_
          clear hK K
          with_reducible refine class_opk (.bool true) ?_ ?_ ?_
          · first | exact rfl | go_simp
          · intro W hW
            go_simp
          intro K hK
          go_simp
          with_reducible refine hK _ ?_
          clear hK K
          with_reducible refine class_end ?_
          intro W1 hW1
          go_simp
          have HB1 : Hid (Below w.heap.size w W1) := Lib.hid (HQ.out.trans (hW1.mono HQ.out.size))
          have TL1 := Nat.lt_of_lt_of_le TL hW1.size
          have TQ1 := Lib.hid (TQ.out.keep TL hW1)
          clear hW1
          go_wp2_with fail
          go_ret
          exact ⟨ret_b (tx_bad (x := x0) (.inr (.inl (sq_off h0 HY.out HX.out HF.out)))), HB1.out⟩
        · have HF := Lib.hid hf
          go_wp2_with fail
          have q0 := new1 wr (.cells #[.int .i64 x.a, .int .i64 x.b] 83)
          have q1 := boxed wr x 83
          have q2 : wr.heap.size < (wr.alloc (.cells #[.int .i64 x.a, .int .i64 x.b] 83)).heap.size := by simp
          have hbs := HB.out.size
          obtain ⟨N, hN⟩ : ∃ N, N = wr.heap.size := ⟨_, rfl⟩
          simp only [← hN] at q0 q1 q2 hbs ⊢
          generalize wr.alloc (.cells #[.int .i64 x.a, .int .i64 x.b] 83) = wq at q0 q1 q2 ⊢
          have E0 : Hid (At wq b (o + (k - 1) * 2) y) := Lib.hid (At.keep ⟨d0, d1⟩ (B := N) (by omega) q0)
          have E1 : b < wq.heap.size := by omega
          clear d0 d1
          have TC : Hid (wq.cell? ⟨w.heap.size, 7, none⟩ = some (.slice (some ⟨b, o, none⟩) n c)) := Lib.hid ((q0.cell (p := ⟨w.heap.size, 7, none⟩) (by simp; omega)).trans tc7)
          have TL : w.heap.size < wq.heap.size := by omega
          have TQ : Hid (TB wq w.heap.size x0 (.slice (some ⟨b, o, none⟩) n c) (.slice A2 n2 c2)) := Lib.hid (TW.out.keep (B := N) (by omega) q0)
          clear tc7
          have HQ : Hid (Below w.heap.size w wq) := Lib.hid (HB.out.trans (q0.mono hbs))
          have Q1 := Lib.hid q1
          clear a0 a1 hN q0 q1
          refine class_region wq.heap.size (by kernel_rfl) (by kernel_rfl) ?_
          with_reducible refine class_opk (.pointer (some ⟨N, 0, none⟩)) ?_ ?_ ?_
          · first | exact rfl | go_simp
          · intro W hW
            go_simp
          intro K hK
          go_simp
          with_reducible refine hK _ ?_
          clear hK K
          with_reducible refine class_opk (.int .i64 x.a) ?_ ?_ ?_
          · first | exact rfl | go_simp
          · intro W hW
            obtain ⟨g0, g1⟩ := atFlat (Q1.out.keep (B := wq.heap.size) q2 hW)
            go_simp
          intro K hK
          go_simp
          with_reducible refine hK _ ?_
          clear hK K
          with_reducible refine class_opk (.bool true) ?_ ?_ ?_
          · first | exact rfl | go_simp
          · intro W hW
            go_simp
            refine class_call0 hW ?_
            rw [← HK1.out]
            exact in_range _ _ _ _
          intro K hK
          go_simp
          with_reducible refine hK _ ?_
          clear hK K
          with_reducible refine class_opk (.bool false) ?_ ?_ ?_
          · first | exact rfl | go_simp
          · intro W hW
            go_simp
          intro K hK
          go_simp
          with_reducible refine hK _ ?_
          clear hK K
          with_reducible refine class_opk (.bool false) ?_ ?_ ?_
          · first | exact rfl | go_simp
          · intro W hW
            go_simp
          intro K hK
          go_simp
          with_reducible refine hK _ ?_
          clear hK K
          with_reducible refine class_opk (.pointer (some ⟨N, 1, none⟩)) ?_ ?_ ?_
          · first | exact rfl | go_simp
          · intro W hW
            go_simp
          intro K hK
          go_simp
          with_reducible refine hK _ ?_
          clear hK K
          with_reducible refine class_opk (.int .i64 x.b) ?_ ?_ ?_
          · first | exact rfl | go_simp
          · intro W hW
            obtain ⟨g0, g1⟩ := atFlat (Q1.out.keep (B := wq.heap.size) q2 hW)
            go_simp
          intro K hK
          go_simp
          with_reducible refine hK _ ?_
          clear hK K
          with_reducible refine class_opk (.bool true) ?_ ?_ ?_
          · first | exact rfl | go_simp
          · intro W hW
            go_simp
            refine class_call0 hW ?_
            rw [← HK2.out]
            exact in_range _ _ _ _
          intro K hK
          go_simp
          with_reducible refine hK _ ?_
          clear hK K
          with_reducible refine class_opk (.bool false) ?_ ?_ ?_
          · first | exact rfl | go_simp
          · intro W hW
            go_simp
          intro K hK
          go_simp
          with_reducible refine hK _ ?_
          clear hK K
          with_reducible refine class_opk (.bool false) ?_ ?_ ?_
          · first | exact rfl | go_simp
          · intro W hW
            go_simp
          intro K hK
          go_simp
          with_reducible refine hK _ ?_
          clear hK K
          with_reducible refine class_opk (.bool false) ?_ ?_ ?_
          · first | exact rfl | go_simp
          · intro W hW
            go_simp
          intro K hK
          go_simp
          with_reducible refine hK _ ?_
          clear hK K
          with_reducible refine class_opk (.int .i64 k) ?_ ?_ ?_
          · first | exact rfl | go_simp
          · intro W hW
            go_simp
          intro K hK
          go_simp
          with_reducible refine hK _ ?_
          clear hK K
          with_reducible refine class_opk (.bool true) ?_ ?_ ?_
          · first | exact rfl | go_simp
          · intro W hW
            go_simp
          intro K hK
          go_simp
          with_reducible refine hK _ ?_
          clear hK K
          with_reducible refine class_opk (.bool true) ?_ ?_ ?_
          · first | exact rfl | go_simp
          · intro W hW
            go_simp
          intro K hK
          go_simp
          with_reducible refine hK _ ?_
          clear hK K
          with_reducible refine class_opk (.pointer (some ⟨w.heap.size, 7, none⟩)) ?_ ?_ ?_
          · first | exact rfl | go_simp
          · intro W hW
            go_simp
          intro K hK
          go_simp
          with_reducible refine hK _ ?_
          clear hK K
          with_reducible refine class_opk (.slice (some ⟨b, o, none⟩) n c) ?_ ?_ ?_
          · first | exact rfl | go_simp
          · intro W hW
            have g := (hW.cell (p := ⟨w.heap.size, 7, none⟩) TL).trans TC.out
            go_simp
          intro K hK
          go_simp
          with_reducible refine hK _ ?_
          clear hK K
          with_reducible refine class_opk (.int .i64 k) ?_ ?_ ?_
          · first | exact rfl | go_simp
          · intro W hW
            go_simp
          intro K hK
          go_simp
          with_reducible refine hK _ ?_
          clear hK K
          with_reducible refine class_opk (.int .i64 ((k : Int) - 1)) ?_ ?_ ?_
          · first | exact rfl | go_simp
          · intro W hW
            go_simp
          intro K hK
          go_simp
          with_reducible refine hK _ ?_
          clear hK K
          with_reducible refine class_opk (.pointer (some ⟨b, o + (k - 1) * 2, none⟩)) ?_ ?_ ?_
          · first | exact rfl | go_simp
          · intro W hW
            go_simp
          intro K hK
          go_simp
          with_reducible refine hK _ ?_
          clear hK K
          with_reducible refine class_opk (.agg #[.int .i64 y.a, .int .i64 y.b]) ?_ ?_ ?_
          · first | exact rfl | go_simp
          · intro W hW
            obtain ⟨g0, g1⟩ := E0.out.keep (B := wq.heap.size) E1 hW
            go_simp
          intro K hK
          go_simp
          with_reducible refine hK _ ?_
          clear hK K
          with_reducible refine class_opk (.agg #[.int .i64 x.a, .int .i64 x.b]) ?_ ?_ ?_
          · first | exact rfl | go_simp
          · intro W hW
            obtain ⟨g0, g1⟩ := atFlat (Q1.out.keep (B := wq.heap.size) q2 hW)
            go_simp
          intro K hK
          go_simp
          with_reducible refine hK _ ?_
          clear hK K
          with_reducible refine class_opk (.bool true) ?_ ?_ ?_
          · first | exact rfl | go_simp
          · intro W hW
            go_simp
            refine class_call hW ?_
            rw [← HF.out]
            exact before_s _ _ _
          intro K hK
          go_simp
          with_reducible refine hK _ ?_
          clear hK K
          with_reducible refine class_opk (.bool false) ?_ ?_ ?_
          · first | exact rfl | go_simp
          · intro W hW
            go_simp
          intro K hK
          go_simp
          with_reducible refine hK _ ?_
          clear hK K
          with_reducible refine class_opk (.bool false) ?_ ?_ ?_
          · first | exact rfl | go_simp
          · intro W hW
            go_simp
          intro K hK
          go_simp
          with_reducible refine hK _ ?_
          clear hK K
          with_reducible refine class_opk (.bool false) ?_ ?_ ?_
          · first | exact rfl | go_simp
          · intro W hW
            go_simp
          intro K hK
          go_simp
          with_reducible refine hK _ ?_
          clear hK K
          with_reducible refine class_end ?_
          intro W1 hW1
          go_simp
          have HB1 : Hid (Below w.heap.size w W1) := Lib.hid (HQ.out.trans (hW1.mono HQ.out.size))
          have TL1 := Nat.lt_of_lt_of_le TL hW1.size
          have TQ1 := Lib.hid (TQ.out.keep TL hW1)
          clear hW1
          go_wp2_with fail
          go_roundw
          case rel => exact ⟨k + 1, by omega, by go_num, pri_step HP.out HX.out (okR_yes HK1.out HK2.out) (fun _ z hz => by have := HY.out; rw [this] at hz; cases hz; exact HF.out), HB1.out, TL1, TQ1.out⟩
          case measure => simp [intOf]; omega
      · have hg : decide (0 < k) = false := decide_eq_false h0
        go_wp2_with fail
        have q0 := new1 wr (.cells #[.int .i64 x.a, .int .i64 x.b] 83)
        have q1 := boxed wr x 83
        have q2 : wr.heap.size < (wr.alloc (.cells #[.int .i64 x.a, .int .i64 x.b] 83)).heap.size := by simp
        have hbs := HB.out.size
        obtain ⟨N, hN⟩ : ∃ N, N = wr.heap.size := ⟨_, rfl⟩
        simp only [← hN] at q0 q1 q2 hbs ⊢
        generalize wr.alloc (.cells #[.int .i64 x.a, .int .i64 x.b] 83) = wq at q0 q1 q2 ⊢
        have TC : Hid (wq.cell? ⟨w.heap.size, 7, none⟩ = some (.slice (some ⟨b, o, none⟩) n c)) := Lib.hid ((q0.cell (p := ⟨w.heap.size, 7, none⟩) (by simp; omega)).trans tc7)
        have TL : w.heap.size < wq.heap.size := by omega
        have TQ : Hid (TB wq w.heap.size x0 (.slice (some ⟨b, o, none⟩) n c) (.slice A2 n2 c2)) := Lib.hid (TW.out.keep (B := N) (by omega) q0)
        clear tc7
        have HQ : Hid (Below w.heap.size w wq) := Lib.hid (HB.out.trans (q0.mono hbs))
        have Q1 := Lib.hid q1
        clear a0 a1 hN q0 q1
        refine class_region wq.heap.size (by kernel_rfl) (by kernel_rfl) ?_
        with_reducible refine class_opk (.pointer (some ⟨N, 0, none⟩)) ?_ ?_ ?_
        · first | exact rfl | go_simp
        · intro W hW
          go_simp
        intro K hK
        go_simp
        with_reducible refine hK _ ?_
        clear hK K
        with_reducible refine class_opk (.int .i64 x.a) ?_ ?_ ?_
        · first | exact rfl | go_simp
        · intro W hW
          obtain ⟨g0, g1⟩ := atFlat (Q1.out.keep (B := wq.heap.size) q2 hW)
          go_simp
        intro K hK
        go_simp
        with_reducible refine hK _ ?_
        clear hK K
        with_reducible refine class_opk (.bool true) ?_ ?_ ?_
        · first | exact rfl | go_simp
        · intro W hW
          go_simp
          refine class_call0 hW ?_
          rw [← HK1.out]
          exact in_range _ _ _ _
        intro K hK
        go_simp
        with_reducible refine hK _ ?_
        clear hK K
        with_reducible refine class_opk (.bool false) ?_ ?_ ?_
        · first | exact rfl | go_simp
        · intro W hW
          go_simp
        intro K hK
        go_simp
        with_reducible refine hK _ ?_
        clear hK K
        with_reducible refine class_opk (.bool false) ?_ ?_ ?_
        · first | exact rfl | go_simp
        · intro W hW
          go_simp
        intro K hK
        go_simp
        with_reducible refine hK _ ?_
        clear hK K
        with_reducible refine class_opk (.pointer (some ⟨N, 1, none⟩)) ?_ ?_ ?_
        · first | exact rfl | go_simp
        · intro W hW
          go_simp
        intro K hK
        go_simp
        with_reducible refine hK _ ?_
        clear hK K
        with_reducible refine class_opk (.int .i64 x.b) ?_ ?_ ?_
        · first | exact rfl | go_simp
        · intro W hW
          obtain ⟨g0, g1⟩ := atFlat (Q1.out.keep (B := wq.heap.size) q2 hW)
          go_simp
        intro K hK
        go_simp
        with_reducible refine hK _ ?_
        clear hK K
        with_reducible refine class_opk (.bool true) ?_ ?_ ?_
        · first | exact rfl | go_simp
        · intro W hW
          go_simp
          refine class_call0 hW ?_
          rw [← HK2.out]
          exact in_range _ _ _ _
        intro K hK
        go_simp
        with_reducible refine hK _ ?_
        clear hK K
        with_reducible refine class_opk (.bool false) ?_ ?_ ?_
        · first | exact rfl | go_simp
        · intro W hW
          go_simp
        intro K hK
        go_simp
        with_reducible refine hK _ ?_
        clear hK K
        with_reducible refine class_opk (.bool false) ?_ ?_ ?_
        · first | exact rfl | go_simp
        · intro W hW
          go_simp
        intro K hK
        go_simp
        with_reducible refine hK _ ?_
        clear hK K
        with_reducible refine class_opk (.bool false) ?_ ?_ ?_
        · first | exact rfl | go_simp
        · intro W hW
          go_simp
        intro K hK
        go_simp
        with_reducible refine hK _ ?_
        clear hK K
        with_reducible refine class_opk (.int .i64 k) ?_ ?_ ?_
        · first | exact rfl | go_simp
        · intro W hW
          go_simp
        intro K hK
        go_simp
        with_reducible refine hK _ ?_
        clear hK K
        with_reducible refine class_opk (.bool false) ?_ ?_ ?_
        · first | exact rfl | go_simp
        · intro W hW
          go_simp
        intro K hK
        go_simp
        with_reducible refine hK _ ?_
        clear hK K
        with_reducible refine class_opk (.bool false) ?_ ?_ ?_
        · first | exact rfl | go_simp
        · intro W hW
          go_simp
        intro K hK
        go_simp
        with_reducible refine hK _ ?_
        clear hK K
        with_reducible refine class_skipk ?_ ?_
        · first | exact rfl | (go_simp; try simp [undef])
        intro K hK
        go_simp
        with_reducible refine hK _ ?_
        clear hK K
        with_reducible refine class_skipk ?_ ?_
        · first | exact rfl | (go_simp; try simp [undef])
        intro K hK
        go_simp
        with_reducible refine hK _ ?_
        clear hK K
        with_reducible refine class_skipk ?_ ?_
        · first | exact rfl | (go_simp; try simp [undef])
        intro K hK
        go_simp
        with_reducible refine hK _ ?_
        clear hK K
        with_reducible refine class_skipk ?_ ?_
        · first | exact rfl | (go_simp; try simp [undef])
        intro K hK
        go_simp
        with_reducible refine hK _ ?_
        clear hK K
        with_reducible refine class_skipk ?_ ?_
        · first | exact rfl | (go_simp; try simp [undef])
        intro K hK
        go_simp
        with_reducible refine hK _ ?_
        clear hK K
        with_reducible refine class_skipk ?_ ?_
        · first | exact rfl | (go_simp; try simp [undef])
        intro K hK
        go_simp
        with_reducible refine hK _ ?_
        clear hK K
        with_reducible refine class_skipk ?_ ?_
        · first | exact rfl | (go_simp; try simp [undef])
        intro K hK
        go_simp
        with_reducible refine hK _ ?_
        clear hK K
        with_reducible refine class_skipk ?_ ?_
        · first | exact rfl | (go_simp; try simp [undef])
        intro K hK
        go_simp
        with_reducible refine hK _ ?_
        clear hK K
        with_reducible refine class_skipk ?_ ?_
        · first | exact rfl | (go_simp; try simp [undef])
        intro K hK
        go_simp
        with_reducible refine hK _ ?_
        clear hK K
        with_reducible refine class_opk (.bool false) ?_ ?_ ?_
        · first | exact rfl | go_simp
        · intro W hW
          go_simp
        intro K hK
        go_simp
        with_reducible refine hK _ ?_
        clear hK K
        with_reducible refine class_opk (.bool false) ?_ ?_ ?_
        · first | exact rfl | go_simp
        · intro W hW
          go_simp
        intro K hK
        go_simp
        with_reducible refine hK _ ?_
        clear hK K
        with_reducible refine class_end ?_
        intro W1 hW1
        go_simp
        have HB1 : Hid (Below w.heap.size w W1) := Lib.hid (HQ.out.trans (hW1.mono HQ.out.size))
        have TL1 := Nat.lt_of_lt_of_le TL hW1.size
        have TQ1 := Lib.hid (TQ.out.keep TL hW1)
        clear hW1
        go_wp2_with fail
        go_roundw
        case rel => exact ⟨k + 1, by omega, by go_num, pri_step HP.out HX.out (okR_yes HK1.out HK2.out) (fun h => absurd h h0), HB1.out, TL1, TQ1.out⟩
        case measure => simp [intOf]; omega
    · obtain rfl : n = k := by omega
      have HR := Lib.hid (sq_all hln HP.out)
      have HB := Lib.hid hb
      have TW := Lib.hid tb
      obtain ⟨tc0, tc1, tc2, tc3, tc4, tc5, tc6, tc7, tc8⟩ := tb
      clear hb tc0 tc1 tc2 tc3 tc4 tc5 tc6
      go_wp2_with fail
      go_loopw [5] (fun i wr => ∃ k : Nat, k ≤ n2 ∧ i = .int .i64 k ∧ Pri okW folW l2 k ∧ Below w.heap.size w wr ∧ w.heap.size < wr.heap.size ∧ TB wr w.heap.size x0 (.slice A n c) (.slice A2 n2 c2)) (fun i _ => n2 - (intOf i).toNat)
      case atStart => exact ⟨0, by omega, rfl, pri_zero _ _ l2, HB.out, tlt, TW.out⟩
      case round =>
        clear tc7 tc8 tlt HB TW HP
        obtain ⟨k, hk, rfl, hP, hb, tlt, tb⟩ := hrel
        have HP := Lib.hid hP
        clear hP
        by_cases hlt : k < n2
        · obtain ⟨b, o, x, rfl, hbB, hx, a0, a1⟩ := (H2.out.below (below_le hb hB)).at_ hlt
          have HB := Lib.hid hb
          have HX := Lib.hid hx
          have TW := Lib.hid tb
          obtain ⟨tc0, tc1, tc2, tc3, tc4, tc5, tc6, tc7, tc8⟩ := tb
          clear hb hx tc0 tc1 tc2 tc3 tc4 tc5 tc6 tc7
          rcases hk1 : In 0 5 x.a with _ | _
          · have HK1 := Lib.hid hk1
            go_wp2_with fail
            have q0 := new1 wr (.cells #[.int .i64 x.a, .int .i64 x.b] 86)
            have q1 := boxed wr x 86
            have q2 : wr.heap.size < (wr.alloc (.cells #[.int .i64 x.a, .int .i64 x.b] 86)).heap.size := by simp
            have hbs := HB.out.size
            obtain ⟨N, hN⟩ : ∃ N, N = wr.heap.size := ⟨_, rfl⟩
            simp only [← hN] at q0 q1 q2 hbs ⊢
            generalize wr.alloc (.cells #[.int .i64 x.a, .int .i64 x.b] 86) = wq at q0 q1 q2 ⊢
            have TC : Hid (wq.cell? ⟨w.heap.size, 8, none⟩ = some (.slice (some ⟨b, o, none⟩) n2 c2)) := Lib.hid ((q0.cell (p := ⟨w.heap.size, 8, none⟩) (by simp; omega)).trans tc8)
            have TL : w.heap.size < wq.heap.size := by omega
            have TQ : Hid (TB wq w.heap.size x0 (.slice A n c) (.slice (some ⟨b, o, none⟩) n2 c2)) := Lib.hid (TW.out.keep (B := N) (by omega) q0)
            clear tc8
            have HQ : Hid (Below w.heap.size w wq) := Lib.hid (HB.out.trans (q0.mono hbs))
            have Q1 := Lib.hid q1
            clear a0 a1 hN q0 q1
            refine class_region wq.heap.size (by kernel_rfl) (by kernel_rfl) ?_
            with_reducible refine class_opk (.pointer (some ⟨N, 0, none⟩)) ?_ ?_ ?_
            · first | exact rfl | go_simp
            · intro W hW
              go_simp
            intro K hK
            go_simp
            with_reducible refine hK _ ?_
            clear hK K
            with_reducible refine class_opk (.int .i64 x.a) ?_ ?_ ?_
            · first | exact rfl | go_simp
            · intro W hW
              obtain ⟨g0, g1⟩ := atFlat (Q1.out.keep (B := wq.heap.size) q2 hW)
              go_simp
            intro K hK
            go_simp
            with_reducible refine hK _ ?_
            clear hK K
            with_reducible refine class_opk (.bool false) ?_ ?_ ?_
            · first | exact rfl | go_simp
            · intro W hW
              go_simp
              refine class_call0 hW ?_
              rw [← HK1.out]
              exact in_range _ _ _ _
            intro K hK
            go_simp
            with_reducible refine hK _ ?_
            clear hK K
            with_reducible refine class_opk (.bool true) ?_ ?_ ?_
            · first | exact rfl | go_simp
            · intro W hW
              go_simp
            intro K hK
            go_simp
            with_reducible refine hK _ ?_
            clear hK K
            with_reducible refine class_opk (.bool true) ?_ ?_ ?_
            · first | exact rfl | go_simp
            · intro W hW
              go_simp
            intro K hK
            go_simp
            with_reducible refine hK _ ?_
            clear hK K
            with_reducible refine class_skipk ?_ ?_
            · first | exact rfl | (go_simp; try simp [undef])
            intro K hK
            go_simp
            with_reducible refine hK _ ?_
            clear hK K
            with_reducible refine class_skipk ?_ ?_
            · first | exact rfl | (go_simp; try simp [undef])
            intro K hK
            go_simp
            with_reducible refine hK _ ?_
            clear hK K
            with_reducible refine class_skipk ?_ ?_
            · first | exact rfl | (go_simp; try simp [undef])
            intro K hK
            go_simp
            with_reducible refine hK _ ?_
            clear hK K
            with_reducible refine class_skipk ?_ ?_
            · first | exact rfl | (go_simp; try simp [undef])
            intro K hK
            go_simp
            with_reducible refine hK _ ?_
            clear hK K
            with_reducible refine class_opk (.bool true) ?_ ?_ ?_
            · first | exact rfl | go_simp
            · intro W hW
              go_simp
            intro K hK
            go_simp
            with_reducible refine hK _ ?_
            clear hK K
            with_reducible refine class_opk (.bool true) ?_ ?_ ?_
            · first | exact rfl | go_simp
            · intro W hW
              go_simp
            intro K hK
            go_simp
            with_reducible refine hK _ ?_
            clear hK K
            with_reducible refine class_skipk ?_ ?_
            · first | exact rfl | (go_simp; try simp [undef])
            intro K hK
            go_simp
            with_reducible refine hK _ ?_
            clear hK K
            with_reducible refine class_skipk ?_ ?_
            · first | exact rfl | (go_simp; try simp [undef])
            intro K hK
            go_simp
            with_reducible refine hK _ ?_
            clear hK K
            with_reducible refine class_skipk ?_ ?_
            · first | exact rfl | (go_simp; try simp [undef])
            intro K hK
            go_simp
            with_reducible refine hK _ ?_
            clear hK K
            with_reducible refine class_skipk ?_ ?_
            · first | exact rfl | (go_simp; try simp [undef])
            intro K hK
            go_simp
            with_reducible refine hK _ ?_
            clear hK K
            with_reducible refine class_skipk ?_ ?_
            · first | exact rfl | (go_simp; try simp [undef])
            intro K hK
            go_simp
            with_reducible refine hK _ ?_
            clear hK K
            with_reducible refine class_skipk ?_ ?_
            · first | exact rfl | (go_simp; try simp [undef])
            intro K hK
            go_simp
            with_reducible refine hK _ ?_
            clear hK K
            with_reducible refine class_skipk ?_ ?_
            · first | exact rfl | (go_simp; try simp [undef])
            intro K hK
            go_simp
            with_reducible refine hK _ ?_
            clear hK K
            with_reducible refine class_skipk ?_ ?_
            · first | exact rfl | (go_simp; try simp [undef])
            intro K hK
            go_simp
            with_reducible refine hK _ ?_
            clear hK K
            with_reducible refine class_skipk ?_ ?_
            · first | exact rfl | (go_simp; try simp [undef])
            intro K hK
            go_simp
            with_reducible refine hK _ ?_
            clear hK K
            with_reducible refine class_skipk ?_ ?_
            · first | exact rfl | (go_simp; try simp [undef])
            intro K hK
            go_simp
            with_reducible refine hK _ ?_
            clear hK K
            with_reducible refine class_skipk ?_ ?_
            · first | exact rfl | (go_simp; try simp [undef])
            intro K hK
            go_simp
            with_reducible refine hK _ ?_
            clear hK K
            with_reducible refine class_skipk ?_ ?_
            · first | exact rfl | (go_simp; try simp [undef])
            intro K hK
            go_simp
            with_reducible refine hK _ ?_
            clear hK K
            with_reducible refine class_skipk ?_ ?_
            · first | exact rfl | (go_simp; try simp [undef])
            intro K hK
            go_simp
            with_reducible refine hK _ ?_
            clear hK K
            with_reducible refine class_skipk ?_ ?_
            · first | exact rfl | (go_simp; try simp [undef])
            intro K hK
            go_simp
            with_reducible refine hK _ ?_
            clear hK K
            with_reducible refine class_opk (.bool true) ?_ ?_ ?_
            · first | exact rfl | go_simp
            · intro W hW
              go_simp
            intro K hK
            go_simp
            with_reducible refine hK _ ?_
            clear hK K
            with_reducible refine class_end ?_
            intro W1 hW1
            go_simp
            have HB1 : Hid (Below w.heap.size w W1) := Lib.hid (HQ.out.trans (hW1.mono HQ.out.size))
            have TL1 := Nat.lt_of_lt_of_le TL hW1.size
            have TQ1 := Lib.hid (TQ.out.keep TL hW1)
            clear hW1
            go_wp2_with fail
            go_ret
            exact ⟨ret_b (tx_bad (x := x0) (.inr (.inr (.inl (sq_bad HX.out (okW_a HK1.out)))))), HB1.out⟩
          have HK1 := Lib.hid hk1
          rcases hk2 : In (-1) 99 x.b with _ | _
          · have HK2 := Lib.hid hk2
            go_wp2_with fail
            have q0 := new1 wr (.cells #[.int .i64 x.a, .int .i64 x.b] 86)
            have q1 := boxed wr x 86
            have q2 : wr.heap.size < (wr.alloc (.cells #[.int .i64 x.a, .int .i64 x.b] 86)).heap.size := by simp
            have hbs := HB.out.size
            obtain ⟨N, hN⟩ : ∃ N, N = wr.heap.size := ⟨_, rfl⟩
            simp only [← hN] at q0 q1 q2 hbs ⊢
            generalize wr.alloc (.cells #[.int .i64 x.a, .int .i64 x.b] 86) = wq at q0 q1 q2 ⊢
            have TC : Hid (wq.cell? ⟨w.heap.size, 8, none⟩ = some (.slice (some ⟨b, o, none⟩) n2 c2)) := Lib.hid ((q0.cell (p := ⟨w.heap.size, 8, none⟩) (by simp; omega)).trans tc8)
            have TL : w.heap.size < wq.heap.size := by omega
            have TQ : Hid (TB wq w.heap.size x0 (.slice A n c) (.slice (some ⟨b, o, none⟩) n2 c2)) := Lib.hid (TW.out.keep (B := N) (by omega) q0)
            clear tc8
            have HQ : Hid (Below w.heap.size w wq) := Lib.hid (HB.out.trans (q0.mono hbs))
            have Q1 := Lib.hid q1
            clear a0 a1 hN q0 q1
            refine class_region wq.heap.size (by kernel_rfl) (by kernel_rfl) ?_
            with_reducible refine class_opk (.pointer (some ⟨N, 0, none⟩)) ?_ ?_ ?_
            · first | exact rfl | go_simp
            · intro W hW
              go_simp
            intro K hK
            go_simp
            with_reducible refine hK _ ?_
            clear hK K
            with_reducible refine class_opk (.int .i64 x.a) ?_ ?_ ?_
            · first | exact rfl | go_simp
            · intro W hW
              obtain ⟨g0, g1⟩ := atFlat (Q1.out.keep (B := wq.heap.size) q2 hW)
              go_simp
            intro K hK
            go_simp
            with_reducible refine hK _ ?_
            clear hK K
            with_reducible refine class_opk (.bool true) ?_ ?_ ?_
            · first | exact rfl | go_simp
            · intro W hW
              go_simp
              refine class_call0 hW ?_
              rw [← HK1.out]
              exact in_range _ _ _ _
            intro K hK
            go_simp
            with_reducible refine hK _ ?_
            clear hK K
            with_reducible refine class_opk (.bool false) ?_ ?_ ?_
            · first | exact rfl | go_simp
            · intro W hW
              go_simp
            intro K hK
            go_simp
            with_reducible refine hK _ ?_
            clear hK K
            with_reducible refine class_opk (.bool false) ?_ ?_ ?_
            · first | exact rfl | go_simp
            · intro W hW
              go_simp
            intro K hK
            go_simp
            with_reducible refine hK _ ?_
            clear hK K
            with_reducible refine class_opk (.pointer (some ⟨N, 1, none⟩)) ?_ ?_ ?_
            · first | exact rfl | go_simp
            · intro W hW
              go_simp
            intro K hK
            go_simp
            with_reducible refine hK _ ?_
            clear hK K
            with_reducible refine class_opk (.int .i64 x.b) ?_ ?_ ?_
            · first | exact rfl | go_simp
            · intro W hW
              obtain ⟨g0, g1⟩ := atFlat (Q1.out.keep (B := wq.heap.size) q2 hW)
              go_simp
            intro K hK
            go_simp
            with_reducible refine hK _ ?_
            clear hK K
            with_reducible refine class_opk (.bool false) ?_ ?_ ?_
            · first | exact rfl | go_simp
            · intro W hW
              go_simp
              refine class_call0 hW ?_
              rw [← HK2.out]
              exact in_range _ _ _ _
            intro K hK
            go_simp
            with_reducible refine hK _ ?_
            clear hK K
            with_reducible refine class_opk (.bool true) ?_ ?_ ?_
            · first | exact rfl | go_simp
            · intro W hW
              go_simp
            intro K hK
            go_simp
            with_reducible refine hK _ ?_
            clear hK K
            with_reducible refine class_opk (.bool true) ?_ ?_ ?_
            · first | exact rfl | go_simp
            · intro W hW
              go_simp
            intro K hK
            go_simp
            with_reducible refine hK _ ?_
            clear hK K
            with_reducible refine class_opk (.bool true) ?_ ?_ ?_
            · first | exact rfl | go_simp
            · intro W hW
              go_simp
            intro K hK
            go_simp
            with_reducible refine hK _ ?_
            clear hK K
            with_reducible refine class_skipk ?_ ?_
            · first | exact rfl | (go_simp; try simp [undef])
            intro K hK
            go_simp
            with_reducible refine hK _ ?_
            clear hK K
            with_reducible refine class_skipk ?_ ?_
            · first | exact rfl | (go_simp; try simp [undef])
            intro K hK
            go_simp
            with_reducible refine hK _ ?_
            clear hK K
            with_reducible refine class_skipk ?_ ?_
            · first | exact rfl | (go_simp; try simp [undef])
            intro K hK
            go_simp
            with_reducible refine hK _ ?_
            clear hK K
            with_reducible refine class_skipk ?_ ?_
            · first | exact rfl | (go_simp; try simp [undef])
            intro K hK
            go_simp
            with_reducible refine hK _ ?_
            clear hK K
            with_reducible refine class_skipk ?_ ?_
            · first | exact rfl | (go_simp; try simp [undef])
            intro K hK
            go_simp
            with_reducible refine hK _ ?_
            clear hK K
            with_reducible refine class_skipk ?_ ?_
            · first | exact rfl | (go_simp; try simp [undef])
            intro K hK
            go_simp
            with_reducible refine hK _ ?_
            clear hK K
            with_reducible refine class_skipk ?_ ?_
            · first | exact rfl | (go_simp; try simp [undef])
            intro K hK
            go_simp
            with_reducible refine hK _ ?_
            clear hK K
            with_reducible refine class_skipk ?_ ?_
            · first | exact rfl | (go_simp; try simp [undef])
            intro K hK
            go_simp
            with_reducible refine hK _ ?_
            clear hK K
            with_reducible refine class_skipk ?_ ?_
            · first | exact rfl | (go_simp; try simp [undef])
            intro K hK
            go_simp
            with_reducible refine hK _ ?_
            clear hK K
            with_reducible refine class_skipk ?_ ?_
            · first | exact rfl | (go_simp; try simp [undef])
            intro K hK
            go_simp
            with_reducible refine hK _ ?_
            clear hK K
            with_reducible refine class_skipk ?_ ?_
            · first | exact rfl | (go_simp; try simp [undef])
            intro K hK
            go_simp
            with_reducible refine hK _ ?_
            clear hK K
            with_reducible refine class_skipk ?_ ?_
            · first | exact rfl | (go_simp; try simp [undef])
            intro K hK
            go_simp
            with_reducible refine hK _ ?_
            clear hK K
            with_reducible refine class_skipk ?_ ?_
            · first | exact rfl | (go_simp; try simp [undef])
            intro K hK
            go_simp
            with_reducible refine hK _ ?_
            clear hK K
            with_reducible refine class_skipk ?_ ?_
            · first | exact rfl | (go_simp; try simp [undef])
            intro K hK
            go_simp
            with_reducible refine hK _ ?_
            clear hK K
            with_reducible refine class_opk (.bool true) ?_ ?_ ?_
            · first | exact rfl | go_simp
            · intro W hW
              go_simp
            intro K hK
            go_simp
            with_reducible refine hK _ ?_
            clear hK K
            with_reducible refine class_end ?_
            intro W1 hW1
            go_simp
            have HB1 : Hid (Below w.heap.size w W1) := Lib.hid (HQ.out.trans (hW1.mono HQ.out.size))
            have TL1 := Nat.lt_of_lt_of_le TL hW1.size
            have TQ1 := Lib.hid (TQ.out.keep TL hW1)
            clear hW1
            go_wp2_with fail
            go_ret
            exact ⟨ret_b (tx_bad (x := x0) (.inr (.inr (.inl (sq_bad HX.out (okW_b HK2.out)))))), HB1.out⟩
          have HK2 := Lib.hid hk2
          by_cases h0 : 0 < k
          · obtain ⟨b', o', y, hbo, hbB', hy, d0, d1⟩ := (H2.out.below (below_le HB.out hB)).at_ (k := k - 1) (by omega)
            injection hbo with hbo
            injection hbo with e1 e2
            subst e1
            subst e2
            have HY := Lib.hid hy
            clear hy
            have s1 : IntKind.i64.wrap ((k : Int) - 1) = (k : Int) - 1 := IntWalk.i64_in _ (by omega)
            have s2 : (0 : Int) ≤ (k : Int) - 1 := by omega
            have s3 : ((k : Int) - 1).toNat = k - 1 := by omega
            have s4 : (k : Int) - 1 < (n2 : Int) := by omega
            have s5 : (1 : Int) ≤ (k : Int) := by omega
            have hg : decide (0 < k) = true := decide_eq_true h0
            by_cases hlt2 : y.a < x.a
            · have HF := Lib.hid (folW_yes hlt2)
              have s6 : decide (x.a ≤ y.a) = false := decide_eq_false (by omega)
              go_wp2_with fail
              have q0 := new1 wr (.cells #[.int .i64 x.a, .int .i64 x.b] 86)
              have q1 := boxed wr x 86
              have q2 : wr.heap.size < (wr.alloc (.cells #[.int .i64 x.a, .int .i64 x.b] 86)).heap.size := by simp
              have hbs := HB.out.size
              obtain ⟨N, hN⟩ : ∃ N, N = wr.heap.size := ⟨_, rfl⟩
              simp only [← hN] at q0 q1 q2 hbs ⊢
              generalize wr.alloc (.cells #[.int .i64 x.a, .int .i64 x.b] 86) = wq at q0 q1 q2 ⊢
              have E0 : Hid (At wq b (o + (k - 1) * 2) y) := Lib.hid (At.keep ⟨d0, d1⟩ (B := N) (by omega) q0)
              have E1 : b < wq.heap.size := by omega
              clear d0 d1
              have TC : Hid (wq.cell? ⟨w.heap.size, 8, none⟩ = some (.slice (some ⟨b, o, none⟩) n2 c2)) := Lib.hid ((q0.cell (p := ⟨w.heap.size, 8, none⟩) (by simp; omega)).trans tc8)
              have TL : w.heap.size < wq.heap.size := by omega
              have TQ : Hid (TB wq w.heap.size x0 (.slice A n c) (.slice (some ⟨b, o, none⟩) n2 c2)) := Lib.hid (TW.out.keep (B := N) (by omega) q0)
              clear tc8
              have HQ : Hid (Below w.heap.size w wq) := Lib.hid (HB.out.trans (q0.mono hbs))
              have Q1 := Lib.hid q1
              clear a0 a1 hN q0 q1
              refine class_region wq.heap.size (by kernel_rfl) (by kernel_rfl) ?_
              with_reducible refine class_opk (.pointer (some ⟨N, 0, none⟩)) ?_ ?_ ?_
              · first | exact rfl | go_simp
              · intro W hW
                go_simp
              intro K hK
              go_simp
              with_reducible refine hK _ ?_
              clear hK K
              with_reducible refine class_opk (.int .i64 x.a) ?_ ?_ ?_
              · first | exact rfl | go_simp
              · intro W hW
                obtain ⟨g0, g1⟩ := atFlat (Q1.out.keep (B := wq.heap.size) q2 hW)
                go_simp
              intro K hK
              go_simp
              with_reducible refine hK _ ?_
              clear hK K
              with_reducible refine class_opk (.bool true) ?_ ?_ ?_
              · first | exact rfl | go_simp
              · intro W hW
                go_simp
                refine class_call0 hW ?_
                rw [← HK1.out]
                exact in_range _ _ _ _
              intro K hK
              go_simp
              with_reducible refine hK _ ?_
              clear hK K
              with_reducible refine class_opk (.bool false) ?_ ?_ ?_
              · first | exact rfl | go_simp
              · intro W hW
                go_simp
              intro K hK
              go_simp
              with_reducible refine hK _ ?_
              clear hK K
              with_reducible refine class_opk (.bool false) ?_ ?_ ?_
              · first | exact rfl | go_simp
              · intro W hW
                go_simp
              intro K hK
              go_simp
              with_reducible refine hK _ ?_
              clear hK K
              with_reducible refine class_opk (.pointer (some ⟨N, 1, none⟩)) ?_ ?_ ?_
              · first | exact rfl | go_simp
              · intro W hW
                go_simp
              intro K hK
              go_simp
              with_reducible refine hK _ ?_
              clear hK K
              with_reducible refine class_opk (.int .i64 x.b) ?_ ?_ ?_
              · first | exact rfl | go_simp
              · intro W hW
                obtain ⟨g0, g1⟩ := atFlat (Q1.out.keep (B := wq.heap.size) q2 hW)
                go_simp
              intro K hK
              go_simp
              with_reducible refine hK _ ?_
              clear hK K
              with_reducible refine class_opk (.bool true) ?_ ?_ ?_
              · first | exact rfl | go_simp
              · intro W hW
                go_simp
                refine class_call0 hW ?_
                rw [← HK2.out]
                exact in_range _ _ _ _
              intro K hK
              go_simp
              with_reducible refine hK _ ?_
              clear hK K
              with_reducible refine class_opk (.bool false) ?_ ?_ ?_
              · first | exact rfl | go_simp
              · intro W hW
                go_simp
              intro K hK
              go_simp
              with_reducible refine hK _ ?_
              clear hK K
              with_reducible refine class_opk (.bool false) ?_ ?_ ?_
              · first | exact rfl | go_simp
              · intro W hW
                go_simp
              intro K hK
              go_simp
              with_reducible refine hK _ ?_
              clear hK K
              with_reducible refine class_opk (.bool false) ?_ ?_ ?_
              · first | exact rfl | go_simp
              · intro W hW
                go_simp
              intro K hK
              go_simp
              with_reducible refine hK _ ?_
              clear hK K
              with_reducible refine class_opk (.int .i64 k) ?_ ?_ ?_
              · first | exact rfl | go_simp
              · intro W hW
                go_simp
              intro K hK
              go_simp
              with_reducible refine hK _ ?_
              clear hK K
              with_reducible refine class_opk (.bool true) ?_ ?_ ?_
              · first | exact rfl | go_simp
              · intro W hW
                go_simp
              intro K hK
              go_simp
              with_reducible refine hK _ ?_
              clear hK K
              with_reducible refine class_opk (.bool true) ?_ ?_ ?_
              · first | exact rfl | go_simp
              · intro W hW
                go_simp
              intro K hK
              go_simp
              with_reducible refine hK _ ?_
              clear hK K
              with_reducible refine class_opk (.pointer (some ⟨w.heap.size, 8, none⟩)) ?_ ?_ ?_
              · first | exact rfl | go_simp
              · intro W hW
                go_simp
              intro K hK
              go_simp
              with_reducible refine hK _ ?_
              clear hK K
              with_reducible refine class_opk (.slice (some ⟨b, o, none⟩) n2 c2) ?_ ?_ ?_
              · first | exact rfl | go_simp
              · intro W hW
                have g := (hW.cell (p := ⟨w.heap.size, 8, none⟩) TL).trans TC.out
                go_simp
              intro K hK
              go_simp
              with_reducible refine hK _ ?_
              clear hK K
              with_reducible refine class_opk (.int .i64 k) ?_ ?_ ?_
              · first | exact rfl | go_simp
              · intro W hW
                go_simp
              intro K hK
              go_simp
              with_reducible refine hK _ ?_
              clear hK K
              with_reducible refine class_opk (.int .i64 ((k : Int) - 1)) ?_ ?_ ?_
              · first | exact rfl | go_simp
              · intro W hW
                go_simp
              intro K hK
              go_simp
              with_reducible refine hK _ ?_
              clear hK K
              with_reducible refine class_opk (.pointer (some ⟨b, o + (k - 1) * 2, none⟩)) ?_ ?_ ?_
              · first | exact rfl | go_simp
              · intro W hW
                go_simp
              intro K hK
              go_simp
              with_reducible refine hK _ ?_
              clear hK K
              with_reducible refine class_opk (.pointer (some ⟨b, o + (k - 1) * 2, none⟩)) ?_ ?_ ?_
              · first | exact rfl | go_simp
              · intro W hW
                go_simp
              intro K hK
              go_simp
              with_reducible refine hK _ ?_
              clear hK K
              with_reducible refine class_opk (.int .i64 y.a) ?_ ?_ ?_
              · first | exact rfl | go_simp
              · intro W hW
                obtain ⟨g0, g1⟩ := E0.out.keep (B := wq.heap.size) E1 hW
                go_simp
              intro K hK
              go_simp
              with_reducible refine hK _ ?_
              clear hK K
              with_reducible refine class_opk (.pointer (some ⟨N, 0, none⟩)) ?_ ?_ ?_
              · first | exact rfl | go_simp
              · intro W hW
                go_simp
              intro K hK
              go_simp
              with_reducible refine hK _ ?_
              clear hK K
              with_reducible refine class_opk (.int .i64 x.a) ?_ ?_ ?_
              · first | exact rfl | go_simp
              · intro W hW
                obtain ⟨g0, g1⟩ := atFlat (Q1.out.keep (B := wq.heap.size) q2 hW)
                go_simp
              intro K hK
              go_simp
              with_reducible refine hK _ ?_
              clear hK K
              with_reducible refine class_opk (.bool false) ?_ ?_ ?_
              · first | exact rfl | go_simp
              · intro W hW
                go_simp
              intro K hK
              go_simp
              with_reducible refine hK _ ?_
              clear hK K
              with_reducible refine class_opk (.bool false) ?_ ?_ ?_
              · first | exact rfl | go_simp
              · intro W hW
                go_simp
              intro K hK
              go_simp
              with_reducible refine hK _ ?_
              clear hK K
              with_reducible refine class_opk (.bool false) ?_ ?_ ?_
              · first | exact rfl | go_simp
              · intro W hW
                go_simp
              intro K hK
              go_simp
              with_reducible refine hK _ ?_
              clear hK K
              with_reducible refine class_end ?_
              intro W1 hW1
              go_simp
              have HB1 : Hid (Below w.heap.size w W1) := Lib.hid (HQ.out.trans (hW1.mono HQ.out.size))
              have TL1 := Nat.lt_of_lt_of_le TL hW1.size
              have TQ1 := Lib.hid (TQ.out.keep TL hW1)
              clear hW1
              go_wp2_with fail
              go_roundw
              case rel => exact ⟨k + 1, by omega, by go_num, pri_step HP.out HX.out (okW_yes HK1.out HK2.out) (fun _ z hz => by have := HY.out; rw [this] at hz; cases hz; exact HF.out), HB1.out, TL1, TQ1.out⟩
              case measure => simp [intOf]; omega
            · have HF := Lib.hid (folW_no hlt2)
              have s6 : decide (x.a ≤ y.a) = true := decide_eq_true (by omega)
              go_wp2_with fail
              have q0 := new1 wr (.cells #[.int .i64 x.a, .int .i64 x.b] 86)
              have q1 := boxed wr x 86
              have q2 : wr.heap.size < (wr.alloc (.cells #[.int .i64 x.a, .int .i64 x.b] 86)).heap.size := by simp
              have hbs := HB.out.size
              obtain ⟨N, hN⟩ : ∃ N, N = wr.heap.size := ⟨_, rfl⟩
              simp only [← hN] at q0 q1 q2 hbs ⊢
              generalize wr.alloc (.cells #[.int .i64 x.a, .int .i64 x.b] 86) = wq at q0 q1 q2 ⊢
              have E0 : Hid (At wq b (o + (k - 1) * 2) y) := Lib.hid (At.keep ⟨d0, d1⟩ (B := N) (by omega) q0)
              have E1 : b < wq.heap.size := by omega
              clear d0 d1
              have TC : Hid (wq.cell? ⟨w.heap.size, 8, none⟩ = some (.slice (some ⟨b, o, none⟩) n2 c2)) := Lib.hid ((q0.cell (p := ⟨w.heap.size, 8, none⟩) (by simp; omega)).trans tc8)
              have TL : w.heap.size < wq.heap.size := by omega
              have TQ : Hid (TB wq w.heap.size x0 (.slice A n c) (.slice (some ⟨b, o, none⟩) n2 c2)) := Lib.hid (TW.out.keep (B := N) (by omega) q0)
              clear tc8
              have HQ : Hid (Below w.heap.size w wq) := Lib.hid (HB.out.trans (q0.mono hbs))
              have Q1 := Lib.hid q1
              clear a0 a1 hN q0 q1
              refine class_region wq.heap.size (by kernel_rfl) (by kernel_rfl) ?_
              with_reducible refine class_opk (.pointer (some ⟨N, 0, none⟩)) ?_ ?_ ?_
              · first | exact rfl | go_simp
              · intro W hW
                go_simp
              intro K hK
              go_simp
              with_reducible refine hK _ ?_
              clear hK K
              with_reducible refine class_opk (.int .i64 x.a) ?_ ?_ ?_
              · first | exact rfl | go_simp
              · intro W hW
                obtain ⟨g0, g1⟩ := atFlat (Q1.out.keep (B := wq.heap.size) q2 hW)
                go_simp
              intro K hK
              go_simp
              with_reducible refine hK _ ?_
              clear hK K
              with_reducible refine class_opk (.bool true) ?_ ?_ ?_
              · first | exact rfl | go_simp
              · intro W hW
                go_simp
                refine class_call0 hW ?_
                rw [← HK1.out]
                exact in_range _ _ _ _
              intro K hK
              go_simp
              with_reducible refine hK _ ?_
              clear hK K
              with_reducible refine class_opk (.bool false) ?_ ?_ ?_
              · first | exact rfl | go_simp
              · intro W hW
                go_simp
              intro K hK
              go_simp
              with_reducible refine hK _ ?_
              clear hK K
              with_reducible refine class_opk (.bool false) ?_ ?_ ?_
              · first | exact rfl | go_simp
              · intro W hW
                go_simp
              intro K hK
              go_simp
              with_reducible refine hK _ ?_
              clear hK K
              with_reducible refine class_opk (.pointer (some ⟨N, 1, none⟩)) ?_ ?_ ?_
              · first | exact rfl | go_simp
              · intro W hW
                go_simp
              intro K hK
              go_simp
              with_reducible refine hK _ ?_
              clear hK K
              with_reducible refine class_opk (.int .i64 x.b) ?_ ?_ ?_
              · first | exact rfl | go_simp
              · intro W hW
                obtain ⟨g0, g1⟩ := atFlat (Q1.out.keep (B := wq.heap.size) q2 hW)
                go_simp
              intro K hK
              go_simp
              with_reducible refine hK _ ?_
              clear hK K
              with_reducible refine class_opk (.bool true) ?_ ?_ ?_
              · first | exact rfl | go_simp
              · intro W hW
                go_simp
                refine class_call0 hW ?_
                rw [← HK2.out]
                exact in_range _ _ _ _
              intro K hK
              go_simp
              with_reducible refine hK _ ?_
              clear hK K
              with_reducible refine class_opk (.bool false) ?_ ?_ ?_
              · first | exact rfl | go_simp
              · intro W hW
                go_simp
              intro K hK
              go_simp
              with_reducible refine hK _ ?_
              clear hK K
              with_reducible refine class_opk (.bool false) ?_ ?_ ?_
              · first | exact rfl | go_simp
              · intro W hW
                go_simp
              intro K hK
              go_simp
              with_reducible refine hK _ ?_
              clear hK K
              with_reducible refine class_opk (.bool false) ?_ ?_ ?_
              · first | exact rfl | go_simp
              · intro W hW
                go_simp
              intro K hK
              go_simp
              with_reducible refine hK _ ?_
              clear hK K
              with_reducible refine class_opk (.int .i64 k) ?_ ?_ ?_
              · first | exact rfl | go_simp
              · intro W hW
                go_simp
              intro K hK
              go_simp
              with_reducible refine hK _ ?_
              clear hK K
              with_reducible refine class_opk (.bool true) ?_ ?_ ?_
              · first | exact rfl | go_simp
              · intro W hW
                go_simp
              intro K hK
              go_simp
              with_reducible refine hK _ ?_
              clear hK K
              with_reducible refine class_opk (.bool true) ?_ ?_ ?_
              · first | exact rfl | go_simp
              · intro W hW
                go_simp
              intro K hK
              go_simp
              with_reducible refine hK _ ?_
              clear hK K
              with_reducible refine class_opk (.pointer (some ⟨w.heap.size, 8, none⟩)) ?_ ?_ ?_
              · first | exact rfl | go_simp
              · intro W hW
                go_simp
              intro K hK
              go_simp
              with_reducible refine hK _ ?_
              clear hK K
              with_reducible refine class_opk (.slice (some ⟨b, o, none⟩) n2 c2) ?_ ?_ ?_
              · first | exact rfl | go_simp
              · intro W hW
                have g := (hW.cell (p := ⟨w.heap.size, 8, none⟩) TL).trans TC.out
                go_simp
              intro K hK
              go_simp
              with_reducible refine hK _ ?_
              clear hK K
              with_reducible refine class_opk (.int .i64 k) ?_ ?_ ?_
              · first | exact rfl | go_simp
              · intro W hW
                go_simp
              intro K hK
              go_simp
              with_reducible refine hK _ ?_
              clear hK K
              with_reducible refine class_opk (.int .i64 ((k : Int) - 1)) ?_ ?_ ?_
              · first | exact rfl | go_simp
              · intro W hW
                go_simp
              intro K hK
              go_simp
              with_reducible refine hK _ ?_
              clear hK K
              with_reducible refine class_opk (.pointer (some ⟨b, o + (k - 1) * 2, none⟩)) ?_ ?_ ?_
              · first | exact rfl | go_simp
              · intro W hW
                go_simp
              intro K hK
              go_simp
              with_reducible refine hK _ ?_
              clear hK K
              with_reducible refine class_opk (.pointer (some ⟨b, o + (k - 1) * 2, none⟩)) ?_ ?_ ?_
              · first | exact rfl | go_simp
              · intro W hW
                go_simp
              intro K hK
              go_simp
              with_reducible refine hK _ ?_
              clear hK K
              with_reducible refine class_opk (.int .i64 y.a) ?_ ?_ ?_
              · first | exact rfl | go_simp
              · intro W hW
                obtain ⟨g0, g1⟩ := E0.out.keep (B := wq.heap.size) E1 hW
                go_simp
              intro K hK
              go_simp
              with_reducible refine hK _ ?_
              clear hK K
              with_reducible refine class_opk (.pointer (some ⟨N, 0, none⟩)) ?_ ?_ ?_
              · first | exact rfl | go_simp
              · intro W hW
                go_simp
              intro K hK
              go_simp
              with_reducible refine hK _ ?_
              clear hK K
              with_reducible refine class_opk (.int .i64 x.a) ?_ ?_ ?_
              · first | exact rfl | go_simp
              · intro W hW
                obtain ⟨g0, g1⟩ := atFlat (Q1.out.keep (B := wq.heap.size) q2 hW)
                go_simp
              intro K hK
              go_simp
              with_reducible refine hK _ ?_
              clear hK K
              with_reducible refine class_opk (.bool true) ?_ ?_ ?_
              · first | exact rfl | go_simp
              · intro W hW
                go_simp
              intro K hK
              go_simp
              with_reducible refine hK _ ?_
              clear hK K
              with_reducible refine class_opk (.bool true) ?_ ?_ ?_
              · first | exact rfl | go_simp
              · intro W hW
                go_simp
              intro K hK
              go_simp
              with_reducible refine hK _ ?_
              clear hK K
              with_reducible refine class_opk (.bool true) ?_ ?_ ?_
              · first | exact rfl | go_simp
              · intro W hW
                go_simp
              intro K hK
              go_simp
              with_reducible refine hK _ ?_
              clear hK K
              with_reducible refine class_end ?_
              intro W1 hW1
              go_simp
              have HB1 : Hid (Below w.heap.size w W1) := Lib.hid (HQ.out.trans (hW1.mono HQ.out.size))
              have TL1 := Nat.lt_of_lt_of_le TL hW1.size
              have TQ1 := Lib.hid (TQ.out.keep TL hW1)
              clear hW1
              go_wp2_with fail
              go_ret
              exact ⟨ret_b (tx_bad (x := x0) (.inr (.inr (.inl (sq_off h0 HY.out HX.out HF.out))))), HB1.out⟩
          · have hg : decide (0 < k) = false := decide_eq_false h0
            go_wp2_with fail
            have q0 := new1 wr (.cells #[.int .i64 x.a, .int .i64 x.b] 86)
            have q1 := boxed wr x 86
            have q2 : wr.heap.size < (wr.alloc (.cells #[.int .i64 x.a, .int .i64 x.b] 86)).heap.size := by simp
            have hbs := HB.out.size
            obtain ⟨N, hN⟩ : ∃ N, N = wr.heap.size := ⟨_, rfl⟩
            simp only [← hN] at q0 q1 q2 hbs ⊢
            generalize wr.alloc (.cells #[.int .i64 x.a, .int .i64 x.b] 86) = wq at q0 q1 q2 ⊢
            have TC : Hid (wq.cell? ⟨w.heap.size, 8, none⟩ = some (.slice (some ⟨b, o, none⟩) n2 c2)) := Lib.hid ((q0.cell (p := ⟨w.heap.size, 8, none⟩) (by simp; omega)).trans tc8)
            have TL : w.heap.size < wq.heap.size := by omega
            have TQ : Hid (TB wq w.heap.size x0 (.slice A n c) (.slice (some ⟨b, o, none⟩) n2 c2)) := Lib.hid (TW.out.keep (B := N) (by omega) q0)
            clear tc8
            have HQ : Hid (Below w.heap.size w wq) := Lib.hid (HB.out.trans (q0.mono hbs))
            have Q1 := Lib.hid q1
            clear a0 a1 hN q0 q1
            refine class_region wq.heap.size (by kernel_rfl) (by kernel_rfl) ?_
            with_reducible refine class_opk (.pointer (some ⟨N, 0, none⟩)) ?_ ?_ ?_
            · first | exact rfl | go_simp
            · intro W hW
              go_simp
            intro K hK
            go_simp
            with_reducible refine hK _ ?_
            clear hK K
            with_reducible refine class_opk (.int .i64 x.a) ?_ ?_ ?_
            · first | exact rfl | go_simp
            · intro W hW
              obtain ⟨g0, g1⟩ := atFlat (Q1.out.keep (B := wq.heap.size) q2 hW)
              go_simp
            intro K hK
            go_simp
            with_reducible refine hK _ ?_
            clear hK K
            with_reducible refine class_opk (.bool true) ?_ ?_ ?_
            · first | exact rfl | go_simp
            · intro W hW
              go_simp
              refine class_call0 hW ?_
              rw [← HK1.out]
              exact in_range _ _ _ _
            intro K hK
            go_simp
            with_reducible refine hK _ ?_
            clear hK K
            with_reducible refine class_opk (.bool false) ?_ ?_ ?_
            · first | exact rfl | go_simp
            · intro W hW
              go_simp
            intro K hK
            go_simp
            with_reducible refine hK _ ?_
            clear hK K
            with_reducible refine class_opk (.bool false) ?_ ?_ ?_
            · first | exact rfl | go_simp
            · intro W hW
              go_simp
            intro K hK
            go_simp
            with_reducible refine hK _ ?_
            clear hK K
            with_reducible refine class_opk (.pointer (some ⟨N, 1, none⟩)) ?_ ?_ ?_
            · first | exact rfl | go_simp
            · intro W hW
              go_simp
            intro K hK
            go_simp
            with_reducible refine hK _ ?_
            clear hK K
            with_reducible refine class_opk (.int .i64 x.b) ?_ ?_ ?_
            · first | exact rfl | go_simp
            · intro W hW
              obtain ⟨g0, g1⟩ := atFlat (Q1.out.keep (B := wq.heap.size) q2 hW)
              go_simp
            intro K hK
            go_simp
            with_reducible refine hK _ ?_
            clear hK K
            with_reducible refine class_opk (.bool true) ?_ ?_ ?_
            · first | exact rfl | go_simp
            · intro W hW
              go_simp
              refine class_call0 hW ?_
              rw [← HK2.out]
              exact in_range _ _ _ _
            intro K hK
            go_simp
            with_reducible refine hK _ ?_
            clear hK K
            with_reducible refine class_opk (.bool false) ?_ ?_ ?_
            · first | exact rfl | go_simp
            · intro W hW
              go_simp
            intro K hK
            go_simp
            with_reducible refine hK _ ?_
            clear hK K
            with_reducible refine class_opk (.bool false) ?_ ?_ ?_
            · first | exact rfl | go_simp
            · intro W hW
              go_simp
            intro K hK
            go_simp
            with_reducible refine hK _ ?_
            clear hK K
            with_reducible refine class_opk (.bool false) ?_ ?_ ?_
            · first | exact rfl | go_simp
            · intro W hW
              go_simp
            intro K hK
            go_simp
            with_reducible refine hK _ ?_
            clear hK K
            with_reducible refine class_opk (.int .i64 k) ?_ ?_ ?_
            · first | exact rfl | go_simp
            · intro W hW
              go_simp
            intro K hK
            go_simp
            with_reducible refine hK _ ?_
            clear hK K
            with_reducible refine class_opk (.bool false) ?_ ?_ ?_
            · first | exact rfl | go_simp
            · intro W hW
              go_simp
            intro K hK
            go_simp
            with_reducible refine hK _ ?_
            clear hK K
            with_reducible refine class_opk (.bool false) ?_ ?_ ?_
            · first | exact rfl | go_simp
            · intro W hW
              go_simp
            intro K hK
            go_simp
            with_reducible refine hK _ ?_
            clear hK K
            with_reducible refine class_skipk ?_ ?_
            · first | exact rfl | (go_simp; try simp [undef])
            intro K hK
            go_simp
            with_reducible refine hK _ ?_
            clear hK K
            with_reducible refine class_skipk ?_ ?_
            · first | exact rfl | (go_simp; try simp [undef])
            intro K hK
            go_simp
            with_reducible refine hK _ ?_
            clear hK K
            with_reducible refine class_skipk ?_ ?_
            · first | exact rfl | (go_simp; try simp [undef])
            intro K hK
            go_simp
            with_reducible refine hK _ ?_
            clear hK K
            with_reducible refine class_skipk ?_ ?_
            · first | exact rfl | (go_simp; try simp [undef])
            intro K hK
            go_simp
            with_reducible refine hK _ ?_
            clear hK K
            with_reducible refine class_skipk ?_ ?_
            · first | exact rfl | (go_simp; try simp [undef])
            intro K hK
            go_simp
            with_reducible refine hK _ ?_
            clear hK K
            with_reducible refine class_skipk ?_ ?_
            · first | exact rfl | (go_simp; try simp [undef])
            intro K hK
            go_simp
            with_reducible refine hK _ ?_
            clear hK K
            with_reducible refine class_skipk ?_ ?_
            · first | exact rfl | (go_simp; try simp [undef])
            intro K hK
            go_simp
            with_reducible refine hK _ ?_
            clear hK K
            with_reducible refine class_skipk ?_ ?_
            · first | exact rfl | (go_simp; try simp [undef])
            intro K hK
            go_simp
            with_reducible refine hK _ ?_
            clear hK K
            with_reducible refine class_skipk ?_ ?_
            · first | exact rfl | (go_simp; try simp [undef])
            intro K hK
            go_simp
            with_reducible refine hK _ ?_
            clear hK K
            with_reducible refine class_skipk ?_ ?_
            · first | exact rfl | (go_simp; try simp [undef])
            intro K hK
            go_simp
            with_reducible refine hK _ ?_
            clear hK K
            with_reducible refine class_opk (.bool false) ?_ ?_ ?_
            · first | exact rfl | go_simp
            · intro W hW
              go_simp
            intro K hK
            go_simp
            with_reducible refine hK _ ?_
            clear hK K
            with_reducible refine class_opk (.bool false) ?_ ?_ ?_
            · first | exact rfl | go_simp
            · intro W hW
              go_simp
            intro K hK
            go_simp
            with_reducible refine hK _ ?_
            clear hK K
            with_reducible refine class_end ?_
            intro W1 hW1
            go_simp
            have HB1 : Hid (Below w.heap.size w W1) := Lib.hid (HQ.out.trans (hW1.mono HQ.out.size))
            have TL1 := Nat.lt_of_lt_of_le TL hW1.size
            have TQ1 := Lib.hid (TQ.out.keep TL hW1)
            clear hW1
            go_wp2_with fail
            go_roundw
            case rel => exact ⟨k + 1, by omega, by go_num, pri_step HP.out HX.out (okW_yes HK1.out HK2.out) (fun h => absurd h h0), HB1.out, TL1, TQ1.out⟩
            case measure => simp [intOf]; omega
        · obtain rfl : n2 = k := by omega
          have HS := Lib.hid (sq_all hln2 HP.out)
          have HB := Lib.hid hb
          obtain ⟨tc0, tc1, tc2, tc3, tc4, tc5, tc6, tc7, tc8⟩ := tb
          clear hb
          rcases h0 : In 1 9 x0.i with _ | _
          · have H0 := Lib.hid h0
            clear h0
            go_wp2_with fail
            refine (in_range _ _ _ _).mono ?_
            rintro e W ⟨rfl, rfl⟩
            rw [H0.out]
            go_wp2_with fail
            go_ret
            exact ⟨ret_b (tx_bad (.inl (hd_i H0.out))), HB.out⟩
          have H0 := Lib.hid h0
          clear h0
          rcases h1 : In 1 4 x0.s with _ | _
          · have H1 := Lib.hid h1
            clear h1
            go_wp2_with fail
            refine (in_range _ _ _ _).mono ?_
            rintro e W ⟨rfl, rfl⟩
            rw [H0.out]
            go_wp2_with fail
            refine (in_range _ _ _ _).mono ?_
            rintro e W ⟨rfl, rfl⟩
            rw [H1.out]
            go_wp2_with fail
            go_ret
            exact ⟨ret_b (tx_bad (.inl (hd_s H1.out))), HB.out⟩
          have H1 := Lib.hid h1
          clear h1
          rcases h2 : In 0 999 x0.b with _ | _
          · have H2 := Lib.hid h2
            clear h2
            go_wp2_with fail
            refine (in_range _ _ _ _).mono ?_
            rintro e W ⟨rfl, rfl⟩
            rw [H0.out]
            go_wp2_with fail
            refine (in_range _ _ _ _).mono ?_
            rintro e W ⟨rfl, rfl⟩
            rw [H1.out]
            go_wp2_with fail
            refine (in_range _ _ _ _).mono ?_
            rintro e W ⟨rfl, rfl⟩
            rw [H2.out]
            go_wp2_with fail
            go_ret
            exact ⟨ret_b (tx_bad (.inl (hd_b H2.out))), HB.out⟩
          have H2 := Lib.hid h2
          clear h2
          rcases h3 : In 1 3 x0.t with _ | _
          · have H3 := Lib.hid h3
            clear h3
            go_wp2_with fail
            refine (in_range _ _ _ _).mono ?_
            rintro e W ⟨rfl, rfl⟩
            rw [H0.out]
            go_wp2_with fail
            refine (in_range _ _ _ _).mono ?_
            rintro e W ⟨rfl, rfl⟩
            rw [H1.out]
            go_wp2_with fail
            refine (in_range _ _ _ _).mono ?_
            rintro e W ⟨rfl, rfl⟩
            rw [H2.out]
            go_wp2_with fail
            refine (in_range _ _ _ _).mono ?_
            rintro e W ⟨rfl, rfl⟩
            rw [H3.out]
            go_wp2_with fail
            go_ret
            exact ⟨ret_b (tx_bad (.inl (hd_c (by have := in_no H3.out; unfold cmP; omega)))), HB.out⟩
          have H3 := Lib.hid h3
          clear h3
          rcases h4 : In 0 999 x0.l with _ | _
          · have H4 := Lib.hid h4
            clear h4
            go_wp2_with fail
            refine (in_range _ _ _ _).mono ?_
            rintro e W ⟨rfl, rfl⟩
            rw [H0.out]
            go_wp2_with fail
            refine (in_range _ _ _ _).mono ?_
            rintro e W ⟨rfl, rfl⟩
            rw [H1.out]
            go_wp2_with fail
            refine (in_range _ _ _ _).mono ?_
            rintro e W ⟨rfl, rfl⟩
            rw [H2.out]
            go_wp2_with fail
            refine (in_range _ _ _ _).mono ?_
            rintro e W ⟨rfl, rfl⟩
            rw [H3.out]
            go_wp2_with fail
            refine (in_range _ _ _ _).mono ?_
            rintro e W ⟨rfl, rfl⟩
            rw [H4.out]
            go_wp2_with fail
            go_ret
            exact ⟨ret_b (tx_bad (.inl (hd_l H4.out))), HB.out⟩
          have H4 := Lib.hid h4
          clear h4
          rcases h5 : In 1 1000 x0.h with _ | _
          · have H5 := Lib.hid h5
            clear h5
            go_wp2_with fail
            refine (in_range _ _ _ _).mono ?_
            rintro e W ⟨rfl, rfl⟩
            rw [H0.out]
            go_wp2_with fail
            refine (in_range _ _ _ _).mono ?_
            rintro e W ⟨rfl, rfl⟩
            rw [H1.out]
            go_wp2_with fail
            refine (in_range _ _ _ _).mono ?_
            rintro e W ⟨rfl, rfl⟩
            rw [H2.out]
            go_wp2_with fail
            refine (in_range _ _ _ _).mono ?_
            rintro e W ⟨rfl, rfl⟩
            rw [H3.out]
            go_wp2_with fail
            refine (in_range _ _ _ _).mono ?_
            rintro e W ⟨rfl, rfl⟩
            rw [H4.out]
            go_wp2_with fail
            refine (in_range _ _ _ _).mono ?_
            rintro e W ⟨rfl, rfl⟩
            rw [H5.out]
            go_wp2_with fail
            go_ret
            exact ⟨ret_b (tx_bad (.inl (hd_h H5.out))), HB.out⟩
          have H5 := Lib.hid h5
          clear h5
          by_cases ht2 : x0.t = 2
          · by_cases hc0 : 0 < x0.c
            · have t0 : decide (0 < x0.c) = true := decide_eq_true hc0
              have u0 : (x0.t == 2) = true := by simpa using ht2
              have HT2 := Lib.hid ht2
              clear ht2
              rcases h7 : In 0 999 x0.c with _ | _
              · have H7 := Lib.hid h7
                clear h7
                have hbad : ¬ cmP x0.t x0.c := by have := in_no H7.out; have := HT2.out; unfold cmP; omega
                have HBAD := Lib.hid hbad
                clear hbad
                go_wp2_with fail
                refine (in_range _ _ _ _).mono ?_
                rintro e W ⟨rfl, rfl⟩
                rw [H0.out]
                go_wp2_with fail
                refine (in_range _ _ _ _).mono ?_
                rintro e W ⟨rfl, rfl⟩
                rw [H1.out]
                go_wp2_with fail
                refine (in_range _ _ _ _).mono ?_
                rintro e W ⟨rfl, rfl⟩
                rw [H2.out]
                go_wp2_with fail
                refine (in_range _ _ _ _).mono ?_
                rintro e W ⟨rfl, rfl⟩
                rw [H3.out]
                go_wp2_with fail
                refine (in_range _ _ _ _).mono ?_
                rintro e W ⟨rfl, rfl⟩
                rw [H4.out]
                go_wp2_with fail
                refine (in_range _ _ _ _).mono ?_
                rintro e W ⟨rfl, rfl⟩
                rw [H5.out]
                go_wp2_with fail
                refine (in_range _ _ _ _).mono ?_
                rintro e W ⟨rfl, rfl⟩
                rw [H7.out]
                go_wp2_with fail
                go_ret
                exact ⟨ret_b (tx_bad (.inl (hd_c HBAD.out))), HB.out⟩
              · have H7 := Lib.hid h7
                clear h7
                have hgood : cmP x0.t x0.c := by have := in_yes H7.out; have := in_yes H3.out; have := HT2.out; unfold cmP; omega
                have HG := Lib.hid (tx_good H0.out H1.out H2.out H4.out H5.out hgood hln HR.out HS.out)
                clear hgood
                go_wp2_with fail
                refine (in_range _ _ _ _).mono ?_
                rintro e W ⟨rfl, rfl⟩
                rw [H0.out]
                go_wp2_with fail
                refine (in_range _ _ _ _).mono ?_
                rintro e W ⟨rfl, rfl⟩
                rw [H1.out]
                go_wp2_with fail
                refine (in_range _ _ _ _).mono ?_
                rintro e W ⟨rfl, rfl⟩
                rw [H2.out]
                go_wp2_with fail
                refine (in_range _ _ _ _).mono ?_
                rintro e W ⟨rfl, rfl⟩
                rw [H3.out]
                go_wp2_with fail
                refine (in_range _ _ _ _).mono ?_
                rintro e W ⟨rfl, rfl⟩
                rw [H4.out]
                go_wp2_with fail
                refine (in_range _ _ _ _).mono ?_
                rintro e W ⟨rfl, rfl⟩
                rw [H5.out]
                go_wp2_with fail
                refine (in_range _ _ _ _).mono ?_
                rintro e W ⟨rfl, rfl⟩
                rw [H7.out]
                go_wp2_with fail
                go_ret
                exact ⟨ret_b HG.out, HB.out⟩
            · have t0 : decide (0 < x0.c) = false := decide_eq_false hc0
              have u0 : (x0.t == 2) = true := by simpa using ht2
              have HT2 := Lib.hid ht2
              clear ht2
              have hbad : ¬ cmP x0.t x0.c := by have := HT2.out; unfold cmP; omega
              have HBAD := Lib.hid hbad
              clear hbad
              go_wp2_with fail
              refine (in_range _ _ _ _).mono ?_
              rintro e W ⟨rfl, rfl⟩
              rw [H0.out]
              go_wp2_with fail
              refine (in_range _ _ _ _).mono ?_
              rintro e W ⟨rfl, rfl⟩
              rw [H1.out]
              go_wp2_with fail
              refine (in_range _ _ _ _).mono ?_
              rintro e W ⟨rfl, rfl⟩
              rw [H2.out]
              go_wp2_with fail
              refine (in_range _ _ _ _).mono ?_
              rintro e W ⟨rfl, rfl⟩
              rw [H3.out]
              go_wp2_with fail
              refine (in_range _ _ _ _).mono ?_
              rintro e W ⟨rfl, rfl⟩
              rw [H4.out]
              go_wp2_with fail
              refine (in_range _ _ _ _).mono ?_
              rintro e W ⟨rfl, rfl⟩
              rw [H5.out]
              go_wp2_with fail
              go_ret
              exact ⟨ret_b (tx_bad (.inl (hd_c HBAD.out))), HB.out⟩
          · by_cases hc0 : 0 < x0.c
            · have t0 : decide (0 < x0.c) = true := decide_eq_true hc0
              have u0 : (x0.t == 2) = false := by simpa using ht2
              have HT2 := Lib.hid ht2
              clear ht2
              have hbad : ¬ cmP x0.t x0.c := by have := HT2.out; unfold cmP; omega
              have HBAD := Lib.hid hbad
              clear hbad
              go_wp2_with fail
              refine (in_range _ _ _ _).mono ?_
              rintro e W ⟨rfl, rfl⟩
              rw [H0.out]
              go_wp2_with fail
              refine (in_range _ _ _ _).mono ?_
              rintro e W ⟨rfl, rfl⟩
              rw [H1.out]
              go_wp2_with fail
              refine (in_range _ _ _ _).mono ?_
              rintro e W ⟨rfl, rfl⟩
              rw [H2.out]
              go_wp2_with fail
              refine (in_range _ _ _ _).mono ?_
              rintro e W ⟨rfl, rfl⟩
              rw [H3.out]
              go_wp2_with fail
              refine (in_range _ _ _ _).mono ?_
              rintro e W ⟨rfl, rfl⟩
              rw [H4.out]
              go_wp2_with fail
              refine (in_range _ _ _ _).mono ?_
              rintro e W ⟨rfl, rfl⟩
              rw [H5.out]
              go_wp2_with fail
              go_ret
              exact ⟨ret_b (tx_bad (.inl (hd_c HBAD.out))), HB.out⟩
            · have t0 : decide (0 < x0.c) = false := decide_eq_false hc0
              have u0 : (x0.t == 2) = false := by simpa using ht2
              have HT2 := Lib.hid ht2
              clear ht2
              rcases h7 : In 0 999 x0.c with _ | _
              · have H7 := Lib.hid h7
                clear h7
                have hbad : ¬ cmP x0.t x0.c := by have := in_no H7.out; have := HT2.out; unfold cmP; omega
                have HBAD := Lib.hid hbad
                clear hbad
                go_wp2_with fail
                refine (in_range _ _ _ _).mono ?_
                rintro e W ⟨rfl, rfl⟩
                rw [H0.out]
                go_wp2_with fail
                refine (in_range _ _ _ _).mono ?_
                rintro e W ⟨rfl, rfl⟩
                rw [H1.out]
                go_wp2_with fail
                refine (in_range _ _ _ _).mono ?_
                rintro e W ⟨rfl, rfl⟩
                rw [H2.out]
                go_wp2_with fail
                refine (in_range _ _ _ _).mono ?_
                rintro e W ⟨rfl, rfl⟩
                rw [H3.out]
                go_wp2_with fail
                refine (in_range _ _ _ _).mono ?_
                rintro e W ⟨rfl, rfl⟩
                rw [H4.out]
                go_wp2_with fail
                refine (in_range _ _ _ _).mono ?_
                rintro e W ⟨rfl, rfl⟩
                rw [H5.out]
                go_wp2_with fail
                refine (in_range _ _ _ _).mono ?_
                rintro e W ⟨rfl, rfl⟩
                rw [H7.out]
                go_wp2_with fail
                go_ret
                exact ⟨ret_b (tx_bad (.inl (hd_c HBAD.out))), HB.out⟩
              · have H7 := Lib.hid h7
                clear h7
                have hgood : cmP x0.t x0.c := by have := in_yes H7.out; have := in_yes H3.out; have := HT2.out; unfold cmP; omega
                have HG := Lib.hid (tx_good H0.out H1.out H2.out H4.out H5.out hgood hln HR.out HS.out)
                clear hgood
                go_wp2_with fail
                refine (in_range _ _ _ _).mono ?_
                rintro e W ⟨rfl, rfl⟩
                rw [H0.out]
                go_wp2_with fail
                refine (in_range _ _ _ _).mono ?_
                rintro e W ⟨rfl, rfl⟩
                rw [H1.out]
                go_wp2_with fail
                refine (in_range _ _ _ _).mono ?_
                rintro e W ⟨rfl, rfl⟩
                rw [H2.out]
                go_wp2_with fail
                refine (in_range _ _ _ _).mono ?_
                rintro e W ⟨rfl, rfl⟩
                rw [H3.out]
                go_wp2_with fail
                refine (in_range _ _ _ _).mono ?_
                rintro e W ⟨rfl, rfl⟩
                rw [H4.out]
                go_wp2_with fail
                refine (in_range _ _ _ _).mono ?_
                rintro e W ⟨rfl, rfl⟩
                rw [H5.out]
                go_wp2_with fail
                refine (in_range _ _ _ _).mono ?_
                rintro e W ⟨rfl, rfl⟩
                rw [H7.out]
                go_wp2_with fail
                go_ret
                exact ⟨ret_b HG.out, HB.out⟩
end Go.Proofs.YtjnlbhmddhpmaaaGreat.tvs
