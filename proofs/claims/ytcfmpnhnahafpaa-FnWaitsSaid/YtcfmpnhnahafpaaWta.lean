/- The test of a wait, AreWaits of the program and of the model: what each answers; nothing that was there is written. -/
import Derived.Test.YtcfmpnhnahafpaaWt
import Derived.Test.YtcfmpnhnahafpaaLka
namespace Go.Proofs.Ytcfmpnhnahafpaa.wta
open Go.ChangeShapes Go.WideShapes Go.ChangeAt Go.RowKit
open Go.Proofs.Ytcfmpnhnahafpaa.el2 Go.Proofs.Ytcfmpnhnahafpaa.seq Go.Proofs.Ytcfmpnhnahafpaa.lk Go.Proofs.Ytcfmpnhnahafpaa.wt
open Go.Proofs.Ytcfmpnhnahafpaa.tv (class_region class_opk class_skipk class_call class_end)
open Go.Proofs.Ytcfmpnhnahafpaa.vers (In in_yes in_no in_of in_off in_range ret_b)
open Go.Proofs.Ytcfmpnhnahafpaa.lka (in_q is_id id_q at_prev)
open Go.Proofs.Ytcfmpnhnahafpaa.rx (qleft)
set_option linter.unusedVariables false
set_option linter.unusedSimpArgs false
theorem wt_bad {l : List E2} {k : Nat} {x : E2} (hx : l[k]? = some x) (h : okT x = false) : false = wtB l := (sq_bad hx h).symm
theorem wt_off {l : List E2} {k : Nat} {x y : E2} (hk : 0 < k) (hy : l[k - 1]? = some y) (hx : l[k]? = some x) (h : ¬ y.a < x.a) : false = wtB l := (sq_off hk hy hx (folK_no h)).symm
theorem wt_all {l : List E2} {n : Nat} (hn : l.length = n) (h : Pri okT folK l n) : true = wtB l := (sq_all hn h).symm
set_option maxRecDepth 100000 in
set_option maxHeartbeats 800000 in
theorem valid_k (x : E2) (w : World) :
    Calls Try.prog 34 #[.agg #[.int .i64 x.a, .int .i64 x.b]] w fun e w' => e = .returned (.bool (okT x)) ∧ Below w.heap.size w w' := by
  have hn0 := new1 w (.cells #[.int .i64 x.a, .int .i64 x.b] 36)
  obtain ⟨z0, z1⟩ := atFlat (boxed w x 36)
  go_enter Try.func34, Try.ntmps34
  rcases h1 : In 1 9 x.a with _ | _
  · have HK1 := Lib.hid h1
    clear h1
    go_wp2_with (first | (go_at_call 38; with_reducible refine (id_q HK1.out _).mono ?_; (rintro e w9 ⟨rfl, rfl⟩)) | fail)
    go_ret
    exact ⟨ret_b (okT_a HK1.out).symm, hn0⟩
  rcases h2 : In 1 9 x.b with _ | _
  · have HK1 := Lib.hid h1
    have HK2 := Lib.hid h2
    clear h1 h2
    go_wp2_with (first | (go_at_call 38; with_reducible refine (id_q HK1.out _).mono ?_; (rintro e w9 ⟨rfl, rfl⟩)) | (go_at_call 38; with_reducible refine (id_q HK2.out _).mono ?_; (rintro e w9 ⟨rfl, rfl⟩)) | fail)
    go_ret
    exact ⟨ret_b (okT_b HK2.out).symm, hn0⟩
  have HK1 := Lib.hid h1
  have HK2 := Lib.hid h2
  clear h1 h2
  by_cases h3 : x.a = x.b
  · have t : (x.a != x.b) = false := by simpa using h3
    have HK3 := Lib.hid h3
    clear h3
    go_wp2_with (first | (go_at_call 38; with_reducible refine (id_q HK1.out _).mono ?_; (rintro e w9 ⟨rfl, rfl⟩)) | (go_at_call 38; with_reducible refine (id_q HK2.out _).mono ?_; (rintro e w9 ⟨rfl, rfl⟩)) | fail)
    go_ret
    exact ⟨ret_b (okT_c HK3.out).symm, hn0⟩
  · have t : (x.a != x.b) = true := by simpa using h3
    have HK3 := Lib.hid h3
    clear h3
    go_wp2_with (first | (go_at_call 38; with_reducible refine (id_q HK1.out _).mono ?_; (rintro e w9 ⟨rfl, rfl⟩)) | (go_at_call 38; with_reducible refine (id_q HK2.out _).mono ?_; (rintro e w9 ⟨rfl, rfl⟩)) | fail)
    go_ret
    exact ⟨ret_b (okT_yes HK1.out HK2.out HK3.out).symm, hn0⟩
set_option maxRecDepth 100000 in
set_option maxHeartbeats 3200000 in
theorem wt_impl {w : World} {B n c : Nat} {A : Option Addr} {l : List E2} (hn : n ≤ 140737488355328) (h1 : Vs w B A n l) (hB : B ≤ w.heap.size) :
    Calls Try.prog 13 #[.slice A n c] w fun e w' => e = .returned (.bool (wtB l)) ∧ Below w.heap.size w w' := by
  have H1 := Lib.hid h1
  have hln := h1.1
  clear h1
  go_enter Try.func13, Try.ntmps13
  go_wp2
  go_loopw [7] (fun i wr => ∃ k : Nat, k ≤ n ∧ i = .int .i64 k ∧ Pri okT folK l k ∧ Below w.heap.size w wr) (fun i _ => n - (intOf i).toNat)
  case atStart => exact ⟨0, by omega, rfl, pri_zero _ _ l, Below.refl _ _⟩
  case round =>
    obtain ⟨k, hk, rfl, hP, hb⟩ := hrel
    have HP := Lib.hid hP
    clear hP
    by_cases hlt : k < n
    case neg =>
      obtain rfl : n = k := by omega
      have HB := Lib.hid hb
      clear hb
      go_wp2_with fail
      go_ret
      exact ⟨ret_b (wt_all hln HP.out), HB.out⟩
    case pos =>
      obtain ⟨b, o, x, rfl, hbB, hx, a0, a1⟩ := (H1.out.below (below_le hb hB)).at_ hlt
      have HB := Lib.hid hb
      have HX := Lib.hid hx
      clear hb hx
      rcases ho : okT x with _ | _
      · have HO := Lib.hid ho
        clear ho
        go_wp2_with fail
        have q0 := new1 wr (.cells #[.int .i64 x.a, .int .i64 x.b] 36)
        have q1 := boxed wr x 36
        have q2 : wr.heap.size < (wr.alloc (.cells #[.int .i64 x.a, .int .i64 x.b] 36)).heap.size := by simp
        have hbs := HB.out.size
        obtain ⟨N, hN⟩ : ∃ N, N = wr.heap.size := ⟨_, rfl⟩
        simp only [← hN] at q0 q1 q2 hbs ⊢
        generalize wr.alloc (.cells #[.int .i64 x.a, .int .i64 x.b] 36) = wq at q0 q1 q2 ⊢
        have HQ : Hid (Below w.heap.size w wq) := Lib.hid (HB.out.trans (q0.mono hbs))
        have Q1 := Lib.hid q1
        clear a0 a1 hN q0 q1
        refine class_region wq.heap.size (by kernel_rfl) (by kernel_rfl) ?_
        with_reducible refine class_opk (.agg #[.int .i64 x.a, .int .i64 x.b]) ?_ ?_ ?_
        · first | exact rfl | go_simp
        · intro W hW
          obtain ⟨g0, g1⟩ := atFlat (Q1.out.keep (B := wq.heap.size) q2 hW)
          go_simp
        intro K hK
        go_simp
        with_reducible refine hK _ ?_
        clear hK K
        with_reducible refine class_opk (.bool false) ?_ ?_ ?_
        · first | exact rfl | go_simp
        · intro W hW
          go_simp
          refine class_call hW ?_
          rw [← HO.out]
          exact valid_k _ _
        intro K hK
        go_simp
        with_reducible refine hK _ ?_
        clear hK K
        with_reducible refine class_opk (.bool true) ?_ ?_ ?_
        · first | exact rfl | go_simp
        · intro W hW
          go_simp
        intro K hK
        go_simp
        with_reducible refine hK _ ?_
        clear hK K
        with_reducible refine class_opk (.bool true) ?_ ?_ ?_
        · first | exact rfl | go_simp
        · intro W hW
          go_simp
        intro K hK
        go_simp
        with_reducible refine hK _ ?_
        clear hK K
        with_reducible refine class_skipk ?_ ?_
        · first | exact rfl | (go_simp; try simp [undef])
        intro K hK
        go_simp
        with_reducible refine hK _ ?_
        clear hK K
        with_reducible refine class_skipk ?_ ?_
        · first | exact rfl | (go_simp; try simp [undef])
        intro K hK
        go_simp
        with_reducible refine hK _ ?_
        clear hK K
        with_reducible refine class_skipk ?_ ?_
        · first | exact rfl | (go_simp; try simp [undef])
        intro K hK
        go_simp
        with_reducible refine hK _ ?_
        clear hK K
        with_reducible refine class_skipk ?_ ?_
        · first | exact rfl | (go_simp; try simp [undef])
        intro K hK
        go_simp
        with_reducible refine hK _ ?_
        clear hK K
        with_reducible refine class_skipk ?_ ?_
        · first | exact rfl | (go_simp; try simp [undef])
        intro K hK
        go_simp
        with_reducible refine hK _ ?_
        clear hK K
        with_reducible refine class_skipk ?_ ?_
        · first | exact rfl | (go_simp; try simp [undef])
        intro K hK
        go_simp
        with_reducible refine hK _ ?_
        clear hK K
        with_reducible refine class_skipk ?_ ?_
        · first | exact rfl | (go_simp; try simp [undef])
        intro K hK
        go_simp
        with_reducible refine hK _ ?_
        clear hK K
        with_reducible refine class_skipk ?_ ?_
        · first | exact rfl | (go_simp; try simp [undef])
        intro K hK
        go_simp
        with_reducible refine hK _ ?_
        clear hK K
        with_reducible refine class_skipk ?_ ?_
        · first | exact rfl | (go_simp; try simp [undef])
        intro K hK
        go_simp
        with_reducible refine hK _ ?_
        clear hK K
        with_reducible refine class_skipk ?_ ?_
        · first | exact rfl | (go_simp; try simp [undef])
        intro K hK
        go_simp
        with_reducible refine hK _ ?_
        clear hK K
        with_reducible refine class_skipk ?_ ?_
        · first | exact rfl | (go_simp; try simp [undef])
        intro K hK
        go_simp
        with_reducible refine hK _ ?_
        clear hK K
        with_reducible refine class_skipk ?_ ?_
        · first | exact rfl | (go_simp; try simp [undef])
        intro K hK
        go_simp
        with_reducible refine hK _ ?_
        clear hK K
        with_reducible refine class_skipk ?_ ?_
        · first | exact rfl | (go_simp; try simp [undef])
        intro K hK
        go_simp
        with_reducible refine hK _ ?_
        clear hK K
        with_reducible refine class_opk (.bool true) ?_ ?_ ?_
        · first | exact rfl | go_simp
        · intro W hW
          go_simp
        intro K hK
        go_simp
        with_reducible refine hK _ ?_
        clear hK K
        with_reducible refine class_end ?_
        intro W1 hW1
        go_simp
        have HB1 : Hid (Below w.heap.size w W1) := Lib.hid (HQ.out.trans (hW1.mono HQ.out.size))
        clear hW1
        go_wp2_with fail
        go_ret
        exact ⟨ret_b (wt_bad HX.out HO.out), HB1.out⟩
      have HO := Lib.hid ho
      clear ho
      by_cases h0 : 0 < k
      · obtain ⟨b', o', y, hbo, hbB', hy, d0, d1⟩ := (H1.out.below (below_le HB.out hB)).at_ (k := k - 1) (by omega)
        injection hbo with hbo
        injection hbo with e1 e2
        subst e1
        subst e2
        have HY := Lib.hid hy
        clear hy
        have s1 : IntKind.i64.wrap ((k : Int) - 1) = (k : Int) - 1 := IntWalk.i64_in _ (by omega)
        have s2 : (0 : Int) ≤ (k : Int) - 1 := by omega
        have s3 : ((k : Int) - 1).toNat = k - 1 := by omega
        have s4 : (k : Int) - 1 < (n : Int) := by omega
        have s5 : (1 : Int) ≤ (k : Int) := by omega
        have hg : decide (0 < k) = true := decide_eq_true h0
        by_cases hlt2 : y.a < x.a
        · have HF := Lib.hid (folK_yes hlt2)
          have s6 : decide (x.a ≤ y.a) = false := decide_eq_false (by omega)
          go_wp2_with fail
          have q0 := new1 wr (.cells #[.int .i64 x.a, .int .i64 x.b] 36)
          have q1 := boxed wr x 36
          have q2 : wr.heap.size < (wr.alloc (.cells #[.int .i64 x.a, .int .i64 x.b] 36)).heap.size := by simp
          have hbs := HB.out.size
          obtain ⟨N, hN⟩ : ∃ N, N = wr.heap.size := ⟨_, rfl⟩
          simp only [← hN] at q0 q1 q2 hbs ⊢
          generalize wr.alloc (.cells #[.int .i64 x.a, .int .i64 x.b] 36) = wq at q0 q1 q2 ⊢
          have E0 : Hid (At wq b (o + (k - 1) * 2) y) := Lib.hid (At.keep ⟨d0, d1⟩ (B := N) (by omega) q0)
          have E1 : b < wq.heap.size := by omega
          clear d0 d1
          have HQ : Hid (Below w.heap.size w wq) := Lib.hid (HB.out.trans (q0.mono hbs))
          have Q1 := Lib.hid q1
          clear a0 a1 hN q0 q1
          refine class_region wq.heap.size (by kernel_rfl) (by kernel_rfl) ?_
          with_reducible refine class_opk (.agg #[.int .i64 x.a, .int .i64 x.b]) ?_ ?_ ?_
          · first | exact rfl | go_simp
          · intro W hW
            obtain ⟨g0, g1⟩ := atFlat (Q1.out.keep (B := wq.heap.size) q2 hW)
            go_simp
          intro K hK
          go_simp
          with_reducible refine hK _ ?_
          clear hK K
          with_reducible refine class_opk (.bool true) ?_ ?_ ?_
          · first | exact rfl | go_simp
          · intro W hW
            go_simp
            refine class_call hW ?_
            rw [← HO.out]
            exact valid_k _ _
          intro K hK
          go_simp
          with_reducible refine hK _ ?_
          clear hK K
          with_reducible refine class_opk (.bool false) ?_ ?_ ?_
          · first | exact rfl | go_simp
          · intro W hW
            go_simp
          intro K hK
          go_simp
          with_reducible refine hK _ ?_
          clear hK K
          with_reducible refine class_opk (.bool false) ?_ ?_ ?_
          · first | exact rfl | go_simp
          · intro W hW
            go_simp
          intro K hK
          go_simp
          with_reducible refine hK _ ?_
          clear hK K
          with_reducible refine class_opk (.int .i64 k) ?_ ?_ ?_
          · first | exact rfl | go_simp
          · intro W hW
            go_simp
          intro K hK
          go_simp
          with_reducible refine hK _ ?_
          clear hK K
          with_reducible refine class_opk (.bool true) ?_ ?_ ?_
          · first | exact rfl | go_simp
          · intro W hW
            go_simp
          intro K hK
          go_simp
          with_reducible refine hK _ ?_
          clear hK K
          with_reducible refine class_opk (.bool true) ?_ ?_ ?_
          · first | exact rfl | go_simp
          · intro W hW
            go_simp
          intro K hK
          go_simp
          with_reducible refine hK _ ?_
          clear hK K
          with_reducible refine class_opk (.pointer (some ⟨N, 0, none⟩)) ?_ ?_ ?_
          · first | exact rfl | go_simp
          · intro W hW
            go_simp
          intro K hK
          go_simp
          with_reducible refine hK _ ?_
          clear hK K
          with_reducible refine class_opk (.int .i64 x.a) ?_ ?_ ?_
          · first | exact rfl | go_simp
          · intro W hW
            obtain ⟨g0, g1⟩ := atFlat (Q1.out.keep (B := wq.heap.size) q2 hW)
            go_simp
          intro K hK
          go_simp
          with_reducible refine hK _ ?_
          clear hK K
          with_reducible refine class_opk (.slice (some ⟨b, o, none⟩) n c) ?_ ?_ ?_
          · first | exact rfl | go_simp
          · intro W hW
            go_simp
          intro K hK
          go_simp
          with_reducible refine hK _ ?_
          clear hK K
          with_reducible refine class_opk (.int .i64 k) ?_ ?_ ?_
          · first | exact rfl | go_simp
          · intro W hW
            go_simp
          intro K hK
          go_simp
          with_reducible refine hK _ ?_
          clear hK K
          with_reducible refine class_opk (.int .i64 ((k : Int) - 1)) ?_ ?_ ?_
          · first | exact rfl | go_simp
          · intro W hW
            go_simp
          intro K hK
          go_simp
          with_reducible refine hK _ ?_
          clear hK K
          with_reducible refine class_opk (.pointer (some ⟨b, o + (k - 1) * 2, none⟩)) ?_ ?_ ?_
          · first | exact rfl | go_simp
          · intro W hW
            go_simp
          intro K hK
          go_simp
          with_reducible refine hK _ ?_
          clear hK K
          with_reducible refine class_opk (.pointer (some ⟨b, o + (k - 1) * 2, none⟩)) ?_ ?_ ?_
          · first | exact rfl | go_simp
          · intro W hW
            go_simp
          intro K hK
          go_simp
          with_reducible refine hK _ ?_
          clear hK K
          with_reducible refine class_opk (.int .i64 y.a) ?_ ?_ ?_
          · first | exact rfl | go_simp
          · intro W hW
            obtain ⟨g0, g1⟩ := E0.out.keep (B := wq.heap.size) E1 hW
            go_simp
          intro K hK
          go_simp
          with_reducible refine hK _ ?_
          clear hK K
          with_reducible refine class_opk (.bool false) ?_ ?_ ?_
          · first | exact rfl | go_simp
          · intro W hW
            go_simp
          intro K hK
          go_simp
          with_reducible refine hK _ ?_
          clear hK K
          with_reducible refine class_opk (.bool false) ?_ ?_ ?_
          · first | exact rfl | go_simp
          · intro W hW
            go_simp
          intro K hK
          go_simp
          with_reducible refine hK _ ?_
          clear hK K
          with_reducible refine class_opk (.bool false) ?_ ?_ ?_
          · first | exact rfl | go_simp
          · intro W hW
            go_simp
          intro K hK
          go_simp
          with_reducible refine hK _ ?_
          clear hK K
          with_reducible refine class_end ?_
          intro W1 hW1
          go_simp
          have HB1 : Hid (Below w.heap.size w W1) := Lib.hid (HQ.out.trans (hW1.mono HQ.out.size))
          clear hW1
          go_wp2_with fail
          go_roundw
          case rel => exact ⟨k + 1, by omega, by go_num, pri_step HP.out HX.out HO.out (fun _ z hz => by have := HY.out; rw [this] at hz; cases hz; exact HF.out), HB1.out⟩
          case measure => simp [intOf]; omega
        · have HF := Lib.hid hlt2
          have s6 : decide (x.a ≤ y.a) = true := decide_eq_true (by omega)
          go_wp2_with fail
          have q0 := new1 wr (.cells #[.int .i64 x.a, .int .i64 x.b] 36)
          have q1 := boxed wr x 36
          have q2 : wr.heap.size < (wr.alloc (.cells #[.int .i64 x.a, .int .i64 x.b] 36)).heap.size := by simp
          have hbs := HB.out.size
          obtain ⟨N, hN⟩ : ∃ N, N = wr.heap.size := ⟨_, rfl⟩
          simp only [← hN] at q0 q1 q2 hbs ⊢
          generalize wr.alloc (.cells #[.int .i64 x.a, .int .i64 x.b] 36) = wq at q0 q1 q2 ⊢
          have E0 : Hid (At wq b (o + (k - 1) * 2) y) := Lib.hid (At.keep ⟨d0, d1⟩ (B := N) (by omega) q0)
          have E1 : b < wq.heap.size := by omega
          clear d0 d1
          have HQ : Hid (Below w.heap.size w wq) := Lib.hid (HB.out.trans (q0.mono hbs))
          have Q1 := Lib.hid q1
          clear a0 a1 hN q0 q1
          refine class_region wq.heap.size (by kernel_rfl) (by kernel_rfl) ?_
          with_reducible refine class_opk (.agg #[.int .i64 x.a, .int .i64 x.b]) ?_ ?_ ?_
          · first | exact rfl | go_simp
          · intro W hW
            obtain ⟨g0, g1⟩ := atFlat (Q1.out.keep (B := wq.heap.size) q2 hW)
            go_simp
          intro K hK
          go_simp
          with_reducible refine hK _ ?_
          clear hK K
          with_reducible refine class_opk (.bool true) ?_ ?_ ?_
          · first | exact rfl | go_simp
          · intro W hW
            go_simp
            refine class_call hW ?_
            rw [← HO.out]
            exact valid_k _ _
          intro K hK
          go_simp
          with_reducible refine hK _ ?_
          clear hK K
          with_reducible refine class_opk (.bool false) ?_ ?_ ?_
          · first | exact rfl | go_simp
          · intro W hW
            go_simp
          intro K hK
          go_simp
          with_reducible refine hK _ ?_
          clear hK K
          with_reducible refine class_opk (.bool false) ?_ ?_ ?_
          · first | exact rfl | go_simp
          · intro W hW
            go_simp
          intro K hK
          go_simp
          with_reducible refine hK _ ?_
          clear hK K
          with_reducible refine class_opk (.int .i64 k) ?_ ?_ ?_
          · first | exact rfl | go_simp
          · intro W hW
            go_simp
          intro K hK
          go_simp
          with_reducible refine hK _ ?_
          clear hK K
          with_reducible refine class_opk (.bool true) ?_ ?_ ?_
          · first | exact rfl | go_simp
          · intro W hW
            go_simp
          intro K hK
          go_simp
          with_reducible refine hK _ ?_
          clear hK K
          with_reducible refine class_opk (.bool true) ?_ ?_ ?_
          · first | exact rfl | go_simp
          · intro W hW
            go_simp
          intro K hK
          go_simp
          with_reducible refine hK _ ?_
          clear hK K
          with_reducible refine class_opk (.pointer (some ⟨N, 0, none⟩)) ?_ ?_ ?_
          · first | exact rfl | go_simp
          · intro W hW
            go_simp
          intro K hK
          go_simp
          with_reducible refine hK _ ?_
          clear hK K
          with_reducible refine class_opk (.int .i64 x.a) ?_ ?_ ?_
          · first | exact rfl | go_simp
          · intro W hW
            obtain ⟨g0, g1⟩ := atFlat (Q1.out.keep (B := wq.heap.size) q2 hW)
            go_simp
          intro K hK
          go_simp
          with_reducible refine hK _ ?_
          clear hK K
          with_reducible refine class_opk (.slice (some ⟨b, o, none⟩) n c) ?_ ?_ ?_
          · first | exact rfl | go_simp
          · intro W hW
            go_simp
          intro K hK
          go_simp
          with_reducible refine hK _ ?_
          clear hK K
          with_reducible refine class_opk (.int .i64 k) ?_ ?_ ?_
          · first | exact rfl | go_simp
          · intro W hW
            go_simp
          intro K hK
          go_simp
          with_reducible refine hK _ ?_
          clear hK K
          with_reducible refine class_opk (.int .i64 ((k : Int) - 1)) ?_ ?_ ?_
          · first | exact rfl | go_simp
          · intro W hW
            go_simp
          intro K hK
          go_simp
          with_reducible refine hK _ ?_
          clear hK K
          with_reducible refine class_opk (.pointer (some ⟨b, o + (k - 1) * 2, none⟩)) ?_ ?_ ?_
          · first | exact rfl | go_simp
          · intro W hW
            go_simp
          intro K hK
          go_simp
          with_reducible refine hK _ ?_
          clear hK K
          with_reducible refine class_opk (.pointer (some ⟨b, o + (k - 1) * 2, none⟩)) ?_ ?_ ?_
          · first | exact rfl | go_simp
          · intro W hW
            go_simp
          intro K hK
          go_simp
          with_reducible refine hK _ ?_
          clear hK K
          with_reducible refine class_opk (.int .i64 y.a) ?_ ?_ ?_
          · first | exact rfl | go_simp
          · intro W hW
            obtain ⟨g0, g1⟩ := E0.out.keep (B := wq.heap.size) E1 hW
            go_simp
          intro K hK
          go_simp
          with_reducible refine hK _ ?_
          clear hK K
          with_reducible refine class_opk (.bool true) ?_ ?_ ?_
          · first | exact rfl | go_simp
          · intro W hW
            go_simp
          intro K hK
          go_simp
          with_reducible refine hK _ ?_
          clear hK K
          with_reducible refine class_opk (.bool true) ?_ ?_ ?_
          · first | exact rfl | go_simp
          · intro W hW
            go_simp
          intro K hK
          go_simp
          with_reducible refine hK _ ?_
          clear hK K
          with_reducible refine class_opk (.bool true) ?_ ?_ ?_
          · first | exact rfl | go_simp
          · intro W hW
            go_simp
          intro K hK
          go_simp
          with_reducible refine hK _ ?_
          clear hK K
          with_reducible refine class_end ?_
          intro W1 hW1
          go_simp
          have HB1 : Hid (Below w.heap.size w W1) := Lib.hid (HQ.out.trans (hW1.mono HQ.out.size))
          clear hW1
          go_wp2_with fail
          go_ret
          exact ⟨ret_b (wt_off h0 HY.out HX.out (by have := HF.out; omega)), HB1.out⟩
      · have hg : decide (0 < k) = false := decide_eq_false h0
        go_wp2_with fail
        have q0 := new1 wr (.cells #[.int .i64 x.a, .int .i64 x.b] 36)
        have q1 := boxed wr x 36
        have q2 : wr.heap.size < (wr.alloc (.cells #[.int .i64 x.a, .int .i64 x.b] 36)).heap.size := by simp
        have hbs := HB.out.size
        obtain ⟨N, hN⟩ : ∃ N, N = wr.heap.size := ⟨_, rfl⟩
        simp only [← hN] at q0 q1 q2 hbs ⊢
        generalize wr.alloc (.cells #[.int .i64 x.a, .int .i64 x.b] 36) = wq at q0 q1 q2 ⊢
        have HQ : Hid (Below w.heap.size w wq) := Lib.hid (HB.out.trans (q0.mono hbs))
        have Q1 := Lib.hid q1
        clear a0 a1 hN q0 q1
        refine class_region wq.heap.size (by kernel_rfl) (by kernel_rfl) ?_
        with_reducible refine class_opk (.agg #[.int .i64 x.a, .int .i64 x.b]) ?_ ?_ ?_
        · first | exact rfl | go_simp
        · intro W hW
          obtain ⟨g0, g1⟩ := atFlat (Q1.out.keep (B := wq.heap.size) q2 hW)
          go_simp
        intro K hK
        go_simp
        with_reducible refine hK _ ?_
        clear hK K
        with_reducible refine class_opk (.bool true) ?_ ?_ ?_
        · first | exact rfl | go_simp
        · intro W hW
          go_simp
          refine class_call hW ?_
          rw [← HO.out]
          exact valid_k _ _
        intro K hK
        go_simp
        with_reducible refine hK _ ?_
        clear hK K
        with_reducible refine class_opk (.bool false) ?_ ?_ ?_
        · first | exact rfl | go_simp
        · intro W hW
          go_simp
        intro K hK
        go_simp
        with_reducible refine hK _ ?_
        clear hK K
        with_reducible refine class_opk (.bool false) ?_ ?_ ?_
        · first | exact rfl | go_simp
        · intro W hW
          go_simp
        intro K hK
        go_simp
        with_reducible refine hK _ ?_
        clear hK K
        with_reducible refine class_opk (.int .i64 k) ?_ ?_ ?_
        · first | exact rfl | go_simp
        · intro W hW
          go_simp
        intro K hK
        go_simp
        with_reducible refine hK _ ?_
        clear hK K
        with_reducible refine class_opk (.bool false) ?_ ?_ ?_
        · first | exact rfl | go_simp
        · intro W hW
          go_simp
        intro K hK
        go_simp
        with_reducible refine hK _ ?_
        clear hK K
        with_reducible refine class_opk (.bool false) ?_ ?_ ?_
        · first | exact rfl | go_simp
        · intro W hW
          go_simp
        intro K hK
        go_simp
        with_reducible refine hK _ ?_
        clear hK K
        with_reducible refine class_skipk ?_ ?_
        · first | exact rfl | (go_simp; try simp [undef])
        intro K hK
        go_simp
        with_reducible refine hK _ ?_
        clear hK K
        with_reducible refine class_skipk ?_ ?_
        · first | exact rfl | (go_simp; try simp [undef])
        intro K hK
        go_simp
        with_reducible refine hK _ ?_
        clear hK K
        with_reducible refine class_skipk ?_ ?_
        · first | exact rfl | (go_simp; try simp [undef])
        intro K hK
        go_simp
        with_reducible refine hK _ ?_
        clear hK K
        with_reducible refine class_skipk ?_ ?_
        · first | exact rfl | (go_simp; try simp [undef])
        intro K hK
        go_simp
        with_reducible refine hK _ ?_
        clear hK K
        with_reducible refine class_skipk ?_ ?_
        · first | exact rfl | (go_simp; try simp [undef])
        intro K hK
        go_simp
        with_reducible refine hK _ ?_
        clear hK K
        with_reducible refine class_skipk ?_ ?_
        · first | exact rfl | (go_simp; try simp [undef])
        intro K hK
        go_simp
        with_reducible refine hK _ ?_
        clear hK K
        with_reducible refine class_skipk ?_ ?_
        · first | exact rfl | (go_simp; try simp [undef])
        intro K hK
        go_simp
        with_reducible refine hK _ ?_
        clear hK K
        with_reducible refine class_skipk ?_ ?_
        · first | exact rfl | (go_simp; try simp [undef])
        intro K hK
        go_simp
        with_reducible refine hK _ ?_
        clear hK K
        with_reducible refine class_skipk ?_ ?_
        · first | exact rfl | (go_simp; try simp [undef])
        intro K hK
        go_simp
        with_reducible refine hK _ ?_
        clear hK K
        with_reducible refine class_opk (.bool false) ?_ ?_ ?_
        · first | exact rfl | go_simp
        · intro W hW
          go_simp
        intro K hK
        go_simp
        with_reducible refine hK _ ?_
        clear hK K
        with_reducible refine class_opk (.bool false) ?_ ?_ ?_
        · first | exact rfl | go_simp
        · intro W hW
          go_simp
        intro K hK
        go_simp
        with_reducible refine hK _ ?_
        clear hK K
        with_reducible refine class_end ?_
        intro W1 hW1
        go_simp
        have HB1 : Hid (Below w.heap.size w W1) := Lib.hid (HQ.out.trans (hW1.mono HQ.out.size))
        clear hW1
        go_wp2_with fail
        go_roundw
        case rel => exact ⟨k + 1, by omega, by go_num, pri_step HP.out HX.out HO.out (fun h => absurd h h0), HB1.out⟩
        case measure => simp [intOf]; omega
set_option maxRecDepth 100000 in
set_option maxHeartbeats 3200000 in
theorem wt_spec {w : World} {B n c : Nat} {A : Option Addr} {l : List E2} (hn : n ≤ 140737488355328) (h1 : Vs w B A n l) (hB : B ≤ w.heap.size) :
    Calls Try.prog 14 #[.slice A n c] w fun e w' => e = .returned (.bool (wtB l)) ∧ Below w.heap.size w w' := by
  have H1 := Lib.hid h1
  have hln := h1.1
  clear h1
  go_enter Try.func14, Try.ntmps14
  go_wp2
  go_loopw [3] (fun i wr => ∃ k : Nat, k ≤ n ∧ i = .int .i64 k ∧ Pri okT folK l k ∧ Below w.heap.size w wr) (fun i _ => n - (intOf i).toNat)
  case atStart => exact ⟨0, by omega, rfl, pri_zero _ _ l, Below.refl _ _⟩
  case round =>
    obtain ⟨k, hk, rfl, hP, hb⟩ := hrel
    have HP := Lib.hid hP
    have HB := Lib.hid hb
    clear hP
    by_cases hlt : k < n
    case neg =>
      obtain rfl : n = k := by omega
      go_wp2_with fail
      go_ret
      exact ⟨ret_b (wt_all hln HP.out), HB.out⟩
    case pos =>
      obtain ⟨b, o, x, hA, hbB, hx, a0, a1⟩ := (H1.out.below (below_le hb hB)).at_ hlt
      have HA := Lib.hid hA
      have HX := Lib.hid hx
      rcases hk1 : In 1 9 x.a with _ | _
      · have HK1 := Lib.hid hk1
        subst hA
        clear hk1 hx hb
        go_wp2_with fail
        go_quiet ((go_at_call 37; with_reducible exact qleft (in_q HK1.out _)))
        go_wp2_with fail
        go_ret
        exact ⟨ret_b (wt_bad HX.out (okT_a HK1.out)), Go.Proofs.Ytcfmpnhnahafpaa.tv.bdrewN HB.out _⟩
      rcases hk2 : In 1 9 x.b with _ | _
      · have HK1 := Lib.hid hk1
        have HK2 := Lib.hid hk2
        subst hA
        clear hk1 hk2 hx hb
        go_wp2_with fail
        go_quiet ((go_at_call 37; first | with_reducible exact qleft (in_q HK1.out _) | with_reducible exact qleft (in_q HK2.out _)))
        go_wp2_with fail
        go_ret
        exact ⟨ret_b (wt_bad HX.out (okT_b HK2.out)), Go.Proofs.Ytcfmpnhnahafpaa.tv.bdrewN HB.out _⟩
      have HK1 := Lib.hid hk1
      have HK2 := Lib.hid hk2
      clear hk1 hk2
      by_cases hab : x.a = x.b
      · have HK3 := Lib.hid hab
        have t9 : (x.a == x.b) = true := by simpa using hab
        subst hA
        clear hab hx hb
        go_wp2_with fail
        go_quiet ((go_at_call 37; first | with_reducible exact qleft (in_q HK1.out _) | with_reducible exact qleft (in_q HK2.out _)))
        go_wp2_with fail
        go_ret
        exact ⟨ret_b (wt_bad HX.out (okT_c HK3.out)), Go.Proofs.Ytcfmpnhnahafpaa.tv.bdrewN HB.out _⟩
      have HK3 := Lib.hid hab
      have t9 : (x.a == x.b) = false := by simpa using hab
      clear hab
      rcases Nat.eq_zero_or_pos k with h0 | h0
      · subst hA
        have t0 : decide ((0 : Int) < (k : Int)) = false := decide_eq_false (by omega)
        have t00 : decide (0 < k) = false := decide_eq_false (by omega)
        have t01 : ¬ 0 < k := by omega
        have H00 := Lib.hid h0
        clear h0 hx hb
        go_wp2_with fail
        go_quiet ((go_at_call 37; first | with_reducible exact qleft (in_q HK1.out _) | with_reducible exact qleft (in_q HK2.out _)))
        go_wp2_with fail
        go_roundw
        case rel => exact ⟨k + 1, by omega, by go_num, pri_step HP.out HX.out (okT_yes HK1.out HK2.out HK3.out) (fun h => absurd h (by have := H00.out; omega)), Go.Proofs.Ytcfmpnhnahafpaa.tv.bdrewN HB.out _⟩
        case measure => simp [intOf]; omega
      obtain ⟨y, hy, y0, y1⟩ := at_prev (H1.out.below (below_le hb hB)) hA hlt h0
      have HY := Lib.hid hy
      have t0 : decide ((0 : Int) < (k : Int)) = true := decide_eq_true (by omega)
      have e1 : ((k : Int) - 1).toNat = k - 1 := by omega
      have e2 : (0 : Int) ≤ (k : Int) - 1 := by omega
      have e3 : (k : Int) - 1 < (n : Int) := by omega
      subst hA
      clear hx hb hy
      by_cases hf : y.a < x.a
      · have t1 : decide (x.a ≤ y.a) = false := decide_eq_false (by omega)
        have HFL := Lib.hid hf
        clear hf
        go_wp2_with fail
        go_quiet ((go_at_call 37; first | with_reducible exact qleft (in_q HK1.out _) | with_reducible exact qleft (in_q HK2.out _)))
        go_wp2_with fail
        go_roundw
        case rel => exact ⟨k + 1, by omega, by go_num, pri_step HP.out HX.out (okT_yes HK1.out HK2.out HK3.out) (fun _ z hz => by rw [HY.out] at hz; injection hz with hz; subst hz; exact folK_yes (by have := HFL.out; omega)), Go.Proofs.Ytcfmpnhnahafpaa.tv.bdrewN HB.out _⟩
        case measure => simp [intOf]; omega
      · have t1 : decide (x.a ≤ y.a) = true := decide_eq_true (by omega)
        have HFL := Lib.hid hf
        have H00 := Lib.hid h0
        clear hf
        go_wp2_with fail
        go_quiet ((go_at_call 37; first | with_reducible exact qleft (in_q HK1.out _) | with_reducible exact qleft (in_q HK2.out _)))
        go_wp2_with fail
        go_ret
        exact ⟨ret_b (wt_off H00.out HY.out HX.out (by have := HFL.out; omega)), Go.Proofs.Ytcfmpnhnahafpaa.tv.bdrewN HB.out _⟩
end Go.Proofs.Ytcfmpnhnahafpaa.wta
