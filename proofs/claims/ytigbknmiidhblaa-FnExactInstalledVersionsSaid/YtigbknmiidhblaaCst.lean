/- CommittedStamp of both: what each answers; nothing that was there is written. -/
import Derived.Test.YtigbknmiidhblaaCq
import Derived.Test.YtigbknmiidhblaaTv
import Derived.Test.YtigbknmiidhblaaTvs
namespace Go.Proofs.Ytigbknmiidhblaa.cst
open Go.ChangeShapes Go.WideShapes Go.ChangeAt Go.RowKit
open Go.Proofs.Ytigbknmiidhblaa.el2 Go.Proofs.Ytigbknmiidhblaa.tx Go.Proofs.Ytigbknmiidhblaa.seq Go.Proofs.Ytigbknmiidhblaa.tv
open Go.Proofs.Ytigbknmiidhblaa.cq (cstI cst_yes cst_tx cst_t)
set_option linter.unusedVariables false
set_option linter.unusedSimpArgs false
set_option maxRecDepth 100000 in
set_option maxHeartbeats 1600000 in
theorem impl_cst {w : World} {B n c n2 c2 : Nat} {A A2 : Option Addr} {R S : List E2} (x : Hd) (hn : n ≤ 1048576) (hn2 : n2 ≤ 1048576) (h1 : Vs w B A n R) (h2 : Vs w B A2 n2 S) (hB : B ≤ w.heap.size) :
    Calls Try.prog 14 #[.agg #[.int .i64 x.i, .int .i64 x.s, .int .i64 x.t, .int .i64 x.b, .int .i64 x.l, .int .i64 x.h, .int .i64 x.c, .slice A n c, .slice A2 n2 c2]] w fun e w' => e = .returned (.int .i64 (cstI x R S)) ∧ Below w.heap.size w w' := by
  have H1 := Lib.hid h1
  have H2 := Lib.hid h2
  clear h1 h2
  go_enter Try.func14, Try.ntmps14
  go_wp2_with fail
  have hb := new1 w (.cells #[.int .i64 x.i, .int .i64 x.s, .int .i64 x.t, .int .i64 x.b, .int .i64 x.l, .int .i64 x.h, .int .i64 x.c, .slice A n c, .slice A2 n2 c2] 30)
  have tb := TB.new w x A n c A2 n2 c2 30
  have hs : (w.alloc (.cells #[.int .i64 x.i, .int .i64 x.s, .int .i64 x.t, .int .i64 x.b, .int .i64 x.l, .int .i64 x.h, .int .i64 x.c, .slice A n c, .slice A2 n2 c2] 30)).heap.size = w.heap.size + 1 := by simp
  generalize w.alloc _ = W0 at hb tb hs ⊢
  have HB0 := Lib.hid hb
  have HT0 := Lib.hid tb
  obtain ⟨t0, t1, t2, t3, t4, t5, t6, t7, t8⟩ := tb
  clear hb
  go_wp2_with fail
  refine (Go.Proofs.Ytigbknmiidhblaa.tv.impl_tx x (by omega) (by omega) (H1.out.below (below_le HB0.out hB)) (H2.out.below (below_le HB0.out hB)) (by omega)).mono ?_
  rintro e W1 ⟨rfl, hb1⟩
  clear t0 t1 t2 t3 t4 t5 t6 t7 t8
  obtain ⟨t0, t1, t2, t3, t4, t5, t6, t7, t8⟩ := HT0.out.keep (by omega) hb1
  have HB1 := Lib.hid (HB0.out.trans (hb1.mono (by omega)))
  clear hb1 t0 t1 t3 t4 t5 t7 t8
  rcases hq : txB x R S with _ | _
  · have HQ := Lib.hid hq
    clear hq
    go_wp2_with fail
    go_ret
    exact ⟨ret_i (cst_tx HQ.out).symm, HB1.out⟩
  · have HQ := Lib.hid hq
    clear hq
    by_cases h2 : x.t = 2
    · have HT := Lib.hid h2
      have t : (x.t != 2) = false := by rw [h2]; rfl
      clear h2
      go_wp2_with fail
      go_ret
      exact ⟨ret_i (cst_yes HQ.out HT.out).symm, HB1.out⟩
    · have HT := Lib.hid h2
      have t : (x.t != 2) = true := bne_iff_ne.2 h2
      clear h2
      go_wp2_with fail
      go_ret
      exact ⟨ret_i (cst_t HT.out).symm, HB1.out⟩
set_option maxRecDepth 100000 in
set_option maxHeartbeats 1600000 in
theorem spec_cst {w : World} {B n c n2 c2 : Nat} {A A2 : Option Addr} {R S : List E2} (x : Hd) (hn : n ≤ 1048576) (hn2 : n2 ≤ 1048576) (h1 : Vs w B A n R) (h2 : Vs w B A2 n2 S) (hB : B ≤ w.heap.size) :
    Calls Try.prog 13 #[.agg #[.int .i64 x.i, .int .i64 x.s, .int .i64 x.t, .int .i64 x.b, .int .i64 x.l, .int .i64 x.h, .int .i64 x.c, .slice A n c, .slice A2 n2 c2]] w fun e w' => e = .returned (.int .i64 (cstI x R S)) ∧ Below w.heap.size w w' := by
  have H1 := Lib.hid h1
  have H2 := Lib.hid h2
  clear h1 h2
  go_enter Try.func13, Try.ntmps13
  go_wp2_with fail
  have hb := new1 w (.cells #[.int .i64 x.i, .int .i64 x.s, .int .i64 x.t, .int .i64 x.b, .int .i64 x.l, .int .i64 x.h, .int .i64 x.c, .slice A n c, .slice A2 n2 c2] 30)
  have tb := TB.new w x A n c A2 n2 c2 30
  have hs : (w.alloc (.cells #[.int .i64 x.i, .int .i64 x.s, .int .i64 x.t, .int .i64 x.b, .int .i64 x.l, .int .i64 x.h, .int .i64 x.c, .slice A n c, .slice A2 n2 c2] 30)).heap.size = w.heap.size + 1 := by simp
  generalize w.alloc _ = W0 at hb tb hs ⊢
  have HB0 := Lib.hid hb
  have HT0 := Lib.hid tb
  obtain ⟨t0, t1, t2, t3, t4, t5, t6, t7, t8⟩ := tb
  clear hb
  go_wp2_with fail
  refine (Go.Proofs.Ytigbknmiidhblaa.tvs.spec_tx x (by omega) (by omega) (H1.out.below (below_le HB0.out hB)) (H2.out.below (below_le HB0.out hB)) (by omega)).mono ?_
  rintro e W1 ⟨rfl, hb1⟩
  clear t0 t1 t2 t3 t4 t5 t6 t7 t8
  obtain ⟨t0, t1, t2, t3, t4, t5, t6, t7, t8⟩ := HT0.out.keep (by omega) hb1
  have HB1 := Lib.hid (HB0.out.trans (hb1.mono (by omega)))
  clear hb1 t0 t1 t3 t4 t5 t7 t8
  rcases hq : txB x R S with _ | _
  · have HQ := Lib.hid hq
    clear hq
    go_wp2_with fail
    go_ret
    exact ⟨ret_i (cst_tx HQ.out).symm, HB1.out⟩
  · have HQ := Lib.hid hq
    clear hq
    by_cases h2 : x.t = 2
    · have HT := Lib.hid h2
      have t : (x.t != 2) = false := by rw [h2]; rfl
      clear h2
      go_wp2_with fail
      go_ret
      exact ⟨ret_i (cst_yes HQ.out HT.out).symm, HB1.out⟩
    · have HT := Lib.hid h2
      have t : (x.t != 2) = true := bne_iff_ne.2 h2
      clear h2
      go_wp2_with fail
      go_ret
      exact ⟨ret_i (cst_t HT.out).symm, HB1.out⟩
end Go.Proofs.Ytigbknmiidhblaa.cst
