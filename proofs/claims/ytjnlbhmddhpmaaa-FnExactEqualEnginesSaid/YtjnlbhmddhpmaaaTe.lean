/- EqualTransactions of the program and of the model, what it answers; nothing that was there is written. -/
import Derived.Test.YtjnlbhmddhpmaaaTf
import Derived.WalkKit
import Derived.ProofKit
import Derived.Below
import Derived.Lib.Hide
import Derived.LoopTactic
import Derived.Deep.QuietTactic
import Derived.BigQuiet
import Derived.StillTailTactics
import Derived.Outline
import Derived.IntWalk
import Derived.Deep.RegionHeld3
import Derived.Laws.StructEq
import Derived.Laws.Entries
namespace Go.Proofs.Ytjnlbhmddhpmaaa.te
open Go.ChangeShapes Go.WideShapes Go.ChangeAt Go.RowKit
open Go.Proofs.Ytjnlbhmddhpmaaa.el2 Go.Proofs.Ytjnlbhmddhpmaaa.tx Go.Proofs.Ytjnlbhmddhpmaaa.seq Go.Proofs.Ytjnlbhmddhpmaaa.tv Go.Proofs.Ytjnlbhmddhpmaaa.tf
open Go.Proofs.Ytjnlbhmddhpmaaa.vers (ret_b new2 new3)
set_option linter.unusedVariables false
set_option linter.unusedSimpArgs false
set_option linter.constructorNameAsVariable false
noncomputable def lB (l m : List E2) : Bool := @decide (l = m) (Classical.propDecidable _)
theorem lB_no {l m : List E2} (h : l ≠ m) : lB l m = false := @decide_eq_false _ (Classical.propDecidable _) h
theorem lB_yes {l m : List E2} (h : l = m) : lB l m = true := @decide_eq_true _ (Classical.propDecidable _) h
theorem lB_of {l m : List E2} (h : lB l m = true) : l = m := @of_decide_eq_true _ (Classical.propDecidable _) h
theorem lB_off {l m : List E2} (h : lB l m = false) : l ≠ m := @of_decide_eq_false _ (Classical.propDecidable _) h
theorem lB_len {l m : List E2} (h : l.length ≠ m.length) : lB l m = false := lB_no fun e => h (by rw [e])
theorem at_ne {l m : List E2} {k : Nat} {x y : E2} (hx : l[k]? = some x) (hy : m[k]? = some y) (h : x ≠ y) : l ≠ m := fun e => h (by rw [e, hy] at hx; cases hx; rfl)
theorem all_eq {l m : List E2} {n : Nat} (hl : l.length = n) (hm : m.length = n) (h : l.take n = m.take n) : l = m := by
  rwa [List.take_of_length_le (by omega), List.take_of_length_le (by omega)] at h
theorem take_step {l m : List E2} {k : Nat} {x : E2} (h : l.take k = m.take k) (hx : l[k]? = some x) (hy : m[k]? = some x) : l.take (k + 1) = m.take (k + 1) := by
  have h1 := lt_get hx
  have h2 := lt_get hy
  rw [List.getElem?_eq_getElem h1] at hx
  rw [List.getElem?_eq_getElem h2] at hy
  rw [List.take_succ_eq_append_getElem h1, List.take_succ_eq_append_getElem h2, h, Option.some.inj hx, Option.some.inj hy]
noncomputable def eqT (x : Hd) (R T : List E2) (y : Hd) (R' T' : List E2) : Bool := @decide (x = y ∧ R = R' ∧ T = T') (Classical.propDecidable _)
theorem eqT_no {x y : Hd} {R T R' T' : List E2} (h : ¬ (x = y ∧ R = R' ∧ T = T')) : eqT x R T y R' T' = false := @decide_eq_false _ (Classical.propDecidable _) h
theorem eqT_yes {x y : Hd} {R T R' T' : List E2} (h : x = y ∧ R = R' ∧ T = T') : eqT x R T y R' T' = true := @decide_eq_true _ (Classical.propDecidable _) h
theorem eqT_w {x y : Hd} {R T R' T' : List E2} (h : x = y) (h2 : R = R') : lB T T' = eqT x R T y R' T' := by
  rcases e : lB T T' with _ | _
  · exact (eqT_no fun h => lB_off e h.2.2).symm
  · exact (eqT_yes ⟨h, h2, lB_of e⟩).symm
theorem guard_r : Try.prog.eqGuardType Try.prog.depth 122 = false := by kernel_rfl
theorem held_r : Try.prog.stoodInHeld 122 = false := by kernel_rfl
theorem fields_r : Try.prog.underlying 122 = some (.struct (Try.prog.fieldsOf 122)) := by kernel_rfl
theorem neq_r (x y : E2) (w : World) : (binOp .neq 122 (.agg #[.int .i64 x.a, .int .i64 x.b]) (.agg #[.int .i64 y.a, .int .i64 y.b])).run Try.prog w = .ok (.bool (!decide (x = y))) w := by
  rw [run_neq_struct, run_equalIn_struct w 9999 122 _ _ fields_r held_r]
  have hu := Try.underlying122
  have hi := Try.underlying3
  simp only [Program.fieldsOf, hu]
  simp [Op.eqFields, go_sem, hi]
  by_cases h : x = y
  · subst h
    simp
  · have hd : x.a = y.a → x.b = y.b → False := fun h1 h2 => h (by cases x; cases y; simp_all)
    rw [decide_eq_false h]
    by_cases h1 : x.a = y.a
    · rw [if_pos h1]
      by_cases h2 : x.b = y.b
      · exact (hd h1 h2).elim
      · rw [if_neg h2]; rfl
    · rw [if_neg h1]; rfl
theorem neq_no_r {x y : E2} (h : x = y) (w : World) : (binOp .neq 122 (.agg #[.int .i64 x.a, .int .i64 x.b]) (.agg #[.int .i64 y.a, .int .i64 y.b])).run Try.prog w = .ok (.bool false) w := by rw [neq_r, decide_eq_true h]; rfl
theorem neq_yes_r {x y : E2} (h : x ≠ y) (w : World) : (binOp .neq 122 (.agg #[.int .i64 x.a, .int .i64 x.b]) (.agg #[.int .i64 y.a, .int .i64 y.b])).run Try.prog w = .ok (.bool true) w := by rw [neq_r, decide_eq_false h]; rfl
set_option maxRecDepth 100000 in
set_option maxHeartbeats 800000 in
theorem lib_r {w : World} {B n n2 c c2 : Nat} {A A2 : Option Addr} {l m : List E2} (hn : n ≤ 140737488355328) (hn2 : n2 ≤ 140737488355328) (h1 : Vs w B A n l) (h2 : Vs w B A2 n2 m) (hB : B ≤ w.heap.size) :
    Calls Try.prog 94 #[.slice A n c, .slice A2 n2 c2] w fun e w' => e = .returned (.bool (lB l m)) ∧ Below w.heap.size w w' := by
  have H1 := Lib.hid h1
  have H2 := Lib.hid h2
  have hg := guard_r
  clear h1 h2
  by_cases hne : n = n2
  case neg =>
    have t : ((n : Int) == (n2 : Int)) = false := by simp; omega
    go_enter Try.func94, Try.ntmps94
    go_wp2_with fail
    go_ret
    exact ⟨ret_b (lB_len (by have := H1.out.1; have := H2.out.1; omega)).symm, Below.refl _ _⟩
  subst hne
  go_enter Try.func94, Try.ntmps94
  go_wp2
  go_loopw [13] (fun i wr => ∃ k : Nat, k ≤ n ∧ i = .int .i64 k ∧ l.take k = m.take k ∧ Below w.heap.size w wr) (fun i _ => n - (intOf i).toNat)
  case atStart => exact ⟨0, by omega, rfl, rfl, Below.refl _ _⟩
  case round =>
    obtain ⟨k, hk, rfl, ht, hb⟩ := hrel
    have HT := Lib.hid ht
    clear ht
    by_cases hlt : k < n
    · obtain ⟨b, o, x, rfl, hbB, hx, a0, a1⟩ := (H1.out.below (below_le hb hB)).at_ hlt
      obtain ⟨b', o', y, rfl, hbB', hy, d0, d1⟩ := (H2.out.below (below_le hb hB)).at_ hlt
      have HX := Lib.hid hx
      have HY := Lib.hid hy
      have HB := Lib.hid hb
      clear hb hx hy
      by_cases hxy : x = y
      · have hnq := neq_no_r hxy
        have HXY := Lib.hid hxy
        clear hxy
        go_wp2_with fail
        go_quiet (fail)
        clear hnq
        go_wp2_with fail
        go_roundw
        case rel => exact ⟨k + 1, by omega, by go_num, take_step HT.out HX.out (by rw [HXY.out]; exact HY.out), bdrewN HB.out _⟩
        case measure => simp [intOf]; omega
      · have hnq := neq_yes_r hxy
        have HXY := Lib.hid hxy
        clear hxy
        go_wp2_with fail
        go_quiet (fail)
        clear hnq
        go_wp2_with fail
        go_ret
        exact ⟨ret_b (lB_no (at_ne HX.out HY.out HXY.out)).symm, bdrewN HB.out _⟩
    · have HB := Lib.hid hb
      clear hb
      go_wp2_with fail
      go_ret
      have e : k = n := by omega
      exact ⟨ret_b (lB_yes (all_eq H1.out.1 H2.out.1 (by have := HT.out; rwa [e] at this))).symm, HB.out⟩
theorem guard_w : Try.prog.eqGuardType Try.prog.depth 124 = false := by kernel_rfl
theorem held_w : Try.prog.stoodInHeld 124 = false := by kernel_rfl
theorem fields_w : Try.prog.underlying 124 = some (.struct (Try.prog.fieldsOf 124)) := by kernel_rfl
theorem neq_w (x y : E2) (w : World) : (binOp .neq 124 (.agg #[.int .i64 x.a, .int .i64 x.b]) (.agg #[.int .i64 y.a, .int .i64 y.b])).run Try.prog w = .ok (.bool (!decide (x = y))) w := by
  rw [run_neq_struct, run_equalIn_struct w 9999 124 _ _ fields_w held_w]
  have hu := Try.underlying124
  have hi := Try.underlying3
  simp only [Program.fieldsOf, hu]
  simp [Op.eqFields, go_sem, hi]
  by_cases h : x = y
  · subst h
    simp
  · have hd : x.a = y.a → x.b = y.b → False := fun h1 h2 => h (by cases x; cases y; simp_all)
    rw [decide_eq_false h]
    by_cases h1 : x.a = y.a
    · rw [if_pos h1]
      by_cases h2 : x.b = y.b
      · exact (hd h1 h2).elim
      · rw [if_neg h2]; rfl
    · rw [if_neg h1]; rfl
theorem neq_no_w {x y : E2} (h : x = y) (w : World) : (binOp .neq 124 (.agg #[.int .i64 x.a, .int .i64 x.b]) (.agg #[.int .i64 y.a, .int .i64 y.b])).run Try.prog w = .ok (.bool false) w := by rw [neq_w, decide_eq_true h]; rfl
theorem neq_yes_w {x y : E2} (h : x ≠ y) (w : World) : (binOp .neq 124 (.agg #[.int .i64 x.a, .int .i64 x.b]) (.agg #[.int .i64 y.a, .int .i64 y.b])).run Try.prog w = .ok (.bool true) w := by rw [neq_w, decide_eq_false h]; rfl
set_option maxRecDepth 100000 in
set_option maxHeartbeats 800000 in
theorem lib_w {w : World} {B n n2 c c2 : Nat} {A A2 : Option Addr} {l m : List E2} (hn : n ≤ 140737488355328) (hn2 : n2 ≤ 140737488355328) (h1 : Vs w B A n l) (h2 : Vs w B A2 n2 m) (hB : B ≤ w.heap.size) :
    Calls Try.prog 95 #[.slice A n c, .slice A2 n2 c2] w fun e w' => e = .returned (.bool (lB l m)) ∧ Below w.heap.size w w' := by
  have H1 := Lib.hid h1
  have H2 := Lib.hid h2
  have hg := guard_w
  clear h1 h2
  by_cases hne : n = n2
  case neg =>
    have t : ((n : Int) == (n2 : Int)) = false := by simp; omega
    go_enter Try.func95, Try.ntmps95
    go_wp2_with fail
    go_ret
    exact ⟨ret_b (lB_len (by have := H1.out.1; have := H2.out.1; omega)).symm, Below.refl _ _⟩
  subst hne
  go_enter Try.func95, Try.ntmps95
  go_wp2
  go_loopw [13] (fun i wr => ∃ k : Nat, k ≤ n ∧ i = .int .i64 k ∧ l.take k = m.take k ∧ Below w.heap.size w wr) (fun i _ => n - (intOf i).toNat)
  case atStart => exact ⟨0, by omega, rfl, rfl, Below.refl _ _⟩
  case round =>
    obtain ⟨k, hk, rfl, ht, hb⟩ := hrel
    have HT := Lib.hid ht
    clear ht
    by_cases hlt : k < n
    · obtain ⟨b, o, x, rfl, hbB, hx, a0, a1⟩ := (H1.out.below (below_le hb hB)).at_ hlt
      obtain ⟨b', o', y, rfl, hbB', hy, d0, d1⟩ := (H2.out.below (below_le hb hB)).at_ hlt
      have HX := Lib.hid hx
      have HY := Lib.hid hy
      have HB := Lib.hid hb
      clear hb hx hy
      by_cases hxy : x = y
      · have hnq := neq_no_w hxy
        have HXY := Lib.hid hxy
        clear hxy
        go_wp2_with fail
        go_quiet (fail)
        clear hnq
        go_wp2_with fail
        go_roundw
        case rel => exact ⟨k + 1, by omega, by go_num, take_step HT.out HX.out (by rw [HXY.out]; exact HY.out), bdrewN HB.out _⟩
        case measure => simp [intOf]; omega
      · have hnq := neq_yes_w hxy
        have HXY := Lib.hid hxy
        clear hxy
        go_wp2_with fail
        go_quiet (fail)
        clear hnq
        go_wp2_with fail
        go_ret
        exact ⟨ret_b (lB_no (at_ne HX.out HY.out HXY.out)).symm, bdrewN HB.out _⟩
    · have HB := Lib.hid hb
      clear hb
      go_wp2_with fail
      go_ret
      have e : k = n := by omega
      exact ⟨ret_b (lB_yes (all_eq H1.out.1 H2.out.1 (by have := HT.out; rwa [e] at this))).symm, HB.out⟩
theorem guard_h : Try.prog.eqGuardType Try.prog.depth 129 = false := by kernel_rfl
theorem held_h : Try.prog.stoodInHeld 129 = false := by kernel_rfl
theorem fields_h : Try.prog.underlying 129 = some (.struct (Try.prog.fieldsOf 129)) := by kernel_rfl
theorem eql_h (x y : Hd) (w : World) : (binOp .eql 129 (.agg #[.int .i64 x.l, .int .i64 x.h, .int .i64 x.i, .int .i64 x.s, .int .i64 x.t, .int .i64 x.b, .int .i64 x.c]) (.agg #[.int .i64 y.l, .int .i64 y.h, .int .i64 y.i, .int .i64 y.s, .int .i64 y.t, .int .i64 y.b, .int .i64 y.c])).run Try.prog w = .ok (.bool (@decide (x = y) (Classical.propDecidable _))) w := by
  rw [run_eql_struct, run_equalIn_struct w 9999 129 _ _ fields_h held_h]
  have hu := Try.underlying129
  have hv := Try.underlying127
  have hi := Try.underlying3
  simp only [Program.fieldsOf, hu]
  simp [Op.eqFields, go_sem, hi, hv]
  by_cases h : x = y
  · subst h
    simp
  · have hd : x.l = y.l → x.h = y.h → x.i = y.i → x.s = y.s → x.t = y.t → x.b = y.b → x.c = y.c → False := fun h1 h2 h3 h4 h5 h6 h7 => h (Hd.ext h3 h4 h5 h6 h1 h2 h7)
    rw [@decide_eq_false _ (Classical.propDecidable _) h]
    by_cases h1 : x.l = y.l
    · rw [if_pos h1]
      by_cases h2 : x.h = y.h
      · rw [if_pos h2]
        by_cases h3 : x.i = y.i
        · rw [if_pos h3]
          by_cases h4 : x.s = y.s
          · rw [if_pos h4]
            by_cases h5 : x.t = y.t
            · rw [if_pos h5]
              by_cases h6 : x.b = y.b
              · rw [if_pos h6]
                by_cases h7 : x.c = y.c
                · rw [if_pos h7]
                  exact (hd h1 h2 h3 h4 h5 h6 h7).elim
                · rw [if_neg h7]
              · rw [if_neg h6]
            · rw [if_neg h5]
          · rw [if_neg h4]
        · rw [if_neg h3]
      · rw [if_neg h2]
    · rw [if_neg h1]
theorem eql_h_yes {x y : Hd} (h : x = y) (w : World) : (binOp .eql 129 (.agg #[.int .i64 x.l, .int .i64 x.h, .int .i64 x.i, .int .i64 x.s, .int .i64 x.t, .int .i64 x.b, .int .i64 x.c]) (.agg #[.int .i64 y.l, .int .i64 y.h, .int .i64 y.i, .int .i64 y.s, .int .i64 y.t, .int .i64 y.b, .int .i64 y.c])).run Try.prog w = .ok (.bool true) w := by rw [eql_h, @decide_eq_true _ (Classical.propDecidable _) h]
theorem eql_h_no {x y : Hd} (h : x ≠ y) (w : World) : (binOp .eql 129 (.agg #[.int .i64 x.l, .int .i64 x.h, .int .i64 x.i, .int .i64 x.s, .int .i64 x.t, .int .i64 x.b, .int .i64 x.c]) (.agg #[.int .i64 y.l, .int .i64 y.h, .int .i64 y.i, .int .i64 y.s, .int .i64 y.t, .int .i64 y.b, .int .i64 y.c])).run Try.prog w = .ok (.bool false) w := by rw [eql_h, @decide_eq_false _ (Classical.propDecidable _) h]
set_option maxRecDepth 100000 in
set_option maxHeartbeats 3200000 in
theorem impl_eqtx {w : World} {B n c n2 c2 n' c' n2' c2' : Nat} {A A2 A' A2' : Option Addr} {R T R' T' : List E2} (x y : Hd) (hn : n ≤ 140737488355328) (hn2 : n2 ≤ 140737488355328) (hn' : n' ≤ 140737488355328) (hn2' : n2' ≤ 140737488355328) (h1 : Vs w B A n R) (h2 : Vs w B A2 n2 T) (h1' : Vs w B A' n' R') (h2' : Vs w B A2' n2' T') (hB : B ≤ w.heap.size) :
    Calls Try.prog 63 #[.agg #[.int .i64 x.i, .int .i64 x.s, .int .i64 x.t, .int .i64 x.b, .int .i64 x.l, .int .i64 x.h, .int .i64 x.c, .slice A n c, .slice A2 n2 c2], .agg #[.int .i64 y.i, .int .i64 y.s, .int .i64 y.t, .int .i64 y.b, .int .i64 y.l, .int .i64 y.h, .int .i64 y.c, .slice A' n' c', .slice A2' n2' c2']] w fun e w' => e = .returned (.bool (eqT x R T y R' T')) ∧ Below w.heap.size w w' := by
  have H1 := Lib.hid h1
  have H2 := Lib.hid h2
  have H1' := Lib.hid h1'
  have H2' := Lib.hid h2'
  have hg := guard_h
  clear h1 h2 h1' h2'
  by_cases hxy : x = y
  case neg =>
    have hnq := eql_h_no hxy
    have KH := Lib.hid hxy
    clear hxy
    go_enter Try.func63, Try.ntmps63
    go_wp2_with fail
    have tb := (TB.new w x A n c A2 n2 c2 79).keep (by simp) (new1 _ (.cells #[.int .i64 y.i, .int .i64 y.s, .int .i64 y.t, .int .i64 y.b, .int .i64 y.l, .int .i64 y.h, .int .i64 y.c, .slice A' n' c', .slice A2' n2' c2'] 79))
    have ub := TB.new (w.alloc (.cells #[.int .i64 x.i, .int .i64 x.s, .int .i64 x.t, .int .i64 x.b, .int .i64 x.l, .int .i64 x.h, .int .i64 x.c, .slice A n c, .slice A2 n2 c2] 79)) y A' n' c' A2' n2' c2' 79
    rw [show (w.alloc (.cells #[.int .i64 x.i, .int .i64 x.s, .int .i64 x.t, .int .i64 x.b, .int .i64 x.l, .int .i64 x.h, .int .i64 x.c, .slice A n c, .slice A2 n2 c2] 79)).heap.size = w.heap.size + 1 by simp] at ub
    have hb := new2 w (.cells #[.int .i64 x.i, .int .i64 x.s, .int .i64 x.t, .int .i64 x.b, .int .i64 x.l, .int .i64 x.h, .int .i64 x.c, .slice A n c, .slice A2 n2 c2] 79) (.cells #[.int .i64 y.i, .int .i64 y.s, .int .i64 y.t, .int .i64 y.b, .int .i64 y.l, .int .i64 y.h, .int .i64 y.c, .slice A' n' c', .slice A2' n2' c2'] 79)
    have hs : ((w.alloc (.cells #[.int .i64 x.i, .int .i64 x.s, .int .i64 x.t, .int .i64 x.b, .int .i64 x.l, .int .i64 x.h, .int .i64 x.c, .slice A n c, .slice A2 n2 c2] 79)).alloc (.cells #[.int .i64 y.i, .int .i64 y.s, .int .i64 y.t, .int .i64 y.b, .int .i64 y.l, .int .i64 y.h, .int .i64 y.c, .slice A' n' c', .slice A2' n2' c2'] 79)).heap.size = w.heap.size + 2 := by simp
    generalize (w.alloc (.cells #[.int .i64 x.i, .int .i64 x.s, .int .i64 x.t, .int .i64 x.b, .int .i64 x.l, .int .i64 x.h, .int .i64 x.c, .slice A n c, .slice A2 n2 c2] 79)).alloc (.cells #[.int .i64 y.i, .int .i64 y.s, .int .i64 y.t, .int .i64 y.b, .int .i64 y.l, .int .i64 y.h, .int .i64 y.c, .slice A' n' c', .slice A2' n2' c2'] 79) = W0 at tb ub hb hs ⊢
    obtain ⟨P, hP⟩ : ∃ P, P = w.heap.size := ⟨_, rfl⟩
    simp only [← hP] at tb ub hb hs ⊢
    have lP : P < W0.heap.size := by omega
    have lP1 : P + 1 < W0.heap.size := by omega
    have HP := Lib.hid hP
    have T1 := Lib.hid tb
    have T2 := Lib.hid ub
    have HB := Lib.hid hb
    have HS := Lib.hid hs
    clear tb ub hb hs hP
    refine class_region W0.heap.size (by kernel_rfl) (by kernel_rfl) ?_
    with_reducible refine class_opk (.agg #[.int .i64 x.i, .int .i64 x.s, .int .i64 x.t, .int .i64 x.b, .int .i64 x.l, .int .i64 x.h, .int .i64 x.c, .slice A n c, .slice A2 n2 c2]) ?_ ?_ ?_
    · first | exact rfl | go_simp
    · intro W hW
      obtain ⟨g0, g1, g2, g3, g4, g5, g6, g7, g8⟩ := T1.out.keep (B := W0.heap.size) lP hW
      go_simp
    intro K hK
    go_simp
    with_reducible refine hK _ ?_
    clear hK K
    with_reducible refine class_opk (.agg #[.int .i64 x.l, .int .i64 x.h, .int .i64 x.i, .int .i64 x.s, .int .i64 x.t, .int .i64 x.b, .int .i64 x.c]) ?_ ?_ ?_
    · first | exact rfl | go_simp
    · intro W hW
      go_simp
      refine class_call hW ?_
      exact header_of x A n c A2 n2 c2 _
    intro K hK
    go_simp
    with_reducible refine hK _ ?_
    clear hK K
    with_reducible refine class_opk (.agg #[.int .i64 y.i, .int .i64 y.s, .int .i64 y.t, .int .i64 y.b, .int .i64 y.l, .int .i64 y.h, .int .i64 y.c, .slice A' n' c', .slice A2' n2' c2']) ?_ ?_ ?_
    · first | exact rfl | go_simp
    · intro W hW
      obtain ⟨g0, g1, g2, g3, g4, g5, g6, g7, g8⟩ := T2.out.keep (B := W0.heap.size) lP1 hW
      go_simp
    intro K hK
    go_simp
    with_reducible refine hK _ ?_
    clear hK K
    with_reducible refine class_opk (.agg #[.int .i64 y.l, .int .i64 y.h, .int .i64 y.i, .int .i64 y.s, .int .i64 y.t, .int .i64 y.b, .int .i64 y.c]) ?_ ?_ ?_
    · first | exact rfl | go_simp
    · intro W hW
      go_simp
      refine class_call hW ?_
      exact header_of y A' n' c' A2' n2' c2' _
    intro K hK
    go_simp
    with_reducible refine hK _ ?_
    clear hK K
    with_reducible refine class_opk (.bool false) ?_ ?_ ?_
    · first | exact rfl | go_simp
    · intro W hW
      go_simp
    intro K hK
    go_simp
    with_reducible refine hK _ ?_
    clear hK K
    with_reducible refine class_opk (.bool false) ?_ ?_ ?_
    · first | exact rfl | go_simp
    · intro W hW
      go_simp
    intro K hK
    go_simp
    with_reducible refine hK _ ?_
    clear hK K
    with_reducible refine class_skipk ?_ ?_
    · first | exact rfl | (go_simp; try simp [undef])
    intro K hK
    go_simp
    with_reducible refine hK _ ?_
    clear hK K
    with_reducible refine class_skipk ?_ ?_
    · first | exact rfl | (go_simp; try simp [undef])
    intro K hK
    go_simp
    with_reducible refine hK _ ?_
    clear hK K
    with_reducible refine class_skipk ?_ ?_
    · first | exact rfl | (go_simp; try simp [undef])
    intro K hK
    go_simp
    with_reducible refine hK _ ?_
    clear hK K
    with_reducible refine class_skipk ?_ ?_
    · first | exact rfl | (go_simp; try simp [undef])
    intro K hK
    go_simp
    with_reducible refine hK _ ?_
    clear hK K
    with_reducible refine class_skipk ?_ ?_
    · first | exact rfl | (go_simp; try simp [undef])
    intro K hK
    go_simp
    with_reducible refine hK _ ?_
    clear hK K
    with_reducible refine class_opk (.bool false) ?_ ?_ ?_
    · first | exact rfl | go_simp
    · intro W hW
      go_simp
    intro K hK
    go_simp
    with_reducible refine hK _ ?_
    clear hK K
    with_reducible refine class_opk (.bool false) ?_ ?_ ?_
    · first | exact rfl | go_simp
    · intro W hW
      go_simp
    intro K hK
    go_simp
    with_reducible refine hK _ ?_
    clear hK K
    with_reducible refine class_skipk ?_ ?_
    · first | exact rfl | (go_simp; try simp [undef])
    intro K hK
    go_simp
    with_reducible refine hK _ ?_
    clear hK K
    with_reducible refine class_skipk ?_ ?_
    · first | exact rfl | (go_simp; try simp [undef])
    intro K hK
    go_simp
    with_reducible refine hK _ ?_
    clear hK K
    with_reducible refine class_skipk ?_ ?_
    · first | exact rfl | (go_simp; try simp [undef])
    intro K hK
    go_simp
    with_reducible refine hK _ ?_
    clear hK K
    with_reducible refine class_skipk ?_ ?_
    · first | exact rfl | (go_simp; try simp [undef])
    intro K hK
    go_simp
    with_reducible refine hK _ ?_
    clear hK K
    with_reducible refine class_skipk ?_ ?_
    · first | exact rfl | (go_simp; try simp [undef])
    intro K hK
    go_simp
    with_reducible refine hK _ ?_
    clear hK K
    with_reducible refine class_opk (.bool false) ?_ ?_ ?_
    · first | exact rfl | go_simp
    · intro W hW
      go_simp
    intro K hK
    go_simp
    with_reducible refine hK _ ?_
    clear hK K
    with_reducible refine class_opk (.bool false) ?_ ?_ ?_
    · first | exact rfl | go_simp
    · intro W hW
      go_simp
    intro K hK
    go_simp
    with_reducible refine hK _ ?_
    clear hK K
    with_reducible refine class_end ?_
    intro W1 hW1
    go_simp
    have HB1 : Hid (Below P w W1) := Lib.hid (HB.out.trans (hW1.mono (by have := HB.out.size; have := HP.out; omega)))
    clear hW1 hnq
    go_wp2_with fail
    go_ret
    exact ⟨ret_b (eqT_no fun h => KH.out h.1).symm, by have := HB1.out; rw [HP.out] at this; exact this⟩
  have hnq := eql_h_yes hxy
  have KH := Lib.hid hxy
  clear hxy
  rcases k1 : lB R R' with _ | _
  · have K1 := Lib.hid k1
    clear k1
    go_enter Try.func63, Try.ntmps63
    go_wp2_with fail
    have tb := (TB.new w x A n c A2 n2 c2 79).keep (by simp) (new1 _ (.cells #[.int .i64 y.i, .int .i64 y.s, .int .i64 y.t, .int .i64 y.b, .int .i64 y.l, .int .i64 y.h, .int .i64 y.c, .slice A' n' c', .slice A2' n2' c2'] 79))
    have ub := TB.new (w.alloc (.cells #[.int .i64 x.i, .int .i64 x.s, .int .i64 x.t, .int .i64 x.b, .int .i64 x.l, .int .i64 x.h, .int .i64 x.c, .slice A n c, .slice A2 n2 c2] 79)) y A' n' c' A2' n2' c2' 79
    rw [show (w.alloc (.cells #[.int .i64 x.i, .int .i64 x.s, .int .i64 x.t, .int .i64 x.b, .int .i64 x.l, .int .i64 x.h, .int .i64 x.c, .slice A n c, .slice A2 n2 c2] 79)).heap.size = w.heap.size + 1 by simp] at ub
    have hb := new2 w (.cells #[.int .i64 x.i, .int .i64 x.s, .int .i64 x.t, .int .i64 x.b, .int .i64 x.l, .int .i64 x.h, .int .i64 x.c, .slice A n c, .slice A2 n2 c2] 79) (.cells #[.int .i64 y.i, .int .i64 y.s, .int .i64 y.t, .int .i64 y.b, .int .i64 y.l, .int .i64 y.h, .int .i64 y.c, .slice A' n' c', .slice A2' n2' c2'] 79)
    have hs : ((w.alloc (.cells #[.int .i64 x.i, .int .i64 x.s, .int .i64 x.t, .int .i64 x.b, .int .i64 x.l, .int .i64 x.h, .int .i64 x.c, .slice A n c, .slice A2 n2 c2] 79)).alloc (.cells #[.int .i64 y.i, .int .i64 y.s, .int .i64 y.t, .int .i64 y.b, .int .i64 y.l, .int .i64 y.h, .int .i64 y.c, .slice A' n' c', .slice A2' n2' c2'] 79)).heap.size = w.heap.size + 2 := by simp
    generalize (w.alloc (.cells #[.int .i64 x.i, .int .i64 x.s, .int .i64 x.t, .int .i64 x.b, .int .i64 x.l, .int .i64 x.h, .int .i64 x.c, .slice A n c, .slice A2 n2 c2] 79)).alloc (.cells #[.int .i64 y.i, .int .i64 y.s, .int .i64 y.t, .int .i64 y.b, .int .i64 y.l, .int .i64 y.h, .int .i64 y.c, .slice A' n' c', .slice A2' n2' c2'] 79) = W0 at tb ub hb hs ⊢
    obtain ⟨P, hP⟩ : ∃ P, P = w.heap.size := ⟨_, rfl⟩
    simp only [← hP] at tb ub hb hs ⊢
    have lP : P < W0.heap.size := by omega
    have lP1 : P + 1 < W0.heap.size := by omega
    have HP := Lib.hid hP
    have T1 := Lib.hid tb
    have T2 := Lib.hid ub
    have HB := Lib.hid hb
    have HS := Lib.hid hs
    clear tb ub hb hs hP
    refine class_region W0.heap.size (by kernel_rfl) (by kernel_rfl) ?_
    with_reducible refine class_opk (.agg #[.int .i64 x.i, .int .i64 x.s, .int .i64 x.t, .int .i64 x.b, .int .i64 x.l, .int .i64 x.h, .int .i64 x.c, .slice A n c, .slice A2 n2 c2]) ?_ ?_ ?_
    · first | exact rfl | go_simp
    · intro W hW
      obtain ⟨g0, g1, g2, g3, g4, g5, g6, g7, g8⟩ := T1.out.keep (B := W0.heap.size) lP hW
      go_simp
    intro K hK
    go_simp
    with_reducible refine hK _ ?_
    clear hK K
    with_reducible refine class_opk (.agg #[.int .i64 x.l, .int .i64 x.h, .int .i64 x.i, .int .i64 x.s, .int .i64 x.t, .int .i64 x.b, .int .i64 x.c]) ?_ ?_ ?_
    · first | exact rfl | go_simp
    · intro W hW
      go_simp
      refine class_call hW ?_
      exact header_of x A n c A2 n2 c2 _
    intro K hK
    go_simp
    with_reducible refine hK _ ?_
    clear hK K
    with_reducible refine class_opk (.agg #[.int .i64 y.i, .int .i64 y.s, .int .i64 y.t, .int .i64 y.b, .int .i64 y.l, .int .i64 y.h, .int .i64 y.c, .slice A' n' c', .slice A2' n2' c2']) ?_ ?_ ?_
    · first | exact rfl | go_simp
    · intro W hW
      obtain ⟨g0, g1, g2, g3, g4, g5, g6, g7, g8⟩ := T2.out.keep (B := W0.heap.size) lP1 hW
      go_simp
    intro K hK
    go_simp
    with_reducible refine hK _ ?_
    clear hK K
    with_reducible refine class_opk (.agg #[.int .i64 y.l, .int .i64 y.h, .int .i64 y.i, .int .i64 y.s, .int .i64 y.t, .int .i64 y.b, .int .i64 y.c]) ?_ ?_ ?_
    · first | exact rfl | go_simp
    · intro W hW
      go_simp
      refine class_call hW ?_
      exact header_of y A' n' c' A2' n2' c2' _
    intro K hK
    go_simp
    with_reducible refine hK _ ?_
    clear hK K
    with_reducible refine class_opk (.bool true) ?_ ?_ ?_
    · first | exact rfl | go_simp
    · intro W hW
      go_simp
    intro K hK
    go_simp
    with_reducible refine hK _ ?_
    clear hK K
    with_reducible refine class_opk (.bool true) ?_ ?_ ?_
    · first | exact rfl | go_simp
    · intro W hW
      go_simp
    intro K hK
    go_simp
    with_reducible refine hK _ ?_
    clear hK K
    with_reducible refine class_opk (.pointer (some ⟨P, 7, none⟩)) ?_ ?_ ?_
    · first | exact rfl | go_simp
    · intro W hW
      go_simp
    intro K hK
    go_simp
    with_reducible refine hK _ ?_
    clear hK K
    with_reducible refine class_opk (.slice A n c) ?_ ?_ ?_
    · first | exact rfl | go_simp
    · intro W hW
      obtain ⟨g0, g1, g2, g3, g4, g5, g6, g7, g8⟩ := T1.out.keep (B := W0.heap.size) lP hW
      go_simp
    intro K hK
    go_simp
    with_reducible refine hK _ ?_
    clear hK K
    with_reducible refine class_opk (.pointer (some ⟨P + 1, 7, none⟩)) ?_ ?_ ?_
    · first | exact rfl | go_simp
    · intro W hW
      go_simp
    intro K hK
    go_simp
    with_reducible refine hK _ ?_
    clear hK K
    with_reducible refine class_opk (.slice A' n' c') ?_ ?_ ?_
    · first | exact rfl | go_simp
    · intro W hW
      obtain ⟨g0, g1, g2, g3, g4, g5, g6, g7, g8⟩ := T2.out.keep (B := W0.heap.size) lP1 hW
      go_simp
    intro K hK
    go_simp
    with_reducible refine hK _ ?_
    clear hK K
    with_reducible refine class_opk (.bool false) ?_ ?_ ?_
    · first | exact rfl | go_simp
    · intro W hW
      go_simp
      refine class_call hW ?_
      have hk := HB.out.trans (hW.mono (by have := HB.out.size; have := HP.out; omega))
      rw [← K1.out]
      exact lib_r hn hn' (H1.out.below (below_le hk (by have := HP.out; omega))) (H1'.out.below (below_le hk (by have := HP.out; omega))) (by have := hk.size; have := HP.out; omega)
    intro K hK
    go_simp
    with_reducible refine hK _ ?_
    clear hK K
    with_reducible refine class_opk (.bool false) ?_ ?_ ?_
    · first | exact rfl | go_simp
    · intro W hW
      go_simp
    intro K hK
    go_simp
    with_reducible refine hK _ ?_
    clear hK K
    with_reducible refine class_opk (.bool false) ?_ ?_ ?_
    · first | exact rfl | go_simp
    · intro W hW
      go_simp
    intro K hK
    go_simp
    with_reducible refine hK _ ?_
    clear hK K
    with_reducible refine class_skipk ?_ ?_
    · first | exact rfl | (go_simp; try simp [undef])
    intro K hK
    go_simp
    with_reducible refine hK _ ?_
    clear hK K
    with_reducible refine class_skipk ?_ ?_
    · first | exact rfl | (go_simp; try simp [undef])
    intro K hK
    go_simp
    with_reducible refine hK _ ?_
    clear hK K
    with_reducible refine class_skipk ?_ ?_
    · first | exact rfl | (go_simp; try simp [undef])
    intro K hK
    go_simp
    with_reducible refine hK _ ?_
    clear hK K
    with_reducible refine class_skipk ?_ ?_
    · first | exact rfl | (go_simp; try simp [undef])
    intro K hK
    go_simp
    with_reducible refine hK _ ?_
    clear hK K
    with_reducible refine class_skipk ?_ ?_
    · first | exact rfl | (go_simp; try simp [undef])
    intro K hK
    go_simp
    with_reducible refine hK _ ?_
    clear hK K
    with_reducible refine class_opk (.bool false) ?_ ?_ ?_
    · first | exact rfl | go_simp
    · intro W hW
      go_simp
    intro K hK
    go_simp
    with_reducible refine hK _ ?_
    clear hK K
    with_reducible refine class_opk (.bool false) ?_ ?_ ?_
    · first | exact rfl | go_simp
    · intro W hW
      go_simp
    intro K hK
    go_simp
    with_reducible refine hK _ ?_
    clear hK K
    with_reducible refine class_end ?_
    intro W1 hW1
    go_simp
    have HB1 : Hid (Below P w W1) := Lib.hid (HB.out.trans (hW1.mono (by have := HB.out.size; have := HP.out; omega)))
    clear hW1 hnq
    go_wp2_with fail
    go_ret
    exact ⟨ret_b (eqT_no fun h => lB_off K1.out h.2.1).symm, by have := HB1.out; rw [HP.out] at this; exact this⟩
  · have K1 := Lib.hid k1
    clear k1
    go_enter Try.func63, Try.ntmps63
    go_wp2_with fail
    have tb := (TB.new w x A n c A2 n2 c2 79).keep (by simp) (new1 _ (.cells #[.int .i64 y.i, .int .i64 y.s, .int .i64 y.t, .int .i64 y.b, .int .i64 y.l, .int .i64 y.h, .int .i64 y.c, .slice A' n' c', .slice A2' n2' c2'] 79))
    have ub := TB.new (w.alloc (.cells #[.int .i64 x.i, .int .i64 x.s, .int .i64 x.t, .int .i64 x.b, .int .i64 x.l, .int .i64 x.h, .int .i64 x.c, .slice A n c, .slice A2 n2 c2] 79)) y A' n' c' A2' n2' c2' 79
    rw [show (w.alloc (.cells #[.int .i64 x.i, .int .i64 x.s, .int .i64 x.t, .int .i64 x.b, .int .i64 x.l, .int .i64 x.h, .int .i64 x.c, .slice A n c, .slice A2 n2 c2] 79)).heap.size = w.heap.size + 1 by simp] at ub
    have hb := new2 w (.cells #[.int .i64 x.i, .int .i64 x.s, .int .i64 x.t, .int .i64 x.b, .int .i64 x.l, .int .i64 x.h, .int .i64 x.c, .slice A n c, .slice A2 n2 c2] 79) (.cells #[.int .i64 y.i, .int .i64 y.s, .int .i64 y.t, .int .i64 y.b, .int .i64 y.l, .int .i64 y.h, .int .i64 y.c, .slice A' n' c', .slice A2' n2' c2'] 79)
    have hs : ((w.alloc (.cells #[.int .i64 x.i, .int .i64 x.s, .int .i64 x.t, .int .i64 x.b, .int .i64 x.l, .int .i64 x.h, .int .i64 x.c, .slice A n c, .slice A2 n2 c2] 79)).alloc (.cells #[.int .i64 y.i, .int .i64 y.s, .int .i64 y.t, .int .i64 y.b, .int .i64 y.l, .int .i64 y.h, .int .i64 y.c, .slice A' n' c', .slice A2' n2' c2'] 79)).heap.size = w.heap.size + 2 := by simp
    generalize (w.alloc (.cells #[.int .i64 x.i, .int .i64 x.s, .int .i64 x.t, .int .i64 x.b, .int .i64 x.l, .int .i64 x.h, .int .i64 x.c, .slice A n c, .slice A2 n2 c2] 79)).alloc (.cells #[.int .i64 y.i, .int .i64 y.s, .int .i64 y.t, .int .i64 y.b, .int .i64 y.l, .int .i64 y.h, .int .i64 y.c, .slice A' n' c', .slice A2' n2' c2'] 79) = W0 at tb ub hb hs ⊢
    obtain ⟨P, hP⟩ : ∃ P, P = w.heap.size := ⟨_, rfl⟩
    simp only [← hP] at tb ub hb hs ⊢
    have lP : P < W0.heap.size := by omega
    have lP1 : P + 1 < W0.heap.size := by omega
    have HP := Lib.hid hP
    have T1 := Lib.hid tb
    have T2 := Lib.hid ub
    have HB := Lib.hid hb
    have HS := Lib.hid hs
    clear tb ub hb hs hP
    refine class_region W0.heap.size (by kernel_rfl) (by kernel_rfl) ?_
    with_reducible refine class_opk (.agg #[.int .i64 x.i, .int .i64 x.s, .int .i64 x.t, .int .i64 x.b, .int .i64 x.l, .int .i64 x.h, .int .i64 x.c, .slice A n c, .slice A2 n2 c2]) ?_ ?_ ?_
    · first | exact rfl | go_simp
    · intro W hW
      obtain ⟨g0, g1, g2, g3, g4, g5, g6, g7, g8⟩ := T1.out.keep (B := W0.heap.size) lP hW
      go_simp
    intro K hK
    go_simp
    with_reducible refine hK _ ?_
    clear hK K
    with_reducible refine class_opk (.agg #[.int .i64 x.l, .int .i64 x.h, .int .i64 x.i, .int .i64 x.s, .int .i64 x.t, .int .i64 x.b, .int .i64 x.c]) ?_ ?_ ?_
    · first | exact rfl | go_simp
    · intro W hW
      go_simp
      refine class_call hW ?_
      exact header_of x A n c A2 n2 c2 _
    intro K hK
    go_simp
    with_reducible refine hK _ ?_
    clear hK K
    with_reducible refine class_opk (.agg #[.int .i64 y.i, .int .i64 y.s, .int .i64 y.t, .int .i64 y.b, .int .i64 y.l, .int .i64 y.h, .int .i64 y.c, .slice A' n' c', .slice A2' n2' c2']) ?_ ?_ ?_
    · first | exact rfl | go_simp
    · intro W hW
      obtain ⟨g0, g1, g2, g3, g4, g5, g6, g7, g8⟩ := T2.out.keep (B := W0.heap.size) lP1 hW
      go_simp
    intro K hK
    go_simp
    with_reducible refine hK _ ?_
    clear hK K
    with_reducible refine class_opk (.agg #[.int .i64 y.l, .int .i64 y.h, .int .i64 y.i, .int .i64 y.s, .int .i64 y.t, .int .i64 y.b, .int .i64 y.c]) ?_ ?_ ?_
    · first | exact rfl | go_simp
    · intro W hW
      go_simp
      refine class_call hW ?_
      exact header_of y A' n' c' A2' n2' c2' _
    intro K hK
    go_simp
    with_reducible refine hK _ ?_
    clear hK K
    with_reducible refine class_opk (.bool true) ?_ ?_ ?_
    · first | exact rfl | go_simp
    · intro W hW
      go_simp
    intro K hK
    go_simp
    with_reducible refine hK _ ?_
    clear hK K
    with_reducible refine class_opk (.bool true) ?_ ?_ ?_
    · first | exact rfl | go_simp
    · intro W hW
      go_simp
    intro K hK
    go_simp
    with_reducible refine hK _ ?_
    clear hK K
    with_reducible refine class_opk (.pointer (some ⟨P, 7, none⟩)) ?_ ?_ ?_
    · first | exact rfl | go_simp
    · intro W hW
      go_simp
    intro K hK
    go_simp
    with_reducible refine hK _ ?_
    clear hK K
    with_reducible refine class_opk (.slice A n c) ?_ ?_ ?_
    · first | exact rfl | go_simp
    · intro W hW
      obtain ⟨g0, g1, g2, g3, g4, g5, g6, g7, g8⟩ := T1.out.keep (B := W0.heap.size) lP hW
      go_simp
    intro K hK
    go_simp
    with_reducible refine hK _ ?_
    clear hK K
    with_reducible refine class_opk (.pointer (some ⟨P + 1, 7, none⟩)) ?_ ?_ ?_
    · first | exact rfl | go_simp
    · intro W hW
      go_simp
    intro K hK
    go_simp
    with_reducible refine hK _ ?_
    clear hK K
    with_reducible refine class_opk (.slice A' n' c') ?_ ?_ ?_
    · first | exact rfl | go_simp
    · intro W hW
      obtain ⟨g0, g1, g2, g3, g4, g5, g6, g7, g8⟩ := T2.out.keep (B := W0.heap.size) lP1 hW
      go_simp
    intro K hK
    go_simp
    with_reducible refine hK _ ?_
    clear hK K
    with_reducible refine class_opk (.bool true) ?_ ?_ ?_
    · first | exact rfl | go_simp
    · intro W hW
      go_simp
      refine class_call hW ?_
      have hk := HB.out.trans (hW.mono (by have := HB.out.size; have := HP.out; omega))
      rw [← K1.out]
      exact lib_r hn hn' (H1.out.below (below_le hk (by have := HP.out; omega))) (H1'.out.below (below_le hk (by have := HP.out; omega))) (by have := hk.size; have := HP.out; omega)
    intro K hK
    go_simp
    with_reducible refine hK _ ?_
    clear hK K
    with_reducible refine class_opk (.bool true) ?_ ?_ ?_
    · first | exact rfl | go_simp
    · intro W hW
      go_simp
    intro K hK
    go_simp
    with_reducible refine hK _ ?_
    clear hK K
    with_reducible refine class_opk (.bool true) ?_ ?_ ?_
    · first | exact rfl | go_simp
    · intro W hW
      go_simp
    intro K hK
    go_simp
    with_reducible refine hK _ ?_
    clear hK K
    with_reducible refine class_opk (.pointer (some ⟨P, 8, none⟩)) ?_ ?_ ?_
    · first | exact rfl | go_simp
    · intro W hW
      go_simp
    intro K hK
    go_simp
    with_reducible refine hK _ ?_
    clear hK K
    with_reducible refine class_opk (.slice A2 n2 c2) ?_ ?_ ?_
    · first | exact rfl | go_simp
    · intro W hW
      obtain ⟨g0, g1, g2, g3, g4, g5, g6, g7, g8⟩ := T1.out.keep (B := W0.heap.size) lP hW
      go_simp
    intro K hK
    go_simp
    with_reducible refine hK _ ?_
    clear hK K
    with_reducible refine class_opk (.pointer (some ⟨P + 1, 8, none⟩)) ?_ ?_ ?_
    · first | exact rfl | go_simp
    · intro W hW
      go_simp
    intro K hK
    go_simp
    with_reducible refine hK _ ?_
    clear hK K
    with_reducible refine class_opk (.slice A2' n2' c2') ?_ ?_ ?_
    · first | exact rfl | go_simp
    · intro W hW
      obtain ⟨g0, g1, g2, g3, g4, g5, g6, g7, g8⟩ := T2.out.keep (B := W0.heap.size) lP1 hW
      go_simp
    intro K hK
    go_simp
    with_reducible refine hK _ ?_
    clear hK K
    with_reducible refine class_opk (.bool (lB T T')) ?_ ?_ ?_
    · first | exact rfl | go_simp
    · intro W hW
      go_simp
      refine class_call hW ?_
      have hk := HB.out.trans (hW.mono (by have := HB.out.size; have := HP.out; omega))
      exact lib_w hn2 hn2' (H2.out.below (below_le hk (by have := HP.out; omega))) (H2'.out.below (below_le hk (by have := HP.out; omega))) (by have := hk.size; have := HP.out; omega)
    intro K hK
    go_simp
    with_reducible refine hK _ ?_
    clear hK K
    with_reducible refine class_opk (.bool (lB T T')) ?_ ?_ ?_
    · first | exact rfl | go_simp
    · intro W hW
      go_simp
    intro K hK
    go_simp
    with_reducible refine hK _ ?_
    clear hK K
    with_reducible refine class_opk (.bool (lB T T')) ?_ ?_ ?_
    · first | exact rfl | go_simp
    · intro W hW
      go_simp
    intro K hK
    go_simp
    with_reducible refine hK _ ?_
    clear hK K
    with_reducible refine class_end ?_
    intro W1 hW1
    go_simp
    have HB1 : Hid (Below P w W1) := Lib.hid (HB.out.trans (hW1.mono (by have := HB.out.size; have := HP.out; omega)))
    clear hW1 hnq
    go_wp2_with fail
    go_ret
    exact ⟨ret_b (eqT_w KH.out (lB_of K1.out)), by have := HB1.out; rw [HP.out] at this; exact this⟩
set_option maxRecDepth 100000 in
set_option maxHeartbeats 6400000 in
theorem spec_eqtx {w : World} {B n c n2 c2 n' c' n2' c2' : Nat} {A A2 A' A2' : Option Addr} {R T R' T' : List E2} (x y : Hd) (hn : n ≤ 140737488355328) (hn2 : n2 ≤ 140737488355328) (hn' : n' ≤ 140737488355328) (hn2' : n2' ≤ 140737488355328) (h1 : Vs w B A n R) (h2 : Vs w B A2 n2 T) (h1' : Vs w B A' n' R') (h2' : Vs w B A2' n2' T') (hB : B ≤ w.heap.size) :
    Calls Try.prog 60 #[.agg #[.int .i64 x.i, .int .i64 x.s, .int .i64 x.t, .int .i64 x.b, .int .i64 x.l, .int .i64 x.h, .int .i64 x.c, .slice A n c, .slice A2 n2 c2], .agg #[.int .i64 y.i, .int .i64 y.s, .int .i64 y.t, .int .i64 y.b, .int .i64 y.l, .int .i64 y.h, .int .i64 y.c, .slice A' n' c', .slice A2' n2' c2']] w fun e w' => e = .returned (.bool (eqT x R T y R' T')) ∧ Below w.heap.size w w' := by
  have H1 := Lib.hid h1
  have H2 := Lib.hid h2
  have H1' := Lib.hid h1'
  have H2' := Lib.hid h2'
  clear h1 h2 h1' h2'
  by_cases q0 : x.i = y.i
  case neg =>
    have e0 : (x.i == y.i) = false := by simpa using q0
    have d0 : (x.i != y.i) = true := by simpa using q0
    have Q0 := Lib.hid q0
    clear q0
    go_enter Try.func60, Try.ntmps60
    go_wp2_with fail
    have tb := (TB.new w x A n c A2 n2 c2 79).keep (by simp) (new1 _ (.cells #[.int .i64 y.i, .int .i64 y.s, .int .i64 y.t, .int .i64 y.b, .int .i64 y.l, .int .i64 y.h, .int .i64 y.c, .slice A' n' c', .slice A2' n2' c2'] 79))
    have ub := TB.new (w.alloc (.cells #[.int .i64 x.i, .int .i64 x.s, .int .i64 x.t, .int .i64 x.b, .int .i64 x.l, .int .i64 x.h, .int .i64 x.c, .slice A n c, .slice A2 n2 c2] 79)) y A' n' c' A2' n2' c2' 79
    rw [show (w.alloc (.cells #[.int .i64 x.i, .int .i64 x.s, .int .i64 x.t, .int .i64 x.b, .int .i64 x.l, .int .i64 x.h, .int .i64 x.c, .slice A n c, .slice A2 n2 c2] 79)).heap.size = w.heap.size + 1 by simp] at ub
    have hb := new2 w (.cells #[.int .i64 x.i, .int .i64 x.s, .int .i64 x.t, .int .i64 x.b, .int .i64 x.l, .int .i64 x.h, .int .i64 x.c, .slice A n c, .slice A2 n2 c2] 79) (.cells #[.int .i64 y.i, .int .i64 y.s, .int .i64 y.t, .int .i64 y.b, .int .i64 y.l, .int .i64 y.h, .int .i64 y.c, .slice A' n' c', .slice A2' n2' c2'] 79)
    have hs : ((w.alloc (.cells #[.int .i64 x.i, .int .i64 x.s, .int .i64 x.t, .int .i64 x.b, .int .i64 x.l, .int .i64 x.h, .int .i64 x.c, .slice A n c, .slice A2 n2 c2] 79)).alloc (.cells #[.int .i64 y.i, .int .i64 y.s, .int .i64 y.t, .int .i64 y.b, .int .i64 y.l, .int .i64 y.h, .int .i64 y.c, .slice A' n' c', .slice A2' n2' c2'] 79)).heap.size = w.heap.size + 2 := by simp
    generalize (w.alloc (.cells #[.int .i64 x.i, .int .i64 x.s, .int .i64 x.t, .int .i64 x.b, .int .i64 x.l, .int .i64 x.h, .int .i64 x.c, .slice A n c, .slice A2 n2 c2] 79)).alloc (.cells #[.int .i64 y.i, .int .i64 y.s, .int .i64 y.t, .int .i64 y.b, .int .i64 y.l, .int .i64 y.h, .int .i64 y.c, .slice A' n' c', .slice A2' n2' c2'] 79) = W0 at tb ub hb hs ⊢
    obtain ⟨P, hP⟩ : ∃ P, P = w.heap.size := ⟨_, rfl⟩
    simp only [← hP] at tb ub hb hs ⊢
    have lP : P < W0.heap.size := by omega
    have lP1 : P + 1 < W0.heap.size := by omega
    have HP := Lib.hid hP
    have T1 := Lib.hid tb
    have T2 := Lib.hid ub
    have HB := Lib.hid hb
    have HS := Lib.hid hs
    clear tb ub hb hs hP
    go_ret
    exact ⟨ret_b (eqT_no fun h => Q0.out (by rw [h.1])).symm, by first | exact HB.out | (have := HB.out; rw [HP.out] at this; exact this)⟩
  have Q0 := Lib.hid q0
  clear q0
  by_cases q1 : x.s = y.s
  case neg =>
    have e1 : (x.s == y.s) = false := by simpa using q1
    have d1 : (x.s != y.s) = true := by simpa using q1
    have Q1 := Lib.hid q1
    clear q1
    have e0 : (x.i == y.i) = true := by have := Q0.out; simpa using this
    have d0 : (x.i != y.i) = false := by have := Q0.out; simpa using this
    go_enter Try.func60, Try.ntmps60
    go_wp2_with fail
    have tb := (TB.new w x A n c A2 n2 c2 79).keep (by simp) (new1 _ (.cells #[.int .i64 y.i, .int .i64 y.s, .int .i64 y.t, .int .i64 y.b, .int .i64 y.l, .int .i64 y.h, .int .i64 y.c, .slice A' n' c', .slice A2' n2' c2'] 79))
    have ub := TB.new (w.alloc (.cells #[.int .i64 x.i, .int .i64 x.s, .int .i64 x.t, .int .i64 x.b, .int .i64 x.l, .int .i64 x.h, .int .i64 x.c, .slice A n c, .slice A2 n2 c2] 79)) y A' n' c' A2' n2' c2' 79
    rw [show (w.alloc (.cells #[.int .i64 x.i, .int .i64 x.s, .int .i64 x.t, .int .i64 x.b, .int .i64 x.l, .int .i64 x.h, .int .i64 x.c, .slice A n c, .slice A2 n2 c2] 79)).heap.size = w.heap.size + 1 by simp] at ub
    have hb := new2 w (.cells #[.int .i64 x.i, .int .i64 x.s, .int .i64 x.t, .int .i64 x.b, .int .i64 x.l, .int .i64 x.h, .int .i64 x.c, .slice A n c, .slice A2 n2 c2] 79) (.cells #[.int .i64 y.i, .int .i64 y.s, .int .i64 y.t, .int .i64 y.b, .int .i64 y.l, .int .i64 y.h, .int .i64 y.c, .slice A' n' c', .slice A2' n2' c2'] 79)
    have hs : ((w.alloc (.cells #[.int .i64 x.i, .int .i64 x.s, .int .i64 x.t, .int .i64 x.b, .int .i64 x.l, .int .i64 x.h, .int .i64 x.c, .slice A n c, .slice A2 n2 c2] 79)).alloc (.cells #[.int .i64 y.i, .int .i64 y.s, .int .i64 y.t, .int .i64 y.b, .int .i64 y.l, .int .i64 y.h, .int .i64 y.c, .slice A' n' c', .slice A2' n2' c2'] 79)).heap.size = w.heap.size + 2 := by simp
    generalize (w.alloc (.cells #[.int .i64 x.i, .int .i64 x.s, .int .i64 x.t, .int .i64 x.b, .int .i64 x.l, .int .i64 x.h, .int .i64 x.c, .slice A n c, .slice A2 n2 c2] 79)).alloc (.cells #[.int .i64 y.i, .int .i64 y.s, .int .i64 y.t, .int .i64 y.b, .int .i64 y.l, .int .i64 y.h, .int .i64 y.c, .slice A' n' c', .slice A2' n2' c2'] 79) = W0 at tb ub hb hs ⊢
    obtain ⟨P, hP⟩ : ∃ P, P = w.heap.size := ⟨_, rfl⟩
    simp only [← hP] at tb ub hb hs ⊢
    have lP : P < W0.heap.size := by omega
    have lP1 : P + 1 < W0.heap.size := by omega
    have HP := Lib.hid hP
    have T1 := Lib.hid tb
    have T2 := Lib.hid ub
    have HB := Lib.hid hb
    have HS := Lib.hid hs
    clear tb ub hb hs hP
    go_ret
    exact ⟨ret_b (eqT_no fun h => Q1.out (by rw [h.1])).symm, by first | exact HB.out | (have := HB.out; rw [HP.out] at this; exact this)⟩
  have Q1 := Lib.hid q1
  clear q1
  by_cases q2 : x.t = y.t
  case neg =>
    have e2 : (x.t == y.t) = false := by simpa using q2
    have d2 : (x.t != y.t) = true := by simpa using q2
    have Q2 := Lib.hid q2
    clear q2
    have e0 : (x.i == y.i) = true := by have := Q0.out; simpa using this
    have d0 : (x.i != y.i) = false := by have := Q0.out; simpa using this
    have e1 : (x.s == y.s) = true := by have := Q1.out; simpa using this
    have d1 : (x.s != y.s) = false := by have := Q1.out; simpa using this
    go_enter Try.func60, Try.ntmps60
    go_wp2_with fail
    have tb := (TB.new w x A n c A2 n2 c2 79).keep (by simp) (new1 _ (.cells #[.int .i64 y.i, .int .i64 y.s, .int .i64 y.t, .int .i64 y.b, .int .i64 y.l, .int .i64 y.h, .int .i64 y.c, .slice A' n' c', .slice A2' n2' c2'] 79))
    have ub := TB.new (w.alloc (.cells #[.int .i64 x.i, .int .i64 x.s, .int .i64 x.t, .int .i64 x.b, .int .i64 x.l, .int .i64 x.h, .int .i64 x.c, .slice A n c, .slice A2 n2 c2] 79)) y A' n' c' A2' n2' c2' 79
    rw [show (w.alloc (.cells #[.int .i64 x.i, .int .i64 x.s, .int .i64 x.t, .int .i64 x.b, .int .i64 x.l, .int .i64 x.h, .int .i64 x.c, .slice A n c, .slice A2 n2 c2] 79)).heap.size = w.heap.size + 1 by simp] at ub
    have hb := new2 w (.cells #[.int .i64 x.i, .int .i64 x.s, .int .i64 x.t, .int .i64 x.b, .int .i64 x.l, .int .i64 x.h, .int .i64 x.c, .slice A n c, .slice A2 n2 c2] 79) (.cells #[.int .i64 y.i, .int .i64 y.s, .int .i64 y.t, .int .i64 y.b, .int .i64 y.l, .int .i64 y.h, .int .i64 y.c, .slice A' n' c', .slice A2' n2' c2'] 79)
    have hs : ((w.alloc (.cells #[.int .i64 x.i, .int .i64 x.s, .int .i64 x.t, .int .i64 x.b, .int .i64 x.l, .int .i64 x.h, .int .i64 x.c, .slice A n c, .slice A2 n2 c2] 79)).alloc (.cells #[.int .i64 y.i, .int .i64 y.s, .int .i64 y.t, .int .i64 y.b, .int .i64 y.l, .int .i64 y.h, .int .i64 y.c, .slice A' n' c', .slice A2' n2' c2'] 79)).heap.size = w.heap.size + 2 := by simp
    generalize (w.alloc (.cells #[.int .i64 x.i, .int .i64 x.s, .int .i64 x.t, .int .i64 x.b, .int .i64 x.l, .int .i64 x.h, .int .i64 x.c, .slice A n c, .slice A2 n2 c2] 79)).alloc (.cells #[.int .i64 y.i, .int .i64 y.s, .int .i64 y.t, .int .i64 y.b, .int .i64 y.l, .int .i64 y.h, .int .i64 y.c, .slice A' n' c', .slice A2' n2' c2'] 79) = W0 at tb ub hb hs ⊢
    obtain ⟨P, hP⟩ : ∃ P, P = w.heap.size := ⟨_, rfl⟩
    simp only [← hP] at tb ub hb hs ⊢
    have lP : P < W0.heap.size := by omega
    have lP1 : P + 1 < W0.heap.size := by omega
    have HP := Lib.hid hP
    have T1 := Lib.hid tb
    have T2 := Lib.hid ub
    have HB := Lib.hid hb
    have HS := Lib.hid hs
    clear tb ub hb hs hP
    go_ret
    exact ⟨ret_b (eqT_no fun h => Q2.out (by rw [h.1])).symm, by first | exact HB.out | (have := HB.out; rw [HP.out] at this; exact this)⟩
  have Q2 := Lib.hid q2
  clear q2
  by_cases q3 : x.b = y.b
  case neg =>
    have e3 : (x.b == y.b) = false := by simpa using q3
    have d3 : (x.b != y.b) = true := by simpa using q3
    have Q3 := Lib.hid q3
    clear q3
    have e0 : (x.i == y.i) = true := by have := Q0.out; simpa using this
    have d0 : (x.i != y.i) = false := by have := Q0.out; simpa using this
    have e1 : (x.s == y.s) = true := by have := Q1.out; simpa using this
    have d1 : (x.s != y.s) = false := by have := Q1.out; simpa using this
    have e2 : (x.t == y.t) = true := by have := Q2.out; simpa using this
    have d2 : (x.t != y.t) = false := by have := Q2.out; simpa using this
    go_enter Try.func60, Try.ntmps60
    go_wp2_with fail
    have tb := (TB.new w x A n c A2 n2 c2 79).keep (by simp) (new1 _ (.cells #[.int .i64 y.i, .int .i64 y.s, .int .i64 y.t, .int .i64 y.b, .int .i64 y.l, .int .i64 y.h, .int .i64 y.c, .slice A' n' c', .slice A2' n2' c2'] 79))
    have ub := TB.new (w.alloc (.cells #[.int .i64 x.i, .int .i64 x.s, .int .i64 x.t, .int .i64 x.b, .int .i64 x.l, .int .i64 x.h, .int .i64 x.c, .slice A n c, .slice A2 n2 c2] 79)) y A' n' c' A2' n2' c2' 79
    rw [show (w.alloc (.cells #[.int .i64 x.i, .int .i64 x.s, .int .i64 x.t, .int .i64 x.b, .int .i64 x.l, .int .i64 x.h, .int .i64 x.c, .slice A n c, .slice A2 n2 c2] 79)).heap.size = w.heap.size + 1 by simp] at ub
    have hb := new2 w (.cells #[.int .i64 x.i, .int .i64 x.s, .int .i64 x.t, .int .i64 x.b, .int .i64 x.l, .int .i64 x.h, .int .i64 x.c, .slice A n c, .slice A2 n2 c2] 79) (.cells #[.int .i64 y.i, .int .i64 y.s, .int .i64 y.t, .int .i64 y.b, .int .i64 y.l, .int .i64 y.h, .int .i64 y.c, .slice A' n' c', .slice A2' n2' c2'] 79)
    have hs : ((w.alloc (.cells #[.int .i64 x.i, .int .i64 x.s, .int .i64 x.t, .int .i64 x.b, .int .i64 x.l, .int .i64 x.h, .int .i64 x.c, .slice A n c, .slice A2 n2 c2] 79)).alloc (.cells #[.int .i64 y.i, .int .i64 y.s, .int .i64 y.t, .int .i64 y.b, .int .i64 y.l, .int .i64 y.h, .int .i64 y.c, .slice A' n' c', .slice A2' n2' c2'] 79)).heap.size = w.heap.size + 2 := by simp
    generalize (w.alloc (.cells #[.int .i64 x.i, .int .i64 x.s, .int .i64 x.t, .int .i64 x.b, .int .i64 x.l, .int .i64 x.h, .int .i64 x.c, .slice A n c, .slice A2 n2 c2] 79)).alloc (.cells #[.int .i64 y.i, .int .i64 y.s, .int .i64 y.t, .int .i64 y.b, .int .i64 y.l, .int .i64 y.h, .int .i64 y.c, .slice A' n' c', .slice A2' n2' c2'] 79) = W0 at tb ub hb hs ⊢
    obtain ⟨P, hP⟩ : ∃ P, P = w.heap.size := ⟨_, rfl⟩
    simp only [← hP] at tb ub hb hs ⊢
    have lP : P < W0.heap.size := by omega
    have lP1 : P + 1 < W0.heap.size := by omega
    have HP := Lib.hid hP
    have T1 := Lib.hid tb
    have T2 := Lib.hid ub
    have HB := Lib.hid hb
    have HS := Lib.hid hs
    clear tb ub hb hs hP
    go_ret
    exact ⟨ret_b (eqT_no fun h => Q3.out (by rw [h.1])).symm, by first | exact HB.out | (have := HB.out; rw [HP.out] at this; exact this)⟩
  have Q3 := Lib.hid q3
  clear q3
  by_cases q4 : x.l = y.l
  case neg =>
    have e4 : (x.l == y.l) = false := by simpa using q4
    have d4 : (x.l != y.l) = true := by simpa using q4
    have Q4 := Lib.hid q4
    clear q4
    have e0 : (x.i == y.i) = true := by have := Q0.out; simpa using this
    have d0 : (x.i != y.i) = false := by have := Q0.out; simpa using this
    have e1 : (x.s == y.s) = true := by have := Q1.out; simpa using this
    have d1 : (x.s != y.s) = false := by have := Q1.out; simpa using this
    have e2 : (x.t == y.t) = true := by have := Q2.out; simpa using this
    have d2 : (x.t != y.t) = false := by have := Q2.out; simpa using this
    have e3 : (x.b == y.b) = true := by have := Q3.out; simpa using this
    have d3 : (x.b != y.b) = false := by have := Q3.out; simpa using this
    go_enter Try.func60, Try.ntmps60
    go_wp2_with fail
    have tb := (TB.new w x A n c A2 n2 c2 79).keep (by simp) (new1 _ (.cells #[.int .i64 y.i, .int .i64 y.s, .int .i64 y.t, .int .i64 y.b, .int .i64 y.l, .int .i64 y.h, .int .i64 y.c, .slice A' n' c', .slice A2' n2' c2'] 79))
    have ub := TB.new (w.alloc (.cells #[.int .i64 x.i, .int .i64 x.s, .int .i64 x.t, .int .i64 x.b, .int .i64 x.l, .int .i64 x.h, .int .i64 x.c, .slice A n c, .slice A2 n2 c2] 79)) y A' n' c' A2' n2' c2' 79
    rw [show (w.alloc (.cells #[.int .i64 x.i, .int .i64 x.s, .int .i64 x.t, .int .i64 x.b, .int .i64 x.l, .int .i64 x.h, .int .i64 x.c, .slice A n c, .slice A2 n2 c2] 79)).heap.size = w.heap.size + 1 by simp] at ub
    have hb := new2 w (.cells #[.int .i64 x.i, .int .i64 x.s, .int .i64 x.t, .int .i64 x.b, .int .i64 x.l, .int .i64 x.h, .int .i64 x.c, .slice A n c, .slice A2 n2 c2] 79) (.cells #[.int .i64 y.i, .int .i64 y.s, .int .i64 y.t, .int .i64 y.b, .int .i64 y.l, .int .i64 y.h, .int .i64 y.c, .slice A' n' c', .slice A2' n2' c2'] 79)
    have hs : ((w.alloc (.cells #[.int .i64 x.i, .int .i64 x.s, .int .i64 x.t, .int .i64 x.b, .int .i64 x.l, .int .i64 x.h, .int .i64 x.c, .slice A n c, .slice A2 n2 c2] 79)).alloc (.cells #[.int .i64 y.i, .int .i64 y.s, .int .i64 y.t, .int .i64 y.b, .int .i64 y.l, .int .i64 y.h, .int .i64 y.c, .slice A' n' c', .slice A2' n2' c2'] 79)).heap.size = w.heap.size + 2 := by simp
    generalize (w.alloc (.cells #[.int .i64 x.i, .int .i64 x.s, .int .i64 x.t, .int .i64 x.b, .int .i64 x.l, .int .i64 x.h, .int .i64 x.c, .slice A n c, .slice A2 n2 c2] 79)).alloc (.cells #[.int .i64 y.i, .int .i64 y.s, .int .i64 y.t, .int .i64 y.b, .int .i64 y.l, .int .i64 y.h, .int .i64 y.c, .slice A' n' c', .slice A2' n2' c2'] 79) = W0 at tb ub hb hs ⊢
    obtain ⟨P, hP⟩ : ∃ P, P = w.heap.size := ⟨_, rfl⟩
    simp only [← hP] at tb ub hb hs ⊢
    have lP : P < W0.heap.size := by omega
    have lP1 : P + 1 < W0.heap.size := by omega
    have HP := Lib.hid hP
    have T1 := Lib.hid tb
    have T2 := Lib.hid ub
    have HB := Lib.hid hb
    have HS := Lib.hid hs
    clear tb ub hb hs hP
    go_ret
    exact ⟨ret_b (eqT_no fun h => Q4.out (by rw [h.1])).symm, by first | exact HB.out | (have := HB.out; rw [HP.out] at this; exact this)⟩
  have Q4 := Lib.hid q4
  clear q4
  by_cases q5 : x.h = y.h
  case neg =>
    have e5 : (x.h == y.h) = false := by simpa using q5
    have d5 : (x.h != y.h) = true := by simpa using q5
    have Q5 := Lib.hid q5
    clear q5
    have e0 : (x.i == y.i) = true := by have := Q0.out; simpa using this
    have d0 : (x.i != y.i) = false := by have := Q0.out; simpa using this
    have e1 : (x.s == y.s) = true := by have := Q1.out; simpa using this
    have d1 : (x.s != y.s) = false := by have := Q1.out; simpa using this
    have e2 : (x.t == y.t) = true := by have := Q2.out; simpa using this
    have d2 : (x.t != y.t) = false := by have := Q2.out; simpa using this
    have e3 : (x.b == y.b) = true := by have := Q3.out; simpa using this
    have d3 : (x.b != y.b) = false := by have := Q3.out; simpa using this
    have e4 : (x.l == y.l) = true := by have := Q4.out; simpa using this
    have d4 : (x.l != y.l) = false := by have := Q4.out; simpa using this
    go_enter Try.func60, Try.ntmps60
    go_wp2_with fail
    have tb := (TB.new w x A n c A2 n2 c2 79).keep (by simp) (new1 _ (.cells #[.int .i64 y.i, .int .i64 y.s, .int .i64 y.t, .int .i64 y.b, .int .i64 y.l, .int .i64 y.h, .int .i64 y.c, .slice A' n' c', .slice A2' n2' c2'] 79))
    have ub := TB.new (w.alloc (.cells #[.int .i64 x.i, .int .i64 x.s, .int .i64 x.t, .int .i64 x.b, .int .i64 x.l, .int .i64 x.h, .int .i64 x.c, .slice A n c, .slice A2 n2 c2] 79)) y A' n' c' A2' n2' c2' 79
    rw [show (w.alloc (.cells #[.int .i64 x.i, .int .i64 x.s, .int .i64 x.t, .int .i64 x.b, .int .i64 x.l, .int .i64 x.h, .int .i64 x.c, .slice A n c, .slice A2 n2 c2] 79)).heap.size = w.heap.size + 1 by simp] at ub
    have hb := new2 w (.cells #[.int .i64 x.i, .int .i64 x.s, .int .i64 x.t, .int .i64 x.b, .int .i64 x.l, .int .i64 x.h, .int .i64 x.c, .slice A n c, .slice A2 n2 c2] 79) (.cells #[.int .i64 y.i, .int .i64 y.s, .int .i64 y.t, .int .i64 y.b, .int .i64 y.l, .int .i64 y.h, .int .i64 y.c, .slice A' n' c', .slice A2' n2' c2'] 79)
    have hs : ((w.alloc (.cells #[.int .i64 x.i, .int .i64 x.s, .int .i64 x.t, .int .i64 x.b, .int .i64 x.l, .int .i64 x.h, .int .i64 x.c, .slice A n c, .slice A2 n2 c2] 79)).alloc (.cells #[.int .i64 y.i, .int .i64 y.s, .int .i64 y.t, .int .i64 y.b, .int .i64 y.l, .int .i64 y.h, .int .i64 y.c, .slice A' n' c', .slice A2' n2' c2'] 79)).heap.size = w.heap.size + 2 := by simp
    generalize (w.alloc (.cells #[.int .i64 x.i, .int .i64 x.s, .int .i64 x.t, .int .i64 x.b, .int .i64 x.l, .int .i64 x.h, .int .i64 x.c, .slice A n c, .slice A2 n2 c2] 79)).alloc (.cells #[.int .i64 y.i, .int .i64 y.s, .int .i64 y.t, .int .i64 y.b, .int .i64 y.l, .int .i64 y.h, .int .i64 y.c, .slice A' n' c', .slice A2' n2' c2'] 79) = W0 at tb ub hb hs ⊢
    obtain ⟨P, hP⟩ : ∃ P, P = w.heap.size := ⟨_, rfl⟩
    simp only [← hP] at tb ub hb hs ⊢
    have lP : P < W0.heap.size := by omega
    have lP1 : P + 1 < W0.heap.size := by omega
    have HP := Lib.hid hP
    have T1 := Lib.hid tb
    have T2 := Lib.hid ub
    have HB := Lib.hid hb
    have HS := Lib.hid hs
    clear tb ub hb hs hP
    go_ret
    exact ⟨ret_b (eqT_no fun h => Q5.out (by rw [h.1])).symm, by first | exact HB.out | (have := HB.out; rw [HP.out] at this; exact this)⟩
  have Q5 := Lib.hid q5
  clear q5
  by_cases q6 : x.c = y.c
  case neg =>
    have e6 : (x.c == y.c) = false := by simpa using q6
    have d6 : (x.c != y.c) = true := by simpa using q6
    have Q6 := Lib.hid q6
    clear q6
    have e0 : (x.i == y.i) = true := by have := Q0.out; simpa using this
    have d0 : (x.i != y.i) = false := by have := Q0.out; simpa using this
    have e1 : (x.s == y.s) = true := by have := Q1.out; simpa using this
    have d1 : (x.s != y.s) = false := by have := Q1.out; simpa using this
    have e2 : (x.t == y.t) = true := by have := Q2.out; simpa using this
    have d2 : (x.t != y.t) = false := by have := Q2.out; simpa using this
    have e3 : (x.b == y.b) = true := by have := Q3.out; simpa using this
    have d3 : (x.b != y.b) = false := by have := Q3.out; simpa using this
    have e4 : (x.l == y.l) = true := by have := Q4.out; simpa using this
    have d4 : (x.l != y.l) = false := by have := Q4.out; simpa using this
    have e5 : (x.h == y.h) = true := by have := Q5.out; simpa using this
    have d5 : (x.h != y.h) = false := by have := Q5.out; simpa using this
    go_enter Try.func60, Try.ntmps60
    go_wp2_with fail
    have tb := (TB.new w x A n c A2 n2 c2 79).keep (by simp) (new1 _ (.cells #[.int .i64 y.i, .int .i64 y.s, .int .i64 y.t, .int .i64 y.b, .int .i64 y.l, .int .i64 y.h, .int .i64 y.c, .slice A' n' c', .slice A2' n2' c2'] 79))
    have ub := TB.new (w.alloc (.cells #[.int .i64 x.i, .int .i64 x.s, .int .i64 x.t, .int .i64 x.b, .int .i64 x.l, .int .i64 x.h, .int .i64 x.c, .slice A n c, .slice A2 n2 c2] 79)) y A' n' c' A2' n2' c2' 79
    rw [show (w.alloc (.cells #[.int .i64 x.i, .int .i64 x.s, .int .i64 x.t, .int .i64 x.b, .int .i64 x.l, .int .i64 x.h, .int .i64 x.c, .slice A n c, .slice A2 n2 c2] 79)).heap.size = w.heap.size + 1 by simp] at ub
    have hb := new2 w (.cells #[.int .i64 x.i, .int .i64 x.s, .int .i64 x.t, .int .i64 x.b, .int .i64 x.l, .int .i64 x.h, .int .i64 x.c, .slice A n c, .slice A2 n2 c2] 79) (.cells #[.int .i64 y.i, .int .i64 y.s, .int .i64 y.t, .int .i64 y.b, .int .i64 y.l, .int .i64 y.h, .int .i64 y.c, .slice A' n' c', .slice A2' n2' c2'] 79)
    have hs : ((w.alloc (.cells #[.int .i64 x.i, .int .i64 x.s, .int .i64 x.t, .int .i64 x.b, .int .i64 x.l, .int .i64 x.h, .int .i64 x.c, .slice A n c, .slice A2 n2 c2] 79)).alloc (.cells #[.int .i64 y.i, .int .i64 y.s, .int .i64 y.t, .int .i64 y.b, .int .i64 y.l, .int .i64 y.h, .int .i64 y.c, .slice A' n' c', .slice A2' n2' c2'] 79)).heap.size = w.heap.size + 2 := by simp
    generalize (w.alloc (.cells #[.int .i64 x.i, .int .i64 x.s, .int .i64 x.t, .int .i64 x.b, .int .i64 x.l, .int .i64 x.h, .int .i64 x.c, .slice A n c, .slice A2 n2 c2] 79)).alloc (.cells #[.int .i64 y.i, .int .i64 y.s, .int .i64 y.t, .int .i64 y.b, .int .i64 y.l, .int .i64 y.h, .int .i64 y.c, .slice A' n' c', .slice A2' n2' c2'] 79) = W0 at tb ub hb hs ⊢
    obtain ⟨P, hP⟩ : ∃ P, P = w.heap.size := ⟨_, rfl⟩
    simp only [← hP] at tb ub hb hs ⊢
    have lP : P < W0.heap.size := by omega
    have lP1 : P + 1 < W0.heap.size := by omega
    have HP := Lib.hid hP
    have T1 := Lib.hid tb
    have T2 := Lib.hid ub
    have HB := Lib.hid hb
    have HS := Lib.hid hs
    clear tb ub hb hs hP
    go_ret
    exact ⟨ret_b (eqT_no fun h => Q6.out (by rw [h.1])).symm, by first | exact HB.out | (have := HB.out; rw [HP.out] at this; exact this)⟩
  have Q6 := Lib.hid q6
  clear q6
  have HXY0 : Hid (x = y) := Lib.hid (Hd.ext Q0.out Q1.out Q2.out Q3.out Q4.out Q5.out Q6.out)
  by_cases q : n = n'
  case neg =>
    have e : ((n : Int) == (n' : Int)) = false := by simp; omega
    have d : ((n : Int) != (n' : Int)) = true := by simp; omega
    have Q := Lib.hid q
    clear q
    have e0 : (x.i == y.i) = true := by have := Q0.out; simpa using this
    have d0 : (x.i != y.i) = false := by have := Q0.out; simpa using this
    have e1 : (x.s == y.s) = true := by have := Q1.out; simpa using this
    have d1 : (x.s != y.s) = false := by have := Q1.out; simpa using this
    have e2 : (x.t == y.t) = true := by have := Q2.out; simpa using this
    have d2 : (x.t != y.t) = false := by have := Q2.out; simpa using this
    have e3 : (x.b == y.b) = true := by have := Q3.out; simpa using this
    have d3 : (x.b != y.b) = false := by have := Q3.out; simpa using this
    have e4 : (x.l == y.l) = true := by have := Q4.out; simpa using this
    have d4 : (x.l != y.l) = false := by have := Q4.out; simpa using this
    have e5 : (x.h == y.h) = true := by have := Q5.out; simpa using this
    have d5 : (x.h != y.h) = false := by have := Q5.out; simpa using this
    have e6 : (x.c == y.c) = true := by have := Q6.out; simpa using this
    have d6 : (x.c != y.c) = false := by have := Q6.out; simpa using this
    go_enter Try.func60, Try.ntmps60
    go_wp2_with fail
    have tb := (TB.new w x A n c A2 n2 c2 79).keep (by simp) (new1 _ (.cells #[.int .i64 y.i, .int .i64 y.s, .int .i64 y.t, .int .i64 y.b, .int .i64 y.l, .int .i64 y.h, .int .i64 y.c, .slice A' n' c', .slice A2' n2' c2'] 79))
    have ub := TB.new (w.alloc (.cells #[.int .i64 x.i, .int .i64 x.s, .int .i64 x.t, .int .i64 x.b, .int .i64 x.l, .int .i64 x.h, .int .i64 x.c, .slice A n c, .slice A2 n2 c2] 79)) y A' n' c' A2' n2' c2' 79
    rw [show (w.alloc (.cells #[.int .i64 x.i, .int .i64 x.s, .int .i64 x.t, .int .i64 x.b, .int .i64 x.l, .int .i64 x.h, .int .i64 x.c, .slice A n c, .slice A2 n2 c2] 79)).heap.size = w.heap.size + 1 by simp] at ub
    have hb := new2 w (.cells #[.int .i64 x.i, .int .i64 x.s, .int .i64 x.t, .int .i64 x.b, .int .i64 x.l, .int .i64 x.h, .int .i64 x.c, .slice A n c, .slice A2 n2 c2] 79) (.cells #[.int .i64 y.i, .int .i64 y.s, .int .i64 y.t, .int .i64 y.b, .int .i64 y.l, .int .i64 y.h, .int .i64 y.c, .slice A' n' c', .slice A2' n2' c2'] 79)
    have hs : ((w.alloc (.cells #[.int .i64 x.i, .int .i64 x.s, .int .i64 x.t, .int .i64 x.b, .int .i64 x.l, .int .i64 x.h, .int .i64 x.c, .slice A n c, .slice A2 n2 c2] 79)).alloc (.cells #[.int .i64 y.i, .int .i64 y.s, .int .i64 y.t, .int .i64 y.b, .int .i64 y.l, .int .i64 y.h, .int .i64 y.c, .slice A' n' c', .slice A2' n2' c2'] 79)).heap.size = w.heap.size + 2 := by simp
    generalize (w.alloc (.cells #[.int .i64 x.i, .int .i64 x.s, .int .i64 x.t, .int .i64 x.b, .int .i64 x.l, .int .i64 x.h, .int .i64 x.c, .slice A n c, .slice A2 n2 c2] 79)).alloc (.cells #[.int .i64 y.i, .int .i64 y.s, .int .i64 y.t, .int .i64 y.b, .int .i64 y.l, .int .i64 y.h, .int .i64 y.c, .slice A' n' c', .slice A2' n2' c2'] 79) = W0 at tb ub hb hs ⊢
    obtain ⟨P, hP⟩ : ∃ P, P = w.heap.size := ⟨_, rfl⟩
    simp only [← hP] at tb ub hb hs ⊢
    have lP : P < W0.heap.size := by omega
    have lP1 : P + 1 < W0.heap.size := by omega
    have HP := Lib.hid hP
    have T1 := Lib.hid tb
    have T2 := Lib.hid ub
    have HB := Lib.hid hb
    have HS := Lib.hid hs
    clear tb ub hb hs hP
    go_ret
    exact ⟨ret_b (eqT_no fun h => Q.out (by rw [← H1.out.1, ← H1'.out.1, h.2.1])).symm, by first | exact HB.out | (have := HB.out; rw [HP.out] at this; exact this)⟩
  subst q
  by_cases q : n2 = n2'
  case neg =>
    have e : ((n2 : Int) == (n2' : Int)) = false := by simp; omega
    have d : ((n2 : Int) != (n2' : Int)) = true := by simp; omega
    have Q := Lib.hid q
    clear q
    have e0 : (x.i == y.i) = true := by have := Q0.out; simpa using this
    have d0 : (x.i != y.i) = false := by have := Q0.out; simpa using this
    have e1 : (x.s == y.s) = true := by have := Q1.out; simpa using this
    have d1 : (x.s != y.s) = false := by have := Q1.out; simpa using this
    have e2 : (x.t == y.t) = true := by have := Q2.out; simpa using this
    have d2 : (x.t != y.t) = false := by have := Q2.out; simpa using this
    have e3 : (x.b == y.b) = true := by have := Q3.out; simpa using this
    have d3 : (x.b != y.b) = false := by have := Q3.out; simpa using this
    have e4 : (x.l == y.l) = true := by have := Q4.out; simpa using this
    have d4 : (x.l != y.l) = false := by have := Q4.out; simpa using this
    have e5 : (x.h == y.h) = true := by have := Q5.out; simpa using this
    have d5 : (x.h != y.h) = false := by have := Q5.out; simpa using this
    have e6 : (x.c == y.c) = true := by have := Q6.out; simpa using this
    have d6 : (x.c != y.c) = false := by have := Q6.out; simpa using this
    go_enter Try.func60, Try.ntmps60
    go_wp2_with fail
    have tb := (TB.new w x A n c A2 n2 c2 79).keep (by simp) (new1 _ (.cells #[.int .i64 y.i, .int .i64 y.s, .int .i64 y.t, .int .i64 y.b, .int .i64 y.l, .int .i64 y.h, .int .i64 y.c, .slice A' n c', .slice A2' n2' c2'] 79))
    have ub := TB.new (w.alloc (.cells #[.int .i64 x.i, .int .i64 x.s, .int .i64 x.t, .int .i64 x.b, .int .i64 x.l, .int .i64 x.h, .int .i64 x.c, .slice A n c, .slice A2 n2 c2] 79)) y A' n c' A2' n2' c2' 79
    rw [show (w.alloc (.cells #[.int .i64 x.i, .int .i64 x.s, .int .i64 x.t, .int .i64 x.b, .int .i64 x.l, .int .i64 x.h, .int .i64 x.c, .slice A n c, .slice A2 n2 c2] 79)).heap.size = w.heap.size + 1 by simp] at ub
    have hb := new2 w (.cells #[.int .i64 x.i, .int .i64 x.s, .int .i64 x.t, .int .i64 x.b, .int .i64 x.l, .int .i64 x.h, .int .i64 x.c, .slice A n c, .slice A2 n2 c2] 79) (.cells #[.int .i64 y.i, .int .i64 y.s, .int .i64 y.t, .int .i64 y.b, .int .i64 y.l, .int .i64 y.h, .int .i64 y.c, .slice A' n c', .slice A2' n2' c2'] 79)
    have hs : ((w.alloc (.cells #[.int .i64 x.i, .int .i64 x.s, .int .i64 x.t, .int .i64 x.b, .int .i64 x.l, .int .i64 x.h, .int .i64 x.c, .slice A n c, .slice A2 n2 c2] 79)).alloc (.cells #[.int .i64 y.i, .int .i64 y.s, .int .i64 y.t, .int .i64 y.b, .int .i64 y.l, .int .i64 y.h, .int .i64 y.c, .slice A' n c', .slice A2' n2' c2'] 79)).heap.size = w.heap.size + 2 := by simp
    generalize (w.alloc (.cells #[.int .i64 x.i, .int .i64 x.s, .int .i64 x.t, .int .i64 x.b, .int .i64 x.l, .int .i64 x.h, .int .i64 x.c, .slice A n c, .slice A2 n2 c2] 79)).alloc (.cells #[.int .i64 y.i, .int .i64 y.s, .int .i64 y.t, .int .i64 y.b, .int .i64 y.l, .int .i64 y.h, .int .i64 y.c, .slice A' n c', .slice A2' n2' c2'] 79) = W0 at tb ub hb hs ⊢
    obtain ⟨P, hP⟩ : ∃ P, P = w.heap.size := ⟨_, rfl⟩
    simp only [← hP] at tb ub hb hs ⊢
    have lP : P < W0.heap.size := by omega
    have lP1 : P + 1 < W0.heap.size := by omega
    have HP := Lib.hid hP
    have T1 := Lib.hid tb
    have T2 := Lib.hid ub
    have HB := Lib.hid hb
    have HS := Lib.hid hs
    clear tb ub hb hs hP
    go_ret
    exact ⟨ret_b (eqT_no fun h => Q.out (by rw [← H2.out.1, ← H2'.out.1, h.2.2])).symm, by first | exact HB.out | (have := HB.out; rw [HP.out] at this; exact this)⟩
  subst q
  have e0 : (x.i == y.i) = true := by have := Q0.out; simpa using this
  have d0 : (x.i != y.i) = false := by have := Q0.out; simpa using this
  have e1 : (x.s == y.s) = true := by have := Q1.out; simpa using this
  have d1 : (x.s != y.s) = false := by have := Q1.out; simpa using this
  have e2 : (x.t == y.t) = true := by have := Q2.out; simpa using this
  have d2 : (x.t != y.t) = false := by have := Q2.out; simpa using this
  have e3 : (x.b == y.b) = true := by have := Q3.out; simpa using this
  have d3 : (x.b != y.b) = false := by have := Q3.out; simpa using this
  have e4 : (x.l == y.l) = true := by have := Q4.out; simpa using this
  have d4 : (x.l != y.l) = false := by have := Q4.out; simpa using this
  have e5 : (x.h == y.h) = true := by have := Q5.out; simpa using this
  have d5 : (x.h != y.h) = false := by have := Q5.out; simpa using this
  have e6 : (x.c == y.c) = true := by have := Q6.out; simpa using this
  have d6 : (x.c != y.c) = false := by have := Q6.out; simpa using this
  go_enter Try.func60, Try.ntmps60
  go_wp2_with fail
  have tb := (TB.new w x A n c A2 n2 c2 79).keep (by simp) (new1 _ (.cells #[.int .i64 y.i, .int .i64 y.s, .int .i64 y.t, .int .i64 y.b, .int .i64 y.l, .int .i64 y.h, .int .i64 y.c, .slice A' n c', .slice A2' n2 c2'] 79))
  have ub := TB.new (w.alloc (.cells #[.int .i64 x.i, .int .i64 x.s, .int .i64 x.t, .int .i64 x.b, .int .i64 x.l, .int .i64 x.h, .int .i64 x.c, .slice A n c, .slice A2 n2 c2] 79)) y A' n c' A2' n2 c2' 79
  rw [show (w.alloc (.cells #[.int .i64 x.i, .int .i64 x.s, .int .i64 x.t, .int .i64 x.b, .int .i64 x.l, .int .i64 x.h, .int .i64 x.c, .slice A n c, .slice A2 n2 c2] 79)).heap.size = w.heap.size + 1 by simp] at ub
  have hb := new2 w (.cells #[.int .i64 x.i, .int .i64 x.s, .int .i64 x.t, .int .i64 x.b, .int .i64 x.l, .int .i64 x.h, .int .i64 x.c, .slice A n c, .slice A2 n2 c2] 79) (.cells #[.int .i64 y.i, .int .i64 y.s, .int .i64 y.t, .int .i64 y.b, .int .i64 y.l, .int .i64 y.h, .int .i64 y.c, .slice A' n c', .slice A2' n2 c2'] 79)
  have hs : ((w.alloc (.cells #[.int .i64 x.i, .int .i64 x.s, .int .i64 x.t, .int .i64 x.b, .int .i64 x.l, .int .i64 x.h, .int .i64 x.c, .slice A n c, .slice A2 n2 c2] 79)).alloc (.cells #[.int .i64 y.i, .int .i64 y.s, .int .i64 y.t, .int .i64 y.b, .int .i64 y.l, .int .i64 y.h, .int .i64 y.c, .slice A' n c', .slice A2' n2 c2'] 79)).heap.size = w.heap.size + 2 := by simp
  generalize (w.alloc (.cells #[.int .i64 x.i, .int .i64 x.s, .int .i64 x.t, .int .i64 x.b, .int .i64 x.l, .int .i64 x.h, .int .i64 x.c, .slice A n c, .slice A2 n2 c2] 79)).alloc (.cells #[.int .i64 y.i, .int .i64 y.s, .int .i64 y.t, .int .i64 y.b, .int .i64 y.l, .int .i64 y.h, .int .i64 y.c, .slice A' n c', .slice A2' n2 c2'] 79) = W0 at tb ub hb hs ⊢
  obtain ⟨P, hP⟩ : ∃ P, P = w.heap.size := ⟨_, rfl⟩
  simp only [← hP] at tb ub hb hs ⊢
  have lP : P < W0.heap.size := by omega
  have lP1 : P + 1 < W0.heap.size := by omega
  have HP := Lib.hid hP
  have T1 := Lib.hid tb
  have T2 := Lib.hid ub
  have HB := Lib.hid hb
  have HS := Lib.hid hs
  clear tb ub hb hs hP
  clear e0 d0 e1 d1 e2 d2 e3 d3 e4 d4 e5 d5 e6 d6
  have hg := guard_r
  go_loopw [5] (fun i wr => ∃ k : Nat, k ≤ n ∧ i = .int .i64 k ∧ R.take k = R'.take k ∧ Below P w wr ∧ P + 1 < wr.heap.size ∧ TB wr P x (.slice A n c) (.slice A2 n2 c2) ∧ TB wr (P + 1) y (.slice A' n c') (.slice A2' n2 c2')) (fun i _ => n - (intOf i).toNat)
  case atStart => exact ⟨0, by omega, rfl, rfl, HB.out, by have := HS.out; omega, T1.out, T2.out⟩
  case round =>
    clear HB T1 T2 HS lP lP1
    obtain ⟨k, hk, rfl, ht, hb, hz, tb, ub⟩ := hrel
    have HT := Lib.hid ht
    have HB := Lib.hid hb
    have T1 := Lib.hid tb
    have T2 := Lib.hid ub
    have HBw : Hid (Below w.heap.size w wr) := Lib.hid (by rw [← HP.out]; exact hb)
    have tc := tb.2.2.2.2.2.2.2.1
    have uc := ub.2.2.2.2.2.2.2.1
    clear ht hb tb ub
    by_cases hlt : k < n
    · obtain ⟨b, o, x1, rfl, hbB, hx, a0, a1⟩ := (H1.out.below (below_le HBw.out hB)).at_ hlt
      obtain ⟨b', o', y1, rfl, hbB', hy, d0, d1⟩ := (H1'.out.below (below_le HBw.out hB)).at_ hlt
      have HX := Lib.hid hx
      have HY := Lib.hid hy
      clear hx hy
      by_cases hxy : x1 = y1
      · have hnq := neq_no_r hxy
        have HXY := Lib.hid hxy
        clear hxy
        go_wp2_with fail
        go_quiet (fail)
        clear hnq
        go_wp2_with fail
        go_roundw
        case rel => exact ⟨k + 1, by omega, by go_num, take_step HT.out HX.out (by rw [HXY.out]; exact HY.out), bdrewN HB.out _, hz, T1.out, T2.out⟩
        case measure => simp [intOf]; omega
      · have hnq := neq_yes_r hxy
        have HXY := Lib.hid hxy
        clear hxy
        go_wp2_with fail
        go_quiet (fail)
        clear hnq
        go_wp2_with fail
        go_ret
        exact ⟨ret_b (eqT_no fun h => at_ne HX.out HY.out HXY.out h.2.1).symm, bdrewN HBw.out _⟩
    · obtain rfl : n = k := by omega
      have HE := Lib.hid (all_eq H1.out.1 H1'.out.1 HT.out)
      have tc := T1.out.2.2.2.2.2.2.2.2
      clear hg HT HBw hlt uc
      go_wp2_with fail
      have hg := guard_w
      go_loopw [6] (fun i wr => ∃ k : Nat, k ≤ n2 ∧ i = .int .i64 k ∧ T.take k = T'.take k ∧ Below P w wr ∧ P + 1 < wr.heap.size ∧ TB wr P x (.slice A n c) (.slice A2 n2 c2) ∧ TB wr (P + 1) y (.slice A' n c') (.slice A2' n2 c2')) (fun i _ => n2 - (intOf i).toNat)
      case atStart => exact ⟨0, by omega, rfl, rfl, HB.out, hz, T1.out, T2.out⟩
      case round =>
        clear HB T1 T2 hz
        obtain ⟨k, hk, rfl, ht, hb, hz, tb, ub⟩ := hrel
        have HT := Lib.hid ht
        have HB := Lib.hid hb
        have T1 := Lib.hid tb
        have T2 := Lib.hid ub
        have HBw : Hid (Below w.heap.size w wr) := Lib.hid (by rw [← HP.out]; exact hb)
        have tc := tb.2.2.2.2.2.2.2.2
        have uc := ub.2.2.2.2.2.2.2.2
        clear ht hb tb ub
        by_cases hlt : k < n2
        · obtain ⟨b, o, x1, rfl, hbB, hx, a0, a1⟩ := (H2.out.below (below_le HBw.out hB)).at_ hlt
          obtain ⟨b', o', y1, rfl, hbB', hy, d0, d1⟩ := (H2'.out.below (below_le HBw.out hB)).at_ hlt
          have HX := Lib.hid hx
          have HY := Lib.hid hy
          clear hx hy
          by_cases hxy : x1 = y1
          · have hnq := neq_no_w hxy
            have HXY := Lib.hid hxy
            clear hxy
            go_wp2_with fail
            go_quiet (fail)
            clear hnq
            go_wp2_with fail
            go_roundw
            case rel => exact ⟨k + 1, by omega, by go_num, take_step HT.out HX.out (by rw [HXY.out]; exact HY.out), bdrewN HB.out _, hz, T1.out, T2.out⟩
            case measure => simp [intOf]; omega
          · have hnq := neq_yes_w hxy
            have HXY := Lib.hid hxy
            clear hxy
            go_wp2_with fail
            go_quiet (fail)
            clear hnq
            go_wp2_with fail
            go_ret
            exact ⟨ret_b (eqT_no fun h => at_ne HX.out HY.out HXY.out h.2.2).symm, bdrewN HBw.out _⟩
        · obtain rfl : n2 = k := by omega
          have HE2 := Lib.hid (all_eq H2.out.1 H2'.out.1 HT.out)
          clear hg
          go_wp2_with fail
          go_ret
          exact ⟨ret_b (eqT_yes ⟨HXY0.out, HE.out, HE2.out⟩).symm, HBw.out⟩
end Go.Proofs.Ytjnlbhmddhpmaaa.te
