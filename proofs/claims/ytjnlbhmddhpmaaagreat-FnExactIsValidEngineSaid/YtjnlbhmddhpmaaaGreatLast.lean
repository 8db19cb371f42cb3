/- The program's and the model's LastStamp: what each answers; nothing that was there is written. -/
import Derived.Test.YtjnlbhmddhpmaaaGreatVal
import Derived.WalkKit
import Derived.ProofKit
import Derived.Below
import Derived.Lib.Hide
import Derived.LoopTactic
import Derived.Deep.QuietTactic
import Derived.BigQuiet
import Derived.Outline
import Derived.IntWalk
namespace Go.Proofs.YtjnlbhmddhpmaaaGreat.last
open Go.ChangeShapes Go.WideShapes Go.ChangeAt Go.RowKit
open Go.Proofs.YtjnlbhmddhpmaaaGreat.vers Go.Proofs.YtjnlbhmddhpmaaaGreat.sl Go.Proofs.YtjnlbhmddhpmaaaGreat.ch Go.Proofs.YtjnlbhmddhpmaaaGreat.st Go.Proofs.YtjnlbhmddhpmaaaGreat.val
set_option linter.unusedVariables false
set_option linter.unusedSimpArgs false
def mxV (m : Int) (x : Ver) : Int := max (max m x.c) x.d
def mxL (m : Int) (l : List Ver) : Int := l.foldl mxV m
def mxS (ll : List (List Ver)) : Int := ll.foldl mxL 0
noncomputable def lstS (ll : List (List Ver)) : Int := if stB ll = true then mxS ll else 0
theorem mx_step {m : Int} {l : List Ver} {k : Nat} {x : Ver} (h : l[k]? = some x) : mxL m (l.take (k + 1)) = mxV (mxL m (l.take k)) x := by
  have hk := lt_get h
  rw [List.getElem?_eq_getElem hk] at h
  unfold mxL
  rw [List.take_succ_eq_append_getElem hk, List.foldl_append, Option.some.inj h]
  rfl
theorem mx_row {ll : List (List Ver)} {k : Nat} {l : List Ver} (h : ll[k]? = some l) : mxS (ll.take (k + 1)) = mxL (mxS (ll.take k)) l := by
  have hk := lt_get h
  rw [List.getElem?_eq_getElem hk] at h
  unfold mxS
  rw [List.take_succ_eq_append_getElem hk, List.foldl_append, Option.some.inj h]
  rfl
theorem mx_all {m : Int} {l : List Ver} {n : Nat} (h : l.length = n) : mxL m (l.take n) = mxL m l := by rw [List.take_of_length_le (by omega)]
theorem mxS_all {ll : List (List Ver)} {n : Nat} (h : ll.length = n) : mxS (ll.take n) = mxS ll := by rw [List.take_of_length_le (by omega)]
theorem lst_no {ll : List (List Ver)} (h : stB ll = false) : lstS ll = 0 := by simp [lstS, h]
theorem lst_yes {ll : List (List Ver)} (h : stB ll = true) : lstS ll = mxS ll := by simp [lstS, h]
theorem max3 (x y z : Int) (w : World) : (Builtin.max_ #[3, 3, 3] 3 #[.int .i64 x, .int .i64 y, .int .i64 z]).run Tryz.prog w = .ok (.int .i64 (max (max x y) z)) w := by
  have e : (if y > x then y else x) = max x y := by
    rw [Int.max_def]
    split <;> split <;> omega
  have e2 : (if z > max x y then z else max x y) = max (max x y) z := by
    generalize max x y = u
    rw [Int.max_def]
    split <;> split <;> omega
  simp [Builtin.max_, Builtin.max2, e, e2]
theorem iv {a b : Int} (h : a = b) : Value.int .i64 a = .int .i64 b := by rw [h]
set_option maxRecDepth 100000 in
set_option maxHeartbeats 1600000 in
theorem impl_last {w : World} {B n c : Nat} {A : Option Addr} {ll : List (List Ver)} (hn : n ≤ 140737488355328) (h1 : Rs w B A n ll) (hB : B ≤ w.heap.size) :
    Calls Tryz.prog 26 #[.agg #[.slice A n c]] w fun e w' => e = .returned (.int .i64 (lstS ll)) ∧ Below w.heap.size w w' := by
  have H1 := Lib.hid h1
  have hln := h1.1
  clear h1
  rcases hst : stB ll with _ | _
  · have hr := lst_no hst
    have HR := Lib.hid hr
    have HS := Lib.hid hst
    clear hr hst
    go_enter Tryz.func26, Tryz.ntmps26
    go_wp2_with fail
    refine (impl_store hn (H1.out.below (below_le (new1 _ _) hB)) (by simp; omega)).mono ?_
    rintro e W1 ⟨rfl, hb⟩
    rw [HS.out]
    have HB : Hid (Below w.heap.size w W1) := Lib.hid ((new1 w _).trans (hb.mono (by simp)))
    clear hb
    go_wp2_with fail
    go_ret
    exact ⟨ret_i HR.out.symm, HB.out⟩
  have hr := lst_yes hst
  have HR := Lib.hid hr
  have HS := Lib.hid hst
  clear hr hst
  go_enter Tryz.func26, Tryz.ntmps26
  go_wp2_with fail
  have z0 := one_cell w (.slice A n c) 34
  have hb0 := new1 w (.cells #[.slice A n c] 34)
  have hs0 : (w.alloc (.cells #[.slice A n c] 34)).heap.size = w.heap.size + 1 := by simp
  generalize w.alloc _ = w0 at z0 hb0 hs0 ⊢
  refine (impl_store hn (H1.out.below (below_le hb0 hB)) (by omega)).mono ?_
  rintro e W1 ⟨rfl, hb⟩
  rw [HS.out]
  have c0 := (hb.cell (p := ⟨w.heap.size, 0, none⟩) (by simp; omega)).trans z0
  have HB : Hid (Below w.heap.size w W1) := Lib.hid (hb0.trans (hb.mono (by omega)))
  have hs1 := hb.size
  clear hb hb0 z0
  go_wp2_with fail
  clear c0
  go_loopw [3, 14] (fun x i wr => ∃ k : Nat, k ≤ n ∧ i = .int .i64 k ∧ x = .int .i64 (mxS (ll.take k)) ∧ Below w.heap.size w wr) (fun _ i _ => n - (intOf i).toNat)
  case atStart => exact ⟨0, by omega, rfl, rfl, HB.out⟩
  case round =>
    obtain ⟨k, hk, rfl, rfl, hb⟩ := hrel
    by_cases hlt : k < n
    · obtain ⟨b, o, l, A', n', c', rfl, hbB, hx, hcell, hn', hv⟩ := (H1.out.below (below_le hb hB)).at_ hlt
      have HX := Lib.hid hx
      have HV := Lib.hid hv
      have HB2 := Lib.hid hb
      have hl1 := hv.1
      clear hb hx hv
      obtain ⟨m, hm⟩ : ∃ m, mxS (ll.take k) = m := ⟨_, rfl⟩
      rw [hm]
      go_wp2_with fail
      go_loopw [3, 20] (fun x i w2 => ∃ j : Nat, j ≤ n' ∧ i = .int .i64 j ∧ x = .int .i64 (mxL m (l.take j)) ∧ Below wr.heap.size wr w2) (fun _ i _ => n' - (intOf i).toNat)
      case atStart => exact ⟨0, by omega, rfl, rfl, Below.refl _ _⟩
      case round =>
        obtain ⟨j, hj, rfl, rfl, hb⟩ := hrel
        by_cases hlj : j < n'
        · obtain ⟨b2, o2, v, rfl, hb2, hvx, a0, a1, a2, a3, a4⟩ := (HV.out.below (below_le hb (Nat.le_trans hB HB2.out.size))).at_ hlj
          have HVX := Lib.hid hvx
          have HB3 := Lib.hid hb
          clear hb hvx
          obtain ⟨y, hy⟩ : ∃ y, mxL m (l.take j) = y := ⟨_, rfl⟩
          rw [hy]
          have hmx := max3 y v.c v.d
          go_wp2_with fail
          go_roundw
          case rel => exact ⟨j + 1, by omega, by go_num, iv (by rw [mx_step HVX.out, hy]; unfold mxV; omega), HB3.out.alloc HB3.out.size _⟩
          case measure => simp [intOf]; omega
        · obtain rfl : j = n' := by omega
          have HB3 := Lib.hid hb
          clear hb
          go_wp2_with fail
          go_roundw
          case rel => exact ⟨k + 1, by omega, by go_num, iv (by rw [mx_row HX.out, hm, mx_all hl1]), HB2.out.trans (HB3.out.mono HB2.out.size)⟩
          case measure => simp [intOf]; omega
    · obtain rfl : k = n := by omega
      have HB2 := Lib.hid hb
      have ha := mxS_all hln
      rw [ha]
      clear hb
      go_wp2_with fail
      go_ret
      exact ⟨ret_i HR.out.symm, HB2.out⟩
set_option maxRecDepth 100000 in
set_option maxHeartbeats 1600000 in
theorem spec_last {w : World} {B n c : Nat} {A : Option Addr} {ll : List (List Ver)} (hn : n ≤ 140737488355328) (h1 : Rs w B A n ll) (hB : B ≤ w.heap.size) :
    Calls Tryz.prog 17 #[.agg #[.slice A n c]] w fun e w' => e = .returned (.int .i64 (lstS ll)) ∧ Below w.heap.size w w' := by
  have H1 := Lib.hid h1
  have hln := h1.1
  clear h1
  rcases hst : stB ll with _ | _
  · have hr := lst_no hst
    have HR := Lib.hid hr
    have HS := Lib.hid hst
    clear hr hst
    go_enter Tryz.func17, Tryz.ntmps17
    go_wp2
    have z0 := one_cell w (.slice A n c) 34
    have hb0 := new1 w (.cells #[.slice A n c] 34)
    have hs0 : (w.alloc (.cells #[.slice A n c] 34)).heap.size = w.heap.size + 1 := by simp
    generalize w.alloc _ = w0 at z0 hb0 hs0 ⊢
    have HB0 := Lib.hid hb0
    clear hb0
    go_loopw [3, 4] (fun x i wr => x = .int .i64 0 ∧ i = .int .i64 0 ∧ w0 = wr) (fun _ _ _ => 0)
    case atStart => exact ⟨rfl, rfl, rfl⟩
    case round =>
      obtain ⟨rfl, rfl, rfl⟩ := hrel
      by_cases h0 : 0 < n
      · have t : decide (0 < n) = true := decide_eq_true h0
        have t2 : decide ((0 : Int) < (n : Int)) = true := decide_eq_true (by omega)
        go_wp2_with fail
        refine (spec_store hn (H1.out.below (below_le HB0.out hB)) (by omega)).mono ?_
        rintro e W1 ⟨rfl, hb⟩
        rw [HS.out]
        have HB1 : Hid (Below w.heap.size w W1) := Lib.hid (HB0.out.trans (hb.mono (by omega)))
        clear hb
        go_wp2_with fail
        go_ret
        exact ⟨ret_i HR.out.symm, HB1.out⟩
      · have t : decide (0 < n) = false := decide_eq_false h0
        have t2 : decide ((0 : Int) < (n : Int)) = false := decide_eq_false (by omega)
        go_wp2_with fail
        go_ret
        exact ⟨ret_i HR.out.symm, HB0.out⟩
  have hr := lst_yes hst
  have HR := Lib.hid hr
  have HS := Lib.hid hst
  clear hr hst
  go_enter Tryz.func17, Tryz.ntmps17
  go_wp2
  have z0 := one_cell w (.slice A n c) 34
  have hb0 := new1 w (.cells #[.slice A n c] 34)
  have hs0 : (w.alloc (.cells #[.slice A n c] 34)).heap.size = w.heap.size + 1 := by simp
  generalize w.alloc _ = w0 at z0 hb0 hs0 ⊢
  have HB0 := Lib.hid hb0
  have Z0 := Lib.hid z0
  clear hb0 z0
  go_loopw [3, 4] (fun x i wr => ∃ k : Nat, k ≤ n ∧ i = .int .i64 k ∧ x = .int .i64 (mxS (ll.take k)) ∧ Below w0.heap.size w0 wr) (fun _ i _ => n - (intOf i).toNat)
  case atStart => exact ⟨0, by omega, rfl, rfl, Below.refl _ _⟩
  case round =>
    obtain ⟨k, hk, rfl, rfl, hb⟩ := hrel
    have c0 := (hb.cell (p := ⟨w.heap.size, 0, none⟩) (by simp; omega)).trans Z0.out
    have hbw := HB0.out.trans (hb.mono (by omega))
    have hs1 := hb.size
    have HB := Lib.hid hb
    by_cases hlt : k < n
    · have t : decide (k < n) = true := decide_eq_true hlt
      have t2 : decide ((k : Int) < (n : Int)) = true := decide_eq_true (by omega)
      obtain ⟨m, hm⟩ : ∃ m, mxS (ll.take k) = m := ⟨_, rfl⟩
      rw [hm]
      clear hb
      go_wp2_with fail
      refine (spec_store hn (H1.out.below (below_le hbw hB)) (by omega)).mono ?_
      rintro e W1 ⟨rfl, hb⟩
      rw [HS.out]
      have hb1 := HB.out.trans (hb.mono HB.out.size)
      have HB1 := Lib.hid hb1
      have hs2 := hb1.size
      have hbw1 := HB0.out.trans (hb1.mono (by omega))
      have HBw1 := Lib.hid hbw1
      obtain ⟨b, o, l, A', n', c', rfl, hbB, hx, hcell, hn', hv⟩ := (H1.out.below (below_le hbw1 hB)).at_ hlt
      have HX := Lib.hid hx
      have HV := Lib.hid hv
      have HC := Lib.hid hcell
      have hl1 := hv.1
      clear hb hb1 hbw hbw1 hx hv c0 hcell
      go_wp2_with fail
      go_loopw [3, 5] (fun x i w2 => ∃ j : Nat, j ≤ n' ∧ i = .int .i64 j ∧ x = .int .i64 (mxL m (l.take j)) ∧ Below W1.heap.size W1 w2) (fun _ i _ => n' - (intOf i).toNat)
      case atStart => exact ⟨0, by omega, rfl, rfl, Below.refl _ _⟩
      case round =>
        obtain ⟨j, hj, rfl, rfl, hb⟩ := hrel
        have hb2 := HB1.out.trans (hb.mono HB1.out.size)
        have c0 := (hb2.cell (p := ⟨w.heap.size, 0, none⟩) (by simp; omega)).trans Z0.out
        have c1 := (hb.cell (p := ⟨b, o + k, none⟩) (by simp; omega)).trans HC.out
        have HB3 := Lib.hid hb
        by_cases hlj : j < n'
        · obtain ⟨b2, o2, v, rfl, hb2', hvx, a0, a1, a2, a3, a4⟩ := (HV.out.below (below_le hb (by omega))).at_ hlj
          have HVX := Lib.hid hvx
          clear hb hb2 hvx
          obtain ⟨y, hy⟩ : ∃ y, mxL m (l.take j) = y := ⟨_, rfl⟩
          rw [hy]
          have hmx := max3 y v.c v.d
          go_wp2_with fail
          go_quiet (fail)
          go_wp2_with fail
          go_roundw
          case rel => exact ⟨j + 1, by omega, by go_num, iv (by rw [mx_step HVX.out, hy]; unfold mxV; omega), bdrewN HB3.out _⟩
          case measure => simp [intOf]; omega
        · obtain rfl : j = n' := by omega
          clear hb hb2
          go_wp2_with fail
          go_roundw
          case rel => exact ⟨k + 1, by omega, by go_num, iv (by rw [mx_row HX.out, hm, mx_all hl1]), HB1.out.trans (HB3.out.mono HB1.out.size)⟩
          case measure => simp [intOf]; omega
    · obtain rfl : k = n := by omega
      have t : decide (k < k) = false := decide_eq_false (by omega)
      have t2 : decide ((k : Int) < (k : Int)) = false := decide_eq_false (by omega)
      have ha := mxS_all hln
      have HBW := Lib.hid hbw
      rw [ha]
      clear hb hbw
      go_wp2_with fail
      go_ret
      exact ⟨ret_i HR.out.symm, HBW.out⟩
end Go.Proofs.YtjnlbhmddhpmaaaGreat.last
