/- slices.BinarySearchFunc at the program's compareReads: the place of a mark in an ordered list, and whether it is there. -/
import Derived.Test.YtajllccgfhminaaIns
import Derived.Test.YtajllccgfhminaaTf
import Derived.Test.YtajllccgfhminaaCm
import Derived.Shelf.Abstract
namespace Go.Proofs.Ytajllccgfhminaa.bs
open Go.ChangeShapes Go.WideShapes Go.ChangeAt Go.RowKit
open Go.Proofs.Ytajllccgfhminaa.el2 Go.Proofs.Ytajllccgfhminaa.tx Go.Proofs.Ytajllccgfhminaa.seq Go.Proofs.Ytajllccgfhminaa.tv Go.Proofs.Ytajllccgfhminaa.tf Go.Proofs.Ytajllccgfhminaa.cm Go.Proofs.Ytajllccgfhminaa.ins
set_option linter.unusedVariables false
set_option linter.unusedSimpArgs false
theorem enters_cmp : ∀ (args : Array Value) (w : World), (callFunc 110 args).run Try.prog w = .ok (.enter 110 args) w := enters_of Try.func110 (by kernel_rfl) rfl
theorem ret_pb {a a' : Int} {b b' : Bool} (h : a = a') (h2 : b = b') : Ending.returned (.tuple #[.int .i64 a, .bool b]) = .returned (.tuple #[.int .i64 a', .bool b']) := by rw [h, h2]
set_option maxRecDepth 100000 in
set_option maxHeartbeats 1600000 in
theorem lib_bsearch {w : World} {B n c : Nat} {A : Option Addr} {l : List E2} (m : E2) (hn : n ≤ 2097152) (h1 : Vs w B A n l) (hB : B ≤ w.heap.size) (hs : SqP okR folR l) :
    Calls Try.prog 109 #[.slice A n c, .agg #[.int .i64 m.a, .int .i64 m.b], .func (.func 110) #[] #[]] w fun e w' => e = .returned (.tuple #[.int .i64 (posR m l : Nat), .bool (decide (l[posR m l]? = some m))]) ∧ Below w.heap.size w w' := by
  have H1 := Lib.hid h1
  have hln := h1.1
  have HS := Lib.hid hs
  have eg := enters_cmp
  clear h1 hs
  go_enter Try.func109, Try.ntmps109
  go_wp2_with fail
  have hb := new1 w (.cells #[.int .i64 m.a, .int .i64 m.b] 37)
  have mb := boxed w m 37
  have hs0 : w.heap.size < (w.alloc (.cells #[.int .i64 m.a, .int .i64 m.b] 37)).heap.size := by simp
  generalize w.alloc _ = W0 at hb mb hs0 ⊢
  go_loopw [9, 10, 11] (fun i j _ wr => ∃ a b : Nat, i = .int .i64 a ∧ j = .int .i64 b ∧ Half l m a b ∧ Below w.heap.size w wr ∧ At wr w.heap.size 0 m ∧ w.heap.size < wr.heap.size) (fun i j _ _ => (intOf j).toNat - (intOf i).toNat)
  case atStart => exact ⟨0, n, rfl, rfl, by rw [← hln]; exact half_start l m, hb, mb, hs0⟩
  case round =>
    clear hb mb hs0
    obtain ⟨p, q, rfl, rfl, hH, hb, mb, hsz⟩ := hrel
    have HH := Lib.hid hH
    have HB := Lib.hid hb
    have MW := Lib.hid mb
    obtain ⟨m0, m1⟩ := atFlat mb
    have hq := hH.2.1
    clear hH mb
    by_cases hlt : p < q
    · obtain ⟨b, o, y, rfl, hbB, hx, a0, a1⟩ := (H1.out.below (below_le hb hB)).at_ (k := (p + q) / 2) (by omega)
      have HX := Lib.hid hx
      clear hb hx
      by_cases hc : cmpR y m < 0
      · have HF := Lib.hid (fol_neg hc)
        obtain ⟨z, hz⟩ : ∃ z, cmpR y m = z := ⟨_, rfl⟩
        rw [hz] at hc
        have HZ := Lib.hid hz
        have t : decide (z < 0) = true := decide_eq_true hc
        clear hz
        go_wp2_with fail
        have YA : Hid (At wr b (o + (p + q) / 2 * 2) y) := Lib.hid ⟨a0, a1⟩
        have i1 : (0 : Int) ≤ ((p : Int) + (q : Int)) / 2 := by omega
        have i2 : ((p : Int) + (q : Int)) / 2 < (n : Int) := by omega
        have i3 : (((p : Int) + (q : Int)) / 2).toNat = (p + q) / 2 := by omega
        have hbk0 : Below wr.heap.size wr wr.drew := (Below.refl _ _).drew
        go_region_held3 (fun w' => w'.cell? ⟨w.heap.size, 0, none⟩ = some (.int .i64 m.a) ∧ w'.cell? ⟨w.heap.size, 1, none⟩ = some (.int .i64 m.b) ∧ w'.cell? ⟨b, o + (p + q) / 2 * 2, none⟩ = some (.int .i64 y.a) ∧ w'.cell? ⟨b, o + (p + q) / 2 * 2 + 1, none⟩ = some (.int .i64 y.b)) (go_keep) (first | (go_at_fn 110; (with_reducible refine (compare_reads y m _).mono ?_); rintro e W1 ⟨he, hb'⟩; rw [HZ.out] at he; subst he; have hbk1 := hbk0.trans (hb'.mono hbk0.size); have M1 := MW.out.keep hsz hbk1; have Y1 := YA.out.keep (show b < wr.heap.size by omega) hbk1; obtain ⟨c0, c1⟩ := atFlat M1; obtain ⟨e0, e1⟩ := Y1))
        have B1 := Lib.hid (HB.out.trans (hbk1.mono HB.out.size))
        have M2 := Lib.hid M1
        have hs1 : w.heap.size < W1.heap.size := Nat.lt_of_lt_of_le hsz hbk1.size
        clear hbk0 hbk1 hb' M1 c0 c1 e0 e1 a0 a1 m0 m1
        go_wp2_with fail
        go_roundw
        case rel => exact ⟨(p + q) / 2 + 1, q, by go_num, rfl, half_up HS.out HH.out (by omega) HX.out HF.out, B1.out, M2.out, hs1⟩
        case measure => simp [intOf]; omega
      · have HF := Lib.hid (fol_pos hc)
        obtain ⟨z, hz⟩ : ∃ z, cmpR y m = z := ⟨_, rfl⟩
        rw [hz] at hc
        have HZ := Lib.hid hz
        have t : decide (z < 0) = false := decide_eq_false hc
        clear hz
        go_wp2_with fail
        have YA : Hid (At wr b (o + (p + q) / 2 * 2) y) := Lib.hid ⟨a0, a1⟩
        have i1 : (0 : Int) ≤ ((p : Int) + (q : Int)) / 2 := by omega
        have i2 : ((p : Int) + (q : Int)) / 2 < (n : Int) := by omega
        have i3 : (((p : Int) + (q : Int)) / 2).toNat = (p + q) / 2 := by omega
        have hbk0 : Below wr.heap.size wr wr.drew := (Below.refl _ _).drew
        go_region_held3 (fun w' => w'.cell? ⟨w.heap.size, 0, none⟩ = some (.int .i64 m.a) ∧ w'.cell? ⟨w.heap.size, 1, none⟩ = some (.int .i64 m.b) ∧ w'.cell? ⟨b, o + (p + q) / 2 * 2, none⟩ = some (.int .i64 y.a) ∧ w'.cell? ⟨b, o + (p + q) / 2 * 2 + 1, none⟩ = some (.int .i64 y.b)) (go_keep) (first | (go_at_fn 110; (with_reducible refine (compare_reads y m _).mono ?_); rintro e W1 ⟨he, hb'⟩; rw [HZ.out] at he; subst he; have hbk1 := hbk0.trans (hb'.mono hbk0.size); have M1 := MW.out.keep hsz hbk1; have Y1 := YA.out.keep (show b < wr.heap.size by omega) hbk1; obtain ⟨c0, c1⟩ := atFlat M1; obtain ⟨e0, e1⟩ := Y1))
        have B1 := Lib.hid (HB.out.trans (hbk1.mono HB.out.size))
        have M2 := Lib.hid M1
        have hs1 : w.heap.size < W1.heap.size := Nat.lt_of_lt_of_le hsz hbk1.size
        clear hbk0 hbk1 hb' M1 c0 c1 e0 e1 a0 a1 m0 m1
        go_wp2_with fail
        go_roundw
        case rel => exact ⟨p, (p + q) / 2, rfl, by go_num, half_down HH.out (by omega) (by omega) HX.out HF.out, B1.out, M2.out, hs1⟩
        case measure => simp [intOf]; omega
    · have HP := Lib.hid (half_end HH.out hlt)
      by_cases hpn : p < n
      · obtain ⟨b, o, y, rfl, hbB, hx, a0, a1⟩ := (H1.out.below (below_le hb hB)).at_ hpn
        have HX := Lib.hid hx
        clear hb hx
        obtain ⟨z, hz⟩ : ∃ z, cmpR y m = z := ⟨_, rfl⟩
        have HZ := Lib.hid hz
        have tg : decide ((p : Int) < (n : Int)) = true := decide_eq_true (by omega)
        by_cases h0 : z = 0
        · have hxm : y = m := cmp_eq (by rw [hz]; exact h0)
          have HXM := Lib.hid hxm
          have t : (z == 0) = true := by simpa using h0
          have hi : p < n ∧ (p : Int) < n := ⟨hpn, by omega⟩
          clear hz h0 hxm
          go_wp2_with fail
          have YA : Hid (At wr b (o + p * 2) y) := Lib.hid ⟨a0, a1⟩
          have hbk0 : Below wr.heap.size wr wr.drew := (Below.refl _ _).drew
          go_region_held3 (fun w' => w'.cell? ⟨w.heap.size, 0, none⟩ = some (.int .i64 m.a) ∧ w'.cell? ⟨w.heap.size, 1, none⟩ = some (.int .i64 m.b) ∧ w'.cell? ⟨b, o + p * 2, none⟩ = some (.int .i64 y.a) ∧ w'.cell? ⟨b, o + p * 2 + 1, none⟩ = some (.int .i64 y.b)) (go_keep) (first | (go_at_fn 110; (with_reducible refine (compare_reads y m _).mono ?_); rintro e W1 ⟨he, hb'⟩; rw [HZ.out] at he; subst he; have hbk1 := hbk0.trans (hb'.mono hbk0.size); have M1 := MW.out.keep hsz hbk1; have Y1 := YA.out.keep (show b < wr.heap.size by omega) hbk1; obtain ⟨c0, c1⟩ := atFlat M1; obtain ⟨e0, e1⟩ := Y1))
          have B1 := Lib.hid (HB.out.trans (hbk1.mono HB.out.size))
          clear hbk0 hbk1 hb' M1 c0 c1 e0 e1 a0 a1 m0 m1
          go_wp2_with fail
          go_ret2
          exact ⟨ret_pb (by rw [HP.out]) (by rw [HP.out, HX.out, HXM.out]; simp), B1.out⟩
        · have hxm : y ≠ m := cmp_ne (by rw [hz]; exact h0)
          have HXM := Lib.hid hxm
          have t : (z == 0) = false := by simpa using h0
          clear hz h0 hxm
          go_wp2_with fail
          have YA : Hid (At wr b (o + p * 2) y) := Lib.hid ⟨a0, a1⟩
          have hbk0 : Below wr.heap.size wr wr.drew := (Below.refl _ _).drew
          go_region_held3 (fun w' => w'.cell? ⟨w.heap.size, 0, none⟩ = some (.int .i64 m.a) ∧ w'.cell? ⟨w.heap.size, 1, none⟩ = some (.int .i64 m.b) ∧ w'.cell? ⟨b, o + p * 2, none⟩ = some (.int .i64 y.a) ∧ w'.cell? ⟨b, o + p * 2 + 1, none⟩ = some (.int .i64 y.b)) (go_keep) (first | (go_at_fn 110; (with_reducible refine (compare_reads y m _).mono ?_); rintro e W1 ⟨he, hb'⟩; rw [HZ.out] at he; subst he; have hbk1 := hbk0.trans (hb'.mono hbk0.size); have M1 := MW.out.keep hsz hbk1; have Y1 := YA.out.keep (show b < wr.heap.size by omega) hbk1; obtain ⟨c0, c1⟩ := atFlat M1; obtain ⟨e0, e1⟩ := Y1))
          have B1 := Lib.hid (HB.out.trans (hbk1.mono HB.out.size))
          clear hbk0 hbk1 hb' M1 c0 c1 e0 e1 a0 a1 m0 m1
          go_wp2_with fail
          go_ret2
          exact ⟨ret_pb (by rw [HP.out]) (by rw [HP.out, HX.out]; simp [HXM.out]), B1.out⟩
      · have tg : decide ((p : Int) < (n : Int)) = false := decide_eq_false (by omega)
        have hpn2 : ¬ ((p : Int) < (n : Int)) := by omega
        have hN : Hid (l[p]? = none) := Lib.hid (List.getElem?_eq_none (by omega))
        clear hb
        go_wp2_with fail
        go_quiet (fail)
        go_wp2_with fail
        go_ret2
        exact ⟨ret_pb (by rw [HP.out]) (by rw [HP.out, hN.out]; simp), Off1 HB.out _⟩
end Go.Proofs.Ytajllccgfhminaa.bs
