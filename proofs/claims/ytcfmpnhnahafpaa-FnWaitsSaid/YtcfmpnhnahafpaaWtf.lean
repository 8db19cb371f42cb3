/- slices.BinarySearchFunc at waits and findWait: the place of an ID in a rising list of waits, and whether it is there. -/
import Derived.Test.YtcfmpnhnahafpaaWta
import Derived.Test.YtcfmpnhnahafpaaCm
import Derived.Shelf.Abstract
namespace Go.Proofs.Ytcfmpnhnahafpaa.wtf
open Go.ChangeShapes Go.WideShapes Go.ChangeAt Go.RowKit
open Go.Proofs.Ytcfmpnhnahafpaa.el2 Go.Proofs.Ytcfmpnhnahafpaa.seq Go.Proofs.Ytcfmpnhnahafpaa.pw Go.Proofs.Ytcfmpnhnahafpaa.mw Go.Proofs.Ytcfmpnhnahafpaa.wt Go.Proofs.Ytcfmpnhnahafpaa.cm
set_option linter.unusedVariables false
set_option linter.unusedSimpArgs false
def hitW (key : Int) (l : List E2) : Bool := decide ((l[posW key l]?).map (·.a) = some key)
theorem frontW {l : List E2} {key : Int} {h : Nat} {x : E2} (hs : Asc l) (hx : l[h]? = some x) (hf : x.a < key) : ∀ (j : Nat) (y : E2), j < h + 1 → l[j]? = some y → y.a < key := by
  intro j y hj hy
  rcases Nat.lt_or_ge j h with h1 | h1
  · have hh := lt_get hx
    have hjl := lt_get hy
    have := (List.pairwise_iff_getElem.1 hs) j h hjl hh h1
    rw [List.getElem?_eq_getElem hh] at hx
    rw [List.getElem?_eq_getElem hjl] at hy
    injection hx with hx
    injection hy with hy
    rw [hx, hy] at this
    omega
  · obtain rfl : j = h := by omega
    rw [hx] at hy
    injection hy with hy
    rw [← hy]; exact hf
/-- the search by halves: below i all is in front, from j on nothing is -/
def HalfW (l : List E2) (key : Int) (i j : Nat) : Prop := i ≤ j ∧ j ≤ l.length ∧ (∀ (k : Nat) (x : E2), k < i → l[k]? = some x → x.a < key) ∧ (∀ x, l[j]? = some x → ¬ x.a < key)
theorem halfw_start (l : List E2) (key : Int) : HalfW l key 0 l.length := ⟨by omega, Nat.le_refl _, fun k x h => absurd h (by omega), fun x h => by simp at h⟩
theorem halfw_up {l : List E2} {key : Int} {x : E2} {i j h : Nat} (hs : Asc l) (H : HalfW l key i j) (h1 : h < j) (hx : l[h]? = some x) (hf : x.a < key) : HalfW l key (h + 1) j := ⟨by omega, H.2.1, frontW hs hx hf, H.2.2.2⟩
theorem halfw_down {l : List E2} {key : Int} {x : E2} {i j h : Nat} (H : HalfW l key i j) (h1 : i ≤ h) (h2 : h < j) (hx : l[h]? = some x) (hf : ¬ x.a < key) : HalfW l key i h := ⟨h1, by have := H.2.1; omega, H.2.2.1, fun y hy => by rw [hx] at hy; cases hy; exact hf⟩
theorem halfw_end {l : List E2} {key : Int} {i j : Nat} (H : HalfW l key i j) (h : ¬ i < j) : posW key l = i := by
  have : i = j := by have := H.1; omega
  subst this
  exact posW_is l i (fun k x hk hx => decide_eq_true (H.2.2.1 k x hk hx)) H.2.1 H.2.2.2
theorem hit_yes {l : List E2} {key : Int} {p : Nat} {y : E2} (hp : posW key l = p) (hy : l[p]? = some y) (h : y.a = key) : true = hitW key l := by
  unfold hitW
  rw [hp, hy]
  exact (decide_eq_true (by simp [h])).symm
theorem hit_no {l : List E2} {key : Int} {p : Nat} {y : E2} (hp : posW key l = p) (hy : l[p]? = some y) (h : y.a ≠ key) : false = hitW key l := by
  unfold hitW
  rw [hp, hy]
  exact (decide_eq_false (by simpa using h)).symm
theorem hit_end {l : List E2} {key : Int} {p : Nat} (hp : posW key l = p) (hy : l[p]? = none) : false = hitW key l := by
  unfold hitW
  rw [hp, hy]
  exact (decide_eq_false (by simp)).symm
theorem cmp_neg {a b : Int} (h : a < b) : cmpI a b < 0 := by rw [cmpI_lt h]; omega
theorem cmp_pos {a b : Int} (h : ¬ a < b) : ¬ cmpI a b < 0 := by rcases cmpI_cases a b with ⟨h', e⟩ | ⟨_, e⟩ | ⟨_, e⟩ <;> rw [e] <;> omega
theorem cmp_zero {a b : Int} (h : a = b) : cmpI a b = 0 := cmpI_eq h
theorem cmp_non {a b : Int} (h : a ≠ b) : cmpI a b ≠ 0 := by rcases cmpI_cases a b with ⟨h', e⟩ | ⟨h', e⟩ | ⟨h', e⟩ <;> rw [e] <;> omega
theorem enters_cw : ∀ (args : Array Value) (w : World), (callFunc 48 args).run Try.prog w = .ok (.enter 48 args) w := enters_of Try.func48 (by kernel_rfl) rfl
theorem ret_pb {a a' : Int} {b b' : Bool} (h : a = a') (h2 : b = b') : Ending.returned (.tuple #[.int .i64 a, .bool b]) = .returned (.tuple #[.int .i64 a', .bool b']) := by rw [h, h2]
theorem compare_w (x : E2) (key : Int) (w : World) :
    Calls Try.prog 48 #[.agg #[.int .i64 x.a, .int .i64 x.b], .int .i64 key] w fun e w' => e = .returned (.int .i64 (cmpI x.a key)) ∧ Below w.heap.size w w' := by
  have hn0 := new1 w (.cells #[.int .i64 x.a, .int .i64 x.b] 36)
  obtain ⟨z0, z1⟩ := atFlat (boxed w x 36)
  go_enter Try.func48, Try.ntmps48
  go_wp2_with fail
  refine (compare_int x.a key _).mono ?_
  rintro e W1 ⟨rfl, rfl⟩
  go_wp2_with fail
  go_ret
  exact ⟨rfl, hn0⟩
set_option maxRecDepth 100000 in
set_option maxHeartbeats 1600000 in
theorem lib_bsearch {w : World} {B n c : Nat} {A : Option Addr} {l : List E2} (key : Int) (hn : n ≤ 2097152) (h1 : Vs w B A n l) (hB : B ≤ w.heap.size) (hs : Asc l) :
    Calls Try.prog 47 #[.slice A n c, .int .i64 key, .func (.func 48) #[] #[]] w fun e w' => e = .returned (.tuple #[.int .i64 (posW key l : Nat), .bool (hitW key l)]) ∧ Below w.heap.size w w' := by
  have H1 := Lib.hid h1
  have hln := h1.1
  have HS := Lib.hid hs
  have eg := enters_cw
  clear h1 hs
  go_enter Try.func47, Try.ntmps47
  go_wp2_with fail
  go_loopw [9, 10, 11] (fun i j _ wr => ∃ a b : Nat, i = .int .i64 a ∧ j = .int .i64 b ∧ HalfW l key a b ∧ Below w.heap.size w wr) (fun i j _ _ => (intOf j).toNat - (intOf i).toNat)
  case atStart => exact ⟨0, n, rfl, rfl, by rw [← hln]; exact halfw_start l key, Below.refl _ _⟩
  case round =>
    obtain ⟨p, q, rfl, rfl, hH, hb⟩ := hrel
    have HH := Lib.hid hH
    have HB := Lib.hid hb
    have hq := hH.2.1
    clear hH
    by_cases hlt : p < q
    · obtain ⟨b, o, y, rfl, hbB, hx, a0, a1⟩ := (H1.out.below (below_le hb hB)).at_ (k := (p + q) / 2) (by omega)
      have HX := Lib.hid hx
      clear hb hx
      have i1 : (0 : Int) ≤ ((p : Int) + (q : Int)) / 2 := by omega
      have i2 : ((p : Int) + (q : Int)) / 2 < (n : Int) := by omega
      have i3 : (((p : Int) + (q : Int)) / 2).toNat = (p + q) / 2 := by omega
      obtain ⟨z, hz⟩ : ∃ z, cmpI y.a key = z := ⟨_, rfl⟩
      have HZ := Lib.hid hz
      clear hz
      by_cases hc : y.a < key
      · have HF := Lib.hid hc
        have t : decide (z < 0) = true := decide_eq_true (by rw [← HZ.out]; exact cmp_neg hc)
        clear hc
        go_wp2_with fail
        refine (compare_w y key _).mono ?_
        rintro e W1 ⟨he, hb'⟩
        rw [HZ.out] at he
        subst he
        have B1 := Lib.hid (HB.out.trans (hb'.mono HB.out.size))
        clear hb' a0 a1
        go_wp2_with fail
        go_roundw
        case rel => exact ⟨(p + q) / 2 + 1, q, by go_num, rfl, halfw_up HS.out HH.out (by omega) HX.out HF.out, B1.out⟩
        case measure => simp [intOf]; omega
      · have HF := Lib.hid hc
        have t : decide (z < 0) = false := decide_eq_false (by rw [← HZ.out]; exact cmp_pos hc)
        clear hc
        go_wp2_with fail
        refine (compare_w y key _).mono ?_
        rintro e W1 ⟨he, hb'⟩
        rw [HZ.out] at he
        subst he
        have B1 := Lib.hid (HB.out.trans (hb'.mono HB.out.size))
        clear hb' a0 a1
        go_wp2_with fail
        go_roundw
        case rel => exact ⟨p, (p + q) / 2, rfl, by go_num, halfw_down HH.out (by omega) (by omega) HX.out (by have := HF.out; omega), B1.out⟩
        case measure => simp [intOf]; omega
    · have HP := Lib.hid (halfw_end HH.out hlt)
      by_cases hpn : p < n
      · obtain ⟨b, o, y, rfl, hbB, hx, a0, a1⟩ := (H1.out.below (below_le hb hB)).at_ hpn
        have HX := Lib.hid hx
        clear hb hx
        obtain ⟨z, hz⟩ : ∃ z, cmpI y.a key = z := ⟨_, rfl⟩
        have HZ := Lib.hid hz
        have tg : decide ((p : Int) < (n : Int)) = true := decide_eq_true (by omega)
        have hi : p < n ∧ (p : Int) < n := ⟨hpn, by omega⟩
        clear hz
        by_cases h0 : y.a = key
        · have HXM := Lib.hid h0
          have t : (z == 0) = true := by simpa using (HZ.out.symm.trans (cmp_zero h0))
          clear h0
          go_wp2_with fail
          refine (compare_w y key _).mono ?_
          rintro e W1 ⟨he, hb'⟩
          rw [HZ.out] at he
          subst he
          have B1 := Lib.hid (HB.out.trans (hb'.mono HB.out.size))
          clear hb' a0 a1
          go_wp2_with fail
          go_ret2
          exact ⟨ret_pb (by rw [HP.out]) (hit_yes HP.out HX.out HXM.out), B1.out⟩
        · have HXM := Lib.hid h0
          have t : (z == 0) = false := by simpa using (fun e : z = 0 => cmp_non h0 (HZ.out.trans e))
          clear h0
          go_wp2_with fail
          refine (compare_w y key _).mono ?_
          rintro e W1 ⟨he, hb'⟩
          rw [HZ.out] at he
          subst he
          have B1 := Lib.hid (HB.out.trans (hb'.mono HB.out.size))
          clear hb' a0 a1
          go_wp2_with fail
          go_ret2
          exact ⟨ret_pb (by rw [HP.out]) (hit_no HP.out HX.out HXM.out), B1.out⟩
      · have tg : decide ((p : Int) < (n : Int)) = false := decide_eq_false (by omega)
        have hpn2 : ¬ ((p : Int) < (n : Int)) := by omega
        have hN : Hid (l[p]? = none) := Lib.hid (List.getElem?_eq_none (by omega))
        clear hb
        go_wp2_with fail
        go_ret2
        exact ⟨ret_pb (by rw [HP.out]) (hit_end HP.out hN.out), HB.out⟩
theorem find_w {w : World} {B n c : Nat} {A : Option Addr} {l : List E2} (key : Int) (hn : n ≤ 2097152) (h1 : Vs w B A n l) (hB : B ≤ w.heap.size) (hs : Asc l) :
    Calls Try.prog 35 #[.slice A n c, .int .i64 key] w fun e w' => e = .returned (.tuple #[.int .i64 (posW key l : Nat), .bool (hitW key l)]) ∧ Below w.heap.size w w' := by
  have HF := Lib.hid (lib_bsearch (c := c) key hn h1 hB hs)
  clear h1 hs
  go_enter Try.func35, Try.ntmps35
  go_wp2_with fail
  refine HF.out.mono ?_
  rintro e W1 ⟨rfl, hb⟩
  have HB := Lib.hid hb
  clear hb
  obtain ⟨p, hp⟩ : ∃ p, posW key l = p := ⟨_, rfl⟩
  obtain ⟨q, hq⟩ : ∃ q, hitW key l = q := ⟨_, rfl⟩
  have HP := Lib.hid hp
  have HQ := Lib.hid hq
  rw [hp, hq]
  clear hp hq
  go_wp2_with fail
  go_ret2
  exact ⟨ret_pb (by rw [HP.out]) HQ.out.symm, HB.out⟩
end Go.Proofs.Ytcfmpnhnahafpaa.wtf
