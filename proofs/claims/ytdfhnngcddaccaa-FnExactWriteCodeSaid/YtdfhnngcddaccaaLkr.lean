/- LockOwner and LocksOf of the program and of the model: what each answers. -/
import Derived.Test.YtdfhnngcddaccaaLk
import Derived.Test.YtdfhnngcddaccaaOwi
import Derived.Test.YtdfhnngcddaccaaWk
namespace Go.Proofs.Ytdfhnngcddaccaa.lkr
open Go.ChangeShapes Go.WideShapes Go.ChangeAt Go.RowKit
open Go.Proofs.Ytdfhnngcddaccaa.el2 Go.Proofs.Ytdfhnngcddaccaa.seq Go.Proofs.Ytdfhnngcddaccaa.lk Go.Proofs.Ytdfhnngcddaccaa.owi
open Go.Proofs.Ytdfhnngcddaccaa.tf (drop_cons)
open Go.Proofs.Ytdfhnngcddaccaa.wk (own_made0 grown_i)
set_option linter.unusedVariables false
set_option linter.unusedSimpArgs false
theorem ret_i {a b : Int} (h : a = b) : Ending.returned (.int .i64 a) = .returned (.int .i64 b) := by rw [h]
theorem own_hit {l : List E2} {key : Int} {k : Nat} {x : E2} (h : ownI key l = ownI key (l.drop k)) (hx : l[k]? = some x) (hc : x.a = key) : x.b = ownI key l := by
  rw [h, drop_cons hx]
  simp [ownI, hc]
theorem own_step {l : List E2} {key : Int} {k : Nat} {x : E2} (h : ownI key l = ownI key (l.drop k)) (hx : l[k]? = some x) (hc : x.a ≠ key) : ownI key l = ownI key (l.drop (k + 1)) := by
  rw [h, drop_cons hx]
  simp [ownI, hc]
theorem own_end {l : List E2} {key : Int} {k : Nat} (h : ownI key l = ownI key (l.drop k)) (hk : l.length ≤ k) : (0 : Int) = ownI key l := by
  rw [h, List.drop_eq_nil_of_le hk]
  rfl
set_option maxRecDepth 100000 in
set_option maxHeartbeats 1600000 in
theorem spec_owner {w : World} {B n c : Nat} {A : Option Addr} {l : List E2} (key : Int) (hn : n ≤ 140737488355328) (h1 : Vs w B A n l) (hB : B ≤ w.heap.size) :
    Calls Try.prog 46 #[.slice A n c, .int .i64 key] w fun e w' => e = .returned (.int .i64 (ownI key l)) ∧ w = w' := by
  have H1 := Lib.hid h1
  have hln := h1.1
  clear h1
  go_enter Try.func46, Try.ntmps46
  go_wp2
  go_loop [5] (fun i => ∃ k : Nat, k ≤ n ∧ i = .int .i64 k ∧ ownI key l = ownI key (l.drop k)) (fun i => n - (intOf i).toNat)
  case atStart => exact ⟨0, by omega, rfl, rfl⟩
  case round =>
    obtain ⟨k, hk, rfl, hP⟩ := hrel
    have HP := Lib.hid hP
    clear hP
    by_cases hlt : k < n
    · obtain ⟨b, o, y, rfl, hbB, hx, a0, a1⟩ := H1.out.at_ hlt
      have HX := Lib.hid hx
      clear hx
      by_cases hc : y.a = key
      · have t : (y.a == key) = true := by simpa using hc
        have HC := Lib.hid hc
        clear hc
        go_wp2_with fail
        go_ret
        exact ⟨ret_i (own_hit HP.out HX.out HC.out), rfl⟩
      · have t : (y.a == key) = false := by simpa using hc
        have HC := Lib.hid hc
        clear hc
        go_wp2_with fail
        go_round
        case rel => exact ⟨k + 1, by omega, by go_num, own_step HP.out HX.out HC.out⟩
        case measure => simp [intOf]; omega
    · go_wp2_with fail
      go_ret
      exact ⟨ret_i (own_end HP.out (by omega)), rfl⟩
set_option maxRecDepth 100000 in
set_option maxHeartbeats 1600000 in
theorem impl_owner {w : World} {B n c : Nat} {A : Option Addr} {l : List E2} (key : Int) (hn : n ≤ 140737488355328) (h1 : Vs w B A n l) (hB : B ≤ w.heap.size) :
    Calls Try.prog 44 #[.slice A n c, .int .i64 key] w fun e w' => e = .returned (.int .i64 (ownI key l)) ∧ Below w.heap.size w w' := by
  have H1 := Lib.hid h1
  have hln := h1.1
  clear h1
  go_enter Try.func44, Try.ntmps44
  go_wp2
  go_loopw [9] (fun i wr => ∃ k : Nat, k ≤ n ∧ i = .int .i64 k ∧ ownI key l = ownI key (l.drop k) ∧ Below w.heap.size w wr) (fun i _ => n - (intOf i).toNat)
  case atStart => exact ⟨0, by omega, rfl, rfl, Below.refl _ _⟩
  case round =>
    obtain ⟨k, hk, rfl, hP, hb⟩ := hrel
    have HP := Lib.hid hP
    clear hP
    have HB := Lib.hid hb
    by_cases hlt : k < n
    · obtain ⟨b, o, y, rfl, hbB, hx, a0, a1⟩ := (H1.out.below (below_le hb hB)).at_ hlt
      have HX := Lib.hid hx
      clear hb hx
      by_cases hc : y.a = key
      · have t : (y.a == key) = true := by simpa using hc
        have HC := Lib.hid hc
        clear hc
        go_wp2_with fail
        go_ret
        exact ⟨ret_i (own_hit HP.out HX.out HC.out), HB.out.alloc HB.out.size _⟩
      · have t : (y.a == key) = false := by simpa using hc
        have HC := Lib.hid hc
        clear hc
        go_wp2_with fail
        go_roundw
        case rel => exact ⟨k + 1, by omega, by go_num, own_step HP.out HX.out HC.out, HB.out.alloc HB.out.size _⟩
        case measure => simp [intOf]; omega
    · go_wp2_with fail
      go_ret
      exact ⟨ret_i (own_end HP.out (by omega)), HB.out⟩
theorem spec_owner_b {w : World} {B n c : Nat} {A : Option Addr} {l : List E2} (key : Int) (hn : n ≤ 140737488355328) (h1 : Vs w B A n l) (hB : B ≤ w.heap.size) :
    Calls Try.prog 46 #[.slice A n c, .int .i64 key] w fun e w' => e = .returned (.int .i64 (ownI key l)) ∧ Below w.heap.size w w' :=
  (spec_owner key hn h1 hB).mono fun e w' ⟨he, hw⟩ => ⟨he, by rw [← hw]; exact Below.refl _ _⟩
/-! the keys of an owner -/
theorem of_step {l : List E2} {o : Int} {k : Nat} {y : E2} (hx : l[k]? = some y) (h : y.b = o) : ofL o (l.take k) ++ [y.a] = ofL o (l.take (k + 1)) := by
  rw [List.take_add_one, hx]
  simp [ofL, List.filter_append, h]
theorem of_skip {l : List E2} {o : Int} {k : Nat} {y : E2} (hx : l[k]? = some y) (h : y.b ≠ o) : ofL o (l.take k) = ofL o (l.take (k + 1)) := by
  rw [List.take_add_one, hx]
  simp [ofL, List.filter_append, h]
theorem of_all {l : List E2} {o : Int} {n : Nat} (h : l.length = n) : ofL o (l.take n) = ofL o l := by rw [List.take_of_length_le (by omega)]
theorem of_small (o : Int) (l : List E2) (k : Nat) : (ofL o (l.take k)).length ≤ k := Nat.le_trans (of_len o _) (by rw [List.length_take]; omega)
end Go.Proofs.Ytdfhnngcddaccaa.lkr
