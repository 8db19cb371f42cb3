/- DecodeVarint of the model and of the program at every string: the same two numbers, and nothing that was there is written. -/
import Derived.Test.YtfjjpmpkjcopiaaEncVarint
import Derived.Test.YtfjjpmpkjcopiaaVal
import Derived.WalkKit
import Derived.ProofKit
import Derived.OpenShut
import Derived.ShutString
import Derived.ChangeOld
import Derived.Below
import Derived.Lib.Hide
import Derived.Deep.RegionWith
namespace Go.Proofs.Ytfjjpmpkjcopiaa.decVarint
open Go.ChangeShapes Go.WideShapes Go.ChangeAt Go.RowKit
open Go.ChangeMaps (open_string shut_string)
open Go.Proofs.Ytfjjpmpkjcopiaa.num Go.Proofs.Ytfjjpmpkjcopiaa.conv Go.Proofs.Ytfjjpmpkjcopiaa.var Go.Proofs.Ytfjjpmpkjcopiaa.encVarint Go.Proofs.Ytfjjpmpkjcopiaa.val
set_option linter.unusedVariables false
set_option maxRecDepth 100000 in
theorem spec_none (s : ByteArray) (w : World) (hs : s.size ≤ 1048576) (hn : ∀ k, 1 ≤ k → k ≤ 7 → k ≤ s.size → ¬ VGood (s.data.toList.take k)) :
    Calls Try.prog 15 #[.string s] w fun e w' => e = Ending.returned (.tuple #[.int .i64 0, .int .i64 0]) ∧ Below w.heap.size w w' := by
  have HN := Lib.hid hn
  clear hn
  go_enter Try.func15, Try.ntmps15
  go_wp2
  go_loopw [4] (fun i wr => ∃ (k : Nat), 1 ≤ k ∧ k ≤ 8 ∧ i = .int .i64 k ∧ Below w.heap.size w wr) (fun i _ => 8 - (intOf i).toNat)
  case atStart => exact ⟨1, by omega, by omega, rfl, Below.refl _ _⟩
  case round =>
    obtain ⟨k, hk1, hk8, rfl, hb⟩ := hrel
    obtain ⟨wo, rfl⟩ : ∃ wo : World, wo = wr := ⟨_, rfl⟩
    by_cases h7 : k ≤ 7
    · by_cases hks : k ≤ s.size
      · have d1 : decide ((k : Int) ≤ 7) = true := by simp; omega
        have d2 : decide ((k : Int) ≤ (s.size : Int)) = true := by simp; omega
        go_wp2
        clear d1 d2
        go_loop [5, 6] (fun n i => ∃ (j : Nat), j ≤ k ∧ i = .int .i64 ((j : Int) - 1) ∧ n = .int .i64 (vval ((s.data.toList.take k).drop j))) (fun _ i => (intOf i + 1).toNat)
        case atStart => exact ⟨k, by omega, rfl, by rw [List.drop_of_length_le (by rw [List.length_take]; omega)]; rfl⟩
        case round =>
          obtain ⟨j, hj, rfl, rfl⟩ := hrel
          by_cases hj0 : 1 ≤ j
          · obtain ⟨i, rfl⟩ : ∃ i, j = i + 1 := ⟨j - 1, by omega⟩
            have hi : i < s.size := by omega
            have hc := s[i].toNat_lt
            have HD := Lib.hid (drop_at s i k (by omega) hks)
            have hv := vval_max ((s.data.toList.take k).drop (i + 1)) (by rw [List.length_drop, List.length_take]; omega)
            have hidx : ((i + 1 : Nat) : Int) - 1 = (i : Int) := by omega
            rw [hidx]
            clear hidx
            go_wp2
            go_round
            case rel => exact ⟨i, by omega, rfl, by rw [HD.out, vval_cons]; go_num⟩
            case measure => simp [intOf]
          · obtain rfl : j = 0 := by omega
            have hv := vval_max (s.data.toList.take k) (by rw [List.length_take]; omega)
            have hne := eq_no s k (HN.out k hk1 h7 hks)
            go_wp2
            go_region_with (go_at_call 13; refine (spec_yes _ _ hv).mono ?_; rintro e W1 ⟨rfl, hb1⟩)
            go_wp2
            go_roundw
            case rel => exact ⟨k + 1, by omega, by omega, by go_num, hb.drew.trans (hb1.mono hb.size)⟩
            case measure => simp [intOf]; omega
      · have d1 : decide ((k : Int) ≤ 7) = true := by simp; omega
        have d2 : decide ((k : Int) ≤ (s.size : Int)) = false := by simp; omega
        go_wp2
        go_ret2
        exact ⟨rfl, hb⟩
    · have d1 : decide ((k : Int) ≤ 7) = false := by simp; omega
      go_wp2
      go_ret2
      exact ⟨rfl, hb⟩
set_option maxRecDepth 100000 in
theorem spec_at (s : ByteArray) (m : Nat) (w : World) (hs : s.size ≤ 1048576) (hm1 : 1 ≤ m) (hm7 : m ≤ 7) (hms : m ≤ s.size) (hg : VGood (s.data.toList.take m)) (hn : ∀ k, 1 ≤ k → k < m → ¬ VGood (s.data.toList.take k)) :
    Calls Try.prog 15 #[.string s] w fun e w' => e = Ending.returned (.tuple #[.int .i64 (vval (s.data.toList.take m)), .int .i64 m]) ∧ Below w.heap.size w w' := by
  have HN := Lib.hid hn
  have HG := Lib.hid hg
  clear hn hg
  go_enter Try.func15, Try.ntmps15
  go_wp2
  go_loopw [4] (fun i wr => ∃ (k : Nat), 1 ≤ k ∧ k ≤ m ∧ i = .int .i64 k ∧ Below w.heap.size w wr) (fun i _ => 8 - (intOf i).toNat)
  case atStart => exact ⟨1, by omega, by omega, rfl, Below.refl _ _⟩
  case round =>
    obtain ⟨k, hk1, hkm, rfl, hb⟩ := hrel
    obtain ⟨wo, rfl⟩ : ∃ wo : World, wo = wr := ⟨_, rfl⟩
    have hks : k ≤ s.size := by omega
    have d1 : decide ((k : Int) ≤ 7) = true := by simp; omega
    have d2 : decide ((k : Int) ≤ (s.size : Int)) = true := by simp; omega
    go_wp2
    clear d1 d2
    go_loop [5, 6] (fun n i => ∃ (j : Nat), j ≤ k ∧ i = .int .i64 ((j : Int) - 1) ∧ n = .int .i64 (vval ((s.data.toList.take k).drop j))) (fun _ i => (intOf i + 1).toNat)
    case atStart => exact ⟨k, by omega, rfl, by rw [List.drop_of_length_le (by rw [List.length_take]; omega)]; rfl⟩
    case round =>
      obtain ⟨j, hj, rfl, rfl⟩ := hrel
      by_cases hj0 : 1 ≤ j
      · obtain ⟨i, rfl⟩ : ∃ i, j = i + 1 := ⟨j - 1, by omega⟩
        have hi : i < s.size := by omega
        have hc := s[i].toNat_lt
        have HD := Lib.hid (drop_at s i k (by omega) hks)
        have hv := vval_max ((s.data.toList.take k).drop (i + 1)) (by rw [List.length_drop, List.length_take]; omega)
        have hidx : ((i + 1 : Nat) : Int) - 1 = (i : Int) := by omega
        rw [hidx]
        clear hidx
        go_wp2
        go_round
        case rel => exact ⟨i, by omega, rfl, by rw [HD.out, vval_cons]; go_num⟩
        case measure => simp [intOf]
      · obtain rfl : j = 0 := by omega
        have hv := vval_max (s.data.toList.take k) (by rw [List.length_take]; omega)
        by_cases hlt : k < m
        · have hne := eq_no s k (HN.out k hk1 hlt)
          go_wp2
          go_region_with (go_at_call 13; refine (spec_yes _ _ hv).mono ?_; rintro e W1 ⟨rfl, hb1⟩)
          go_wp2
          go_roundw
          case rel => exact ⟨k + 1, by omega, by omega, by go_num, hb.drew.trans (hb1.mono hb.size)⟩
          case measure => simp [intOf]; omega
        · obtain rfl : k = m := by omega
          have hne := eq_yes s k HG.out
          go_wp2
          go_region_with (go_at_call 13; refine (spec_yes _ _ hv).mono ?_; rintro e W1 ⟨rfl, hb1⟩)
          go_wp2
          go_ret2
          exact ⟨rfl, hb.drew.trans (hb1.mono hb.size)⟩
set_option maxRecDepth 100000 in
theorem impl_none (s : ByteArray) (w : World) (hs : s.size ≤ 1048576) (hn : ∀ k (h : k < s.size), k < 7 → 128 ≤ s[k].toNat) :
    Calls Try.prog 16 #[.string s] w fun e w' => e = Ending.returned (.tuple #[.int .i64 0, .int .i64 0]) ∧ Below w.heap.size w w' := by
  have HN := Lib.hid hn
  clear hn
  rcases (by omega : (s.size : Int) ≤ 7 ∨ (7 : Int) < (s.size : Int)) with hm | hm
  all_goals
    go_enter Try.func16, Try.ntmps16
    go_wp2
    go_loopw [4, 9] (fun n i wr => ∃ (k : Nat), k ≤ 7 ∧ k ≤ s.size ∧ i = .int .i64 k ∧ n = .int .i64 (vval (s.data.toList.take k)) ∧ Below w.heap.size w wr) (fun _ i _ => 7 - (intOf i).toNat)
    case atStart => exact ⟨0, by omega, by omega, rfl, rfl, Below.refl _ _⟩
    case round =>
      obtain ⟨k, hk7, hks', rfl, rfl, hb⟩ := hrel
      by_cases h7 : k < 7 ∧ k < s.size
      · obtain ⟨h7, hks⟩ := h7
        have hc := s[k].toNat_lt
        have hge := HN.out k hks (by omega)
        have hge' : (128 : Int) ≤ ((s[k].toNat : Nat) : Int) := by omega
        have hand := and_127 s[k]
        have hv := vval_max (s.data.toList.take k) (by rw [List.length_take]; omega)
        have HO := Lib.hid (or_take s k hks h7)
        go_wp2
        go_roundw
        case rel => exact ⟨k + 1, by omega, by omega, by go_num, by rw [← HO.out], hb⟩
        case measure => simp [intOf]; omega
      · go_wp2
        go_ret2
        exact ⟨rfl, hb⟩
set_option maxRecDepth 100000 in
theorem impl_bad (s : ByteArray) (i : Nat) (w : World) (hs : s.size ≤ 1048576) (his : i < s.size) (hi7 : i < 7) (hlow : s[i].toNat < 128) (hn : ∀ k (h : k < s.size), k < i → 128 ≤ s[k].toNat) (hg : ¬ VGood (s.data.toList.take (i + 1))) :
    Calls Try.prog 16 #[.string s] w fun e w' => e = Ending.returned (.tuple #[.int .i64 0, .int .i64 0]) ∧ Below w.heap.size w w' := by
  have HN := Lib.hid hn
  have HE := Lib.hid (eq_no s (i + 1) hg)
  have HL := Lib.hid hlow
  clear hn hg hlow
  rcases (by omega : (s.size : Int) ≤ 7 ∨ (7 : Int) < (s.size : Int)) with hm | hm
  all_goals
    go_enter Try.func16, Try.ntmps16
    go_wp2
    go_loopw [4, 9] (fun n j wr => ∃ (k : Nat), k ≤ i ∧ j = .int .i64 k ∧ n = .int .i64 (vval (s.data.toList.take k)) ∧ Below w.heap.size w wr) (fun _ j _ => 7 - (intOf j).toNat)
    case atStart => exact ⟨0, by omega, rfl, rfl, Below.refl _ _⟩
    case round =>
      obtain ⟨k, hki, rfl, rfl, hb⟩ := hrel
      have h7 : k < 7 := by omega
      have hks : k < s.size := by omega
      have hc := s[k].toNat_lt
      have hand := and_127 s[k]
      have hv := vval_max (s.data.toList.take k) (by rw [List.length_take]; omega)
      by_cases hlt : k < i
      · have hge := HN.out k hks (by omega)
        have hge' : (128 : Int) ≤ ((s[k].toNat : Nat) : Int) := by omega
        have HO := Lib.hid (or_take s k hks h7)
        go_wp2
        go_roundw
        case rel => exact ⟨k + 1, by omega, by go_num, by rw [← HO.out], hb⟩
        case measure => simp [intOf]; omega
      · obtain rfl : k = i := by omega
        have hge' : ((s[k].toNat : Nat) : Int) < 128 := by have := HL.out; omega
        have hO := or_take s k hks h7
        have hv1 := vval_max (s.data.toList.take (k + 1)) (by rw [List.length_take]; omega)
        have hne := HE.out
        go_wp2
        clear hO
        have g1 : IntKind.i64.wrap ((k : Int) + 1) = (k : Int) + 1 := IntWalk.i64_in _ (by omega)
        have g2 : (0 : Int) ≤ (k : Int) + 1 := by omega
        have g3 : (k : Int) + 1 ≤ (s.size : Int) := by omega
        have g4 : ((k : Int) + 1).toNat = k + 1 := by omega
        go_region_with (go_at_call 14; refine (impl_yes _ _ hv1).mono ?_; rintro e W1 ⟨rfl, hb1⟩)
        clear g1 g2 g3 g4
        go_wp2
        go_ret2
        exact ⟨rfl, hb.drew.trans (hb1.mono hb.size)⟩
set_option maxRecDepth 100000 in
theorem impl_at (s : ByteArray) (i : Nat) (w : World) (hs : s.size ≤ 1048576) (his : i < s.size) (hi7 : i < 7) (hlow : s[i].toNat < 128) (hn : ∀ k (h : k < s.size), k < i → 128 ≤ s[k].toNat) (hg : VGood (s.data.toList.take (i + 1))) :
    Calls Try.prog 16 #[.string s] w fun e w' => e = Ending.returned (.tuple #[.int .i64 (vval (s.data.toList.take (i + 1))), .int .i64 ((i + 1 : Nat) : Int)]) ∧ Below w.heap.size w w' := by
  have HN := Lib.hid hn
  have HE := Lib.hid (eq_yes s (i + 1) hg)
  have HL := Lib.hid hlow
  clear hn hg hlow
  rcases (by omega : (s.size : Int) ≤ 7 ∨ (7 : Int) < (s.size : Int)) with hm | hm
  all_goals
    go_enter Try.func16, Try.ntmps16
    go_wp2
    go_loopw [4, 9] (fun n j wr => ∃ (k : Nat), k ≤ i ∧ j = .int .i64 k ∧ n = .int .i64 (vval (s.data.toList.take k)) ∧ Below w.heap.size w wr) (fun _ j _ => 7 - (intOf j).toNat)
    case atStart => exact ⟨0, by omega, rfl, rfl, Below.refl _ _⟩
    case round =>
      obtain ⟨k, hki, rfl, rfl, hb⟩ := hrel
      have h7 : k < 7 := by omega
      have hks : k < s.size := by omega
      have hc := s[k].toNat_lt
      have hand := and_127 s[k]
      have hv := vval_max (s.data.toList.take k) (by rw [List.length_take]; omega)
      by_cases hlt : k < i
      · have hge := HN.out k hks (by omega)
        have hge' : (128 : Int) ≤ ((s[k].toNat : Nat) : Int) := by omega
        have HO := Lib.hid (or_take s k hks h7)
        go_wp2
        go_roundw
        case rel => exact ⟨k + 1, by omega, by go_num, by rw [← HO.out], hb⟩
        case measure => simp [intOf]; omega
      · obtain rfl : k = i := by omega
        have hge' : ((s[k].toNat : Nat) : Int) < 128 := by have := HL.out; omega
        have hO := or_take s k hks h7
        have hv1 := vval_max (s.data.toList.take (k + 1)) (by rw [List.length_take]; omega)
        have hne := HE.out
        go_wp2
        clear hO
        have g1 : IntKind.i64.wrap ((k : Int) + 1) = (k : Int) + 1 := IntWalk.i64_in _ (by omega)
        have g2 : (0 : Int) ≤ (k : Int) + 1 := by omega
        have g3 : (k : Int) + 1 ≤ (s.size : Int) := by omega
        have g4 : ((k : Int) + 1).toNat = k + 1 := by omega
        go_region_with (go_at_call 14; refine (impl_yes _ _ hv1).mono ?_; rintro e W1 ⟨rfl, hb1⟩)
        go_wp2
        go_ret2
        exact ⟨by simp, hb.drew.trans (hb1.mono hb.size)⟩
/-- Whatever the string: both functions answer alike. -/
theorem both (s : ByteArray) (hs : s.size ≤ 1048576) : ∃ x y : Int, ∀ w : World,
    Calls Try.prog 15 #[.string s] w (fun e w' => e = .returned (.tuple #[.int .i64 x, .int .i64 y]) ∧ Below w.heap.size w w') ∧
    Calls Try.prog 16 #[.string s] w (fun e w' => e = .returned (.tuple #[.int .i64 x, .int .i64 y]) ∧ Below w.heap.size w w') := by
  rcases first_low s with hn | ⟨i, his, hi7, hlow, hh⟩
  · exact ⟨0, 0, fun w => ⟨spec_none s w hs (none_of_high s hn), impl_none s w hs hn⟩⟩
  · by_cases hg : VGood (s.data.toList.take (i + 1))
    · exact ⟨_, _, fun w => ⟨spec_at s (i + 1) w hs (by omega) (by omega) (by omega) hg (fun k h1 h2 => none_before s i his hh k h1 (by omega)), impl_at s i w hs his hi7 hlow hh hg⟩⟩
    · exact ⟨0, 0, fun w => ⟨spec_none s w hs (none_of_bad s i his hlow hh hg), impl_bad s i w hs his hi7 hlow hh hg⟩⟩
end Go.Proofs.Ytfjjpmpkjcopiaa.decVarint
