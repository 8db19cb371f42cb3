/- The program's six encoders and decoders of chapter 1, and the model's EncodeFixed, over this seat's translation: what each answers; nothing that was there is written. -/
import Derived.Test.YtfjjpmpkjcopiaaDoorVal
import Derived.Test.YtfjjpmpkjcopiaaDoorUnhex
import Derived.WalkKit
import Derived.ProofKit
import Derived.OpenShut
import Derived.ShutString
import Derived.ChangeOld
import Derived.Below
import Derived.Lib.Hide
import Derived.Deep.RegionWith
import Derived.Deep.RegionLaw
import Derived.Deep.AppendLies
import Derived.Maps.AppendAt
namespace Go.Proofs.YtfjjpmpkjcopiaaDoor.port
open Go.ChangeShapes Go.WideShapes Go.ChangeAt Go.RowKit
open Go.Proofs.YtfjjpmpkjcopiaaDoor.num Go.Proofs.YtfjjpmpkjcopiaaDoor.conv Go.Proofs.YtfjjpmpkjcopiaaDoor.var Go.Proofs.YtfjjpmpkjcopiaaDoor.val Go.Proofs.YtfjjpmpkjcopiaaDoor.hex Go.Proofs.YtfjjpmpkjcopiaaDoor.unhex
set_option linter.unusedVariables false
theorem one_oneCell (k : IntKind) (n : Int) : ∀ u ∈ [Value.int k n], u.oneCell' = true := by
  intro u hu; simp at hu; subst hu; rfl
set_option maxRecDepth 100000 in
theorem ev_yes (m : Nat) (w : World) (h0 : m ≤ 562949953421311) :
    Calls Tryd.prog 9 #[.int .i64 m] w fun e w' => e = Ending.returned (.string (vencS m)) ∧ Below w.heap.size w w' := by
  obtain ⟨i0, hi, hz0, hz1, hz2⟩ := info_parts info5
  have hI : (m : Int) ≤ 562949953421311 := by omega
  have hD : decide ((562949953421311 : Int) < (m : Int)) = false := by simpa using hI
  have hneg : decide ((m : Int) < 0) = false := by simp
  have hmk : ∀ W : World, (Instr.makeSlice 22 (.int .i64 0) (.int .i64 7)).run Tryd.prog W = .ok (.slice (some ⟨W.heap.size, 0, none⟩) 0 7) (W.alloc (.cells #[.int .u8 0, .int .u8 0, .int .u8 0, .int .u8 0, .int .u8 0, .int .u8 0, .int .u8 0] 5)) := fun _ => by kernel_rfl
  go_enter Tryd.func9, Tryd.ntmps9
  go_wp2
  clear hI hD hneg hmk
  go_loopw [0, 3] (fun t v wr => ∃ (x : Nat) (acc : List UInt8), acc ++ venc x = venc m ∧ 127 * acc.length + x ≤ m ∧ t = .int .i64 x ∧ wr.ownsRow w.heap.size 5 1 v acc.length (acc.map byteV) ∧ Below w.heap.size w wr) (fun t _ _ => (intOf t).toNat)
  case atStart => exact ⟨m, [], rfl, by simp, rfl, World.ownsRow_made _ _ _ (Nat.le_refl _) (by decide) rfl, (Below.refl _ _).alloc (Nat.le_refl _) _⟩
  case round =>
    obtain ⟨x, acc, he, hlen, rfl, hown, hb⟩ := hrel
    have HE := Lib.hid he
    clear he
    have hmax : acc.length + 1 ≤ maxLen := by unfold maxLen; omega
    have hbyt : (acc.length + 1) * 1 ≤ 140737488355328 := by omega
    have hbase : ∀ o, w.heap.size ≤ (wr.alloc o).heap.size := fun o => by have := hb.size; simp; omega
    by_cases hlt : x < 128
    · have hltI : (x : Int) < 128 := by omega
      go_wp2_with (at_builtin; refine wpList_append_own _ rfl _ _ 22 rfl w.heap.size 5 i0 (.int .u8 0) 1 1 Tryd.underlying22 hi hz0 hz1 hz2 rfl (by decide) _ _ _ rfl (hown.alloc _) ⟨_, 0, none⟩ 1 1 [.int .u8 (x : Int)] rfl rfl (cell_one_new _ _ _) (one_oneCell _ _) hmax hbyt (hbase _) ?_)
      intro v' w1 hown' hgrow _
      rw [last_row acc x hlt] at hown'
      have hcv := owned_string Tryd.underlying22 Tryd.underlying5 Tryd.underlying9 (by simp) hown'
      rw [last_enc acc m x hlt HE.out] at hcv
      clear hown'
      go_wp2
      go_ret
      exact ⟨rfl, (hb.alloc hb.size _).grown hgrow (by have := hb.size; simp; omega) (fun k hk => (hown.lt k hk).1)⟩
    · have hltI : ¬ (x : Int) < 128 := by omega
      have hor := or_128 x
      go_wp2_with (at_builtin; refine wpList_append_own _ rfl _ _ 22 rfl w.heap.size 5 i0 (.int .u8 0) 1 1 Tryd.underlying22 hi hz0 hz1 hz2 rfl (by decide) _ _ _ rfl (hown.alloc _) ⟨_, 0, none⟩ 1 1 [.int .u8 (128 + (x : Int) % 128)] rfl rfl (cell_one_new _ _ _) (one_oneCell _ _) hmax hbyt (hbase _) ?_)
      intro v' w1 hown' hgrow _
      clear hor
      rw [round_row acc x] at hown'
      have hb1 : Below w.heap.size w w1 := (hb.alloc hb.size _).grown hgrow (by have := hb.size; simp; omega) (fun k hk => (hown.lt k hk).1)
      go_wp2
      go_roundw
      case rel => exact ⟨x / 128, acc ++ [UInt8.ofNat (128 + x % 128)], by rw [round_enc acc x hlt]; exact HE.out, by simp; omega, rfl, by simpa using hown', hb1⟩
      case measure => simp [intOf]; omega

theorem ev_no (n : Int) (w : World) (h : n < 0 ∨ 562949953421311 < n) :
    Calls Tryd.prog 9 #[.int .i64 n] w fun e w' => e = Ending.returned (.string ByteArray.empty) ∧ Below w.heap.size w w' := by
  by_cases h1 : n < 0
  · clear h
    go_enter Tryd.func9, Tryd.ntmps9
    go_wp2
    go_ret
    exact ⟨rfl, Below.refl _ _⟩
  · have h2 : 562949953421311 < n := by omega
    clear h
    go_enter Tryd.func9, Tryd.ntmps9
    go_wp2
    go_ret
    exact ⟨rfl, Below.refl _ _⟩
set_option maxRecDepth 100000 in
theorem dv_none (s : ByteArray) (w : World) (hs : s.size ≤ 1048576) (hn : ∀ k (h : k < s.size), k < 7 → 128 ≤ s[k].toNat) :
    Calls Tryd.prog 10 #[.string s] w fun e w' => e = Ending.returned (.tuple #[.int .i64 0, .int .i64 0]) ∧ Below w.heap.size w w' := by
  have HN := Lib.hid hn
  clear hn
  rcases (by omega : (s.size : Int) ≤ 7 ∨ (7 : Int) < (s.size : Int)) with hm | hm
  all_goals
    go_enter Tryd.func10, Tryd.ntmps10
    go_wp2
    go_loopw [4, 9] (fun n i wr => ∃ (k : Nat), k ≤ 7 ∧ k ≤ s.size ∧ i = .int .i64 k ∧ n = .int .i64 (vval (s.data.toList.take k)) ∧ Below w.heap.size w wr) (fun _ i _ => 7 - (intOf i).toNat)
    case atStart => exact ⟨0, by omega, by omega, rfl, rfl, Below.refl _ _⟩
    case round =>
      obtain ⟨k, hk7, hks', rfl, rfl, hb⟩ := hrel
      by_cases h7 : k < 7 ∧ k < s.size
      · obtain ⟨h7, hks⟩ := h7
        have hc := s[k].toNat_lt
        have hge := HN.out k hks (by omega)
        have hge' : (128 : Int) ≤ ((s[k].toNat : Nat) : Int) := by omega
        have hand := and_127 s[k]
        have hv := vval_max (s.data.toList.take k) (by rw [List.length_take]; omega)
        have HO := Lib.hid (or_take s k hks h7)
        go_wp2
        go_roundw
        case rel => exact ⟨k + 1, by omega, by omega, by go_num, by rw [← HO.out], hb⟩
        case measure => simp [intOf]; omega
      · go_wp2
        go_ret2
        exact ⟨rfl, hb⟩
set_option maxRecDepth 100000 in
theorem dv_bad (s : ByteArray) (i : Nat) (w : World) (hs : s.size ≤ 1048576) (his : i < s.size) (hi7 : i < 7) (hlow : s[i].toNat < 128) (hn : ∀ k (h : k < s.size), k < i → 128 ≤ s[k].toNat) (hg : ¬ VGood (s.data.toList.take (i + 1))) :
    Calls Tryd.prog 10 #[.string s] w fun e w' => e = Ending.returned (.tuple #[.int .i64 0, .int .i64 0]) ∧ Below w.heap.size w w' := by
  have HN := Lib.hid hn
  have HE := Lib.hid (eq_no s (i + 1) hg)
  have HL := Lib.hid hlow
  clear hn hg hlow
  rcases (by omega : (s.size : Int) ≤ 7 ∨ (7 : Int) < (s.size : Int)) with hm | hm
  all_goals
    go_enter Tryd.func10, Tryd.ntmps10
    go_wp2
    go_loopw [4, 9] (fun n j wr => ∃ (k : Nat), k ≤ i ∧ j = .int .i64 k ∧ n = .int .i64 (vval (s.data.toList.take k)) ∧ Below w.heap.size w wr) (fun _ j _ => 7 - (intOf j).toNat)
    case atStart => exact ⟨0, by omega, rfl, rfl, Below.refl _ _⟩
    case round =>
      obtain ⟨k, hki, rfl, rfl, hb⟩ := hrel
      have h7 : k < 7 := by omega
      have hks : k < s.size := by omega
      have hc := s[k].toNat_lt
      have hand := and_127 s[k]
      have hv := vval_max (s.data.toList.take k) (by rw [List.length_take]; omega)
      by_cases hlt : k < i
      · have hge := HN.out k hks (by omega)
        have hge' : (128 : Int) ≤ ((s[k].toNat : Nat) : Int) := by omega
        have HO := Lib.hid (or_take s k hks h7)
        go_wp2
        go_roundw
        case rel => exact ⟨k + 1, by omega, by go_num, by rw [← HO.out], hb⟩
        case measure => simp [intOf]; omega
      · obtain rfl : k = i := by omega
        have hge' : ((s[k].toNat : Nat) : Int) < 128 := by have := HL.out; omega
        have hO := or_take s k hks h7
        have hv1 := vval_max (s.data.toList.take (k + 1)) (by rw [List.length_take]; omega)
        have hne := HE.out
        go_wp2
        clear hO
        have g1 : IntKind.i64.wrap ((k : Int) + 1) = (k : Int) + 1 := IntWalk.i64_in _ (by omega)
        have g2 : (0 : Int) ≤ (k : Int) + 1 := by omega
        have g3 : (k : Int) + 1 ≤ (s.size : Int) := by omega
        have g4 : ((k : Int) + 1).toNat = k + 1 := by omega
        go_region_with (go_at_call 9; refine (ev_yes _ _ hv1).mono ?_; rintro e W1 ⟨rfl, hb1⟩)
        clear g1 g2 g3 g4
        go_wp2
        go_ret2
        exact ⟨rfl, hb.drew.trans (hb1.mono hb.size)⟩
set_option maxRecDepth 100000 in
theorem dv_at (s : ByteArray) (i : Nat) (w : World) (hs : s.size ≤ 1048576) (his : i < s.size) (hi7 : i < 7) (hlow : s[i].toNat < 128) (hn : ∀ k (h : k < s.size), k < i → 128 ≤ s[k].toNat) (hg : VGood (s.data.toList.take (i + 1))) :
    Calls Tryd.prog 10 #[.string s] w fun e w' => e = Ending.returned (.tuple #[.int .i64 (vval (s.data.toList.take (i + 1))), .int .i64 ((i + 1 : Nat) : Int)]) ∧ Below w.heap.size w w' := by
  have HN := Lib.hid hn
  have HE := Lib.hid (eq_yes s (i + 1) hg)
  have HL := Lib.hid hlow
  clear hn hg hlow
  rcases (by omega : (s.size : Int) ≤ 7 ∨ (7 : Int) < (s.size : Int)) with hm | hm
  all_goals
    go_enter Tryd.func10, Tryd.ntmps10
    go_wp2
    go_loopw [4, 9] (fun n j wr => ∃ (k : Nat), k ≤ i ∧ j = .int .i64 k ∧ n = .int .i64 (vval (s.data.toList.take k)) ∧ Below w.heap.size w wr) (fun _ j _ => 7 - (intOf j).toNat)
    case atStart => exact ⟨0, by omega, rfl, rfl, Below.refl _ _⟩
    case round =>
      obtain ⟨k, hki, rfl, rfl, hb⟩ := hrel
      have h7 : k < 7 := by omega
      have hks : k < s.size := by omega
      have hc := s[k].toNat_lt
      have hand := and_127 s[k]
      have hv := vval_max (s.data.toList.take k) (by rw [List.length_take]; omega)
      by_cases hlt : k < i
      · have hge := HN.out k hks (by omega)
        have hge' : (128 : Int) ≤ ((s[k].toNat : Nat) : Int) := by omega
        have HO := Lib.hid (or_take s k hks h7)
        go_wp2
        go_roundw
        case rel => exact ⟨k + 1, by omega, by go_num, by rw [← HO.out], hb⟩
        case measure => simp [intOf]; omega
      · obtain rfl : k = i := by omega
        have hge' : ((s[k].toNat : Nat) : Int) < 128 := by have := HL.out; omega
        have hO := or_take s k hks h7
        have hv1 := vval_max (s.data.toList.take (k + 1)) (by rw [List.length_take]; omega)
        have hne := HE.out
        go_wp2
        clear hO
        have g1 : IntKind.i64.wrap ((k : Int) + 1) = (k : Int) + 1 := IntWalk.i64_in _ (by omega)
        have g2 : (0 : Int) ≤ (k : Int) + 1 := by omega
        have g3 : (k : Int) + 1 ≤ (s.size : Int) := by omega
        have g4 : ((k : Int) + 1).toNat = k + 1 := by omega
        go_region_with (go_at_call 9; refine (ev_yes _ _ hv1).mono ?_; rintro e W1 ⟨rfl, hb1⟩)
        go_wp2
        go_ret2
        exact ⟨by simp, hb.drew.trans (hb1.mono hb.size)⟩
attribute [local go_sem] conv1
theorem sf_yes (m wd : Nat) (w : World) (h0 : m ≤ 9223372036854775807) (h1 : 1 ≤ wd) (h2 : wd ≤ 7) :
    Calls Tryd.prog 14 #[.int .i64 m, .int .i64 wd] w fun e w' => e = Ending.returned (.string (fixS m wd)) ∧ Below w.heap.size w w' := by
  have hd : decide ((m : Int) < 0) = false := by simp
  go_enter Tryd.func14, Tryd.ntmps14
  go_wp2
  go_loopw [0, 5, 6] (fun t o i wr => ∃ (k : Nat), k ≤ wd ∧ i = .int .i64 k ∧ t = .int .i64 (q m k) ∧ o = .string (lowS m k) ∧ Below w.heap.size w wr) (fun _ _ i _ => ((wd : Int) - intOf i).toNat)
  case atStart => exact ⟨0, by omega, rfl, by rw [q_zero], rfl, Below.refl _ _⟩
  case round =>
    obtain ⟨k, hk, rfl, rfl, rfl, hb⟩ := hrel
    have hql := q_le m k
    have HS := Lib.hid (lowS_succ m k)
    have HQ := Lib.hid (q_succ m k)
    have HP := Lib.hid (fun h => fixS_fits (m := m) (wd := k) h)
    have HN := Lib.hid (fun h => fixS_big (m := m) (wd := k) h)
    have hss : (lowS m k).size ≤ 7 := by rw [lowS_size]; omega
    generalize q m k = x at *
    generalize lowS m k = s at *
    by_cases hlt : k < wd
    · clear HP HN
      go_wp2
      go_roundw
      case rel => exact ⟨k + 1, by omega, by go_num, by rw [HQ.out]; rfl, by rw [← HS.out], hb.alloc hb.size _⟩
      case measure => simp [intOf]; omega
    · obtain rfl : k = wd := by omega
      by_cases hz : x = 0
      · have HF := Lib.hid (HP.out hz)
        clear HP HN
        go_wp2
        go_ret
        exact ⟨by rw [HF.out]; rfl, hb⟩
      · have HF := Lib.hid (HN.out hz)
        clear HP HN
        have hz' : (0 : Int) < (x : Int) := by omega
        go_wp2
        go_ret
        exact ⟨by rw [HF.out]; rfl, hb⟩
theorem ef_big (m wd : Nat) (w : World) (h0 : m ≤ 9223372036854775807) (h1 : 1 ≤ wd) (h2 : wd ≤ 7) (hq : ¬ q m wd = 0) :
    Calls Tryd.prog 12 #[.int .i64 m, .int .i64 wd] w fun e w' => e = Ending.returned (.string (fixS m wd)) ∧ Below w.heap.size w w' := by
  have HF := Lib.hid (fixS_big hq)
  have hne : ((m : Int) / 2 ^ (8 * wd) != 0) = true := by
    rw [q_two] at hq
    have : ((m / 2 ^ (8 * wd) : Nat) : Int) ≠ 0 := by omega
    simpa using this
  clear hq
  go_enter Tryd.func12, Tryd.ntmps12
  go_wp2
  go_ret
  exact ⟨by rw [HF.out]; rfl, Below.refl _ _⟩
theorem ef_fits (m wd : Nat) (w : World) (h0 : m ≤ 9223372036854775807) (h1 : 1 ≤ wd) (h2 : wd ≤ 7) (hq : q m wd = 0) :
    Calls Tryd.prog 12 #[.int .i64 m, .int .i64 wd] w fun e w' => e = Ending.returned (.string (fixS m wd)) ∧ Below w.heap.size w w' := by
  have HF := Lib.hid (fixS_fits hq)
  have hne : ((m : Int) / 2 ^ (8 * wd) != 0) = false := by
    rw [q_two] at hq
    have : ((m / 2 ^ (8 * wd) : Nat) : Int) = 0 := by omega
    simpa using this
  have hneg : decide ((m : Int) < 0) = false := by simp
  clear hq
  have hmk := fun (W : World) => run_make_row' (P := Tryd.prog) 22 5 (.int .u8 0) 1 Tryd.underlying22 info5 rfl .i64 .i64 wd (by omega) (by omega) W
  go_enter Tryd.func12, Tryd.ntmps12
  go_wp2
  clear hmk
  go_loopw [0, 6] (fun t i wr => ∃ (k : Nat) (j : Int), -1 ≤ j ∧ j + 1 + k = wd ∧ i = .int .i64 j ∧ t = .int .i64 (q m k) ∧ wr.rowIs w.heap.size 5 wd (rowF m wd k) ∧ Below w.heap.size w wr) (fun _ i _ => (intOf i + 1).toNat)
  case atStart => exact ⟨0, _, by omega, by omega, rfl, by rw [q_zero], (World.rowIs_made _ _ _ _).congr fun j hj => (rowF_zero m wd j hj).symm, (Below.refl _ _).alloc (Nat.le_refl _) _⟩
  case round =>
    obtain ⟨k, j, hj0, hj, rfl, rfl, hr, hb⟩ := hrel
    have hql := q_le m k
    have HQ := Lib.hid (q_succ m k)
    have HR := Lib.hid (fun (i : Nat) (h : i + 1 + k = wd) (jj : Nat) => rowF_succ m wd k i jj h)
    by_cases hlt : 0 ≤ j
    · obtain ⟨i, rfl⟩ := Int.eq_ofNat_of_zero_le hlt
      have hi : i < wd := by omega
      have hc := hr.cell hi
      have hf := hr.frozen i
      have HH := Lib.hid hr
      have HJ := Lib.hid hj
      clear hj hr
      generalize q m k = x at *
      go_wp2
      go_roundw
      case rel => exact ⟨k + 1, _, by omega, by have := HJ.out; omega, rfl, by rw [HQ.out]; rfl, (HH.out.set i _).congr fun jj _ => HR.out i (by have := HJ.out; omega) jj, hb.setCell (Nat.le_refl _) _⟩
      case measure => simp [intOf]
    · have hk : k = wd := by omega
      subst hk
      have hcv := run_convert_bytes_back (P := Tryd.prog) wr 22 9 5 ⟨w.heap.size, 0, none⟩ k (low m k) Tryd.underlying22 Tryd.underlying5 Tryd.underlying9 (fun jj hjj => by
        rw [low_length] at hjj
        rw [Addr.add_lit, Nat.zero_add, hr.cell hjj, rowF_full m k jj hjj])
      rw [low_length] at hcv
      clear hr
      go_wp2
      go_ret
      exact ⟨by rw [HF.out]; rfl, hb⟩

theorem sf_no (n wd : Int) (w : World) (h : wd < 1 ∨ 7 < wd ∨ n < 0) :
    Calls Tryd.prog 14 #[.int .i64 n, .int .i64 wd] w fun e w' => e = Ending.returned (.string ByteArray.empty) ∧ Below w.heap.size w w' := by
  by_cases h1 : wd < 1
  · clear h
    go_enter Tryd.func14, Tryd.ntmps14
    go_wp2
    go_ret
    exact ⟨rfl, Below.refl _ _⟩
  · by_cases h2 : 7 < wd
    · clear h
      go_enter Tryd.func14, Tryd.ntmps14
      go_wp2
      go_ret
      exact ⟨rfl, Below.refl _ _⟩
    · have h3 : n < 0 := by omega
      clear h
      go_enter Tryd.func14, Tryd.ntmps14
      go_wp2
      go_ret
      exact ⟨rfl, Below.refl _ _⟩
theorem ef_no (n wd : Int) (w : World) (h : wd < 1 ∨ 7 < wd ∨ n < 0) :
    Calls Tryd.prog 12 #[.int .i64 n, .int .i64 wd] w fun e w' => e = Ending.returned (.string ByteArray.empty) ∧ Below w.heap.size w w' := by
  by_cases h1 : wd < 1
  · clear h
    go_enter Tryd.func12, Tryd.ntmps12
    go_wp2
    go_ret
    exact ⟨rfl, Below.refl _ _⟩
  · by_cases h2 : 7 < wd
    · clear h
      go_enter Tryd.func12, Tryd.ntmps12
      go_wp2
      go_ret
      exact ⟨rfl, Below.refl _ _⟩
    · have h3 : n < 0 := by omega
      clear h
      go_enter Tryd.func12, Tryd.ntmps12
      go_wp2
      go_ret
      exact ⟨rfl, Below.refl _ _⟩
/-- What both answer where there is a number. -/
def FAns (s : ByteArray) (n : Int) : Ending := .returned (.tuple #[.int .i64 (dec (s.data.toList.take n.toNat)), .bool true])
def FNay : Ending := .returned (.tuple #[.int .i64 0, .bool false])

theorem df_yes (s : ByteArray) (n : Int) (w : World) (hs : s.size ≤ maxLen) (h1 : 1 ≤ n) (h2 : n ≤ 7) (h : n ≤ (s.size : Int)) :
    Calls Tryd.prog 13 #[.string s, .int .i64 n] w fun e w' => e = FAns s n ∧ w = w' := by
  unfold maxLen at hs
  have hd : decide ((s.size : Int) < n) = false := by simp; omega
  go_enter Tryd.func13, Tryd.ntmps13
  go_wp2
  go_loop [6, 18] (fun t i => ∃ k : Nat, (k : Int) ≤ n ∧ i = .int .i64 k ∧ t = .int .i64 (dec (s.data.toList.take k))) (fun _ i => (n - intOf i).toNat)
  case atStart => exact ⟨0, by omega, rfl, rfl⟩
  case round =>
    obtain ⟨k, hk, rfl, rfl⟩ := hrel
    by_cases hlt : (k : Int) < n
    · have hks : k < s.size := by omega
      have hb := dec_6 (s.data.toList.take k) (by rw [List.length_take]; omega)
      have hc := s[k].toNat_lt
      have HS := Lib.hid (dec_take s k hks)
      have HO := Lib.hid (or_byte _ s[k] hb.1 hb.2)
      go_wp2
      go_round
      case rel => exact ⟨k + 1, by omega, by go_num, by rw [HS.out, ← HO.out]⟩
      case measure => simp [intOf]; omega
    · have hkn : n.toNat = k := by omega
      have HN := Lib.hid hkn
      clear hkn
      go_wp2
      go_ret2
      exact ⟨by unfold FAns; rw [HN.out]; rfl, rfl⟩
theorem df_no (s : ByteArray) (n : Int) (w : World) (hs : s.size ≤ maxLen) (h : n < 1 ∨ 7 < n ∨ (s.size : Int) < n) :
    Calls Tryd.prog 13 #[.string s, .int .i64 n] w fun e w' => e = FNay ∧ w = w' := by
  unfold maxLen at hs
  by_cases h1 : n < 1
  · clear h
    go_enter Tryd.func13, Tryd.ntmps13
    go_wp2
    go_ret2
    exact ⟨rfl, rfl⟩
  · by_cases h2 : 7 < n
    · clear h
      go_enter Tryd.func13, Tryd.ntmps13
      go_wp2
      go_ret2
      exact ⟨rfl, rfl⟩
    · have h3 : (s.size : Int) < n := by omega
      clear h
      go_enter Tryd.func13, Tryd.ntmps13
      go_wp2
      go_ret2
      exact ⟨rfl, rfl⟩
set_option maxRecDepth 100000 in
theorem eh_all (s : ByteArray) (w : World) (hs : s.size ≤ 1048576) :
    Calls Tryd.prog 15 #[.string s] w fun e w' => e = Ending.returned (.string (hexS s)) ∧ Below w.heap.size w w' := by
  obtain ⟨i0, hi, hz0, hz1, hz2⟩ := info_parts info5
  have hmk := fun (W : World) => run_make (P := Tryd.prog) W 22 5 i0 (.int .u8 0) Tryd.underlying22 hi hz0 .i64 .i64 0 (2 * (s.size : Int)) (Int.le_refl _) (by omega) (by rw [hz2]; omega) (by omega)
  go_enter Tryd.func15, Tryd.ntmps15
  go_wp2
  clear hmk
  go_loopw [3, 11] (fun v i wr => ∃ (k : Nat), k ≤ s.size ∧ i = .int .i64 k ∧ wr.ownsRow w.heap.size 5 1 v (2 * k) ((hexL (s.data.toList.take k)).map byteV) ∧ Below w.heap.size w wr) (fun _ i _ => s.size - (intOf i).toNat)
  case atStart => exact ⟨0, by omega, rfl, World.ownsRow_made _ _ _ (Nat.le_refl _) (by unfold maxLen; omega) (by rw [size_madeCells]; omega), (Below.refl _ _).alloc (Nat.le_refl _) _⟩
  case round =>
    obtain ⟨k, hk, rfl, hown, hb⟩ := hrel
    by_cases hks : k < s.size
    · have hc := s[k].toNat_lt
      have hand := and_15 s[k]
      have hx1 := fun W : World => index_lit (P := Tryd.prog) Tryd.underlying9 .u8 (((s[k].toNat : Nat) : Int) / 16) (s[k].toNat / 16) (by omega) (by omega) W
      have hx2 := fun W : World => index_lit (P := Tryd.prog) Tryd.underlying9 .u8 (((s[k].toNat : Nat) : Int) % 16) (s[k].toNat % 16) (by omega) (by omega) W
      have hmax : 2 * k + 2 ≤ maxLen := by unfold maxLen; omega
      have hbyt : (2 * k + 2) * 1 ≤ 140737488355328 := by omega
      have hbase : w.heap.size ≤ wr.heap.size + 1 := by have := hb.size; omega
      have HP := Lib.hid (pair_row (hexL (s.data.toList.take k)) s[k])
      have HT := Lib.hid (hexL_take s k hks)
      go_wp2
      go_region_law ((refine step_append_lies _ (by rfl) _ _ _ (by rfl) w.heap.size 5 i0 (.int .u8 0) 1 1 Tryd.underlying22 hi hz0 hz1 hz2 rfl (by omega) _ (2 * k) _ (by rfl) ((hown.alloc _).drew) ⟨wr.heap.size, 0, none⟩ 2 2 [.int .u8 ((hexd (s[k].toNat / 16) : Nat) : Int), .int .u8 ((hexd (s[k].toNat % 16) : Nat) : Int)] (by rfl) (by rfl) (World.news_of_block (cs := #[.int .u8 ((hexd (s[k].toNat / 16) : Nat) : Int), .int .u8 ((hexd (s[k].toNat % 16) : Nat) : Int)]) (t := 5) (fr := (0, 0)) (heap_alloc_new wr _)) (two_oneCell _ _ _ _) (by omega) hmax hbyt (by simp; omega) (wr.heap.size + 1) (by simp) ?_; intro gg cap w1 hown1 hgrow hat hlt))
      all_goals
        go_wp2
        go_roundw
        case rel => exact ⟨k + 1, by omega, by go_num, by rw [HT.out, ← HP.out]; exact hown1, ((hb.alloc hb.size _).drew).grown hgrow (by have := hb.size; simp; omega) (fun j hj => (hown.lt j hj).1)⟩
        case measure => simp [intOf]; omega
    · obtain rfl : k = s.size := by omega
      have hcv := owned_string Tryd.underlying22 Tryd.underlying5 Tryd.underlying9 (by rw [hexL_length, List.length_take, Array.length_toList]; show 2 * min s.data.size s.data.size = 2 * s.data.size; rw [Nat.min_self]) hown
      rw [List.take_of_length_le (by rw [Array.length_toList]; exact Nat.le_refl _)] at hcv
      clear hown
      go_wp2
      go_ret
      exact ⟨rfl, hb⟩
theorem hv_yes (c : Nat) (w : World) (hc : IsHex c) : Calls Tryd.prog 27 #[.int .i32 (c : Int)] w fun e w' => e = .returned (.tuple #[.int .u8 ((hv c : Nat) : Int), .bool true]) ∧ w = w' := by
  rcases hc with h | h
  · have HV := Lib.hid (hv_low h.2)
    obtain ⟨h1, h2⟩ := h
    have d1 : decide ((48 : Int) ≤ (c : Int)) = true := by simp; omega
    have d2 : decide ((c : Int) ≤ 57) = true := by simp; omega
    go_enter Tryd.func27, Tryd.ntmps27
    go_wp2
    go_ret2
    exact ⟨by rw [HV.out]; simp; omega, rfl⟩
  · have HV := Lib.hid (hv_high (show ¬ c ≤ 57 by omega))
    obtain ⟨h1, h2⟩ := h
    have d0 : decide ((48 : Int) ≤ (c : Int)) = true := by simp; omega
    have d00 : decide ((c : Int) ≤ 57) = false := by simp; omega
    have d1 : decide ((97 : Int) ≤ (c : Int)) = true := by simp; omega
    have d2 : decide ((c : Int) ≤ 102) = true := by simp; omega
    go_enter Tryd.func27, Tryd.ntmps27
    go_wp2
    go_ret2
    exact ⟨by rw [HV.out]; simp; omega, rfl⟩
theorem iter_setCell (W : World) (s : ByteArray) (p : Nat) (b j : Nat) (v : Value) (h : b < W.heap.size) : (W.iter s p).setCell ⟨b, j, none⟩ v = (W.setCell ⟨b, j, none⟩ v).iter s p := by
  unfold World.iter
  exact World.setCell_alloc_past _ _ _ _ h
theorem setCell_size (W : World) (a : Addr) (v : Value) : (W.setCell a v).heap.size = W.heap.size := by simp [World.setCell]
theorem hv_at (s : ByteArray) (x : Nat) (h : x < s.size) (hc : IsHex (bt s x)) (w : World) : Calls Tryd.prog 27 #[.int .i32 (((s[x]'h).toNat : Nat) : Int)] w fun e w' => e = .returned (.tuple #[.int .u8 ((hv (bt s x) : Nat) : Int), .bool true]) ∧ w = w' := by
  have := hv_yes (bt s x) w hc
  rw [bt_at s x h] at this ⊢
  exact this
set_option maxRecDepth 100000 in
theorem dh_good (s : ByteArray) (w : World) (hs : s.size ≤ 1048576) (ho : s.size % 2 = 0) (hg : ∀ k, k < s.size → IsHex (bt s k)) :
    Calls Tryd.prog 16 #[.string s] w fun e w' => e = .returned (.tuple #[.string (unS s), .bool true]) ∧ Below w.heap.size w w' := by
  obtain ⟨n, hn⟩ : ∃ n, s.size = 2 * n := ⟨s.size / 2, by omega⟩
  have HG := Lib.hid hg
  have HN := Lib.hid hn
  have hd : ((s.size : Int) % 2 != 0) = false := by simp; omega
  have hmk := fun (W : World) => run_make_row' (P := Tryd.prog) 22 5 (.int .u8 0) 1 Tryd.underlying22 info5 rfl .i64 .i64 n (by omega) (by omega) W
  have hq : (s.size : Int) / 2 = (n : Int) := by omega
  clear hg ho hn
  go_enter Tryd.func16, Tryd.ntmps16
  go_wp2
  clear hmk hd hq
  go_loopw [5] (fun _ wr => ∃ (k : Nat) (W : World), k ≤ s.size ∧ wr = W.iter s k ∧ W.heap.size = w.heap.size + 1 ∧ W.rowIs w.heap.size 5 n (rowU s k) ∧ Below w.heap.size w W) (fun _ wr => s.size - wr.iterPos (w.heap.size + 1))
  case atStart => exact ⟨0, _, Nat.zero_le _, rfl, by simp, (World.rowIs_made _ _ _ _).congr fun j hj => (rowU_zero s j).symm, (Below.refl _ _).alloc (Nat.le_refl _) _⟩
  case round =>
    obtain ⟨k, W, hk, rfl, hW, hr, hb⟩ := hrel
    have HW := Lib.hid hW
    have hip : (W.iter s k).iterPos (w.heap.size + 1) = k := by rw [← hW]; exact World.iterPos_iter W s k
    rw [hip]
    clear hip
    by_cases hlt : k < s.size
    · have h1 := HG.out k hlt
      have e1 := bt_at s k hlt
      have hnx := fun ty => run_next_ascii (P := Tryd.prog) W s k ty hlt (by rw [← e1]; exact isHex_lt h1)
      rw [hW] at hnx
      have HF := Lib.hid (fun W => hv_at s k hlt h1 W)
      have l1 := hv_lt h1
      have hk2 : k / 2 < n := by have := HN.out; omega
      have hk2I : (k : Int) / 2 < (n : Int) := by omega
      have hold := cellU_old s k (by
        by_cases h0 : k = 0
        · subst h0; exact l1
        · exact hv_lt (HG.out (k - 1) (by omega)))
      have hc : (W.iter s (k + 1)).cell? ⟨w.heap.size, k / 2, none⟩ = some (.int .u8 ((cellU s k (k / 2) : Nat) : Int)) := by
        unfold World.iter
        rw [World.cell?_alloc_past _ _ _ (by omega)]
        exact hr.cell hk2
      have hf : (W.iter s (k + 1)).frozen? ⟨w.heap.size, k / 2, none⟩ = false := by
        unfold World.iter
        rw [World.frozen?_alloc_past _ _ _ (by omega)]
        exact hr.frozen _
      have HR := Lib.hid hr
      have HO := Lib.hid (or_nib (cellU s k (k / 2)) (hv (bt s k)) hold l1)
      have HS := Lib.hid (fun j => rowU_succ s k j)
      clear hr h1 e1 hW
      generalize cellU s k (k / 2) = x at *
      generalize hv (bt s k) = d at *
      go_wp2_with (go_at_call 27; (with_reducible refine (HF.out _).mono ?_); rintro e w' ⟨rfl, rfl⟩)
      have hlW : w.heap.size < W.heap.size := by have := HW.out; omega
      go_roundw
      case rel => exact ⟨k + 1, _, by omega, iter_setCell W s (k + 1) _ _ _ hlW, by rw [setCell_size]; exact HW.out, (HR.out.set (k / 2) _).congr (fun j _ => by rw [HO.out]; exact HS.out j), hb.setCell (Nat.le_refl _) _⟩
      case measure =>
        rw [iter_setCell W s (k + 1) _ _ _ hlW]
        have hp := World.iterPos_iter (W.setCell ⟨w.heap.size, k / 2, none⟩ (.int .u8 (bits .or .u8 ((x : Int) * 16) (d : Int)))) s (k + 1)
        rw [setCell_size, HW.out] at hp
        rw [hp]
        omega
    · obtain rfl : k = s.size := by omega
      have hnx := fun ty => run_next_end (P := Tryd.prog) W s s.size ty (by omega)
      rw [hW] at hnx
      have hcv := run_convert_bytes_back (P := Tryd.prog) (W.iter s s.size) 22 9 5 ⟨w.heap.size, 0, none⟩ n (unL s n) Tryd.underlying22 Tryd.underlying5 Tryd.underlying9 (fun jj hjj => by
        rw [unL_length] at hjj
        rw [Addr.add_lit, Nat.zero_add]
        unfold World.iter
        rw [World.cell?_alloc_past _ _ _ (by omega), hr.cell hjj, show rowU s s.size jj = rowU s (2 * n) jj from by rw [HN.out]]
        exact congrArg some (rowU_full s n jj hjj (hv_lt (HG.out _ (by have := HN.out; omega))) (hv_lt (HG.out _ (by have := HN.out; omega)))))
      rw [unL_length] at hcv
      have HC : (⟨(unL s n).toArray⟩ : ByteArray) = unS s := by unfold unS; rw [show s.size / 2 = n from by have := HN.out; omega]
      rw [HC] at hcv
      clear hr hW HC
      go_wp2
      go_ret2
      exact ⟨rfl, hb.alloc hb.size _⟩
end Go.Proofs.YtfjjpmpkjcopiaaDoor.port
