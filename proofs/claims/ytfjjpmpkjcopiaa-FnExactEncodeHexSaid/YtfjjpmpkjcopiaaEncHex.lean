/- EncodeHex of the model and of the program at every string of at most 1048576 bytes: the digits of its bytes, and nothing that was there is written. -/
import Derived.Test.YtfjjpmpkjcopiaaHex
import Derived.WalkKit
import Derived.ProofKit
import Derived.OpenShut
import Derived.ShutString
import Derived.ChangeOld
import Derived.Below
import Derived.Lib.Hide
import Derived.Deep.RegionLaw
import Derived.Deep.AppendLies
namespace Go.Proofs.Ytfjjpmpkjcopiaa.encHex
open Go.ChangeShapes Go.WideShapes Go.ChangeAt Go.RowKit
open Go.ChangeMaps (open_string shut_string)
open Go.Proofs.Ytfjjpmpkjcopiaa.num Go.Proofs.Ytfjjpmpkjcopiaa.conv Go.Proofs.Ytfjjpmpkjcopiaa.var Go.Proofs.Ytfjjpmpkjcopiaa.hex
set_option linter.unusedVariables false
theorem digit (x : Int) (k : Nat) (w : World) (he : x = (k : Int)) (h : k < 16) : Calls Try.prog 23 #[.int .i64 x] w fun e w' => e = .returned (.int .u8 ((hexd k : Nat) : Int)) ∧ w = w' := by
  have hx := fun W : World => index_lit (P := Try.prog) Try.underlying9 .i64 x k he h W
  clear he
  go_enter Try.func23, Try.ntmps23
  go_wp2
  go_ret
  exact ⟨rfl, rfl⟩
set_option maxHeartbeats 400000 in
set_option maxRecDepth 100000 in
theorem spec_hex (s : ByteArray) (w : World) (hs : s.size ≤ 1048576) :
    Calls Try.prog 17 #[.string s] w fun e w' => e = Ending.returned (.string (hexS s)) ∧ Below w.heap.size w w' := by
  obtain ⟨i0, hi, hz0, hz1, hz2⟩ := info_parts info5
  go_enter Try.func17, Try.ntmps17
  go_wp2
  go_loopw [3, 4] (fun v i wr => ∃ (k : Nat), k ≤ s.size ∧ i = .int .i64 k ∧ wr.ownsRow w.heap.size 5 1 v (2 * k) ((hexL (s.data.toList.take k)).map byteV) ∧ Below w.heap.size w wr) (fun _ i _ => s.size - (intOf i).toNat)
  case atStart => exact ⟨0, by omega, rfl, World.ownsRow_made _ _ _ (Nat.le_refl _) (by decide) rfl, (Below.refl _ _).alloc (Nat.le_refl _) _⟩
  case round =>
    obtain ⟨k, hk, rfl, hown, hb⟩ := hrel
    by_cases hks : k < s.size
    · have hc := s[k].toNat_lt
      have hmax : 2 * k + 2 ≤ maxLen := by unfold maxLen; omega
      have hbyt : (2 * k + 2) * 1 ≤ 140737488355328 := by omega
      have hbase : w.heap.size ≤ wr.heap.size + 1 := by have := hb.size; omega
      have HP := Lib.hid (pair_row (hexL (s.data.toList.take k)) s[k])
      have HT := Lib.hid (hexL_take s k hks)
      have hq16 : s[k].toNat / 16 < 16 := by omega
      have hm16 : s[k].toNat % 16 < 16 := by omega
      have HD1 := Lib.hid (fun W => digit (((s[k].toNat : Nat) : Int) / 16) (s[k].toNat / 16) W (by omega) hq16)
      have HD2 := Lib.hid (fun W => digit (((s[k].toNat : Nat) : Int) % 16) (s[k].toNat % 16) W (by omega) hm16)
      clear hq16 hm16
      have g1 : IntKind.i64.wrap ((s[k].toNat : Nat) : Int) = ((s[k].toNat : Nat) : Int) := IntWalk.i64_in _ (by omega)
      have g2 : IntKind.i64.wrap (((s[k].toNat : Nat) : Int).tdiv 16) = ((s[k].toNat : Nat) : Int) / 16 := IntWalk.i64_quo _ _ (by omega)
      have g4 : IntKind.i64.wrap (((s[k].toNat : Nat) : Int) / 16) = ((s[k].toNat : Nat) : Int) / 16 := IntWalk.i64_in _ (by omega)
      have g3 : (((s[k].toNat : Nat) : Int)).tmod 16 = ((s[k].toNat : Nat) : Int) % 16 := IntWalk.rem_in _ _ (by omega)
      go_wp2
      go_region_law (first | (refine step_append_lies _ (by rfl) _ _ _ (by rfl) w.heap.size 5 i0 (.int .u8 0) 1 1 Try.underlying36 hi hz0 hz1 hz2 rfl (by decide) _ (2 * k) _ (by rfl) ((hown.alloc _).drew) ⟨wr.heap.size, 0, none⟩ 2 2 [.int .u8 ((hexd (s[k].toNat / 16) : Nat) : Int), .int .u8 ((hexd (s[k].toNat % 16) : Nat) : Int)] (by rfl) (by rfl) (World.news_of_block (cs := #[.int .u8 ((hexd (s[k].toNat / 16) : Nat) : Int), .int .u8 ((hexd (s[k].toNat % 16) : Nat) : Int)]) (t := 5) (fr := (0, 0)) (heap_alloc_new wr _)) (two_oneCell _ _ _ _) (by decide) hmax hbyt (by simp; exact hbase) (wr.heap.size + 1) (by simp) ?_; intro gg cap w1 hown1 hgrow hat hlt) | (go_simp; go_at_call 23; (first | (with_reducible refine (HD1.out _).mono ?_) | (with_reducible refine (HD2.out _).mono ?_)); rintro e w' ⟨rfl, rfl⟩))
      all_goals
        clear g1 g2 g3 g4
        go_wp2
        go_roundw
        case rel => exact ⟨k + 1, by omega, by go_num, by rw [HT.out, ← HP.out]; exact hown1, ((hb.alloc hb.size _).drew).grown hgrow (by have := hb.size; simp; omega) (fun j hj => (hown.lt j hj).1)⟩
        case measure => simp [intOf]; omega
    · obtain rfl : k = s.size := by omega
      have hcv := owned_string Try.underlying36 Try.underlying5 Try.underlying9 (by rw [hexL_length, List.length_take, Array.length_toList]; show 2 * min s.data.size s.data.size = 2 * s.data.size; rw [Nat.min_self]) hown
      rw [List.take_of_length_le (by rw [Array.length_toList]; exact Nat.le_refl _)] at hcv
      clear hown
      go_wp2
      go_ret
      exact ⟨rfl, hb⟩
set_option maxRecDepth 100000 in
theorem impl_hex (s : ByteArray) (w : World) (hs : s.size ≤ 1048576) :
    Calls Try.prog 18 #[.string s] w fun e w' => e = Ending.returned (.string (hexS s)) ∧ Below w.heap.size w w' := by
  obtain ⟨i0, hi, hz0, hz1, hz2⟩ := info_parts info5
  have hmk := fun (W : World) => run_make (P := Try.prog) W 36 5 i0 (.int .u8 0) Try.underlying36 hi hz0 .i64 .i64 0 (2 * (s.size : Int)) (Int.le_refl _) (by omega) (by rw [hz2]; omega) (by omega)
  go_enter Try.func18, Try.ntmps18
  go_wp2
  clear hmk
  go_loopw [3, 11] (fun v i wr => ∃ (k : Nat), k ≤ s.size ∧ i = .int .i64 k ∧ wr.ownsRow w.heap.size 5 1 v (2 * k) ((hexL (s.data.toList.take k)).map byteV) ∧ Below w.heap.size w wr) (fun _ i _ => s.size - (intOf i).toNat)
  case atStart => exact ⟨0, by omega, rfl, World.ownsRow_made _ _ _ (Nat.le_refl _) (by unfold maxLen; omega) (by rw [size_madeCells]; omega), (Below.refl _ _).alloc (Nat.le_refl _) _⟩
  case round =>
    obtain ⟨k, hk, rfl, hown, hb⟩ := hrel
    by_cases hks : k < s.size
    · have hc := s[k].toNat_lt
      have hand := and_15 s[k]
      have hx1 := fun W : World => index_lit (P := Try.prog) Try.underlying9 .u8 (((s[k].toNat : Nat) : Int) / 16) (s[k].toNat / 16) (by omega) (by omega) W
      have hx2 := fun W : World => index_lit (P := Try.prog) Try.underlying9 .u8 (((s[k].toNat : Nat) : Int) % 16) (s[k].toNat % 16) (by omega) (by omega) W
      have hmax : 2 * k + 2 ≤ maxLen := by unfold maxLen; omega
      have hbyt : (2 * k + 2) * 1 ≤ 140737488355328 := by omega
      have hbase : w.heap.size ≤ wr.heap.size + 1 := by have := hb.size; omega
      have HP := Lib.hid (pair_row (hexL (s.data.toList.take k)) s[k])
      have HT := Lib.hid (hexL_take s k hks)
      go_wp2
      go_region_law ((refine step_append_lies _ (by rfl) _ _ _ (by rfl) w.heap.size 5 i0 (.int .u8 0) 1 1 Try.underlying36 hi hz0 hz1 hz2 rfl (by omega) _ (2 * k) _ (by rfl) ((hown.alloc _).drew) ⟨wr.heap.size, 0, none⟩ 2 2 [.int .u8 ((hexd (s[k].toNat / 16) : Nat) : Int), .int .u8 ((hexd (s[k].toNat % 16) : Nat) : Int)] (by rfl) (by rfl) (World.news_of_block (cs := #[.int .u8 ((hexd (s[k].toNat / 16) : Nat) : Int), .int .u8 ((hexd (s[k].toNat % 16) : Nat) : Int)]) (t := 5) (fr := (0, 0)) (heap_alloc_new wr _)) (two_oneCell _ _ _ _) (by omega) hmax hbyt (by simp; omega) (wr.heap.size + 1) (by simp) ?_; intro gg cap w1 hown1 hgrow hat hlt))
      all_goals
        go_wp2
        go_roundw
        case rel => exact ⟨k + 1, by omega, by go_num, by rw [HT.out, ← HP.out]; exact hown1, ((hb.alloc hb.size _).drew).grown hgrow (by have := hb.size; simp; omega) (fun j hj => (hown.lt j hj).1)⟩
        case measure => simp [intOf]; omega
    · obtain rfl : k = s.size := by omega
      have hcv := owned_string Try.underlying36 Try.underlying5 Try.underlying9 (by rw [hexL_length, List.length_take, Array.length_toList]; show 2 * min s.data.size s.data.size = 2 * s.data.size; rw [Nat.min_self]) hown
      rw [List.take_of_length_le (by rw [Array.length_toList]; exact Nat.le_refl _)] at hcv
      clear hown
      go_wp2
      go_ret
      exact ⟨rfl, hb⟩
end Go.Proofs.Ytfjjpmpkjcopiaa.encHex
