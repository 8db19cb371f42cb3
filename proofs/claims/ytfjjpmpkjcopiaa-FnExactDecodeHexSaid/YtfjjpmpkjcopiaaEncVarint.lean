/- EncodeVarint of the model and of the program at every number: the same string, and nothing that was there is written. -/
import Derived.Test.YtfjjpmpkjcopiaaRows
import Derived.Test.YtfjjpmpkjcopiaaVar
import Derived.WalkKit
import Derived.ProofKit
import Derived.OpenShut
import Derived.ShutString
import Derived.ChangeOld
import Derived.Below
import Derived.Lib.Hide
import Derived.Maps.AppendAt
namespace Go.Proofs.Ytfjjpmpkjcopiaa.encVarint
open Go.ChangeShapes Go.WideShapes Go.ChangeAt Go.RowKit
open Go.ChangeMaps (open_string shut_string)
open Go.Proofs.Ytfjjpmpkjcopiaa.num Go.Proofs.Ytfjjpmpkjcopiaa.conv Go.Proofs.Ytfjjpmpkjcopiaa.var
set_option linter.unusedVariables false
theorem one_oneCell (k : IntKind) (n : Int) : ∀ u ∈ [Value.int k n], u.oneCell' = true := by
  intro u hu; simp at hu; subst hu; rfl
theorem in_yes (x lo hi : Int) (w : World) (h1 : lo ≤ x) (h2 : x ≤ hi) : Calls Try.prog 21 #[.int .i64 x, .int .i64 lo, .int .i64 hi] w fun e w' => e = .returned (.bool true) ∧ w = w' := by
  go_enter Try.func21, Try.ntmps21
  go_wp2
  go_ret
  exact ⟨rfl, rfl⟩
set_option maxRecDepth 100000 in
theorem spec_yes (m : Nat) (w : World) (h0 : m ≤ 562949953421311) :
    Calls Try.prog 13 #[.int .i64 m] w fun e w' => e = Ending.returned (.string (vencS m)) ∧ Below w.heap.size w w' := by
  obtain ⟨i0, hi, hz0, hz1, hz2⟩ := info_parts info5
  have hI : (m : Int) ≤ 562949953421311 := by omega
  have hD : decide ((m : Int) ≤ 562949953421311) = true := by simpa using hI
  go_enter Try.func13, Try.ntmps13
  go_wp2_with (go_at_call 21; refine (in_yes _ _ _ _ (by omega) (by omega)).mono ?_; rintro e w' ⟨rfl, rfl⟩)
  clear hI hD
  go_loopw [0, 3] (fun t v wr => ∃ (x : Nat) (acc : List UInt8), acc ++ venc x = venc m ∧ 127 * acc.length + x ≤ m ∧ t = .int .i64 x ∧ wr.ownsRow w.heap.size 5 1 v acc.length (acc.map byteV) ∧ Below w.heap.size w wr) (fun t _ _ => (intOf t).toNat)
  case atStart => exact ⟨m, [], rfl, by simp, rfl, World.ownsRow_made _ _ _ (Nat.le_refl _) (by decide) rfl, (Below.refl _ _).alloc (Nat.le_refl _) _⟩
  case round =>
    obtain ⟨x, acc, he, hlen, rfl, hown, hb⟩ := hrel
    have HE := Lib.hid he
    clear he
    have hmax : acc.length + 1 ≤ maxLen := by unfold maxLen; omega
    have hbyt : (acc.length + 1) * 1 ≤ 140737488355328 := by omega
    have hbase : ∀ o, w.heap.size ≤ (wr.alloc o).heap.size := fun o => by have := hb.size; simp; omega
    by_cases hlt : x < 128
    · have hltI : (x : Int) < 128 := by omega
      go_wp2_with (at_builtin; refine wpList_append_own _ rfl _ _ 36 rfl w.heap.size 5 i0 (.int .u8 0) 1 1 Try.underlying36 hi hz0 hz1 hz2 rfl (by decide) _ _ _ rfl (hown.alloc _) ⟨_, 0, none⟩ 1 1 [.int .u8 (x : Int)] rfl rfl (cell_one_new _ _ _) (one_oneCell _ _) hmax hbyt (hbase _) ?_)
      intro v' w1 hown' hgrow _
      rw [last_row acc x hlt] at hown'
      have hcv := owned_string Try.underlying36 Try.underlying5 Try.underlying9 (by simp) hown'
      rw [last_enc acc m x hlt HE.out] at hcv
      clear hown'
      go_wp2
      go_ret
      exact ⟨rfl, (hb.alloc hb.size _).grown hgrow (by have := hb.size; simp; omega) (fun k hk => (hown.lt k hk).1)⟩
    · have hltI : ¬ (x : Int) < 128 := by omega
      go_wp2_with (at_builtin; refine wpList_append_own _ rfl _ _ 36 rfl w.heap.size 5 i0 (.int .u8 0) 1 1 Try.underlying36 hi hz0 hz1 hz2 rfl (by decide) _ _ _ rfl (hown.alloc _) ⟨_, 0, none⟩ 1 1 [.int .u8 (128 + (x : Int) % 128)] rfl rfl (cell_one_new _ _ _) (one_oneCell _ _) hmax hbyt (hbase _) ?_)
      intro v' w1 hown' hgrow _
      rw [round_row acc x] at hown'
      have hb1 : Below w.heap.size w w1 := (hb.alloc hb.size _).grown hgrow (by have := hb.size; simp; omega) (fun k hk => (hown.lt k hk).1)
      go_wp2
      go_roundw
      case rel => exact ⟨x / 128, acc ++ [UInt8.ofNat (128 + x % 128)], by rw [round_enc acc x hlt]; exact HE.out, by simp; omega, rfl, by simpa using hown', hb1⟩
      case measure => simp [intOf]; omega
set_option maxRecDepth 100000 in
theorem impl_yes (m : Nat) (w : World) (h0 : m ≤ 562949953421311) :
    Calls Try.prog 14 #[.int .i64 m] w fun e w' => e = Ending.returned (.string (vencS m)) ∧ Below w.heap.size w w' := by
  obtain ⟨i0, hi, hz0, hz1, hz2⟩ := info_parts info5
  have hI : (m : Int) ≤ 562949953421311 := by omega
  have hD : decide ((562949953421311 : Int) < (m : Int)) = false := by simpa using hI
  have hneg : decide ((m : Int) < 0) = false := by simp
  have hmk : ∀ W : World, (Instr.makeSlice 36 (.int .i64 0) (.int .i64 7)).run Try.prog W = .ok (.slice (some ⟨W.heap.size, 0, none⟩) 0 7) (W.alloc (.cells #[.int .u8 0, .int .u8 0, .int .u8 0, .int .u8 0, .int .u8 0, .int .u8 0, .int .u8 0] 5)) := fun _ => by kernel_rfl
  go_enter Try.func14, Try.ntmps14
  go_wp2
  clear hI hD hneg hmk
  go_loopw [0, 3] (fun t v wr => ∃ (x : Nat) (acc : List UInt8), acc ++ venc x = venc m ∧ 127 * acc.length + x ≤ m ∧ t = .int .i64 x ∧ wr.ownsRow w.heap.size 5 1 v acc.length (acc.map byteV) ∧ Below w.heap.size w wr) (fun t _ _ => (intOf t).toNat)
  case atStart => exact ⟨m, [], rfl, by simp, rfl, World.ownsRow_made _ _ _ (Nat.le_refl _) (by decide) rfl, (Below.refl _ _).alloc (Nat.le_refl _) _⟩
  case round =>
    obtain ⟨x, acc, he, hlen, rfl, hown, hb⟩ := hrel
    have HE := Lib.hid he
    clear he
    have hmax : acc.length + 1 ≤ maxLen := by unfold maxLen; omega
    have hbyt : (acc.length + 1) * 1 ≤ 140737488355328 := by omega
    have hbase : ∀ o, w.heap.size ≤ (wr.alloc o).heap.size := fun o => by have := hb.size; simp; omega
    by_cases hlt : x < 128
    · have hltI : (x : Int) < 128 := by omega
      go_wp2_with (at_builtin; refine wpList_append_own _ rfl _ _ 36 rfl w.heap.size 5 i0 (.int .u8 0) 1 1 Try.underlying36 hi hz0 hz1 hz2 rfl (by decide) _ _ _ rfl (hown.alloc _) ⟨_, 0, none⟩ 1 1 [.int .u8 (x : Int)] rfl rfl (cell_one_new _ _ _) (one_oneCell _ _) hmax hbyt (hbase _) ?_)
      intro v' w1 hown' hgrow _
      rw [last_row acc x hlt] at hown'
      have hcv := owned_string Try.underlying36 Try.underlying5 Try.underlying9 (by simp) hown'
      rw [last_enc acc m x hlt HE.out] at hcv
      clear hown'
      go_wp2
      go_ret
      exact ⟨rfl, (hb.alloc hb.size _).grown hgrow (by have := hb.size; simp; omega) (fun k hk => (hown.lt k hk).1)⟩
    · have hltI : ¬ (x : Int) < 128 := by omega
      have hor := or_128 x
      go_wp2_with (at_builtin; refine wpList_append_own _ rfl _ _ 36 rfl w.heap.size 5 i0 (.int .u8 0) 1 1 Try.underlying36 hi hz0 hz1 hz2 rfl (by decide) _ _ _ rfl (hown.alloc _) ⟨_, 0, none⟩ 1 1 [.int .u8 (128 + (x : Int) % 128)] rfl rfl (cell_one_new _ _ _) (one_oneCell _ _) hmax hbyt (hbase _) ?_)
      intro v' w1 hown' hgrow _
      clear hor
      rw [round_row acc x] at hown'
      have hb1 : Below w.heap.size w w1 := (hb.alloc hb.size _).grown hgrow (by have := hb.size; simp; omega) (fun k hk => (hown.lt k hk).1)
      go_wp2
      go_roundw
      case rel => exact ⟨x / 128, acc ++ [UInt8.ofNat (128 + x % 128)], by rw [round_enc acc x hlt]; exact HE.out, by simp; omega, rfl, by simpa using hown', hb1⟩
      case measure => simp [intOf]; omega

theorem in_no1 (x lo hi : Int) (w : World) (h1 : x < lo) : Calls Try.prog 21 #[.int .i64 x, .int .i64 lo, .int .i64 hi] w fun e w' => e = .returned (.bool false) ∧ w = w' := by
  go_enter Try.func21, Try.ntmps21
  go_wp2
  go_ret
  exact ⟨rfl, rfl⟩
theorem in_no2 (x lo hi : Int) (w : World) (h0 : lo ≤ x) (h1 : hi < x) : Calls Try.prog 21 #[.int .i64 x, .int .i64 lo, .int .i64 hi] w fun e w' => e = .returned (.bool false) ∧ w = w' := by
  have hd : decide (x ≤ hi) = false := by simpa using h1
  go_enter Try.func21, Try.ntmps21
  go_wp2
  go_ret
  exact ⟨rfl, rfl⟩
theorem in_no (x lo hi : Int) (w : World) (h : x < lo ∨ hi < x) : Calls Try.prog 21 #[.int .i64 x, .int .i64 lo, .int .i64 hi] w fun e w' => e = .returned (.bool false) ∧ w = w' := by
  by_cases h0 : x < lo
  · exact in_no1 x lo hi w h0
  · exact in_no2 x lo hi w (by omega) (by omega)
theorem spec_no (n : Int) (w : World) (h : n < 0 ∨ 562949953421311 < n) :
    Calls Try.prog 13 #[.int .i64 n] w fun e w' => e = Ending.returned (.string ByteArray.empty) ∧ Below w.heap.size w w' := by
  have H := Lib.hid h
  clear h
  go_enter Try.func13, Try.ntmps13
  go_wp2_with (go_at_call 21; refine (in_no _ _ _ _ H.out).mono ?_; rintro e w' ⟨rfl, rfl⟩)
  go_ret
  exact ⟨rfl, Below.refl _ _⟩
theorem impl_no (n : Int) (w : World) (h : n < 0 ∨ 562949953421311 < n) :
    Calls Try.prog 14 #[.int .i64 n] w fun e w' => e = Ending.returned (.string ByteArray.empty) ∧ Below w.heap.size w w' := by
  by_cases h1 : n < 0
  · clear h
    go_enter Try.func14, Try.ntmps14
    go_wp2
    go_ret
    exact ⟨rfl, Below.refl _ _⟩
  · have h2 : 562949953421311 < n := by omega
    clear h
    go_enter Try.func14, Try.ntmps14
    go_wp2
    go_ret
    exact ⟨rfl, Below.refl _ _⟩
/-- Whatever the number: both functions answer the same string. -/
theorem both (n : Int) : ∃ S : ByteArray, ∀ w : World,
    Calls Try.prog 13 #[.int .i64 n] w (fun e w' => e = .returned (.string S) ∧ Below w.heap.size w w') ∧
    Calls Try.prog 14 #[.int .i64 n] w (fun e w' => e = .returned (.string S) ∧ Below w.heap.size w w') := by
  by_cases h : n < 0 ∨ 562949953421311 < n
  · exact ⟨_, fun w => ⟨spec_no n w h, impl_no n w h⟩⟩
  · obtain ⟨m, rfl⟩ := Int.eq_ofNat_of_zero_le (show 0 ≤ n by omega)
    exact ⟨vencS m, fun w => ⟨spec_yes m w (by omega), impl_yes m w (by omega)⟩⟩
end Go.Proofs.Ytfjjpmpkjcopiaa.encVarint
