/- FormatInt of the model and of the program at every int: the decimal numeral, and nothing that was there is written. The program's leans on the library's table internal/strconv.uint64pow10. -/
import Derived.Test.YtjnlbhmddhpmaabDoorFmt
import Derived.Test.YtjnlbhmddhpmaabDoorItoa
import Derived.WalkKit
import Derived.ProofKit
import Derived.OpenShut
import Derived.ShutString
import Derived.ChangeOld
import Derived.Below
import Derived.Lib.Hide
import Derived.Lib.AppendIntMem
namespace Go.Proofs.YtjnlbhmddhpmaabDoor.fmtInt
open Go.ChangeShapes Go.WideShapes Go.ChangeAt Go.RowKit
open Go.ChangeMaps (open_string shut_string)
open Go.Proofs.YtjnlbhmddhpmaabDoor.fmtn
set_option linter.unusedVariables false
attribute [local go_sem] conv1
theorem spec_zero (w : World) : Calls Tryd.prog 26 #[.int .i64 0] w fun e w' => e = .returned (.string (S (Lib.itoa 0))) ∧ Below w.heap.size w w' := by
  have h : S (Lib.itoa 0) = ⟨#[48]⟩ := by unfold S; rw [show Lib.itoa 0 = Lib.decDigits 0 from rfl, Lib.decDigits_one (by decide)]; rfl
  have H := Lib.hid h
  clear h
  go_enter Tryd.func26, Tryd.ntmps26
  go_wp2
  go_ret
  exact ⟨by rw [H.out]; rfl, Below.refl _ _⟩
theorem spec_pos (m : Nat) (w : World) (h0 : 0 < m) (h1 : m ≤ 9223372036854775807) :
    Calls Tryd.prog 26 #[.int .i64 m] w fun e w' => e = .returned (.string (S (Lib.itoa m))) ∧ Below w.heap.size w w' := by
  have HD := Lib.hid (show S (Lib.itoa (m : Int)) = S (Lib.decDigits m) from by unfold Lib.itoa; rw [if_neg (by omega), Int.toNat_natCast])
  have hz : ((m : Int) == 0) = false := by simp; omega
  have hn : decide ((m : Int) < 0) = false := by simp
  have hl20 := dec_len m (by omega)
  have HL := Lib.hid (left_start m (by omega))
  generalize Lib.decDigits m = D at *
  go_enter Tryd.func26, Tryd.ntmps26
  go_wp2
  go_loopw [0, 3] (fun t o wr => ∃ (x : Nat) (l : List UInt8), x ≤ m ∧ t = .int .i64 x ∧ o = .string (S l) ∧ DigRest D x l ∧ Below w.heap.size w wr) (fun t _ _ => (intOf t).toNat)
  case atStart => exact ⟨m, [], Nat.le_refl _, rfl, rfl, HL.out, Below.refl _ _⟩
  case round =>
    obtain ⟨x, l, hx, rfl, rfl, hL, hb⟩ := hrel
    have HX := Lib.hid hL
    have hll := left_len hL
    have hss : (S l).size ≤ 20 := by rw [S_size]; omega
    have HS := Lib.hid (S_cons48 (x % 10) l)
    clear hL hll
    by_cases hx0 : x = 0
    · subst hx0
      have HE := Lib.hid (left_end HX.out)
      go_wp2
      go_ret
      exact ⟨by rw [HD.out, ← HE.out]; rfl, hb⟩
    · have hne : ((x : Int) != 0) = true := by simp; omega
      have HX0 := Lib.hid hx0
      clear hx0
      go_wp2
      go_roundw
      case rel => exact ⟨x / 10, _, by omega, rfl, by rw [← HS.out], left_step HX0.out HX.out, hb.alloc hb.size _⟩
      case measure => have := HX0.out; simp [intOf]; omega
theorem spec_neg (m : Nat) (w : World) (h0 : 0 < m) (h1 : m ≤ 9223372036854775808) :
    Calls Tryd.prog 26 #[.int .i64 (-(m : Int))] w fun e w' => e = .returned (.string (S (Lib.itoa (-(m : Int))))) ∧ Below w.heap.size w w' := by
  have HD := Lib.hid (show S (Lib.itoa (-(m : Int))) = S (45 :: Lib.decDigits m) from by unfold Lib.itoa; rw [if_pos (by omega), show (-(m : Int)).natAbs = m from by omega])
  have hl20 := dec_len m (by omega)
  have HL := Lib.hid (left_start m (by omega))
  generalize Lib.decDigits m = D at *
  obtain ⟨y, hy⟩ : ∃ y : Int, y = -(m : Int) := ⟨_, rfl⟩
  rw [← hy] at HD ⊢
  have HY := Lib.hid hy
  have hz : (y == 0) = false := by simp; omega
  have hn : decide (y < 0) = true := by simp; omega
  have hyb : -9223372036854775808 ≤ y ∧ y < 0 := by omega
  clear hy
  go_enter Tryd.func26, Tryd.ntmps26
  go_wp2
  go_loopw [0, 3] (fun t o wr => ∃ (x : Nat) (z : Int) (l : List UInt8), x ≤ m ∧ z = -(x : Int) ∧ t = .int .i64 z ∧ o = .string (S l) ∧ DigRest D x l ∧ Below w.heap.size w wr) (fun t _ _ => (-(intOf t)).toNat)
  case atStart => exact ⟨m, y, [], Nat.le_refl _, HY.out, rfl, rfl, HL.out, Below.refl _ _⟩
  case round =>
    obtain ⟨x, z, l, hx, hzx, rfl, rfl, hL, hb⟩ := hrel
    have HX := Lib.hid hL
    have HZ := Lib.hid hzx
    have hll := left_len hL
    have hss : (S l).size ≤ 20 := by rw [S_size]; omega
    have HS := Lib.hid (S_cons48 (x % 10) l)
    have HM := Lib.hid (S_minus l)
    clear hL hll
    by_cases hx0 : x = 0
    · subst hx0
      obtain rfl : z = 0 := by omega
      have HE := Lib.hid (left_end HX.out)
      clear hzx
      go_wp2
      go_ret
      exact ⟨by rw [HD.out, ← HE.out, ← HM.out]; rfl, hb⟩
    · have hne : (z != 0) = true := by simp; omega
      have hzb : -9223372036854775808 ≤ z ∧ z < 0 := by omega
      have HX0 := Lib.hid hx0
      have hr : z.tmod 10 = -((x % 10 : Nat) : Int) := by subst hzx; rw [Int.neg_tmod]; rfl
      have HQ := Lib.hid (show z.tdiv 10 = -((x / 10 : Nat) : Int) from by subst hzx; rw [Int.neg_tdiv]; rfl)
      clear hx0 hzx
      have HS2 := Lib.hid (S_cons (48 + x % 10) l)
      go_wp2
      · go_roundw
        case rel => exact ⟨x / 10, _, _, by omega, HQ.out, rfl, by rw [← HS.out], left_step HX0.out HX.out, hb.alloc hb.size _⟩
        case measure => have := HX0.out; have := HQ.out; have := HZ.out; simp [intOf]; omega
      · go_roundw
        case rel => exact ⟨x / 10, _, _, by omega, HQ.out, rfl, by rw [← HS2.out, show ((48 : Int) + -((x : Int) % 10)).toNat = 48 + x % 10 from by omega], left_step HX0.out HX.out, hb.alloc hb.size _⟩
        case measure => have := HX0.out; have := HQ.out; have := HZ.out; simp [intOf]; omega
/-- The model's FormatInt at every int. -/
theorem spec_fmt (n : Int) (w : World) (h0 : -9223372036854775808 ≤ n) (h1 : n ≤ 9223372036854775807) :
    Calls Tryd.prog 26 #[.int .i64 n] w fun e w' => e = .returned (.string (S (Lib.itoa n))) ∧ Below w.heap.size w w' := by
  by_cases hz : n = 0
  · subst hz; exact spec_zero w
  · by_cases hp : 0 < n
    · obtain ⟨m, rfl⟩ := Int.eq_ofNat_of_zero_le (show 0 ≤ n by omega)
      exact spec_pos m w (by omega) (by omega)
    · obtain ⟨m, rfl⟩ : ∃ m : Nat, n = -(m : Int) := ⟨n.natAbs, by omega⟩
      exact spec_neg m w (by omega) (by omega)
/-- The program's FormatInt at every int, where the library's table lies as its text lays it. -/
theorem impl_fmt (n : Int) (w : World) (h0 : -9223372036854775808 ≤ n) (h1 : n ≤ 9223372036854775807) (htab : Lib.TabIs Tryd.prog w "internal/strconv.uint64pow10" .u64 Lib.pow10Tab) :
    Calls Tryd.prog 35 #[.int .i64 n] w fun e w' => e = .returned (.string (S (Lib.itoa n))) ∧ Below w.heap.size w w' := by
  have HC := Lib.hid (Tryd.strconv_Itoa n h0 h1 w htab)
  clear htab
  go_enter Tryd.func35, Tryd.ntmps35
  go_wp2_with fail
  refine HC.out.mono ?_
  rintro e W1 ⟨rfl, k, os, rfl⟩
  go_wp2_with fail
  go_ret
  exact ⟨rfl, Lib.below_grow _ _ (Nat.le_refl _) k os⟩
end Go.Proofs.YtjnlbhmddhpmaabDoor.fmtInt
