/- Plain facts on numbers and lists of bytes: the value of a big-endian row of bytes, 'or' of an int with a byte. No Go text is read here. -/
import Derived.Test.YtfjjpmpkjcopiaaDoorRows
import Derived.WalkKit
import Derived.ProofKit
import Derived.Lib.Hide
import Derived.Laws.BitsAllLaws
import Derived.Laws.IdiomStrings
import Derived.Laws.Concat
import Derived.Deep.OwnRows
namespace Go.Proofs.YtfjjpmpkjcopiaaDoor.num
open Go.RowKit
def dec (l : List UInt8) : Int := l.foldl (fun n c => n * 256 + (c.toNat : Int)) 0
theorem dec_snoc (l : List UInt8) (c : UInt8) : dec (l ++ [c]) = dec l * 256 + (c.toNat : Int) := by
  unfold dec; rw [List.foldl_append]; rfl
theorem snoc_of {α : Type} (l : List α) (k : Nat) (h : l.length = k + 1) : ∃ l' c, l = l' ++ [c] ∧ l'.length = k := by
  have hne : l ≠ [] := by intro e; simp [e] at h
  exact ⟨l.dropLast, l.getLast hne, (List.dropLast_concat_getLast hne).symm, by simp [h]⟩
theorem dec_bd (k : Nat) : ∀ l : List UInt8, l.length = k → 0 ≤ dec l ∧ dec l < 256 ^ k := by
  induction k with
  | zero =>
    intro l h
    obtain rfl : l = [] := by simpa using h
    simp [dec]
  | succ k ih =>
    intro l h
    obtain ⟨l', c, rfl, hl⟩ := snoc_of l k h
    have := ih l' hl
    have hc := c.toNat_lt
    rw [dec_snoc]
    have e : (256 : Int) ^ (k + 1) = 256 ^ k * 256 := by rw [Int.pow_succ]
    omega
theorem pow_le (k m : Nat) (h : k ≤ m) : (256 : Int) ^ k ≤ 256 ^ m := by
  have h3 := Int.ofNat_le.2 (Nat.pow_le_pow_right (n := 256) (by decide) h)
  rw [Int.natCast_pow, Int.natCast_pow] at h3
  exact h3
theorem dec_6 (l : List UInt8) (h : l.length ≤ 6) : 0 ≤ dec l ∧ dec l ≤ 281474976710655 := by
  have := dec_bd l.length l rfl
  have h2 := pow_le l.length 6 h
  have e : (256 : Int) ^ 6 = 281474976710656 := by decide
  omega
theorem take_snoc (s : ByteArray) (k : Nat) (h : k < s.size) : s.data.toList.take (k + 1) = s.data.toList.take k ++ [s[k]] := by
  rw [List.take_succ_eq_append_getElem (by simpa using h)]; rfl
theorem dec_take (s : ByteArray) (k : Nat) (h : k < s.size) : dec (s.data.toList.take (k + 1)) = dec (s.data.toList.take k) * 256 + ((s[k].toNat : Nat) : Int) := by
  rw [take_snoc s k h, dec_snoc]
theorem or_i64 (a b : Nat) (ha : a < 9223372036854775808) (hb : b < 9223372036854775808) : bits .or .i64 (a : Int) (b : Int) = ((a ||| b : Nat) : Int) := by
  have hx : a ||| b < 2 ^ 63 := Nat.or_lt_two_pow (by omega) (by omega)
  show IntKind.i64.wrap ((BitVec.ofInt 64 (a : Int) ||| BitVec.ofInt 64 (b : Int)).toNat : Int) = _
  rw [BitVec.toNat_or, ofInt_u64 a (by omega), ofInt_u64 b (by omega)]
  exact IntWalk.i64_in _ (by omega)
/-- 'n<<8 | b' is a sum. -/
theorem or_byte (x : Int) (c : UInt8) (h0 : 0 ≤ x) (h1 : x ≤ 281474976710655) : bits .or .i64 (x * 256) ((c.toNat : Nat) : Int) = x * 256 + ((c.toNat : Nat) : Int) := by
  obtain ⟨n, rfl⟩ := Int.eq_ofNat_of_zero_le h0
  have hc := c.toNat_lt
  have e : ((n : Int) * 256) = ((n * 256 : Nat) : Int) := by omega
  rw [e, or_i64 _ _ (by omega) (by omega), nat_join 8 _ _ (by omega) (by omega)]
  omega
/-! ### the low bytes of a number -/
def q (m k : Nat) : Nat := m / 256 ^ k
theorem q_zero (m : Nat) : q m 0 = m := by simp [q]
theorem q_succ (m k : Nat) : q m (k + 1) = q m k / 256 := by unfold q; rw [Nat.pow_succ, Nat.div_div_eq_div_mul]
theorem q_le (m k : Nat) : q m k ≤ m := Nat.div_le_self _ _
theorem q_two (m k : Nat) : q m k = m / 2 ^ (8 * k) := by unfold q; rw [Nat.pow_mul]
def low (m : Nat) : Nat → List UInt8
  | 0 => []
  | k + 1 => UInt8.ofNat (q m k % 256) :: low m k
theorem low_length (m : Nat) : ∀ k, (low m k).length = k
  | 0 => rfl
  | k + 1 => by simp [low, low_length m k]
theorem low_succ (m k : Nat) : low m (k + 1) = UInt8.ofNat (q m k % 256) :: low m k := rfl
def lowS (m k : Nat) : ByteArray := ⟨(low m k).toArray⟩
theorem lowS_size (m k : Nat) : (lowS m k).size = k := by
  show ((low m k).toArray).size = k
  simp [low_length]
theorem lowS_succ (m k : Nat) : (ByteArray.mk #[UInt8.ofNat (q m k % 256)]) ++ lowS m k = lowS m (k + 1) := by
  unfold lowS
  rw [low_succ, show #[UInt8.ofNat (q m k % 256)] = [UInt8.ofNat (q m k % 256)].toArray from rfl]
  exact ByteArray.mk_append_mk [_] _
/-- What EncodeFixed answers for a number m and a width wd within the limits. -/
def fixS (m wd : Nat) : ByteArray := if q m wd = 0 then lowS m wd else ByteArray.empty
theorem fixS_fits {m wd : Nat} (h : q m wd = 0) : fixS m wd = lowS m wd := if_pos h
theorem fixS_big {m wd : Nat} (h : ¬ q m wd = 0) : fixS m wd = ByteArray.empty := if_neg h
/-- The cells of the program's row after k rounds. -/
def rowF (m wd k j : Nat) : Value := .int .u8 (if j + k < wd then 0 else (((low m k).getD (j + k - wd) 0).toNat : Int))
theorem rowF_zero (m wd j : Nat) (h : j < wd) : rowF m wd 0 j = .int .u8 0 := by unfold rowF; rw [if_pos (by omega)]
theorem rowF_succ (m wd k i j : Nat) (h : i + 1 + k = wd) : (if j = i then .int .u8 (((q m k : Nat) : Int) % 256) else rowF m wd k j) = rowF m wd (k + 1) j := by
  unfold rowF
  by_cases h1 : j = i
  · subst h1
    rw [if_pos rfl, if_neg (by omega), show j + (k + 1) - wd = 0 from by omega, low_succ]
    simp only [List.getD_cons_zero, UInt8.toNat_ofNat']
    congr 1
    omega
  · rw [if_neg h1]
    by_cases h2 : j + (k + 1) < wd
    · rw [if_pos h2, if_pos (by omega)]
    · rw [if_neg h2, if_neg (by omega), low_succ, show j + (k + 1) - wd = (j + k - wd) + 1 from by omega, List.getD_cons_succ]
theorem rowF_full (m wd j : Nat) (h : j < wd) : rowF m wd wd j = .int .u8 ((((low m wd)[j]'(by rw [low_length]; exact h)).toNat : Nat) : Int) := by
  unfold rowF
  rw [if_neg (by omega), show j + wd - wd = j from by omega]
  congr 2
  rw [List.getD_eq_getElem?_getD, List.getElem?_eq_getElem (by rw [low_length]; exact h)]
  rfl
end Go.Proofs.YtfjjpmpkjcopiaaDoor.num
