/- Plain facts on reading hexadecimal digits: which bytes are digits, the number that a digit stands for, the row of bytes that a row of digits stands for. -/
import Derived.Test.YtfjjpmpkjcopiaaDoorHex
import Derived.Laws.RangeAny
import Derived.Laws.RangeString
namespace Go.Proofs.YtfjjpmpkjcopiaaDoor.unhex
open Go.RowKit
open Go.Proofs.YtfjjpmpkjcopiaaDoor.num Go.Proofs.YtfjjpmpkjcopiaaDoor.var Go.Proofs.YtfjjpmpkjcopiaaDoor.hex
def IsHex (c : Nat) : Prop := (48 ≤ c ∧ c ≤ 57) ∨ (97 ≤ c ∧ c ≤ 102)
def hv (c : Nat) : Nat := if c ≤ 57 then c - 48 else c - 87
theorem hv_lt {c : Nat} (h : IsHex c) : hv c < 16 := by
  unfold hv; rcases h with h | h <;> split <;> omega
theorem hv_low {c : Nat} (h : c ≤ 57) : hv c = c - 48 := if_pos h
theorem hv_high {c : Nat} (h : ¬ c ≤ 57) : hv c = c - 87 := if_neg h
theorem hexd_low {k : Nat} (h : k < 10) : hexd k = 48 + k := if_pos h
theorem hexd_high {k : Nat} (h : ¬ k < 10) : hexd k = 87 + k := if_neg h
theorem hexd_hv {c : Nat} (h : IsHex c) : hexd (hv c) = c := by
  rcases h with h | h
  · rw [hv_low h.2, hexd_low (by omega)]; omega
  · rw [hv_high (by omega), hexd_high (by omega)]; omega
theorem hexd_ne {c k : Nat} (hk : k < 16) (h : IsHex c → k ≠ hv c) : hexd k ≠ c := by
  intro e
  subst e
  have hh : IsHex (hexd k) := by unfold IsHex hexd; split <;> omega
  refine h hh ?_
  by_cases hk9 : k < 10
  · rw [hexd_low hk9, hv_low (by omega)]; omega
  · rw [hexd_high hk9, hv_high (by omega)]; omega
theorem isHex_lt {c : Nat} (h : IsHex c) : c < 128 := by unfold IsHex at h; omega
/-- Byte i of a string, as a number. -/
def bt (s : ByteArray) (i : Nat) : Nat := (s.data.toList.getD i 0).toNat
theorem bt_at (s : ByteArray) (i : Nat) (h : i < s.size) : bt s i = (s[i]'h).toNat := by
  unfold bt
  rw [List.getD_eq_getElem?_getD, List.getElem?_eq_getElem (by rw [Array.length_toList]; exact h)]
  rfl
def unb (s : ByteArray) (j : Nat) : UInt8 := UInt8.ofNat (16 * hv (bt s (2 * j)) + hv (bt s (2 * j + 1)))
def unL (s : ByteArray) (k : Nat) : List UInt8 := (List.range k).map (unb s)
theorem unL_length (s : ByteArray) (k : Nat) : (unL s k).length = k := by simp [unL]
theorem unL_succ (s : ByteArray) (k : Nat) : unL s (k + 1) = unL s k ++ [unb s k] := by simp [unL, List.range_succ]
/-- The bytes of a row of digits, as a string. -/
def unS (s : ByteArray) : ByteArray := ⟨(unL s (s.size / 2)).toArray⟩
theorem un_row (s : ByteArray) (k : Nat) (h1 : hv (bt s (2 * k)) < 16) (h2 : hv (bt s (2 * k + 1)) < 16) :
    (unL s k).map byteV ++ [.int .u8 (16 * ((hv (bt s (2 * k)) : Nat) : Int) + ((hv (bt s (2 * k + 1)) : Nat) : Int))] = (unL s (k + 1)).map byteV := by
  rw [unL_succ, List.map_append, List.map_cons, List.map_nil, unb, byteV_ofNat _ (by omega)]
  congr 3
/-- The cells of the program's row behind k digits. -/
def cellU (s : ByteArray) (k j : Nat) : Nat := if 2 * j + 1 < k then 16 * hv (bt s (2 * j)) + hv (bt s (2 * j + 1)) else if 2 * j < k then hv (bt s (2 * j)) else 0
def rowU (s : ByteArray) (k j : Nat) : Value := .int .u8 ((cellU s k j : Nat) : Int)
theorem rowU_zero (s : ByteArray) (j : Nat) : rowU s 0 j = .int .u8 0 := by unfold rowU cellU; rw [if_neg (by omega), if_neg (by omega)]; rfl
theorem cellU_old (s : ByteArray) (k : Nat) (h : hv (bt s (k - 1)) < 16) : cellU s k (k / 2) < 16 := by
  unfold cellU
  rw [if_neg (by omega)]
  by_cases e : 2 * (k / 2) < k
  · rw [if_pos e, show 2 * (k / 2) = k - 1 from by omega]; exact h
  · rw [if_neg e]; omega
theorem cellU_new (s : ByteArray) (k : Nat) : cellU s (k + 1) (k / 2) = 16 * cellU s k (k / 2) + hv (bt s k) := by
  unfold cellU
  by_cases e : 2 * (k / 2) < k
  · rw [if_pos (by omega), if_neg (by omega), if_pos e, show 2 * (k / 2) + 1 = k from by omega]
  · rw [if_neg (by omega), if_pos (by omega), if_neg (by omega), if_neg e, show 2 * (k / 2) = k from by omega]; omega
theorem cellU_other (s : ByteArray) (k j : Nat) (h : j ≠ k / 2) : cellU s (k + 1) j = cellU s k j := by
  unfold cellU
  by_cases e : 2 * j + 1 < k
  · rw [if_pos e, if_pos (by omega)]
  · rw [if_neg e, if_neg (by omega), if_neg (by omega), if_neg (by omega)]
theorem rowU_succ (s : ByteArray) (k j : Nat) : (if j = k / 2 then .int .u8 (((16 * cellU s k (k / 2) + hv (bt s k) : Nat) : Nat) : Int) else rowU s k j) = rowU s (k + 1) j := by
  unfold rowU
  by_cases e : j = k / 2
  · subst e; rw [if_pos rfl, cellU_new]
  · rw [if_neg e, cellU_other s k j e]
theorem rowU_full (s : ByteArray) (n j : Nat) (hj : j < n) (h1 : hv (bt s (2 * j)) < 16) (h2 : hv (bt s (2 * j + 1)) < 16) :
    rowU s (2 * n) j = .int .u8 (((((unL s n)[j]'(by rw [unL_length]; exact hj))).toNat : Nat) : Int) := by
  have e : ((unL s n)[j]'(by rw [unL_length]; exact hj)) = unb s j := by simp [unL]
  rw [e]
  unfold rowU cellU unb
  rw [if_pos (by omega), UInt8.toNat_ofNat', Nat.mod_eq_of_lt (by omega)]
theorem or_16 : ∀ x : Nat, x < 16 → ∀ d : Nat, d < 16 → (x * 16) ||| d = 16 * x + d := by decide +kernel
theorem or_nib (x d : Nat) (hx : x < 16) (hd : d < 16) : bits .or .u8 ((x : Int) * 16) (d : Int) = ((16 * x + d : Nat) : Int) := by
  have e : ((x : Int) * 16) = ((x * 16 : Nat) : Int) := by omega
  rw [e, u8_or_nat _ _ (by omega) (by omega), or_16 x hx d hd]
/-- The first byte that is no digit, if there is one. -/
theorem first_bad (s : ByteArray) : (∀ k, k < s.size → IsHex (bt s k)) ∨ ∃ i, i < s.size ∧ ¬ IsHex (bt s i) ∧ ∀ k, k < i → IsHex (bt s k) := by
  have key : ∀ n, (∀ k, k < n → IsHex (bt s k)) ∨ ∃ i, i < n ∧ ¬ IsHex (bt s i) ∧ ∀ k, k < i → IsHex (bt s k) := by
    intro n
    induction n with
    | zero => exact .inl fun k h => by omega
    | succ n ih =>
      rcases ih with ih | ⟨i, h1, h2, h3⟩
      · by_cases hn : IsHex (bt s n)
        · refine .inl fun k hk => ?_
          by_cases e : k = n
          · subst e; exact hn
          · exact ih k (by omega)
        · exact .inr ⟨n, by omega, hn, ih⟩
      · exact .inr ⟨i, by omega, h2, h3⟩
  exact key s.size
end Go.Proofs.YtfjjpmpkjcopiaaDoor.unhex
