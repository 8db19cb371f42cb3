/- Plain facts on reading decimal numerals: the number of a row of bytes that is read digit by digit, and how the library's Atoi ends at a numeral. -/
import Derived.Test.YtjnlbhmddhpmaabDoorFmt
import Derived.Lib.AtoiAll
import Derived.Lib.AtoiTie
namespace Go.Proofs.YtjnlbhmddhpmaabDoor.dig
open Go.RowKit Go.Lib
open Go.Proofs.YtjnlbhmddhpmaabDoor.fmtn
/-- The number and the count of the digits of a row of bytes; what is no digit is passed over. -/
def pf (l : List UInt8) : Nat × Nat := l.foldl (fun p c => if 48 ≤ c.toNat ∧ c.toNat ≤ 57 then (p.1 * 10 + (c.toNat - 48), p.2 + 1) else p) (0, 0)
theorem pf_yes (l : List UInt8) (c : UInt8) (h : 48 ≤ c.toNat ∧ c.toNat ≤ 57) : pf (l ++ [c]) = ((pf l).1 * 10 + (c.toNat - 48), (pf l).2 + 1) := by
  unfold pf; rw [List.foldl_append]; simp [h]
theorem pf_no (l : List UInt8) (c : UInt8) (h : ¬ (48 ≤ c.toNat ∧ c.toNat ≤ 57)) : pf (l ++ [c]) = pf l := by
  unfold pf; rw [List.foldl_append]; simp only [List.foldl_cons, List.foldl_nil]; rw [if_neg h]
theorem snoc_of {α : Type} (l : List α) (k : Nat) (h : l.length = k + 1) : ∃ l' c, l = l' ++ [c] ∧ l'.length = k := by
  have hne : l ≠ [] := by intro e; simp [e] at h
  exact ⟨l.dropLast, l.getLast hne, (List.dropLast_concat_getLast hne).symm, by simp [h]⟩
theorem pf_lt : ∀ (n : Nat) (l : List UInt8), l.length = n → (pf l).1 < 10 ^ (pf l).2 ∧ (pf l).2 ≤ n
  | 0, l, h => by
    obtain rfl : l = [] := by simpa using h
    simp [pf]
  | n + 1, l, h => by
    obtain ⟨l', c, rfl, hl⟩ := snoc_of l n h
    have ih := pf_lt n l' hl
    by_cases hc : 48 ≤ c.toNat ∧ c.toNat ≤ 57
    · rw [pf_yes l' c hc]
      refine ⟨?_, by show (pf l').2 + 1 ≤ n + 1; omega⟩
      show (pf l').1 * 10 + (c.toNat - 48) < 10 ^ ((pf l').2 + 1)
      rw [Nat.pow_succ]
      omega
    · rw [pf_no l' c hc]
      exact ⟨ih.1, by omega⟩
theorem pow_le (k m : Nat) (h : k ≤ m) : (10 : Nat) ^ k ≤ 10 ^ m := Nat.pow_le_pow_right (by decide) h
theorem digit_byte (d : Nat) (h : d < 10) : (UInt8.ofNat (48 + d)).toNat = 48 + d := by rw [UInt8.toNat_ofNat']; omega
theorem pf_dec : ∀ (k u : Nat), u ≤ k → pf (decDigits u) = (u, nDigits u)
  | 0, u, h => by
    obtain rfl : u = 0 := by omega
    rw [decDigits_one (by decide), nDigits_small (by decide)]; rfl
  | k + 1, u, h => by
    by_cases hu : u < 10
    · rw [decDigits_one hu, nDigits_small hu]
      have := pf_yes [] (UInt8.ofNat (48 + u)) (by rw [digit_byte u hu]; omega)
      rw [List.nil_append, digit_byte u hu] at this
      rw [this]
      show (0 * 10 + (48 + u - 48), 0 + 1) = _
      congr 1
      omega
    · have hd : u % 10 < 10 := Nat.mod_lt _ (by decide)
      rw [decDigits, dif_neg hu, pf_yes _ _ (by rw [digit_byte _ hd]; omega), pf_dec k (u / 10) (by omega), digit_byte _ hd, nDigits_big hu]
      congr 1
      show u / 10 * 10 + (48 + u % 10 - 48) = u
      omega
theorem pf_minus (l : List UInt8) : pf (45 :: l) = pf l := rfl
theorem nDigits_le : ∀ (k u : Nat), 1 ≤ k → u < 10 ^ k → nDigits u ≤ k
  | 0, u, h, _ => by omega
  | k + 1, u, _, hu => by
    by_cases h10 : u < 10
    · rw [nDigits_small h10]; omega
    · rw [nDigits_big h10]
      rw [Nat.pow_succ] at hu
      have hk : 1 ≤ k := by
        rcases Nat.eq_zero_or_pos k with rfl | h
        · simp at hu; omega
        · exact h
      have := nDigits_le k (u / 10) hk (by omega)
      omega
theorem decFrom_snoc : ∀ (l : List UInt8) (acc m : Nat) (c : UInt8) (d : Nat), decFrom acc l = some m → digitVal c = some d → decFrom acc (l ++ [c]) = some (m * 10 + d)
  | [], acc, m, c, d, h, hc => by
    obtain rfl : acc = m := by simpa [decFrom] using h
    simp [decFrom, hc]
  | b :: r, acc, m, c, d, h, hc => by
    unfold decFrom at h
    rw [List.cons_append]
    unfold decFrom
    split at h
    · exact decFrom_snoc r _ m c d h hc
    · cases h
theorem digitVal_byte (d : Nat) (h : d < 10) : digitVal (UInt8.ofNat (48 + d)) = some d := by
  unfold digitVal
  rw [digit_byte d h, if_pos (by omega)]
  congr 1
  omega
theorem decFrom_dec : ∀ (k u : Nat), u ≤ k → decFrom 0 (decDigits u) = some u
  | 0, u, h => by
    obtain rfl : u = 0 := by omega
    rw [decDigits_one (by decide)]
    have := decFrom_snoc [] 0 0 (UInt8.ofNat (48 + 0)) 0 rfl (digitVal_byte 0 (by decide))
    simpa using this
  | k + 1, u, h => by
    by_cases hu : u < 10
    · rw [decDigits_one hu]
      have := decFrom_snoc [] 0 0 (UInt8.ofNat (48 + u)) u rfl (digitVal_byte u hu)
      simpa using this
    · have hd : u % 10 < 10 := Nat.mod_lt _ (by decide)
      rw [decDigits, dif_neg hu, decFrom_snoc _ 0 (u / 10) _ (u % 10) (decFrom_dec k (u / 10) (by omega)) (digitVal_byte _ hd)]
      congr 1
      omega
theorem dec_head : ∀ (k u : Nat), u ≤ k → ∃ c r, decDigits u = c :: r ∧ 48 ≤ c.toNat ∧ c.toNat ≤ 57
  | 0, u, h => by
    obtain rfl : u = 0 := by omega
    exact ⟨_, _, decDigits_one (by decide), by decide, by decide⟩
  | k + 1, u, h => by
    by_cases hu : u < 10
    · exact ⟨_, _, decDigits_one hu, by rw [digit_byte u hu]; omega, by rw [digit_byte u hu]; omega⟩
    · obtain ⟨c, r, h1, h2, h3⟩ := dec_head k (u / 10) (by omega)
      exact ⟨c, r ++ [_], by rw [decDigits, dif_neg hu, h1]; rfl, h2, h3⟩
theorem decNat_dec (u : Nat) : decNat (decDigits u) = some u := by
  obtain ⟨c, r, h, _⟩ := dec_head u u (Nat.le_refl _)
  unfold decNat
  rw [h, List.isEmpty_cons, if_neg (by decide), ← h]
  exact decFrom_dec u u (Nat.le_refl _)
theorem atoi_itoa (n : Int) : atoi (itoa n) = some n := by
  unfold itoa
  by_cases hn : n < 0
  · rw [if_pos hn]
    have e1 : ((45 : UInt8) == 45) = true := by decide
    simp only [atoi, e1, decNat_dec, if_true, Option.map_some]
    show some (-((n.natAbs : Nat) : Int)) = some n
    congr 1
    omega
  · rw [if_neg hn]
    obtain ⟨c, r, h, h1, h2⟩ := dec_head n.toNat n.toNat (Nat.le_refl _)
    have hd := decNat_dec n.toNat
    rw [h] at hd ⊢
    have e1 : (c == 45) = false := by rw [beq_eq_false_iff_ne]; intro e; subst e; revert h1; decide
    have e2 : (c == 43) = false := by rw [beq_eq_false_iff_ne]; intro e; subst e; revert h1; decide
    simp only [atoi, e1, e2, hd, Option.map_some]
    simp
    omega
theorem itoa_len (n : Int) (h0 : -999999999 ≤ n) (h1 : n ≤ 999999999) : (itoa n).length ≤ 10 := by
  have := nDigits_le 9 n.natAbs (by decide) (by omega)
  have := nDigits_le 9 n.toNat (by decide) (by omega)
  unfold itoa
  split
  · rw [List.length_cons, decDigits_length]; omega
  · rw [decDigits_length]; omega
theorem atoiAll_itoa (n : Int) (h0 : -999999999 ≤ n) (h1 : n ≤ 999999999) : atoiAll (itoa n) = .ok n := by
  rw [atoiAll_short _ (by have := itoa_len n h0 h1; omega), atoi_itoa]; rfl
/-- A string is the numeral of a number of at most nine digits. -/
def Num (s : ByteArray) (n : Int) : Prop := s.data.toList = itoa n ∧ -999999999 ≤ n ∧ n ≤ 999999999
theorem num_size {s : ByteArray} {n : Int} (h : Num s n) : s.size ≤ 10 := by
  have := itoa_len n h.2.1 h.2.2
  rw [← h.1, Array.length_toList] at this
  exact this
theorem num_pf {s : ByteArray} {n : Int} (h : Num s n) : (pf s.data.toList).1 = n.natAbs ∧ (pf s.data.toList).2 ≤ 9 := by
  have h9 := nDigits_le 9 n.natAbs (by decide) (by have := h.2; omega)
  rw [h.1]
  unfold itoa
  split
  · rw [pf_minus, pf_dec _ _ (Nat.le_refl _)]; exact ⟨rfl, h9⟩
  · rw [pf_dec _ _ (Nat.le_refl _)]
    rw [show n.toNat = n.natAbs from by omega]
    exact ⟨rfl, h9⟩
theorem num_head {s : ByteArray} {n : Int} (h : Num s n) : ∃ hs : 0 < s.size, (s[0]'hs).toNat = 45 ↔ n < 0 := by
  have hl : s.data.toList.length = s.size := by rw [Array.length_toList]; rfl
  by_cases hn : n < 0
  · have e : s.data.toList = 45 :: decDigits n.natAbs := by rw [h.1]; unfold itoa; rw [if_pos hn]
    have hs : 0 < s.size := by rw [← hl, e]; simp
    refine ⟨hs, ⟨fun _ => hn, fun _ => ?_⟩⟩
    have e0 : s.data.toList[0]'(by omega) = 45 := by simp [e]
    have e1 : (s[0]'hs) = s.data.toList[0]'(by omega) := rfl
    rw [e1, e0]; rfl
  · obtain ⟨c, r, h0, h1, h2⟩ := dec_head n.toNat n.toNat (Nat.le_refl _)
    have e : s.data.toList = c :: r := by rw [h.1]; unfold itoa; rw [if_neg hn, h0]
    have hs : 0 < s.size := by rw [← hl, e]; simp
    refine ⟨hs, ⟨fun hc => ?_, fun hc => absurd hc hn⟩⟩
    have e0 : s.data.toList[0]'(by omega) = c := by simp [e]
    have e1 : (s[0]'hs) = s.data.toList[0]'(by omega) := rfl
    rw [e1, e0] at hc
    omega
theorem str_eq (s : ByteArray) (n : Int) (h : s.data.toList = itoa n) : ((S (itoa n)).toList == s.toList) = true := by
  rw [ByteArray.toList_eq, ByteArray.toList_eq, h, beq_iff_eq]; rfl
theorem str_ne (s : ByteArray) (n : Int) (h : ¬ s.data.toList = itoa n) : ((S (itoa n)).toList == s.toList) = false := by
  rw [ByteArray.toList_eq, ByteArray.toList_eq, beq_eq_false_iff_ne]
  exact fun e => h e.symm
theorem take_yes (s : ByteArray) (k : Nat) (h : k < s.size) (hc : 48 ≤ (s[k]'h).toNat ∧ (s[k]'h).toNat ≤ 57) :
    (pf (s.data.toList.take (k + 1))).1 = (pf (s.data.toList.take k)).1 * 10 + ((s[k]'h).toNat - 48) ∧ (pf (s.data.toList.take (k + 1))).2 = (pf (s.data.toList.take k)).2 + 1 := by
  have e : s.data.toList.take (k + 1) = s.data.toList.take k ++ [s[k]'h] := by rw [List.take_succ_eq_append_getElem (by simpa using h)]; rfl
  rw [e, pf_yes _ _ hc]
  exact ⟨rfl, rfl⟩
theorem take_no (s : ByteArray) (k : Nat) (h : k < s.size) (hc : ¬ (48 ≤ (s[k]'h).toNat ∧ (s[k]'h).toNat ≤ 57)) :
    (pf (s.data.toList.take (k + 1))).1 = (pf (s.data.toList.take k)).1 ∧ (pf (s.data.toList.take (k + 1))).2 = (pf (s.data.toList.take k)).2 := by
  have e : s.data.toList.take (k + 1) = s.data.toList.take k ++ [s[k]'h] := by rw [List.take_succ_eq_append_getElem (by simpa using h)]; rfl
  rw [e, pf_no _ _ hc]
  exact ⟨rfl, rfl⟩
theorem take_bd (s : ByteArray) (k : Nat) (hk : k ≤ 11) : (pf (s.data.toList.take k)).1 ≤ 99999999999 ∧ (pf (s.data.toList.take k)).2 ≤ 11 ∧ ((pf (s.data.toList.take k)).2 ≤ 9 → (pf (s.data.toList.take k)).1 ≤ 999999999) := by
  obtain ⟨h1, h2⟩ := pf_lt _ (s.data.toList.take k) rfl
  have hl : (s.data.toList.take k).length ≤ k := List.length_take_le _ _
  have p11 := pow_le (pf (s.data.toList.take k)).2 11 (by omega)
  have e11 : (10 : Nat) ^ 11 = 100000000000 := by decide
  refine ⟨by omega, by omega, fun h9 => ?_⟩
  have p9 := pow_le (pf (s.data.toList.take k)).2 9 h9
  have e9 : (10 : Nat) ^ 9 = 1000000000 := by decide
  omega
end Go.Proofs.YtjnlbhmddhpmaabDoor.dig
