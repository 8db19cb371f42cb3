/- Plain facts on decoding varints: the number that a row of bytes stands for, and when a row is the varint of its number. -/
import Derived.Test.YtfjjpmpkjcopiaaDoorVar
namespace Go.Proofs.YtfjjpmpkjcopiaaDoor.val
open Go.RowKit
open Go.Proofs.YtfjjpmpkjcopiaaDoor.num Go.Proofs.YtfjjpmpkjcopiaaDoor.var
def vval : List UInt8 → Nat
  | [] => 0
  | c :: l => c.toNat % 128 + 128 * vval l
theorem vval_cons (c : UInt8) (l : List UInt8) : vval (c :: l) = c.toNat % 128 + 128 * vval l := rfl
theorem vval_snoc (c : UInt8) : ∀ l : List UInt8, vval (l ++ [c]) = vval l + 128 ^ l.length * (c.toNat % 128)
  | [] => by simp [vval]
  | b :: l => by
    rw [List.cons_append, vval_cons, vval_snoc c l, vval_cons, List.length_cons, Nat.pow_succ, Nat.mul_add, ← Nat.mul_assoc, Nat.mul_comm 128 (128 ^ l.length)]
    omega
theorem vval_lt : ∀ l : List UInt8, vval l < 128 ^ l.length
  | [] => by simp [vval]
  | c :: l => by
    have := vval_lt l
    rw [vval_cons, List.length_cons, Nat.pow_succ]
    have := Nat.mod_lt c.toNat (show 0 < 128 by decide)
    omega
theorem vval_max (l : List UInt8) (h : l.length ≤ 7) : vval l ≤ 562949953421311 := by
  have h1 := vval_lt l
  have h2 : (128 : Nat) ^ l.length ≤ 128 ^ 7 := Nat.pow_le_pow_right (by decide) h
  have e : (128 : Nat) ^ 7 = 562949953421312 := by decide
  omega
/-- Every byte of a varint but the last is 128 or more, the last is less. -/
theorem venc_form (n : Nat) : ∀ m, m ≤ n → ∃ pre c, venc m = pre ++ [c] ∧ c.toNat < 128 ∧ ∀ b ∈ pre, 128 ≤ b.toNat := by
  induction n with
  | zero =>
    intro m hm
    obtain rfl : m = 0 := by omega
    exact ⟨[], UInt8.ofNat 0, venc_small (by decide), by decide, by simp⟩
  | succ n ih =>
    intro m hm
    by_cases h : m < 128
    · exact ⟨[], UInt8.ofNat m, venc_small h, by rw [UInt8.toNat_ofNat']; omega, by simp⟩
    · obtain ⟨pre, c, h1, h2, h3⟩ := ih (m / 128) (by omega)
      refine ⟨UInt8.ofNat (128 + m % 128) :: pre, c, by rw [venc_great h, h1]; rfl, h2, fun b hb => ?_⟩
      rcases List.mem_cons.1 hb with rfl | hb
      · rw [UInt8.toNat_ofNat']; omega
      · exact h3 b hb
/-- A row that is the varint of its number. -/
def VGood (l : List UInt8) : Prop := venc (vval l) = l
theorem good_last {l : List UInt8} {c : UInt8} (h : VGood (l ++ [c])) : c.toNat < 128 ∧ ∀ b ∈ l, 128 ≤ b.toNat := by
  obtain ⟨pre, d, h1, h2, h3⟩ := venc_form _ (vval (l ++ [c])) (Nat.le_refl _)
  have e : pre ++ [d] = l ++ [c] := by rw [← h1]; exact h
  obtain ⟨rfl, e2⟩ := List.append_inj' e rfl
  obtain rfl : d = c := by simpa using e2
  exact ⟨h2, h3⟩
theorem len_eq (s : ByteArray) : s.data.toList.length = s.size := by rw [Array.length_toList]; rfl
theorem take_at (s : ByteArray) (k : Nat) (h : k < s.size) : s.data.toList.take (k + 1) = s.data.toList.take k ++ [s[k]] := take_snoc s k h
theorem drop_at (s : ByteArray) (j k : Nat) (h : j < k) (hk : k ≤ s.size) : (s.data.toList.take k).drop j = s[j] :: (s.data.toList.take k).drop (j + 1) := by
  have hl : j < (s.data.toList.take k).length := by rw [List.length_take, len_eq]; omega
  rw [List.drop_eq_getElem_cons hl]
  congr 1
  simp
  rfl
theorem not_good_high (s : ByteArray) (k : Nat) (h : k < s.size) (hb : 128 ≤ s[k].toNat) : ¬ VGood (s.data.toList.take (k + 1)) := by
  rw [take_at s k h]
  intro hg
  have := (good_last hg).1
  omega
theorem mem_take (s : ByteArray) (i k : Nat) (hi : i < k) (hk : k ≤ s.size) : s[i] ∈ s.data.toList.take k := by
  rw [List.mem_take_iff_getElem]
  exact ⟨i, by rw [len_eq]; omega, by simp; rfl⟩
theorem not_good_low (s : ByteArray) (i k : Nat) (hi : i < k) (h : k < s.size) (hb : s[i].toNat < 128) : ¬ VGood (s.data.toList.take (k + 1)) := by
  rw [take_at s k h]
  intro hg
  have := (good_last hg).2 _ (mem_take s i k hi (by omega))
  omega
theorem extract_take (s : ByteArray) (k : Nat) : (s.extract 0 k).toList = s.data.toList.take k := by
  rw [ByteArray.toList_eq, ByteArray.data_extract, Array.toList_extract]
  simp
theorem vencS_list (m : Nat) : (vencS m).toList = venc m := by rw [ByteArray.toList_eq]; rfl
theorem eq_yes (s : ByteArray) (k : Nat) (h : VGood (s.data.toList.take k)) : ((vencS (vval (s.data.toList.take k))).toList == (s.extract 0 k).toList) = true := by
  rw [vencS_list, extract_take, beq_iff_eq]; exact h
theorem eq_no (s : ByteArray) (k : Nat) (h : ¬ VGood (s.data.toList.take k)) : ((vencS (vval (s.data.toList.take k))).toList == (s.extract 0 k).toList) = false := by
  rw [vencS_list, extract_take, beq_eq_false_iff_ne]; exact h
theorem and127 : ∀ y : Nat, y < 256 → y &&& 127 = y % 128 := by decide +kernel
theorem and_127 (c : UInt8) : bits .and .u8 ((c.toNat : Nat) : Int) 127 = ((c.toNat % 128 : Nat) : Int) := by
  rw [show (127 : Int) = ((127 : Nat) : Int) from rfl, u8_and_nat _ _ c.toNat_lt (by omega), and127 _ c.toNat_lt]
theorem or_step (n k y : Nat) (hn : n < 128 ^ k) (hy : y < 128) (hk : k ≤ 6) : bits .or .i64 (n : Int) ((128 ^ k * y : Nat) : Int) = ((n + 128 ^ k * y : Nat) : Int) := by
  have hp : (128 : Nat) ^ k ≤ 128 ^ 6 := Nat.pow_le_pow_right (by decide) hk
  have e6 : (128 : Nat) ^ 6 = 4398046511104 := by decide
  have hm : 128 ^ k * y ≤ 4398046511104 * 127 := Nat.mul_le_mul (by omega) (by omega)
  rw [or_i64 _ _ (by omega) (by omega)]
  have e : (128 : Nat) ^ k = 2 ^ (7 * k) := by rw [Nat.pow_mul]
  rw [Nat.or_comm, nat_join (7 * k) _ _ (by rw [e]; exact Nat.mul_mod_right _ _) (by rw [← e]; exact hn), Nat.add_comm]
/-- What a round of the program's loop leaves. -/
theorem or_take (s : ByteArray) (k : Nat) (h : k < s.size) (hk : k < 7) :
    bits .or .i64 ((vval (s.data.toList.take k) : Nat) : Int) (wrap64 (((s[k].toNat : Nat) : Int) % 128 * 2 ^ (7 * k))) = ((vval (s.data.toList.take (k + 1)) : Nat) : Int) := by
  have hy : s[k].toNat % 128 < 128 := Nat.mod_lt _ (by decide)
  have hp : (128 : Nat) ^ k ≤ 128 ^ 6 := Nat.pow_le_pow_right (by decide) (by omega)
  have e6 : (128 : Nat) ^ 6 = 4398046511104 := by decide
  have hm : 128 ^ k * (s[k].toNat % 128) ≤ 4398046511104 * 127 := Nat.mul_le_mul (by omega) (by omega)
  have e : (((s[k].toNat : Nat) : Int) % 128 * 2 ^ (7 * k)) = ((128 ^ k * (s[k].toNat % 128) : Nat) : Int) := by
    rw [show (128 : Nat) ^ k = 2 ^ (7 * k) from by rw [Nat.pow_mul], Int.natCast_mul, Int.natCast_pow, Int.mul_comm (((s[k].toNat : Nat) : Int) % 128)]
    rfl
  have hl : (s.data.toList.take k).length = k := by rw [List.length_take, len_eq]; omega
  have hlt := vval_lt (s.data.toList.take k)
  rw [hl] at hlt
  rw [e, IntWalk.wrap64_in _ (by omega), or_step _ k _ hlt hy (by omega), take_at s k h, vval_snoc, hl]
/-- The first byte below 128, if the row has one among its first seven. -/
theorem first_low (s : ByteArray) : (∀ k (h : k < s.size), k < 7 → 128 ≤ s[k].toNat) ∨
    ∃ i, ∃ h : i < s.size, i < 7 ∧ s[i].toNat < 128 ∧ ∀ k (h : k < s.size), k < i → 128 ≤ s[k].toNat := by
  have key : ∀ n, (∀ k (h : k < s.size), k < n → 128 ≤ s[k].toNat) ∨ ∃ i, ∃ h : i < s.size, i < n ∧ s[i].toNat < 128 ∧ ∀ k (h : k < s.size), k < i → 128 ≤ s[k].toNat := by
    intro n
    induction n with
    | zero => exact .inl fun k _ h => by omega
    | succ n ih =>
      rcases ih with ih | ⟨i, h, h1, h2, h3⟩
      · by_cases hn : n < s.size
        · by_cases hb : s[n].toNat < 128
          · exact .inr ⟨n, hn, by omega, hb, ih⟩
          · refine .inl fun k hk hkn => ?_
            by_cases e : k = n
            · subst e; omega
            · exact ih k hk (by omega)
        · exact .inl fun k hk hkn => ih k hk (by omega)
      · exact .inr ⟨i, h, by omega, h2, h3⟩
  exact key 7
/-- Where all of the first seven bytes are high, no beginning is a varint. -/
theorem none_of_high (s : ByteArray) (hn : ∀ k (h : k < s.size), k < 7 → 128 ≤ s[k].toNat) : ∀ k, 1 ≤ k → k ≤ 7 → k ≤ s.size → ¬ VGood (s.data.toList.take k) := by
  intro k h1 h7 hs
  obtain ⟨j, rfl⟩ : ∃ j, k = j + 1 := ⟨k - 1, by omega⟩
  exact not_good_high s j (by omega) (hn j (by omega) (by omega))
theorem none_before (s : ByteArray) (i : Nat) (hi : i < s.size) (hh : ∀ k (h : k < s.size), k < i → 128 ≤ s[k].toNat) : ∀ k, 1 ≤ k → k ≤ i → ¬ VGood (s.data.toList.take k) := by
  intro k h1 h2
  obtain ⟨j, rfl⟩ : ∃ j, k = j + 1 := ⟨k - 1, by omega⟩
  exact not_good_high s j (by omega) (hh j (by omega) (by omega))
theorem none_of_bad (s : ByteArray) (i : Nat) (hi : i < s.size) (hb : s[i].toNat < 128) (hh : ∀ k (h : k < s.size), k < i → 128 ≤ s[k].toNat) (hg : ¬ VGood (s.data.toList.take (i + 1))) :
    ∀ k, 1 ≤ k → k ≤ 7 → k ≤ s.size → ¬ VGood (s.data.toList.take k) := by
  intro k h1 _ hs
  obtain ⟨j, rfl⟩ : ∃ j, k = j + 1 := ⟨k - 1, by omega⟩
  by_cases e : j = i
  · subst e; exact hg
  · by_cases hl : j < i
    · exact none_before s i hi hh _ h1 (by omega)
    · exact not_good_low s i j (by omega) (by omega) hb
end Go.Proofs.YtfjjpmpkjcopiaaDoor.val
