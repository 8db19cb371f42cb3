/- Plain facts: what is encoded is decoded again, whatever follows. -/
import Derived.Test.YtfjjpmpkjcopiaaDoorVal
import Derived.Test.YtfjjpmpkjcopiaaDoorUnhex
import Derived.Test.YtfjjpmpkjcopiaaDoorDig
namespace Go.Proofs.YtfjjpmpkjcopiaaDoor.back
open Go.RowKit
open Go.Proofs.YtfjjpmpkjcopiaaDoor.num Go.Proofs.YtfjjpmpkjcopiaaDoor.var Go.Proofs.YtfjjpmpkjcopiaaDoor.val Go.Proofs.YtfjjpmpkjcopiaaDoor.hex Go.Proofs.YtfjjpmpkjcopiaaDoor.unhex Go.Proofs.YtfjjpmpkjcopiaaDoor.dig
theorem app_list (s t : ByteArray) : (s ++ t).data.toList = s.data.toList ++ t.data.toList := by rw [ByteArray.data_append, Array.toList_append]
theorem vencS_data (m : Nat) : (vencS m).data.toList = venc m := rfl
theorem vencS_size (m : Nat) : (vencS m).size = (venc m).length := by show ((venc m).toArray).size = _; simp
theorem vval_venc : ∀ (n m : Nat), m ≤ n → vval (venc m) = m
  | 0, m, h => by
    obtain rfl : m = 0 := by omega
    rw [venc_small (by decide)]; rfl
  | n + 1, m, h => by
    by_cases hm : m < 128
    · rw [venc_small hm, vval_cons, UInt8.toNat_ofNat']
      show (m % 256) % 128 + 128 * 0 = m
      omega
    · rw [venc_great hm, vval_cons, vval_venc n (m / 128) (by omega), UInt8.toNat_ofNat']
      omega
theorem venc_len : ∀ (n m : Nat), 1 ≤ n → m < 128 ^ n → (venc m).length ≤ n
  | 0, m, h, _ => by omega
  | n + 1, m, _, h => by
    by_cases hm : m < 128
    · rw [venc_small hm]; simp
    · rw [venc_great hm, List.length_cons]
      rw [Nat.pow_succ] at h
      have hn : 1 ≤ n := by
        rcases Nat.eq_zero_or_pos n with rfl | h0
        · simp at h; omega
        · exact h0
      have := venc_len n (m / 128) hn (by omega)
      omega
theorem venc_len7 (m : Nat) (h : m ≤ 562949953421311) : (venc m).length ≤ 7 := by
  have e : (128 : Nat) ^ 7 = 562949953421312 := by decide
  exact venc_len 7 m (by decide) (by omega)
theorem at_of (s : ByteArray) (i : Nat) (c : UInt8) (h : s.data.toList[i]? = some c) : ∃ hi : i < s.size, s[i]'hi = c := by
  obtain ⟨hl, hv⟩ := List.getElem?_eq_some_iff.1 h
  exact ⟨by rw [Array.length_toList] at hl; exact hl, hv⟩
/-- Where the varint of m begins a string: its last byte is the first low one, and the row is the varint of its number. -/
theorem varint_head (m : Nat) (hm : m ≤ 562949953421311) (t : ByteArray) : ∃ i, ∃ h : i < (vencS m ++ t).size, i < 7 ∧ i + 1 = (vencS m).size ∧ ((vencS m ++ t)[i]'h).toNat < 128 ∧
    (∀ k (hk : k < (vencS m ++ t).size), k < i → 128 ≤ ((vencS m ++ t)[k]'hk).toNat) ∧ VGood ((vencS m ++ t).data.toList.take (i + 1)) ∧ vval ((vencS m ++ t).data.toList.take (i + 1)) = m := by
  obtain ⟨pre, c, h1, h2, h3⟩ := venc_form m m (Nat.le_refl _)
  have h7 := venc_len7 m hm
  have hlen : (venc m).length = pre.length + 1 := by rw [h1]; simp
  have hL : (vencS m ++ t).data.toList = (pre ++ [c]) ++ t.data.toList := by rw [app_list, vencS_data, h1]
  have htk : (vencS m ++ t).data.toList.take (pre.length + 1) = venc m := by
    rw [hL, List.take_append_of_le_length (by simp), h1]
    exact List.take_of_length_le (by simp)
  obtain ⟨hi, hv⟩ := at_of (vencS m ++ t) pre.length c (by rw [hL]; simp)
  refine ⟨pre.length, hi, by omega, by rw [vencS_size, hlen], by rw [hv]; exact h2, fun k hk hki => ?_, ?_, ?_⟩
  · obtain ⟨hk', hv'⟩ := at_of (vencS m ++ t) k pre[k] (by rw [hL, List.append_assoc, List.getElem?_append_left hki, List.getElem?_eq_getElem hki])
    rw [hv']
    exact h3 _ (List.getElem_mem _)
  · unfold VGood; rw [htk, vval_venc m m (Nat.le_refl _)]
  · rw [htk, vval_venc m m (Nat.le_refl _)]
theorem dec_cons (c : UInt8) : ∀ l : List UInt8, dec (c :: l) = (c.toNat : Int) * 256 ^ l.length + dec l := by
  have key : ∀ (l : List UInt8) (x : Int), l.foldl (fun n c => n * 256 + (c.toNat : Int)) x = x * 256 ^ l.length + dec l := by
    intro l
    induction l with
    | nil => intro x; simp [dec]
    | cons d l ih =>
      intro x
      unfold dec
      rw [List.foldl_cons, List.foldl_cons, ih, ih, List.length_cons, Int.pow_succ, Int.add_mul, Int.add_mul, Int.zero_mul, Int.zero_mul, Int.zero_add, ← Int.add_assoc, Int.mul_assoc, Int.mul_comm 256 (256 ^ l.length)]
  intro l
  have := key l ((c.toNat : Int))
  unfold dec at this ⊢
  rw [List.foldl_cons]
  simpa using this
theorem dec_low (m : Nat) : ∀ k, dec (low m k) = ((m % 256 ^ k : Nat) : Int)
  | 0 => by simp [low, dec, Nat.mod_one]
  | k + 1 => by
    rw [low_succ, dec_cons, dec_low m k, low_length, UInt8.toNat_ofNat', Nat.mod_eq_of_lt (Nat.mod_lt _ (by decide))]
    have e := Nat.mod_mul (x := m) (a := 256 ^ k) (b := 256)
    rw [Nat.pow_succ, e]
    unfold q
    rw [Int.natCast_add, Int.natCast_mul, Int.natCast_pow, Int.mul_comm, Int.add_comm]
    rfl
theorem low_back (m d : Nat) (hq : q m d = 0) (t : ByteArray) : dec ((lowS m d ++ t).data.toList.take d) = (m : Int) := by
  have h1 : (lowS m d ++ t).data.toList.take d = low m d := by
    rw [app_list, show (lowS m d).data.toList = low m d from rfl, List.take_append_of_le_length (by rw [low_length]; exact Nat.le_refl _)]
    exact List.take_of_length_le (by rw [low_length]; exact Nat.le_refl _)
  rw [h1, dec_low]
  have hp : 0 < 256 ^ d := Nat.pow_pos (by decide)
  have : m < 256 ^ d := by
    unfold q at hq
    rcases Nat.lt_or_ge m (256 ^ d) with h | h
    · exact h
    · have := Nat.div_pos h hp; omega
  rw [Nat.mod_eq_of_lt this]
/-! ### hexadecimal digits -/
theorem isHex_hexd (k : Nat) (h : k < 16) : IsHex (hexd k) := by
  unfold IsHex
  by_cases h10 : k < 10
  · rw [hexd_low h10]; omega
  · rw [hexd_high h10]; omega
theorem hv_hexd (k : Nat) (h : k < 16) : hv (hexd k) = k := by
  by_cases h10 : k < 10
  · rw [hexd_low h10, hv_low (by omega)]; omega
  · rw [hexd_high h10, hv_high (by omega)]; omega
theorem hexL_at : ∀ (l : List UInt8) (j : Nat) (h : j < l.length), (hexL l)[2 * j]? = some (UInt8.ofNat (hexd (l[j].toNat / 16))) ∧ (hexL l)[2 * j + 1]? = some (UInt8.ofNat (hexd (l[j].toNat % 16)))
  | [], j, h => by simp at h
  | c :: l, 0, _ => by
    have e : hexL (c :: l) = pair c ++ hexL l := by unfold hexL; rw [List.flatMap_cons]
    rw [e]
    exact ⟨rfl, rfl⟩
  | c :: l, j + 1, h => by
    have e : hexL (c :: l) = pair c ++ hexL l := by unfold hexL; rw [List.flatMap_cons]
    have hl : (pair c).length = 2 := rfl
    rw [e, List.getElem?_append_right (by rw [hl]; omega), List.getElem?_append_right (by rw [hl]; omega), hl, show 2 * (j + 1) - 2 = 2 * j from by omega, show 2 * (j + 1) + 1 - 2 = 2 * j + 1 from by omega]
    exact hexL_at l j (by simpa using h)
theorem hexS_size (t : ByteArray) : (hexS t).size = 2 * t.size := by
  show ((hexL t.data.toList).toArray).size = _
  rw [List.size_toArray, hexL_length, Array.length_toList]; rfl
theorem hexS_bt (t : ByteArray) (j : Nat) (h : j < t.size) : bt (hexS t) (2 * j) = hexd ((t[j]'h).toNat / 16) ∧ bt (hexS t) (2 * j + 1) = hexd ((t[j]'h).toNat % 16) := by
  obtain ⟨h1, h2⟩ := hexL_at t.data.toList j (by rw [Array.length_toList]; exact h)
  have d1 := hexd_lt ((t[j]'h).toNat / 16) (by have := (t[j]'h).toNat_lt; omega)
  have d2 := hexd_lt ((t[j]'h).toNat % 16) (by omega)
  have e : t.data.toList[j]'(by rw [Array.length_toList]; exact h) = t[j]'h := rfl
  rw [e] at h1 h2
  unfold bt
  rw [List.getD_eq_getElem?_getD, List.getD_eq_getElem?_getD, show (hexS t).data.toList = hexL t.data.toList from rfl, h1, h2]
  refine ⟨?_, ?_⟩
  · show (UInt8.ofNat _).toNat = _
    rw [UInt8.toNat_ofNat']; omega
  · show (UInt8.ofNat _).toNat = _
    rw [UInt8.toNat_ofNat']; omega
theorem hexS_digits (t : ByteArray) : ∀ k, k < (hexS t).size → IsHex (bt (hexS t) k) := by
  intro k hk
  rw [hexS_size] at hk
  obtain ⟨h1, h2⟩ := hexS_bt t (k / 2) (by omega)
  have hc := (t[k / 2]'(by omega)).toNat_lt
  by_cases he : k % 2 = 0
  · rw [show k = 2 * (k / 2) from by omega, h1]; exact isHex_hexd _ (by omega)
  · rw [show k = 2 * (k / 2) + 1 from by omega, h2]; exact isHex_hexd _ (by omega)
theorem unS_hexS (t : ByteArray) : unS (hexS t) = t := by
  have hl : unL (hexS t) t.size = t.data.toList := by
    apply List.ext_getElem
    · rw [unL_length, Array.length_toList]; rfl
    · intro j h1 h2
      rw [unL_length] at h1
      have e : (unL (hexS t) t.size)[j]'(by rw [unL_length]; exact h1) = unb (hexS t) j := by simp [unL]
      rw [e]
      obtain ⟨b1, b2⟩ := hexS_bt t j h1
      have hc := (t[j]'h1).toNat_lt
      unfold unb
      rw [b1, b2, hv_hexd _ (by omega), hv_hexd _ (by omega), show 16 * ((t[j]'h1).toNat / 16) + (t[j]'h1).toNat % 16 = (t[j]'h1).toNat from by omega]
      show UInt8.ofNat (t[j]'h1).toNat = t[j]'h1
      simp
  unfold unS
  rw [hexS_size, show 2 * t.size / 2 = t.size from by omega, hl]
theorem num_self (n : Int) (h0 : -999999999 ≤ n) (h1 : n ≤ 999999999) : Num (Go.Proofs.YtfjjpmpkjcopiaaDoor.fmtn.S (Lib.itoa n)) n := ⟨rfl, h0, h1⟩
theorem num_none (w : Int) (h : w < -999999999 ∨ 999999999 < w) : ∀ n, ¬ Num (Go.Proofs.YtfjjpmpkjcopiaaDoor.fmtn.S (Lib.itoa w)) n := by
  intro n hn
  have e : Lib.itoa w = Lib.itoa n := hn.1
  have h1 := atoi_itoa w
  rw [e, atoi_itoa n] at h1
  have h2 := hn.2
  have : n = w := Option.some.inj h1
  omega
end Go.Proofs.YtfjjpmpkjcopiaaDoor.back
