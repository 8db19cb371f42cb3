/- A text cut at a byte: pieces of a text that was joined; the bytes of numbers, marks and versions: which of the separators they do not hold. No program's run. -/
import Derived.Test.YtleeglgjaifejaaGreatDoorText
import Derived.Lib.Split
import Derived.Lib.SplitLaws
import Derived.Lib.CountLaws
import Derived.Lib.IndexMore
import Derived.Lib.Join
namespace Go.Proofs.YtleeglgjaifejaaGreatDoor.pieces
open Go.Proofs.YtleeglgjaifejaaGreatDoor.sl Go.Proofs.YtleeglgjaifejaaGreatDoor.vers Go.Proofs.YtleeglgjaifejaaGreatDoor.ch Go.Proofs.YtleeglgjaifejaaGreatDoor.fmtn Go.Proofs.YtleeglgjaifejaaGreatDoor.text
open Go.Proofs.YtleeglgjaifejaaGreatDoor.marks (FM infS fm_in fm_inf)
open Go.Lib
set_option linter.unusedVariables false
set_option linter.unusedSimpArgs false
/-- the pieces of a text between the bytes c; acc: what the first one begins with -/
def piec (c : UInt8) : List UInt8 → List UInt8 → List (List UInt8)
  | acc, [] => [acc]
  | acc, b :: r => if b = c then acc :: piec c [] r else piec c (acc ++ [b]) r
theorem piec_none (c : UInt8) : ∀ (t acc r : List UInt8), c ∉ t → piec c acc (t ++ r) = piec c (acc ++ t) r
  | [], acc, r, _ => by simp
  | b :: t, acc, r, h => by
    have hb : b ≠ c := fun e => h (by simp [e])
    show piec c acc (b :: (t ++ r)) = _
    rw [piec, if_neg hb, piec_none c t (acc ++ [b]) r (fun e => h (by simp [e])), List.append_assoc]
    rfl
theorem piec_last {c : UInt8} {t : List UInt8} (h : c ∉ t) : piec c [] t = [t] := by
  have := piec_none c t [] [] h
  simpa [piec] using this
theorem piec_cons {c : UInt8} {t : List UInt8} (h : c ∉ t) (r : List UInt8) : piec c [] (t ++ c :: r) = t :: piec c [] r := by
  have := piec_none c t [] (c :: r) h
  rw [this, List.nil_append, piec, if_pos rfl]
theorem join_two (t u : List UInt8) (r : List (List UInt8)) (c : UInt8) : join (t :: u :: r) [c] = t ++ c :: join (u :: r) [c] := by
  rw [join_cons, join_cons]
  simp [joinTail]
theorem piec_join (c : UInt8) : ∀ (ts : List (List UInt8)), ts ≠ [] → (∀ t ∈ ts, c ∉ t) → piec c [] (join ts [c]) = ts
  | [], h, _ => absurd rfl h
  | [t], _, h => by rw [join_one]; exact piec_last (h t (by simp))
  | t :: u :: r, _, h => by
    rw [join_two, piec_cons (h t (by simp)), piec_join c (u :: r) (by simp) (fun x hx => h x (List.mem_cons_of_mem _ hx))]
theorem ib_none (c : UInt8) : ∀ (t : List UInt8), c ∉ t → indexByte t c = -1
  | [], _ => rfl
  | b :: t, h => by
    have hb : (b == c) = false := by simpa using fun e : b = c => h (by simp [e])
    rw [indexByte, hb, ib_none c t (fun e => h (by simp [e]))]
    rfl
theorem ib_hit (c : UInt8) (r : List UInt8) : ∀ (t : List UInt8), c ∉ t → indexByte (t ++ c :: r) c = t.length
  | [], _ => by simp [indexByte]
  | b :: t, h => by
    have hb : (b == c) = false := by simpa using fun e : b = c => h (by simp [e])
    have ih := ib_hit c r t (fun e => h (by simp [e]))
    show indexByte (b :: (t ++ c :: r)) c = _
    rw [indexByte, hb, ih]
    have : ((t.length : Int) == -1) = false := by simp
    rw [this]
    simp
theorem cut_hit {c : UInt8} {t : List UInt8} (h : c ∉ t) (r : List UInt8) : cut (t ++ c :: r) [c] = (t, r, true) := by
  have hi : index (t ++ c :: r) [c] = t.length := by rw [index_one, ib_hit c r t h]
  unfold cut
  rw [hi, if_pos (by omega)]
  simp
theorem cut_le (s sep : List UInt8) : (cut s sep).1.length ≤ s.length ∧ (cut s sep).2.1.length ≤ s.length := by
  unfold cut
  split
  · simp
    omega
  · simp
theorem countB_join (c : UInt8) (ts : List (List UInt8)) (hne : ts ≠ []) (h : ∀ t ∈ ts, c ∉ t) : (join ts [c]).count c + 1 = ts.length := by
  match ts, hne with
  | [t], _ =>
    rw [join_one, List.count_eq_zero_of_not_mem (h t (by simp))]
    rfl
  | t :: u :: r, _ =>
    have ih := countB_join c (u :: r) (by simp) (fun x hx => h x (List.mem_cons_of_mem _ hx))
    rw [join_two, List.count_append, List.count_eq_zero_of_not_mem (h t (by simp)), List.count_cons_self]
    simp only [List.length_cons] at ih ⊢
    omega
termination_by ts.length
theorem splitK_join (c : UInt8) : ∀ (ts : List (List UInt8)), ts ≠ [] → (∀ t ∈ ts, c ∉ t) → splitK [c] 0 (ts.length - 1) (join ts [c]) = ts
  | [], h, _ => absurd rfl h
  | [t], _, h => by rw [join_one]; rfl
  | t :: u :: r, _, h => by
    have ih := splitK_join c (u :: r) (by simp) (fun x hx => h x (List.mem_cons_of_mem _ hx))
    have hi : index (t ++ c :: join (u :: r) [c]) [c] = t.length := by rw [index_one, ib_hit c _ t (h t (by simp))]
    show splitK [c] 0 (r.length + 1) (join (t :: u :: r) [c]) = _
    rw [join_two, splitK, hi]
    have hm : ((t.length : Int) == -1) = false := by simp
    rw [hm]
    simp only [Bool.false_eq_true, if_false, Int.toNat_natCast, Nat.add_zero, List.take_left', List.length_cons, List.length_nil]
    have hd : (t ++ c :: join (u :: r) [c]).drop (t.length + (0 + 1)) = join (u :: r) [c] := by
      simp
    rw [hd]
    simp only [List.length_cons, Nat.add_sub_cancel] at ih
    rw [ih]
theorem S_data (s : ByteArray) : S s.data.toList = s := by
  show (⟨s.data.toList.toArray⟩ : ByteArray) = s
  simp
theorem map_S {l : List ByteArray} {ts : List (List UInt8)} (h : l.map (·.data.toList) = ts) : l = ts.map S := by
  rw [← h, List.map_map]
  conv => lhs; rw [← List.map_id l]
  exact List.map_congr_left fun s _ => (S_data s).symm
theorem splitB_join {c : UInt8} {ts : List (List UInt8)} (hne : ts ≠ []) (h : ∀ t ∈ ts, c ∉ t) :
    splitB ⟨#[c]⟩ 0 (countB (S (join ts [c])) ⟨#[c]⟩) (S (join ts [c])) = ts.map S := by
  apply map_S
  rw [splitB_data]
  have hc : countB (S (join ts [c])) ⟨#[c]⟩ = ts.length - 1 := by
    have h1 := countB_join c ts hne h
    have h2 := count_one c (join ts [c])
    show count (join ts [c]) [c] = _
    omega
  rw [hc]
  exact splitK_join c ts hne h
theorem splitB_size (sep : ByteArray) : ∀ (k : Nat) (s x : ByteArray), x ∈ splitB sep 0 k s → x.size ≤ s.size
  | 0, s, x, h => by
    rw [splitB_zero] at h
    simp at h
    rw [h]; exact Nat.le_refl _
  | k + 1, s, x, h => by
    unfold splitB at h
    split at h
    · simp at h
      rw [h]; exact Nat.le_refl _
    · rcases List.mem_cons.1 h with rfl | h
      · rw [ByteArray.size_extract]; omega
      · have := splitB_size sep k _ x h
        rw [ByteArray.size_extract] at this
        omega
theorem piec_size (c : UInt8) : ∀ (s acc : List UInt8), ∀ x ∈ piec c acc s, x.length ≤ acc.length + s.length
  | [], acc, x, h => by
    simp [piec] at h
    rw [h]; simp
  | b :: r, acc, x, h => by
    unfold piec at h
    split at h
    · rcases List.mem_cons.1 h with rfl | h
      · simp
      · have := piec_size c r [] x h
        simp at this ⊢
        omega
    · have := piec_size c r (acc ++ [b]) x h
      simp at this ⊢
      omega
theorem piec_len (c : UInt8) : ∀ (s acc : List UInt8), (piec c acc s).length ≤ s.length + 1
  | [], acc => by simp [piec]
  | b :: r, acc => by
    unfold piec
    split
    · have := piec_len c r []
      simp at this ⊢
      omega
    · have := piec_len c r (acc ++ [b])
      simp at this ⊢
      omega
/-! the bytes of a number -/
theorem dec_bytes : ∀ (k u : Nat), u ≤ k → ∀ b ∈ decDigits u, 48 ≤ b.toNat ∧ b.toNat ≤ 57
  | 0, u, h, b, hb => by
    obtain rfl : u = 0 := by omega
    rw [decDigits_one (by decide)] at hb
    simp at hb
    rw [hb]; decide
  | k + 1, u, h, b, hb => by
    by_cases hu : u < 10
    · rw [decDigits_one hu] at hb
      simp only [List.mem_singleton] at hb
      rw [hb, Go.Proofs.YtleeglgjaifejaaGreatDoor.dig.digit_byte u hu]; omega
    · have hd : u % 10 < 10 := Nat.mod_lt _ (by decide)
      rw [decDigits, dif_neg hu] at hb
      rcases List.mem_append.1 hb with hb | hb
      · exact dec_bytes k (u / 10) (by omega) b hb
      · simp only [List.mem_singleton] at hb
        rw [hb, Go.Proofs.YtleeglgjaifejaaGreatDoor.dig.digit_byte _ hd]; omega
theorem itoa_bytes (n : Int) : ∀ b ∈ itoa n, b.toNat = 45 ∨ (48 ≤ b.toNat ∧ b.toNat ≤ 57) := by
  intro b hb
  unfold itoa at hb
  split at hb
  · rcases List.mem_cons.1 hb with rfl | hb
    · exact .inl rfl
    · exact .inr (dec_bytes _ _ (Nat.le_refl _) b hb)
  · exact .inr (dec_bytes _ _ (Nat.le_refl _) b hb)
theorem itoa_no (n : Int) (c : UInt8) (h : ¬ (c.toNat = 45 ∨ (48 ≤ c.toNat ∧ c.toNat ≤ 57))) : c ∉ itoa n := fun hc => h (itoa_bytes n c hc)
def val (n : Int) : List UInt8 := if n = -1 then [45] else itoa n
theorem vS_val (n : Int) : vS n = S (val n) := by
  unfold vS val
  split <;> rfl
theorem val_no (n : Int) (c : UInt8) (h : ¬ (c.toNat = 45 ∨ (48 ≤ c.toNat ∧ c.toNat ≤ 57))) : c ∉ val n := by
  unfold val
  split
  · intro hc
    simp at hc
    subst hc
    exact h (.inl rfl)
  · exact itoa_no n c h
def mk (n : Int) : List UInt8 := (FM n).data.toList
theorem FM_mk (n : Int) : FM n = S (mk n) := (S_data _).symm
theorem mk_no (n : Int) (c : UInt8) (h : ¬ (c.toNat = 45 ∨ (48 ≤ c.toNat ∧ c.toNat ≤ 57))) (h2 : ¬ (105 ≤ c.toNat ∧ c.toNat ≤ 110 ∨ c.toNat = 102)) : c ∉ mk n := by
  unfold mk FM
  split
  · exact itoa_no n c h
  · split
    · intro hc
      have : c = 105 ∨ c = 110 ∨ c = 102 := by simpa [infS] using hc
      rcases this with rfl | rfl | rfl
      · exact h2 (.inl (by decide))
      · exact h2 (.inl (by decide))
      · exact h2 (.inr (by decide))
    · intro hc
      cases hc
/-! the bytes of a version -/
theorem vl_is (x : Ver) : vl x = itoa x.a ++ 58 :: (val x.b ++ 64 :: (itoa x.c ++ 44 :: (itoa x.d ++ 44 :: mk x.e))) := by
  unfold vl vt
  rw [vS_val, FM_mk, show (⟨#[58]⟩ : ByteArray) = S [58] from rfl, show (⟨#[64]⟩ : ByteArray) = S [64] from rfl, show (⟨#[44]⟩ : ByteArray) = S [44] from rfl]
  simp only [S_app]
  show (List.toArray _).toList = _
  simp
theorem vl_no (x : Ver) : (32 : UInt8) ∉ vl x := by
  rw [vl_is]
  have h1 := fun n => itoa_no n 32 (by decide)
  have h2 := val_no x.b 32 (by decide)
  have h3 := mk_no x.e 32 (by decide) (by decide)
  simp [h1, h2, h3]
end Go.Proofs.YtleeglgjaifejaaGreatDoor.pieces
