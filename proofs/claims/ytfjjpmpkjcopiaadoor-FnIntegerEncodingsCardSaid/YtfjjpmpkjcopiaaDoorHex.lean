/- Plain facts on hexadecimal digits: the two digits of a byte, and the row of digits of a row of bytes. -/
import Derived.Test.YtfjjpmpkjcopiaaDoorVar
namespace Go.Proofs.YtfjjpmpkjcopiaaDoor.hex
open Go.RowKit
open Go.Proofs.YtfjjpmpkjcopiaaDoor.num Go.Proofs.YtfjjpmpkjcopiaaDoor.var Go.Proofs.YtfjjpmpkjcopiaaDoor.conv
/-- The digit of a number below 16. -/
def hexd (k : Nat) : Nat := if k < 10 then 48 + k else 87 + k
theorem hexd_lt (k : Nat) (h : k < 16) : hexd k < 128 := by unfold hexd; split <;> omega
def digits : ByteArray := ⟨#[48, 49, 50, 51, 52, 53, 54, 55, 56, 57, 97, 98, 99, 100, 101, 102]⟩
theorem digits_at : ∀ k : Nat, (h : k < 16) → (digits[k]'h).toNat = hexd k := by decide +kernel
theorem index_digits {P : Program} {t : TypeId} (ht : P.underlying t = some .string) (kk : IntKind) (k : Nat) (h : k < 16) (w : World) :
    (Instr.index t (.string digits) (.int kk (k : Int))).run P w = .ok (.int .u8 ((hexd k : Nat) : Int)) w := by
  have hk : k < digits.size := h
  rw [run_index_string w t digits kk (k : Int) ht, dif_pos (show (0 : Int) ≤ (k : Int) ∧ (k : Int) < (digits.size : Int) from ⟨by omega, by omega⟩)]
  have e := digits_at k h
  exact congrArg (fun x : Nat => Result.ok (Value.int .u8 (x : Int)) w) e
theorem index_lit {P : Program} {t : TypeId} (ht : P.underlying t = some .string) (kk : IntKind) (i : Int) (k : Nat) (he : i = (k : Int)) (h : k < 16) (w : World) :
    (Instr.index t (.string ⟨#[48, 49, 50, 51, 52, 53, 54, 55, 56, 57, 97, 98, 99, 100, 101, 102]⟩) (.int kk i)).run P w = .ok (.int .u8 ((hexd k : Nat) : Int)) w := by
  subst he
  exact index_digits ht kk k h w
theorem and15 : ∀ y : Nat, y < 256 → y &&& 15 = y % 16 := by decide +kernel
theorem and_15 (c : UInt8) : bits .and .u8 ((c.toNat : Nat) : Int) 15 = ((c.toNat % 16 : Nat) : Int) := by
  rw [show (15 : Int) = ((15 : Nat) : Int) from rfl, u8_and_nat _ _ c.toNat_lt (by omega), and15 _ c.toNat_lt]
/-- The two digits of a byte. -/
def pair (c : UInt8) : List UInt8 := [UInt8.ofNat (hexd (c.toNat / 16)), UInt8.ofNat (hexd (c.toNat % 16))]
def hexL (l : List UInt8) : List UInt8 := l.flatMap pair
theorem hexL_length : ∀ l : List UInt8, (hexL l).length = 2 * l.length
  | [] => rfl
  | c :: l => by
    have := hexL_length l
    rw [hexL, List.flatMap_cons, List.length_append, ← hexL, this, List.length_cons]
    show 2 + _ = _
    omega
theorem hexL_snoc (l : List UInt8) (c : UInt8) : hexL (l ++ [c]) = hexL l ++ pair c := by
  unfold hexL; rw [List.flatMap_append]; simp
theorem pair_row (acc : List UInt8) (c : UInt8) : acc.map byteV ++ [.int .u8 ((hexd (c.toNat / 16) : Nat) : Int), .int .u8 ((hexd (c.toNat % 16) : Nat) : Int)] = (acc ++ pair c).map byteV := by
  have h1 := hexd_lt (c.toNat / 16) (by have := c.toNat_lt; omega)
  have h2 := hexd_lt (c.toNat % 16) (by omega)
  rw [List.map_append, pair, List.map_cons, List.map_cons, List.map_nil, byteV_ofNat _ (by omega), byteV_ofNat _ (by omega)]
theorem hexL_take (s : ByteArray) (k : Nat) (h : k < s.size) : hexL (s.data.toList.take (k + 1)) = hexL (s.data.toList.take k) ++ pair s[k] := by
  rw [take_snoc s k h, hexL_snoc]
/-- The digits as a string. -/
def hexS (s : ByteArray) : ByteArray := ⟨(hexL s.data.toList).toArray⟩
/-- Two cells of a new row. -/
theorem cells_two_new (w : World) (x y : Value) (t : TypeId) : ∀ j u, [x, y][j]? = some u → (w.alloc (.cells #[x, y] t)).cell? ((⟨w.heap.size, 0, none⟩ : Addr).add j) = some u := by
  intro j u hj
  match j, hj with
  | 0, hj => simp at hj; subst hj; simp [Addr.add]
  | 1, hj => simp at hj; subst hj; simp [Addr.add]
theorem two_oneCell (k k' : IntKind) (n m : Int) : ∀ u ∈ [Value.int k n, Value.int k' m], u.oneCell' = true := by
  intro u hu
  simp at hu
  rcases hu with rfl | rfl <;> rfl
end Go.Proofs.YtfjjpmpkjcopiaaDoor.hex
