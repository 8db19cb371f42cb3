/- Plain facts on decimal numerals, and how one byte becomes a string of one byte. -/
import Derived.Test.YtjnlbhmddhpmaabDoorRows
import Derived.WalkKit
import Derived.ProofKit
import Derived.Lib.Hide
import Derived.Lib.ItoaNum
import Derived.Lib.ItoaLen
import Derived.Laws.Concat
import Derived.Laws.BytesString
namespace Go.Proofs.YtjnlbhmddhpmaabDoor.fmtn
open Go.RowKit
theorem own : ownKnob Tryd.prog.godebug = none := by kernel_rfl
theorem conv1 (W : World) (x : Int) : Sem.run Tryd.prog (convert 50 9 (Value.slice (some { block := W.heap.size, off := 0 }) 1 1)) (W.alloc (Obj.cells #[Value.int IntKind.u8 x] 5)) = .ok (.string ⟨#[UInt8.ofNat x.toNat]⟩) (W.alloc (Obj.cells #[Value.int IntKind.u8 x] 5)) := by
  rw [run_convert_bytes_string _ 50 9 5 _ 1 1 Tryd.underlying50 Tryd.underlying5 Tryd.underlying9]
  have hl := run_loadCells_list (P := Tryd.prog) (W.alloc (Obj.cells #[Value.int IntKind.u8 x] 5)) ⟨W.heap.size, 0, none⟩ ([x].map (Value.int .u8)) (fun j v hj => by
    match j, hj with
    | 0, hj => simp at hj; subst hj; simp [Addr.add])
  simp only [List.length_map, List.length_singleton] at hl
  rw [run_bytesToString _ _ 1 1 _ hl]
  rfl
/-- What is left to write, and what is written: 'm' the number that is left, 'out' the digits behind it. -/
def DigRest (D : List UInt8) (m : Nat) (out : List UInt8) : Prop := (m ≠ 0 → Lib.decDigits m ++ out = D) ∧ (m = 0 → out = D)
theorem left_start (m : Nat) (h : m ≠ 0) : DigRest (Lib.decDigits m) m [] := ⟨fun _ => List.append_nil _, fun e => absurd e h⟩
theorem left_step {D : List UInt8} {m : Nat} {out : List UInt8} (h : m ≠ 0) (hl : DigRest D m out) : DigRest D (m / 10) (UInt8.ofNat (48 + m % 10) :: out) := by
  have h1 := hl.1 h
  by_cases hm : m < 10
  · rw [Lib.decDigits_one hm] at h1
    refine ⟨fun e => absurd (by omega) e, fun _ => ?_⟩
    rw [← h1, show m % 10 = m from by omega]
    rfl
  · rw [Lib.decDigits, dif_neg hm, List.append_assoc] at h1
    exact ⟨fun _ => h1, fun e => by omega⟩
theorem left_end {D : List UInt8} {out : List UInt8} (hl : DigRest D 0 out) : out = D := hl.2 rfl
theorem left_len {D : List UInt8} {m : Nat} {out : List UInt8} (hl : DigRest D m out) : out.length ≤ D.length := by
  by_cases h : m = 0
  · rw [hl.2 h]; exact Nat.le_refl _
  · rw [← hl.1 h, List.length_append]; omega
theorem dec_len (m : Nat) (h : m < 18446744073709551616) : (Lib.decDigits m).length ≤ 20 := by rw [Lib.decDigits_length]; exact Lib.nDigits_le20 m h
def S (l : List UInt8) : ByteArray := ⟨l.toArray⟩
theorem S_size (l : List UInt8) : (S l).size = l.length := by show l.toArray.size = _; simp
theorem S_cons (n : Nat) (l : List UInt8) : (ByteArray.mk #[UInt8.ofNat n]) ++ S l = S (UInt8.ofNat n :: l) := by
  unfold S
  rw [show #[UInt8.ofNat n] = [UInt8.ofNat n].toArray from rfl]
  exact ByteArray.mk_append_mk [_] _
theorem S_cons48 (k : Nat) (l : List UInt8) : (ByteArray.mk #[48 + UInt8.ofNat k]) ++ S l = S (UInt8.ofNat (48 + k) :: l) := by
  rw [← S_cons, UInt8.ofNat_add]
  rfl
theorem S_minus (l : List UInt8) : (ByteArray.mk #[45]) ++ S l = S (45 :: l) := by
  unfold S
  rw [show (#[45] : Array UInt8) = [45].toArray from rfl]
  exact ByteArray.mk_append_mk [_] _
end Go.Proofs.YtjnlbhmddhpmaabDoor.fmtn
