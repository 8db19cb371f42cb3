/- How one byte becomes a string of one byte: the conversion of a new row of one cell. -/
import Derived.Test.YtfjjpmpkjcopiaaDoorRows
import Derived.Test.YtfjjpmpkjcopiaaDoorNum
import Derived.WalkKit
import Derived.ProofKit
import Derived.Lib.Hide
namespace Go.Proofs.YtfjjpmpkjcopiaaDoor.conv
open Go.RowKit
theorem info5 : (Tryd.prog.info? 5).map (fun i => (i.zero, i.size, i.bytes)) = some (some (.int .u8 0), 1, 1) := by kernel_rfl
theorem own : ownKnob Tryd.prog.godebug = none := by kernel_rfl
theorem conv1 (W : World) (x : Int) : Sem.run Tryd.prog (convert 22 9 (Value.slice (some { block := W.heap.size, off := 0 }) 1 1)) (W.alloc (Obj.cells #[Value.int IntKind.u8 x] 5)) = .ok (.string ⟨#[UInt8.ofNat x.toNat]⟩) (W.alloc (Obj.cells #[Value.int IntKind.u8 x] 5)) := by
  rw [run_convert_bytes_string _ 22 9 5 _ 1 1 Tryd.underlying22 Tryd.underlying5 Tryd.underlying9]
  have hl := run_loadCells_list (P := Tryd.prog) (W.alloc (Obj.cells #[Value.int IntKind.u8 x] 5)) ⟨W.heap.size, 0, none⟩ ([x].map (Value.int .u8)) (fun j v hj => by
    match j, hj with
    | 0, hj => simp at hj; subst hj; simp [Addr.add])
  simp only [List.length_map, List.length_singleton] at hl
  rw [run_bytesToString _ _ 1 1 _ hl]
  rfl
end Go.Proofs.YtfjjpmpkjcopiaaDoor.conv
