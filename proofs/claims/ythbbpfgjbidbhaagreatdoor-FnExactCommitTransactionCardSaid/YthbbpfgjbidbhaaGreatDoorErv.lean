/- What the two listed errors give the walks; a world in which they lie as their initialisers lay them. -/
import Derived.Test.YthbbpfgjbidbhaaGreatDoorXgb
import Derived.Test.YthbbpfgjbidbhaaGreatDoorRows
import Derived.Stop.LaidErr
import Derived.Shelf.Strconv.ErrVarAll
import Derived.LaidLaws
import Derived.Lib.LaidTab
import Derived.Deep.DeepHandedRow
namespace Go.Proofs.YthbbpfgjbidbhaaGreatDoor.erv
open Go.RowKit
theorem gW : Tryz.prog.globalNamed "loop.example/g01924/impl.errNoWindow" = some 0 := by kernel_rfl
theorem gR : Tryz.prog.globalNamed "loop.example/g01924/impl.errNoRoom" = some 1 := by kernel_rfl
theorem tW : (Tryz.prog.globals[0]?).map (·.type) = some 90 := by kernel_rfl
theorem tR : (Tryz.prog.globals[1]?).map (·.type) = some 90 := by kernel_rfl
theorem cellsT : Tryz.prog.cellsOf 147 = 1 := by kernel_rfl
theorem cellsS : Tryz.prog.cellsOf 9 = 1 := by kernel_rfl
theorem star : "*" ++ "errors.errorString" = "*errors.errorString" := by decide
theorem rowT (u : TypeId) (h : Tryz.prog.typeName? 3 u = some "*errors.errorString") : u = 129 :=
  typeName_ptr_named (nm := "errors.errorString") (by rw [star]; kernel_rfl) (by kernel_rfl) (by decide) u (by rw [star]; exact h)
theorem ev_of {W : World} {r : List (String × DataW Unit)} (h : laidMet Tryz.prog (("loop.example/g01924/impl.errNoWindow", Rows.laid_loop_example_g01924_impl_errNoWindow) :: ("loop.example/g01924/impl.errNoRoom", Rows.laid_loop_example_g01924_impl_errNoRoom) :: r) W) : crm.Ev W := by
  obtain ⟨a0, s0, hv0, -, -, -⟩ := laid_sentinel h gW tW Tryz.underlying90 rowT Tryz.underlying129 Tryz.underlying147 rfl rfl Tryz.underlying9 cellsT cellsS
  obtain ⟨a1, s1, hv1, -, -, -⟩ := laid_sentinel h.tail gR tR Tryz.underlying90 rowT Tryz.underlying129 Tryz.underlying147 rfl rfl Tryz.underlying9 cellsT cellsS
  exact ⟨⟨a0, by simpa using World.var?_cell gW hv0 0⟩, a1, by simpa using World.var?_cell gR hv1 0⟩
abbrev text0 : ByteArray := { data := #[116, 104, 101, 32, 116, 114, 97, 110, 115, 97, 99, 116, 105, 111, 110, 32, 99, 97, 110, 110, 111, 116, 32, 99, 111, 109, 109, 105, 116, 32, 119, 105, 116, 104, 32, 116, 104, 105, 115, 32, 115, 116, 97, 109, 112] }
abbrev text1 : ByteArray := { data := #[116, 104, 101, 32, 119, 105, 110, 100, 111, 119, 32, 104, 97, 115, 32, 110, 111, 32, 114, 111, 111, 109] }
noncomputable def low : Nat := (World.holding Tryz.prog default ⟨#[], #[], []⟩).heap.size
def setCells (v : Array Value) : Obj → Obj
  | .cells _ t frozen => .cells v t frozen
  | o => o
noncomputable def errWorld (os : Os) : World :=
  { World.holding Tryz.prog os ⟨#[.cells #[.string text0] 147, .cells #[.string text1] 147], #[], []⟩ with heap := ((World.holding Tryz.prog os ⟨#[.cells #[.string text0] 147, .cells #[.string text1] 147], #[], []⟩).heap.modify 0 (setCells #[.iface 129 (.pointer (some ⟨low, 0, none⟩))])).modify 1 (setCells #[.iface 129 (.pointer (some ⟨low + 1, 0, none⟩))]) }
def readVars (H : Type) : List (DataW H) := [Rows.laid_loop_example_g01924_impl_errNoWindow, Rows.laid_loop_example_g01924_impl_errNoRoom]
end Go.Proofs.YthbbpfgjbidbhaaGreatDoor.erv
