/- What the two listed errors give the walks; a world in which they lie as their initialisers lay them. -/
import Derived.Test.YtbnkkgjkhpbgiaaGreatDoorCrm
import Derived.Test.YtbnkkgjkhpbgiaaGreatDoorRows
import Derived.Stop.LaidErr
import Derived.Shelf.Strconv.ErrVarAll
import Derived.LaidLaws
import Derived.Lib.LaidTab
import Derived.Deep.DeepHandedRow
import Derived.LaidHandle
import Derived.Test.YtbnkkgjkhpbgiaaGreatDoorAsx
namespace Go.Proofs.YtbnkkgjkhpbgiaaGreatDoor.erv
open Go.RowKit
theorem gW : Tryz.prog.globalNamed "loop.example/g01924/impl.errNoWindow" = some 0 := by kernel_rfl
theorem gR : Tryz.prog.globalNamed "loop.example/g01924/impl.errNoRoom" = some 1 := by kernel_rfl
theorem tW : (Tryz.prog.globals[0]?).map (·.type) = some 64 := by kernel_rfl
theorem tR : (Tryz.prog.globals[1]?).map (·.type) = some 64 := by kernel_rfl
theorem cellsT : Tryz.prog.cellsOf 190 = 1 := by kernel_rfl
theorem cellsS : Tryz.prog.cellsOf 9 = 1 := by kernel_rfl
theorem star : "*" ++ "errors.errorString" = "*errors.errorString" := by decide
theorem rowT (u : TypeId) (h : Tryz.prog.typeName? 3 u = some "*errors.errorString") : u = 168 :=
  typeName_ptr_named (nm := "errors.errorString") (by rw [star]; kernel_rfl) (by kernel_rfl) (by decide) u (by rw [star]; exact h)
theorem ev_of {W : World} {r : List (String × DataW Unit)} (h : laidMet Tryz.prog (("loop.example/g01924/impl.errNoWindow", Rows.laid_loop_example_g01924_impl_errNoWindow) :: ("loop.example/g01924/impl.errNoRoom", Rows.laid_loop_example_g01924_impl_errNoRoom) :: r) W) : crm.Ev W := by
  obtain ⟨a0, s0, hv0, -, -, -⟩ := laid_sentinel h gW tW Tryz.underlying64 rowT Tryz.underlying168 Tryz.underlying190 rfl rfl Tryz.underlying9 cellsT cellsS
  obtain ⟨a1, s1, hv1, -, -, -⟩ := laid_sentinel h.tail gR tR Tryz.underlying64 rowT Tryz.underlying168 Tryz.underlying190 rfl rfl Tryz.underlying9 cellsT cellsS
  exact ⟨⟨a0, by simpa using World.var?_cell gW hv0 0⟩, a1, by simpa using World.var?_cell gR hv1 0⟩
abbrev text0 : ByteArray := { data := #[116, 104, 101, 32, 116, 114, 97, 110, 115, 97, 99, 116, 105, 111, 110, 32, 99, 97, 110, 110, 111, 116, 32, 99, 111, 109, 109, 105, 116, 32, 119, 105, 116, 104, 32, 116, 104, 105, 115, 32, 115, 116, 97, 109, 112] }
abbrev text1 : ByteArray := { data := #[116, 104, 101, 32, 119, 105, 110, 100, 111, 119, 32, 104, 97, 115, 32, 110, 111, 32, 114, 111, 111, 109] }
noncomputable def low : Nat := (World.holding Tryz.prog default ⟨#[], #[], []⟩).heap.size
def setCells (v : Array Value) : Obj → Obj
  | .cells _ t frozen => .cells v t frozen
  | o => o
noncomputable def errWorld (os : Os) : World :=
  { World.holding Tryz.prog os ⟨#[.cells #[.string text0] 190, .cells #[.string text1] 190], #[], []⟩ with heap := ((World.holding Tryz.prog os ⟨#[.cells #[.string text0] 190, .cells #[.string text1] 190], #[], []⟩).heap.modify 0 (setCells #[.iface 168 (.pointer (some ⟨low, 0, none⟩))])).modify 1 (setCells #[.iface 168 (.pointer (some ⟨low + 1, 0, none⟩))]) }
def readVars (H : Type) : List (DataW H) := [Rows.laid_loop_example_g01924_impl_errNoWindow, Rows.laid_loop_example_g01924_impl_errNoRoom]
theorem gH : Tryz.prog.globalNamed "errors.errorType" = some 2 := by kernel_rfl
theorem rtH : (Tryz.prog.cutTypes.find? (·.1 == "internal/reflectlite.rtype")).map (·.2) = some 138 := by kernel_rfl
theorem oneRow : ((List.range 202).filter fun t => Tryz.prog.rowNamed t [101, 114, 114, 111, 114]) = [64] := by kernel_rfl
theorem sizeT : Tryz.prog.types.size = 202 := by kernel_rfl
/-- what the three listed variables give -/
def Facts (W : World) : Prop := crm.Ev W ∧ asx.Eh W
theorem Facts.ev {W : World} (h : Facts W) : crm.Ev W := h.1
theorem Facts.eh {W : World} (h : Facts W) : asx.Eh W := h.2
theorem Facts.below {w w' : World} (h : Facts w) (hb : Below w.heap.size w w') : Facts w' := ⟨crm.Ev.below h.1 hb, asx.Eh.below h.2 hb⟩
theorem facts3 {W : World} (h : laidMetH Tryz.prog [("errors.errorType", Rows.laid_errors_errorType), ("loop.example/g01924/impl.errNoWindow", Rows.laid_loop_example_g01924_impl_errNoWindow), ("loop.example/g01924/impl.errNoRoom", Rows.laid_loop_example_g01924_impl_errNoRoom)] W) : Facts W := by
  have h' : laidMet Tryz.prog [("loop.example/g01924/impl.errNoWindow", Rows.laid_loop_example_g01924_impl_errNoWindow), ("loop.example/g01924/impl.errNoRoom", Rows.laid_loop_example_g01924_impl_errNoRoom)] W ∧ handlesMet Tryz.prog [("errors.errorType", Rows.laid_errors_errorType)] W := h
  refine ⟨ev_of (r := []) h'.1, ?_⟩
  obtain ⟨name, u, ty, e1, e2, e3, e4, e5⟩ := h'.2 _ (List.mem_singleton.2 rfl)
  have en : name = [101, 114, 114, 111, 114] := (Option.some.inj e1).symm
  subst en
  obtain rfl := Option.some.inj (rtH.symm.trans e2)
  have hm : ty ∈ (List.range 202).filter fun t => Tryz.prog.rowNamed t [101, 114, 114, 111, 114] := List.mem_filter.2 ⟨List.mem_range.2 (by rw [← sizeT]; exact e3), e4⟩
  rw [oneRow] at hm
  obtain rfl := List.mem_singleton.1 hm
  have hh : typeHandle Tryz.prog 64 = .pointer (some ⟨3, 64, none⟩) := by kernel_rfl
  rw [hh] at e5
  simpa [asx.Eh] using World.var?_cell gH e5 0
noncomputable def errWorldH (os : Os) : World := { errWorld os with heap := (errWorld os).heap.modify 2 (setCells #[.iface 138 (.agg #[.pointer (some ⟨3, 64, none⟩)])]) }
end Go.Proofs.YtbnkkgjkhpbgiaaGreatDoor.erv
