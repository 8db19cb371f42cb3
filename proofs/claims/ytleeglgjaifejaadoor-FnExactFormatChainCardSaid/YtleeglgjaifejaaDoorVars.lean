/- What the listed variables give, the two sentinels among them; a world in which all five lie as their initialisers lay them. -/
import Derived.Test.YtleeglgjaifejaaDoorTabs
import Derived.Stop.LaidErr
import Derived.Shelf.Strconv.ErrVarAll
import Derived.LaidLaws
namespace Go.Proofs.YtleeglgjaifejaaDoor.vars
open Go.RowKit Go.Proofs.YtleeglgjaifejaaDoor.tabs
theorem cells9 : Tryd.prog.cellsOf 9 = 1 := by kernel_rfl
theorem star : "*" ++ "errors.errorString" = "*errors.errorString" := by decide
/-- What the five variables give the walks. -/
def Facts (W : World) : Prop := Lib.TabIs Tryd.prog W "internal/strconv.uint64pow10" .u64 Lib.pow10Tab ∧ (∃ tp p, W.var? Tryd.prog "strconv.ErrSyntax" = some #[.iface tp p]) ∧ (∃ tp p, W.var? Tryd.prog "strconv.ErrRange" = some #[.iface tp p])
theorem var_below {w w' : World} {n : String} {g : Nat} (hg : Tryd.prog.globalNamed n = some g) (hb : Below w.heap.size w w') (h : ∃ tp p, w.var? Tryd.prog n = some #[.iface tp p]) : ∃ tp p, w'.var? Tryd.prog n = some #[.iface tp p] := by
  obtain ⟨tp, p, h⟩ := h
  refine ⟨tp, p, ?_⟩
  unfold World.var? at h ⊢
  rw [hg] at h ⊢
  simp only [Option.bind_some] at h ⊢
  have hlt : g < w.heap.size := by
    rcases Nat.lt_or_ge g w.heap.size with h' | h'
    · exact h'
    · rw [Array.getElem?_eq_none h'] at h; cases h
  rw [hb.block g hlt]
  exact h
abbrev synS : ByteArray := { data := #[105, 110, 118, 97, 108, 105, 100, 32, 115, 121, 110, 116, 97, 120] }
abbrev rngS : ByteArray := { data := #[118, 97, 108, 117, 101, 32, 111, 117, 116, 32, 111, 102, 32, 114, 97, 110, 103, 101] }
noncomputable def low : Nat := (World.holding Tryd.prog default ⟨#[], #[], []⟩).heap.size
end Go.Proofs.YtleeglgjaifejaaDoor.vars
