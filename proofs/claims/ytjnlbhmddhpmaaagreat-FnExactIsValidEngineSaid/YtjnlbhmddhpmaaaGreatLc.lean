/- The model's copy of a transaction (l5Copy): in memory of its own. -/
import Derived.Test.YtjnlbhmddhpmaaaGreatCl
namespace Go.Proofs.YtjnlbhmddhpmaaaGreat.lc
open Go.ChangeShapes Go.WideShapes Go.ChangeAt Go.RowKit
open Go.Proofs.YtjnlbhmddhpmaaaGreat.el2 Go.Proofs.YtjnlbhmddhpmaaaGreat.tx Go.Proofs.YtjnlbhmddhpmaaaGreat.fr Go.Proofs.YtjnlbhmddhpmaaaGreat.ow2 Go.Proofs.YtjnlbhmddhpmaaaGreat.ap Go.Proofs.YtjnlbhmddhpmaaaGreat.bx Go.Proofs.YtjnlbhmddhpmaaaGreat.cl
set_option linter.unusedVariables false
set_option linter.unusedSimpArgs false
set_option linter.constructorNameAsVariable false
/-- an append of a list onto an empty row just laid -/
theorem app_empty {e t : TypeId} {i : TypeInfo} {z : Value} (w : World) (ty : TypeId) (ht : Tryz.prog.underlying t = some (.slice e)) (hi : Tryz.prog.info? e = some i) (hz : i.zero = some z) (hsize : i.size = 2) (hby : i.bytes = 16) (hzs : z.cells.size = 2) {A : Option Addr} {n c B : Nat} {l : List E2} (hv : Vs w B A n l) (hn : n ≤ 2097152) (hB : B ≤ w.heap.size) :
    ∃ A' c' w', (Builtin.append_ #[t, t] ty #[.slice (some ⟨w.heap.size, 0, none⟩) 0 0, .slice A n c]).run Tryz.prog (w.alloc (.cells #[] e)) = .ok (.slice A' n c') w' ∧ w'.ownsRow w.heap.size e 2 (.slice A' n c') n (flat l) ∧ Below w.heap.size w w' := by
  have hbase : w.heap.size ≤ (w.alloc (.cells #[] e)).heap.size := by simp
  obtain ⟨v', w', hr, ho, hg⟩ := run_append_e2 (P := Tryz.prog) (w.alloc (.cells #[] e)) t ty e i z ht hi hz hsize hby hzs (own_empty w e w.heap.size (Nat.le_refl _)) (hv.below (below_le (new1 w _) hB)) (A := A) (c := c) (by omega) hbase
  have hb1 := (new1 w (.cells #[] e)).grown hg hbase (fun k hk => by simp [Value.ownBlock] at hk; omega)
  rw [Nat.zero_add, List.nil_append] at ho
  obtain ⟨A', c', rfl, _⟩ := own_vs ho hv.1
  exact ⟨A', c', w', hr, ho, hb1⟩
end Go.Proofs.YtjnlbhmddhpmaaaGreat.lc
