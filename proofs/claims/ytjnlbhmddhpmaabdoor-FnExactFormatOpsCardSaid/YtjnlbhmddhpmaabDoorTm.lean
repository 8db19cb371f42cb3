/- Marks on a transaction that a call made. -/
import Derived.Test.YtjnlbhmddhpmaabDoorOw2
import Derived.Test.YtjnlbhmddhpmaabDoorTx
import Derived.WalkKit
import Derived.ProofKit
import Derived.Below
import Derived.Carry
import Derived.Lib.Hide
namespace Go.Proofs.YtjnlbhmddhpmaabDoor.tm
open Go.ChangeShapes Go.WideShapes Go.ChangeAt Go.RowKit
open Go.Proofs.YtjnlbhmddhpmaabDoor.el2 Go.Proofs.YtjnlbhmddhpmaabDoor.fr Go.Proofs.YtjnlbhmddhpmaabDoor.ow2 Go.Proofs.YtjnlbhmddhpmaabDoor.tx
set_option linter.unusedVariables false
theorem TB.fr {w w' : World} {b lo hi : Nat} {x : Hd} {u v : Value} (h : TB w b x u v) (hf : FR lo hi w w') (hd : b < lo ∨ hi ≤ b) (hs : b < w.heap.size) : TB w' b x u v := h.of_block (hf.block b hs hd)
theorem At.fr {w w' : World} {b o lo hi : Nat} {x : E2} (h : At w b o x) (hf : FR lo hi w w') (hd : b < lo ∨ hi ≤ b) (hs : b < w.heap.size) : At w' b o x := h.of_block (hf.block b hs hd)
theorem row_ne {w : World} {g g2 M M2 : Nat} {f f2 : Nat → Value} {t t2 : TypeId} (h : w.rowIs g t M f) (h2 : w.rowIs g2 t2 M2 f2) (ht : t ≠ t2) : g ≠ g2 := by
  rintro rfl
  obtain ⟨c, hc, _⟩ := h
  obtain ⟨c2, hc2, _⟩ := h2
  rw [hc] at hc2
  injection hc2 with e
  injection e with _ e2
  exact ht e2
end Go.Proofs.YtjnlbhmddhpmaabDoor.tm
