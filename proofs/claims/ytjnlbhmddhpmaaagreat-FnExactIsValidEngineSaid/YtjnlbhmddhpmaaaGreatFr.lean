/- Frames by ranges: the blocks lo <= k < hi may have changed, no other. -/
import Derived.WalkKit
import Derived.ProofKit
import Derived.OpenShut
import Derived.ChangeOld
import Derived.Below
import Derived.Carry
import Derived.Deep.OwnRows
namespace Go.Proofs.YtjnlbhmddhpmaaaGreat.fr
open Go.ChangeShapes Go.WideShapes Go.ChangeAt Go.RowKit
structure FR (lo hi : Nat) (w w' : World) : Prop where
  os : w'.os = w.os
  tape : w'.tape = w.tape
  output : w'.output = w.output
  size : w.heap.size ≤ w'.heap.size
  block : ∀ k, k < w.heap.size → (k < lo ∨ hi ≤ k) → w'.heap[k]? = w.heap[k]?
section
variable {lo hi lo' hi' B : Nat} {w w' w2 : World}
theorem FR.of_below (h : Below w.heap.size w w') : FR lo hi w w' := ⟨h.os, h.tape, h.output, h.size, fun k hk _ => h.block k hk⟩
theorem FR.same (w : World) : FR lo hi w w := ⟨rfl, rfl, rfl, Nat.le_refl _, fun _ _ _ => rfl⟩
theorem FR.below (h : FR lo hi w w') (hB : B ≤ lo) (hs : B ≤ w.heap.size) : Below B w w' := ⟨h.os, h.tape, h.output, h.size, fun k hk => h.block k (by omega) (.inl (by omega))⟩
theorem FR.wide (h : FR lo hi w w') (h1 : lo' ≤ lo) (h2 : hi ≤ hi') : FR lo' hi' w w' := ⟨h.os, h.tape, h.output, h.size, fun k hk hl => h.block k hk (by omega)⟩
theorem FR.trans (h : FR lo hi w w') (h2 : FR lo hi w' w2) : FR lo hi w w2 := ⟨h2.os.trans h.os, h2.tape.trans h.tape, h2.output.trans h.output, Nat.le_trans h.size h2.size, fun k hk hl => (h2.block k (Nat.lt_of_lt_of_le hk h.size) hl).trans (h.block k hk hl)⟩
theorem FR.cell (h : FR lo hi w w') {p : Addr} (hp : p.block < w.heap.size) (hl : p.block < lo ∨ hi ≤ p.block) : w'.cell? p = w.cell? p := World.cell?_of_block (w := w) (a := p) (h.block _ hp hl)
theorem FR.chain {w0 : World} (h : Below w0.heap.size w0 w) (hf : FR lo hi w w') (hl : w0.heap.size ≤ lo) : Below w0.heap.size w0 w' := h.trans (hf.below hl h.size)
end
end Go.Proofs.YtjnlbhmddhpmaaaGreat.fr
