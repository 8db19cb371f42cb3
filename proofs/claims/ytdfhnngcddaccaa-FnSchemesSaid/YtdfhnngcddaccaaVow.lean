/- A row of two-integer structs of one's own reads as its list. -/
import Derived.Test.YtdfhnngcddaccaaEl2
namespace Go.Proofs.Ytdfhnngcddaccaa.vow
open Go.Proofs.Ytdfhnngcddaccaa.el2
theorem vs_ownk {w : World} {e : TypeId} {base n c : Nat} {A : Option Addr} {l : List E2} (h : w.ownsRow base e 2 (.slice A n c) n (flat l)) (hl : l.length = n) : Vs w w.heap.size A n l := by
  obtain ⟨A', c', h9, hv, _⟩ := own_vs h hl
  injection h9 with e1 _ _
  subst e1
  exact hv
end Go.Proofs.Ytdfhnngcddaccaa.vow
