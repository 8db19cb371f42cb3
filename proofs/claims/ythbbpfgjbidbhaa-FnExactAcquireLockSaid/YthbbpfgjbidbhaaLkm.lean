/- How long a list of locks is behind an acquisition. -/
import Derived.Test.YthbbpfgjbidbhaaLk
namespace Go.Proofs.Ythbbpfgjbidbhaa.lkm
open Go.Proofs.Ythbbpfgjbidbhaa.el2 Go.Proofs.Ythbbpfgjbidbhaa.lk
theorem ac_small (l : List E2) (key o : Int) : (acL l key o).length ≤ max l.length 7 := by
  have h1 := ac_len l key o
  by_cases h : acB l key o = true
  · have := lk_len (ac_parts h).1
    omega
  · unfold acL
    rw [if_neg fun hh => h hh.1]
    omega
end Go.Proofs.Ythbbpfgjbidbhaa.lkm
