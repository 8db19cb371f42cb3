/- Chapter 6 of the program: a read added to a transaction's box, its ends moved. -/
import Derived.Test.YtcfmpnhnahafpaaIsr
import Derived.Test.YtcfmpnhnahafpaaBs
import Derived.Lib.MinMax
namespace Go.Proofs.Ytcfmpnhnahafpaa.ad
open Go.ChangeShapes Go.WideShapes Go.ChangeAt Go.RowKit
open Go.Proofs.Ytcfmpnhnahafpaa.el2 Go.Proofs.Ytcfmpnhnahafpaa.tx Go.Proofs.Ytcfmpnhnahafpaa.seq Go.Proofs.Ytcfmpnhnahafpaa.tv Go.Proofs.Ytcfmpnhnahafpaa.tf Go.Proofs.Ytcfmpnhnahafpaa.tm Go.Proofs.Ytcfmpnhnahafpaa.ap Go.Proofs.Ytcfmpnhnahafpaa.bx Go.Proofs.Ytcfmpnhnahafpaa.cl Go.Proofs.Ytcfmpnhnahafpaa.ro Go.Proofs.Ytcfmpnhnahafpaa.ao Go.Proofs.Ytcfmpnhnahafpaa.ins Go.Proofs.Ytcfmpnhnahafpaa.bs Go.Proofs.Ytcfmpnhnahafpaa.isr
set_option linter.unusedVariables false
set_option linter.unusedSimpArgs false
theorem heap_lt {w : World} {g : Nat} {o : Obj} (h : w.heap[g]? = some o) : g < w.heap.size := (Array.getElem?_eq_some_iff.1 h).1
theorem own_block {w : World} {base n size : Nat} {e : TypeId} {v : Value} {xs : List Value} (h : w.ownsRow base e size v n xs) {g : Nat} (hg : v.ownBlock = some g) : base ≤ g ∧ ∃ cur, w.heap[g]? = some (.cells cur e (0, 0)) := by
  rcases h.2 with ⟨e1, _⟩ | ⟨g', cap, cur, e1, hb, hh, _⟩
  · rw [e1] at hg; simp [Value.ownBlock] at hg
  · rw [e1] at hg
    simp [Value.ownBlock] at hg
    subst hg
    exact ⟨hb, cur, hh⟩
theorem type_ne {w : World} {g g2 : Nat} {c c2 : Array Value} {t t2 : TypeId} (h : w.heap[g]? = some (.cells c t (0, 0))) (h2 : w.heap[g2]? = some (.cells c2 t2 (0, 0))) (ht : t ≠ t2) : g ≠ g2 := by
  rintro rfl
  rw [h] at h2
  injection h2 with e
  injection e with _ e2
  exact ht e2
/-- a row of the call's own is as it was where its block is -/
theorem own_same {w w' : World} {base n size : Nat} {e : TypeId} {v : Value} {xs : List Value} (h : w.ownsRow base e size v n xs) (hk : ∀ g, v.ownBlock = some g → w'.heap[g]? = w.heap[g]?) : w'.ownsRow base e size v n xs :=
  ⟨h.1, by
    rcases h.2 with h0 | ⟨g, cap, cur, e1, h1, h2, h3⟩
    · exact .inl h0
    · exact .inr ⟨g, cap, cur, e1, h1, (hk g (by rw [e1]; simp [Value.ownBlock])).trans h2, h3⟩⟩
section
variable {w w' : World} {base tb n c n2 c2 : Nat} {x : Hd} {A A2 : Option Addr} {R S : List E2}
end
end Go.Proofs.Ytcfmpnhnahafpaa.ad
