/- WriteKeys of the program and of the model: what each answers, in memory of its own. -/
import Derived.Test.YtdfhnngcddaccaaOwi
import Derived.Test.YtdfhnngcddaccaaRx
import Derived.Test.YtdfhnngcddaccaaBx
import Derived.Test.YtdfhnngcddaccaaCl
namespace Go.Proofs.Ytdfhnngcddaccaa.wk
open Go.ChangeShapes Go.WideShapes Go.ChangeAt Go.RowKit
open Go.Proofs.Ytdfhnngcddaccaa.el2 Go.Proofs.Ytdfhnngcddaccaa.tx Go.Proofs.Ytdfhnngcddaccaa.seq Go.Proofs.Ytdfhnngcddaccaa.tv Go.Proofs.Ytdfhnngcddaccaa.tf Go.Proofs.Ytdfhnngcddaccaa.bx Go.Proofs.Ytdfhnngcddaccaa.owi
set_option linter.unusedVariables false
set_option linter.unusedSimpArgs false
noncomputable def wkL (x : Hd) (R S : List E2) : List Int := if txB x R S = true then S.map (·.a) else []
theorem wkL_len (x : Hd) (R S : List E2) : (wkL x R S).length ≤ S.length := by unfold wkL; split <;> simp
theorem wk_yes {x : Hd} {R S : List E2} (h : txB x R S = true) : wkL x R S = S.map (·.a) := by simp [wkL, h]
theorem wk_no {x : Hd} {R S : List E2} (h : txB x R S = false) : wkL x R S = [] := by simp [wkL, h]
theorem ks_step {S : List E2} {k : Nat} {y : E2} (hx : S[k]? = some y) : (S.take k).map (·.a) ++ [y.a] = (S.take (k + 1)).map (·.a) := by
  rw [List.take_add_one, hx]; simp
theorem ks_len {S : List E2} {k : Nat} (h : k ≤ S.length) : ((S.take k).map (·.a)).length = k := by simp [List.length_take]; omega
theorem ks_end {x : Hd} {R S : List E2} {n : Nat} (hn : S.length = n) (hk : 0 < n → txB x R S = true) : (S.take n).map (·.a) = wkL x R S := by
  rcases Nat.eq_zero_or_pos n with h0 | h0
  · subst h0
    obtain rfl : S = [] := List.eq_nil_of_length_eq_zero hn
    simp [wkL]
  · rw [wk_yes (hk h0), List.take_of_length_le (by omega)]
theorem ks_no {x : Hd} {R S : List E2} {k : Nat} (h : txB x R S = false) (hk : 0 < k → txB x R S = true) : (S.take k).map (·.a) = wkL x R S := by
  rcases Nat.eq_zero_or_pos k with h0 | h0
  · subst h0; rw [wk_no h]; simp
  · rw [hk h0] at h; cases h
theorem own_made0 (W : World) (base : Nat) (hb : base ≤ W.heap.size) : (W.alloc (.cells #[] 3)).ownsRow base 3 1 (.slice (some ⟨W.heap.size, 0, none⟩) 0 0) 0 (mi []) :=
  ⟨rfl, .inr ⟨W.heap.size, 0, #[], rfl, hb, heap_alloc_new W _, Nat.le_refl _, by unfold maxLen; omega, rfl, rfl⟩⟩
/-- what the walk goes on with -/
def WL (w : World) (x : Hd) (u v : Value) (W : World) : Prop := Below w.heap.size w W ∧ w.heap.size < W.heap.size ∧ TB W w.heap.size x u v
theorem WL.call {w W W' : World} {x : Hd} {u v : Value} (h : WL w x u v W) (hb : Below W.heap.size W W') : WL w x u v W' := ⟨h.1.trans (hb.mono h.1.size), Nat.lt_of_lt_of_le h.2.1 hb.size, h.2.2.keep h.2.1 hb⟩
theorem WL.grown {w W W' : World} {x : Hd} {u v : Value} (h : WL w x u v W) (hb : Below (w.heap.size + 1) W W') : WL w x u v W' := ⟨h.1.trans (hb.mono (by omega)), Nat.lt_of_lt_of_le h.2.1 hb.size, h.2.2.keep (Nat.lt_succ_self _) hb⟩
theorem grown_i {w w' : World} {base n : Nat} {v : Value} {xs : List Value} (ho : w.ownsRow base 3 1 v n xs) (hg : w.grownBy w' v.ownBlock) (hb : base ≤ w.heap.size) : Below base w w' :=
  (Below.refl _ _).grown hg hb fun q hq => (ho.lt q hq).1
end Go.Proofs.Ytdfhnngcddaccaa.wk
