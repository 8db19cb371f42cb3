/- LockOwner and LocksOf of the program and of the model: what each answers. -/
import Derived.Test.YtcfmpnhnahafpaaLk
import Derived.Test.YtcfmpnhnahafpaaOwi
import Derived.Test.YtcfmpnhnahafpaaWk
namespace Go.Proofs.Ytcfmpnhnahafpaa.lkr
open Go.ChangeShapes Go.WideShapes Go.ChangeAt Go.RowKit
open Go.Proofs.Ytcfmpnhnahafpaa.el2 Go.Proofs.Ytcfmpnhnahafpaa.seq Go.Proofs.Ytcfmpnhnahafpaa.lk Go.Proofs.Ytcfmpnhnahafpaa.owi
open Go.Proofs.Ytcfmpnhnahafpaa.tf (drop_cons)
open Go.Proofs.Ytcfmpnhnahafpaa.wk (own_made0 grown_i)
set_option linter.unusedVariables false
set_option linter.unusedSimpArgs false
theorem ret_i {a b : Int} (h : a = b) : Ending.returned (.int .i64 a) = .returned (.int .i64 b) := by rw [h]
theorem own_hit {l : List E2} {key : Int} {k : Nat} {x : E2} (h : ownI key l = ownI key (l.drop k)) (hx : l[k]? = some x) (hc : x.a = key) : x.b = ownI key l := by
  rw [h, drop_cons hx]
  simp [ownI, hc]
theorem own_step {l : List E2} {key : Int} {k : Nat} {x : E2} (h : ownI key l = ownI key (l.drop k)) (hx : l[k]? = some x) (hc : x.a ≠ key) : ownI key l = ownI key (l.drop (k + 1)) := by
  rw [h, drop_cons hx]
  simp [ownI, hc]
theorem own_end {l : List E2} {key : Int} {k : Nat} (h : ownI key l = ownI key (l.drop k)) (hk : l.length ≤ k) : (0 : Int) = ownI key l := by
  rw [h, List.drop_eq_nil_of_le hk]
  rfl
/-! the keys of an owner -/
theorem of_step {l : List E2} {o : Int} {k : Nat} {y : E2} (hx : l[k]? = some y) (h : y.b = o) : ofL o (l.take k) ++ [y.a] = ofL o (l.take (k + 1)) := by
  rw [List.take_add_one, hx]
  simp [ofL, List.filter_append, h]
theorem of_skip {l : List E2} {o : Int} {k : Nat} {y : E2} (hx : l[k]? = some y) (h : y.b ≠ o) : ofL o (l.take k) = ofL o (l.take (k + 1)) := by
  rw [List.take_add_one, hx]
  simp [ofL, List.filter_append, h]
theorem of_all {l : List E2} {o : Int} {n : Nat} (h : l.length = n) : ofL o (l.take n) = ofL o l := by rw [List.take_of_length_le (by omega)]
theorem of_small (o : Int) (l : List E2) (k : Nat) : (ofL o (l.take k)).length ≤ k := Nat.le_trans (of_len o _) (by rw [List.length_take]; omega)
end Go.Proofs.Ytcfmpnhnahafpaa.lkr
