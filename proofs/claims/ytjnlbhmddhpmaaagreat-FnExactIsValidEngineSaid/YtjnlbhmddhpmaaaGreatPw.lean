/- The model's l5PutWrite: a list with a write put in its place, in memory of its own. -/
import Derived.Test.YtjnlbhmddhpmaaaGreatAow
import Derived.Deep.CutRange
namespace Go.Proofs.YtjnlbhmddhpmaaaGreat.pw
open Go.ChangeShapes Go.WideShapes Go.ChangeAt Go.RowKit
open Go.Proofs.YtjnlbhmddhpmaaaGreat.el2 Go.Proofs.YtjnlbhmddhpmaaaGreat.tx Go.Proofs.YtjnlbhmddhpmaaaGreat.seq Go.Proofs.YtjnlbhmddhpmaaaGreat.tv Go.Proofs.YtjnlbhmddhpmaaaGreat.tf Go.Proofs.YtjnlbhmddhpmaaaGreat.ap Go.Proofs.YtjnlbhmddhpmaaaGreat.bx Go.Proofs.YtjnlbhmddhpmaaaGreat.cl Go.Proofs.YtjnlbhmddhpmaaaGreat.lc Go.Proofs.YtjnlbhmddhpmaaaGreat.rx Go.Proofs.YtjnlbhmddhpmaaaGreat.aow
set_option linter.unusedVariables false
set_option linter.unusedSimpArgs false
/-- how many stand in front of the key -/
def posW (key : Int) : List E2 → Nat
  | [] => 0
  | x :: r => if x.a < key then posW key r + 1 else 0
theorem posW_is {key : Int} : ∀ (l : List E2) (k : Nat), (∀ (j : Nat) (x : E2), j < k → l[j]? = some x → decide (x.a < key) = true) → k ≤ l.length → (∀ x, l[k]? = some x → ¬ x.a < key) → posW key l = k
  | [], k, _, hk, _ => by simp at hk; subst hk; rfl
  | x :: r, 0, _, _, h3 => by
    have := h3 x (by simp)
    unfold posW
    rw [if_neg this]
  | x :: r, k + 1, h1, h2, h3 => by
    have := of_decide_eq_true (h1 0 x (by omega) (by simp))
    unfold posW
    rw [if_pos this, posW_is r k (fun j y hj hy => h1 (j + 1) y (by omega) (by simpa using hy)) (by simpa using h2) (fun y hy => h3 y (by simpa using hy))]
theorem posW_le (key : Int) : ∀ l : List E2, posW key l ≤ l.length
  | [] => Nat.le_refl _
  | x :: r => by
    unfold posW
    have := posW_le key r
    split <;> simp <;> omega
/-- the list with the write put in its place; a write of the same key that stands there goes -/
def insW (m : E2) (l : List E2) : List E2 := l.take (posW m.a l) ++ m :: (if ((l[posW m.a l]?).map (·.a)) = some m.a then l.drop (posW m.a l + 1) else l.drop (posW m.a l))
theorem insW_hit {m y : E2} {l : List E2} {k : Nat} (hk : posW m.a l = k) (hy : l[k]? = some y) (h : y.a = m.a) : insW m l = l.take k ++ m :: l.drop (k + 1) := by
  unfold insW
  rw [hk, hy, if_pos (by simp [h])]
theorem insW_miss {m y : E2} {l : List E2} {k : Nat} (hk : posW m.a l = k) (hy : l[k]? = some y) (h : y.a ≠ m.a) : insW m l = l.take k ++ m :: l.drop k := by
  unfold insW
  rw [hk, hy, if_neg (by simp [h])]
theorem insW_end {m : E2} {l : List E2} {k : Nat} (hk : posW m.a l = k) (hn : l.length ≤ k) : insW m l = l.take k ++ m :: [] := by
  unfold insW
  rw [hk, List.getElem?_eq_none hn, if_neg (by simp), List.drop_of_length_le hn]
theorem insW_len (m : E2) (l : List E2) : (insW m l).length ≤ l.length + 1 := by
  have := posW_le m.a l
  unfold insW
  split <;> simp <;> omega
theorem app_snoc (P : List E2) (m : E2) (D : List E2) : P ++ [m] ++ D = P ++ m :: D := by simp
end Go.Proofs.YtjnlbhmddhpmaaaGreat.pw
