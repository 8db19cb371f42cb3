/- When a list of lists is a store; the program's and the model's IsValidStore: what each answers; nothing that was there is written. -/
import Derived.Test.YtjnlbhmddhpmaabDoorSt
import Derived.WalkKit
import Derived.ProofKit
import Derived.Below
import Derived.Lib.Hide
import Derived.LoopTactic
import Derived.Deep.QuietTactic
import Derived.BigQuiet
import Derived.StillTailTactics
import Derived.Outline
import Derived.IntWalk
namespace Go.Proofs.YtjnlbhmddhpmaabDoor.val
open Go.ChangeShapes Go.WideShapes Go.ChangeAt Go.RowKit
open Go.Proofs.YtjnlbhmddhpmaabDoor.vers Go.Proofs.YtjnlbhmddhpmaabDoor.sl Go.Proofs.YtjnlbhmddhpmaabDoor.ch Go.Proofs.YtjnlbhmddhpmaabDoor.st
set_option linter.unusedVariables false
set_option linter.unusedSimpArgs false
noncomputable def okL (l : List Ver) : Bool := chB l && decide (l.length ≤ 50)
noncomputable def stB (ll : List (List Ver)) : Bool := decide (ll.length = 6) && ll.all okL
theorem okL_yes {l : List Ver} (h : chB l = true) (h2 : l.length ≤ 50) : okL l = true := by simp [okL, h, h2]
theorem okL_ch {l : List Ver} (h : chB l = false) : okL l = false := by simp [okL, h]
theorem okL_long {l : List Ver} (h2 : 50 < l.length) : okL l = false := by simp [okL]; intro _; omega
def PriL (ll : List (List Ver)) (k : Nat) : Prop := ∀ (j : Nat) (l : List Ver), j < k → ll[j]? = some l → okL l = true
theorem pril_zero (ll : List (List Ver)) : PriL ll 0 := fun j l h => absurd h (by omega)
theorem pril_step {ll : List (List Ver)} {k : Nat} {l : List Ver} (h : PriL ll k) (hx : ll[k]? = some l) (ho : okL l = true) : PriL ll (k + 1) := by
  intro j m hj hm
  by_cases e : j = k
  · subst e; rw [hx] at hm; cases hm; exact ho
  · exact h j m (by omega) hm
theorem st_bad {ll : List (List Ver)} {k : Nat} {l : List Ver} (hx : ll[k]? = some l) (ho : okL l = false) : stB ll = false := by
  have hm : l ∈ ll := List.mem_of_getElem? hx
  unfold stB
  have : ll.all okL = false := List.all_eq_false.2 ⟨l, hm, by rw [ho]; decide⟩
  rw [this, Bool.and_false]
theorem st_len {ll : List (List Ver)} (h : ll.length ≠ 6) : stB ll = false := by simp [stB, h]
theorem st_all {ll : List (List Ver)} {n : Nat} (hn : ll.length = n) (h : PriL ll n) : stB ll = decide (n = 6) := by
  have : ll.all okL = true := by
    rw [List.all_eq_true]
    intro l hl
    obtain ⟨j, hj, e⟩ := List.getElem_of_mem hl
    exact h j l (by omega) (by rw [List.getElem?_eq_getElem hj, e])
  unfold stB
  rw [this, Bool.and_true, hn]
theorem st_six {ll : List (List Ver)} (h : stB ll = true) : ll.length = 6 := by
  unfold stB at h
  simp only [Bool.and_eq_true, decide_eq_true_eq] at h
  exact h.1
theorem st_ok {ll : List (List Ver)} {k : Nat} {l : List Ver} (h : stB ll = true) (hx : ll[k]? = some l) : okL l = true := by
  unfold stB at h
  simp only [Bool.and_eq_true, decide_eq_true_eq] at h
  exact List.all_eq_true.1 h.2 l (List.mem_of_getElem? hx)
theorem okL_ch_of {l : List Ver} (h : okL l = true) : chB l = true := by
  unfold okL at h
  simp only [Bool.and_eq_true] at h
  exact h.1
theorem okL_len {l : List Ver} (h : okL l = true) : l.length ≤ 50 := by
  unfold okL at h
  simp only [Bool.and_eq_true, decide_eq_true_eq] at h
  exact h.2
theorem ch_len {l : List Ver} (h : chB l = true) : 0 < l.length := by
  rcases Nat.eq_zero_or_pos l.length with h0 | h0
  · rw [ch_none h0] at h; cases h
  · exact h0
end Go.Proofs.YtjnlbhmddhpmaabDoor.val
