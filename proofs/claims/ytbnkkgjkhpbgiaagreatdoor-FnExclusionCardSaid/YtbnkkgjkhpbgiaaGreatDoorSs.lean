/- StaleReads of the model: what it answers, in memory of its own. -/
import Derived.Test.YtbnkkgjkhpbgiaaGreatDoorRh
import Derived.Test.YtbnkkgjkhpbgiaaGreatDoorCl
namespace Go.Proofs.YtbnkkgjkhpbgiaaGreatDoor.ss
open Go.ChangeShapes Go.WideShapes Go.ChangeAt Go.RowKit
open Go.Proofs.YtbnkkgjkhpbgiaaGreatDoor.el2 Go.Proofs.YtbnkkgjkhpbgiaaGreatDoor.tx Go.Proofs.YtbnkkgjkhpbgiaaGreatDoor.seq Go.Proofs.YtbnkkgjkhpbgiaaGreatDoor.tv Go.Proofs.YtbnkkgjkhpbgiaaGreatDoor.tf Go.Proofs.YtbnkkgjkhpbgiaaGreatDoor.rx Go.Proofs.YtbnkkgjkhpbgiaaGreatDoor.ri Go.Proofs.YtbnkkgjkhpbgiaaGreatDoor.ap Go.Proofs.YtbnkkgjkhpbgiaaGreatDoor.bx Go.Proofs.YtbnkkgjkhpbgiaaGreatDoor.cl
open Go.Proofs.YtbnkkgjkhpbgiaaGreatDoor.vers (new2)
open Go.Proofs.YtbnkkgjkhpbgiaaGreatDoor.sl (Ver)
open Go.Proofs.YtbnkkgjkhpbgiaaGreatDoor.st (Rs)
open Go.Proofs.YtbnkkgjkhpbgiaaGreatDoor.val (stB)
open Go.Proofs.YtbnkkgjkhpbgiaaGreatDoor.find (fndI)
set_option linter.unusedVariables false
set_option linter.unusedSimpArgs false
/-- a read is stale: its version has a successor -/
noncomputable def stP (C : List (List Ver)) (m : E2) : Bool := decide ((verOf C m).e < 1000)
noncomputable def staleK (C : List (List Ver)) (R : List E2) (k : Nat) : List E2 := (R.take k).filter (stP C)
noncomputable def staleL (C : List (List Ver)) (x : Hd) (R S : List E2) : List E2 := if rexB C x R S = true then R.filter (stP C) else []
theorem stale_zero (C : List (List Ver)) (R : List E2) : staleK C R 0 = [] := by simp [staleK]
theorem stale_hit {C : List (List Ver)} {R : List E2} {k : Nat} {y : E2} {v : Ver} (hx : R[k]? = some y) (hv : verOf C y = v) (h : v.e < 1000) : staleK C R (k + 1) = staleK C R k ++ [y] := by
  unfold staleK
  rw [List.take_add_one, hx]
  simp [stP, hv, h]
theorem stale_miss {C : List (List Ver)} {R : List E2} {k : Nat} {y : E2} {v : Ver} (hx : R[k]? = some y) (hv : verOf C y = v) (h : ¬ v.e < 1000) : staleK C R (k + 1) = staleK C R k := by
  unfold staleK
  rw [List.take_add_one, hx]
  simp [stP, hv]
  omega
theorem stale_len (C : List (List Ver)) (R : List E2) (k : Nat) : (staleK C R k).length ≤ R.length := by
  unfold staleK
  refine Nat.le_trans (List.length_filter_le _ _) ?_
  rw [List.length_take]
  omega
theorem staleL_len (C : List (List Ver)) (x : Hd) (R S : List E2) : (staleL C x R S).length ≤ R.length := by
  unfold staleL
  split
  · exact List.length_filter_le _ _
  · simp
theorem stale_no {C : List (List Ver)} {x : Hd} {R S : List E2} {k : Nat} (h : rexB C x R S = false) (hk : 0 < k → rexB C x R S = true) : staleK C R k = staleL C x R S := by
  rcases Nat.eq_zero_or_pos k with h0 | h0
  · subst h0; simp [staleL, h, stale_zero]
  · rw [hk h0] at h; cases h
theorem stale_end {C : List (List Ver)} {x : Hd} {R S : List E2} {n : Nat} (hn : R.length = n) (hk : 0 < n → rexB C x R S = true) : staleK C R n = staleL C x R S := by
  rcases Nat.eq_zero_or_pos n with h0 | h0
  · subst h0
    obtain rfl : R = [] := List.eq_nil_of_length_eq_zero hn
    simp [staleK, staleL]
  · unfold staleL
    rw [if_pos (hk h0), staleK, List.take_of_length_le (by omega)]
theorem ls_grown {w W W' : World} {sv u v : Value} {x : Hd} (h : LS w sv x u v W) (hb : Below (w.heap.size + 1 + 1) W W') : LS w sv x u v W' where
  bel := h.bel.trans (hb.mono (by omega))
  size := Nat.le_trans h.size hb.size
  st := (hb.cell (p := ⟨w.heap.size, 0, none⟩) (by simp only; omega)).trans h.st
  tb := h.tb.keep (by omega) hb
theorem ret_s {A : Option Addr} {m m' c : Nat} (h : m = m') : Ending.returned (.slice A m c) = .returned (.slice A m' c) := by rw [h]
end Go.Proofs.YtbnkkgjkhpbgiaaGreatDoor.ss
