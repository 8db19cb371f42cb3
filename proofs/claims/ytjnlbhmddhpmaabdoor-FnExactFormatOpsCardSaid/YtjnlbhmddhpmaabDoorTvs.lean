/- The model's IsValidTransaction, and what it answers; nothing that was there is written. -/
import Derived.Test.YtjnlbhmddhpmaabDoorTv
import Derived.WalkKit
import Derived.ProofKit
import Derived.Below
import Derived.Lib.Hide
import Derived.LoopTactic
import Derived.Deep.QuietTactic
import Derived.BigQuiet
import Derived.StillTailTactics
import Derived.Outline
import Derived.IntWalk
import Derived.Deep.RegionHeld3
namespace Go.Proofs.YtjnlbhmddhpmaabDoor.tvs
open Go.ChangeShapes Go.WideShapes Go.ChangeAt Go.RowKit
open Go.Proofs.YtjnlbhmddhpmaabDoor.el2 Go.Proofs.YtjnlbhmddhpmaabDoor.tx Go.Proofs.YtjnlbhmddhpmaabDoor.seq Go.Proofs.YtjnlbhmddhpmaabDoor.tv
open Go.Proofs.YtjnlbhmddhpmaabDoor.vers (In in_yes in_no in_of in_off in_range tx_id value_range ret_b new2 new3)
set_option linter.unusedVariables false
set_option linter.unusedSimpArgs false
set_option linter.constructorNameAsVariable false
theorem tx_bad {x : Hd} {R S : List E2} (h : hdB x = false ∨ sqB okR folR R = false ∨ sqB okW folW S = false ∨ 60 < R.length) : false = txB x R S := by
  rcases h with h | h | h | h
  · exact (txB_h h).symm
  · exact (txB_r (rd_off h)).symm
  · simp [txB, wrB, h]
  · exact (txB_r (rd_long h)).symm
theorem hd_i {x : Hd} (h : In 1 9 x.i = false) : hdB x = false := by simp [hdB, h]
theorem hd_s {x : Hd} (h : In 1 4 x.s = false) : hdB x = false := by simp [hdB, h]
theorem hd_b {x : Hd} (h : In 0 999 x.b = false) : hdB x = false := by simp [hdB, h]
theorem hd_l {x : Hd} (h : In 0 999 x.l = false) : hdB x = false := by simp [hdB, h]
theorem hd_h {x : Hd} (h : In 1 1000 x.h = false) : hdB x = false := by simp [hdB, h]
theorem hd_c {x : Hd} (h : ¬ cmP x.t x.c) : hdB x = false := by simp [hdB, cm_no h]
theorem tx_good {x : Hd} {R S : List E2} {n : Nat} (h0 : In 1 9 x.i = true) (h1 : In 1 4 x.s = true) (h2 : In 0 999 x.b = true) (h3 : In 0 999 x.l = true) (h4 : In 1 1000 x.h = true) (h5 : cmP x.t x.c) (hn : R.length = n) (hr : sqB okR folR R = true) (hs : sqB okW folW S = true) : decide ((n : Int) ≤ 60) = txB x R S := by
  have e : decide ((n : Int) ≤ 60) = decide (R.length ≤ 60) := decide_eq_decide.2 (by omega)
  rw [e]
  simp [txB, hdB, rdB, wrB, h0, h1, h2, h3, h4, cm_yes h5, hr, hs]
end Go.Proofs.YtjnlbhmddhpmaabDoor.tvs
