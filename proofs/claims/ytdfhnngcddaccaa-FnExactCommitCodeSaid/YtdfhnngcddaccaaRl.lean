/- RefreshLow of the program and of the model: what each answers; nothing that was there is written. -/
import Derived.Test.YtdfhnngcddaccaaRi
import Derived.Lib.MinMax
import Derived.Deep.RegionHeld3
namespace Go.Proofs.Ytdfhnngcddaccaa.rl
open Go.ChangeShapes Go.WideShapes Go.ChangeAt Go.RowKit
open Go.Proofs.Ytdfhnngcddaccaa.el2 Go.Proofs.Ytdfhnngcddaccaa.tx Go.Proofs.Ytdfhnngcddaccaa.seq Go.Proofs.Ytdfhnngcddaccaa.tv Go.Proofs.Ytdfhnngcddaccaa.tf Go.Proofs.Ytdfhnngcddaccaa.rx Go.Proofs.Ytdfhnngcddaccaa.ri
open Go.Proofs.Ytdfhnngcddaccaa.vers (new2)
open Go.Proofs.Ytdfhnngcddaccaa.sl (Ver)
open Go.Proofs.Ytdfhnngcddaccaa.st (Rs)
open Go.Proofs.Ytdfhnngcddaccaa.val (stB)
set_option linter.unusedVariables false
set_option linter.unusedSimpArgs false
/-- both are valid -/
noncomputable def bothB (C : List (List Ver)) (x : Hd) (R S : List E2) : Bool := stB C && txB x R S
theorem no_st {C : List (List Ver)} {x : Hd} {R S : List E2} (h : stB C = false) : bothB C x R S = false := by simp [bothB, h]
theorem no_tx {C : List (List Ver)} {x : Hd} {R S : List E2} (h : txB x R S = false) : bothB C x R S = false := by simp [bothB, h]
theorem both_yes {C : List (List Ver)} {x : Hd} {R S : List E2} (hs : stB C = true) (ht : txB x R S = true) : bothB C x R S = true := by simp [bothB, hs, ht]
theorem both_parts {C : List (List Ver)} {x : Hd} {R S : List E2} (h : bothB C x R S = true) : stB C = true ∧ txB x R S = true := by simpa [bothB] using h
theorem tx_wr {x : Hd} {R S : List E2} (h : txB x R S = true) : wrB S = true := by simp only [txB, Bool.and_eq_true] at h; exact h.2
theorem okW_key {m : E2} (h : okW m = true) : 0 ≤ m.a ∧ m.a ≤ 5 := by
  simp only [okW, vers.In, Bool.and_eq_true, decide_eq_true_eq] at h
  exact h.1
theorem wkey_of {x : Hd} {R S : List E2} {k : Nat} {m : E2} (h : txB x R S = true) (hx : S[k]? = some m) : 0 ≤ m.a ∧ m.a ≤ 5 := okW_key ((sq_of (tx_wr h)).1 k m hx)
/-- the latest version of a write's key -/
noncomputable def latOf (C : List (List Ver)) (m : E2) : Ver := Go.Proofs.Ytdfhnngcddaccaa.find.lastV (chOf C m.a)
theorem lat_at {C : List (List Ver)} {m : E2} {l : List Ver} (h : C[m.a.toNat]? = some l) : Go.Proofs.Ytdfhnngcddaccaa.find.lastV l = latOf C m := by unfold latOf; rw [ch_at h]
theorem fld3 (a b c d e : Value) (W : World) : (Instr.field 34 (.agg #[a, b, c, d, e]) 3).run Try.prog W = .ok d W := by
  have hu := Try.underlying34
  simp [Instr.field, run_underlying hu, go_sem, asAgg]
theorem fld2 (a b c d e : Value) (W : World) : (Instr.field 34 (.agg #[a, b, c, d, e]) 2).run Try.prog W = .ok c W := by
  have hu := Try.underlying34
  simp [Instr.field, run_underlying hu, go_sem, asAgg]
theorem ret_i {a b : Int} (h : a = b) : Ending.returned (.int .i64 a) = .returned (.int .i64 b) := by rw [h]
theorem val_i {a b : Int} (h : a = b) : Value.int .i64 a = .int .i64 b := by rw [h]
/-- the greatest creation among the first k reads -/
def loR (R : List E2) (k : Nat) : Int := (R.take k).foldl (fun a m => max a m.b) 0
/-- .. and of the readers of the latest versions of the first k written keys -/
noncomputable def loW (C : List (List Ver)) (R S : List E2) (k : Nat) : Int := (S.take k).foldl (fun a m => max a (latOf C m).d) (loR R R.length)
noncomputable def rlI (C : List (List Ver)) (x : Hd) (R S : List E2) : Int := if bothB C x R S = true then loW C R S S.length else 0
theorem loR_step {R : List E2} {k : Nat} {y : E2} (hx : R[k]? = some y) : loR R (k + 1) = max (loR R k) y.b := by
  unfold loR
  rw [List.take_add_one, hx]
  simp [List.foldl_append]
theorem loW_step {C : List (List Ver)} {R S : List E2} {k : Nat} {y : E2} {z : Ver} (hx : S[k]? = some y) (hz : latOf C y = z) : loW C R S (k + 1) = max (loW C R S k) z.d := by
  unfold loW
  rw [List.take_add_one, hx, ← hz]
  simp [List.foldl_append]
theorem loW_zero {C : List (List Ver)} {R S : List E2} {n : Nat} (hn : R.length = n) : loR R n = loW C R S 0 := by subst hn; simp [loW]
theorem rl_no {C : List (List Ver)} {x : Hd} {R S : List E2} (h : bothB C x R S = false) : (0 : Int) = rlI C x R S := by simp [rlI, h]
theorem rl_yes {C : List (List Ver)} {x : Hd} {R S : List E2} {n : Nat} (hn : S.length = n) (h : bothB C x R S = true) : loW C R S n = rlI C x R S := by subst hn; simp [rlI, h]
end Go.Proofs.Ytdfhnngcddaccaa.rl
