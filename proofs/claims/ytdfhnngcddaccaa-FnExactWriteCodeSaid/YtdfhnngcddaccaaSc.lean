/- Chapter 12, plain mathematics: what the functions of schemes answer. -/
import Derived.Test.YtdfhnngcddaccaaRd
import Derived.Test.YtdfhnngcddaccaaRl
import Derived.Test.YtdfhnngcddaccaaLk
namespace Go.Proofs.Ytdfhnngcddaccaa.sc
open Go.Proofs.Ytdfhnngcddaccaa.el2 Go.Proofs.Ytdfhnngcddaccaa.tx Go.Proofs.Ytdfhnngcddaccaa.seq Go.Proofs.Ytdfhnngcddaccaa.tv Go.Proofs.Ytdfhnngcddaccaa.rx Go.Proofs.Ytdfhnngcddaccaa.rl Go.Proofs.Ytdfhnngcddaccaa.lk
open Go.Proofs.Ytdfhnngcddaccaa.vers (In in_yes in_no in_of in_off)
open Go.Proofs.Ytdfhnngcddaccaa.sl (Ver)
open Go.Proofs.Ytdfhnngcddaccaa.val (stB)
open Go.Proofs.Ytdfhnngcddaccaa.rd (rlB rlV raB raV ra_rl raV_no)
open Go.Proofs.Ytdfhnngcddaccaa.find (lastV)
set_option linter.unusedVariables false
set_option linter.unusedSimpArgs false
def zv : Ver := ⟨0, 0, 0, 0, 0⟩
/-- the scheme takes locks -/
def tkB (s : Int) : Bool := decide (s = 1) || decide (s = 2)
/-- store, transaction and key are good -/
noncomputable def gdB (C : List (List Ver)) (x : Hd) (R S : List E2) (k : Int) : Bool := stB C && txB x R S && decide (x.t = 1) && In 0 5 k
/-- the code of a read -/
noncomputable def cvI (C : List (List Ver)) (x : Hd) (R S : List E2) (k : Int) : Int :=
  if gdB C x R S k = true then (if x.s = 2 then (if raB C k x.b = true then 0 else 3) else if x.s = 4 ∧ x.b < (rlV C k).c then 3 else 0) else 6
/-- the version that is read -/
noncomputable def cvV (C : List (List Ver)) (x : Hd) (R S : List E2) (k : Int) : Ver :=
  if cvI C x R S k = 0 then (if x.s = 2 then raV C k x.b else rlV C k) else zv
/-- a lock of another -/
def tnB (L : List E2) (x : Hd) (k : Int) : Bool := !decide (ownI k L = 0) && !decide (ownI k L = x.i)
/-- the code of a write -/
noncomputable def wcI (C : List (List Ver)) (L : List E2) (x : Hd) (R S : List E2) (k : Int) : Int :=
  if gdB C x R S k = true ∧ lkB L = true then
    (if x.s = 1 ∧ tnB L x k = true then 1 else if x.s = 2 ∧ (tnB L x k = true ∨ x.b < (rlV C k).c) then 2 else if x.s = 4 ∧ (x.b < (rlV C k).c ∨ x.b < (rlV C k).d) then 3 else 0)
  else 6
/-- a written key has a latest version behind the begin -/
noncomputable def ltB (C : List (List Ver)) (x : Hd) (S : List E2) : Bool := S.any fun m => decide (x.b < (latOf C m).c)
/-- the code of a commit -/
noncomputable def ccI (C : List (List Ver)) (x : Hd) (R S : List E2) : Int :=
  if gdB C x R S 0 = true then (if ltB C x S = true then (if x.s = 2 then 2 else if x.s = 4 then 3 else 0) else 0) else 6
section
variable {C : List (List Ver)} {L : List E2} {x : Hd} {R S : List E2} {k : Int}
theorem gd_parts (h : gdB C x R S k = true) : stB C = true ∧ txB x R S = true ∧ x.t = 1 ∧ In 0 5 k = true := by
  simp only [gdB, Bool.and_eq_true, decide_eq_true_eq] at h
  exact ⟨h.1.1.1, h.1.1.2, h.1.2, h.2⟩
theorem gd_yes (h1 : stB C = true) (h2 : txB x R S = true) (h3 : x.t = 1) (h4 : In 0 5 k = true) : gdB C x R S k = true := by simp [gdB, h1, h2, h3, h4]
theorem gd_st (h : stB C = false) : gdB C x R S k = false := by simp [gdB, h]
theorem gd_tx (h : txB x R S = false) : gdB C x R S k = false := by simp [gdB, h]
theorem gd_t (h : x.t ≠ 1) : gdB C x R S k = false := by simp [gdB, h]
theorem gd_k (h : In 0 5 k = false) : gdB C x R S k = false := by simp [gdB, h]
theorem gd_rl (h : gdB C x R S k = true) : rlB C k = true := by
  obtain ⟨h1, _, _, h4⟩ := gd_parts h
  simp [rlB, h1, h4]
theorem cv_no (h : gdB C x R S k = false) : cvI C x R S k = 6 ∧ cvV C x R S k = zv := by
  have e : cvI C x R S k = 6 := if_neg (by rw [h]; exact Bool.false_ne_true)
  exact ⟨e, if_neg (by rw [e]; omega)⟩
theorem cv_snap (h : gdB C x R S k = true) (hs : x.s = 2) (hr : raB C k x.b = true) : cvI C x R S k = 0 ∧ cvV C x R S k = raV C k x.b := by
  have e : cvI C x R S k = 0 := by unfold cvI; rw [if_pos h, if_pos hs, if_pos hr]
  exact ⟨e, by unfold cvV; rw [if_pos e, if_pos hs]⟩
theorem cv_late (h : gdB C x R S k = true) (hs : x.s = 2) (hr : raB C k x.b = false) : cvI C x R S k = 3 ∧ cvV C x R S k = zv := by
  have e : cvI C x R S k = 3 := by unfold cvI; rw [if_pos h, if_pos hs, if_neg (by rw [hr]; exact Bool.false_ne_true)]
  exact ⟨e, by unfold cvV; rw [if_neg (by rw [e]; omega)]⟩
theorem cv_ord (h : gdB C x R S k = true) (hs : x.s = 4) (hr : x.b < (rlV C k).c) : cvI C x R S k = 3 ∧ cvV C x R S k = zv := by
  have e : cvI C x R S k = 3 := by unfold cvI; rw [if_pos h, if_neg (by omega), if_pos ⟨hs, hr⟩]
  exact ⟨e, by unfold cvV; rw [if_neg (by rw [e]; omega)]⟩
theorem cv_last (h : gdB C x R S k = true) (hs : x.s ≠ 2) (hr : ¬ (x.s = 4 ∧ x.b < (rlV C k).c)) : cvI C x R S k = 0 ∧ cvV C x R S k = rlV C k := by
  have e : cvI C x R S k = 0 := by unfold cvI; rw [if_pos h, if_neg hs, if_neg hr]
  exact ⟨e, by unfold cvV; rw [if_pos e, if_neg hs]⟩
theorem cv_range : cvI C x R S k = 0 ∨ cvI C x R S k = 3 ∨ cvI C x R S k = 6 := by
  unfold cvI
  repeat' split
  all_goals simp
theorem wc_no (h : gdB C x R S k = false ∨ lkB L = false) : wcI C L x R S k = 6 := if_neg fun hh => by
  rcases h with h | h
  · rw [h] at hh; cases hh.1
  · rw [h] at hh; cases hh.2
theorem wc_yes (h : gdB C x R S k = true) (h2 : lkB L = true) : wcI C L x R S k = (if x.s = 1 ∧ tnB L x k = true then 1 else if x.s = 2 ∧ (tnB L x k = true ∨ x.b < (rlV C k).c) then 2 else if x.s = 4 ∧ (x.b < (rlV C k).c ∨ x.b < (rlV C k).d) then 3 else 0) := if_pos ⟨h, h2⟩
theorem wc_range : wcI C L x R S k = 0 ∨ wcI C L x R S k = 1 ∨ wcI C L x R S k = 2 ∨ wcI C L x R S k = 3 ∨ wcI C L x R S k = 6 := by
  unfold wcI
  repeat' split
  all_goals simp
theorem wc_block (h : wcI C L x R S k = 1) : x.s = 1 := by
  unfold wcI at h
  split at h
  · split at h
    · rename_i h2; exact h2.1
    · split at h
      · omega
      · split at h <;> omega
  · omega
theorem wc_opt (h : x.s = 3) : wcI C L x R S k = 0 ∨ wcI C L x R S k = 6 := by
  unfold wcI
  split
  · rw [if_neg (by omega), if_neg (by omega), if_neg (by omega)]; exact .inl rfl
  · exact .inr rfl
theorem cc_no (h : gdB C x R S 0 = false) : ccI C x R S = 6 := if_neg (by rw [h]; exact Bool.false_ne_true)
theorem cc_range : ccI C x R S = 0 ∨ ccI C x R S = 2 ∨ ccI C x R S = 3 ∨ ccI C x R S = 6 := by
  unfold ccI
  repeat' split
  all_goals simp
end
end Go.Proofs.Ytdfhnngcddaccaa.sc
