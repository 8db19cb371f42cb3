/- SchemeName and NewTransaction of the program and of the model, what they answer; nothing that was there is written. -/
import Derived.Test.YtdfhnngcddaccaaTvs
import Derived.WalkKit
import Derived.ProofKit
import Derived.Below
import Derived.Lib.Hide
import Derived.LoopTactic
import Derived.Deep.QuietTactic
import Derived.BigQuiet
import Derived.StillTailTactics
import Derived.Outline
import Derived.IntWalk
import Derived.Deep.RegionHeld3
import Derived.Deep.OwnRows
import Derived.Laws.Entries
namespace Go.Proofs.Ytdfhnngcddaccaa.tn
open Go.ChangeShapes Go.WideShapes Go.ChangeAt Go.RowKit
open Go.Proofs.Ytdfhnngcddaccaa.el2 Go.Proofs.Ytdfhnngcddaccaa.tx Go.Proofs.Ytdfhnngcddaccaa.seq Go.Proofs.Ytdfhnngcddaccaa.tv
open Go.Proofs.Ytdfhnngcddaccaa.vers (In in_yes in_no in_of in_off in_range ret_b new2 new3)
set_option linter.unusedVariables false
set_option linter.unusedSimpArgs false
set_option linter.constructorNameAsVariable false
def sn (k : Int) : ByteArray := if k = 1 then ⟨#[99, 111, 109, 109, 105, 116, 116, 101, 100]⟩ else if k = 2 then ⟨#[115, 110, 97, 112, 115, 104, 111, 116]⟩ else if k = 3 then ⟨#[111, 112, 116, 105, 109, 105, 115, 116, 105, 99]⟩ else if k = 4 then ⟨#[111, 114, 100, 101, 114, 101, 100]⟩ else ⟨#[]⟩
theorem sn_1 : sn 1 = ⟨#[99, 111, 109, 109, 105, 116, 116, 101, 100]⟩ := rfl
theorem sn_2 : sn 2 = ⟨#[115, 110, 97, 112, 115, 104, 111, 116]⟩ := rfl
theorem sn_3 : sn 3 = ⟨#[111, 112, 116, 105, 109, 105, 115, 116, 105, 99]⟩ := rfl
theorem sn_4 : sn 4 = ⟨#[111, 114, 100, 101, 114, 101, 100]⟩ := rfl
theorem sn_0 {k : Int} (h1 : k ≠ 1) (h2 : k ≠ 2) (h3 : k ≠ 3) (h4 : k ≠ 4) : sn k = ⟨#[]⟩ := by unfold sn; rw [if_neg h1, if_neg h2, if_neg h3, if_neg h4]
theorem ret_s {a b : ByteArray} (h : a = b) : Ending.returned (.string a) = .returned (.string b) := by rw [h]
/-! a new transaction -/
def n0 (i s b : Int) : Hd := ⟨i, s, 1, b, 0, 1000, 0⟩
def z0 : Hd := ⟨0, 0, 0, 0, 0, 0, 0⟩
noncomputable def nwB (i s b : Int) : Bool := txB (n0 i s b) [] []
noncomputable def nwT (i s b : Int) : Hd := if nwB i s b then n0 i s b else z0
theorem nw_yes {i s b : Int} (h : nwB i s b = true) : nwT i s b = n0 i s b := if_pos h
theorem nw_no {i s b : Int} (h : nwB i s b = false) : nwT i s b = z0 := if_neg (by simp [h])
end Go.Proofs.Ytdfhnngcddaccaa.tn
