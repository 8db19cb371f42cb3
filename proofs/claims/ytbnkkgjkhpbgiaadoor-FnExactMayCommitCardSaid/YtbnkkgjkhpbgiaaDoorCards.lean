/-
  DERIVED. GIVEN WITH THE SEED: THE CARDS: each row of YtbnkkgjkhpbgiaaDoorRows.lean that lists a variable, with what it lists TIED to the program's text (the seventh form; the later family's looks); each row that meets fmt, with fmt's text TOLD by the authors' own Lean function (tested against real Go, not proved from fmt's source: count such statements apart). THE CARD IS WHAT COUNTS. Prove the row's statement (the work); the ties are given (YtbnkkgjkhpbgiaaDoorTie.lean); close each card by the builder's one call (the guide's Derived/Test/ToyasCard.lean, 'card_holds'). Laid BY PROGRAM, IN A SANDBOX (cutbox-door.mjs). By AI agents, Wed Nov 11 2026. No macro, syntax, notation, axiom, sorry.
-/
import Derived.Test.YtbnkkgjkhpbgiaaDoorRows
import GoSem.ClaimSeven
namespace Go.Proofs.YtbnkkgjkhpbgiaaDoor
namespace Rows

/-- THE TIED CARD OF 'laws.FnExactMayCommit'. -/
def fnExactMayCommitCard : Claim7 := { stood := { row := fnExactMayCommitRow, standIns := [], harness := (true, "9a9db4da7bdc16c537b6467ed6a9bfbc58d2aab2c38327bd83dd55e935b3a5ed"), looks := false }, kinds := [], alts := [], laidByText := true, laidKinds := [.sentinel, .sentinel], laidTests := true, laidLooks := .later }
def FnExactMayCommitCardSaid : Prop := Claim7.holds Tryd.pinned (.plain (OpenSpec.ofChange fnExactMayCommitSpec)) fnExactMayCommitCard

/-- THE SECOND FORM's CARD OF 'laws.FnExactMayCommit'. -/
def fnExactMayCommitUptoCard : Claim7 := { stood := { row := fnExactMayCommitUptoRow, standIns := [], harness := (true, "9a9db4da7bdc16c537b6467ed6a9bfbc58d2aab2c38327bd83dd55e935b3a5ed"), looks := false }, kinds := [], alts := [], laidByText := true, laidKinds := [.sentinel, .sentinel], laidTests := true, laidLooks := .later }
def FnExactMayCommitUptoCardSaid : Prop := Claim7.holds Tryd.pinned (.plain (OpenSpec.upto fnExactMayCommitSpec)) fnExactMayCommitUptoCard
end Rows
end Go.Proofs.YtbnkkgjkhpbgiaaDoor
