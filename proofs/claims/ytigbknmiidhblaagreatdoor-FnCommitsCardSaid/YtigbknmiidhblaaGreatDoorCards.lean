/-
  DERIVED. GIVEN WITH THE SEED: THE CARDS: each row of YtigbknmiidhblaaGreatDoorRows.lean that lists a variable, with what it lists TIED to the program's text (the seventh form; the later family's looks); each row that meets fmt, with fmt's text TOLD by the authors' own Lean function (tested against real Go, not proved from fmt's source: count such statements apart). THE CARD IS WHAT COUNTS. Prove the row's statement (the work); the ties are given (YtigbknmiidhblaaGreatDoorTie.lean); close each card by the builder's one call (the guide's Derived/Test/ToyasCard.lean, 'card_holds'). Laid BY PROGRAM, IN A SANDBOX (cutbox-door.mjs). By AI agents, Wed Nov 11 2026. No macro, syntax, notation, axiom, sorry.
-/
import Derived.Test.YtigbknmiidhblaaGreatDoorRows
import GoSem.ClaimSeven
namespace Go.Proofs.YtigbknmiidhblaaGreatDoor
namespace Rows

/-- THE TIED CARD OF 'laws.FnCommits'. -/
def fnCommitsCard : Claim7 := { stood := { row := fnCommitsRow, standIns := [], harness := (true, "f3e7dd532096752b37cc9333b1e451136c9b5108fd2ddc721866bf55734a1d41"), looks := false }, kinds := [], alts := [], laidByText := true, laidKinds := [.sentinel, .sentinel], laidTests := true, laidLooks := .later }
def FnCommitsCardSaid : Prop := Claim7.holds Tryz.pinned (.plain (OpenSpec.ofChange fnCommitsSpec)) fnCommitsCard

/-- THE TIED CARD OF 'laws.FnExactCommitTransaction'. -/
def fnExactCommitTransactionCard : Claim7 := { stood := { row := fnExactCommitTransactionRow, standIns := [], harness := (true, "f3e7dd532096752b37cc9333b1e451136c9b5108fd2ddc721866bf55734a1d41"), looks := false }, kinds := [], alts := [], laidByText := true, laidKinds := [.sentinel, .sentinel], laidTests := true, laidLooks := .later }
def FnExactCommitTransactionCardSaid : Prop := Claim7.holds Tryz.pinned (.plain (OpenSpec.ofChange fnExactCommitTransactionSpec)) fnExactCommitTransactionCard

/-- THE SECOND FORM's CARD OF 'laws.FnCommits'. -/
def fnCommitsUptoCard : Claim7 := { stood := { row := fnCommitsUptoRow, standIns := [], harness := (true, "f3e7dd532096752b37cc9333b1e451136c9b5108fd2ddc721866bf55734a1d41"), looks := false }, kinds := [], alts := [], laidByText := true, laidKinds := [.sentinel, .sentinel], laidTests := true, laidLooks := .later }
def FnCommitsUptoCardSaid : Prop := Claim7.holds Tryz.pinned (.plain (OpenSpec.upto fnCommitsSpec)) fnCommitsUptoCard

/-- THE SECOND FORM's CARD OF 'laws.FnExactCommitTransaction'. -/
def fnExactCommitTransactionUptoCard : Claim7 := { stood := { row := fnExactCommitTransactionUptoRow, standIns := [], harness := (true, "f3e7dd532096752b37cc9333b1e451136c9b5108fd2ddc721866bf55734a1d41"), looks := false }, kinds := [], alts := [], laidByText := true, laidKinds := [.sentinel, .sentinel], laidTests := true, laidLooks := .later }
def FnExactCommitTransactionUptoCardSaid : Prop := Claim7.holds Tryz.pinned (.plain (OpenSpec.upto fnExactCommitTransactionSpec)) fnExactCommitTransactionUptoCard
end Rows
end Go.Proofs.YtigbknmiidhblaaGreatDoor
