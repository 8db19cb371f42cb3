/-
  DERIVED. GIVEN WITH THE SEED: THE CARDS: each row of YthbbpfgjbidbhaaGreatDoorRows.lean that lists a variable, with what it lists TIED to the program's text (the seventh form; the later family's looks); each row that meets fmt, with fmt's text TOLD by the authors' own Lean function (tested against real Go, not proved from fmt's source: count such statements apart). THE CARD IS WHAT COUNTS. Prove the row's statement (the work); the ties are given (YthbbpfgjbidbhaaGreatDoorTie.lean); close each card by the builder's one call (the guide's Derived/Test/ToyasCard.lean, 'card_holds'). Laid BY PROGRAM, IN A SANDBOX (cutbox-door.mjs). By AI agents, Wed Nov 11 2026. No macro, syntax, notation, axiom, sorry.
-/
import Derived.Test.YthbbpfgjbidbhaaGreatDoorRows
import GoSem.ClaimSeven
namespace Go.Proofs.YthbbpfgjbidbhaaGreatDoor
namespace Rows

/-- THE TIED CARD OF 'laws.FnExactCommitTransaction'. -/
def fnExactCommitTransactionCard : Claim7 := { stood := { row := fnExactCommitTransactionRow, standIns := [], harness := (true, "3a4c760ed3f290d74774b30476d40fa32f8b1a88f55f732fc9115f51c8ab8417"), looks := false }, kinds := [], alts := [], laidByText := true, laidKinds := [.sentinel, .sentinel], laidTests := true, laidLooks := .later }
def FnExactCommitTransactionCardSaid : Prop := Claim7.holds Tryz.pinned (.plain (OpenSpec.ofChange fnExactCommitTransactionSpec)) fnExactCommitTransactionCard

/-- THE SECOND FORM's CARD OF 'laws.FnExactCommitTransaction'. -/
def fnExactCommitTransactionUptoCard : Claim7 := { stood := { row := fnExactCommitTransactionUptoRow, standIns := [], harness := (true, "3a4c760ed3f290d74774b30476d40fa32f8b1a88f55f732fc9115f51c8ab8417"), looks := false }, kinds := [], alts := [], laidByText := true, laidKinds := [.sentinel, .sentinel], laidTests := true, laidLooks := .later }
def FnExactCommitTransactionUptoCardSaid : Prop := Claim7.holds Tryz.pinned (.plain (OpenSpec.upto fnExactCommitTransactionSpec)) fnExactCommitTransactionUptoCard
end Rows
end Go.Proofs.YthbbpfgjbidbhaaGreatDoor
