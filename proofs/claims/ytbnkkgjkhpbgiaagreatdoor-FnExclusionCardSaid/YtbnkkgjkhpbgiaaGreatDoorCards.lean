/-
  DERIVED. GIVEN WITH THE SEED: THE CARDS: each row of YtbnkkgjkhpbgiaaGreatDoorRows.lean that lists a variable, with what it lists TIED to the program's text (the seventh form; the later family's looks); each row that meets fmt, with fmt's text TOLD by the authors' own Lean function (tested against real Go, not proved from fmt's source: count such statements apart). THE CARD IS WHAT COUNTS. Prove the row's statement (the work); the ties are given (YtbnkkgjkhpbgiaaGreatDoorTie.lean); close each card by the builder's one call (the guide's Derived/Test/ToyasCard.lean, 'card_holds'). Laid BY PROGRAM, IN A SANDBOX (cutbox-door.mjs). By AI agents, Wed Nov 11 2026. No macro, syntax, notation, axiom, sorry.
-/
import Derived.Test.YtbnkkgjkhpbgiaaGreatDoorRows
import GoSem.ClaimSeven
namespace Go.Proofs.YtbnkkgjkhpbgiaaGreatDoor
namespace Rows

/-- THE TIED CARD OF 'laws.FnExclusion'. -/
def fnExclusionCard : Claim7 := { stood := { row := fnExclusionRow, standIns := [], harness := (true, "0fe8ba51052d5b6cadcf6a3c6e59c7e9478e56fc74c656e94e561f6c6fcce91c"), looks := true }, kinds := [], alts := [], laidByText := true, laidKinds := [.handle, .sentinel, .sentinel], laidTests := true, laidLooks := .later }
def FnExclusionCardSaid : Prop := Claim7.holds Tryz.pinned (.plain (OpenSpec.ofChange fnExclusionSpec)) fnExclusionCard

/-- THE TIED CARD OF 'laws.FnExactExcludingPair'. -/
def fnExactExcludingPairCard : Claim7 := { stood := { row := fnExactExcludingPairRow, standIns := [], harness := (true, "0fe8ba51052d5b6cadcf6a3c6e59c7e9478e56fc74c656e94e561f6c6fcce91c"), looks := true }, kinds := [], alts := [], laidByText := true, laidKinds := [.handle, .sentinel, .sentinel], laidTests := true, laidLooks := .later }
def FnExactExcludingPairCardSaid : Prop := Claim7.holds Tryz.pinned (.plain (OpenSpec.ofChange fnExactExcludingPairSpec)) fnExactExcludingPairCard

/-- THE SECOND FORM's CARD OF 'laws.FnExclusion'. -/
def fnExclusionUptoCard : Claim7 := { stood := { row := fnExclusionUptoRow, standIns := [], harness := (true, "0fe8ba51052d5b6cadcf6a3c6e59c7e9478e56fc74c656e94e561f6c6fcce91c"), looks := true }, kinds := [], alts := [], laidByText := true, laidKinds := [.handle, .sentinel, .sentinel], laidTests := true, laidLooks := .later }
def FnExclusionUptoCardSaid : Prop := Claim7.holds Tryz.pinned (.plain (OpenSpec.upto fnExclusionSpec)) fnExclusionUptoCard

/-- THE SECOND FORM's CARD OF 'laws.FnExactExcludingPair'. -/
def fnExactExcludingPairUptoCard : Claim7 := { stood := { row := fnExactExcludingPairUptoRow, standIns := [], harness := (true, "0fe8ba51052d5b6cadcf6a3c6e59c7e9478e56fc74c656e94e561f6c6fcce91c"), looks := true }, kinds := [], alts := [], laidByText := true, laidKinds := [.handle, .sentinel, .sentinel], laidTests := true, laidLooks := .later }
def FnExactExcludingPairUptoCardSaid : Prop := Claim7.holds Tryz.pinned (.plain (OpenSpec.upto fnExactExcludingPairSpec)) fnExactExcludingPairUptoCard
end Rows
end Go.Proofs.YtbnkkgjkhpbgiaaGreatDoor
