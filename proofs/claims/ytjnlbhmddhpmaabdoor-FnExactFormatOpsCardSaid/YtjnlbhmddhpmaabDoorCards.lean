/-
  DERIVED. GIVEN WITH THE SEED: THE CARDS: each row of YtjnlbhmddhpmaabDoorRows.lean that lists a variable, with what it lists TIED to the program's text (the seventh form; the later family's looks); each row that meets fmt, with fmt's text TOLD by the authors' own Lean function (tested against real Go, not proved from fmt's source: count such statements apart). THE CARD IS WHAT COUNTS. Prove the row's statement (the work); the ties are given (YtjnlbhmddhpmaabDoorTie.lean); close each card by the builder's one call (the guide's Derived/Test/ToyasCard.lean, 'card_holds'). Laid BY PROGRAM, IN A SANDBOX (cutbox-door.mjs). By AI agents, Wed Nov 11 2026. No macro, syntax, notation, axiom, sorry.
-/
import Derived.Test.YtjnlbhmddhpmaabDoorRows
import GoSem.ClaimSeven
namespace Go.Proofs.YtjnlbhmddhpmaabDoor
namespace Rows

/-- THE TIED CARD OF 'laws.FnExactFormatOps'. -/
def fnExactFormatOpsCard : Claim7 := { stood := { row := fnExactFormatOpsRow, standIns := [], harness := (true, "379272d8c9e05a2842920be8e8373dff902559bf523aa8ddb238ea409212ad49"), looks := true }, kinds := [], alts := [], laidByText := true, laidKinds := [.data, .data, .data], laidTests := true, laidLooks := .later }
def FnExactFormatOpsCardSaid : Prop := Claim7.holds Tryd.pinned (.plain (OpenSpec.ofChange fnExactFormatOpsSpec)) fnExactFormatOpsCard

/-- THE TIED CARD OF 'laws.FnExactParseOps'. -/
def fnExactParseOpsCard : Claim7 := { stood := { row := fnExactParseOpsRow, standIns := [], harness := (true, "379272d8c9e05a2842920be8e8373dff902559bf523aa8ddb238ea409212ad49"), looks := true }, kinds := [], alts := [], laidByText := true, laidKinds := [.data, .data, .data, .data, .sentinel, .sentinel, .pinned], laidTests := true, laidLooks := .later }
def FnExactParseOpsCardSaid : Prop := Claim7.holds Tryd.pinned (.plain (OpenSpec.ofChange fnExactParseOpsSpec)) fnExactParseOpsCard

/-- THE SECOND FORM's CARD OF 'laws.FnExactFormatOps'. -/
def fnExactFormatOpsUptoCard : Claim7 := { stood := { row := fnExactFormatOpsUptoRow, standIns := [], harness := (true, "379272d8c9e05a2842920be8e8373dff902559bf523aa8ddb238ea409212ad49"), looks := true }, kinds := [], alts := [], laidByText := true, laidKinds := [.data, .data, .data], laidTests := true, laidLooks := .later }
def FnExactFormatOpsUptoCardSaid : Prop := Claim7.holds Tryd.pinned (.plain (OpenSpec.upto fnExactFormatOpsSpec)) fnExactFormatOpsUptoCard

/-- THE SECOND FORM's CARD OF 'laws.FnExactParseOps'. -/
def fnExactParseOpsUptoCard : Claim7 := { stood := { row := fnExactParseOpsUptoRow, standIns := [], harness := (true, "379272d8c9e05a2842920be8e8373dff902559bf523aa8ddb238ea409212ad49"), looks := true }, kinds := [], alts := [], laidByText := true, laidKinds := [.data, .data, .data, .data, .sentinel, .sentinel, .pinned], laidTests := true, laidLooks := .later }
def FnExactParseOpsUptoCardSaid : Prop := Claim7.holds Tryd.pinned (.plain (OpenSpec.upto fnExactParseOpsSpec)) fnExactParseOpsUptoCard
end Rows
end Go.Proofs.YtjnlbhmddhpmaabDoor
