/-
  DERIVED. GIVEN WITH THE SEED: THE CARDS: each row of YtkdimgaoilcikaaDoorRows.lean that lists a variable, with what it lists TIED to the program's text (the seventh form; the later family's looks); each row that meets fmt, with fmt's text TOLD by the authors' own Lean function (tested against real Go, not proved from fmt's source: count such statements apart). THE CARD IS WHAT COUNTS. Prove the row's statement (the work); the ties are given (YtkdimgaoilcikaaDoorTie.lean); close each card by the builder's one call (the guide's Derived/Test/ToyasCard.lean, 'card_holds'). Laid BY PROGRAM, IN A SANDBOX (cutbox-door.mjs). By AI agents, Wed Nov 11 2026. No macro, syntax, notation, axiom, sorry.
-/
import Derived.Test.YtkdimgaoilcikaaDoorRows
import GoSem.ClaimSeven
namespace Go.Proofs.YtkdimgaoilcikaaDoor
namespace Rows

/-- THE TIED CARD OF 'laws.FnExactFormatMark'. -/
def fnExactFormatMarkCard : Claim7 := { stood := { row := fnExactFormatMarkRow, standIns := [], harness := (true, "b35f3eb48998ed20ef13447289f5eaad8a2dbe31a273516e87c7c82f0817ea21"), looks := true }, kinds := [], alts := [], laidByText := true, laidKinds := [.data, .data, .data], laidTests := true, laidLooks := .later }
def FnExactFormatMarkCardSaid : Prop := Claim7.holds Tryd.pinned (.plain (OpenSpec.ofChange fnExactFormatMarkSpec)) fnExactFormatMarkCard

/-- THE TIED CARD OF 'laws.FnExactParseMark'. -/
def fnExactParseMarkCard : Claim7 := { stood := { row := fnExactParseMarkRow, standIns := [], harness := (true, "b35f3eb48998ed20ef13447289f5eaad8a2dbe31a273516e87c7c82f0817ea21"), looks := true }, kinds := [], alts := [], laidByText := true, laidKinds := [.data, .data, .data, .sentinel, .sentinel], laidTests := true, laidLooks := .later }
def FnExactParseMarkCardSaid : Prop := Claim7.holds Tryd.pinned (.plain (OpenSpec.ofChange fnExactParseMarkSpec)) fnExactParseMarkCard

/-- THE SECOND FORM's CARD OF 'laws.FnExactFormatMark'. -/
def fnExactFormatMarkUptoCard : Claim7 := { stood := { row := fnExactFormatMarkUptoRow, standIns := [], harness := (true, "b35f3eb48998ed20ef13447289f5eaad8a2dbe31a273516e87c7c82f0817ea21"), looks := true }, kinds := [], alts := [], laidByText := true, laidKinds := [.data, .data, .data], laidTests := true, laidLooks := .later }
def FnExactFormatMarkUptoCardSaid : Prop := Claim7.holds Tryd.pinned (.plain (OpenSpec.upto fnExactFormatMarkSpec)) fnExactFormatMarkUptoCard

/-- THE SECOND FORM's CARD OF 'laws.FnExactParseMark'. -/
def fnExactParseMarkUptoCard : Claim7 := { stood := { row := fnExactParseMarkUptoRow, standIns := [], harness := (true, "b35f3eb48998ed20ef13447289f5eaad8a2dbe31a273516e87c7c82f0817ea21"), looks := true }, kinds := [], alts := [], laidByText := true, laidKinds := [.data, .data, .data, .sentinel, .sentinel], laidTests := true, laidLooks := .later }
def FnExactParseMarkUptoCardSaid : Prop := Claim7.holds Tryd.pinned (.plain (OpenSpec.upto fnExactParseMarkSpec)) fnExactParseMarkUptoCard
end Rows
end Go.Proofs.YtkdimgaoilcikaaDoor
