/-
  DERIVED. GIVEN WITH THE SEED: THE CARDS: each row of YtleeglgjaifejaaDoorRows.lean that lists a variable, with what it lists TIED to the program's text (the seventh form; the later family's looks); each row that meets fmt, with fmt's text TOLD by the authors' own Lean function (tested against real Go, not proved from fmt's source: count such statements apart). THE CARD IS WHAT COUNTS. Prove the row's statement (the work); the ties are given (YtleeglgjaifejaaDoorTie.lean); close each card by the builder's one call (the guide's Derived/Test/ToyasCard.lean, 'card_holds'). Laid BY PROGRAM, IN A SANDBOX (cutbox-door.mjs). By AI agents, Wed Nov 11 2026. No macro, syntax, notation, axiom, sorry.
-/
import Derived.Test.YtleeglgjaifejaaDoorRows
import GoSem.ClaimSeven
namespace Go.Proofs.YtleeglgjaifejaaDoor
namespace Rows

/-- THE TIED CARD OF 'laws.FnStores'. -/
def fnStoresCard : Claim7 := { stood := { row := fnStoresRow, standIns := [], harness := (true, "c95431e35821571b996e84266b3c835a539eb384eb675aab92a4e41bd597b501"), looks := false }, kinds := [], alts := [], laidByText := true, laidKinds := [.data, .data, .data], laidTests := true, laidLooks := .later }
def FnStoresCardSaid : Prop := Claim7.holds Tryd.pinned (.plain (OpenSpec.ofChange fnStoresSpec)) fnStoresCard

/-- THE TIED CARD OF 'laws.FnExactFormatChain'. -/
def fnExactFormatChainCard : Claim7 := { stood := { row := fnExactFormatChainRow, standIns := [], harness := (true, "c95431e35821571b996e84266b3c835a539eb384eb675aab92a4e41bd597b501"), looks := false }, kinds := [], alts := [], laidByText := true, laidKinds := [.data, .data, .data], laidTests := true, laidLooks := .later }
def FnExactFormatChainCardSaid : Prop := Claim7.holds Tryd.pinned (.plain (OpenSpec.ofChange fnExactFormatChainSpec)) fnExactFormatChainCard

/-- THE SECOND FORM's CARD OF 'laws.FnStores'. -/
def fnStoresUptoCard : Claim7 := { stood := { row := fnStoresUptoRow, standIns := [], harness := (true, "c95431e35821571b996e84266b3c835a539eb384eb675aab92a4e41bd597b501"), looks := false }, kinds := [], alts := [], laidByText := true, laidKinds := [.data, .data, .data], laidTests := true, laidLooks := .later }
def FnStoresUptoCardSaid : Prop := Claim7.holds Tryd.pinned (.plain (OpenSpec.upto fnStoresSpec)) fnStoresUptoCard

/-- THE SECOND FORM's CARD OF 'laws.FnExactFormatChain'. -/
def fnExactFormatChainUptoCard : Claim7 := { stood := { row := fnExactFormatChainUptoRow, standIns := [], harness := (true, "c95431e35821571b996e84266b3c835a539eb384eb675aab92a4e41bd597b501"), looks := false }, kinds := [], alts := [], laidByText := true, laidKinds := [.data, .data, .data], laidTests := true, laidLooks := .later }
def FnExactFormatChainUptoCardSaid : Prop := Claim7.holds Tryd.pinned (.plain (OpenSpec.upto fnExactFormatChainSpec)) fnExactFormatChainUptoCard
end Rows
end Go.Proofs.YtleeglgjaifejaaDoor
