/-
  No cell of these rows narrows 'for every input' (looked for: loops, veiled, ifaces, maps, wideKeys, modest, calm, conditions, laid).
  DERIVED. THE GIVEN ROWS OF THIS SEAT. 11 by the template 'for every input the law returns true; each argument reads behind the call as it read before'; 0 by the template 'total and deterministic' (their statements: YtmcmpmgjionfnaaTotals.lean).
  GIVEN WITH THE SEED: the statements are not yours to turn. If you find one false, say at which input.
  Laid BY PROGRAM, IN A SANDBOX (cutbox-rows.mjs): the forced cells as the released guide's own fill.sh prints them over the translation a6d0f60bc1dace23… (all of the seat's roots in one cut). By AI agents, Wed Nov 11 2026. No macro, syntax, notation, axiom, sorry.
-/
import Derived.Test.YtmcmpmgjionfnaaChecked
import GoSem.Claim
import GoSem.ClaimJoined
import GoSem.ClaimMapViews
import Derived.JoinedTies
import Derived.KernelRfl
namespace Go.Proofs.Ytmcmpmgjionfnaa
/- THE CELL 'sum', in the pinned program and in every row, IS THE sha256 OF THE DUMP (.gsa) THAT YtmcmpmgjionfnaaProg.lean LOADS. Nothing in Lean hashes anything: it is a label: what it is worth is what the hold of that sum in a sandbox is worth. -/
noncomputable def Try.pinned : Pinned := { name := "ytmcmpmgjionfnaa", sum := "a6d0f60bc1dace23db03de6482e1d913006c00c5c925d1c7f10dd0dd07917dd1", checked := Try.checked }
namespace Rows
def none {H : Type} : Left H := { results := [], args := [] }

/-- 'laws.FnReadRule': WHATEVER THE INPUT: true; the input reads as it did. -/
def fnReadRuleSpec : ChangeSpec := { name := "fnReadRule", fn := fun _ => fun
  | [d] => { results := [.lit (.bool true)], args := [d] }
  | _ => none }
def fnReadRuleRow : OpenClaim := { program := "ytmcmpmgjionfnaa", sum := "a6d0f60bc1dace23db03de6482e1d913006c00c5c925d1c7f10dd0dd07917dd1", func := "loop.example/g01924/laws.FnReadRule", spec := "fnReadRule", inPlace := ["slices.overlaps[loop.example/g01924/impl.ReadMark]"], unfollowed := true, recurses := true, apart := false }
def FnReadRuleSaid : Prop := fnReadRuleRow.holds Try.pinned (OpenSpec.ofChange fnReadRuleSpec)

/-- ITS FALSE NEIGHBOUR: 'it returns false'. Refute it at one input. -/
def fnReadRuleWrong : ChangeSpec := { name := "fnReadRule", fn := fun _ => fun
  | [d] => { results := [.lit (.bool false)], args := [d] }
  | _ => none }
def FnReadRuleWrongFalsely : Prop := fnReadRuleRow.holds Try.pinned (OpenSpec.ofChange fnReadRuleWrong)

/-- 'laws.FnExactTrackRead': WHATEVER THE INPUT: true; the input reads as it did. -/
def fnExactTrackReadSpec : ChangeSpec := { name := "fnExactTrackRead", fn := fun _ => fun
  | [d1, d2, d3] => { results := [.lit (.bool true)], args := [d1, d2, d3] }
  | _ => none }
def fnExactTrackReadRow : OpenClaim := { program := "ytmcmpmgjionfnaa", sum := "a6d0f60bc1dace23db03de6482e1d913006c00c5c925d1c7f10dd0dd07917dd1", func := "loop.example/g01924/laws.FnExactTrackRead", spec := "fnExactTrackRead", inPlace := ["slices.overlaps[loop.example/g01924/impl.ReadMark]"], unfollowed := true, recurses := true, apart := false }
def FnExactTrackReadSaid : Prop := fnExactTrackReadRow.holds Try.pinned (OpenSpec.ofChange fnExactTrackReadSpec)

/-- ITS FALSE NEIGHBOUR: 'it returns false'. Refute it at one input. -/
def fnExactTrackReadWrong : ChangeSpec := { name := "fnExactTrackRead", fn := fun _ => fun
  | [d1, d2, d3] => { results := [.lit (.bool false)], args := [d1, d2, d3] }
  | _ => none }
def FnExactTrackReadWrongFalsely : Prop := fnExactTrackReadRow.holds Try.pinned (OpenSpec.ofChange fnExactTrackReadWrong)

/-- 'laws.FnExactRefreshHigh': WHATEVER THE INPUT: true; the input reads as it did. -/
def fnExactRefreshHighSpec : ChangeSpec := { name := "fnExactRefreshHigh", fn := fun _ => fun
  | [d1, d2] => { results := [.lit (.bool true)], args := [d1, d2] }
  | _ => none }
def fnExactRefreshHighRow : OpenClaim := { program := "ytmcmpmgjionfnaa", sum := "a6d0f60bc1dace23db03de6482e1d913006c00c5c925d1c7f10dd0dd07917dd1", func := "loop.example/g01924/laws.FnExactRefreshHigh", spec := "fnExactRefreshHigh", unfollowed := true, recurses := true, apart := false }
def FnExactRefreshHighSaid : Prop := fnExactRefreshHighRow.holds Try.pinned (OpenSpec.ofChange fnExactRefreshHighSpec)

/-- ITS FALSE NEIGHBOUR: 'it returns false'. Refute it at one input. -/
def fnExactRefreshHighWrong : ChangeSpec := { name := "fnExactRefreshHigh", fn := fun _ => fun
  | [d1, d2] => { results := [.lit (.bool false)], args := [d1, d2] }
  | _ => none }
def FnExactRefreshHighWrongFalsely : Prop := fnExactRefreshHighRow.holds Try.pinned (OpenSpec.ofChange fnExactRefreshHighWrong)

/-- 'laws.FnExactReadValue': WHATEVER THE INPUT: true; the input reads as it did. -/
def fnExactReadValueSpec : ChangeSpec := { name := "fnExactReadValue", fn := fun _ => fun
  | [d1, d2, d3, d4] => { results := [.lit (.bool true)], args := [d1, d2, d3, d4] }
  | _ => none }
def fnExactReadValueRow : OpenClaim := { program := "ytmcmpmgjionfnaa", sum := "a6d0f60bc1dace23db03de6482e1d913006c00c5c925d1c7f10dd0dd07917dd1", func := "loop.example/g01924/laws.FnExactReadValue", spec := "fnExactReadValue", apart := false }
def FnExactReadValueSaid : Prop := fnExactReadValueRow.holds Try.pinned (OpenSpec.ofChange fnExactReadValueSpec)

/-- ITS FALSE NEIGHBOUR: 'it returns false'. Refute it at one input. -/
def fnExactReadValueWrong : ChangeSpec := { name := "fnExactReadValue", fn := fun _ => fun
  | [d1, d2, d3, d4] => { results := [.lit (.bool false)], args := [d1, d2, d3, d4] }
  | _ => none }
def FnExactReadValueWrongFalsely : Prop := fnExactReadValueRow.holds Try.pinned (OpenSpec.ofChange fnExactReadValueWrong)

/-- 'laws.FnExactStaleReads': WHATEVER THE INPUT: true; the input reads as it did. -/
def fnExactStaleReadsSpec : ChangeSpec := { name := "fnExactStaleReads", fn := fun _ => fun
  | [d1, d2] => { results := [.lit (.bool true)], args := [d1, d2] }
  | _ => none }
def fnExactStaleReadsRow : OpenClaim := { program := "ytmcmpmgjionfnaa", sum := "a6d0f60bc1dace23db03de6482e1d913006c00c5c925d1c7f10dd0dd07917dd1", func := "loop.example/g01924/laws.FnExactStaleReads", spec := "fnExactStaleReads", unfollowed := true, recurses := true, apart := false }
def FnExactStaleReadsSaid : Prop := fnExactStaleReadsRow.holds Try.pinned (OpenSpec.ofChange fnExactStaleReadsSpec)

/-- ITS FALSE NEIGHBOUR: 'it returns false'. Refute it at one input. -/
def fnExactStaleReadsWrong : ChangeSpec := { name := "fnExactStaleReads", fn := fun _ => fun
  | [d1, d2] => { results := [.lit (.bool false)], args := [d1, d2] }
  | _ => none }
def FnExactStaleReadsWrongFalsely : Prop := fnExactStaleReadsRow.holds Try.pinned (OpenSpec.ofChange fnExactStaleReadsWrong)

/-- 'laws.FnExactReadsExist': WHATEVER THE INPUT: true; the input reads as it did. -/
def fnExactReadsExistSpec : ChangeSpec := { name := "fnExactReadsExist", fn := fun _ => fun
  | [d1, d2] => { results := [.lit (.bool true)], args := [d1, d2] }
  | _ => none }
def fnExactReadsExistRow : OpenClaim := { program := "ytmcmpmgjionfnaa", sum := "a6d0f60bc1dace23db03de6482e1d913006c00c5c925d1c7f10dd0dd07917dd1", func := "loop.example/g01924/laws.FnExactReadsExist", spec := "fnExactReadsExist", unfollowed := true, recurses := true, apart := false }
def FnExactReadsExistSaid : Prop := fnExactReadsExistRow.holds Try.pinned (OpenSpec.ofChange fnExactReadsExistSpec)

/-- ITS FALSE NEIGHBOUR: 'it returns false'. Refute it at one input. -/
def fnExactReadsExistWrong : ChangeSpec := { name := "fnExactReadsExist", fn := fun _ => fun
  | [d1, d2] => { results := [.lit (.bool false)], args := [d1, d2] }
  | _ => none }
def FnExactReadsExistWrongFalsely : Prop := fnExactReadsExistRow.holds Try.pinned (OpenSpec.ofChange fnExactReadsExistWrong)

/-- 'laws.FnExactIsValidTransaction': WHATEVER THE INPUT: true; the input reads as it did. -/
def fnExactIsValidTransactionSpec : ChangeSpec := { name := "fnExactIsValidTransaction", fn := fun _ => fun
  | [d] => { results := [.lit (.bool true)], args := [d] }
  | _ => none }
def fnExactIsValidTransactionRow : OpenClaim := { program := "ytmcmpmgjionfnaa", sum := "a6d0f60bc1dace23db03de6482e1d913006c00c5c925d1c7f10dd0dd07917dd1", func := "loop.example/g01924/laws.FnExactIsValidTransaction", spec := "fnExactIsValidTransaction", apart := false }
def FnExactIsValidTransactionSaid : Prop := fnExactIsValidTransactionRow.holds Try.pinned (OpenSpec.ofChange fnExactIsValidTransactionSpec)

/-- ITS FALSE NEIGHBOUR: 'it returns false'. Refute it at one input. -/
def fnExactIsValidTransactionWrong : ChangeSpec := { name := "fnExactIsValidTransaction", fn := fun _ => fun
  | [d] => { results := [.lit (.bool false)], args := [d] }
  | _ => none }
def FnExactIsValidTransactionWrongFalsely : Prop := fnExactIsValidTransactionRow.holds Try.pinned (OpenSpec.ofChange fnExactIsValidTransactionWrong)

/-- 'laws.FnExactNewTransaction': WHATEVER THE INPUT: true; the input reads as it did. -/
def fnExactNewTransactionSpec : ChangeSpec := { name := "fnExactNewTransaction", fn := fun _ => fun
  | [d1, d2, d3] => { results := [.lit (.bool true)], args := [d1, d2, d3] }
  | _ => none }
def fnExactNewTransactionRow : OpenClaim := { program := "ytmcmpmgjionfnaa", sum := "a6d0f60bc1dace23db03de6482e1d913006c00c5c925d1c7f10dd0dd07917dd1", func := "loop.example/g01924/laws.FnExactNewTransaction", spec := "fnExactNewTransaction", apart := false }
def FnExactNewTransactionSaid : Prop := fnExactNewTransactionRow.holds Try.pinned (OpenSpec.ofChange fnExactNewTransactionSpec)

/-- ITS FALSE NEIGHBOUR: 'it returns false'. Refute it at one input. -/
def fnExactNewTransactionWrong : ChangeSpec := { name := "fnExactNewTransaction", fn := fun _ => fun
  | [d1, d2, d3] => { results := [.lit (.bool false)], args := [d1, d2, d3] }
  | _ => none }
def FnExactNewTransactionWrongFalsely : Prop := fnExactNewTransactionRow.holds Try.pinned (OpenSpec.ofChange fnExactNewTransactionWrong)

/-- 'laws.FnExactFindWrite': WHATEVER THE INPUT: true; the input reads as it did. -/
def fnExactFindWriteSpec : ChangeSpec := { name := "fnExactFindWrite", fn := fun _ => fun
  | [d1, d2] => { results := [.lit (.bool true)], args := [d1, d2] }
  | _ => none }
def fnExactFindWriteRow : OpenClaim := { program := "ytmcmpmgjionfnaa", sum := "a6d0f60bc1dace23db03de6482e1d913006c00c5c925d1c7f10dd0dd07917dd1", func := "loop.example/g01924/laws.FnExactFindWrite", spec := "fnExactFindWrite", apart := false }
def FnExactFindWriteSaid : Prop := fnExactFindWriteRow.holds Try.pinned (OpenSpec.ofChange fnExactFindWriteSpec)

/-- ITS FALSE NEIGHBOUR: 'it returns false'. Refute it at one input. -/
def fnExactFindWriteWrong : ChangeSpec := { name := "fnExactFindWrite", fn := fun _ => fun
  | [d1, d2] => { results := [.lit (.bool false)], args := [d1, d2] }
  | _ => none }
def FnExactFindWriteWrongFalsely : Prop := fnExactFindWriteRow.holds Try.pinned (OpenSpec.ofChange fnExactFindWriteWrong)

/-- 'laws.FnExactHasRead': WHATEVER THE INPUT: true; the input reads as it did. -/
def fnExactHasReadSpec : ChangeSpec := { name := "fnExactHasRead", fn := fun _ => fun
  | [d1, d2] => { results := [.lit (.bool true)], args := [d1, d2] }
  | _ => none }
def fnExactHasReadRow : OpenClaim := { program := "ytmcmpmgjionfnaa", sum := "a6d0f60bc1dace23db03de6482e1d913006c00c5c925d1c7f10dd0dd07917dd1", func := "loop.example/g01924/laws.FnExactHasRead", spec := "fnExactHasRead", apart := false }
def FnExactHasReadSaid : Prop := fnExactHasReadRow.holds Try.pinned (OpenSpec.ofChange fnExactHasReadSpec)

/-- ITS FALSE NEIGHBOUR: 'it returns false'. Refute it at one input. -/
def fnExactHasReadWrong : ChangeSpec := { name := "fnExactHasRead", fn := fun _ => fun
  | [d1, d2] => { results := [.lit (.bool false)], args := [d1, d2] }
  | _ => none }
def FnExactHasReadWrongFalsely : Prop := fnExactHasReadRow.holds Try.pinned (OpenSpec.ofChange fnExactHasReadWrong)

/-- 'laws.FnExactIsReadOnly': WHATEVER THE INPUT: true; the input reads as it did. -/
def fnExactIsReadOnlySpec : ChangeSpec := { name := "fnExactIsReadOnly", fn := fun _ => fun
  | [d] => { results := [.lit (.bool true)], args := [d] }
  | _ => none }
def fnExactIsReadOnlyRow : OpenClaim := { program := "ytmcmpmgjionfnaa", sum := "a6d0f60bc1dace23db03de6482e1d913006c00c5c925d1c7f10dd0dd07917dd1", func := "loop.example/g01924/laws.FnExactIsReadOnly", spec := "fnExactIsReadOnly", apart := false }
def FnExactIsReadOnlySaid : Prop := fnExactIsReadOnlyRow.holds Try.pinned (OpenSpec.ofChange fnExactIsReadOnlySpec)

/-- ITS FALSE NEIGHBOUR: 'it returns false'. Refute it at one input. -/
def fnExactIsReadOnlyWrong : ChangeSpec := { name := "fnExactIsReadOnly", fn := fun _ => fun
  | [d] => { results := [.lit (.bool false)], args := [d] }
  | _ => none }
def FnExactIsReadOnlyWrongFalsely : Prop := fnExactIsReadOnlyRow.holds Try.pinned (OpenSpec.ofChange fnExactIsReadOnlyWrong)

/- THE SECOND FORM. 'bulk': how many values and letters a reading holds, each counted each time it is reached (what is shared counts as often as it is met; a slice's spare places count too). A statement '..UptoSaid' is the law's where the arguments, and the package variables that the reading takes, are together of bulk at most 1048576: NARROWER than '..Said'. Prove '..Said' where nothing that the law and all that it calls make is longer than what came in: it says more and counts as full. Else prove '..UptoSaid'. A law counts once. -/
mutual
def uptoBulk {H : Type} : DataW H → Nat
  | .lit (.string bytes) => bytes.length + 1
  | .lit _ => 1
  | .nil => 1
  | .ptr d => uptoBulk d + 1
  | .slice elems spare => uptoBulkAll elems + uptoBulkAll spare + 1
  | .agg parts => uptoBulkAll parts + 1
  | .iface _ d => uptoBulk d + 1
  | .map entries => uptoBulkEntries entries + 1
  | .held _ => 1
def uptoBulkAll {H : Type} : List (DataW H) → Nat
  | [] => 0
  | d :: r => uptoBulk d + uptoBulkAll r
def uptoBulkEntries {H : Type} : List (Lit × DataW H) → Nat
  | [] => 0
  | x :: r => uptoBulkEntry x + uptoBulkEntries r
def uptoBulkEntry {H : Type} : Lit × DataW H → Nat
  | (.string bytes, d) => bytes.length + uptoBulk d + 1
  | (_, d) => uptoBulk d + 1
 end
def uptoSmall : (H : Type) → List (DataW H) → Bool := fun _ ds => decide (uptoBulkAll ds ≤ 1048576)
def OpenSpec.upto (s : _root_.Go.ChangeSpec) : _root_.Go.OpenSpec := { _root_.Go.OpenSpec.ofChange s with cond := some uptoSmall }

/-- 'laws.FnReadRule', WHERE WHAT IT READS IS OF BULK AT MOST 1048576: true; the input reads as it did. -/
def fnReadRuleUptoRow : OpenClaim := { program := "ytmcmpmgjionfnaa", sum := "a6d0f60bc1dace23db03de6482e1d913006c00c5c925d1c7f10dd0dd07917dd1", func := "loop.example/g01924/laws.FnReadRule", spec := "fnReadRule", inPlace := ["slices.overlaps[loop.example/g01924/impl.ReadMark]"], unfollowed := true, recurses := true, apart := false, narrowed := true }
def FnReadRuleUptoSaid : Prop := fnReadRuleUptoRow.holds Try.pinned (OpenSpec.upto fnReadRuleSpec)

/-- 'laws.FnExactTrackRead', WHERE WHAT IT READS IS OF BULK AT MOST 1048576: true; the input reads as it did. -/
def fnExactTrackReadUptoRow : OpenClaim := { program := "ytmcmpmgjionfnaa", sum := "a6d0f60bc1dace23db03de6482e1d913006c00c5c925d1c7f10dd0dd07917dd1", func := "loop.example/g01924/laws.FnExactTrackRead", spec := "fnExactTrackRead", inPlace := ["slices.overlaps[loop.example/g01924/impl.ReadMark]"], unfollowed := true, recurses := true, apart := false, narrowed := true }
def FnExactTrackReadUptoSaid : Prop := fnExactTrackReadUptoRow.holds Try.pinned (OpenSpec.upto fnExactTrackReadSpec)

/-- 'laws.FnExactRefreshHigh', WHERE WHAT IT READS IS OF BULK AT MOST 1048576: true; the input reads as it did. -/
def fnExactRefreshHighUptoRow : OpenClaim := { program := "ytmcmpmgjionfnaa", sum := "a6d0f60bc1dace23db03de6482e1d913006c00c5c925d1c7f10dd0dd07917dd1", func := "loop.example/g01924/laws.FnExactRefreshHigh", spec := "fnExactRefreshHigh", unfollowed := true, recurses := true, apart := false, narrowed := true }
def FnExactRefreshHighUptoSaid : Prop := fnExactRefreshHighUptoRow.holds Try.pinned (OpenSpec.upto fnExactRefreshHighSpec)

/-- 'laws.FnExactReadValue', WHERE WHAT IT READS IS OF BULK AT MOST 1048576: true; the input reads as it did. -/
def fnExactReadValueUptoRow : OpenClaim := { program := "ytmcmpmgjionfnaa", sum := "a6d0f60bc1dace23db03de6482e1d913006c00c5c925d1c7f10dd0dd07917dd1", func := "loop.example/g01924/laws.FnExactReadValue", spec := "fnExactReadValue", apart := false, narrowed := true }
def FnExactReadValueUptoSaid : Prop := fnExactReadValueUptoRow.holds Try.pinned (OpenSpec.upto fnExactReadValueSpec)

/-- 'laws.FnExactStaleReads', WHERE WHAT IT READS IS OF BULK AT MOST 1048576: true; the input reads as it did. -/
def fnExactStaleReadsUptoRow : OpenClaim := { program := "ytmcmpmgjionfnaa", sum := "a6d0f60bc1dace23db03de6482e1d913006c00c5c925d1c7f10dd0dd07917dd1", func := "loop.example/g01924/laws.FnExactStaleReads", spec := "fnExactStaleReads", unfollowed := true, recurses := true, apart := false, narrowed := true }
def FnExactStaleReadsUptoSaid : Prop := fnExactStaleReadsUptoRow.holds Try.pinned (OpenSpec.upto fnExactStaleReadsSpec)

/-- 'laws.FnExactReadsExist', WHERE WHAT IT READS IS OF BULK AT MOST 1048576: true; the input reads as it did. -/
def fnExactReadsExistUptoRow : OpenClaim := { program := "ytmcmpmgjionfnaa", sum := "a6d0f60bc1dace23db03de6482e1d913006c00c5c925d1c7f10dd0dd07917dd1", func := "loop.example/g01924/laws.FnExactReadsExist", spec := "fnExactReadsExist", unfollowed := true, recurses := true, apart := false, narrowed := true }
def FnExactReadsExistUptoSaid : Prop := fnExactReadsExistUptoRow.holds Try.pinned (OpenSpec.upto fnExactReadsExistSpec)

/-- 'laws.FnExactIsValidTransaction', WHERE WHAT IT READS IS OF BULK AT MOST 1048576: true; the input reads as it did. -/
def fnExactIsValidTransactionUptoRow : OpenClaim := { program := "ytmcmpmgjionfnaa", sum := "a6d0f60bc1dace23db03de6482e1d913006c00c5c925d1c7f10dd0dd07917dd1", func := "loop.example/g01924/laws.FnExactIsValidTransaction", spec := "fnExactIsValidTransaction", apart := false, narrowed := true }
def FnExactIsValidTransactionUptoSaid : Prop := fnExactIsValidTransactionUptoRow.holds Try.pinned (OpenSpec.upto fnExactIsValidTransactionSpec)

/-- 'laws.FnExactNewTransaction', WHERE WHAT IT READS IS OF BULK AT MOST 1048576: true; the input reads as it did. -/
def fnExactNewTransactionUptoRow : OpenClaim := { program := "ytmcmpmgjionfnaa", sum := "a6d0f60bc1dace23db03de6482e1d913006c00c5c925d1c7f10dd0dd07917dd1", func := "loop.example/g01924/laws.FnExactNewTransaction", spec := "fnExactNewTransaction", apart := false, narrowed := true }
def FnExactNewTransactionUptoSaid : Prop := fnExactNewTransactionUptoRow.holds Try.pinned (OpenSpec.upto fnExactNewTransactionSpec)

/-- 'laws.FnExactFindWrite', WHERE WHAT IT READS IS OF BULK AT MOST 1048576: true; the input reads as it did. -/
def fnExactFindWriteUptoRow : OpenClaim := { program := "ytmcmpmgjionfnaa", sum := "a6d0f60bc1dace23db03de6482e1d913006c00c5c925d1c7f10dd0dd07917dd1", func := "loop.example/g01924/laws.FnExactFindWrite", spec := "fnExactFindWrite", apart := false, narrowed := true }
def FnExactFindWriteUptoSaid : Prop := fnExactFindWriteUptoRow.holds Try.pinned (OpenSpec.upto fnExactFindWriteSpec)

/-- 'laws.FnExactHasRead', WHERE WHAT IT READS IS OF BULK AT MOST 1048576: true; the input reads as it did. -/
def fnExactHasReadUptoRow : OpenClaim := { program := "ytmcmpmgjionfnaa", sum := "a6d0f60bc1dace23db03de6482e1d913006c00c5c925d1c7f10dd0dd07917dd1", func := "loop.example/g01924/laws.FnExactHasRead", spec := "fnExactHasRead", apart := false, narrowed := true }
def FnExactHasReadUptoSaid : Prop := fnExactHasReadUptoRow.holds Try.pinned (OpenSpec.upto fnExactHasReadSpec)

/-- 'laws.FnExactIsReadOnly', WHERE WHAT IT READS IS OF BULK AT MOST 1048576: true; the input reads as it did. -/
def fnExactIsReadOnlyUptoRow : OpenClaim := { program := "ytmcmpmgjionfnaa", sum := "a6d0f60bc1dace23db03de6482e1d913006c00c5c925d1c7f10dd0dd07917dd1", func := "loop.example/g01924/laws.FnExactIsReadOnly", spec := "fnExactIsReadOnly", apart := false, narrowed := true }
def FnExactIsReadOnlyUptoSaid : Prop := fnExactIsReadOnlyUptoRow.holds Try.pinned (OpenSpec.upto fnExactIsReadOnlySpec)

end Rows
end Go.Proofs.Ytmcmpmgjionfnaa
