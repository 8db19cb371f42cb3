/-
  No cell of these rows narrows 'for every input' (looked for: loops, veiled, ifaces, maps, wideKeys, modest, calm, conditions, laid).
  DERIVED. THE GIVEN ROWS OF THIS SEAT. 6 by the template 'for every input the law returns true; each argument reads behind the call as it read before'; 0 by the template 'total and deterministic' (their statements: YtajllccgfhminaaTotals.lean).
  GIVEN WITH THE SEED: the statements are not yours to turn. If you find one false, say at which input.
  Laid BY PROGRAM, IN A SANDBOX (cutbox-rows.mjs): the forced cells as the released guide's own fill.sh prints them over the translation ed7a64d69b94d668… (all of the seat's roots in one cut). By AI agents, Wed Nov 11 2026. No macro, syntax, notation, axiom, sorry.
-/
import Derived.Test.YtajllccgfhminaaChecked
import GoSem.Claim
import GoSem.ClaimJoined
import GoSem.ClaimMapViews
import Derived.JoinedTies
import Derived.KernelRfl
namespace Go.Proofs.Ytajllccgfhminaa
/- THE CELL 'sum', in the pinned program and in every row, IS THE sha256 OF THE DUMP (.gsa) THAT YtajllccgfhminaaProg.lean LOADS. Nothing in Lean hashes anything: it is a label: what it is worth is what the hold of that sum in a sandbox is worth. -/
noncomputable def Try.pinned : Pinned := { name := "ytajllccgfhminaa", sum := "ed7a64d69b94d6688b17f75b8c32b50d50810c705eed258201db2883439cc263", checked := Try.checked }
namespace Rows
def none {H : Type} : Left H := { results := [], args := [] }

/-- 'laws.FnReadRule': WHATEVER THE INPUT: true; the input reads as it did. -/
def fnReadRuleSpec : ChangeSpec := { name := "fnReadRule", fn := fun _ => fun
  | [d] => { results := [.lit (.bool true)], args := [d] }
  | _ => none }
def fnReadRuleRow : OpenClaim := { program := "ytajllccgfhminaa", sum := "ed7a64d69b94d6688b17f75b8c32b50d50810c705eed258201db2883439cc263", func := "loop.example/g01924/laws.FnReadRule", spec := "fnReadRule", inPlace := ["slices.overlaps[loop.example/g01924/impl.ReadMark]"], unfollowed := true, recurses := true, apart := false }
def FnReadRuleSaid : Prop := fnReadRuleRow.holds Try.pinned (OpenSpec.ofChange fnReadRuleSpec)

/-- ITS FALSE NEIGHBOUR: 'it returns false'. Refute it at one input. -/
def fnReadRuleWrong : ChangeSpec := { name := "fnReadRule", fn := fun _ => fun
  | [d] => { results := [.lit (.bool false)], args := [d] }
  | _ => none }
def FnReadRuleWrongFalsely : Prop := fnReadRuleRow.holds Try.pinned (OpenSpec.ofChange fnReadRuleWrong)

/-- 'laws.FnWriteRule': WHATEVER THE INPUT: true; the input reads as it did. -/
def fnWriteRuleSpec : ChangeSpec := { name := "fnWriteRule", fn := fun _ => fun
  | [d] => { results := [.lit (.bool true)], args := [d] }
  | _ => none }
def fnWriteRuleRow : OpenClaim := { program := "ytajllccgfhminaa", sum := "ed7a64d69b94d6688b17f75b8c32b50d50810c705eed258201db2883439cc263", func := "loop.example/g01924/laws.FnWriteRule", spec := "fnWriteRule", unfollowed := true, recurses := true, apart := false }
def FnWriteRuleSaid : Prop := fnWriteRuleRow.holds Try.pinned (OpenSpec.ofChange fnWriteRuleSpec)

/-- ITS FALSE NEIGHBOUR: 'it returns false'. Refute it at one input. -/
def fnWriteRuleWrong : ChangeSpec := { name := "fnWriteRule", fn := fun _ => fun
  | [d] => { results := [.lit (.bool false)], args := [d] }
  | _ => none }
def FnWriteRuleWrongFalsely : Prop := fnWriteRuleRow.holds Try.pinned (OpenSpec.ofChange fnWriteRuleWrong)

/-- 'laws.FnExactTrackWrite': WHATEVER THE INPUT: true; the input reads as it did. -/
def fnExactTrackWriteSpec : ChangeSpec := { name := "fnExactTrackWrite", fn := fun _ => fun
  | [d1, d2, d3, d4] => { results := [.lit (.bool true)], args := [d1, d2, d3, d4] }
  | _ => none }
def fnExactTrackWriteRow : OpenClaim := { program := "ytajllccgfhminaa", sum := "ed7a64d69b94d6688b17f75b8c32b50d50810c705eed258201db2883439cc263", func := "loop.example/g01924/laws.FnExactTrackWrite", spec := "fnExactTrackWrite", unfollowed := true, recurses := true, apart := false }
def FnExactTrackWriteSaid : Prop := fnExactTrackWriteRow.holds Try.pinned (OpenSpec.ofChange fnExactTrackWriteSpec)

/-- ITS FALSE NEIGHBOUR: 'it returns false'. Refute it at one input. -/
def fnExactTrackWriteWrong : ChangeSpec := { name := "fnExactTrackWrite", fn := fun _ => fun
  | [d1, d2, d3, d4] => { results := [.lit (.bool false)], args := [d1, d2, d3, d4] }
  | _ => none }
def FnExactTrackWriteWrongFalsely : Prop := fnExactTrackWriteRow.holds Try.pinned (OpenSpec.ofChange fnExactTrackWriteWrong)

/-- 'laws.FnExactRefreshLow': WHATEVER THE INPUT: true; the input reads as it did. -/
def fnExactRefreshLowSpec : ChangeSpec := { name := "fnExactRefreshLow", fn := fun _ => fun
  | [d1, d2] => { results := [.lit (.bool true)], args := [d1, d2] }
  | _ => none }
def fnExactRefreshLowRow : OpenClaim := { program := "ytajllccgfhminaa", sum := "ed7a64d69b94d6688b17f75b8c32b50d50810c705eed258201db2883439cc263", func := "loop.example/g01924/laws.FnExactRefreshLow", spec := "fnExactRefreshLow", apart := false }
def FnExactRefreshLowSaid : Prop := fnExactRefreshLowRow.holds Try.pinned (OpenSpec.ofChange fnExactRefreshLowSpec)

/-- ITS FALSE NEIGHBOUR: 'it returns false'. Refute it at one input. -/
def fnExactRefreshLowWrong : ChangeSpec := { name := "fnExactRefreshLow", fn := fun _ => fun
  | [d1, d2] => { results := [.lit (.bool false)], args := [d1, d2] }
  | _ => none }
def FnExactRefreshLowWrongFalsely : Prop := fnExactRefreshLowRow.holds Try.pinned (OpenSpec.ofChange fnExactRefreshLowWrong)

/-- 'laws.FnExactOverwrittenVersions': WHATEVER THE INPUT: true; the input reads as it did. -/
def fnExactOverwrittenVersionsSpec : ChangeSpec := { name := "fnExactOverwrittenVersions", fn := fun _ => fun
  | [d1, d2] => { results := [.lit (.bool true)], args := [d1, d2] }
  | _ => none }
def fnExactOverwrittenVersionsRow : OpenClaim := { program := "ytajllccgfhminaa", sum := "ed7a64d69b94d6688b17f75b8c32b50d50810c705eed258201db2883439cc263", func := "loop.example/g01924/laws.FnExactOverwrittenVersions", spec := "fnExactOverwrittenVersions", apart := false }
def FnExactOverwrittenVersionsSaid : Prop := fnExactOverwrittenVersionsRow.holds Try.pinned (OpenSpec.ofChange fnExactOverwrittenVersionsSpec)

/-- ITS FALSE NEIGHBOUR: 'it returns false'. Refute it at one input. -/
def fnExactOverwrittenVersionsWrong : ChangeSpec := { name := "fnExactOverwrittenVersions", fn := fun _ => fun
  | [d1, d2] => { results := [.lit (.bool false)], args := [d1, d2] }
  | _ => none }
def FnExactOverwrittenVersionsWrongFalsely : Prop := fnExactOverwrittenVersionsRow.holds Try.pinned (OpenSpec.ofChange fnExactOverwrittenVersionsWrong)

/-- 'laws.FnExactWriteKeys': WHATEVER THE INPUT: true; the input reads as it did. -/
def fnExactWriteKeysSpec : ChangeSpec := { name := "fnExactWriteKeys", fn := fun _ => fun
  | [d] => { results := [.lit (.bool true)], args := [d] }
  | _ => none }
def fnExactWriteKeysRow : OpenClaim := { program := "ytajllccgfhminaa", sum := "ed7a64d69b94d6688b17f75b8c32b50d50810c705eed258201db2883439cc263", func := "loop.example/g01924/laws.FnExactWriteKeys", spec := "fnExactWriteKeys", apart := false }
def FnExactWriteKeysSaid : Prop := fnExactWriteKeysRow.holds Try.pinned (OpenSpec.ofChange fnExactWriteKeysSpec)

/-- ITS FALSE NEIGHBOUR: 'it returns false'. Refute it at one input. -/
def fnExactWriteKeysWrong : ChangeSpec := { name := "fnExactWriteKeys", fn := fun _ => fun
  | [d] => { results := [.lit (.bool false)], args := [d] }
  | _ => none }
def FnExactWriteKeysWrongFalsely : Prop := fnExactWriteKeysRow.holds Try.pinned (OpenSpec.ofChange fnExactWriteKeysWrong)

/- THE SECOND FORM. 'bulk': how many values and letters a reading holds, each counted each time it is reached (what is shared counts as often as it is met; a slice's spare places count too). A statement '..UptoSaid' is the law's where the arguments, and the package variables that the reading takes, are together of bulk at most 1048576: NARROWER than '..Said'. Prove '..Said' where nothing that the law and all that it calls make is longer than what came in: it says more and counts as full. Else prove '..UptoSaid'. A law counts once. -/
mutual
def uptoBulk {H : Type} : DataW H → Nat
  | .lit (.string bytes) => bytes.length + 1
  | .lit _ => 1
  | .nil => 1
  | .ptr d => uptoBulk d + 1
  | .slice elems spare => uptoBulkAll elems + uptoBulkAll spare + 1
  | .agg parts => uptoBulkAll parts + 1
  | .iface _ d => uptoBulk d + 1
  | .map entries => uptoBulkEntries entries + 1
  | .held _ => 1
def uptoBulkAll {H : Type} : List (DataW H) → Nat
  | [] => 0
  | d :: r => uptoBulk d + uptoBulkAll r
def uptoBulkEntries {H : Type} : List (Lit × DataW H) → Nat
  | [] => 0
  | x :: r => uptoBulkEntry x + uptoBulkEntries r
def uptoBulkEntry {H : Type} : Lit × DataW H → Nat
  | (.string bytes, d) => bytes.length + uptoBulk d + 1
  | (_, d) => uptoBulk d + 1
 end
def uptoSmall : (H : Type) → List (DataW H) → Bool := fun _ ds => decide (uptoBulkAll ds ≤ 1048576)
def OpenSpec.upto (s : _root_.Go.ChangeSpec) : _root_.Go.OpenSpec := { _root_.Go.OpenSpec.ofChange s with cond := some uptoSmall }

/-- 'laws.FnReadRule', WHERE WHAT IT READS IS OF BULK AT MOST 1048576: true; the input reads as it did. -/
def fnReadRuleUptoRow : OpenClaim := { program := "ytajllccgfhminaa", sum := "ed7a64d69b94d6688b17f75b8c32b50d50810c705eed258201db2883439cc263", func := "loop.example/g01924/laws.FnReadRule", spec := "fnReadRule", inPlace := ["slices.overlaps[loop.example/g01924/impl.ReadMark]"], unfollowed := true, recurses := true, apart := false, narrowed := true }
def FnReadRuleUptoSaid : Prop := fnReadRuleUptoRow.holds Try.pinned (OpenSpec.upto fnReadRuleSpec)

/-- 'laws.FnWriteRule', WHERE WHAT IT READS IS OF BULK AT MOST 1048576: true; the input reads as it did. -/
def fnWriteRuleUptoRow : OpenClaim := { program := "ytajllccgfhminaa", sum := "ed7a64d69b94d6688b17f75b8c32b50d50810c705eed258201db2883439cc263", func := "loop.example/g01924/laws.FnWriteRule", spec := "fnWriteRule", unfollowed := true, recurses := true, apart := false, narrowed := true }
def FnWriteRuleUptoSaid : Prop := fnWriteRuleUptoRow.holds Try.pinned (OpenSpec.upto fnWriteRuleSpec)

/-- 'laws.FnExactTrackWrite', WHERE WHAT IT READS IS OF BULK AT MOST 1048576: true; the input reads as it did. -/
def fnExactTrackWriteUptoRow : OpenClaim := { program := "ytajllccgfhminaa", sum := "ed7a64d69b94d6688b17f75b8c32b50d50810c705eed258201db2883439cc263", func := "loop.example/g01924/laws.FnExactTrackWrite", spec := "fnExactTrackWrite", unfollowed := true, recurses := true, apart := false, narrowed := true }
def FnExactTrackWriteUptoSaid : Prop := fnExactTrackWriteUptoRow.holds Try.pinned (OpenSpec.upto fnExactTrackWriteSpec)

/-- 'laws.FnExactRefreshLow', WHERE WHAT IT READS IS OF BULK AT MOST 1048576: true; the input reads as it did. -/
def fnExactRefreshLowUptoRow : OpenClaim := { program := "ytajllccgfhminaa", sum := "ed7a64d69b94d6688b17f75b8c32b50d50810c705eed258201db2883439cc263", func := "loop.example/g01924/laws.FnExactRefreshLow", spec := "fnExactRefreshLow", apart := false, narrowed := true }
def FnExactRefreshLowUptoSaid : Prop := fnExactRefreshLowUptoRow.holds Try.pinned (OpenSpec.upto fnExactRefreshLowSpec)

/-- 'laws.FnExactOverwrittenVersions', WHERE WHAT IT READS IS OF BULK AT MOST 1048576: true; the input reads as it did. -/
def fnExactOverwrittenVersionsUptoRow : OpenClaim := { program := "ytajllccgfhminaa", sum := "ed7a64d69b94d6688b17f75b8c32b50d50810c705eed258201db2883439cc263", func := "loop.example/g01924/laws.FnExactOverwrittenVersions", spec := "fnExactOverwrittenVersions", apart := false, narrowed := true }
def FnExactOverwrittenVersionsUptoSaid : Prop := fnExactOverwrittenVersionsUptoRow.holds Try.pinned (OpenSpec.upto fnExactOverwrittenVersionsSpec)

/-- 'laws.FnExactWriteKeys', WHERE WHAT IT READS IS OF BULK AT MOST 1048576: true; the input reads as it did. -/
def fnExactWriteKeysUptoRow : OpenClaim := { program := "ytajllccgfhminaa", sum := "ed7a64d69b94d6688b17f75b8c32b50d50810c705eed258201db2883439cc263", func := "loop.example/g01924/laws.FnExactWriteKeys", spec := "fnExactWriteKeys", apart := false, narrowed := true }
def FnExactWriteKeysUptoSaid : Prop := fnExactWriteKeysUptoRow.holds Try.pinned (OpenSpec.upto fnExactWriteKeysSpec)

end Rows
end Go.Proofs.Ytajllccgfhminaa
