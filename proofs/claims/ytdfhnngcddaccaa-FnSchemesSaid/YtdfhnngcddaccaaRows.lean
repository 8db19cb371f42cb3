/-
  No cell of these rows narrows 'for every input' (looked for: loops, veiled, ifaces, maps, wideKeys, modest, calm, conditions, laid).
  DERIVED. THE GIVEN ROWS OF THIS SEAT. 6 by the template 'for every input the law returns true; each argument reads behind the call as it read before'; 0 by the template 'total and deterministic' (their statements: YtdfhnngcddaccaaTotals.lean).
  GIVEN WITH THE SEED: the statements are not yours to turn. If you find one false, say at which input.
  Laid BY PROGRAM, IN A SANDBOX (cutbox-rows.mjs): the forced cells as the released guide's own fill.sh prints them over the translation 9ef0285d59a14843… (all of the seat's roots in one cut). By AI agents, Wed Nov 11 2026. No macro, syntax, notation, axiom, sorry.
-/
import Derived.Test.YtdfhnngcddaccaaChecked
import GoSem.Claim
import GoSem.ClaimJoined
import GoSem.ClaimMapViews
import Derived.JoinedTies
import Derived.KernelRfl
namespace Go.Proofs.Ytdfhnngcddaccaa
/- THE CELL 'sum', in the pinned program and in every row, IS THE sha256 OF THE DUMP (.gsa) THAT YtdfhnngcddaccaaProg.lean LOADS. Nothing in Lean hashes anything: it is a label: what it is worth is what the hold of that sum in a sandbox is worth. -/
noncomputable def Try.pinned : Pinned := { name := "ytdfhnngcddaccaa", sum := "9ef0285d59a14843bc04aac9ccb6ab3de2a0ae92821b31a65f20d51390609fa9", checked := Try.checked }
namespace Rows
def none {H : Type} : Left H := { results := [], args := [] }

/-- 'laws.FnSchemes': WHATEVER THE INPUT: true; the input reads as it did. -/
def fnSchemesSpec : ChangeSpec := { name := "fnSchemes", fn := fun _ => fun
  | [d] => { results := [.lit (.bool true)], args := [d] }
  | _ => none }
def fnSchemesRow : OpenClaim := { program := "ytdfhnngcddaccaa", sum := "9ef0285d59a14843bc04aac9ccb6ab3de2a0ae92821b31a65f20d51390609fa9", func := "loop.example/g01924/laws.FnSchemes", spec := "fnSchemes", unfollowed := true, recurses := true, apart := false }
def FnSchemesSaid : Prop := fnSchemesRow.holds Try.pinned (OpenSpec.ofChange fnSchemesSpec)

/-- ITS FALSE NEIGHBOUR: 'it returns false'. Refute it at one input. -/
def fnSchemesWrong : ChangeSpec := { name := "fnSchemes", fn := fun _ => fun
  | [d] => { results := [.lit (.bool false)], args := [d] }
  | _ => none }
def FnSchemesWrongFalsely : Prop := fnSchemesRow.holds Try.pinned (OpenSpec.ofChange fnSchemesWrong)

/-- 'laws.FnExactTakesLocks': WHATEVER THE INPUT: true; the input reads as it did. -/
def fnExactTakesLocksSpec : ChangeSpec := { name := "fnExactTakesLocks", fn := fun _ => fun
  | [d] => { results := [.lit (.bool true)], args := [d] }
  | _ => none }
def fnExactTakesLocksRow : OpenClaim := { program := "ytdfhnngcddaccaa", sum := "9ef0285d59a14843bc04aac9ccb6ab3de2a0ae92821b31a65f20d51390609fa9", func := "loop.example/g01924/laws.FnExactTakesLocks", spec := "fnExactTakesLocks", unfollowed := true, recurses := true, apart := false }
def FnExactTakesLocksSaid : Prop := fnExactTakesLocksRow.holds Try.pinned (OpenSpec.ofChange fnExactTakesLocksSpec)

/-- ITS FALSE NEIGHBOUR: 'it returns false'. Refute it at one input. -/
def fnExactTakesLocksWrong : ChangeSpec := { name := "fnExactTakesLocks", fn := fun _ => fun
  | [d] => { results := [.lit (.bool false)], args := [d] }
  | _ => none }
def FnExactTakesLocksWrongFalsely : Prop := fnExactTakesLocksRow.holds Try.pinned (OpenSpec.ofChange fnExactTakesLocksWrong)

/-- 'laws.FnExactChooseVersion': WHATEVER THE INPUT: true; the input reads as it did. -/
def fnExactChooseVersionSpec : ChangeSpec := { name := "fnExactChooseVersion", fn := fun _ => fun
  | [d1, d2, d3] => { results := [.lit (.bool true)], args := [d1, d2, d3] }
  | _ => none }
def fnExactChooseVersionRow : OpenClaim := { program := "ytdfhnngcddaccaa", sum := "9ef0285d59a14843bc04aac9ccb6ab3de2a0ae92821b31a65f20d51390609fa9", func := "loop.example/g01924/laws.FnExactChooseVersion", spec := "fnExactChooseVersion", unfollowed := true, recurses := true, apart := false }
def FnExactChooseVersionSaid : Prop := fnExactChooseVersionRow.holds Try.pinned (OpenSpec.ofChange fnExactChooseVersionSpec)

/-- ITS FALSE NEIGHBOUR: 'it returns false'. Refute it at one input. -/
def fnExactChooseVersionWrong : ChangeSpec := { name := "fnExactChooseVersion", fn := fun _ => fun
  | [d1, d2, d3] => { results := [.lit (.bool false)], args := [d1, d2, d3] }
  | _ => none }
def FnExactChooseVersionWrongFalsely : Prop := fnExactChooseVersionRow.holds Try.pinned (OpenSpec.ofChange fnExactChooseVersionWrong)

/-- 'laws.FnExactWriteCode': WHATEVER THE INPUT: true; the input reads as it did. -/
def fnExactWriteCodeSpec : ChangeSpec := { name := "fnExactWriteCode", fn := fun _ => fun
  | [d1, d2, d3, d4] => { results := [.lit (.bool true)], args := [d1, d2, d3, d4] }
  | _ => none }
def fnExactWriteCodeRow : OpenClaim := { program := "ytdfhnngcddaccaa", sum := "9ef0285d59a14843bc04aac9ccb6ab3de2a0ae92821b31a65f20d51390609fa9", func := "loop.example/g01924/laws.FnExactWriteCode", spec := "fnExactWriteCode", unfollowed := true, recurses := true, apart := false }
def FnExactWriteCodeSaid : Prop := fnExactWriteCodeRow.holds Try.pinned (OpenSpec.ofChange fnExactWriteCodeSpec)

/-- ITS FALSE NEIGHBOUR: 'it returns false'. Refute it at one input. -/
def fnExactWriteCodeWrong : ChangeSpec := { name := "fnExactWriteCode", fn := fun _ => fun
  | [d1, d2, d3, d4] => { results := [.lit (.bool false)], args := [d1, d2, d3, d4] }
  | _ => none }
def FnExactWriteCodeWrongFalsely : Prop := fnExactWriteCodeRow.holds Try.pinned (OpenSpec.ofChange fnExactWriteCodeWrong)

/-- 'laws.FnExactCommitCode': WHATEVER THE INPUT: true; the input reads as it did. -/
def fnExactCommitCodeSpec : ChangeSpec := { name := "fnExactCommitCode", fn := fun _ => fun
  | [d1, d2] => { results := [.lit (.bool true)], args := [d1, d2] }
  | _ => none }
def fnExactCommitCodeRow : OpenClaim := { program := "ytdfhnngcddaccaa", sum := "9ef0285d59a14843bc04aac9ccb6ab3de2a0ae92821b31a65f20d51390609fa9", func := "loop.example/g01924/laws.FnExactCommitCode", spec := "fnExactCommitCode", unfollowed := true, recurses := true, apart := false }
def FnExactCommitCodeSaid : Prop := fnExactCommitCodeRow.holds Try.pinned (OpenSpec.ofChange fnExactCommitCodeSpec)

/-- ITS FALSE NEIGHBOUR: 'it returns false'. Refute it at one input. -/
def fnExactCommitCodeWrong : ChangeSpec := { name := "fnExactCommitCode", fn := fun _ => fun
  | [d1, d2] => { results := [.lit (.bool false)], args := [d1, d2] }
  | _ => none }
def FnExactCommitCodeWrongFalsely : Prop := fnExactCommitCodeRow.holds Try.pinned (OpenSpec.ofChange fnExactCommitCodeWrong)

/-- 'laws.FnExactCodeName': WHATEVER THE INPUT: true; the input reads as it did. -/
def fnExactCodeNameSpec : ChangeSpec := { name := "fnExactCodeName", fn := fun _ => fun
  | [d] => { results := [.lit (.bool true)], args := [d] }
  | _ => none }
def fnExactCodeNameRow : OpenClaim := { program := "ytdfhnngcddaccaa", sum := "9ef0285d59a14843bc04aac9ccb6ab3de2a0ae92821b31a65f20d51390609fa9", func := "loop.example/g01924/laws.FnExactCodeName", spec := "fnExactCodeName", apart := false }
def FnExactCodeNameSaid : Prop := fnExactCodeNameRow.holds Try.pinned (OpenSpec.ofChange fnExactCodeNameSpec)

/-- ITS FALSE NEIGHBOUR: 'it returns false'. Refute it at one input. -/
def fnExactCodeNameWrong : ChangeSpec := { name := "fnExactCodeName", fn := fun _ => fun
  | [d] => { results := [.lit (.bool false)], args := [d] }
  | _ => none }
def FnExactCodeNameWrongFalsely : Prop := fnExactCodeNameRow.holds Try.pinned (OpenSpec.ofChange fnExactCodeNameWrong)

/- THE SECOND FORM. 'bulk': how many values and letters a reading holds, each counted each time it is reached (what is shared counts as often as it is met; a slice's spare places count too). A statement '..UptoSaid' is the law's where the arguments, and the package variables that the reading takes, are together of bulk at most 1048576: NARROWER than '..Said'. Prove '..Said' where nothing that the law and all that it calls make is longer than what came in: it says more and counts as full. Else prove '..UptoSaid'. A law counts once. -/
mutual
def uptoBulk {H : Type} : DataW H → Nat
  | .lit (.string bytes) => bytes.length + 1
  | .lit _ => 1
  | .nil => 1
  | .ptr d => uptoBulk d + 1
  | .slice elems spare => uptoBulkAll elems + uptoBulkAll spare + 1
  | .agg parts => uptoBulkAll parts + 1
  | .iface _ d => uptoBulk d + 1
  | .map entries => uptoBulkEntries entries + 1
  | .held _ => 1
def uptoBulkAll {H : Type} : List (DataW H) → Nat
  | [] => 0
  | d :: r => uptoBulk d + uptoBulkAll r
def uptoBulkEntries {H : Type} : List (Lit × DataW H) → Nat
  | [] => 0
  | x :: r => uptoBulkEntry x + uptoBulkEntries r
def uptoBulkEntry {H : Type} : Lit × DataW H → Nat
  | (.string bytes, d) => bytes.length + uptoBulk d + 1
  | (_, d) => uptoBulk d + 1
 end
def uptoSmall : (H : Type) → List (DataW H) → Bool := fun _ ds => decide (uptoBulkAll ds ≤ 1048576)
def OpenSpec.upto (s : _root_.Go.ChangeSpec) : _root_.Go.OpenSpec := { _root_.Go.OpenSpec.ofChange s with cond := some uptoSmall }

/-- 'laws.FnSchemes', WHERE WHAT IT READS IS OF BULK AT MOST 1048576: true; the input reads as it did. -/
def fnSchemesUptoRow : OpenClaim := { program := "ytdfhnngcddaccaa", sum := "9ef0285d59a14843bc04aac9ccb6ab3de2a0ae92821b31a65f20d51390609fa9", func := "loop.example/g01924/laws.FnSchemes", spec := "fnSchemes", unfollowed := true, recurses := true, apart := false, narrowed := true }
def FnSchemesUptoSaid : Prop := fnSchemesUptoRow.holds Try.pinned (OpenSpec.upto fnSchemesSpec)

/-- 'laws.FnExactTakesLocks', WHERE WHAT IT READS IS OF BULK AT MOST 1048576: true; the input reads as it did. -/
def fnExactTakesLocksUptoRow : OpenClaim := { program := "ytdfhnngcddaccaa", sum := "9ef0285d59a14843bc04aac9ccb6ab3de2a0ae92821b31a65f20d51390609fa9", func := "loop.example/g01924/laws.FnExactTakesLocks", spec := "fnExactTakesLocks", unfollowed := true, recurses := true, apart := false, narrowed := true }
def FnExactTakesLocksUptoSaid : Prop := fnExactTakesLocksUptoRow.holds Try.pinned (OpenSpec.upto fnExactTakesLocksSpec)

/-- 'laws.FnExactChooseVersion', WHERE WHAT IT READS IS OF BULK AT MOST 1048576: true; the input reads as it did. -/
def fnExactChooseVersionUptoRow : OpenClaim := { program := "ytdfhnngcddaccaa", sum := "9ef0285d59a14843bc04aac9ccb6ab3de2a0ae92821b31a65f20d51390609fa9", func := "loop.example/g01924/laws.FnExactChooseVersion", spec := "fnExactChooseVersion", unfollowed := true, recurses := true, apart := false, narrowed := true }
def FnExactChooseVersionUptoSaid : Prop := fnExactChooseVersionUptoRow.holds Try.pinned (OpenSpec.upto fnExactChooseVersionSpec)

/-- 'laws.FnExactWriteCode', WHERE WHAT IT READS IS OF BULK AT MOST 1048576: true; the input reads as it did. -/
def fnExactWriteCodeUptoRow : OpenClaim := { program := "ytdfhnngcddaccaa", sum := "9ef0285d59a14843bc04aac9ccb6ab3de2a0ae92821b31a65f20d51390609fa9", func := "loop.example/g01924/laws.FnExactWriteCode", spec := "fnExactWriteCode", unfollowed := true, recurses := true, apart := false, narrowed := true }
def FnExactWriteCodeUptoSaid : Prop := fnExactWriteCodeUptoRow.holds Try.pinned (OpenSpec.upto fnExactWriteCodeSpec)

/-- 'laws.FnExactCommitCode', WHERE WHAT IT READS IS OF BULK AT MOST 1048576: true; the input reads as it did. -/
def fnExactCommitCodeUptoRow : OpenClaim := { program := "ytdfhnngcddaccaa", sum := "9ef0285d59a14843bc04aac9ccb6ab3de2a0ae92821b31a65f20d51390609fa9", func := "loop.example/g01924/laws.FnExactCommitCode", spec := "fnExactCommitCode", unfollowed := true, recurses := true, apart := false, narrowed := true }
def FnExactCommitCodeUptoSaid : Prop := fnExactCommitCodeUptoRow.holds Try.pinned (OpenSpec.upto fnExactCommitCodeSpec)

/-- 'laws.FnExactCodeName', WHERE WHAT IT READS IS OF BULK AT MOST 1048576: true; the input reads as it did. -/
def fnExactCodeNameUptoRow : OpenClaim := { program := "ytdfhnngcddaccaa", sum := "9ef0285d59a14843bc04aac9ccb6ab3de2a0ae92821b31a65f20d51390609fa9", func := "loop.example/g01924/laws.FnExactCodeName", spec := "fnExactCodeName", apart := false, narrowed := true }
def FnExactCodeNameUptoSaid : Prop := fnExactCodeNameUptoRow.holds Try.pinned (OpenSpec.upto fnExactCodeNameSpec)

end Rows
end Go.Proofs.Ytdfhnngcddaccaa
