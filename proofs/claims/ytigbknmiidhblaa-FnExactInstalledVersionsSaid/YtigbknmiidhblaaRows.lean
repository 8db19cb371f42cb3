/-
  No cell of these rows narrows 'for every input' (looked for: loops, veiled, ifaces, maps, wideKeys, modest, calm, conditions, laid).
  DERIVED. THE GIVEN ROWS OF THIS SEAT. 3 by the template 'for every input the law returns true; each argument reads behind the call as it read before'; 0 by the template 'total and deterministic' (their statements: YtigbknmiidhblaaTotals.lean).
  GIVEN WITH THE SEED: the statements are not yours to turn. If you find one false, say at which input.
  Laid BY PROGRAM, IN A SANDBOX (cutbox-rows.mjs): the forced cells as the released guide's own fill.sh prints them over the translation 7140bac6d0aa905f… (all of the seat's roots in one cut). By AI agents, Wed Nov 11 2026. No macro, syntax, notation, axiom, sorry.
-/
import Derived.Test.YtigbknmiidhblaaChecked
import GoSem.Claim
import GoSem.ClaimJoined
import GoSem.ClaimMapViews
import Derived.JoinedTies
import Derived.KernelRfl
namespace Go.Proofs.Ytigbknmiidhblaa
/- THE CELL 'sum', in the pinned program and in every row, IS THE sha256 OF THE DUMP (.gsa) THAT YtigbknmiidhblaaProg.lean LOADS. Nothing in Lean hashes anything: it is a label: what it is worth is what the hold of that sum in a sandbox is worth. -/
noncomputable def Try.pinned : Pinned := { name := "ytigbknmiidhblaa", sum := "7140bac6d0aa905f6808a3e9c19fb588a44eea3fd7968bfdffad452f5ebf6db8", checked := Try.checked }
namespace Rows
def none {H : Type} : Left H := { results := [], args := [] }

/-- 'laws.FnExactAbortTransaction': WHATEVER THE INPUT: true; the input reads as it did. -/
def fnExactAbortTransactionSpec : ChangeSpec := { name := "fnExactAbortTransaction", fn := fun _ => fun
  | [d] => { results := [.lit (.bool true)], args := [d] }
  | _ => none }
def fnExactAbortTransactionRow : OpenClaim := { program := "ytigbknmiidhblaa", sum := "7140bac6d0aa905f6808a3e9c19fb588a44eea3fd7968bfdffad452f5ebf6db8", func := "loop.example/g01924/laws.FnExactAbortTransaction", spec := "fnExactAbortTransaction", apart := false }
def FnExactAbortTransactionSaid : Prop := fnExactAbortTransactionRow.holds Try.pinned (OpenSpec.ofChange fnExactAbortTransactionSpec)

/-- ITS FALSE NEIGHBOUR: 'it returns false'. Refute it at one input. -/
def fnExactAbortTransactionWrong : ChangeSpec := { name := "fnExactAbortTransaction", fn := fun _ => fun
  | [d] => { results := [.lit (.bool false)], args := [d] }
  | _ => none }
def FnExactAbortTransactionWrongFalsely : Prop := fnExactAbortTransactionRow.holds Try.pinned (OpenSpec.ofChange fnExactAbortTransactionWrong)

/-- 'laws.FnExactCommittedStamp': WHATEVER THE INPUT: true; the input reads as it did. -/
def fnExactCommittedStampSpec : ChangeSpec := { name := "fnExactCommittedStamp", fn := fun _ => fun
  | [d] => { results := [.lit (.bool true)], args := [d] }
  | _ => none }
def fnExactCommittedStampRow : OpenClaim := { program := "ytigbknmiidhblaa", sum := "7140bac6d0aa905f6808a3e9c19fb588a44eea3fd7968bfdffad452f5ebf6db8", func := "loop.example/g01924/laws.FnExactCommittedStamp", spec := "fnExactCommittedStamp", apart := false }
def FnExactCommittedStampSaid : Prop := fnExactCommittedStampRow.holds Try.pinned (OpenSpec.ofChange fnExactCommittedStampSpec)

/-- ITS FALSE NEIGHBOUR: 'it returns false'. Refute it at one input. -/
def fnExactCommittedStampWrong : ChangeSpec := { name := "fnExactCommittedStamp", fn := fun _ => fun
  | [d] => { results := [.lit (.bool false)], args := [d] }
  | _ => none }
def FnExactCommittedStampWrongFalsely : Prop := fnExactCommittedStampRow.holds Try.pinned (OpenSpec.ofChange fnExactCommittedStampWrong)

/-- 'laws.FnExactInstalledVersions': WHATEVER THE INPUT: true; the input reads as it did. -/
def fnExactInstalledVersionsSpec : ChangeSpec := { name := "fnExactInstalledVersions", fn := fun _ => fun
  | [d1, d2] => { results := [.lit (.bool true)], args := [d1, d2] }
  | _ => none }
def fnExactInstalledVersionsRow : OpenClaim := { program := "ytigbknmiidhblaa", sum := "7140bac6d0aa905f6808a3e9c19fb588a44eea3fd7968bfdffad452f5ebf6db8", func := "loop.example/g01924/laws.FnExactInstalledVersions", spec := "fnExactInstalledVersions", apart := false }
def FnExactInstalledVersionsSaid : Prop := fnExactInstalledVersionsRow.holds Try.pinned (OpenSpec.ofChange fnExactInstalledVersionsSpec)

/-- ITS FALSE NEIGHBOUR: 'it returns false'. Refute it at one input. -/
def fnExactInstalledVersionsWrong : ChangeSpec := { name := "fnExactInstalledVersions", fn := fun _ => fun
  | [d1, d2] => { results := [.lit (.bool false)], args := [d1, d2] }
  | _ => none }
def FnExactInstalledVersionsWrongFalsely : Prop := fnExactInstalledVersionsRow.holds Try.pinned (OpenSpec.ofChange fnExactInstalledVersionsWrong)

/- THE SECOND FORM. 'bulk': how many values and letters a reading holds, each counted each time it is reached (what is shared counts as often as it is met; a slice's spare places count too). A statement '..UptoSaid' is the law's where the arguments, and the package variables that the reading takes, are together of bulk at most 1048576: NARROWER than '..Said'. Prove '..Said' where nothing that the law and all that it calls make is longer than what came in: it says more and counts as full. Else prove '..UptoSaid'. A law counts once. -/
mutual
def uptoBulk {H : Type} : DataW H → Nat
  | .lit (.string bytes) => bytes.length + 1
  | .lit _ => 1
  | .nil => 1
  | .ptr d => uptoBulk d + 1
  | .slice elems spare => uptoBulkAll elems + uptoBulkAll spare + 1
  | .agg parts => uptoBulkAll parts + 1
  | .iface _ d => uptoBulk d + 1
  | .map entries => uptoBulkEntries entries + 1
  | .held _ => 1
def uptoBulkAll {H : Type} : List (DataW H) → Nat
  | [] => 0
  | d :: r => uptoBulk d + uptoBulkAll r
def uptoBulkEntries {H : Type} : List (Lit × DataW H) → Nat
  | [] => 0
  | x :: r => uptoBulkEntry x + uptoBulkEntries r
def uptoBulkEntry {H : Type} : Lit × DataW H → Nat
  | (.string bytes, d) => bytes.length + uptoBulk d + 1
  | (_, d) => uptoBulk d + 1
 end
def uptoSmall : (H : Type) → List (DataW H) → Bool := fun _ ds => decide (uptoBulkAll ds ≤ 1048576)
def OpenSpec.upto (s : _root_.Go.ChangeSpec) : _root_.Go.OpenSpec := { _root_.Go.OpenSpec.ofChange s with cond := some uptoSmall }

/-- 'laws.FnExactAbortTransaction', WHERE WHAT IT READS IS OF BULK AT MOST 1048576: true; the input reads as it did. -/
def fnExactAbortTransactionUptoRow : OpenClaim := { program := "ytigbknmiidhblaa", sum := "7140bac6d0aa905f6808a3e9c19fb588a44eea3fd7968bfdffad452f5ebf6db8", func := "loop.example/g01924/laws.FnExactAbortTransaction", spec := "fnExactAbortTransaction", apart := false, narrowed := true }
def FnExactAbortTransactionUptoSaid : Prop := fnExactAbortTransactionUptoRow.holds Try.pinned (OpenSpec.upto fnExactAbortTransactionSpec)

/-- 'laws.FnExactCommittedStamp', WHERE WHAT IT READS IS OF BULK AT MOST 1048576: true; the input reads as it did. -/
def fnExactCommittedStampUptoRow : OpenClaim := { program := "ytigbknmiidhblaa", sum := "7140bac6d0aa905f6808a3e9c19fb588a44eea3fd7968bfdffad452f5ebf6db8", func := "loop.example/g01924/laws.FnExactCommittedStamp", spec := "fnExactCommittedStamp", apart := false, narrowed := true }
def FnExactCommittedStampUptoSaid : Prop := fnExactCommittedStampUptoRow.holds Try.pinned (OpenSpec.upto fnExactCommittedStampSpec)

/-- 'laws.FnExactInstalledVersions', WHERE WHAT IT READS IS OF BULK AT MOST 1048576: true; the input reads as it did. -/
def fnExactInstalledVersionsUptoRow : OpenClaim := { program := "ytigbknmiidhblaa", sum := "7140bac6d0aa905f6808a3e9c19fb588a44eea3fd7968bfdffad452f5ebf6db8", func := "loop.example/g01924/laws.FnExactInstalledVersions", spec := "fnExactInstalledVersions", apart := false, narrowed := true }
def FnExactInstalledVersionsUptoSaid : Prop := fnExactInstalledVersionsUptoRow.holds Try.pinned (OpenSpec.upto fnExactInstalledVersionsSpec)

end Rows
end Go.Proofs.Ytigbknmiidhblaa
