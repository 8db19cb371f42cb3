/-
  No cell of these rows narrows 'for every input' (looked for: loops, veiled, ifaces, maps, wideKeys, modest, calm, conditions, laid).
  DERIVED. THE GIVEN ROWS OF THIS SEAT. 6 by the template 'for every input the law returns true; each argument reads behind the call as it read before'; 0 by the template 'total and deterministic' (their statements: YtjnlbhmddhpmaaaTotals.lean).
  GIVEN WITH THE SEED: the statements are not yours to turn. If you find one false, say at which input.
  Laid BY PROGRAM, IN A SANDBOX (cutbox-rows.mjs): the forced cells as the released guide's own fill.sh prints them over the translation 2489ceafb611676c… (all of the seat's roots in one cut). By AI agents, Wed Nov 11 2026. No macro, syntax, notation, axiom, sorry.
-/
import Derived.Test.YtjnlbhmddhpmaaaChecked
import GoSem.Claim
import GoSem.ClaimJoined
import GoSem.ClaimMapViews
import Derived.JoinedTies
import Derived.KernelRfl
namespace Go.Proofs.Ytjnlbhmddhpmaaa
/- THE CELL 'sum', in the pinned program and in every row, IS THE sha256 OF THE DUMP (.gsa) THAT YtjnlbhmddhpmaaaProg.lean LOADS. Nothing in Lean hashes anything: it is a label: what it is worth is what the hold of that sum in a sandbox is worth. -/
noncomputable def Try.pinned : Pinned := { name := "ytjnlbhmddhpmaaa", sum := "2489ceafb611676cb20742560da54c673810eb5636a4017ad9aeab57ef079ad8", checked := Try.checked }
namespace Rows
def none {H : Type} : Left H := { results := [], args := [] }

/-- 'laws.FnExactNewEngine': WHATEVER THE INPUT: true; the input reads as it did. -/
def fnExactNewEngineSpec : ChangeSpec := { name := "fnExactNewEngine", fn := fun _ => fun
  | [d] => { results := [.lit (.bool true)], args := [d] }
  | _ => none }
def fnExactNewEngineRow : OpenClaim := { program := "ytjnlbhmddhpmaaa", sum := "2489ceafb611676cb20742560da54c673810eb5636a4017ad9aeab57ef079ad8", func := "loop.example/g01924/laws.FnExactNewEngine", spec := "fnExactNewEngine", apart := false }
def FnExactNewEngineSaid : Prop := fnExactNewEngineRow.holds Try.pinned (OpenSpec.ofChange fnExactNewEngineSpec)

/-- ITS FALSE NEIGHBOUR: 'it returns false'. Refute it at one input. -/
def fnExactNewEngineWrong : ChangeSpec := { name := "fnExactNewEngine", fn := fun _ => fun
  | [d] => { results := [.lit (.bool false)], args := [d] }
  | _ => none }
def FnExactNewEngineWrongFalsely : Prop := fnExactNewEngineRow.holds Try.pinned (OpenSpec.ofChange fnExactNewEngineWrong)

/-- 'laws.FnExactFindTransaction': WHATEVER THE INPUT: true; the input reads as it did. -/
def fnExactFindTransactionSpec : ChangeSpec := { name := "fnExactFindTransaction", fn := fun _ => fun
  | [d1, d2] => { results := [.lit (.bool true)], args := [d1, d2] }
  | _ => none }
def fnExactFindTransactionRow : OpenClaim := { program := "ytjnlbhmddhpmaaa", sum := "2489ceafb611676cb20742560da54c673810eb5636a4017ad9aeab57ef079ad8", func := "loop.example/g01924/laws.FnExactFindTransaction", spec := "fnExactFindTransaction", unfollowed := true, recurses := true, apart := false }
def FnExactFindTransactionSaid : Prop := fnExactFindTransactionRow.holds Try.pinned (OpenSpec.ofChange fnExactFindTransactionSpec)

/-- ITS FALSE NEIGHBOUR: 'it returns false'. Refute it at one input. -/
def fnExactFindTransactionWrong : ChangeSpec := { name := "fnExactFindTransaction", fn := fun _ => fun
  | [d1, d2] => { results := [.lit (.bool false)], args := [d1, d2] }
  | _ => none }
def FnExactFindTransactionWrongFalsely : Prop := fnExactFindTransactionRow.holds Try.pinned (OpenSpec.ofChange fnExactFindTransactionWrong)

/-- 'laws.FnExactTransactionIDs': WHATEVER THE INPUT: true; the input reads as it did. -/
def fnExactTransactionIDsSpec : ChangeSpec := { name := "fnExactTransactionIDs", fn := fun _ => fun
  | [d1, d2] => { results := [.lit (.bool true)], args := [d1, d2] }
  | _ => none }
def fnExactTransactionIDsRow : OpenClaim := { program := "ytjnlbhmddhpmaaa", sum := "2489ceafb611676cb20742560da54c673810eb5636a4017ad9aeab57ef079ad8", func := "loop.example/g01924/laws.FnExactTransactionIDs", spec := "fnExactTransactionIDs", unfollowed := true, recurses := true, apart := false }
def FnExactTransactionIDsSaid : Prop := fnExactTransactionIDsRow.holds Try.pinned (OpenSpec.ofChange fnExactTransactionIDsSpec)

/-- ITS FALSE NEIGHBOUR: 'it returns false'. Refute it at one input. -/
def fnExactTransactionIDsWrong : ChangeSpec := { name := "fnExactTransactionIDs", fn := fun _ => fun
  | [d1, d2] => { results := [.lit (.bool false)], args := [d1, d2] }
  | _ => none }
def FnExactTransactionIDsWrongFalsely : Prop := fnExactTransactionIDsRow.holds Try.pinned (OpenSpec.ofChange fnExactTransactionIDsWrong)

/-- 'laws.FnExactEqualEngines': WHATEVER THE INPUT: true; the input reads as it did. -/
def fnExactEqualEnginesSpec : ChangeSpec := { name := "fnExactEqualEngines", fn := fun _ => fun
  | [d1, d2] => { results := [.lit (.bool true)], args := [d1, d2] }
  | _ => none }
def fnExactEqualEnginesRow : OpenClaim := { program := "ytjnlbhmddhpmaaa", sum := "2489ceafb611676cb20742560da54c673810eb5636a4017ad9aeab57ef079ad8", func := "loop.example/g01924/laws.FnExactEqualEngines", spec := "fnExactEqualEngines", unfollowed := true, recurses := true, apart := false }
def FnExactEqualEnginesSaid : Prop := fnExactEqualEnginesRow.holds Try.pinned (OpenSpec.ofChange fnExactEqualEnginesSpec)

/-- ITS FALSE NEIGHBOUR: 'it returns false'. Refute it at one input. -/
def fnExactEqualEnginesWrong : ChangeSpec := { name := "fnExactEqualEngines", fn := fun _ => fun
  | [d1, d2] => { results := [.lit (.bool false)], args := [d1, d2] }
  | _ => none }
def FnExactEqualEnginesWrongFalsely : Prop := fnExactEqualEnginesRow.holds Try.pinned (OpenSpec.ofChange fnExactEqualEnginesWrong)

/-- 'laws.FnExactIsValidOp': WHATEVER THE INPUT: true; the input reads as it did. -/
def fnExactIsValidOpSpec : ChangeSpec := { name := "fnExactIsValidOp", fn := fun _ => fun
  | [d] => { results := [.lit (.bool true)], args := [d] }
  | _ => none }
def fnExactIsValidOpRow : OpenClaim := { program := "ytjnlbhmddhpmaaa", sum := "2489ceafb611676cb20742560da54c673810eb5636a4017ad9aeab57ef079ad8", func := "loop.example/g01924/laws.FnExactIsValidOp", spec := "fnExactIsValidOp", apart := false }
def FnExactIsValidOpSaid : Prop := fnExactIsValidOpRow.holds Try.pinned (OpenSpec.ofChange fnExactIsValidOpSpec)

/-- ITS FALSE NEIGHBOUR: 'it returns false'. Refute it at one input. -/
def fnExactIsValidOpWrong : ChangeSpec := { name := "fnExactIsValidOp", fn := fun _ => fun
  | [d] => { results := [.lit (.bool false)], args := [d] }
  | _ => none }
def FnExactIsValidOpWrongFalsely : Prop := fnExactIsValidOpRow.holds Try.pinned (OpenSpec.ofChange fnExactIsValidOpWrong)

/-- 'laws.FnExactEqualSteps': WHATEVER THE INPUT: true; the input reads as it did. -/
def fnExactEqualStepsSpec : ChangeSpec := { name := "fnExactEqualSteps", fn := fun _ => fun
  | [d1, d2] => { results := [.lit (.bool true)], args := [d1, d2] }
  | _ => none }
def fnExactEqualStepsRow : OpenClaim := { program := "ytjnlbhmddhpmaaa", sum := "2489ceafb611676cb20742560da54c673810eb5636a4017ad9aeab57ef079ad8", func := "loop.example/g01924/laws.FnExactEqualSteps", spec := "fnExactEqualSteps", apart := false }
def FnExactEqualStepsSaid : Prop := fnExactEqualStepsRow.holds Try.pinned (OpenSpec.ofChange fnExactEqualStepsSpec)

/-- ITS FALSE NEIGHBOUR: 'it returns false'. Refute it at one input. -/
def fnExactEqualStepsWrong : ChangeSpec := { name := "fnExactEqualSteps", fn := fun _ => fun
  | [d1, d2] => { results := [.lit (.bool false)], args := [d1, d2] }
  | _ => none }
def FnExactEqualStepsWrongFalsely : Prop := fnExactEqualStepsRow.holds Try.pinned (OpenSpec.ofChange fnExactEqualStepsWrong)

/- THE SECOND FORM. 'bulk': how many values and letters a reading holds, each counted each time it is reached (what is shared counts as often as it is met; a slice's spare places count too). A statement '..UptoSaid' is the law's where the arguments, and the package variables that the reading takes, are together of bulk at most 1048576: NARROWER than '..Said'. Prove '..Said' where nothing that the law and all that it calls make is longer than what came in: it says more and counts as full. Else prove '..UptoSaid'. A law counts once. -/
mutual
def uptoBulk {H : Type} : DataW H → Nat
  | .lit (.string bytes) => bytes.length + 1
  | .lit _ => 1
  | .nil => 1
  | .ptr d => uptoBulk d + 1
  | .slice elems spare => uptoBulkAll elems + uptoBulkAll spare + 1
  | .agg parts => uptoBulkAll parts + 1
  | .iface _ d => uptoBulk d + 1
  | .map entries => uptoBulkEntries entries + 1
  | .held _ => 1
def uptoBulkAll {H : Type} : List (DataW H) → Nat
  | [] => 0
  | d :: r => uptoBulk d + uptoBulkAll r
def uptoBulkEntries {H : Type} : List (Lit × DataW H) → Nat
  | [] => 0
  | x :: r => uptoBulkEntry x + uptoBulkEntries r
def uptoBulkEntry {H : Type} : Lit × DataW H → Nat
  | (.string bytes, d) => bytes.length + uptoBulk d + 1
  | (_, d) => uptoBulk d + 1
 end
def uptoSmall : (H : Type) → List (DataW H) → Bool := fun _ ds => decide (uptoBulkAll ds ≤ 1048576)
def OpenSpec.upto (s : _root_.Go.ChangeSpec) : _root_.Go.OpenSpec := { _root_.Go.OpenSpec.ofChange s with cond := some uptoSmall }

/-- 'laws.FnExactNewEngine', WHERE WHAT IT READS IS OF BULK AT MOST 1048576: true; the input reads as it did. -/
def fnExactNewEngineUptoRow : OpenClaim := { program := "ytjnlbhmddhpmaaa", sum := "2489ceafb611676cb20742560da54c673810eb5636a4017ad9aeab57ef079ad8", func := "loop.example/g01924/laws.FnExactNewEngine", spec := "fnExactNewEngine", apart := false, narrowed := true }
def FnExactNewEngineUptoSaid : Prop := fnExactNewEngineUptoRow.holds Try.pinned (OpenSpec.upto fnExactNewEngineSpec)

/-- 'laws.FnExactFindTransaction', WHERE WHAT IT READS IS OF BULK AT MOST 1048576: true; the input reads as it did. -/
def fnExactFindTransactionUptoRow : OpenClaim := { program := "ytjnlbhmddhpmaaa", sum := "2489ceafb611676cb20742560da54c673810eb5636a4017ad9aeab57ef079ad8", func := "loop.example/g01924/laws.FnExactFindTransaction", spec := "fnExactFindTransaction", unfollowed := true, recurses := true, apart := false, narrowed := true }
def FnExactFindTransactionUptoSaid : Prop := fnExactFindTransactionUptoRow.holds Try.pinned (OpenSpec.upto fnExactFindTransactionSpec)

/-- 'laws.FnExactTransactionIDs', WHERE WHAT IT READS IS OF BULK AT MOST 1048576: true; the input reads as it did. -/
def fnExactTransactionIDsUptoRow : OpenClaim := { program := "ytjnlbhmddhpmaaa", sum := "2489ceafb611676cb20742560da54c673810eb5636a4017ad9aeab57ef079ad8", func := "loop.example/g01924/laws.FnExactTransactionIDs", spec := "fnExactTransactionIDs", unfollowed := true, recurses := true, apart := false, narrowed := true }
def FnExactTransactionIDsUptoSaid : Prop := fnExactTransactionIDsUptoRow.holds Try.pinned (OpenSpec.upto fnExactTransactionIDsSpec)

/-- 'laws.FnExactEqualEngines', WHERE WHAT IT READS IS OF BULK AT MOST 1048576: true; the input reads as it did. -/
def fnExactEqualEnginesUptoRow : OpenClaim := { program := "ytjnlbhmddhpmaaa", sum := "2489ceafb611676cb20742560da54c673810eb5636a4017ad9aeab57ef079ad8", func := "loop.example/g01924/laws.FnExactEqualEngines", spec := "fnExactEqualEngines", unfollowed := true, recurses := true, apart := false, narrowed := true }
def FnExactEqualEnginesUptoSaid : Prop := fnExactEqualEnginesUptoRow.holds Try.pinned (OpenSpec.upto fnExactEqualEnginesSpec)

/-- 'laws.FnExactIsValidOp', WHERE WHAT IT READS IS OF BULK AT MOST 1048576: true; the input reads as it did. -/
def fnExactIsValidOpUptoRow : OpenClaim := { program := "ytjnlbhmddhpmaaa", sum := "2489ceafb611676cb20742560da54c673810eb5636a4017ad9aeab57ef079ad8", func := "loop.example/g01924/laws.FnExactIsValidOp", spec := "fnExactIsValidOp", apart := false, narrowed := true }
def FnExactIsValidOpUptoSaid : Prop := fnExactIsValidOpUptoRow.holds Try.pinned (OpenSpec.upto fnExactIsValidOpSpec)

/-- 'laws.FnExactEqualSteps', WHERE WHAT IT READS IS OF BULK AT MOST 1048576: true; the input reads as it did. -/
def fnExactEqualStepsUptoRow : OpenClaim := { program := "ytjnlbhmddhpmaaa", sum := "2489ceafb611676cb20742560da54c673810eb5636a4017ad9aeab57ef079ad8", func := "loop.example/g01924/laws.FnExactEqualSteps", spec := "fnExactEqualSteps", apart := false, narrowed := true }
def FnExactEqualStepsUptoSaid : Prop := fnExactEqualStepsUptoRow.holds Try.pinned (OpenSpec.upto fnExactEqualStepsSpec)

end Rows
end Go.Proofs.Ytjnlbhmddhpmaaa
