/-
  No cell of these rows narrows 'for every input' (looked for: loops, veiled, ifaces, maps, wideKeys, modest, calm, conditions, laid).
  DERIVED. THE GIVEN ROWS OF THIS SEAT. 8 by the template 'for every input the law returns true; each argument reads behind the call as it read before'; 0 by the template 'total and deterministic' (their statements: YtmohpkkfbgjboabTotals.lean).
  GIVEN WITH THE SEED: the statements are not yours to turn. If you find one false, say at which input.
  Laid BY PROGRAM, IN A SANDBOX (cutbox-rows.mjs): the forced cells as the released guide's own fill.sh prints them over the translation d3ef5e1a429cffc7… (all of the seat's roots in one cut). By AI agents, Wed Nov 11 2026. No macro, syntax, notation, axiom, sorry.
-/
import Derived.Test.YtmohpkkfbgjboabChecked
import GoSem.Claim
import GoSem.ClaimJoined
import GoSem.ClaimMapViews
import Derived.JoinedTies
import Derived.KernelRfl
namespace Go.Proofs.Ytmohpkkfbgjboab
/- THE CELL 'sum', in the pinned program and in every row, IS THE sha256 OF THE DUMP (.gsa) THAT YtmohpkkfbgjboabProg.lean LOADS. Nothing in Lean hashes anything: it is a label: what it is worth is what the hold of that sum in a sandbox is worth. -/
noncomputable def Try.pinned : Pinned := { name := "ytmohpkkfbgjboab", sum := "d3ef5e1a429cffc7f66bf438a6071bf694700361fd809ad5f6abcaed7537f220", checked := Try.checked }
namespace Rows
def none {H : Type} : Left H := { results := [], args := [] }

/-- 'laws.FnExactIsValidTransaction': WHATEVER THE INPUT: true; the input reads as it did. -/
def fnExactIsValidTransactionSpec : ChangeSpec := { name := "fnExactIsValidTransaction", fn := fun _ => fun
  | [d] => { results := [.lit (.bool true)], args := [d] }
  | _ => none }
def fnExactIsValidTransactionRow : OpenClaim := { program := "ytmohpkkfbgjboab", sum := "d3ef5e1a429cffc7f66bf438a6071bf694700361fd809ad5f6abcaed7537f220", func := "loop.example/g01924/laws.FnExactIsValidTransaction", spec := "fnExactIsValidTransaction", apart := false }
def FnExactIsValidTransactionSaid : Prop := fnExactIsValidTransactionRow.holds Try.pinned (OpenSpec.ofChange fnExactIsValidTransactionSpec)

/-- ITS FALSE NEIGHBOUR: 'it returns false'. Refute it at one input. -/
def fnExactIsValidTransactionWrong : ChangeSpec := { name := "fnExactIsValidTransaction", fn := fun _ => fun
  | [d] => { results := [.lit (.bool false)], args := [d] }
  | _ => none }
def FnExactIsValidTransactionWrongFalsely : Prop := fnExactIsValidTransactionRow.holds Try.pinned (OpenSpec.ofChange fnExactIsValidTransactionWrong)

/-- 'laws.FnExactNewTransaction': WHATEVER THE INPUT: true; the input reads as it did. -/
def fnExactNewTransactionSpec : ChangeSpec := { name := "fnExactNewTransaction", fn := fun _ => fun
  | [d1, d2, d3] => { results := [.lit (.bool true)], args := [d1, d2, d3] }
  | _ => none }
def fnExactNewTransactionRow : OpenClaim := { program := "ytmohpkkfbgjboab", sum := "d3ef5e1a429cffc7f66bf438a6071bf694700361fd809ad5f6abcaed7537f220", func := "loop.example/g01924/laws.FnExactNewTransaction", spec := "fnExactNewTransaction", apart := false }
def FnExactNewTransactionSaid : Prop := fnExactNewTransactionRow.holds Try.pinned (OpenSpec.ofChange fnExactNewTransactionSpec)

/-- ITS FALSE NEIGHBOUR: 'it returns false'. Refute it at one input. -/
def fnExactNewTransactionWrong : ChangeSpec := { name := "fnExactNewTransaction", fn := fun _ => fun
  | [d1, d2, d3] => { results := [.lit (.bool false)], args := [d1, d2, d3] }
  | _ => none }
def FnExactNewTransactionWrongFalsely : Prop := fnExactNewTransactionRow.holds Try.pinned (OpenSpec.ofChange fnExactNewTransactionWrong)

/-- 'laws.FnExactFindWrite': WHATEVER THE INPUT: true; the input reads as it did. -/
def fnExactFindWriteSpec : ChangeSpec := { name := "fnExactFindWrite", fn := fun _ => fun
  | [d1, d2] => { results := [.lit (.bool true)], args := [d1, d2] }
  | _ => none }
def fnExactFindWriteRow : OpenClaim := { program := "ytmohpkkfbgjboab", sum := "d3ef5e1a429cffc7f66bf438a6071bf694700361fd809ad5f6abcaed7537f220", func := "loop.example/g01924/laws.FnExactFindWrite", spec := "fnExactFindWrite", apart := false }
def FnExactFindWriteSaid : Prop := fnExactFindWriteRow.holds Try.pinned (OpenSpec.ofChange fnExactFindWriteSpec)

/-- ITS FALSE NEIGHBOUR: 'it returns false'. Refute it at one input. -/
def fnExactFindWriteWrong : ChangeSpec := { name := "fnExactFindWrite", fn := fun _ => fun
  | [d1, d2] => { results := [.lit (.bool false)], args := [d1, d2] }
  | _ => none }
def FnExactFindWriteWrongFalsely : Prop := fnExactFindWriteRow.holds Try.pinned (OpenSpec.ofChange fnExactFindWriteWrong)

/-- 'laws.FnExactHasRead': WHATEVER THE INPUT: true; the input reads as it did. -/
def fnExactHasReadSpec : ChangeSpec := { name := "fnExactHasRead", fn := fun _ => fun
  | [d1, d2] => { results := [.lit (.bool true)], args := [d1, d2] }
  | _ => none }
def fnExactHasReadRow : OpenClaim := { program := "ytmohpkkfbgjboab", sum := "d3ef5e1a429cffc7f66bf438a6071bf694700361fd809ad5f6abcaed7537f220", func := "loop.example/g01924/laws.FnExactHasRead", spec := "fnExactHasRead", apart := false }
def FnExactHasReadSaid : Prop := fnExactHasReadRow.holds Try.pinned (OpenSpec.ofChange fnExactHasReadSpec)

/-- ITS FALSE NEIGHBOUR: 'it returns false'. Refute it at one input. -/
def fnExactHasReadWrong : ChangeSpec := { name := "fnExactHasRead", fn := fun _ => fun
  | [d1, d2] => { results := [.lit (.bool false)], args := [d1, d2] }
  | _ => none }
def FnExactHasReadWrongFalsely : Prop := fnExactHasReadRow.holds Try.pinned (OpenSpec.ofChange fnExactHasReadWrong)

/-- 'laws.FnExactIsReadOnly': WHATEVER THE INPUT: true; the input reads as it did. -/
def fnExactIsReadOnlySpec : ChangeSpec := { name := "fnExactIsReadOnly", fn := fun _ => fun
  | [d] => { results := [.lit (.bool true)], args := [d] }
  | _ => none }
def fnExactIsReadOnlyRow : OpenClaim := { program := "ytmohpkkfbgjboab", sum := "d3ef5e1a429cffc7f66bf438a6071bf694700361fd809ad5f6abcaed7537f220", func := "loop.example/g01924/laws.FnExactIsReadOnly", spec := "fnExactIsReadOnly", apart := false }
def FnExactIsReadOnlySaid : Prop := fnExactIsReadOnlyRow.holds Try.pinned (OpenSpec.ofChange fnExactIsReadOnlySpec)

/-- ITS FALSE NEIGHBOUR: 'it returns false'. Refute it at one input. -/
def fnExactIsReadOnlyWrong : ChangeSpec := { name := "fnExactIsReadOnly", fn := fun _ => fun
  | [d] => { results := [.lit (.bool false)], args := [d] }
  | _ => none }
def FnExactIsReadOnlyWrongFalsely : Prop := fnExactIsReadOnlyRow.holds Try.pinned (OpenSpec.ofChange fnExactIsReadOnlyWrong)

/-- 'laws.FnExactSchemeName': WHATEVER THE INPUT: true; the input reads as it did. -/
def fnExactSchemeNameSpec : ChangeSpec := { name := "fnExactSchemeName", fn := fun _ => fun
  | [d] => { results := [.lit (.bool true)], args := [d] }
  | _ => none }
def fnExactSchemeNameRow : OpenClaim := { program := "ytmohpkkfbgjboab", sum := "d3ef5e1a429cffc7f66bf438a6071bf694700361fd809ad5f6abcaed7537f220", func := "loop.example/g01924/laws.FnExactSchemeName", spec := "fnExactSchemeName", apart := false }
def FnExactSchemeNameSaid : Prop := fnExactSchemeNameRow.holds Try.pinned (OpenSpec.ofChange fnExactSchemeNameSpec)

/-- ITS FALSE NEIGHBOUR: 'it returns false'. Refute it at one input. -/
def fnExactSchemeNameWrong : ChangeSpec := { name := "fnExactSchemeName", fn := fun _ => fun
  | [d] => { results := [.lit (.bool false)], args := [d] }
  | _ => none }
def FnExactSchemeNameWrongFalsely : Prop := fnExactSchemeNameRow.holds Try.pinned (OpenSpec.ofChange fnExactSchemeNameWrong)

/-- 'laws.FnExactEqualTransactions': WHATEVER THE INPUT: true; the input reads as it did. -/
def fnExactEqualTransactionsSpec : ChangeSpec := { name := "fnExactEqualTransactions", fn := fun _ => fun
  | [d1, d2] => { results := [.lit (.bool true)], args := [d1, d2] }
  | _ => none }
def fnExactEqualTransactionsRow : OpenClaim := { program := "ytmohpkkfbgjboab", sum := "d3ef5e1a429cffc7f66bf438a6071bf694700361fd809ad5f6abcaed7537f220", func := "loop.example/g01924/laws.FnExactEqualTransactions", spec := "fnExactEqualTransactions", apart := false }
def FnExactEqualTransactionsSaid : Prop := fnExactEqualTransactionsRow.holds Try.pinned (OpenSpec.ofChange fnExactEqualTransactionsSpec)

/-- ITS FALSE NEIGHBOUR: 'it returns false'. Refute it at one input. -/
def fnExactEqualTransactionsWrong : ChangeSpec := { name := "fnExactEqualTransactions", fn := fun _ => fun
  | [d1, d2] => { results := [.lit (.bool false)], args := [d1, d2] }
  | _ => none }
def FnExactEqualTransactionsWrongFalsely : Prop := fnExactEqualTransactionsRow.holds Try.pinned (OpenSpec.ofChange fnExactEqualTransactionsWrong)

/-- 'laws.FnExactVersionAt': WHATEVER THE INPUT: true; the input reads as it did. -/
def fnExactVersionAtSpec : ChangeSpec := { name := "fnExactVersionAt", fn := fun _ => fun
  | [d1, d2] => { results := [.lit (.bool true)], args := [d1, d2] }
  | _ => none }
def fnExactVersionAtRow : OpenClaim := { program := "ytmohpkkfbgjboab", sum := "d3ef5e1a429cffc7f66bf438a6071bf694700361fd809ad5f6abcaed7537f220", func := "loop.example/g01924/laws.FnExactVersionAt", spec := "fnExactVersionAt", apart := false }
def FnExactVersionAtSaid : Prop := fnExactVersionAtRow.holds Try.pinned (OpenSpec.ofChange fnExactVersionAtSpec)

/-- ITS FALSE NEIGHBOUR: 'it returns false'. Refute it at one input. -/
def fnExactVersionAtWrong : ChangeSpec := { name := "fnExactVersionAt", fn := fun _ => fun
  | [d1, d2] => { results := [.lit (.bool false)], args := [d1, d2] }
  | _ => none }
def FnExactVersionAtWrongFalsely : Prop := fnExactVersionAtRow.holds Try.pinned (OpenSpec.ofChange fnExactVersionAtWrong)

/- THE SECOND FORM. 'bulk': how many values and letters a reading holds, each counted each time it is reached (what is shared counts as often as it is met; a slice's spare places count too). A statement '..UptoSaid' is the law's where the arguments, and the package variables that the reading takes, are together of bulk at most 1048576: NARROWER than '..Said'. Prove '..Said' where nothing that the law and all that it calls make is longer than what came in: it says more and counts as full. Else prove '..UptoSaid'. A law counts once. -/
mutual
def uptoBulk {H : Type} : DataW H → Nat
  | .lit (.string bytes) => bytes.length + 1
  | .lit _ => 1
  | .nil => 1
  | .ptr d => uptoBulk d + 1
  | .slice elems spare => uptoBulkAll elems + uptoBulkAll spare + 1
  | .agg parts => uptoBulkAll parts + 1
  | .iface _ d => uptoBulk d + 1
  | .map entries => uptoBulkEntries entries + 1
  | .held _ => 1
def uptoBulkAll {H : Type} : List (DataW H) → Nat
  | [] => 0
  | d :: r => uptoBulk d + uptoBulkAll r
def uptoBulkEntries {H : Type} : List (Lit × DataW H) → Nat
  | [] => 0
  | x :: r => uptoBulkEntry x + uptoBulkEntries r
def uptoBulkEntry {H : Type} : Lit × DataW H → Nat
  | (.string bytes, d) => bytes.length + uptoBulk d + 1
  | (_, d) => uptoBulk d + 1
 end
def uptoSmall : (H : Type) → List (DataW H) → Bool := fun _ ds => decide (uptoBulkAll ds ≤ 1048576)
def OpenSpec.upto (s : _root_.Go.ChangeSpec) : _root_.Go.OpenSpec := { _root_.Go.OpenSpec.ofChange s with cond := some uptoSmall }

/-- 'laws.FnExactIsValidTransaction', WHERE WHAT IT READS IS OF BULK AT MOST 1048576: true; the input reads as it did. -/
def fnExactIsValidTransactionUptoRow : OpenClaim := { program := "ytmohpkkfbgjboab", sum := "d3ef5e1a429cffc7f66bf438a6071bf694700361fd809ad5f6abcaed7537f220", func := "loop.example/g01924/laws.FnExactIsValidTransaction", spec := "fnExactIsValidTransaction", apart := false, narrowed := true }
def FnExactIsValidTransactionUptoSaid : Prop := fnExactIsValidTransactionUptoRow.holds Try.pinned (OpenSpec.upto fnExactIsValidTransactionSpec)

/-- 'laws.FnExactNewTransaction', WHERE WHAT IT READS IS OF BULK AT MOST 1048576: true; the input reads as it did. -/
def fnExactNewTransactionUptoRow : OpenClaim := { program := "ytmohpkkfbgjboab", sum := "d3ef5e1a429cffc7f66bf438a6071bf694700361fd809ad5f6abcaed7537f220", func := "loop.example/g01924/laws.FnExactNewTransaction", spec := "fnExactNewTransaction", apart := false, narrowed := true }
def FnExactNewTransactionUptoSaid : Prop := fnExactNewTransactionUptoRow.holds Try.pinned (OpenSpec.upto fnExactNewTransactionSpec)

/-- 'laws.FnExactFindWrite', WHERE WHAT IT READS IS OF BULK AT MOST 1048576: true; the input reads as it did. -/
def fnExactFindWriteUptoRow : OpenClaim := { program := "ytmohpkkfbgjboab", sum := "d3ef5e1a429cffc7f66bf438a6071bf694700361fd809ad5f6abcaed7537f220", func := "loop.example/g01924/laws.FnExactFindWrite", spec := "fnExactFindWrite", apart := false, narrowed := true }
def FnExactFindWriteUptoSaid : Prop := fnExactFindWriteUptoRow.holds Try.pinned (OpenSpec.upto fnExactFindWriteSpec)

/-- 'laws.FnExactHasRead', WHERE WHAT IT READS IS OF BULK AT MOST 1048576: true; the input reads as it did. -/
def fnExactHasReadUptoRow : OpenClaim := { program := "ytmohpkkfbgjboab", sum := "d3ef5e1a429cffc7f66bf438a6071bf694700361fd809ad5f6abcaed7537f220", func := "loop.example/g01924/laws.FnExactHasRead", spec := "fnExactHasRead", apart := false, narrowed := true }
def FnExactHasReadUptoSaid : Prop := fnExactHasReadUptoRow.holds Try.pinned (OpenSpec.upto fnExactHasReadSpec)

/-- 'laws.FnExactIsReadOnly', WHERE WHAT IT READS IS OF BULK AT MOST 1048576: true; the input reads as it did. -/
def fnExactIsReadOnlyUptoRow : OpenClaim := { program := "ytmohpkkfbgjboab", sum := "d3ef5e1a429cffc7f66bf438a6071bf694700361fd809ad5f6abcaed7537f220", func := "loop.example/g01924/laws.FnExactIsReadOnly", spec := "fnExactIsReadOnly", apart := false, narrowed := true }
def FnExactIsReadOnlyUptoSaid : Prop := fnExactIsReadOnlyUptoRow.holds Try.pinned (OpenSpec.upto fnExactIsReadOnlySpec)

/-- 'laws.FnExactSchemeName', WHERE WHAT IT READS IS OF BULK AT MOST 1048576: true; the input reads as it did. -/
def fnExactSchemeNameUptoRow : OpenClaim := { program := "ytmohpkkfbgjboab", sum := "d3ef5e1a429cffc7f66bf438a6071bf694700361fd809ad5f6abcaed7537f220", func := "loop.example/g01924/laws.FnExactSchemeName", spec := "fnExactSchemeName", apart := false, narrowed := true }
def FnExactSchemeNameUptoSaid : Prop := fnExactSchemeNameUptoRow.holds Try.pinned (OpenSpec.upto fnExactSchemeNameSpec)

/-- 'laws.FnExactEqualTransactions', WHERE WHAT IT READS IS OF BULK AT MOST 1048576: true; the input reads as it did. -/
def fnExactEqualTransactionsUptoRow : OpenClaim := { program := "ytmohpkkfbgjboab", sum := "d3ef5e1a429cffc7f66bf438a6071bf694700361fd809ad5f6abcaed7537f220", func := "loop.example/g01924/laws.FnExactEqualTransactions", spec := "fnExactEqualTransactions", apart := false, narrowed := true }
def FnExactEqualTransactionsUptoSaid : Prop := fnExactEqualTransactionsUptoRow.holds Try.pinned (OpenSpec.upto fnExactEqualTransactionsSpec)

/-- 'laws.FnExactVersionAt', WHERE WHAT IT READS IS OF BULK AT MOST 1048576: true; the input reads as it did. -/
def fnExactVersionAtUptoRow : OpenClaim := { program := "ytmohpkkfbgjboab", sum := "d3ef5e1a429cffc7f66bf438a6071bf694700361fd809ad5f6abcaed7537f220", func := "loop.example/g01924/laws.FnExactVersionAt", spec := "fnExactVersionAt", apart := false, narrowed := true }
def FnExactVersionAtUptoSaid : Prop := fnExactVersionAtUptoRow.holds Try.pinned (OpenSpec.upto fnExactVersionAtSpec)

end Rows
end Go.Proofs.Ytmohpkkfbgjboab
