/-
  NARROWER THAN 'FOR EVERY INPUT', by the rows' own cells (each row's printed sentence says how): FnExactCommitTransaction: ifaces, laid.
  DERIVED. THE GIVEN ROWS OF THIS SEAT. 1 by the template 'for every input the law returns true; each argument reads behind the call as it read before'; 0 by the template 'total and deterministic' (their statements: YthbbpfgjbidbhaaGreatDoorTotals.lean).
  GIVEN WITH THE SEED: the statements are not yours to turn. If you find one false, say at which input.
  Laid BY PROGRAM, IN A SANDBOX (cutbox-rows.mjs): the forced cells as the released guide's own fill.sh prints them over the translation eed1587dd127cbe7… (all of the seat's roots in one cut). By AI agents, Wed Nov 11 2026. No macro, syntax, notation, axiom, sorry.
-/
import Derived.Test.YthbbpfgjbidbhaaGreatDoorChecked
import GoSem.Claim
import GoSem.ClaimJoined
import GoSem.ClaimMapViews
import Derived.JoinedTies
import Derived.KernelRfl
namespace Go.Proofs.YthbbpfgjbidbhaaGreatDoor
/- THE CELL 'sum', in the pinned program and in every row, IS THE sha256 OF THE DUMP (.gsa) THAT YthbbpfgjbidbhaaGreatDoorProg.lean LOADS. Nothing in Lean hashes anything: it is a label: what it is worth is what the hold of that sum in a sandbox is worth. -/
noncomputable def Tryz.pinned : Pinned := { name := "ythbbpfgjbidbhaagreatdoor", sum := "eed1587dd127cbe7954b87148819a8723ac6ede293aeaf45a73ce3a2f4db6001", checked := Tryz.checked }
namespace Rows
def none {H : Type} : Left H := { results := [], args := [] }

/- WHAT THE LISTED PACKAGE-LEVEL VARIABLES READ AS WHEN THE CALL BEGINS. Each datum BY PROGRAM (the guide's laid-datum.mjs) off the statement by which the dump's own 'gosem.cut.vars' lays the variable. In a bare row this is a premise. The card (YthbbpfgjbidbhaaGreatDoorCards.lean) ties it to the program's text. -/
def laid_loop_example_g01924_impl_errNoWindow {H : Type} : DataW H := .iface "*errors.errorString" (.ptr (.agg [.lit (.string [116, 104, 101, 32, 116, 114, 97, 110, 115, 97, 99, 116, 105, 111, 110, 32, 99, 97, 110, 110, 111, 116, 32, 99, 111, 109, 109, 105, 116, 32, 119, 105, 116, 104, 32, 116, 104, 105, 115, 32, 115, 116, 97, 109, 112])]))
def laid_loop_example_g01924_impl_errNoRoom {H : Type} : DataW H := .iface "*errors.errorString" (.ptr (.agg [.lit (.string [116, 104, 101, 32, 119, 105, 110, 100, 111, 119, 32, 104, 97, 115, 32, 110, 111, 32, 114, 111, 111, 109])]))

/-- 'laws.FnExactCommitTransaction': WHATEVER THE INPUT: true; the input reads as it did. -/
def fnExactCommitTransactionSpec : ChangeSpec := { name := "fnExactCommitTransaction", vars := ["loop.example/g01924/impl.errNoWindow", "loop.example/g01924/impl.errNoRoom"], fn := fun _ => fun
  | [d1, d2, d3, g1, g2] => { results := [.lit (.bool true)], args := [d1, d2, d3], vars := [g1, g2] }
  | _ => none }
def fnExactCommitTransactionRow : OpenClaim := { program := "ythbbpfgjbidbhaagreatdoor", sum := "eed1587dd127cbe7954b87148819a8723ac6ede293aeaf45a73ce3a2f4db6001", func := "loop.example/g01924/laws.FnExactCommitTransaction", spec := "fnExactCommitTransaction", unfollowed := true, recurses := true, named := ["loop.example/g01924/impl.errNoWindow", "loop.example/g01924/impl.errNoRoom"], ifaces := true, apart := false, laid := [("loop.example/g01924/impl.errNoWindow", laid_loop_example_g01924_impl_errNoWindow), ("loop.example/g01924/impl.errNoRoom", laid_loop_example_g01924_impl_errNoRoom)] }
def FnExactCommitTransactionSaid : Prop := fnExactCommitTransactionRow.holds Tryz.pinned (OpenSpec.ofChange fnExactCommitTransactionSpec)

/-- ITS FALSE NEIGHBOUR: 'it returns false'. Refute it at one input. -/
def fnExactCommitTransactionWrong : ChangeSpec := { name := "fnExactCommitTransaction", vars := ["loop.example/g01924/impl.errNoWindow", "loop.example/g01924/impl.errNoRoom"], fn := fun _ => fun
  | [d1, d2, d3, g1, g2] => { results := [.lit (.bool false)], args := [d1, d2, d3], vars := [g1, g2] }
  | _ => none }
def FnExactCommitTransactionWrongFalsely : Prop := fnExactCommitTransactionRow.holds Tryz.pinned (OpenSpec.ofChange fnExactCommitTransactionWrong)

/- THE SECOND FORM. 'bulk': how many values and letters a reading holds, each counted each time it is reached (what is shared counts as often as it is met; a slice's spare places count too). A statement '..UptoSaid' is the law's where the arguments, and the package variables that the reading takes, are together of bulk at most 1048576: NARROWER than '..Said'. Prove '..Said' where nothing that the law and all that it calls make is longer than what came in: it says more and counts as full. Else prove '..UptoSaid'. A law counts once. -/
mutual
def uptoBulk {H : Type} : DataW H → Nat
  | .lit (.string bytes) => bytes.length + 1
  | .lit _ => 1
  | .nil => 1
  | .ptr d => uptoBulk d + 1
  | .slice elems spare => uptoBulkAll elems + uptoBulkAll spare + 1
  | .agg parts => uptoBulkAll parts + 1
  | .iface _ d => uptoBulk d + 1
  | .map entries => uptoBulkEntries entries + 1
  | .held _ => 1
def uptoBulkAll {H : Type} : List (DataW H) → Nat
  | [] => 0
  | d :: r => uptoBulk d + uptoBulkAll r
def uptoBulkEntries {H : Type} : List (Lit × DataW H) → Nat
  | [] => 0
  | x :: r => uptoBulkEntry x + uptoBulkEntries r
def uptoBulkEntry {H : Type} : Lit × DataW H → Nat
  | (.string bytes, d) => bytes.length + uptoBulk d + 1
  | (_, d) => uptoBulk d + 1
 end
def uptoSmall : (H : Type) → List (DataW H) → Bool := fun _ ds => decide (uptoBulkAll ds ≤ 1048576)
def OpenSpec.upto (s : _root_.Go.ChangeSpec) : _root_.Go.OpenSpec := { _root_.Go.OpenSpec.ofChange s with cond := some uptoSmall }

/-- 'laws.FnExactCommitTransaction', WHERE WHAT IT READS IS OF BULK AT MOST 1048576: true; the input reads as it did. -/
def fnExactCommitTransactionUptoRow : OpenClaim := { program := "ythbbpfgjbidbhaagreatdoor", sum := "eed1587dd127cbe7954b87148819a8723ac6ede293aeaf45a73ce3a2f4db6001", func := "loop.example/g01924/laws.FnExactCommitTransaction", spec := "fnExactCommitTransaction", unfollowed := true, recurses := true, named := ["loop.example/g01924/impl.errNoWindow", "loop.example/g01924/impl.errNoRoom"], ifaces := true, apart := false, laid := [("loop.example/g01924/impl.errNoWindow", laid_loop_example_g01924_impl_errNoWindow), ("loop.example/g01924/impl.errNoRoom", laid_loop_example_g01924_impl_errNoRoom)], narrowed := true }
def FnExactCommitTransactionUptoSaid : Prop := fnExactCommitTransactionUptoRow.holds Tryz.pinned (OpenSpec.upto fnExactCommitTransactionSpec)

end Rows
end Go.Proofs.YthbbpfgjbidbhaaGreatDoor
