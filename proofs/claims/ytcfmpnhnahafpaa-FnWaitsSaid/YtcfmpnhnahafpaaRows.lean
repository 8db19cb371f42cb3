/-
  No cell of these rows narrows 'for every input' (looked for: loops, veiled, ifaces, maps, wideKeys, modest, calm, conditions, laid).
  DERIVED. THE GIVEN ROWS OF THIS SEAT. 6 by the template 'for every input the law returns true; each argument reads behind the call as it read before'; 0 by the template 'total and deterministic' (their statements: YtcfmpnhnahafpaaTotals.lean).
  GIVEN WITH THE SEED: the statements are not yours to turn. If you find one false, say at which input.
  Laid BY PROGRAM, IN A SANDBOX (cutbox-rows.mjs): the forced cells as the released guide's own fill.sh prints them over the translation a257c618bafa0ec9… (all of the seat's roots in one cut). By AI agents, Wed Nov 11 2026. No macro, syntax, notation, axiom, sorry.
-/
import Derived.Test.YtcfmpnhnahafpaaChecked
import GoSem.Claim
import GoSem.ClaimJoined
import GoSem.ClaimMapViews
import Derived.JoinedTies
import Derived.KernelRfl
namespace Go.Proofs.Ytcfmpnhnahafpaa
/- THE CELL 'sum', in the pinned program and in every row, IS THE sha256 OF THE DUMP (.gsa) THAT YtcfmpnhnahafpaaProg.lean LOADS. Nothing in Lean hashes anything: it is a label: what it is worth is what the hold of that sum in a sandbox is worth. -/
noncomputable def Try.pinned : Pinned := { name := "ytcfmpnhnahafpaa", sum := "a257c618bafa0ec97ca8705b13af63231dd803ba79e8743349f2a2794d60d50e", checked := Try.checked }
namespace Rows
def none {H : Type} : Left H := { results := [], args := [] }

/-- 'laws.FnWaits': WHATEVER THE INPUT: true; the input reads as it did. -/
def fnWaitsSpec : ChangeSpec := { name := "fnWaits", fn := fun _ => fun
  | [d] => { results := [.lit (.bool true)], args := [d] }
  | _ => none }
def fnWaitsRow : OpenClaim := { program := "ytcfmpnhnahafpaa", sum := "a257c618bafa0ec97ca8705b13af63231dd803ba79e8743349f2a2794d60d50e", func := "loop.example/g01924/laws.FnWaits", spec := "fnWaits", inPlace := ["slices.overlaps[loop.example/g01924/impl.Wait]"], unfollowed := true, recurses := true, apart := false }
def FnWaitsSaid : Prop := fnWaitsRow.holds Try.pinned (OpenSpec.ofChange fnWaitsSpec)

/-- ITS FALSE NEIGHBOUR: 'it returns false'. Refute it at one input. -/
def fnWaitsWrong : ChangeSpec := { name := "fnWaits", fn := fun _ => fun
  | [d] => { results := [.lit (.bool false)], args := [d] }
  | _ => none }
def FnWaitsWrongFalsely : Prop := fnWaitsRow.holds Try.pinned (OpenSpec.ofChange fnWaitsWrong)

/-- 'laws.FnExactAreWaits': WHATEVER THE INPUT: true; the input reads as it did. -/
def fnExactAreWaitsSpec : ChangeSpec := { name := "fnExactAreWaits", fn := fun _ => fun
  | [d] => { results := [.lit (.bool true)], args := [d] }
  | _ => none }
def fnExactAreWaitsRow : OpenClaim := { program := "ytcfmpnhnahafpaa", sum := "a257c618bafa0ec97ca8705b13af63231dd803ba79e8743349f2a2794d60d50e", func := "loop.example/g01924/laws.FnExactAreWaits", spec := "fnExactAreWaits", apart := false }
def FnExactAreWaitsSaid : Prop := fnExactAreWaitsRow.holds Try.pinned (OpenSpec.ofChange fnExactAreWaitsSpec)

/-- ITS FALSE NEIGHBOUR: 'it returns false'. Refute it at one input. -/
def fnExactAreWaitsWrong : ChangeSpec := { name := "fnExactAreWaits", fn := fun _ => fun
  | [d] => { results := [.lit (.bool false)], args := [d] }
  | _ => none }
def FnExactAreWaitsWrongFalsely : Prop := fnExactAreWaitsRow.holds Try.pinned (OpenSpec.ofChange fnExactAreWaitsWrong)

/-- 'laws.FnExactSetWait': WHATEVER THE INPUT: true; the input reads as it did. -/
def fnExactSetWaitSpec : ChangeSpec := { name := "fnExactSetWait", fn := fun _ => fun
  | [d1, d2, d3] => { results := [.lit (.bool true)], args := [d1, d2, d3] }
  | _ => none }
def fnExactSetWaitRow : OpenClaim := { program := "ytcfmpnhnahafpaa", sum := "a257c618bafa0ec97ca8705b13af63231dd803ba79e8743349f2a2794d60d50e", func := "loop.example/g01924/laws.FnExactSetWait", spec := "fnExactSetWait", inPlace := ["slices.overlaps[loop.example/g01924/impl.Wait]"], unfollowed := true, recurses := true, apart := false }
def FnExactSetWaitSaid : Prop := fnExactSetWaitRow.holds Try.pinned (OpenSpec.ofChange fnExactSetWaitSpec)

/-- ITS FALSE NEIGHBOUR: 'it returns false'. Refute it at one input. -/
def fnExactSetWaitWrong : ChangeSpec := { name := "fnExactSetWait", fn := fun _ => fun
  | [d1, d2, d3] => { results := [.lit (.bool false)], args := [d1, d2, d3] }
  | _ => none }
def FnExactSetWaitWrongFalsely : Prop := fnExactSetWaitRow.holds Try.pinned (OpenSpec.ofChange fnExactSetWaitWrong)

/-- 'laws.FnExactClearWaits': WHATEVER THE INPUT: true; the input reads as it did. -/
def fnExactClearWaitsSpec : ChangeSpec := { name := "fnExactClearWaits", fn := fun _ => fun
  | [d1, d2] => { results := [.lit (.bool true)], args := [d1, d2] }
  | _ => none }
def fnExactClearWaitsRow : OpenClaim := { program := "ytcfmpnhnahafpaa", sum := "a257c618bafa0ec97ca8705b13af63231dd803ba79e8743349f2a2794d60d50e", func := "loop.example/g01924/laws.FnExactClearWaits", spec := "fnExactClearWaits", unfollowed := true, recurses := true, apart := false }
def FnExactClearWaitsSaid : Prop := fnExactClearWaitsRow.holds Try.pinned (OpenSpec.ofChange fnExactClearWaitsSpec)

/-- ITS FALSE NEIGHBOUR: 'it returns false'. Refute it at one input. -/
def fnExactClearWaitsWrong : ChangeSpec := { name := "fnExactClearWaits", fn := fun _ => fun
  | [d1, d2] => { results := [.lit (.bool false)], args := [d1, d2] }
  | _ => none }
def FnExactClearWaitsWrongFalsely : Prop := fnExactClearWaitsRow.holds Try.pinned (OpenSpec.ofChange fnExactClearWaitsWrong)

/-- 'laws.FnExactWaitChain': WHATEVER THE INPUT: true; the input reads as it did. -/
def fnExactWaitChainSpec : ChangeSpec := { name := "fnExactWaitChain", fn := fun _ => fun
  | [d1, d2] => { results := [.lit (.bool true)], args := [d1, d2] }
  | _ => none }
def fnExactWaitChainRow : OpenClaim := { program := "ytcfmpnhnahafpaa", sum := "a257c618bafa0ec97ca8705b13af63231dd803ba79e8743349f2a2794d60d50e", func := "loop.example/g01924/laws.FnExactWaitChain", spec := "fnExactWaitChain", unfollowed := true, recurses := true, apart := false }
def FnExactWaitChainSaid : Prop := fnExactWaitChainRow.holds Try.pinned (OpenSpec.ofChange fnExactWaitChainSpec)

/-- ITS FALSE NEIGHBOUR: 'it returns false'. Refute it at one input. -/
def fnExactWaitChainWrong : ChangeSpec := { name := "fnExactWaitChain", fn := fun _ => fun
  | [d1, d2] => { results := [.lit (.bool false)], args := [d1, d2] }
  | _ => none }
def FnExactWaitChainWrongFalsely : Prop := fnExactWaitChainRow.holds Try.pinned (OpenSpec.ofChange fnExactWaitChainWrong)

/-- 'laws.FnExactWouldDeadlock': WHATEVER THE INPUT: true; the input reads as it did. -/
def fnExactWouldDeadlockSpec : ChangeSpec := { name := "fnExactWouldDeadlock", fn := fun _ => fun
  | [d1, d2, d3] => { results := [.lit (.bool true)], args := [d1, d2, d3] }
  | _ => none }
def fnExactWouldDeadlockRow : OpenClaim := { program := "ytcfmpnhnahafpaa", sum := "a257c618bafa0ec97ca8705b13af63231dd803ba79e8743349f2a2794d60d50e", func := "loop.example/g01924/laws.FnExactWouldDeadlock", spec := "fnExactWouldDeadlock", inPlace := ["slices.overlaps[loop.example/g01924/impl.Wait]"], unfollowed := true, recurses := true, apart := false }
def FnExactWouldDeadlockSaid : Prop := fnExactWouldDeadlockRow.holds Try.pinned (OpenSpec.ofChange fnExactWouldDeadlockSpec)

/-- ITS FALSE NEIGHBOUR: 'it returns false'. Refute it at one input. -/
def fnExactWouldDeadlockWrong : ChangeSpec := { name := "fnExactWouldDeadlock", fn := fun _ => fun
  | [d1, d2, d3] => { results := [.lit (.bool false)], args := [d1, d2, d3] }
  | _ => none }
def FnExactWouldDeadlockWrongFalsely : Prop := fnExactWouldDeadlockRow.holds Try.pinned (OpenSpec.ofChange fnExactWouldDeadlockWrong)

/- THE SECOND FORM. 'bulk': how many values and letters a reading holds, each counted each time it is reached (what is shared counts as often as it is met; a slice's spare places count too). A statement '..UptoSaid' is the law's where the arguments, and the package variables that the reading takes, are together of bulk at most 1048576: NARROWER than '..Said'. Prove '..Said' where nothing that the law and all that it calls make is longer than what came in: it says more and counts as full. Else prove '..UptoSaid'. A law counts once. -/
mutual
def uptoBulk {H : Type} : DataW H → Nat
  | .lit (.string bytes) => bytes.length + 1
  | .lit _ => 1
  | .nil => 1
  | .ptr d => uptoBulk d + 1
  | .slice elems spare => uptoBulkAll elems + uptoBulkAll spare + 1
  | .agg parts => uptoBulkAll parts + 1
  | .iface _ d => uptoBulk d + 1
  | .map entries => uptoBulkEntries entries + 1
  | .held _ => 1
def uptoBulkAll {H : Type} : List (DataW H) → Nat
  | [] => 0
  | d :: r => uptoBulk d + uptoBulkAll r
def uptoBulkEntries {H : Type} : List (Lit × DataW H) → Nat
  | [] => 0
  | x :: r => uptoBulkEntry x + uptoBulkEntries r
def uptoBulkEntry {H : Type} : Lit × DataW H → Nat
  | (.string bytes, d) => bytes.length + uptoBulk d + 1
  | (_, d) => uptoBulk d + 1
 end
def uptoSmall : (H : Type) → List (DataW H) → Bool := fun _ ds => decide (uptoBulkAll ds ≤ 1048576)
def OpenSpec.upto (s : _root_.Go.ChangeSpec) : _root_.Go.OpenSpec := { _root_.Go.OpenSpec.ofChange s with cond := some uptoSmall }

/-- 'laws.FnWaits', WHERE WHAT IT READS IS OF BULK AT MOST 1048576: true; the input reads as it did. -/
def fnWaitsUptoRow : OpenClaim := { program := "ytcfmpnhnahafpaa", sum := "a257c618bafa0ec97ca8705b13af63231dd803ba79e8743349f2a2794d60d50e", func := "loop.example/g01924/laws.FnWaits", spec := "fnWaits", inPlace := ["slices.overlaps[loop.example/g01924/impl.Wait]"], unfollowed := true, recurses := true, apart := false, narrowed := true }
def FnWaitsUptoSaid : Prop := fnWaitsUptoRow.holds Try.pinned (OpenSpec.upto fnWaitsSpec)

/-- 'laws.FnExactAreWaits', WHERE WHAT IT READS IS OF BULK AT MOST 1048576: true; the input reads as it did. -/
def fnExactAreWaitsUptoRow : OpenClaim := { program := "ytcfmpnhnahafpaa", sum := "a257c618bafa0ec97ca8705b13af63231dd803ba79e8743349f2a2794d60d50e", func := "loop.example/g01924/laws.FnExactAreWaits", spec := "fnExactAreWaits", apart := false, narrowed := true }
def FnExactAreWaitsUptoSaid : Prop := fnExactAreWaitsUptoRow.holds Try.pinned (OpenSpec.upto fnExactAreWaitsSpec)

/-- 'laws.FnExactSetWait', WHERE WHAT IT READS IS OF BULK AT MOST 1048576: true; the input reads as it did. -/
def fnExactSetWaitUptoRow : OpenClaim := { program := "ytcfmpnhnahafpaa", sum := "a257c618bafa0ec97ca8705b13af63231dd803ba79e8743349f2a2794d60d50e", func := "loop.example/g01924/laws.FnExactSetWait", spec := "fnExactSetWait", inPlace := ["slices.overlaps[loop.example/g01924/impl.Wait]"], unfollowed := true, recurses := true, apart := false, narrowed := true }
def FnExactSetWaitUptoSaid : Prop := fnExactSetWaitUptoRow.holds Try.pinned (OpenSpec.upto fnExactSetWaitSpec)

/-- 'laws.FnExactClearWaits', WHERE WHAT IT READS IS OF BULK AT MOST 1048576: true; the input reads as it did. -/
def fnExactClearWaitsUptoRow : OpenClaim := { program := "ytcfmpnhnahafpaa", sum := "a257c618bafa0ec97ca8705b13af63231dd803ba79e8743349f2a2794d60d50e", func := "loop.example/g01924/laws.FnExactClearWaits", spec := "fnExactClearWaits", unfollowed := true, recurses := true, apart := false, narrowed := true }
def FnExactClearWaitsUptoSaid : Prop := fnExactClearWaitsUptoRow.holds Try.pinned (OpenSpec.upto fnExactClearWaitsSpec)

/-- 'laws.FnExactWaitChain', WHERE WHAT IT READS IS OF BULK AT MOST 1048576: true; the input reads as it did. -/
def fnExactWaitChainUptoRow : OpenClaim := { program := "ytcfmpnhnahafpaa", sum := "a257c618bafa0ec97ca8705b13af63231dd803ba79e8743349f2a2794d60d50e", func := "loop.example/g01924/laws.FnExactWaitChain", spec := "fnExactWaitChain", unfollowed := true, recurses := true, apart := false, narrowed := true }
def FnExactWaitChainUptoSaid : Prop := fnExactWaitChainUptoRow.holds Try.pinned (OpenSpec.upto fnExactWaitChainSpec)

/-- 'laws.FnExactWouldDeadlock', WHERE WHAT IT READS IS OF BULK AT MOST 1048576: true; the input reads as it did. -/
def fnExactWouldDeadlockUptoRow : OpenClaim := { program := "ytcfmpnhnahafpaa", sum := "a257c618bafa0ec97ca8705b13af63231dd803ba79e8743349f2a2794d60d50e", func := "loop.example/g01924/laws.FnExactWouldDeadlock", spec := "fnExactWouldDeadlock", inPlace := ["slices.overlaps[loop.example/g01924/impl.Wait]"], unfollowed := true, recurses := true, apart := false, narrowed := true }
def FnExactWouldDeadlockUptoSaid : Prop := fnExactWouldDeadlockUptoRow.holds Try.pinned (OpenSpec.upto fnExactWouldDeadlockSpec)

end Rows
end Go.Proofs.Ytcfmpnhnahafpaa
