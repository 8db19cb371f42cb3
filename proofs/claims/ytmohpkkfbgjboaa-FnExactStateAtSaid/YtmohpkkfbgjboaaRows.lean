/-
  No cell of these rows narrows 'for every input' (looked for: loops, veiled, ifaces, maps, wideKeys, modest, calm, conditions, laid).
  DERIVED. THE GIVEN ROWS OF THIS SEAT. 8 by the template 'for every input the law returns true; each argument reads behind the call as it read before'; 0 by the template 'total and deterministic' (their statements: YtmohpkkfbgjboaaTotals.lean).
  GIVEN WITH THE SEED: the statements are not yours to turn. If you find one false, say at which input.
  Laid BY PROGRAM, IN A SANDBOX (cutbox-rows.mjs): the forced cells as the released guide's own fill.sh prints them over the translation 260e6345a6d33868… (all of the seat's roots in one cut). By AI agents, Wed Nov 11 2026. No macro, syntax, notation, axiom, sorry.
-/
import Derived.Test.YtmohpkkfbgjboaaChecked
import GoSem.Claim
import GoSem.ClaimJoined
import GoSem.ClaimMapViews
import Derived.JoinedTies
import Derived.KernelRfl
namespace Go.Proofs.Ytmohpkkfbgjboaa
/- THE CELL 'sum', in the pinned program and in every row, IS THE sha256 OF THE DUMP (.gsa) THAT YtmohpkkfbgjboaaProg.lean LOADS. Nothing in Lean hashes anything: it is a label: what it is worth is what the hold of that sum in a sandbox is worth. -/
noncomputable def Try.pinned : Pinned := { name := "ytmohpkkfbgjboaa", sum := "260e6345a6d33868164d12489bc44d081567f7146b5f17c7df9de3df5e22e543", checked := Try.checked }
namespace Rows
def none {H : Type} : Left H := { results := [], args := [] }

/-- 'laws.FnExactIsValidVersion': WHATEVER THE INPUT: true; the input reads as it did. -/
def fnExactIsValidVersionSpec : ChangeSpec := { name := "fnExactIsValidVersion", fn := fun _ => fun
  | [d] => { results := [.lit (.bool true)], args := [d] }
  | _ => none }
def fnExactIsValidVersionRow : OpenClaim := { program := "ytmohpkkfbgjboaa", sum := "260e6345a6d33868164d12489bc44d081567f7146b5f17c7df9de3df5e22e543", func := "loop.example/g01924/laws.FnExactIsValidVersion", spec := "fnExactIsValidVersion", apart := false }
def FnExactIsValidVersionSaid : Prop := fnExactIsValidVersionRow.holds Try.pinned (OpenSpec.ofChange fnExactIsValidVersionSpec)

/-- ITS FALSE NEIGHBOUR: 'it returns false'. Refute it at one input. -/
def fnExactIsValidVersionWrong : ChangeSpec := { name := "fnExactIsValidVersion", fn := fun _ => fun
  | [d] => { results := [.lit (.bool false)], args := [d] }
  | _ => none }
def FnExactIsValidVersionWrongFalsely : Prop := fnExactIsValidVersionRow.holds Try.pinned (OpenSpec.ofChange fnExactIsValidVersionWrong)

/-- 'laws.FnExactIsValidChain': WHATEVER THE INPUT: true; the input reads as it did. -/
def fnExactIsValidChainSpec : ChangeSpec := { name := "fnExactIsValidChain", fn := fun _ => fun
  | [d] => { results := [.lit (.bool true)], args := [d] }
  | _ => none }
def fnExactIsValidChainRow : OpenClaim := { program := "ytmohpkkfbgjboaa", sum := "260e6345a6d33868164d12489bc44d081567f7146b5f17c7df9de3df5e22e543", func := "loop.example/g01924/laws.FnExactIsValidChain", spec := "fnExactIsValidChain", apart := false }
def FnExactIsValidChainSaid : Prop := fnExactIsValidChainRow.holds Try.pinned (OpenSpec.ofChange fnExactIsValidChainSpec)

/-- ITS FALSE NEIGHBOUR: 'it returns false'. Refute it at one input. -/
def fnExactIsValidChainWrong : ChangeSpec := { name := "fnExactIsValidChain", fn := fun _ => fun
  | [d] => { results := [.lit (.bool false)], args := [d] }
  | _ => none }
def FnExactIsValidChainWrongFalsely : Prop := fnExactIsValidChainRow.holds Try.pinned (OpenSpec.ofChange fnExactIsValidChainWrong)

/-- 'laws.FnExactIsValidStore': WHATEVER THE INPUT: true; the input reads as it did. -/
def fnExactIsValidStoreSpec : ChangeSpec := { name := "fnExactIsValidStore", fn := fun _ => fun
  | [d] => { results := [.lit (.bool true)], args := [d] }
  | _ => none }
def fnExactIsValidStoreRow : OpenClaim := { program := "ytmohpkkfbgjboaa", sum := "260e6345a6d33868164d12489bc44d081567f7146b5f17c7df9de3df5e22e543", func := "loop.example/g01924/laws.FnExactIsValidStore", spec := "fnExactIsValidStore", apart := false }
def FnExactIsValidStoreSaid : Prop := fnExactIsValidStoreRow.holds Try.pinned (OpenSpec.ofChange fnExactIsValidStoreSpec)

/-- ITS FALSE NEIGHBOUR: 'it returns false'. Refute it at one input. -/
def fnExactIsValidStoreWrong : ChangeSpec := { name := "fnExactIsValidStore", fn := fun _ => fun
  | [d] => { results := [.lit (.bool false)], args := [d] }
  | _ => none }
def FnExactIsValidStoreWrongFalsely : Prop := fnExactIsValidStoreRow.holds Try.pinned (OpenSpec.ofChange fnExactIsValidStoreWrong)

/-- 'laws.FnExactReadLatest': WHATEVER THE INPUT: true; the input reads as it did. -/
def fnExactReadLatestSpec : ChangeSpec := { name := "fnExactReadLatest", fn := fun _ => fun
  | [d1, d2] => { results := [.lit (.bool true)], args := [d1, d2] }
  | _ => none }
def fnExactReadLatestRow : OpenClaim := { program := "ytmohpkkfbgjboaa", sum := "260e6345a6d33868164d12489bc44d081567f7146b5f17c7df9de3df5e22e543", func := "loop.example/g01924/laws.FnExactReadLatest", spec := "fnExactReadLatest", apart := false }
def FnExactReadLatestSaid : Prop := fnExactReadLatestRow.holds Try.pinned (OpenSpec.ofChange fnExactReadLatestSpec)

/-- ITS FALSE NEIGHBOUR: 'it returns false'. Refute it at one input. -/
def fnExactReadLatestWrong : ChangeSpec := { name := "fnExactReadLatest", fn := fun _ => fun
  | [d1, d2] => { results := [.lit (.bool false)], args := [d1, d2] }
  | _ => none }
def FnExactReadLatestWrongFalsely : Prop := fnExactReadLatestRow.holds Try.pinned (OpenSpec.ofChange fnExactReadLatestWrong)

/-- 'laws.FnExactReadAt': WHATEVER THE INPUT: true; the input reads as it did. -/
def fnExactReadAtSpec : ChangeSpec := { name := "fnExactReadAt", fn := fun _ => fun
  | [d1, d2, d3] => { results := [.lit (.bool true)], args := [d1, d2, d3] }
  | _ => none }
def fnExactReadAtRow : OpenClaim := { program := "ytmohpkkfbgjboaa", sum := "260e6345a6d33868164d12489bc44d081567f7146b5f17c7df9de3df5e22e543", func := "loop.example/g01924/laws.FnExactReadAt", spec := "fnExactReadAt", apart := false }
def FnExactReadAtSaid : Prop := fnExactReadAtRow.holds Try.pinned (OpenSpec.ofChange fnExactReadAtSpec)

/-- ITS FALSE NEIGHBOUR: 'it returns false'. Refute it at one input. -/
def fnExactReadAtWrong : ChangeSpec := { name := "fnExactReadAt", fn := fun _ => fun
  | [d1, d2, d3] => { results := [.lit (.bool false)], args := [d1, d2, d3] }
  | _ => none }
def FnExactReadAtWrongFalsely : Prop := fnExactReadAtRow.holds Try.pinned (OpenSpec.ofChange fnExactReadAtWrong)

/-- 'laws.FnExactStateAt': WHATEVER THE INPUT: true; the input reads as it did. -/
def fnExactStateAtSpec : ChangeSpec := { name := "fnExactStateAt", fn := fun _ => fun
  | [d1, d2] => { results := [.lit (.bool true)], args := [d1, d2] }
  | _ => none }
def fnExactStateAtRow : OpenClaim := { program := "ytmohpkkfbgjboaa", sum := "260e6345a6d33868164d12489bc44d081567f7146b5f17c7df9de3df5e22e543", func := "loop.example/g01924/laws.FnExactStateAt", spec := "fnExactStateAt", apart := false }
def FnExactStateAtSaid : Prop := fnExactStateAtRow.holds Try.pinned (OpenSpec.ofChange fnExactStateAtSpec)

/-- ITS FALSE NEIGHBOUR: 'it returns false'. Refute it at one input. -/
def fnExactStateAtWrong : ChangeSpec := { name := "fnExactStateAt", fn := fun _ => fun
  | [d1, d2] => { results := [.lit (.bool false)], args := [d1, d2] }
  | _ => none }
def FnExactStateAtWrongFalsely : Prop := fnExactStateAtRow.holds Try.pinned (OpenSpec.ofChange fnExactStateAtWrong)

/-- 'laws.FnExactLastStamp': WHATEVER THE INPUT: true; the input reads as it did. -/
def fnExactLastStampSpec : ChangeSpec := { name := "fnExactLastStamp", fn := fun _ => fun
  | [d] => { results := [.lit (.bool true)], args := [d] }
  | _ => none }
def fnExactLastStampRow : OpenClaim := { program := "ytmohpkkfbgjboaa", sum := "260e6345a6d33868164d12489bc44d081567f7146b5f17c7df9de3df5e22e543", func := "loop.example/g01924/laws.FnExactLastStamp", spec := "fnExactLastStamp", apart := false }
def FnExactLastStampSaid : Prop := fnExactLastStampRow.holds Try.pinned (OpenSpec.ofChange fnExactLastStampSpec)

/-- ITS FALSE NEIGHBOUR: 'it returns false'. Refute it at one input. -/
def fnExactLastStampWrong : ChangeSpec := { name := "fnExactLastStamp", fn := fun _ => fun
  | [d] => { results := [.lit (.bool false)], args := [d] }
  | _ => none }
def FnExactLastStampWrongFalsely : Prop := fnExactLastStampRow.holds Try.pinned (OpenSpec.ofChange fnExactLastStampWrong)

/-- 'laws.FnExactLatestVersion': WHATEVER THE INPUT: true; the input reads as it did. -/
def fnExactLatestVersionSpec : ChangeSpec := { name := "fnExactLatestVersion", fn := fun _ => fun
  | [d] => { results := [.lit (.bool true)], args := [d] }
  | _ => none }
def fnExactLatestVersionRow : OpenClaim := { program := "ytmohpkkfbgjboaa", sum := "260e6345a6d33868164d12489bc44d081567f7146b5f17c7df9de3df5e22e543", func := "loop.example/g01924/laws.FnExactLatestVersion", spec := "fnExactLatestVersion", apart := false }
def FnExactLatestVersionSaid : Prop := fnExactLatestVersionRow.holds Try.pinned (OpenSpec.ofChange fnExactLatestVersionSpec)

/-- ITS FALSE NEIGHBOUR: 'it returns false'. Refute it at one input. -/
def fnExactLatestVersionWrong : ChangeSpec := { name := "fnExactLatestVersion", fn := fun _ => fun
  | [d] => { results := [.lit (.bool false)], args := [d] }
  | _ => none }
def FnExactLatestVersionWrongFalsely : Prop := fnExactLatestVersionRow.holds Try.pinned (OpenSpec.ofChange fnExactLatestVersionWrong)

/- THE SECOND FORM. 'bulk': how many values and letters a reading holds, each counted each time it is reached (what is shared counts as often as it is met; a slice's spare places count too). A statement '..UptoSaid' is the law's where the arguments, and the package variables that the reading takes, are together of bulk at most 1048576: NARROWER than '..Said'. Prove '..Said' where nothing that the law and all that it calls make is longer than what came in: it says more and counts as full. Else prove '..UptoSaid'. A law counts once. -/
mutual
def uptoBulk {H : Type} : DataW H → Nat
  | .lit (.string bytes) => bytes.length + 1
  | .lit _ => 1
  | .nil => 1
  | .ptr d => uptoBulk d + 1
  | .slice elems spare => uptoBulkAll elems + uptoBulkAll spare + 1
  | .agg parts => uptoBulkAll parts + 1
  | .iface _ d => uptoBulk d + 1
  | .map entries => uptoBulkEntries entries + 1
  | .held _ => 1
def uptoBulkAll {H : Type} : List (DataW H) → Nat
  | [] => 0
  | d :: r => uptoBulk d + uptoBulkAll r
def uptoBulkEntries {H : Type} : List (Lit × DataW H) → Nat
  | [] => 0
  | x :: r => uptoBulkEntry x + uptoBulkEntries r
def uptoBulkEntry {H : Type} : Lit × DataW H → Nat
  | (.string bytes, d) => bytes.length + uptoBulk d + 1
  | (_, d) => uptoBulk d + 1
 end
def uptoSmall : (H : Type) → List (DataW H) → Bool := fun _ ds => decide (uptoBulkAll ds ≤ 1048576)
def OpenSpec.upto (s : _root_.Go.ChangeSpec) : _root_.Go.OpenSpec := { _root_.Go.OpenSpec.ofChange s with cond := some uptoSmall }

/-- 'laws.FnExactIsValidVersion', WHERE WHAT IT READS IS OF BULK AT MOST 1048576: true; the input reads as it did. -/
def fnExactIsValidVersionUptoRow : OpenClaim := { program := "ytmohpkkfbgjboaa", sum := "260e6345a6d33868164d12489bc44d081567f7146b5f17c7df9de3df5e22e543", func := "loop.example/g01924/laws.FnExactIsValidVersion", spec := "fnExactIsValidVersion", apart := false, narrowed := true }
def FnExactIsValidVersionUptoSaid : Prop := fnExactIsValidVersionUptoRow.holds Try.pinned (OpenSpec.upto fnExactIsValidVersionSpec)

/-- 'laws.FnExactIsValidChain', WHERE WHAT IT READS IS OF BULK AT MOST 1048576: true; the input reads as it did. -/
def fnExactIsValidChainUptoRow : OpenClaim := { program := "ytmohpkkfbgjboaa", sum := "260e6345a6d33868164d12489bc44d081567f7146b5f17c7df9de3df5e22e543", func := "loop.example/g01924/laws.FnExactIsValidChain", spec := "fnExactIsValidChain", apart := false, narrowed := true }
def FnExactIsValidChainUptoSaid : Prop := fnExactIsValidChainUptoRow.holds Try.pinned (OpenSpec.upto fnExactIsValidChainSpec)

/-- 'laws.FnExactIsValidStore', WHERE WHAT IT READS IS OF BULK AT MOST 1048576: true; the input reads as it did. -/
def fnExactIsValidStoreUptoRow : OpenClaim := { program := "ytmohpkkfbgjboaa", sum := "260e6345a6d33868164d12489bc44d081567f7146b5f17c7df9de3df5e22e543", func := "loop.example/g01924/laws.FnExactIsValidStore", spec := "fnExactIsValidStore", apart := false, narrowed := true }
def FnExactIsValidStoreUptoSaid : Prop := fnExactIsValidStoreUptoRow.holds Try.pinned (OpenSpec.upto fnExactIsValidStoreSpec)

/-- 'laws.FnExactReadLatest', WHERE WHAT IT READS IS OF BULK AT MOST 1048576: true; the input reads as it did. -/
def fnExactReadLatestUptoRow : OpenClaim := { program := "ytmohpkkfbgjboaa", sum := "260e6345a6d33868164d12489bc44d081567f7146b5f17c7df9de3df5e22e543", func := "loop.example/g01924/laws.FnExactReadLatest", spec := "fnExactReadLatest", apart := false, narrowed := true }
def FnExactReadLatestUptoSaid : Prop := fnExactReadLatestUptoRow.holds Try.pinned (OpenSpec.upto fnExactReadLatestSpec)

/-- 'laws.FnExactReadAt', WHERE WHAT IT READS IS OF BULK AT MOST 1048576: true; the input reads as it did. -/
def fnExactReadAtUptoRow : OpenClaim := { program := "ytmohpkkfbgjboaa", sum := "260e6345a6d33868164d12489bc44d081567f7146b5f17c7df9de3df5e22e543", func := "loop.example/g01924/laws.FnExactReadAt", spec := "fnExactReadAt", apart := false, narrowed := true }
def FnExactReadAtUptoSaid : Prop := fnExactReadAtUptoRow.holds Try.pinned (OpenSpec.upto fnExactReadAtSpec)

/-- 'laws.FnExactStateAt', WHERE WHAT IT READS IS OF BULK AT MOST 1048576: true; the input reads as it did. -/
def fnExactStateAtUptoRow : OpenClaim := { program := "ytmohpkkfbgjboaa", sum := "260e6345a6d33868164d12489bc44d081567f7146b5f17c7df9de3df5e22e543", func := "loop.example/g01924/laws.FnExactStateAt", spec := "fnExactStateAt", apart := false, narrowed := true }
def FnExactStateAtUptoSaid : Prop := fnExactStateAtUptoRow.holds Try.pinned (OpenSpec.upto fnExactStateAtSpec)

/-- 'laws.FnExactLastStamp', WHERE WHAT IT READS IS OF BULK AT MOST 1048576: true; the input reads as it did. -/
def fnExactLastStampUptoRow : OpenClaim := { program := "ytmohpkkfbgjboaa", sum := "260e6345a6d33868164d12489bc44d081567f7146b5f17c7df9de3df5e22e543", func := "loop.example/g01924/laws.FnExactLastStamp", spec := "fnExactLastStamp", apart := false, narrowed := true }
def FnExactLastStampUptoSaid : Prop := fnExactLastStampUptoRow.holds Try.pinned (OpenSpec.upto fnExactLastStampSpec)

/-- 'laws.FnExactLatestVersion', WHERE WHAT IT READS IS OF BULK AT MOST 1048576: true; the input reads as it did. -/
def fnExactLatestVersionUptoRow : OpenClaim := { program := "ytmohpkkfbgjboaa", sum := "260e6345a6d33868164d12489bc44d081567f7146b5f17c7df9de3df5e22e543", func := "loop.example/g01924/laws.FnExactLatestVersion", spec := "fnExactLatestVersion", apart := false, narrowed := true }
def FnExactLatestVersionUptoSaid : Prop := fnExactLatestVersionUptoRow.holds Try.pinned (OpenSpec.upto fnExactLatestVersionSpec)

end Rows
end Go.Proofs.Ytmohpkkfbgjboaa
