/-
  No cell of these rows narrows 'for every input' (looked for: loops, veiled, ifaces, maps, wideKeys, modest, calm, conditions, laid).
  DERIVED. THE GIVEN ROWS OF THIS SEAT. 10 by the template 'for every input the law returns true; each argument reads behind the call as it read before'; 0 by the template 'total and deterministic' (their statements: YtpejgjmkggmonaaTotals.lean).
  GIVEN WITH THE SEED: the statements are not yours to turn. If you find one false, say at which input.
  Laid BY PROGRAM, IN A SANDBOX (cutbox-rows.mjs): the forced cells as the released guide's own fill.sh prints them over the translation 9fadf9d9a8f461a7… (all of the seat's roots in one cut). By AI agents, Wed Nov 11 2026. No macro, syntax, notation, axiom, sorry.
-/
import Derived.Test.YtpejgjmkggmonaaChecked
import GoSem.Claim
import GoSem.ClaimJoined
import GoSem.ClaimMapViews
import Derived.JoinedTies
import Derived.KernelRfl
namespace Go.Proofs.Ytpejgjmkggmonaa
/- THE CELL 'sum', in the pinned program and in every row, IS THE sha256 OF THE DUMP (.gsa) THAT YtpejgjmkggmonaaProg.lean LOADS. Nothing in Lean hashes anything: it is a label: what it is worth is what the hold of that sum in a sandbox is worth. -/
noncomputable def Try.pinned : Pinned := { name := "ytpejgjmkggmonaa", sum := "9fadf9d9a8f461a7790b196e1709bcb95b74ed8528803cd27546aaf6a5fd9c6b", checked := Try.checked }
namespace Rows
def none {H : Type} : Left H := { results := [], args := [] }

/-- 'laws.FnExactNewStore': WHATEVER THE INPUT: true; the input reads as it did. -/
def fnExactNewStoreSpec : ChangeSpec := { name := "fnExactNewStore", fn := fun _ => fun
  | [] => { results := [.lit (.bool true)], args := [] }
  | _ => none }
def fnExactNewStoreRow : OpenClaim := { program := "ytpejgjmkggmonaa", sum := "9fadf9d9a8f461a7790b196e1709bcb95b74ed8528803cd27546aaf6a5fd9c6b", func := "loop.example/g01924/laws.FnExactNewStore", spec := "fnExactNewStore", apart := false }
def FnExactNewStoreSaid : Prop := fnExactNewStoreRow.holds Try.pinned (OpenSpec.ofChange fnExactNewStoreSpec)

/-- ITS FALSE NEIGHBOUR: 'it returns false'. Refute it at one input. -/
def fnExactNewStoreWrong : ChangeSpec := { name := "fnExactNewStore", fn := fun _ => fun
  | [] => { results := [.lit (.bool false)], args := [] }
  | _ => none }
def FnExactNewStoreWrongFalsely : Prop := fnExactNewStoreRow.holds Try.pinned (OpenSpec.ofChange fnExactNewStoreWrong)

/-- 'laws.FnExactIsValidStore': WHATEVER THE INPUT: true; the input reads as it did. -/
def fnExactIsValidStoreSpec : ChangeSpec := { name := "fnExactIsValidStore", fn := fun _ => fun
  | [d] => { results := [.lit (.bool true)], args := [d] }
  | _ => none }
def fnExactIsValidStoreRow : OpenClaim := { program := "ytpejgjmkggmonaa", sum := "9fadf9d9a8f461a7790b196e1709bcb95b74ed8528803cd27546aaf6a5fd9c6b", func := "loop.example/g01924/laws.FnExactIsValidStore", spec := "fnExactIsValidStore", apart := false }
def FnExactIsValidStoreSaid : Prop := fnExactIsValidStoreRow.holds Try.pinned (OpenSpec.ofChange fnExactIsValidStoreSpec)

/-- ITS FALSE NEIGHBOUR: 'it returns false'. Refute it at one input. -/
def fnExactIsValidStoreWrong : ChangeSpec := { name := "fnExactIsValidStore", fn := fun _ => fun
  | [d] => { results := [.lit (.bool false)], args := [d] }
  | _ => none }
def FnExactIsValidStoreWrongFalsely : Prop := fnExactIsValidStoreRow.holds Try.pinned (OpenSpec.ofChange fnExactIsValidStoreWrong)

/-- 'laws.FnExactReadLatest': WHATEVER THE INPUT: true; the input reads as it did. -/
def fnExactReadLatestSpec : ChangeSpec := { name := "fnExactReadLatest", fn := fun _ => fun
  | [d1, d2] => { results := [.lit (.bool true)], args := [d1, d2] }
  | _ => none }
def fnExactReadLatestRow : OpenClaim := { program := "ytpejgjmkggmonaa", sum := "9fadf9d9a8f461a7790b196e1709bcb95b74ed8528803cd27546aaf6a5fd9c6b", func := "loop.example/g01924/laws.FnExactReadLatest", spec := "fnExactReadLatest", apart := false }
def FnExactReadLatestSaid : Prop := fnExactReadLatestRow.holds Try.pinned (OpenSpec.ofChange fnExactReadLatestSpec)

/-- ITS FALSE NEIGHBOUR: 'it returns false'. Refute it at one input. -/
def fnExactReadLatestWrong : ChangeSpec := { name := "fnExactReadLatest", fn := fun _ => fun
  | [d1, d2] => { results := [.lit (.bool false)], args := [d1, d2] }
  | _ => none }
def FnExactReadLatestWrongFalsely : Prop := fnExactReadLatestRow.holds Try.pinned (OpenSpec.ofChange fnExactReadLatestWrong)

/-- 'laws.FnExactReadAt': WHATEVER THE INPUT: true; the input reads as it did. -/
def fnExactReadAtSpec : ChangeSpec := { name := "fnExactReadAt", fn := fun _ => fun
  | [d1, d2, d3] => { results := [.lit (.bool true)], args := [d1, d2, d3] }
  | _ => none }
def fnExactReadAtRow : OpenClaim := { program := "ytpejgjmkggmonaa", sum := "9fadf9d9a8f461a7790b196e1709bcb95b74ed8528803cd27546aaf6a5fd9c6b", func := "loop.example/g01924/laws.FnExactReadAt", spec := "fnExactReadAt", apart := false }
def FnExactReadAtSaid : Prop := fnExactReadAtRow.holds Try.pinned (OpenSpec.ofChange fnExactReadAtSpec)

/-- ITS FALSE NEIGHBOUR: 'it returns false'. Refute it at one input. -/
def fnExactReadAtWrong : ChangeSpec := { name := "fnExactReadAt", fn := fun _ => fun
  | [d1, d2, d3] => { results := [.lit (.bool false)], args := [d1, d2, d3] }
  | _ => none }
def FnExactReadAtWrongFalsely : Prop := fnExactReadAtRow.holds Try.pinned (OpenSpec.ofChange fnExactReadAtWrong)

/-- 'laws.FnExactStateAt': WHATEVER THE INPUT: true; the input reads as it did. -/
def fnExactStateAtSpec : ChangeSpec := { name := "fnExactStateAt", fn := fun _ => fun
  | [d1, d2] => { results := [.lit (.bool true)], args := [d1, d2] }
  | _ => none }
def fnExactStateAtRow : OpenClaim := { program := "ytpejgjmkggmonaa", sum := "9fadf9d9a8f461a7790b196e1709bcb95b74ed8528803cd27546aaf6a5fd9c6b", func := "loop.example/g01924/laws.FnExactStateAt", spec := "fnExactStateAt", apart := false }
def FnExactStateAtSaid : Prop := fnExactStateAtRow.holds Try.pinned (OpenSpec.ofChange fnExactStateAtSpec)

/-- ITS FALSE NEIGHBOUR: 'it returns false'. Refute it at one input. -/
def fnExactStateAtWrong : ChangeSpec := { name := "fnExactStateAt", fn := fun _ => fun
  | [d1, d2] => { results := [.lit (.bool false)], args := [d1, d2] }
  | _ => none }
def FnExactStateAtWrongFalsely : Prop := fnExactStateAtRow.holds Try.pinned (OpenSpec.ofChange fnExactStateAtWrong)

/-- 'laws.FnExactLastStamp': WHATEVER THE INPUT: true; the input reads as it did. -/
def fnExactLastStampSpec : ChangeSpec := { name := "fnExactLastStamp", fn := fun _ => fun
  | [d] => { results := [.lit (.bool true)], args := [d] }
  | _ => none }
def fnExactLastStampRow : OpenClaim := { program := "ytpejgjmkggmonaa", sum := "9fadf9d9a8f461a7790b196e1709bcb95b74ed8528803cd27546aaf6a5fd9c6b", func := "loop.example/g01924/laws.FnExactLastStamp", spec := "fnExactLastStamp", apart := false }
def FnExactLastStampSaid : Prop := fnExactLastStampRow.holds Try.pinned (OpenSpec.ofChange fnExactLastStampSpec)

/-- ITS FALSE NEIGHBOUR: 'it returns false'. Refute it at one input. -/
def fnExactLastStampWrong : ChangeSpec := { name := "fnExactLastStamp", fn := fun _ => fun
  | [d] => { results := [.lit (.bool false)], args := [d] }
  | _ => none }
def FnExactLastStampWrongFalsely : Prop := fnExactLastStampRow.holds Try.pinned (OpenSpec.ofChange fnExactLastStampWrong)

/-- 'laws.FnExactCountVersions': WHATEVER THE INPUT: true; the input reads as it did. -/
def fnExactCountVersionsSpec : ChangeSpec := { name := "fnExactCountVersions", fn := fun _ => fun
  | [d] => { results := [.lit (.bool true)], args := [d] }
  | _ => none }
def fnExactCountVersionsRow : OpenClaim := { program := "ytpejgjmkggmonaa", sum := "9fadf9d9a8f461a7790b196e1709bcb95b74ed8528803cd27546aaf6a5fd9c6b", func := "loop.example/g01924/laws.FnExactCountVersions", spec := "fnExactCountVersions", apart := false }
def FnExactCountVersionsSaid : Prop := fnExactCountVersionsRow.holds Try.pinned (OpenSpec.ofChange fnExactCountVersionsSpec)

/-- ITS FALSE NEIGHBOUR: 'it returns false'. Refute it at one input. -/
def fnExactCountVersionsWrong : ChangeSpec := { name := "fnExactCountVersions", fn := fun _ => fun
  | [d] => { results := [.lit (.bool false)], args := [d] }
  | _ => none }
def FnExactCountVersionsWrongFalsely : Prop := fnExactCountVersionsRow.holds Try.pinned (OpenSpec.ofChange fnExactCountVersionsWrong)

/-- 'laws.FnExactEqualStores': WHATEVER THE INPUT: true; the input reads as it did. -/
def fnExactEqualStoresSpec : ChangeSpec := { name := "fnExactEqualStores", fn := fun _ => fun
  | [d1, d2] => { results := [.lit (.bool true)], args := [d1, d2] }
  | _ => none }
def fnExactEqualStoresRow : OpenClaim := { program := "ytpejgjmkggmonaa", sum := "9fadf9d9a8f461a7790b196e1709bcb95b74ed8528803cd27546aaf6a5fd9c6b", func := "loop.example/g01924/laws.FnExactEqualStores", spec := "fnExactEqualStores", unfollowed := true, recurses := true, apart := false }
def FnExactEqualStoresSaid : Prop := fnExactEqualStoresRow.holds Try.pinned (OpenSpec.ofChange fnExactEqualStoresSpec)

/-- ITS FALSE NEIGHBOUR: 'it returns false'. Refute it at one input. -/
def fnExactEqualStoresWrong : ChangeSpec := { name := "fnExactEqualStores", fn := fun _ => fun
  | [d1, d2] => { results := [.lit (.bool false)], args := [d1, d2] }
  | _ => none }
def FnExactEqualStoresWrongFalsely : Prop := fnExactEqualStoresRow.holds Try.pinned (OpenSpec.ofChange fnExactEqualStoresWrong)

/-- 'laws.FnExactIsValidVersion': WHATEVER THE INPUT: true; the input reads as it did. -/
def fnExactIsValidVersionSpec : ChangeSpec := { name := "fnExactIsValidVersion", fn := fun _ => fun
  | [d] => { results := [.lit (.bool true)], args := [d] }
  | _ => none }
def fnExactIsValidVersionRow : OpenClaim := { program := "ytpejgjmkggmonaa", sum := "9fadf9d9a8f461a7790b196e1709bcb95b74ed8528803cd27546aaf6a5fd9c6b", func := "loop.example/g01924/laws.FnExactIsValidVersion", spec := "fnExactIsValidVersion", apart := false }
def FnExactIsValidVersionSaid : Prop := fnExactIsValidVersionRow.holds Try.pinned (OpenSpec.ofChange fnExactIsValidVersionSpec)

/-- ITS FALSE NEIGHBOUR: 'it returns false'. Refute it at one input. -/
def fnExactIsValidVersionWrong : ChangeSpec := { name := "fnExactIsValidVersion", fn := fun _ => fun
  | [d] => { results := [.lit (.bool false)], args := [d] }
  | _ => none }
def FnExactIsValidVersionWrongFalsely : Prop := fnExactIsValidVersionRow.holds Try.pinned (OpenSpec.ofChange fnExactIsValidVersionWrong)

/-- 'laws.FnExactIsValidChain': WHATEVER THE INPUT: true; the input reads as it did. -/
def fnExactIsValidChainSpec : ChangeSpec := { name := "fnExactIsValidChain", fn := fun _ => fun
  | [d] => { results := [.lit (.bool true)], args := [d] }
  | _ => none }
def fnExactIsValidChainRow : OpenClaim := { program := "ytpejgjmkggmonaa", sum := "9fadf9d9a8f461a7790b196e1709bcb95b74ed8528803cd27546aaf6a5fd9c6b", func := "loop.example/g01924/laws.FnExactIsValidChain", spec := "fnExactIsValidChain", apart := false }
def FnExactIsValidChainSaid : Prop := fnExactIsValidChainRow.holds Try.pinned (OpenSpec.ofChange fnExactIsValidChainSpec)

/-- ITS FALSE NEIGHBOUR: 'it returns false'. Refute it at one input. -/
def fnExactIsValidChainWrong : ChangeSpec := { name := "fnExactIsValidChain", fn := fun _ => fun
  | [d] => { results := [.lit (.bool false)], args := [d] }
  | _ => none }
def FnExactIsValidChainWrongFalsely : Prop := fnExactIsValidChainRow.holds Try.pinned (OpenSpec.ofChange fnExactIsValidChainWrong)

/- THE SECOND FORM. 'bulk': how many values and letters a reading holds, each counted each time it is reached (what is shared counts as often as it is met; a slice's spare places count too). A statement '..UptoSaid' is the law's where the arguments, and the package variables that the reading takes, are together of bulk at most 1048576: NARROWER than '..Said'. Prove '..Said' where nothing that the law and all that it calls make is longer than what came in: it says more and counts as full. Else prove '..UptoSaid'. A law counts once. -/
mutual
def uptoBulk {H : Type} : DataW H → Nat
  | .lit (.string bytes) => bytes.length + 1
  | .lit _ => 1
  | .nil => 1
  | .ptr d => uptoBulk d + 1
  | .slice elems spare => uptoBulkAll elems + uptoBulkAll spare + 1
  | .agg parts => uptoBulkAll parts + 1
  | .iface _ d => uptoBulk d + 1
  | .map entries => uptoBulkEntries entries + 1
  | .held _ => 1
def uptoBulkAll {H : Type} : List (DataW H) → Nat
  | [] => 0
  | d :: r => uptoBulk d + uptoBulkAll r
def uptoBulkEntries {H : Type} : List (Lit × DataW H) → Nat
  | [] => 0
  | x :: r => uptoBulkEntry x + uptoBulkEntries r
def uptoBulkEntry {H : Type} : Lit × DataW H → Nat
  | (.string bytes, d) => bytes.length + uptoBulk d + 1
  | (_, d) => uptoBulk d + 1
 end
def uptoSmall : (H : Type) → List (DataW H) → Bool := fun _ ds => decide (uptoBulkAll ds ≤ 1048576)
def OpenSpec.upto (s : _root_.Go.ChangeSpec) : _root_.Go.OpenSpec := { _root_.Go.OpenSpec.ofChange s with cond := some uptoSmall }

/-- 'laws.FnExactNewStore', WHERE WHAT IT READS IS OF BULK AT MOST 1048576: true; the input reads as it did. -/
def fnExactNewStoreUptoRow : OpenClaim := { program := "ytpejgjmkggmonaa", sum := "9fadf9d9a8f461a7790b196e1709bcb95b74ed8528803cd27546aaf6a5fd9c6b", func := "loop.example/g01924/laws.FnExactNewStore", spec := "fnExactNewStore", apart := false, narrowed := true }
def FnExactNewStoreUptoSaid : Prop := fnExactNewStoreUptoRow.holds Try.pinned (OpenSpec.upto fnExactNewStoreSpec)

/-- 'laws.FnExactIsValidStore', WHERE WHAT IT READS IS OF BULK AT MOST 1048576: true; the input reads as it did. -/
def fnExactIsValidStoreUptoRow : OpenClaim := { program := "ytpejgjmkggmonaa", sum := "9fadf9d9a8f461a7790b196e1709bcb95b74ed8528803cd27546aaf6a5fd9c6b", func := "loop.example/g01924/laws.FnExactIsValidStore", spec := "fnExactIsValidStore", apart := false, narrowed := true }
def FnExactIsValidStoreUptoSaid : Prop := fnExactIsValidStoreUptoRow.holds Try.pinned (OpenSpec.upto fnExactIsValidStoreSpec)

/-- 'laws.FnExactReadLatest', WHERE WHAT IT READS IS OF BULK AT MOST 1048576: true; the input reads as it did. -/
def fnExactReadLatestUptoRow : OpenClaim := { program := "ytpejgjmkggmonaa", sum := "9fadf9d9a8f461a7790b196e1709bcb95b74ed8528803cd27546aaf6a5fd9c6b", func := "loop.example/g01924/laws.FnExactReadLatest", spec := "fnExactReadLatest", apart := false, narrowed := true }
def FnExactReadLatestUptoSaid : Prop := fnExactReadLatestUptoRow.holds Try.pinned (OpenSpec.upto fnExactReadLatestSpec)

/-- 'laws.FnExactReadAt', WHERE WHAT IT READS IS OF BULK AT MOST 1048576: true; the input reads as it did. -/
def fnExactReadAtUptoRow : OpenClaim := { program := "ytpejgjmkggmonaa", sum := "9fadf9d9a8f461a7790b196e1709bcb95b74ed8528803cd27546aaf6a5fd9c6b", func := "loop.example/g01924/laws.FnExactReadAt", spec := "fnExactReadAt", apart := false, narrowed := true }
def FnExactReadAtUptoSaid : Prop := fnExactReadAtUptoRow.holds Try.pinned (OpenSpec.upto fnExactReadAtSpec)

/-- 'laws.FnExactStateAt', WHERE WHAT IT READS IS OF BULK AT MOST 1048576: true; the input reads as it did. -/
def fnExactStateAtUptoRow : OpenClaim := { program := "ytpejgjmkggmonaa", sum := "9fadf9d9a8f461a7790b196e1709bcb95b74ed8528803cd27546aaf6a5fd9c6b", func := "loop.example/g01924/laws.FnExactStateAt", spec := "fnExactStateAt", apart := false, narrowed := true }
def FnExactStateAtUptoSaid : Prop := fnExactStateAtUptoRow.holds Try.pinned (OpenSpec.upto fnExactStateAtSpec)

/-- 'laws.FnExactLastStamp', WHERE WHAT IT READS IS OF BULK AT MOST 1048576: true; the input reads as it did. -/
def fnExactLastStampUptoRow : OpenClaim := { program := "ytpejgjmkggmonaa", sum := "9fadf9d9a8f461a7790b196e1709bcb95b74ed8528803cd27546aaf6a5fd9c6b", func := "loop.example/g01924/laws.FnExactLastStamp", spec := "fnExactLastStamp", apart := false, narrowed := true }
def FnExactLastStampUptoSaid : Prop := fnExactLastStampUptoRow.holds Try.pinned (OpenSpec.upto fnExactLastStampSpec)

/-- 'laws.FnExactCountVersions', WHERE WHAT IT READS IS OF BULK AT MOST 1048576: true; the input reads as it did. -/
def fnExactCountVersionsUptoRow : OpenClaim := { program := "ytpejgjmkggmonaa", sum := "9fadf9d9a8f461a7790b196e1709bcb95b74ed8528803cd27546aaf6a5fd9c6b", func := "loop.example/g01924/laws.FnExactCountVersions", spec := "fnExactCountVersions", apart := false, narrowed := true }
def FnExactCountVersionsUptoSaid : Prop := fnExactCountVersionsUptoRow.holds Try.pinned (OpenSpec.upto fnExactCountVersionsSpec)

/-- 'laws.FnExactEqualStores', WHERE WHAT IT READS IS OF BULK AT MOST 1048576: true; the input reads as it did. -/
def fnExactEqualStoresUptoRow : OpenClaim := { program := "ytpejgjmkggmonaa", sum := "9fadf9d9a8f461a7790b196e1709bcb95b74ed8528803cd27546aaf6a5fd9c6b", func := "loop.example/g01924/laws.FnExactEqualStores", spec := "fnExactEqualStores", unfollowed := true, recurses := true, apart := false, narrowed := true }
def FnExactEqualStoresUptoSaid : Prop := fnExactEqualStoresUptoRow.holds Try.pinned (OpenSpec.upto fnExactEqualStoresSpec)

/-- 'laws.FnExactIsValidVersion', WHERE WHAT IT READS IS OF BULK AT MOST 1048576: true; the input reads as it did. -/
def fnExactIsValidVersionUptoRow : OpenClaim := { program := "ytpejgjmkggmonaa", sum := "9fadf9d9a8f461a7790b196e1709bcb95b74ed8528803cd27546aaf6a5fd9c6b", func := "loop.example/g01924/laws.FnExactIsValidVersion", spec := "fnExactIsValidVersion", apart := false, narrowed := true }
def FnExactIsValidVersionUptoSaid : Prop := fnExactIsValidVersionUptoRow.holds Try.pinned (OpenSpec.upto fnExactIsValidVersionSpec)

/-- 'laws.FnExactIsValidChain', WHERE WHAT IT READS IS OF BULK AT MOST 1048576: true; the input reads as it did. -/
def fnExactIsValidChainUptoRow : OpenClaim := { program := "ytpejgjmkggmonaa", sum := "9fadf9d9a8f461a7790b196e1709bcb95b74ed8528803cd27546aaf6a5fd9c6b", func := "loop.example/g01924/laws.FnExactIsValidChain", spec := "fnExactIsValidChain", apart := false, narrowed := true }
def FnExactIsValidChainUptoSaid : Prop := fnExactIsValidChainUptoRow.holds Try.pinned (OpenSpec.upto fnExactIsValidChainSpec)

end Rows
end Go.Proofs.Ytpejgjmkggmonaa
