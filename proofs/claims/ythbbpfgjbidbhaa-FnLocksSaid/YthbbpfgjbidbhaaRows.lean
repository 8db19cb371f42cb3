/-
  No cell of these rows narrows 'for every input' (looked for: loops, veiled, ifaces, maps, wideKeys, modest, calm, conditions, laid).
  DERIVED. THE GIVEN ROWS OF THIS SEAT. 6 by the template 'for every input the law returns true; each argument reads behind the call as it read before'; 0 by the template 'total and deterministic' (their statements: YthbbpfgjbidbhaaTotals.lean).
  GIVEN WITH THE SEED: the statements are not yours to turn. If you find one false, say at which input.
  Laid BY PROGRAM, IN A SANDBOX (cutbox-rows.mjs): the forced cells as the released guide's own fill.sh prints them over the translation cd2bd8b176fb694b… (all of the seat's roots in one cut). By AI agents, Wed Nov 11 2026. No macro, syntax, notation, axiom, sorry.
-/
import Derived.Test.YthbbpfgjbidbhaaChecked
import GoSem.Claim
import GoSem.ClaimJoined
import GoSem.ClaimMapViews
import Derived.JoinedTies
import Derived.KernelRfl
namespace Go.Proofs.Ythbbpfgjbidbhaa
/- THE CELL 'sum', in the pinned program and in every row, IS THE sha256 OF THE DUMP (.gsa) THAT YthbbpfgjbidbhaaProg.lean LOADS. Nothing in Lean hashes anything: it is a label: what it is worth is what the hold of that sum in a sandbox is worth. -/
noncomputable def Try.pinned : Pinned := { name := "ythbbpfgjbidbhaa", sum := "cd2bd8b176fb694be0a441e7a799e664e349e037b6da9382a2d29359b3e89ac4", checked := Try.checked }
namespace Rows
def none {H : Type} : Left H := { results := [], args := [] }

/-- 'laws.FnLocks': WHATEVER THE INPUT: true; the input reads as it did. -/
def fnLocksSpec : ChangeSpec := { name := "fnLocks", fn := fun _ => fun
  | [d] => { results := [.lit (.bool true)], args := [d] }
  | _ => none }
def fnLocksRow : OpenClaim := { program := "ythbbpfgjbidbhaa", sum := "cd2bd8b176fb694be0a441e7a799e664e349e037b6da9382a2d29359b3e89ac4", func := "loop.example/g01924/laws.FnLocks", spec := "fnLocks", inPlace := ["(*internal/sync.Mutex).Lock", "internal/race.Disable", "sync/atomic.CompareAndSwapInt32", "internal/race.Enable", "internal/race.Acquire", "(*internal/sync.Mutex).lockSlow", "internal/sync.runtime_canSpin", "internal/sync.runtime_doSpin", "internal/sync.throw", "internal/sync.runtime_nanotime", "internal/sync.runtime_SemacquireMutex", "sync/atomic.AddInt32", "(*internal/sync.Mutex).Unlock", "internal/race.ReleaseMerge", "(*internal/sync.Mutex).unlockSlow", "internal/sync.fatal", "internal/sync.runtime_Semrelease"], unfollowed := true, recurses := true, apart := false }
def FnLocksSaid : Prop := fnLocksRow.holds Try.pinned (OpenSpec.ofChange fnLocksSpec)

/-- ITS FALSE NEIGHBOUR: 'it returns false'. Refute it at one input. -/
def fnLocksWrong : ChangeSpec := { name := "fnLocks", fn := fun _ => fun
  | [d] => { results := [.lit (.bool false)], args := [d] }
  | _ => none }
def FnLocksWrongFalsely : Prop := fnLocksRow.holds Try.pinned (OpenSpec.ofChange fnLocksWrong)

/-- 'laws.FnExactAreLocks': WHATEVER THE INPUT: true; the input reads as it did. -/
def fnExactAreLocksSpec : ChangeSpec := { name := "fnExactAreLocks", fn := fun _ => fun
  | [d] => { results := [.lit (.bool true)], args := [d] }
  | _ => none }
def fnExactAreLocksRow : OpenClaim := { program := "ythbbpfgjbidbhaa", sum := "cd2bd8b176fb694be0a441e7a799e664e349e037b6da9382a2d29359b3e89ac4", func := "loop.example/g01924/laws.FnExactAreLocks", spec := "fnExactAreLocks", apart := false }
def FnExactAreLocksSaid : Prop := fnExactAreLocksRow.holds Try.pinned (OpenSpec.ofChange fnExactAreLocksSpec)

/-- ITS FALSE NEIGHBOUR: 'it returns false'. Refute it at one input. -/
def fnExactAreLocksWrong : ChangeSpec := { name := "fnExactAreLocks", fn := fun _ => fun
  | [d] => { results := [.lit (.bool false)], args := [d] }
  | _ => none }
def FnExactAreLocksWrongFalsely : Prop := fnExactAreLocksRow.holds Try.pinned (OpenSpec.ofChange fnExactAreLocksWrong)

/-- 'laws.FnExactLockOwner': WHATEVER THE INPUT: true; the input reads as it did. -/
def fnExactLockOwnerSpec : ChangeSpec := { name := "fnExactLockOwner", fn := fun _ => fun
  | [d1, d2] => { results := [.lit (.bool true)], args := [d1, d2] }
  | _ => none }
def fnExactLockOwnerRow : OpenClaim := { program := "ythbbpfgjbidbhaa", sum := "cd2bd8b176fb694be0a441e7a799e664e349e037b6da9382a2d29359b3e89ac4", func := "loop.example/g01924/laws.FnExactLockOwner", spec := "fnExactLockOwner", apart := false }
def FnExactLockOwnerSaid : Prop := fnExactLockOwnerRow.holds Try.pinned (OpenSpec.ofChange fnExactLockOwnerSpec)

/-- ITS FALSE NEIGHBOUR: 'it returns false'. Refute it at one input. -/
def fnExactLockOwnerWrong : ChangeSpec := { name := "fnExactLockOwner", fn := fun _ => fun
  | [d1, d2] => { results := [.lit (.bool false)], args := [d1, d2] }
  | _ => none }
def FnExactLockOwnerWrongFalsely : Prop := fnExactLockOwnerRow.holds Try.pinned (OpenSpec.ofChange fnExactLockOwnerWrong)

/-- 'laws.FnExactAcquireLock': WHATEVER THE INPUT: true; the input reads as it did. -/
def fnExactAcquireLockSpec : ChangeSpec := { name := "fnExactAcquireLock", fn := fun _ => fun
  | [d1, d2, d3] => { results := [.lit (.bool true)], args := [d1, d2, d3] }
  | _ => none }
def fnExactAcquireLockRow : OpenClaim := { program := "ythbbpfgjbidbhaa", sum := "cd2bd8b176fb694be0a441e7a799e664e349e037b6da9382a2d29359b3e89ac4", func := "loop.example/g01924/laws.FnExactAcquireLock", spec := "fnExactAcquireLock", inPlace := ["(*internal/sync.Mutex).Lock", "internal/race.Disable", "sync/atomic.CompareAndSwapInt32", "internal/race.Enable", "internal/race.Acquire", "(*internal/sync.Mutex).lockSlow", "internal/sync.runtime_canSpin", "internal/sync.runtime_doSpin", "internal/sync.throw", "internal/sync.runtime_nanotime", "internal/sync.runtime_SemacquireMutex", "sync/atomic.AddInt32", "(*internal/sync.Mutex).Unlock", "internal/race.ReleaseMerge", "(*internal/sync.Mutex).unlockSlow", "internal/sync.fatal", "internal/sync.runtime_Semrelease"], unfollowed := true, recurses := true, apart := false }
def FnExactAcquireLockSaid : Prop := fnExactAcquireLockRow.holds Try.pinned (OpenSpec.ofChange fnExactAcquireLockSpec)

/-- ITS FALSE NEIGHBOUR: 'it returns false'. Refute it at one input. -/
def fnExactAcquireLockWrong : ChangeSpec := { name := "fnExactAcquireLock", fn := fun _ => fun
  | [d1, d2, d3] => { results := [.lit (.bool false)], args := [d1, d2, d3] }
  | _ => none }
def FnExactAcquireLockWrongFalsely : Prop := fnExactAcquireLockRow.holds Try.pinned (OpenSpec.ofChange fnExactAcquireLockWrong)

/-- 'laws.FnExactReleaseLocks': WHATEVER THE INPUT: true; the input reads as it did. -/
def fnExactReleaseLocksSpec : ChangeSpec := { name := "fnExactReleaseLocks", fn := fun _ => fun
  | [d1, d2] => { results := [.lit (.bool true)], args := [d1, d2] }
  | _ => none }
def fnExactReleaseLocksRow : OpenClaim := { program := "ythbbpfgjbidbhaa", sum := "cd2bd8b176fb694be0a441e7a799e664e349e037b6da9382a2d29359b3e89ac4", func := "loop.example/g01924/laws.FnExactReleaseLocks", spec := "fnExactReleaseLocks", unfollowed := true, recurses := true, apart := false }
def FnExactReleaseLocksSaid : Prop := fnExactReleaseLocksRow.holds Try.pinned (OpenSpec.ofChange fnExactReleaseLocksSpec)

/-- ITS FALSE NEIGHBOUR: 'it returns false'. Refute it at one input. -/
def fnExactReleaseLocksWrong : ChangeSpec := { name := "fnExactReleaseLocks", fn := fun _ => fun
  | [d1, d2] => { results := [.lit (.bool false)], args := [d1, d2] }
  | _ => none }
def FnExactReleaseLocksWrongFalsely : Prop := fnExactReleaseLocksRow.holds Try.pinned (OpenSpec.ofChange fnExactReleaseLocksWrong)

/-- 'laws.FnExactLocksOf': WHATEVER THE INPUT: true; the input reads as it did. -/
def fnExactLocksOfSpec : ChangeSpec := { name := "fnExactLocksOf", fn := fun _ => fun
  | [d1, d2] => { results := [.lit (.bool true)], args := [d1, d2] }
  | _ => none }
def fnExactLocksOfRow : OpenClaim := { program := "ythbbpfgjbidbhaa", sum := "cd2bd8b176fb694be0a441e7a799e664e349e037b6da9382a2d29359b3e89ac4", func := "loop.example/g01924/laws.FnExactLocksOf", spec := "fnExactLocksOf", apart := false }
def FnExactLocksOfSaid : Prop := fnExactLocksOfRow.holds Try.pinned (OpenSpec.ofChange fnExactLocksOfSpec)

/-- ITS FALSE NEIGHBOUR: 'it returns false'. Refute it at one input. -/
def fnExactLocksOfWrong : ChangeSpec := { name := "fnExactLocksOf", fn := fun _ => fun
  | [d1, d2] => { results := [.lit (.bool false)], args := [d1, d2] }
  | _ => none }
def FnExactLocksOfWrongFalsely : Prop := fnExactLocksOfRow.holds Try.pinned (OpenSpec.ofChange fnExactLocksOfWrong)

/- THE SECOND FORM. 'bulk': how many values and letters a reading holds, each counted each time it is reached (what is shared counts as often as it is met; a slice's spare places count too). A statement '..UptoSaid' is the law's where the arguments, and the package variables that the reading takes, are together of bulk at most 1048576: NARROWER than '..Said'. Prove '..Said' where nothing that the law and all that it calls make is longer than what came in: it says more and counts as full. Else prove '..UptoSaid'. A law counts once. -/
mutual
def uptoBulk {H : Type} : DataW H → Nat
  | .lit (.string bytes) => bytes.length + 1
  | .lit _ => 1
  | .nil => 1
  | .ptr d => uptoBulk d + 1
  | .slice elems spare => uptoBulkAll elems + uptoBulkAll spare + 1
  | .agg parts => uptoBulkAll parts + 1
  | .iface _ d => uptoBulk d + 1
  | .map entries => uptoBulkEntries entries + 1
  | .held _ => 1
def uptoBulkAll {H : Type} : List (DataW H) → Nat
  | [] => 0
  | d :: r => uptoBulk d + uptoBulkAll r
def uptoBulkEntries {H : Type} : List (Lit × DataW H) → Nat
  | [] => 0
  | x :: r => uptoBulkEntry x + uptoBulkEntries r
def uptoBulkEntry {H : Type} : Lit × DataW H → Nat
  | (.string bytes, d) => bytes.length + uptoBulk d + 1
  | (_, d) => uptoBulk d + 1
 end
def uptoSmall : (H : Type) → List (DataW H) → Bool := fun _ ds => decide (uptoBulkAll ds ≤ 1048576)
def OpenSpec.upto (s : _root_.Go.ChangeSpec) : _root_.Go.OpenSpec := { _root_.Go.OpenSpec.ofChange s with cond := some uptoSmall }

/-- 'laws.FnLocks', WHERE WHAT IT READS IS OF BULK AT MOST 1048576: true; the input reads as it did. -/
def fnLocksUptoRow : OpenClaim := { program := "ythbbpfgjbidbhaa", sum := "cd2bd8b176fb694be0a441e7a799e664e349e037b6da9382a2d29359b3e89ac4", func := "loop.example/g01924/laws.FnLocks", spec := "fnLocks", inPlace := ["(*internal/sync.Mutex).Lock", "internal/race.Disable", "sync/atomic.CompareAndSwapInt32", "internal/race.Enable", "internal/race.Acquire", "(*internal/sync.Mutex).lockSlow", "internal/sync.runtime_canSpin", "internal/sync.runtime_doSpin", "internal/sync.throw", "internal/sync.runtime_nanotime", "internal/sync.runtime_SemacquireMutex", "sync/atomic.AddInt32", "(*internal/sync.Mutex).Unlock", "internal/race.ReleaseMerge", "(*internal/sync.Mutex).unlockSlow", "internal/sync.fatal", "internal/sync.runtime_Semrelease"], unfollowed := true, recurses := true, apart := false, narrowed := true }
def FnLocksUptoSaid : Prop := fnLocksUptoRow.holds Try.pinned (OpenSpec.upto fnLocksSpec)

/-- 'laws.FnExactAreLocks', WHERE WHAT IT READS IS OF BULK AT MOST 1048576: true; the input reads as it did. -/
def fnExactAreLocksUptoRow : OpenClaim := { program := "ythbbpfgjbidbhaa", sum := "cd2bd8b176fb694be0a441e7a799e664e349e037b6da9382a2d29359b3e89ac4", func := "loop.example/g01924/laws.FnExactAreLocks", spec := "fnExactAreLocks", apart := false, narrowed := true }
def FnExactAreLocksUptoSaid : Prop := fnExactAreLocksUptoRow.holds Try.pinned (OpenSpec.upto fnExactAreLocksSpec)

/-- 'laws.FnExactLockOwner', WHERE WHAT IT READS IS OF BULK AT MOST 1048576: true; the input reads as it did. -/
def fnExactLockOwnerUptoRow : OpenClaim := { program := "ythbbpfgjbidbhaa", sum := "cd2bd8b176fb694be0a441e7a799e664e349e037b6da9382a2d29359b3e89ac4", func := "loop.example/g01924/laws.FnExactLockOwner", spec := "fnExactLockOwner", apart := false, narrowed := true }
def FnExactLockOwnerUptoSaid : Prop := fnExactLockOwnerUptoRow.holds Try.pinned (OpenSpec.upto fnExactLockOwnerSpec)

/-- 'laws.FnExactAcquireLock', WHERE WHAT IT READS IS OF BULK AT MOST 1048576: true; the input reads as it did. -/
def fnExactAcquireLockUptoRow : OpenClaim := { program := "ythbbpfgjbidbhaa", sum := "cd2bd8b176fb694be0a441e7a799e664e349e037b6da9382a2d29359b3e89ac4", func := "loop.example/g01924/laws.FnExactAcquireLock", spec := "fnExactAcquireLock", inPlace := ["(*internal/sync.Mutex).Lock", "internal/race.Disable", "sync/atomic.CompareAndSwapInt32", "internal/race.Enable", "internal/race.Acquire", "(*internal/sync.Mutex).lockSlow", "internal/sync.runtime_canSpin", "internal/sync.runtime_doSpin", "internal/sync.throw", "internal/sync.runtime_nanotime", "internal/sync.runtime_SemacquireMutex", "sync/atomic.AddInt32", "(*internal/sync.Mutex).Unlock", "internal/race.ReleaseMerge", "(*internal/sync.Mutex).unlockSlow", "internal/sync.fatal", "internal/sync.runtime_Semrelease"], unfollowed := true, recurses := true, apart := false, narrowed := true }
def FnExactAcquireLockUptoSaid : Prop := fnExactAcquireLockUptoRow.holds Try.pinned (OpenSpec.upto fnExactAcquireLockSpec)

/-- 'laws.FnExactReleaseLocks', WHERE WHAT IT READS IS OF BULK AT MOST 1048576: true; the input reads as it did. -/
def fnExactReleaseLocksUptoRow : OpenClaim := { program := "ythbbpfgjbidbhaa", sum := "cd2bd8b176fb694be0a441e7a799e664e349e037b6da9382a2d29359b3e89ac4", func := "loop.example/g01924/laws.FnExactReleaseLocks", spec := "fnExactReleaseLocks", unfollowed := true, recurses := true, apart := false, narrowed := true }
def FnExactReleaseLocksUptoSaid : Prop := fnExactReleaseLocksUptoRow.holds Try.pinned (OpenSpec.upto fnExactReleaseLocksSpec)

/-- 'laws.FnExactLocksOf', WHERE WHAT IT READS IS OF BULK AT MOST 1048576: true; the input reads as it did. -/
def fnExactLocksOfUptoRow : OpenClaim := { program := "ythbbpfgjbidbhaa", sum := "cd2bd8b176fb694be0a441e7a799e664e349e037b6da9382a2d29359b3e89ac4", func := "loop.example/g01924/laws.FnExactLocksOf", spec := "fnExactLocksOf", apart := false, narrowed := true }
def FnExactLocksOfUptoSaid : Prop := fnExactLocksOfUptoRow.holds Try.pinned (OpenSpec.upto fnExactLocksOfSpec)

end Rows
end Go.Proofs.Ythbbpfgjbidbhaa
