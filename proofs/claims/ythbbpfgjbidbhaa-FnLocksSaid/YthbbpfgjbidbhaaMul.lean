/- The numbers under which this program holds sync.Mutex's functions and types, and that it holds them. -/
import Derived.Test.YthbbpfgjbidbhaaRows
import Derived.Conc.MuLone
import Derived.KernelRfl
namespace Go.Proofs.Ythbbpfgjbidbhaa.mul
abbrev muLink : Go.Conc.Locks.MuLink := { lock := 48, unlock := 49, ilock := 53, iunlock := 54, lockSlow := 62, unlockSlow := 65, disable := 58, enable := 60, acquire := 61, relMerge := 63, cas32 := 59, add32 := 64, tMutex := 74, tIMutex := 72, tPMutex := 82, tPIMutex := 86, tPI32 := 88, tUP := 90, tNoCopy := 69, tU32 := 70 }
theorem muLib : Go.Conc.Locks.MuLib Try.prog muLink :=
  ⟨Try.func48, Try.func49, Try.func53, Try.func54, Try.func58, Try.func60, Try.func61, Try.func63, Try.func59, Try.func64, Try.underlying72, Try.runUnderlying72, Try.sizeOf72, Try.isAgg72, Try.zeroValue72, Try.underlying74, Try.runUnderlying74, Try.sizeOf74, Try.isAgg74, Try.zeroValue74, Try.underlying82, Try.runUnderlying82, Try.sizeOf82, Try.isAgg82, Try.zeroValue82, Try.underlying86, Try.runUnderlying86, Try.sizeOf86, Try.isAgg86, Try.zeroValue86, Try.underlying88, Try.runUnderlying88, Try.sizeOf88, Try.isAgg88, Try.zeroValue88, Try.underlying90, Try.runUnderlying90, Try.sizeOf90, Try.isAgg90, Try.zeroValue90, Try.underlying69, Try.runUnderlying69, Try.sizeOf69, Try.isAgg69, Try.zeroValue69, Try.underlying21, Try.runUnderlying21, Try.sizeOf21, Try.isAgg21, Try.zeroValue21, (by kernel_rfl)⟩
end Go.Proofs.Ythbbpfgjbidbhaa.mul
