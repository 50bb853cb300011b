/-
  The library's lock, by its numbers in this dump (types *sync.Mutex and *internal/sync.Mutex by number: both bear one name).
-/
import Derived.Test.YteockaolmobmeaaGreatDoorProg
import Derived.Conc.RwLib
import Derived.Conc.MuData
import Derived.Conc.MuLone
import Derived.KernelRfl
namespace Go.Proofs
abbrev Tryz.muLink : Go.Conc.Locks.MuLink := { lock := 98, unlock := 99, ilock := 106, iunlock := 107, lockSlow := 116, unlockSlow := 119, disable := 112, enable := 114, acquire := 115, relMerge := 117, cas32 := 113, add32 := 118, tMutex := 111, tIMutex := 109, tPMutex := 162, tPIMutex := 178, tPI32 := 180, tUP := 90, tNoCopy := 104, tU32 := 92 }
theorem Tryz.muLib : Go.Conc.Locks.MuLib Tryz.prog Tryz.muLink :=
  ⟨Tryz.func98, Tryz.func99, Tryz.func106, Tryz.func107, Tryz.func112, Tryz.func114, Tryz.func115, Tryz.func117, Tryz.func113, Tryz.func118,
    Tryz.underlying109, Tryz.runUnderlying109, Tryz.sizeOf109, Tryz.isAgg109, Tryz.zeroValue109, Tryz.underlying111, Tryz.runUnderlying111, Tryz.sizeOf111, Tryz.isAgg111, Tryz.zeroValue111, Tryz.underlying162, Tryz.runUnderlying162, Tryz.sizeOf162, Tryz.isAgg162, Tryz.zeroValue162, Tryz.underlying178, Tryz.runUnderlying178, Tryz.sizeOf178, Tryz.isAgg178, Tryz.zeroValue178, Tryz.underlying180, Tryz.runUnderlying180, Tryz.sizeOf180, Tryz.isAgg180, Tryz.zeroValue180, Tryz.underlying90, Tryz.runUnderlying90, Tryz.sizeOf90, Tryz.isAgg90, Tryz.zeroValue90, Tryz.underlying104, Tryz.runUnderlying104, Tryz.sizeOf104, Tryz.isAgg104, Tryz.zeroValue104, Tryz.underlying21, Tryz.runUnderlying21, Tryz.sizeOf21, Tryz.isAgg21, Tryz.zeroValue21, (by kernel_rfl)⟩
end Go.Proofs

