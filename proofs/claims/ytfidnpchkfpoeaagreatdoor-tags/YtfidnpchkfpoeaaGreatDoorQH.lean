import Derived.Test.YtfidnpchkfpoeaaGreatDoorW3
import Derived.Test.YtfidnpchkfpoeaaGreatDoorRows
import Derived.Test.YtfidnpchkfpoeaaGreatDoorCards
import Derived.Test.YtfidnpchkfpoeaaGreatDoorTie
import Derived.ProofKit
import Derived.OpenShut
import Derived.Deep.Slices
import Derived.Deep.DeepHandedRow
import Derived.Lib.LaidTab
import Derived.SizedLaws
import Derived.Stop.LaidErr
namespace Go.Proofs.YtfidnpchkfpoeaaGreatDoor
open Go.ChangeShapes Go.WideShapes Go.ChangeAt Go.RowKit Go.Deep

theorem own : ownKnob Tryz.prog.godebug = none := by kernel_rfl
theorem laidOut : laidOutB Tryz.prog = true := by kernel_rfl
theorem gH : Tryz.prog.globalNamed "strongbox/sha2.firstWords" = some 0 := by kernel_rfl
theorem gK : Tryz.prog.globalNamed "strongbox/sha2.roundWords" = some 1 := by kernel_rfl
theorem gHt : (Tryz.prog.globals[0]?).map (·.type) = some 131 := by kernel_rfl
theorem gKt : (Tryz.prog.globals[1]?).map (·.type) = some 198 := by kernel_rfl
theorem c8 : Tryz.prog.cellsOf 131 = 8 := by kernel_rfl
theorem c64 : Tryz.prog.cellsOf 198 = 64 := by kernel_rfl
theorem c32 : Tryz.prog.cellsOf 130 = 1 := by kernel_rfl
theorem tabs2 {W : World} (h' : laidMet Tryz.prog [("strongbox/sha2.firstWords", Lib.tabData .u32 (Sha.H0.list.map fun (n : Nat) => (n : Int))), ("strongbox/sha2.roundWords", Lib.tabData .u32 (Sha.Kt.map fun (n : Nat) => (n : Int)))] W) : HTab W ∧ KTab W := by
  have t1 := Lib.tabIs_of_head gH gHt Tryz.underlying131 Tryz.underlying130 c32 c8 h'
  have t2 := Lib.tabIs_of_head gK gKt Tryz.underlying198 Tryz.underlying130 c32 c64 h'.tail
  refine ⟨fun i hi => ?_, fun i hi => ?_⟩
  · have hl : i < Sha.H0.list.length := hi
    rw [t1.cell gH i (by simpa using hl)]
    simp [Sha.wAt, List.getD, hl]
  · have hl : i < Sha.Kt.length := hi
    rw [t2.cell gK i (by simpa using hl)]
    simp [Sha.wAt, List.getD, hl]
/-- A block, laid anew. -/
def laidIn (ns : List Nat) : Obj → Obj
  | .cells _ t frozen => .cells (ns.map fun (n : Nat) => Value.int .u32 (n : Int)).toArray t frozen
  | o => o
/-- A WORLD FOR THE WITNESS: the tables hold what their initialisers lay. -/
def laidWorld (P : Program) (os : Os) : World :=
  { World.holding P os ⟨#[], #[], []⟩ with heap := ((World.holding P os ⟨#[], #[], []⟩).heap.modify 0 (laidIn Sha.H0.list)).modify 1 (laidIn Sha.Kt) }
end Go.Proofs.YtfidnpchkfpoeaaGreatDoor
