import Derived.Test.YthhbpebihgjpjaaGreatDoorRows
import Derived.Test.YthhbpebihgjpjaaGreatDoorR25
import Derived.Test.YthhbpebihgjpjaaGreatDoorR26
import Derived.Test.YthhbpebihgjpjaaGreatDoorR27
import Derived.ProofKit
import Derived.LaidMore
import Derived.LaidHandle
import Derived.OpenShut
import Derived.Stop.Joined
import Derived.Stop.LaidTwo
import Derived.Lib.LaidTab
namespace Go.Proofs.YthhbpebihgjpjaaGreatDoor
open Go.ChangeShapes Go.WideShapes Go.RowKit
set_option maxRecDepth 1000000

theorem Tryz.gRounds : Tryz.prog.globalNamed "builder/sums.roundWords" = some 10 := by kernel_rfl
theorem Tryz.tRounds : (Tryz.prog.globals[10]?).map (·.type) = some 412 := by kernel_rfl
theorem Tryz.cRounds : Tryz.prog.cellsOf 412 = 64 := by kernel_rfl
theorem Tryz.cU32 : Tryz.prog.cellsOf 88 = 1 := by kernel_rfl

/-- What the list gives: the table's cells. -/
theorem rounds_of_laid {W : World} (h : laidMetH Tryz.prog Rows.sumsRow.laid W) : RoundsAt W := by
  have h' : laidMet Tryz.prog (("builder/sums.roundWords", Lib.tabData .u32 (keys.map fun x : Nat => (x : Int))) :: (Rows.sumsRow.laid.filter fun x => x.2.handleName?.isNone).tail) W := h.1
  have ht := Lib.tabIs_of_head Tryz.gRounds Tryz.tRounds Tryz.underlying412 Tryz.underlying88 Tryz.cU32 Tryz.cRounds h'
  intro i hi
  have := ht.cell Tryz.gRounds i (by rw [List.length_map]; exact hi)
  rw [this]
  unfold keyAt
  have hi' : i < keys.length := hi
  simp [hi']

theorem laid_met (os : Os) (args : Array Value) : laidMetH Tryz.prog Rows.sumsRow.laid (({ World.doorLaid Tryz.prog 4000 os with heap := (World.doorLaid Tryz.prog 4000 os).heap.modify 12 pinFirst } : World).forCall (fun _ _ => 0) ⟨#[], args, []⟩).memory :=
  laidMetH_of_parts3 (fuel := 8) (laidMet_of_run' 8 (by kernel_rfl) (by kernel_rfl)) (by kernel_rfl) (by kernel_rfl)
end Go.Proofs.YthhbpebihgjpjaaGreatDoor
