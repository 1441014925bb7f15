import Derived.Test.YthhbpebihgjpjaaGreatDoorRows
import Derived.ProofKit
import Derived.LaidMore
import Derived.LaidHandle
import Derived.OpenShut
import Derived.Stop.Joined
import Derived.Stop.LaidTwo
import Derived.Lib.LaidTab
namespace Go.Proofs.YthhbpebihgjpjaaGreatDoor
open Go.ChangeShapes Go.WideShapes Go.RowKit
set_option maxRecDepth 1000000

theorem Tryz.own : ownKnob Tryz.prog.godebug = none := by kernel_rfl
/-- The library's pinned table, in the door's own heap . -/
def pinFirst : Obj → Obj
  | .cells _ t frozen => .cells (Go.Pinned.utf8FirstZ.map fun n : Nat => Value.int .u8 (n : Int)).toArray t frozen
  | o => o
end Go.Proofs.YthhbpebihgjpjaaGreatDoor
