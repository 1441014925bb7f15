import Derived.Test.YthhbpebihgjpjaaGreatDoorZ01
import Derived.Test.YthhbpebihgjpjaaGreatDoorRows
import Derived.JoinedOf
namespace Go.Proofs.YthhbpebihgjpjaaGreatDoor
set_option maxRecDepth 100000
set_option maxHeartbeats 20000000
set_option linter.all false
theorem Uz:joinedFacts Tryz.prog 10 Tryz.f10 Rows.stillSpec Rows.stillRow=true:=by
 unfold joinedFacts;simp only[qW]
 repeat' apply aK
 all_goals (as_aux_lemma=>kernel_rfl)
