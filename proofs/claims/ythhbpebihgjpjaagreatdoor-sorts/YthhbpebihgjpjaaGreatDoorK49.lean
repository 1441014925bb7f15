import Derived.Test.YthhbpebihgjpjaaGreatDoorRows
import Derived.JoinedOf
import Derived.KernelRfl
namespace Go.Proofs.YthhbpebihgjpjaaGreatDoor
set_option maxRecDepth 100000

set_option maxHeartbeats 20000000 in
/-- The closed facts, one declaration each. -/
theorem sorts_facts : joinedFacts Tryz.prog 12 Tryz.f12 Rows.sortsSpec Rows.sortsRow = true := by
  unfold joinedFacts
  simp only [Bool.and_eq_true]
  repeat' apply And.intro
  all_goals (as_aux_lemma => kernel_rfl)
end Go.Proofs.YthhbpebihgjpjaaGreatDoor
