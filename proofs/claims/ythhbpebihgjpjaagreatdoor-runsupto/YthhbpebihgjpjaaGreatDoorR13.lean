import Derived.Test.YthhbpebihgjpjaaGreatDoorR12
namespace Go.Proofs.YthhbpebihgjpjaaGreatDoor
open Go.RowKit
set_option maxRecDepth 1000000

theorem newMaker_any (w : World) :
    Calls Tryz.prog 55 #[] w fun e w' => ∃ m vk vh, e = .returned (.pointer (some ⟨m, 0, none⟩)) ∧ w.heap.size ≤ m ∧ w'.heap[m]? = some (.cells #[vk, vh] 156 (0, 0)) ∧ Own w.heap.size vk keys w' ∧ Own w.heap.size vh heads w' ∧ Below w.heap.size w w' := by
  go_enter Tryz.func55, Tryz.ntmps55
  go_wp2_with fail
  refine (constants_any _).mono ?_
  rintro e w1 ⟨vk, vh, rfl, hk, hh, hb⟩
  have HK : Hid (Own w.heap.size vk keys w1) := hk
  have HH : Hid (Own w.heap.size vh heads w1) := hh
  have HB : Hid (Below w.heap.size w w1) := hb
  obtain ⟨a1, c1, e1⟩ := hk.form
  obtain ⟨a2, c2, e2⟩ := hh.form
  clear hk hh hb
  subst e1 e2
  go_wp2
  go_ret
  exact ⟨w1.heap.size, _, _, rfl, HB.out.size, heapA_new _ _ _ rfl, HK.out.later (fun k hk => heapA_old w1 _ k hk), HH.out.later (fun k hk => heapA_old w1 _ k hk), HB.out.alloc HB.out.size _⟩
end Go.Proofs.YthhbpebihgjpjaaGreatDoor
