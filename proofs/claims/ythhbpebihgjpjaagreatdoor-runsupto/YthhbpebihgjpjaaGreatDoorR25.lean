import Derived.Test.YthhbpebihgjpjaaGreatDoorR24
namespace Go.Proofs.YthhbpebihgjpjaaGreatDoor
open Go.RowKit
set_option maxRecDepth 1000000

set_option maxHeartbeats 2000000 in
theorem sums_any (ao : Option Addr) (n cap : Nat) (w : World) (hs : ScriptAt w ao n) (hr : RoundsAt w) :
    Calls Tryz.prog 3 #[.slice ao n cap] w fun e w' => e = .returned (.bool true) ∧ Keeps w.heap.size w w' := by
  have HS : Hid (ScriptAt w ao n) := hs
  have HR : Hid (RoundsAt w) := hr
  clear hs hr
  go_enter Tryz.func3, Tryz.ntmps3
  go_wp2_with fail
  go_enter Tryz.func14, Tryz.ntmps14
  go_wp2_with fail
  refine (small_any ao n cap w HS.out).mono ?_
  rintro e w1 ⟨r, rfl, hb1⟩
  have HB1 : Hid (Below w.heap.size w w1) := hb1
  clear hb1
  cases r
  · go_wp2
    first
      | (go_ret; exact ⟨rfl, Keeps.of HB1.out⟩)
      | skip
  · go_wp2_with fail
    refine (upto_sums ao n cap w1 (HS.out.later HB1.out.size HB1.out.block) (HR.out.later HB1.out.block)).mono ?_
    rintro e w2 ⟨rfl, hk2⟩
    have HK2 : Hid (Keeps w.heap.size w w2) := (Keeps.of HB1.out).trans (hk2.mono HB1.out.size)
    clear hk2
    go_wp2
    first
      | (go_ret; exact ⟨rfl, HK2.out⟩)
      | skip
end Go.Proofs.YthhbpebihgjpjaaGreatDoor
