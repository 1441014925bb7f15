import Derived.Test.YthhbpebihgjpjaaGreatDoorZ01
import Derived.Test.YthhbpebihgjpjaaGreatDoorCards
import Derived.SevenTiedAt
import Derived.LaidOnce
namespace Go.Proofs.YthhbpebihgjpjaaGreatDoor
set_option maxRecDepth 100000
set_option maxHeartbeats 20000000
set_option linter.all false
theorem ai2:Tryz.prog.laidByTextLater (Rows.stillRow.laid.take 12) (Rows.stillCard.laidKinds.take 12) true:=
 Program.laidByTextLater_by_one 202 8 65 (by kernel_rfl) (by kernel_rfl) (by kernel_rfl) (by kernel_rfl) (by kernel_rfl) (by kernel_rfl) (fun _ _=>by kernel_rfl)
theorem ai3 : Tryz.pinned.checked.prog.pinnedFits "unicode/utf8.first" = true := by kernel_rfl
theorem ai4 : Tryz.pinned.checked.prog.headLifts.contains "ownunsafe" = false := by kernel_rfl
theorem ai5:Tryz.pinned.checked.prog.listedFits Rows.stillRow.laid=true:=by unfold Program.listedFits;rw[ai4];kernel_rfl
theorem Xn:Rows.stillRow.laidByTextAt .later Tryz.pinned Rows.stillCard.laidKinds true:=
 OpenClaim.laidByTextAt_pinned rfl rfl ai2 rfl rfl rfl rfl
  (fun y hy e=>by
    rw[show Rows.stillRow.laid.zip Rows.stillCard.laidKinds=(Rows.stillRow.laid.zip Rows.stillCard.laidKinds).take 12++(Rows.stillRow.laid.zip Rows.stillCard.laidKinds).drop 12 from rfl] at hy
    rcases bK.1 hy with h|h
    ·have q:((Rows.stillRow.laid.zip Rows.stillCard.laidKinds).take 12).all (fun y=>y.2 !=.pinned)=true:=rfl;have:=qZ.1 q y h;rw[e] at this
     cases this
    obtain rfl:=bg.1 h
    exact⟨ai3,by kernel_rfl⟩) ai5
