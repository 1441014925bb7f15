import Derived.Test.YthhbpebihgjpjaaGreatDoorR28
import Derived.Test.YthhbpebihgjpjaaGreatDoorR46
import Derived.Test.YthhbpebihgjpjaaGreatDoorR47
import Derived.Carry
import Derived.JoinedCond
import Derived.Deep.DeepHandedRow
import Derived.Deep.DeepWitnessRowRef
namespace Go.Proofs.YthhbpebihgjpjaaGreatDoor
open Go.ChangeShapes Go.WideShapes Go.RowKit

theorem Tryz.laidOut : laidOutB Tryz.prog = true := by kernel_rfl
/-- What is kept, as the reader's laws ask it: nothing that is read hangs on the tape. -/
theorem Keeps.below {W W' : World} (h : Keeps W.heap.size W W') : Below W.heap.size W { W' with tape := W.tape } := ⟨h.os, rfl, h.output, h.size, h.block⟩
theorem Keeps.frame {W W' : World} (h : Keeps W.heap.size W W') (may : MemPlace → Prop) : W.keptBut W' may := h.below.frame may

theorem runs_laid : Rows.runsUptoRow.laid = Rows.sumsRow.laid := rfl
theorem runs_met (os : Os) (args : Array Value) : laidMetH Tryz.prog Rows.runsUptoRow.laid (({ World.doorLaid Tryz.prog 4000 os with heap := (World.doorLaid Tryz.prog 4000 os).heap.modify 12 pinFirst } : World).forCall (fun _ _ => 0) ⟨#[], args, []⟩).memory := by
  rw [runs_laid]; exact laid_met os args
theorem runs_reads (os : Os) {H : Type} (enc : TypeId × Value → H) : ∃ places, DataW.whole enc Tryz.prog (({ World.doorLaid Tryz.prog 4000 os with heap := (World.doorLaid Tryz.prog 4000 os).heap.modify 12 pinFirst } : World).forCall (fun _ _ => 0) ⟨#[], #[.slice none 0 0], []⟩).memory Tryz.f7.params.toList (Rows.OpenSpec.upto Rows.runsSpec).vars false #[Value.slice none 0 0].toList 8 = some ([.nil], [], places) :=
  ⟨[], by kernel_rfl⟩

set_option maxRecDepth 100000 in
theorem runs_witness (os : Os) {H : Type} (enc : TypeId × Value → H) : ∃ (w : World) (tape : Tape) (i : Input), w.os = os ∧ (w.forCall tape i).Shaped Tryz.checked.prog ∧ i.vars = [] ∧ Input.okWide Tryz.checked.prog (w.forCall tape i) .any w.heap.size 7 i ∧
      (Rows.OpenSpec.upto Rows.runsSpec).preRow enc Tryz.checked.prog Tryz.f7 Rows.runsUptoRow.domain false Rows.runsUptoRow.laid (w.forCall tape i).memory i.args ∧ ({} : Assume).holds Tryz.checked.prog (lone (Frame.enter Tryz.checked.prog 7 i.args .normal) [] (w.forCall tape i)) := by
  obtain ⟨places, hx⟩ := runs_reads os enc
  exact witness_row_atRef (enc := enc) (C := Tryz.checked) false ({ World.doorLaid Tryz.prog 4000 os with heap := (World.doorLaid Tryz.prog 4000 os).heap.modify 12 pinFirst } : World) #[.slice none 0 0] rfl (by kernel_rfl) (by kernel_rfl) (by kernel_rfl)
      (OpenSpec.preRow_of_cond 8 hx (by kernel_rfl) (fun k hk => by cases hk; kernel_rfl) (by kernel_rfl) (runs_met os _))

set_option maxRecDepth 100000 in
theorem runs_lifted (os : Os) (started : os.Started) (H : Type) (enc : TypeId × Value → H) (F : Stop.Interp) :
    ReturnsInHanded {} Tryz.checked os 7 .any ((Rows.OpenSpec.upto Rows.runsSpec).preRow enc Tryz.prog Tryz.f7 Rows.runsUptoRow.domain false Rows.runsUptoRow.laid) (((Rows.OpenSpec.upto Rows.runsSpec).at F).post enc Tryz.prog Tryz.f7 false true false false) := by
  refine returnsInHanded_of_row (C := Tryz.checked) (s := Rows.OpenSpec.upto Rows.runsSpec) Tryz.own started (by kernel_rfl) Tryz.func7 (runs_witness os enc) ?_
  intro W base args ds gs before hval0 hW _ hcond hsz hL _ _
  have hW' := hW
  have hlt := hW.lt
  obtain ⟨p, q, hA0, hV, rfl, hfz, hnd⟩ := hW
  have hA : DataW.TrodAll enc Tryz.prog W 0 (fun _ => true) true Tryz.f7.params.toList args.toList ds p := hA0
  rw [Tryz.params7] at hA hval0
  obtain ⟨v, d, rfl, rfl, h0⟩ := trodAll_one hA
  obtain ⟨rfl, rfl⟩ := trodVars_none hV
  obtain ⟨ao, n, cap, rfl⟩ := okWide_slice Tryz.underlying22 (hval0 0 22 v rfl rfl)
  have hw : ∀ m ∈ d.weights Tryz.prog 22, m ≤ reachBytes := fun m hm => by
    have := List.all_eq_true.1 hsz m (DataW.weights_mem_each (j := 0) (t := 22) (d := d) (by rw [Tryz.params7]; rfl) rfl m hm)
    simpa using this
  have hbk : Rows.uptoBulk d ≤ 1048576 := by
    have h := of_decide_eq_true (hcond _ rfl)
    simp only [List.append_nil, Rows.uptoBulkAll] at h
    omega
  have hS := script_up h0 hw hbk ao n cap rfl
  have e1 : Rows.runsSpec.fn H ([d] ++ []) = { results := [.lit (.bool true)], args := [d] } := by simp [Rows.runsSpec]
  refine (runs_any ao n cap W hS (rounds_of_laid (by rw [← runs_laid]; exact hL))).mono fun e W' ⟨he, hk⟩ => ?_
  subst he
  simp only [List.append_nil] at hW' hlt
  refine ⟨_, rfl, _, _, _, [], p, [], hW', ?_, ?_, ?_, hk.frame _, fun h => by cases h⟩
  · show DataW.TrodAll _ _ _ _ _ _ _ _ (Rows.runsSpec.fn H ([d] ++ [])).results _
    rw [e1]; exact trodAll_mk1 (shut_bool Tryz.underlying4 true)
  · show DataW.TrodAll _ _ _ _ _ _ _ _ (Rows.runsSpec.fn H ([d] ++ [])).args _
    rw [e1]; exact trodAll_mk1 (DataW.Trod.of_heap (w := { W' with tape := W.tape }) (w' := W') rfl (Below.trod Tryz.laidOut (by kernel_rfl) (of_decide_eq_true (by kernel_rfl)) h0 hk.below hlt))
  · show DataW.TrodVars _ _ _ _ _ (Rows.runsSpec.fn H ([d] ++ [])).vars _
    rw [e1]; rfl

end Go.Proofs.YthhbpebihgjpjaaGreatDoor
