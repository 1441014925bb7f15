import Derived.Test.YthhbpebihgjpjaaGreatDoorS18
import Derived.Laws.BytesString
namespace Go.Proofs.YthhbpebihgjpjaaGreatDoor
open Go.RowKit
set_option maxRecDepth 1000000

/-- Thirty-two bytes as a text. -/
def outStr (f : Nat → Nat) : ByteArray := ⟨((List.range 32).map fun j => UInt8.ofNat (f j)).toArray⟩
theorem push_all (ns : List Int) : ∀ r : ByteArray, (ns.foldl (fun r n => r.push (UInt8.ofNat n.toNat)) r) = ⟨r.data ++ (ns.map fun n => UInt8.ofNat n.toNat).toArray⟩ := by
  induction ns with
  | nil => intro r; simp
  | cons n ns ih =>
    intro r
    rw [List.foldl_cons, ih]
    simp [ByteArray.push]
theorem run_out_string {P : Program} (w : World) (src dst e : TypeId) (g : Nat) (t : TypeId) (f : Nat → Nat)
    (hs : P.underlying src = some (.slice e)) (he : P.underlying e = some (.int .u8)) (hd : P.underlying dst = some .string) (hg : w.heap[g]? = some (.cells (outF f) t (0, 0))) :
    (convert src dst (.slice (some ⟨g, 0, none⟩) 32 32)).run P w = .ok (.string (outStr f)) w := by
  rw [run_convert_bytes_string w src dst e _ _ _ hs he hd]
  have hl : (loadCells ⟨g, 0, none⟩ (outF f).toList.length).run P w = .ok (outF f).toList.toArray w :=
    run_loadCells_list (P := P) w ⟨g, 0, none⟩ (outF f).toList (fun j v hv => by
      have hadd : (⟨g, 0, none⟩ : Addr).add j = ⟨g, j, none⟩ := by unfold Addr.add; split <;> simp_all
      rw [hadd, cell_of_row w g j _ t _ hg]
      simpa using hv)
  rw [Array.length_toList, outF_size, Array.toArray_toList] at hl
  have e1 : outF f = (((List.range 32).map fun i => ((f i : Nat) : Int)).map (Value.int .u8)).toArray := by simp [outF]
  rw [e1] at hl
  have e2 : (((List.range 32).map fun i => ((f i : Nat) : Int)).foldl (fun r n => r.push (UInt8.ofNat n.toNat)) ByteArray.empty) = outStr f := by
    rw [push_all, List.map_map]
    show (⟨#[] ++ ((List.range 32).map ((fun n : Int => UInt8.ofNat n.toNat) ∘ fun i => ((f i : Nat) : Int))).toArray⟩ : ByteArray) = _
    rw [Array.empty_append]
    rfl
  rw [run_bytesToString w _ _ _ _ hl, e2]

set_option maxHeartbeats 2000000 in
theorem sum_any (K : Nat → Nat) (t : ByteArray) (ht : t.size < 140737488355328) (w : World)
    (hK : ∀ i, i < 64 → w.cell? ⟨10, i, none⟩ = some (.int .u32 (K i))) (hKl : ∀ i, K i < 4294967296) :
    Calls Tryz.prog 77 #[.string t] w fun e w' => ∃ s : Sha.St, Hid (s = codeSum K t.data.toList) ∧ e = .returned (.string (outStr s.byte)) ∧ Below w.heap.size w w' := by
  have i67 : (Tryz.prog.info? 217).map (·.size) = some 32 := by kernel_rfl
  go_enter Tryz.func77, Tryz.ntmps77
  go_wp2_with fail
  refine (of_any K t ht _ hK hKl).mono ?_
  rintro e w1 ⟨s, HS, rfl, hb1⟩
  have hy1 := outF_size s.byte
  go_wp2_with (refine wpList_store_mid rfl 217 _ _ rfl w1.heap.size 0 (outF s.byte) rfl rfl (there_of_row (heapA_new _ _ _ rfl) 0 _ (by rw [hy1]; decide)) (by rw [hy1]; exact i67) (outF_one _) ?_; refine Hid.out ?_)
  rw [← outF_zero]
  have hrow : ((w1.alloc (.cells (outF fun _ => 0) 217)).setCells w1.heap.size 0 (outF s.byte).toList).heap[w1.heap.size]? = some (.cells (outF s.byte) 217 (0, 0)) := heapC_row _ _ _ _ _ (heapA_new _ _ _ rfl) (by rw [hy1, outF_size])
  have HB : Hid (Below w.heap.size w ((w1.alloc (.cells (outF fun _ => 0) 217)).setCells w1.heap.size 0 (outF s.byte).toList)) := belowC _ _ (hb1.alloc hb1.size _) hb1.size
  have HR : Hid (((w1.alloc (.cells (outF fun _ => 0) 217)).setCells w1.heap.size 0 (outF s.byte).toList).heap[w1.heap.size]? = some (.cells (outF s.byte) 217 (0, 0))) := hrow
  clear hrow hb1
  generalize (w1.alloc (.cells (outF fun _ => 0) 217)).setCells w1.heap.size 0 (outF s.byte).toList = w2 at *
  have hconv := run_out_string (P := Tryz.prog) w2 219 9 5 w1.heap.size 217 s.byte Tryz.underlying219 Tryz.underlying5 Tryz.underlying9 HR.out
  unfold Hid
  go_wp2
  go_ret
  exact ⟨s, HS, rfl, HB.out⟩
end Go.Proofs.YthhbpebihgjpjaaGreatDoor
