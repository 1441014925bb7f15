import Derived.Test.YthhbpebihgjpjaaGreatDoorR17
import Derived.Laws.BytesString
namespace Go.Proofs.YthhbpebihgjpjaaGreatDoor
open Go.RowKit
set_option maxRecDepth 1000000

/-- Thirty-two bytes as a text. -/
def outStr (f : Nat → Nat) : ByteArray := ⟨((List.range 32).map fun j => UInt8.ofNat (f j)).toArray⟩
theorem push_all (ns : List Int) : ∀ r : ByteArray, (ns.foldl (fun r n => r.push (UInt8.ofNat n.toNat)) r) = ⟨r.data ++ (ns.map fun n => UInt8.ofNat n.toNat).toArray⟩ := by
  induction ns with
  | nil => intro r; simp
  | cons n ns ih =>
    intro r
    rw [List.foldl_cons, ih]
    simp [ByteArray.push]
theorem run_out_string {P : Program} (w : World) (src dst e : TypeId) (g : Nat) (t : TypeId) (f : Nat → Nat)
    (hs : P.underlying src = some (.slice e)) (he : P.underlying e = some (.int .u8)) (hd : P.underlying dst = some .string) (hg : w.heap[g]? = some (.cells (outF f) t (0, 0))) :
    (convert src dst (.slice (some ⟨g, 0, none⟩) 32 32)).run P w = .ok (.string (outStr f)) w := by
  rw [run_convert_bytes_string w src dst e _ _ _ hs he hd]
  have hl : (loadCells ⟨g, 0, none⟩ (outF f).toList.length).run P w = .ok (outF f).toList.toArray w :=
    run_loadCells_list (P := P) w ⟨g, 0, none⟩ (outF f).toList (fun j v hv => by
      have hadd : (⟨g, 0, none⟩ : Addr).add j = ⟨g, j, none⟩ := by unfold Addr.add; split <;> simp_all
      rw [hadd, cell_of_row w g j _ t _ hg]
      simpa using hv)
  rw [Array.length_toList, outF_size, Array.toArray_toList] at hl
  have e1 : outF f = (((List.range 32).map fun i => ((f i : Nat) : Int)).map (Value.int .u8)).toArray := by simp [outF]
  rw [e1] at hl
  have e2 : (((List.range 32).map fun i => ((f i : Nat) : Int)).foldl (fun r n => r.push (UInt8.ofNat n.toNat)) ByteArray.empty) = outStr f := by
    rw [push_all, List.map_map]
    show (⟨#[] ++ ((List.range 32).map ((fun n : Int => UInt8.ofNat n.toNat) ∘ fun i => ((f i : Nat) : Int))).toArray⟩ : ByteArray) = _
    rw [Array.empty_append]
    rfl
  rw [run_bytesToString w _ _ _ _ hl, e2]

set_option maxHeartbeats 2000000 in
theorem sum_any (K : Nat → Nat) (t : ByteArray) (ht : t.size < 140737488355328) (w : World)
    (hK : ∀ i, i < 64 → w.cell? ⟨10, i, none⟩ = some (.int .u32 (K i))) (hKl : ∀ i, K i < 4294967296) :
    Calls Tryz.prog 77 #[.string t] w fun e w' => ∃ s : Sha.St, Hid (s = codeSum K t.data.toList) ∧ e = .returned (.string (outStr s.byte)) ∧ Below w.heap.size w w' := by
  have i67 : (Tryz.prog.info? 217).map (·.size) = some 32 := by kernel_rfl
  go_enter Tryz.func77, Tryz.ntmps77
  go_wp2_with fail
  refine (of_any K t ht _ hK hKl).mono ?_
  rintro e w1 ⟨s, HS, rfl, hb1⟩
  have hy1 := outF_size s.byte
  go_wp2_with (refine wpList_store_mid rfl 217 _ _ rfl w1.heap.size 0 (outF s.byte) rfl rfl (there_of_row (heapA_new _ _ _ rfl) 0 _ (by rw [hy1]; decide)) (by rw [hy1]; exact i67) (outF_one _) ?_; refine Hid.out ?_)
  rw [← outF_zero]
  have hrow : ((w1.alloc (.cells (outF fun _ => 0) 217)).setCells w1.heap.size 0 (outF s.byte).toList).heap[w1.heap.size]? = some (.cells (outF s.byte) 217 (0, 0)) := heapC_row _ _ _ _ _ (heapA_new _ _ _ rfl) (by rw [hy1, outF_size])
  have HB : Hid (Below w.heap.size w ((w1.alloc (.cells (outF fun _ => 0) 217)).setCells w1.heap.size 0 (outF s.byte).toList)) := belowC _ _ (hb1.alloc hb1.size _) hb1.size
  have HR : Hid (((w1.alloc (.cells (outF fun _ => 0) 217)).setCells w1.heap.size 0 (outF s.byte).toList).heap[w1.heap.size]? = some (.cells (outF s.byte) 217 (0, 0))) := hrow
  clear hrow hb1
  generalize (w1.alloc (.cells (outF fun _ => 0) 217)).setCells w1.heap.size 0 (outF s.byte).toList = w2 at *
  have hconv := run_out_string (P := Tryz.prog) w2 219 9 5 w1.heap.size 217 s.byte Tryz.underlying219 Tryz.underlying5 Tryz.underlying9 HR.out
  unfold Hid
  go_wp2
  go_ret
  exact ⟨s, HS, rfl, HB.out⟩
end Go.Proofs.YthhbpebihgjpjaaGreatDoor

namespace Go.Proofs.YthhbpebihgjpjaaGreatDoor
open Go.RowKit
set_option maxRecDepth 1000000

/-- A word's four bytes, the high byte first. -/
def fourStr (x : Nat) : ByteArray := ⟨#[UInt8.ofNat (x / 16777216 % 256), UInt8.ofNat (x / 65536 % 256), UInt8.ofNat (x / 256 % 256), UInt8.ofNat (x % 256)]⟩
theorem run_four_string {P : Program} (w : World) (src dst e t : TypeId) (b0 b1 b2 b3 : Nat)
    (hs : P.underlying src = some (.slice e)) (he : P.underlying e = some (.int .u8)) (hd : P.underlying dst = some .string) :
    (convert src dst (.slice (some ⟨w.heap.size, 0, none⟩) 4 4)).run P (w.alloc (.cells #[.int .u8 (b0 : Int), .int .u8 (b1 : Int), .int .u8 (b2 : Int), .int .u8 (b3 : Int)] t)) = .ok (.string ⟨#[UInt8.ofNat b0, UInt8.ofNat b1, UInt8.ofNat b2, UInt8.ofNat b3]⟩) (w.alloc (.cells #[.int .u8 (b0 : Int), .int .u8 (b1 : Int), .int .u8 (b2 : Int), .int .u8 (b3 : Int)] t)) := by
  rw [run_convert_bytes_string _ src dst e _ _ _ hs he hd]
  have hl : (loadCells ⟨w.heap.size, 0, none⟩ ([.int .u8 (b0 : Int), .int .u8 (b1 : Int), .int .u8 (b2 : Int), .int .u8 (b3 : Int)] : List Value).length).run P (w.alloc (.cells #[.int .u8 (b0 : Int), .int .u8 (b1 : Int), .int .u8 (b2 : Int), .int .u8 (b3 : Int)] t)) = .ok ([.int .u8 (b0 : Int), .int .u8 (b1 : Int), .int .u8 (b2 : Int), .int .u8 (b3 : Int)] : List Value).toArray _ :=
    run_loadCells_list (P := P) _ ⟨w.heap.size, 0, none⟩ _ (fun j v hv => by
      have hadd : (⟨w.heap.size, 0, none⟩ : Addr).add j = ⟨w.heap.size, j, none⟩ := by unfold Addr.add; split <;> simp_all
      rw [hadd, cell_of_row _ w.heap.size j #[.int .u8 (b0 : Int), .int .u8 (b1 : Int), .int .u8 (b2 : Int), .int .u8 (b3 : Int)] t (0, 0) (heapA_new _ _ _ rfl)]
      simpa using hv)
  have hl4 : (loadCells ⟨w.heap.size, 0, none⟩ 4).run P (w.alloc (.cells #[.int .u8 (b0 : Int), .int .u8 (b1 : Int), .int .u8 (b2 : Int), .int .u8 (b3 : Int)] t)) = .ok ([(b0 : Int), (b1 : Int), (b2 : Int), (b3 : Int)].map (Value.int .u8)).toArray (w.alloc (.cells #[.int .u8 (b0 : Int), .int .u8 (b1 : Int), .int .u8 (b2 : Int), .int .u8 (b3 : Int)] t)) := hl
  rw [run_bytesToString _ _ 4 4 [(b0 : Int), (b1 : Int), (b2 : Int), (b3 : Int)] hl4, push_all]
  rfl
theorem four_any (x : Nat) (hx : x < 4294967296) (w : World) :
    Calls Tryz.prog 130 #[.int .i64 x] w fun e w' => e = .returned (.string (fourStr x)) ∧ Below w.heap.size w w' := by
  have x1 : (x : Int) < 4294967296 := by omega
  have hc := run_four_string (P := Tryz.prog) w 219 9 5 5 (x / 16777216 % 256) (x / 65536 % 256) (x / 256 % 256) (x % 256) Tryz.underlying219 Tryz.underlying5 Tryz.underlying9
  rw [show ((x / 16777216 % 256 : Nat) : Int) = (x : Int) / 16777216 % 256 by omega, show ((x / 65536 % 256 : Nat) : Int) = (x : Int) / 65536 % 256 by omega, show ((x / 256 % 256 : Nat) : Int) = (x : Int) / 256 % 256 by omega, show ((x % 256 : Nat) : Int) = (x : Int) % 256 by omega] at hc
  go_enter Tryz.func130, Tryz.ntmps130
  go_wp2
  go_ret
  exact ⟨rfl, (Below.refl _ _).alloc (Nat.le_refl _) _⟩
end Go.Proofs.YthhbpebihgjpjaaGreatDoor
