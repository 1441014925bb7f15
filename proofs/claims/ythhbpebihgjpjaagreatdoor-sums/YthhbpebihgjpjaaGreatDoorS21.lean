import Derived.Test.YthhbpebihgjpjaaGreatDoorS20
namespace Go.Proofs.YthhbpebihgjpjaaGreatDoor
open Go.RowKit
set_option maxRecDepth 1000000

/-- A word's four bytes, the high byte first. -/
def fourStr (x : Nat) : ByteArray := ⟨#[UInt8.ofNat (x / 16777216 % 256), UInt8.ofNat (x / 65536 % 256), UInt8.ofNat (x / 256 % 256), UInt8.ofNat (x % 256)]⟩
theorem run_four_string {P : Program} (w : World) (src dst e t : TypeId) (b0 b1 b2 b3 : Nat)
    (hs : P.underlying src = some (.slice e)) (he : P.underlying e = some (.int .u8)) (hd : P.underlying dst = some .string) :
    (convert src dst (.slice (some ⟨w.heap.size, 0, none⟩) 4 4)).run P (w.alloc (.cells #[.int .u8 (b0 : Int), .int .u8 (b1 : Int), .int .u8 (b2 : Int), .int .u8 (b3 : Int)] t)) = .ok (.string ⟨#[UInt8.ofNat b0, UInt8.ofNat b1, UInt8.ofNat b2, UInt8.ofNat b3]⟩) (w.alloc (.cells #[.int .u8 (b0 : Int), .int .u8 (b1 : Int), .int .u8 (b2 : Int), .int .u8 (b3 : Int)] t)) := by
  rw [run_convert_bytes_string _ src dst e _ _ _ hs he hd]
  have hl : (loadCells ⟨w.heap.size, 0, none⟩ ([.int .u8 (b0 : Int), .int .u8 (b1 : Int), .int .u8 (b2 : Int), .int .u8 (b3 : Int)] : List Value).length).run P (w.alloc (.cells #[.int .u8 (b0 : Int), .int .u8 (b1 : Int), .int .u8 (b2 : Int), .int .u8 (b3 : Int)] t)) = .ok ([.int .u8 (b0 : Int), .int .u8 (b1 : Int), .int .u8 (b2 : Int), .int .u8 (b3 : Int)] : List Value).toArray _ :=
    run_loadCells_list (P := P) _ ⟨w.heap.size, 0, none⟩ _ (fun j v hv => by
      have hadd : (⟨w.heap.size, 0, none⟩ : Addr).add j = ⟨w.heap.size, j, none⟩ := by unfold Addr.add; split <;> simp_all
      rw [hadd, cell_of_row _ w.heap.size j #[.int .u8 (b0 : Int), .int .u8 (b1 : Int), .int .u8 (b2 : Int), .int .u8 (b3 : Int)] t (0, 0) (heapA_new _ _ _ rfl)]
      simpa using hv)
  have hl4 : (loadCells ⟨w.heap.size, 0, none⟩ 4).run P (w.alloc (.cells #[.int .u8 (b0 : Int), .int .u8 (b1 : Int), .int .u8 (b2 : Int), .int .u8 (b3 : Int)] t)) = .ok ([(b0 : Int), (b1 : Int), (b2 : Int), (b3 : Int)].map (Value.int .u8)).toArray (w.alloc (.cells #[.int .u8 (b0 : Int), .int .u8 (b1 : Int), .int .u8 (b2 : Int), .int .u8 (b3 : Int)] t)) := hl
  rw [run_bytesToString _ _ 4 4 [(b0 : Int), (b1 : Int), (b2 : Int), (b3 : Int)] hl4, push_all]
  rfl
theorem four_any (x : Nat) (hx : x < 4294967296) (w : World) :
    Calls Tryz.prog 130 #[.int .i64 x] w fun e w' => e = .returned (.string (fourStr x)) ∧ Below w.heap.size w w' := by
  have x1 : (x : Int) < 4294967296 := by omega
  have hc := run_four_string (P := Tryz.prog) w 219 9 5 5 (x / 16777216 % 256) (x / 65536 % 256) (x / 256 % 256) (x % 256) Tryz.underlying219 Tryz.underlying5 Tryz.underlying9
  rw [show ((x / 16777216 % 256 : Nat) : Int) = (x : Int) / 16777216 % 256 by omega, show ((x / 65536 % 256 : Nat) : Int) = (x : Int) / 65536 % 256 by omega, show ((x / 256 % 256 : Nat) : Int) = (x : Int) / 256 % 256 by omega, show ((x % 256 : Nat) : Int) = (x : Int) % 256 by omega] at hc
  go_enter Tryz.func130, Tryz.ntmps130
  go_wp2
  go_ret
  exact ⟨rfl, (Below.refl _ _).alloc (Nat.le_refl _) _⟩
end Go.Proofs.YthhbpebihgjpjaaGreatDoor
