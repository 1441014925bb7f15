import Derived.Test.YthhbpebihgjpjaaGreatDoorR33
import Derived.Test.YthhbpebihgjpjaaGreatDoorR35
import Derived.Outline
import Derived.Test.YthhbpebihgjpjaaGreatDoorR21
namespace Go.Proofs.YthhbpebihgjpjaaGreatDoor
open Go.RowKit
set_option maxRecDepth 1000000

theorem fourBytes_any (x : Nat) (hx : x < 4294967296) (w : World) :
    Calls Tryz.prog 250 #[.int .u32 x] w fun e w' => e = .returned (.string (fourStr x)) ∧ Below w.heap.size w w' := by
  have x1 : (x : Int) < 4294967296 := by omega
  have hc := run_four_string (P := Tryz.prog) w 219 9 5 5 (x / 16777216) (x / 65536 % 256) (x / 256 % 256) (x % 256) Tryz.underlying219 Tryz.underlying5 Tryz.underlying9
  have HE : Hid (fourStr x = ⟨#[UInt8.ofNat (x / 16777216), UInt8.ofNat (x / 65536 % 256), UInt8.ofNat (x / 256 % 256), UInt8.ofNat (x % 256)]⟩) := by
    show _ = _
    rw [fourStr, show x / 16777216 % 256 = x / 16777216 by omega]
  rw [show ((x / 16777216 : Nat) : Int) = (x : Int) / 16777216 by omega, show ((x / 65536 % 256 : Nat) : Int) = (x : Int) / 65536 % 256 by omega, show ((x / 256 % 256 : Nat) : Int) = (x : Int) / 256 % 256 by omega, show ((x % 256 : Nat) : Int) = (x : Int) % 256 by omega] at hc
  go_enter Tryz.func250, Tryz.ntmps250
  go_wp2
  go_ret
  exact ⟨by rw [HE.out]; rfl, (Below.refl _ _).alloc (Nat.le_refl _) _⟩

theorem run_index_arr {P : Program} (w : World) (t e : TypeId) (n : Nat) (cs : Array Value) (k : IntKind) (i : Nat) (v : Value) (h : P.underlying t = some (.array n e)) (hs : ∀ w, (Go.sizeOf e).run P w = .ok 1 w) (ha : ∀ w, (isAgg e).run P w = .ok false w) (hi : i < n) (hv : cs[i]? = some v) :
    (Instr.index t (.agg cs) (.int k i)).run P w = .ok v w := by
  have h1 : (0 : Int) ≤ (i : Int) ∧ (i : Int) < (n : Int) := by omega
  simp [Instr.index, run_underlying h, asIntOf, hi, hv, hs, ha, go_sem]

theorem hex_low : ∀ x, x < 256 → bits .and .u8 (x : Nat) 15 = ((x % 16 : Nat) : Int) := by decide +kernel
theorem hex_size (s : ByteArray) : ∀ j, (hexUpTo s j).size = 2 * j
  | 0 => rfl
  | j + 1 => by
    rw [hexUpTo, ByteArray.size_append, ByteArray.size_append, hex_size s j]
    show 2 * j + 1 + 1 = _
    omega

theorem digit_byte (h : Nat) (hh : h < 16) (p : h < (ByteArray.mk #[48, 49, 50, 51, 52, 53, 54, 55, 56, 57, 97, 98, 99, 100, 101, 102]).size) : ((((ByteArray.mk #[48, 49, 50, 51, 52, 53, 54, 55, 56, 57, 97, 98, 99, 100, 101, 102])[h]'p).toNat : Nat) : Int) = ((hexByte h).toNat : Int) := by
  have : h = 0 ∨ h = 1 ∨ h = 2 ∨ h = 3 ∨ h = 4 ∨ h = 5 ∨ h = 6 ∨ h = 7 ∨ h = 8 ∨ h = 9 ∨ h = 10 ∨ h = 11 ∨ h = 12 ∨ h = 13 ∨ h = 14 ∨ h = 15 := by omega
  rcases this with rfl | rfl | rfl | rfl | rfl | rfl | rfl | rfl | rfl | rfl | rfl | rfl | rfl | rfl | rfl | rfl <;> rfl

set_option maxHeartbeats 2000000 in
theorem inHex_any (s : ByteArray) (f : Nat → Nat) (hf : ∀ k, k < 32 → f k = (s.get! k).toNat) (w : World) :
    Calls Tryz.prog 328 #[.agg (outF f)] w fun e w' => e = .returned (.string (hexUpTo s 32)) ∧ Below w.heap.size w w' := by
  have HF : Hid (∀ k, k < 32 → f k = (s.get! k).toNat) := hf
  have i32 : (Tryz.prog.info? 217).map (·.size) = some 32 := by kernel_rfl
  have hz : (outF f).size = 32 := outF_size f
  have HOX : Hid (∀ (k : Nat) wx, k < 32 → (Instr.index 217 (.agg (outF f)) (.int .i64 k)).run Tryz.prog wx = .ok (.int .u8 (f k)) wx) := fun k wx hk => run_index_arr wx _ _ 32 _ _ k _ Tryz.underlying217 Tryz.sizeOf5 Tryz.isAgg5 hk (outF_at f k hk)
  clear hf
  obtain ⟨V, hV⟩ : ∃ V, V = outF f := ⟨_, rfl⟩
  rw [← hV] at hz HOX ⊢
  clear hV
  go_enter Tryz.func328, Tryz.ntmps328
  go_wp2_with (refine wpList_load_row rfl 217 _ rfl w.heap.size rfl 217 V (0, 0) _ (by exact (heapA_old _ _ _ (by simp)).trans (heapA_new _ _ _ rfl)) Tryz.underlying217 rfl (by rw [hz]; exact i32) ?_)
  go_loopw [7] (fun i wr => ∃ (j : Nat), i = .int .i64 j ∧ j ≤ 32 ∧ BuiltAt wr (w.heap.size + 1) (hexUpTo s j) ∧ Below w.heap.size w wr) (fun i _ => 32 - (intOf i).toNat)
  case atStart =>
    refine ⟨0, rfl, by omega, ?_, (((Below.refl _ _).alloc (Nat.le_refl _) _).alloc (by simp) _)⟩
    have := built_new (w.alloc (.cells V 217))
    simpa [hexUpTo] using this
  case round =>
    obtain ⟨j, rfl, hle, hbu, hbw⟩ := hrel
    have HBU : Hid (BuiltAt wr (w.heap.size + 1) (hexUpTo s j)) := hbu
    have HBW : Hid (Below w.heap.size w wr) := hbw
    clear hbu hbw
    have j0 : (0 : Int) ≤ (j : Int) := by omega
    by_cases hlt : j < 32
    · have j1 : (j : Int) < 32 := by omega
      have hox : ∀ wx, (Instr.index 217 (.agg V) (.int .i64 j)).run Tryz.prog wx = .ok (.int .u8 (f j)) wx := fun wx => HOX.out j wx hlt
      have HX : Hid (f j = (s.get! j).toNat) := HF.out j hlt
      have HXL : Hid (f j < 256) := by show _ < _; rw [HX.out]; exact UInt8.toNat_lt _
      generalize f j = x at *
      have x0 : (x : Int) < 256 := by have := HXL.out; omega
      have hlo := hex_low x HXL.out
      go_wp2_with fail
      refine (bbyte_any _ _ (hexByte (x / 16)) _ (digit_byte _ (by have := HXL.out; omega) _) _ HBU.out (by rw [hex_size]; omega)).mono ?_
      rintro e w2 ⟨rfl, hb2, hb3⟩
      have HB2 : Hid (BuiltAt w2 (w.heap.size + 1) (hexUpTo s j ++ ⟨#[hexByte (x / 16)]⟩)) := hb2
      have HB3 : Hid (Below (w.heap.size + 1) wr w2) := hb3
      clear hb2 hb3
      go_wp2_with fail
      refine (bbyte_any _ _ (hexByte (x % 16)) _ (digit_byte _ (by omega) _) _ HB2.out (by rw [ByteArray.size_append, hex_size]; show 2 * j + 1 + 1 ≤ _; omega)).mono ?_
      rintro e w3 ⟨rfl, hb4, hb5⟩
      have HB4 : Hid (BuiltAt w3 (w.heap.size + 1) (hexUpTo s (j + 1))) := by
        show BuiltAt _ _ _
        rw [hexUpTo, ← HX.out]; exact hb4
      have HB5 : Hid (Below (w.heap.size + 1) w2 w3) := hb5
      clear hb4 hb5
      go_wp2_with fail
      exact ⟨⟨j + 1, by go_num, hlt, HB4.out, (HBW.out.trans (HB3.out.mono (by omega))).trans (HB5.out.mono (by omega))⟩, by simp [intOf]; omega⟩
    · obtain rfl : j = 32 := by omega
      go_wp2_with fail
      refine (btext_any _ _ _ HBU.out).mono ?_
      rintro e w2 ⟨rfl, hb2, hb3⟩
      have HB3 : Hid (Below (w.heap.size + 1) wr w2) := hb3
      clear hb2 hb3
      go_wp2_with fail
      go_ret
      exact ⟨rfl, HBW.out.trans (HB3.out.mono (by omega))⟩
end Go.Proofs.YthhbpebihgjpjaaGreatDoor

namespace Go.Proofs.YthhbpebihgjpjaaGreatDoor
open Go.RowKit
set_option maxRecDepth 1000000

/-- 'l[1:]' of texts: where it lies (at capacity 1 the address stays). -/
theorem slice_tail (b o L cap : Nat) (h : L + 1 ≤ cap) : ∃ o', (∀ k, k < L → o' + k = o + 1 + k) ∧ ∀ wx, (Instr.slice 32 (.slice (some ⟨b, o, none⟩) (L + 1) cap) (some (.int .i64 1)) none none).run Tryz.prog wx = .ok (.slice (some ⟨b, o', none⟩) L (cap - 1)) wx := by
  by_cases hc : cap = 1
  · subst hc
    obtain rfl : L = 0 := by omega
    exact ⟨o, fun k hk => by omega, fun wx => by kernel_rfl⟩
  · refine ⟨o + 1, fun k _ => rfl, fun wx => ?_⟩
    simp [Instr.slice, run_underlying Tryz.underlying32, go_sem, hc]
    intro hh
    omega
end Go.Proofs.YthhbpebihgjpjaaGreatDoor
