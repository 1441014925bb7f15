import Derived.Test.YthhbpebihgjpjaaGreatDoorR22
import Derived.Test.YthhbpebihgjpjaaGreatDoorR23
namespace Go.Proofs.YthhbpebihgjpjaaGreatDoor
open Go.RowKit
set_option maxRecDepth 1000000

/-- The bit of a kind in a mask. -/
theorem bit_of (m k : Nat) (hm : m < 9223372036854775808) : bits .and .i64 ((m : Int) / 2 ^ k) 1 = ((m / 2 ^ k % 2 : Nat) : Int) := by
  have e1 : ((m : Int) / 2 ^ k) = ((m / 2 ^ k : Nat) : Int) := by simp
  rw [e1, show (1 : Int) = ((1 : Nat) : Int) from rfl, i64_and_nat _ _ (Nat.lt_of_le_of_lt (Nat.div_le_self _ _) hm) (by decide), Nat.and_one_is_mod]

set_option maxHeartbeats 2000000 in
theorem upto_sums (ao : Option Addr) (n cap : Nat) (w : World) (hs : ScriptAt w ao n) (hr : RoundsAt w) :
    Calls Tryz.prog 38 #[.slice ao n cap, .int .i64 2, .int .i64 2, .bool false] w fun e w' => e = .returned (.int .i64 (-1)) ∧ Keeps w.heap.size w w' := by
  have HS : Hid (ScriptAt w ao n) := hs
  have HR : Hid (RoundsAt w) := hr
  have hn := hs.1
  have n0 : (n : Int) ≤ 140737488351232 := by omega
  clear hs hr
  go_enter Tryz.func38, Tryz.ntmps38
  go_wp2_with fail
  have HZ : Hid ((w.alloc (.cells #[.pointer none, .slice none 0 0, .slice none 0 0, .slice none 0 0, .slice none 0 0, .int .i64 0, .int .i64 262144] 112)).heap[w.heap.size]? = some (.cells #[.pointer none, .slice none 0 0, .slice none 0 0, .slice none 0 0, .slice none 0 0, .int .i64 0, .int .i64 262144] 112 (0, 0))) := heapA_new _ _ _ rfl
  have HBA : Hid (Below w.heap.size w (w.alloc (.cells #[.pointer none, .slice none 0 0, .slice none 0 0, .slice none 0 0, .slice none 0 0, .int .i64 0, .int .i64 262144] 112))) := (Below.refl _ _).alloc (Nat.le_refl _) _
  have hsz : (w.alloc (.cells #[.pointer none, .slice none 0 0, .slice none 0 0, .slice none 0 0, .slice none 0 0, .int .i64 0, .int .i64 262144] 112)).heap.size = w.heap.size + 1 := World.size_alloc _ _
  generalize w.alloc (.cells #[.pointer none, .slice none 0 0, .slice none 0 0, .slice none 0 0, .slice none 0 0, .int .i64 0, .int .i64 262144] 112) = wa at *
  refine (maker_new wa).mono ?_
  rintro e w1 ⟨m, rfl, hmk, hb1⟩
  have HW1 : Hid (w1.heap[w.heap.size]? = some (.cells #[.pointer none, .slice none 0 0, .slice none 0 0, .slice none 0 0, .slice none 0 0, .int .i64 0, .int .i64 262144] 112 (0, 0))) := by show _ = _; rw [hb1.block _ (by omega)]; exact HZ.out
  have cw : w1.cell? ⟨w.heap.size, 0, none⟩ = some (.pointer none) := by rw [cell_of_row _ _ _ _ _ _ HW1.out]; rfl
  have fw : w1.frozen? ⟨w.heap.size, 0, none⟩ = false := frozen_of_row _ _ _ _ _ HW1.out
  have HW0 : Hid ((w1.setCell ⟨w.heap.size, 0, none⟩ (.pointer (some ⟨m, 0, none⟩))).heap[w.heap.size]? = some (.cells #[.pointer (some ⟨m, 0, none⟩), .slice none 0 0, .slice none 0 0, .slice none 0 0, .slice none 0 0, .int .i64 0, .int .i64 262144] 112 (0, 0))) := heap_setCell_same _ _ _ _ _ _ HW1.out
  have HB0 : Hid (Below w.heap.size w (w1.setCell ⟨w.heap.size, 0, none⟩ (.pointer (some ⟨m, 0, none⟩)))) := (HBA.out.trans (hb1.mono (by omega))).setCell (Nat.le_refl _) _
  have HMK : Hid (MakerAt (w1.setCell ⟨w.heap.size, 0, none⟩ (.pointer (some ⟨m, 0, none⟩))) m) := hmk _ _ (by show w.heap.size < _; omega)
  have HS0 : Hid (ScriptAt (w1.setCell ⟨w.heap.size, 0, none⟩ (.pointer (some ⟨m, 0, none⟩))) ao n) := HS.out.later HB0.out.size HB0.out.block
  have HR0 : Hid (RoundsAt (w1.setCell ⟨w.heap.size, 0, none⟩ (.pointer (some ⟨m, 0, none⟩)))) := HR.out.later HB0.out.block
  clear hmk hb1 HZ HBA HW1 HS HR
  go_wp2
  clear cw fw
  generalize w1.setCell ⟨w.heap.size, 0, none⟩ (.pointer (some ⟨m, 0, none⟩)) = w0 at *
  go_loopw [10] (fun i wr => ∃ j : Nat, j ≤ n ∧ i = .int .i64 j ∧ Keeps w0.heap.size w0 wr) (fun i _ => n - (intOf i).toNat)
  case atStart => exact ⟨0, by omega, rfl, Keeps.refl _ _⟩
  case round =>
    obtain ⟨j, hj, rfl, hkp⟩ := hrel
    have HK : Hid (Keeps w0.heap.size w0 wr) := hkp
    have HWR : Hid (wr.heap[w.heap.size]? = some (.cells #[.pointer (some ⟨m, 0, none⟩), .slice none 0 0, .slice none 0 0, .slice none 0 0, .slice none 0 0, .int .i64 0, .int .i64 262144] 112 (0, 0))) := by show _ = _; rw [hkp.block _ (block_lt_of_cell (a := ⟨w.heap.size, 0, none⟩) (by rw [cell_of_row _ _ _ _ _ _ HW0.out]; rfl))]; exact HW0.out
    have cm : wr.cell? ⟨w.heap.size, 0, none⟩ = some (.pointer (some ⟨m, 0, none⟩)) := by rw [cell_of_row _ _ _ _ _ _ HWR.out]; rfl
    have cl : wr.cell? ⟨w.heap.size, 4, none⟩ = some (.slice none 0 0) := by rw [cell_of_row _ _ _ _ _ _ HWR.out]; rfl
    have cf : wr.cell? ⟨w.heap.size, 6, none⟩ = some (.int .i64 262144) := by rw [cell_of_row _ _ _ _ _ _ HWR.out]; rfl
    clear hkp
    by_cases hlt : j < n
    · obtain ⟨b, o, rfl, hop⟩ : ∃ b o, ao = some ⟨b, o, none⟩ ∧ ∃ y, OpAt w0 y b (o + j * 8) := by
        obtain ⟨_, h | ⟨b, o, e, h⟩⟩ := HS0.out
        · omega
        · exact ⟨b, o, e, h j hlt⟩
      obtain ⟨y, hy0⟩ := hop
      have hy : OpAt wr y b (o + j * 8) := hy0.later HK.out.size HK.out.block
      have c0 := hy.c0
      have c1 := hy.c1
      have c2 := hy.c2
      have c3 := hy.c3
      have c4 := hy.c4
      have c5 := hy.c5
      have c6 := hy.c6
      have c7 := hy.c7
      have hsS := hy.sS
      clear hy hy0
      have i0 : (0 : Int) ≤ (j : Int) := by omega
      have i1 : (j : Int) < (n : Int) := by omega
      obtain ⟨kd, ya, yb, yd, ys, yt, la, ln, lc, ma, mn, mc⟩ := y
      simp only at c0 c1 c2 c3 c4 c5 c6 c7 hsS
      have HMR : Hid (MakerAt wr m) := HMK.out.later HK.out.block
      have HRR : Hid (RoundsAt wr) := HR0.out.later HK.out.block
      have hwl : w.heap.size < wr.heap.size := block_lt_of_cell cm
      by_cases hk1 : kd = 1
      · subst hk1
        have hbit : bits .and .i64 1 1 = 1 := by decide
        have HCL : Hid (wr.cell? ⟨w.heap.size, 4, none⟩ = some (.slice none 0 0)) := cl
        go_wp2_with fail
        refine (step_sum ⟨1, ya, yb, yd, ys, yt, la, ln, lc, ma, mn, mc⟩ rfl hsS w.heap.size m wr cm HMR.out HRR.out).mono ?_
        rintro e w4 ⟨rfl, hk4⟩
        have cl4 : w4.cell? ⟨w.heap.size, 0 + 4, none⟩ = some (.slice none 0 0) := by rw [hk4.cell (p := ⟨w.heap.size, 0 + 4, none⟩) hwl]; exact HCL.out
        have HK4 : Hid (Keeps w0.heap.size w0 w4) := HK.out.trans (hk4.mono HK.out.size)
        clear hk4 c0 c1 c2 c3 c4 c5 c6 c7 cm cl cf HMR HRR HWR
        go_wp2_with fail
        refine (looks_none w.heap.size 0 w4 cl4).mono ?_
        rintro e w5 ⟨rfl, q, rfl⟩
        have HK5 : Hid (Keeps w0.heap.size w0 (w4.drewN q)) := ⟨HK4.out.os, HK4.out.output, HK4.out.size, HK4.out.block⟩
        clear HK4
        generalize w4.drewN q = w5 at *
        go_wp2
        go_roundw
        case rel =>
          first
            | exact ⟨j + 1, by omega, by go_num, HK5.out⟩
            | ((repeat apply Exists.intro); exact ⟨⟨j + 1, by omega, by go_num, HK5.out⟩, rfl⟩)
        case measure => simp [intOf]; omega
      · by_cases hk2 : kd < 1
        · go_wp2
          go_roundw
          case rel =>
            first
              | exact ⟨j + 1, by omega, by go_num, HK.out⟩
              | ((repeat apply Exists.intro); exact ⟨⟨j + 1, by omega, by go_num, HK.out⟩, rfl⟩)
          case measure => simp [intOf]; omega
        · by_cases hk3 : 18 < kd
          · have hk4 : ¬ kd < 1 := hk2
            go_wp2
            go_roundw
            case rel =>
              first
                | exact ⟨j + 1, by omega, by go_num, HK.out⟩
                | ((repeat apply Exists.intro); exact ⟨⟨j + 1, by omega, by go_num, HK.out⟩, rfl⟩)
            case measure => simp [intOf]; omega
          · obtain ⟨k, rfl⟩ : ∃ k : Nat, kd = (k : Int) := ⟨kd.toNat, by omega⟩
            have k2 : 2 ≤ k := by omega
            have k18 : (k : Int) ≤ 18 := by omega
            have k1 : (1 : Int) ≤ (k : Int) := by omega
            have hbit : bits .and .i64 (2 / 2 ^ k) 1 = 0 := by
              have h := bit_of 2 k (by decide)
              have h2 : 2 / 2 ^ k = 0 := Nat.div_eq_of_lt (Nat.lt_of_lt_of_le (by decide : 2 < 2 ^ 2) (Nat.pow_le_pow_right (by decide) k2))
              rw [h2] at h
              exact h
            go_wp2
            go_roundw
            case rel =>
              first
                | exact ⟨j + 1, by omega, by go_num, HK.out⟩
                | ((repeat apply Exists.intro); exact ⟨⟨j + 1, by omega, by go_num, HK.out⟩, rfl⟩)
            case measure => simp [intOf]; omega
    · have hjn : j = n := by omega
      subst hjn
      have HKE : Hid (Keeps w.heap.size w wr) := (Keeps.of HB0.out).trans (HK.out.mono HB0.out.size)
      go_wp2
      go_ret
      exact ⟨rfl, HKE.out⟩
end Go.Proofs.YthhbpebihgjpjaaGreatDoor
