import Derived.Test.YthhbpebihgjpjaaGreatDoorJ34
import Derived.Test.YthhbpebihgjpjaaGreatDoorJ47
namespace Go.Proofs.YthhbpebihgjpjaaGreatDoor
open Go.RowKit Go.MuLone Go.Maps
set_option maxRecDepth 1000000

/-- Under way. -/
def UpSt (a : Nat → Addr) (t : Nat → ByteArray) (mv : Value) (w : World) (j : Nat) (wr : World) : Prop :=
  ∃ A va vl ps L left, DiskSt A a t w.heap.size mv va vl ps L j left wr ∧ (-281474976710656 ≤ left ∧ left ≤ 262144) ∧ (∀ k, k < w.heap.size → A k = 0) ∧ Keeps w.heap.size w wr
theorem UpSt.next {a : Nat → Addr} {t : Nat → ByteArray} {mv : Value} {w wr : World} {j : Nat} (h : UpSt a t mv w j wr) : UpSt a t mv w (j + 1) wr := by
  obtain ⟨A, va, vl, ps, L, left, h1, h2, h3, h4⟩ := h
  exact ⟨A, va, vl, ps, L, left, h1.keep (Nat.le_succ j) (fun _ _ => rfl) (Nat.le_refl _) (fun _ _ => rfl), h2, h3, h4⟩

set_option maxHeartbeats 4000000 in
theorem upto_disks (a : Nat → Addr) (t : Nat → ByteArray) (ao : Option Addr) (n cap : Nat) (w : World) (hs : ScriptAt w ao n) (hn : n ≤ 262144) (hS : Sents a t w) (hg : 14 ≤ w.heap.size) :
    Calls Tryz.prog 38 #[.slice ao n cap, .int .i64 16380, .int .i64 16380, .bool false] w fun e w' => e = .returned (.int .i64 (-1)) ∧ Keeps w.heap.size w w' := by
  have HS : Hid (ScriptAt w ao n) := hs
  have HSE : Hid (Sents a t w) := hS
  have n0 : (n : Int) ≤ 262144 := by omega
  clear hs hS
  go_enter Tryz.func38, Tryz.ntmps38
  go_wp2_with fail
  have HZ : Hid ((w.alloc (.cells #[.pointer none, .slice none 0 0, .slice none 0 0, .slice none 0 0, .slice none 0 0, .int .i64 0, .int .i64 262144] 112)).heap[w.heap.size]? = some (.cells #[.pointer none, .slice none 0 0, .slice none 0 0, .slice none 0 0, .slice none 0 0, .int .i64 0, .int .i64 262144] 112 (0, 0))) := heapA_new _ _ _ rfl
  have HBA : Hid (Below w.heap.size w (w.alloc (.cells #[.pointer none, .slice none 0 0, .slice none 0 0, .slice none 0 0, .slice none 0 0, .int .i64 0, .int .i64 262144] 112))) := (Below.refl _ _).alloc (Nat.le_refl _) _
  have hsz : (w.alloc (.cells #[.pointer none, .slice none 0 0, .slice none 0 0, .slice none 0 0, .slice none 0 0, .int .i64 0, .int .i64 262144] 112)).heap.size = w.heap.size + 1 := World.size_alloc _ _
  generalize w.alloc (.cells #[.pointer none, .slice none 0 0, .slice none 0 0, .slice none 0 0, .slice none 0 0, .int .i64 0, .int .i64 262144] 112) = wa at *
  refine (maker_new wa).mono ?_
  rintro e w1 ⟨m, rfl, hmk, hb1⟩
  have HW1 : Hid (w1.heap[w.heap.size]? = some (.cells #[.pointer none, .slice none 0 0, .slice none 0 0, .slice none 0 0, .slice none 0 0, .int .i64 0, .int .i64 262144] 112 (0, 0))) := by show _ = _; rw [hb1.block _ (by omega)]; exact HZ.out
  have cw : w1.cell? ⟨w.heap.size, 0, none⟩ = some (.pointer none) := by rw [cell_of_row _ _ _ _ _ _ HW1.out]; rfl
  have fw : w1.frozen? ⟨w.heap.size, 0, none⟩ = false := frozen_of_row _ _ _ _ _ HW1.out
  have HW0 : Hid (LawRow (w1.setCell ⟨w.heap.size, 0, none⟩ (.pointer (some ⟨m, 0, none⟩))) w.heap.size (.pointer (some ⟨m, 0, none⟩)) (.slice none 0 0) (.slice none 0 0) 262144) := heap_setCell_same _ _ _ _ _ _ HW1.out
  have HB0 : Hid (Below w.heap.size w (w1.setCell ⟨w.heap.size, 0, none⟩ (.pointer (some ⟨m, 0, none⟩)))) := (HBA.out.trans (hb1.mono (by omega))).setCell (Nat.le_refl _) _
  have HU0 : Hid (UpSt a t (.pointer (some ⟨m, 0, none⟩)) w 0 (w1.setCell ⟨w.heap.size, 0, none⟩ (.pointer (some ⟨m, 0, none⟩)))) := by
    obtain ⟨A0, b1, b2, b3⟩ := assign (fun _ => 0) w.heap.size 1 (fun k => k = w.heap.size)
    have hlow : ∀ k, k < w.heap.size → A0 k = 0 := fun k hk => b1 k hk
    have henv : EnvAt A0 a t (w1.setCell ⟨w.heap.size, 0, none⟩ (.pointer (some ⟨m, 0, none⟩))) := ⟨HSE.out.below HB0.out, fun k hk => hlow k (by omega), fun k hk => hlow _ (size_of_cell (HSE.out.text k hk)), Nat.le_trans hg HB0.out.size⟩
    exact ⟨A0, .slice none 0 0, .slice none 0 0, [], [], 262144, ⟨henv, HW0.out, ⟨rfl, Or.inl ⟨rfl, rfl⟩⟩, ⟨⟨rfl, Or.inl ⟨rfl, rfl⟩⟩⟩, ⟨b2 _ (Nat.le_refl _) rfl, fun k hk => (by cases hk), fun k hk => (by cases hk)⟩, ⟨fun q => (by cases q), fun q => (by cases q), fun k hk => (by cases hk)⟩, fun x hx => (by cases hx), fun i x hx => (by simp at hx), ⟨Nat.le_refl _, Nat.le_refl _⟩⟩, ⟨by omega, by omega⟩, hlow, Keeps.of HB0.out⟩
  clear hmk hb1 HZ HBA HW1 HW0 HB0 HSE
  go_wp2
  clear cw fw
  generalize w1.setCell ⟨w.heap.size, 0, none⟩ (.pointer (some ⟨m, 0, none⟩)) = w0 at *
  go_loopw [10] (fun i wr => ∃ j : Nat, j ≤ n ∧ i = .int .i64 j ∧ UpSt a t (.pointer (some ⟨m, 0, none⟩)) w j wr) (fun i _ => n - (intOf i).toNat)
  case atStart => exact ⟨0, by omega, rfl, HU0.out⟩
  case round =>
    obtain ⟨j, hj, rfl, hup⟩ := hrel
    have HU : Hid (UpSt a t (.pointer (some ⟨m, 0, none⟩)) w j wr) := hup
    obtain ⟨A, va, vl, ps, L, left, hst, hlf, hAz, hkp⟩ := hup
    have HD : Hid (DiskSt A a t w.heap.size (.pointer (some ⟨m, 0, none⟩)) va vl ps L j left wr) := hst
    have HAZ : Hid (∀ k, k < w.heap.size → A k = 0) := hAz
    have HK : Hid (Keeps w.heap.size w wr) := hkp
    have cf : wr.cell? ⟨w.heap.size, 6, none⟩ = some (.int .i64 left) := by rw [cell_of_row _ _ _ _ _ _ hst.row]; rfl
    clear hst hAz hkp HU0
    by_cases hlt : j < n
    · by_cases hpos : 0 < left
      · obtain ⟨b, o, rfl, hop⟩ : ∃ b o, ao = some ⟨b, o, none⟩ ∧ ∃ y, OpAt w y b (o + j * 8) := by
          obtain ⟨_, h | ⟨b, o, e, h⟩⟩ := HS.out
          · omega
          · exact ⟨b, o, e, h j hlt⟩
        obtain ⟨y, hy0⟩ := hop
        have hy : OpAt wr y b (o + j * 8) := hy0.later HK.out.size HK.out.block
        have c0 := hy.c0
        have c1 := hy.c1
        have c2 := hy.c2
        have c3 := hy.c3
        have c4 := hy.c4
        have c5 := hy.c5
        have c6 := hy.c6
        have c7 := hy.c7
        have hints := hy.ints
        have hsS := hy.sS
        have hsT := hy.sT
        clear hy hy0
        have i0 : (0 : Int) ≤ (j : Int) := by omega
        have i1 : (j : Int) < (n : Int) := by omega
        obtain ⟨kd, ya, yb, yd, ys, yt, la, ln, lc, ma, mn, mc⟩ := y
        simp only at c0 c1 c2 c3 c4 c5 c6 c7 hsS hsT hints
        by_cases hkd : 2 ≤ kd ∧ kd ≤ 13
        · obtain ⟨k, rfl⟩ : ∃ k : Nat, kd = (k : Int) := ⟨kd.toNat, by omega⟩
          have k18 : (k : Int) ≤ 18 := by omega
          have k1 : (1 : Int) ≤ (k : Int) := by omega
          have hbit : bits .and .i64 (16380 / 2 ^ k) 1 = 1 := by
            have h := bit_of 16380 k (by decide)
            have hc : k = 2 ∨ k = 3 ∨ k = 4 ∨ k = 5 ∨ k = 6 ∨ k = 7 ∨ k = 8 ∨ k = 9 ∨ k = 10 ∨ k = 11 ∨ k = 12 ∨ k = 13 := by omega
            rw [show (16380 : Int) = ((16380 : Nat) : Int) from rfl, h]
            rcases hc with rfl | rfl | rfl | rfl | rfl | rfl | rfl | rfl | rfl | rfl | rfl | rfl <;> rfl
          have HSTEP : Hid (Calls Tryz.prog 56 #[.pointer (some ⟨w.heap.size, 0, none⟩), .agg #[.int .i64 k, .int .i64 ya, .int .i64 yb, .int .i64 yd, .string ys, .string yt, .slice la ln lc, .slice ma mn mc]] wr (DPost A a t w.heap.size (.pointer (some ⟨m, 0, none⟩)) j left wr)) := step_disks ⟨k, ya, yb, yd, ys, yt, la, ln, lc, ma, mn, mc⟩ hkd hints hsS hsT HD.out (by omega) ⟨by omega, by omega⟩
          go_wp2_with fail
          refine HSTEP.out.mono ?_
          rintro e w4 ⟨rfl, A', va', vl', ps', L', left', hst4, hlf4, hA4, ht4⟩
          have HU4 : Hid (UpSt a t (.pointer (some ⟨m, 0, none⟩)) w (j + 1) w4) := by
            refine ⟨A', va', vl', ps', L', left', hst4, ⟨by omega, by omega⟩, fun k hk => by rw [hA4 k (Nat.lt_of_lt_of_le hk HK.out.size)]; exact HAZ.out k hk, HK.out.trans ⟨ht4.os, ht4.output, ht4.size, fun k hk => ht4.block k (Nat.lt_of_lt_of_le hk HK.out.size) (fun q => q (HAZ.out k hk))⟩⟩
          have HLK : Hid (Calls Tryz.prog 57 #[.pointer (some ⟨w.heap.size, 0, none⟩)] w4 fun e w' => ∃ b, e = .returned (.bool b) ∧ Turns (fun _ => False) w4 w') := looks_any L' w.heap.size _ va' vl' left' w4 hst4.row hst4.lists (by have := hst4.len.2; omega) (ListIn.ok hst4.texts)
          clear hst4 hlf4 hA4 ht4 HSTEP c0 c1 c2 c3 c4 c5 c6 c7 cf
          go_wp2_with fail
          refine HLK.out.mono ?_
          rintro e w5 ⟨bb, rfl, ht5⟩
          have HU5 : Hid (UpSt a t (.pointer (some ⟨m, 0, none⟩)) w (j + 1) w5) := by
            obtain ⟨A2, va2, vl2, ps2, L2, left2, h1, h2, h3, h4⟩ := HU4.out
            exact ⟨A2, va2, vl2, ps2, L2, left2, h1.keep (Nat.le_refl _) (fun _ _ => rfl) ht5.size (fun k hk => ht5.block k hk id), h2, h3, h4.trans ⟨ht5.os, ht5.output, ht5.size, fun k hk => ht5.block k (Nat.lt_of_lt_of_le hk h4.size) id⟩⟩
          have HKE : Hid (Keeps w.heap.size w w5) := by obtain ⟨_, _, _, _, _, _, _, _, _, h4⟩ := HU5.out; exact h4
          clear ht5 HLK HU4
          cases bb
          · go_wp2
            go_ret
            exact ⟨rfl, HKE.out⟩
          · go_wp2
            go_roundw
            case rel =>
              first
                | exact ⟨j + 1, by omega, by go_num, HU5.out⟩
                | ((repeat apply Exists.intro); exact ⟨⟨j + 1, by omega, by go_num, HU5.out⟩, rfl⟩)
            case measure => simp [intOf]; omega
        · by_cases hk2 : kd < 1
          · go_wp2
            go_roundw
            case rel =>
              first
                | exact ⟨j + 1, by omega, by go_num, HU.out.next⟩
                | ((repeat apply Exists.intro); exact ⟨⟨j + 1, by omega, by go_num, HU.out.next⟩, rfl⟩)
            case measure => simp [intOf]; omega
          · by_cases hk3 : 18 < kd
            · have hk4 : ¬ kd < 1 := hk2
              go_wp2
              go_roundw
              case rel =>
                first
                  | exact ⟨j + 1, by omega, by go_num, HU.out.next⟩
                  | ((repeat apply Exists.intro); exact ⟨⟨j + 1, by omega, by go_num, HU.out.next⟩, rfl⟩)
              case measure => simp [intOf]; omega
            · obtain ⟨k, rfl⟩ : ∃ k : Nat, kd = (k : Int) := ⟨kd.toNat, by omega⟩
              have k18 : (k : Int) ≤ 18 := by omega
              have k1 : (1 : Int) ≤ (k : Int) := by omega
              have hbit : bits .and .i64 (16380 / 2 ^ k) 1 = 0 := by
                have h := bit_of 16380 k (by decide)
                have hc : k = 1 ∨ k = 14 ∨ k = 15 ∨ k = 16 ∨ k = 17 ∨ k = 18 := by omega
                rw [show (16380 : Int) = ((16380 : Nat) : Int) from rfl, h]
                rcases hc with rfl | rfl | rfl | rfl | rfl | rfl <;> rfl
              clear hkd
              go_wp2
              go_roundw
              case rel =>
                first
                  | exact ⟨j + 1, by omega, by go_num, HU.out.next⟩
                  | ((repeat apply Exists.intro); exact ⟨⟨j + 1, by omega, by go_num, HU.out.next⟩, rfl⟩)
              case measure => simp [intOf]; omega
      · have hpos2 : ¬ 0 < left := hpos
        go_wp2
        go_ret
        exact ⟨rfl, HK.out⟩
    · obtain rfl : j = n := by omega
      go_wp2
      go_ret
      exact ⟨rfl, HK.out⟩
end Go.Proofs.YthhbpebihgjpjaaGreatDoor

namespace Go.Proofs.YthhbpebihgjpjaaGreatDoor
open Go.RowKit
set_option maxRecDepth 1000000

set_option maxHeartbeats 2000000 in
theorem small_long (ao : Option Addr) (n cap : Nat) (w : World) (hgr : 262144 < n) (hn : n ≤ 140737488351232) :
    Calls Tryz.prog 37 #[.slice ao n cap] w fun e w' => e = .returned (.bool false) ∧ w' = w := by
  have n0 : (n : Int) ≤ 140737488351232 := by omega
  have g1 : (262144 : Int) < (n : Int) := by omega
  go_enter Tryz.func37, Tryz.ntmps37
  go_wp2
  go_ret
  exact ⟨rfl, rfl⟩

set_option maxHeartbeats 2000000 in
theorem disks_any (a : Nat → Addr) (t : Nat → ByteArray) (ao : Option Addr) (n cap : Nat) (w : World) (hs : ScriptAt w ao n) (hS : Sents a t w) (hg : 14 ≤ w.heap.size) :
    Calls Tryz.prog 4 #[.slice ao n cap] w fun e w' => e = .returned (.bool true) ∧ Keeps w.heap.size w w' := by
  have HS : Hid (ScriptAt w ao n) := hs
  have HSE : Hid (Sents a t w) := hS
  have hn0 := hs.1
  clear hs hS
  by_cases hgr : 262144 < n
  · have HL : Hid (Calls Tryz.prog 37 #[.slice ao n cap] w fun e w' => e = .returned (.bool false) ∧ w' = w) := small_long ao n cap w hgr hn0
    go_enter Tryz.func4, Tryz.ntmps4
    go_wp2_with fail
    go_enter Tryz.func14, Tryz.ntmps14
    go_wp2_with fail
    refine HL.out.mono ?_
    rintro e w1 ⟨rfl, rfl⟩
    go_wp2
    first
      | (go_ret; exact ⟨rfl, Keeps.refl _ _⟩)
      | skip
  · have hn : n ≤ 262144 := by omega
    have HUP : Hid (∀ w1, Below w.heap.size w w1 → Calls Tryz.prog 38 #[.slice ao n cap, .int .i64 16380, .int .i64 16380, .bool false] w1 fun e w' => e = .returned (.int .i64 (-1)) ∧ Keeps w1.heap.size w1 w') := fun w1 hb => upto_disks a t ao n cap w1 (HS.out.later hb.size hb.block) hn (HSE.out.below hb) (Nat.le_trans hg hb.size)
    go_enter Tryz.func4, Tryz.ntmps4
    go_wp2_with fail
    go_enter Tryz.func14, Tryz.ntmps14
    go_wp2_with fail
    refine (small_any ao n cap w HS.out).mono ?_
    rintro e w1 ⟨r, rfl, hb1⟩
    have HB1 : Hid (Below w.heap.size w w1) := hb1
    clear hb1
    cases r
    · go_wp2
      first
        | (go_ret; exact ⟨rfl, Keeps.of HB1.out⟩)
        | skip
    · go_wp2_with fail
      refine (HUP.out w1 HB1.out).mono ?_
      rintro e w2 ⟨rfl, hk2⟩
      have HK2 : Hid (Keeps w.heap.size w w2) := (Keeps.of HB1.out).trans (hk2.mono HB1.out.size)
      clear hk2
      go_wp2
      first
        | (go_ret; exact ⟨rfl, HK2.out⟩)
        | skip
end Go.Proofs.YthhbpebihgjpjaaGreatDoor

namespace Go.Proofs.YthhbpebihgjpjaaGreatDoor
open Go.RowKit
set_option maxRecDepth 1000000

set_option maxHeartbeats 2000000 in
theorem sums_any (ao : Option Addr) (n cap : Nat) (w : World) (hs : ScriptAt w ao n) (hr : RoundsAt w) :
    Calls Tryz.prog 3 #[.slice ao n cap] w fun e w' => e = .returned (.bool true) ∧ Keeps w.heap.size w w' := by
  have HS : Hid (ScriptAt w ao n) := hs
  have HR : Hid (RoundsAt w) := hr
  clear hs hr
  go_enter Tryz.func3, Tryz.ntmps3
  go_wp2_with fail
  go_enter Tryz.func14, Tryz.ntmps14
  go_wp2_with fail
  refine (small_any ao n cap w HS.out).mono ?_
  rintro e w1 ⟨r, rfl, hb1⟩
  have HB1 : Hid (Below w.heap.size w w1) := hb1
  clear hb1
  cases r
  · go_wp2
    first
      | (go_ret; exact ⟨rfl, Keeps.of HB1.out⟩)
      | skip
  · go_wp2_with fail
    refine (upto_sums ao n cap w1 (HS.out.later HB1.out.size HB1.out.block) (HR.out.later HB1.out.block)).mono ?_
    rintro e w2 ⟨rfl, hk2⟩
    have HK2 : Hid (Keeps w.heap.size w w2) := (Keeps.of HB1.out).trans (hk2.mono HB1.out.size)
    clear hk2
    go_wp2
    first
      | (go_ret; exact ⟨rfl, HK2.out⟩)
      | skip
end Go.Proofs.YthhbpebihgjpjaaGreatDoor
