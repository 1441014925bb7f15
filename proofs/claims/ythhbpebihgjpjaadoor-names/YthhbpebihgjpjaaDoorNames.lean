import Derived.Test.YthhbpebihgjpjaaDoorReason
namespace Go.Proofs.YthhbpebihgjpjaaDoor
open Go.RowKit Go.Extern.Stop Go.Stop Go.Extern
set_option maxRecDepth 100000

theorem full_of (s : ByteArray) (h : 1 ≤ s.size) : s.toList.isEmpty = false := by
  rw [ByteArray.toList_eq]
  cases e : s.data.toList with
  | nil =>
    have : s.data.size = 0 := by rw [← Array.length_toList, e]; rfl
    have hs : s.size = s.data.size := rfl
    omega
  | cons x r => rfl

set_option maxHeartbeats 1000000 in
theorem reason_bare (a : Nat → Addr) (t : Nat → ByteArray) (k : Nat) (hk : k < 9) (w : World) (hS : Sents a t w) :
    Calls Tryd.prog 4 #[.int .i64 k, .bool false] w fun e w' => e = .returned (.tuple #[.int .i64 (k + 1), .int .i64 (-1), .bool true]) ∧ Below w.heap.size w w' := by
  have c0 : w.cell? ⟨0, 0, none⟩ = _ := hS.cell 0 (by omega)
  have c1 : w.cell? ⟨1, 0, none⟩ = _ := hS.cell 1 (by omega)
  have c2 : w.cell? ⟨2, 0, none⟩ = _ := hS.cell 2 (by omega)
  have c3 : w.cell? ⟨3, 0, none⟩ = _ := hS.cell 3 (by omega)
  have c4 : w.cell? ⟨4, 0, none⟩ = _ := hS.cell 4 (by omega)
  have c5 : w.cell? ⟨5, 0, none⟩ = _ := hS.cell 5 (by omega)
  have c6 : w.cell? ⟨6, 0, none⟩ = _ := hS.cell 6 (by omega)
  have c7 : w.cell? ⟨7, 0, none⟩ = _ := hS.cell 7 (by omega)
  have c8 : w.cell? ⟨8, 0, none⟩ = _ := hS.cell 8 (by omega)
  have hb1 : Below w.heap.size w (w.alloc (.cells (nine a) 26)) := (Below.refl _ _).alloc (Nat.le_refl _) _
  have hn := nine_cell a w k hk
  simp only [nine] at hn
  have HS1 : Hid (Sents a t (w.alloc (.cells (nine a) 26))) := hS.below hb1
  have hfull := full_of _ (hS.full k hk)
  go_enter Tryd.func4, Tryd.ntmps4
  go_wp2_with fail
  clear c0 c1 c2 c3 c4 c5 c6 c7 c8 hn
  refine (number_sent a t k hk _ HS1.out).mono ?_
  rintro e w1 ⟨rfl, hb2⟩
  have hS2 := HS1.out.below hb2
  have HT : Hid (w1.cell? (a k) = some (.string (t k))) := hS2.text k hk
  have HB : Hid (Below w.heap.size w w1) := hb1.trans (hb2.mono (by simp))
  clear hb2 hS2 hb1
  have mE := Tryd.methodErrorE
  go_wp2_with fail
  refine (error_any _ _ _ HT.out).mono ?_
  rintro e w2 ⟨rfl, rfl⟩
  go_wp2
  go_ret3
  refine ⟨?_, HB.out⟩
  simp

set_option maxHeartbeats 1000000 in
theorem reason_wrapped (a : Nat → Addr) (t : Nat → ByteArray) (k : Nat) (hk : k < 9) (w : World) (hS : Sents a t w) :
    Calls Tryd.prog 4 #[.int .i64 k, .bool true] w fun e w' => e = .returned (.tuple #[.int .i64 (k + 1), .int .i64 7, .bool true]) ∧ Below w.heap.size w w' := by
  have c0 : w.cell? ⟨0, 0, none⟩ = _ := hS.cell 0 (by omega)
  have c1 : w.cell? ⟨1, 0, none⟩ = _ := hS.cell 1 (by omega)
  have c2 : w.cell? ⟨2, 0, none⟩ = _ := hS.cell 2 (by omega)
  have c3 : w.cell? ⟨3, 0, none⟩ = _ := hS.cell 3 (by omega)
  have c4 : w.cell? ⟨4, 0, none⟩ = _ := hS.cell 4 (by omega)
  have c5 : w.cell? ⟨5, 0, none⟩ = _ := hS.cell 5 (by omega)
  have c6 : w.cell? ⟨6, 0, none⟩ = _ := hS.cell 6 (by omega)
  have c7 : w.cell? ⟨7, 0, none⟩ = _ := hS.cell 7 (by omega)
  have c8 : w.cell? ⟨8, 0, none⟩ = _ := hS.cell 8 (by omega)
  have hb0 : Below w.heap.size w (w.alloc (.cells (nine a) 26)) := (Below.refl _ _).alloc (Nat.le_refl _) _
  have hb1 : Below w.heap.size w ((w.alloc (.cells (nine a) 26)).alloc (.cells #[.int .i64 7, .iface 66 (.pointer (some (a k)))] 30)) := hb0.alloc (by simp) _
  have hn := nine_cell a w k hk
  simp only [nine] at hn
  have HS1 : Hid (Sents a t ((w.alloc (.cells (nine a) 26)).alloc (.cells #[.int .i64 7, .iface 66 (.pointer (some (a k)))] 30))) := hS.below hb1
  have HF0 : Hid (((w.alloc (.cells (nine a) 26)).alloc (.cells #[.int .i64 7, .iface 66 (.pointer (some (a k)))] 30)).cell? ⟨w.heap.size + 1, 0, none⟩ = some (.int .i64 7)) := by show _ = _; rw [World.cell?_alloc_at _ _ _ _ (by simp)]; rfl
  have HF1 : Hid (((w.alloc (.cells (nine a) 26)).alloc (.cells #[.int .i64 7, .iface 66 (.pointer (some (a k)))] 30)).cell? ⟨w.heap.size + 1, 0 + 1, none⟩ = some (.iface 66 (.pointer (some (a k))))) := by show _ = _; rw [World.cell?_alloc_at _ _ _ _ (by simp)]; rfl
  go_enter Tryd.func4, Tryd.ntmps4
  go_wp2_with fail
  clear c0 c1 c2 c3 c4 c5 c6 c7 c8 hn
  refine (number_fault a t k hk (w.heap.size + 1) 0 _ HS1.out HF0.out HF1.out).mono ?_
  rintro e w1 ⟨rfl, hb2⟩
  have HS2 : Hid (Sents a t w1) := HS1.out.below hb2
  have HG0 : Hid (w1.cell? ⟨w.heap.size + 1, 0, none⟩ = some (.int .i64 7)) := by show _ = _; rw [hb2.cell (by simp)]; exact HF0.out
  have HG1 : Hid (w1.cell? ⟨w.heap.size + 1, 0 + 1, none⟩ = some (.iface 66 (.pointer (some (a k))))) := by show _ = _; rw [hb2.cell (by simp)]; exact HF1.out
  have HB : Hid (Below w.heap.size w w1) := hb1.trans (hb2.mono (by simp; omega))
  clear hb2 hb1 hb0
  have mE := Tryd.methodErrorF
  go_wp2_with fail
  refine (fault_error a t k hk (w.heap.size + 1) 0 _ HS2.out HG0.out HG1.out).mono ?_
  rintro e w2 ⟨s, rfl, hs, n, rfl⟩
  have hfull := full_of _ hs
  go_wp2
  go_ret3
  refine ⟨?_, below_drewN HB.out _⟩
  simp

set_option maxHeartbeats 1000000 in
theorem names_any (a : Nat → Addr) (t : Nat → ByteArray) (w : World) (hS : Sents a t w) :
    Calls Tryd.prog 3 #[] w fun e w' => e = .returned (.bool true) ∧ Below w.heap.size w w' := by
  have HS : Hid (Sents a t w) := hS
  clear hS
  go_enter Tryd.func3, Tryd.ntmps3
  go_wp2
  go_loopw [1] (fun i wr => ∃ j : Nat, j ≤ 9 ∧ i = .int .i64 j ∧ Below w.heap.size w wr) (fun i _ => 9 - (intOf i).toNat)
  case atStart => exact ⟨0, by omega, rfl, Below.refl _ _⟩
  case round =>
    obtain ⟨j, hj, rfl, hb⟩ := hrel
    have HB : Hid (Below w.heap.size w wr) := hb
    clear hb
    by_cases hlt : j < 9
    · have HS1 : Hid (Sents a t wr) := HS.out.below HB.out
      have e1 : (((j : Int) + 1) != (j : Int) + 1) = false := by simp
      go_wp2_with fail
      refine (reason_bare a t j hlt _ HS1.out).mono ?_
      rintro e w1 ⟨rfl, hb1⟩
      have HB1 : Hid (Below w.heap.size w w1) := HB.out.trans (hb1.mono HB.out.size)
      have HS2 : Hid (Sents a t w1) := HS1.out.below hb1
      clear hb1
      go_wp2_with fail
      refine (reason_wrapped a t j hlt _ HS2.out).mono ?_
      rintro e w2 ⟨rfl, hb2⟩
      have HB2 : Hid (Below w.heap.size w w2) := HB1.out.trans (hb2.mono HB1.out.size)
      clear hb2
      go_wp2
      go_roundw
      case rel => exact ⟨j + 1, by omega, by go_num, HB2.out⟩
      case measure => simp [intOf]; omega
    · go_wp2
      go_ret
      exact ⟨rfl, HB.out⟩
end Go.Proofs.YthhbpebihgjpjaaDoor
