import Derived.Test.YthhbpebihgjpjaaGreatDoorR20
import Derived.Test.YthhbpebihgjpjaaGreatDoorR21
import Derived.Deep.RegionWith
namespace Go.Proofs.YthhbpebihgjpjaaGreatDoor
open Go.RowKit
set_option maxRecDepth 1000000

def keyAt (i : Nat) : Nat := keys.getD i 0
theorem keyAt_lt (i : Nat) : keyAt i < 4294967296 := by
  unfold keyAt
  by_cases h : i < 64
  · have : ∀ x ∈ keys, x < 4294967296 := by decide
    rw [List.getD_eq_getElem?_getD, List.getElem?_eq_getElem (by exact h)]
    exact this _ (List.getElem_mem _)
  · rw [List.getD_eq_getElem?_getD, List.getElem?_eq_none (by show 64 ≤ i; omega)]; decide

/-- The maker, where it lies: its two lists. -/
structure MakerAt (w : World) (mb : Nat) : Prop where
  ex : ∃ kb kc hb hc, w.cell? ⟨mb, 0, none⟩ = some (.slice (some ⟨kb, 0, none⟩) 64 kc) ∧ w.cell? ⟨mb, 1, none⟩ = some (.slice (some ⟨hb, 0, none⟩) 8 hc) ∧
    (∀ i, i < 64 → w.cell? ⟨kb, i, none⟩ = some (.int .i64 (keyAt i))) ∧ (∀ i, i < 8 → w.cell? ⟨hb, i, none⟩ = some (.int .i64 (Sha.H0.get i)))
theorem MakerAt.later {w w' : World} {mb : Nat} (h : MakerAt w mb) (hb : ∀ k, k < w.heap.size → w'.heap[k]? = w.heap[k]?) : MakerAt w' mb := by
  obtain ⟨kb, kc, hb0, hc, h1, h2, h3, h4⟩ := h.ex
  have f : ∀ (p : Addr) v, w.cell? p = some v → w'.cell? p = some v := fun p v h => by rw [World.cell?_of_block (w := w) (a := p) (hb _ (block_lt_of_cell h))]; exact h
  exact ⟨kb, kc, hb0, hc, f _ _ h1, f _ _ h2, fun i hi => f _ _ (h3 i hi), fun i hi => f _ _ (h4 i hi)⟩
theorem heads_H0 : heads = (List.range 8).map Sha.H0.get := by decide
theorem heads_at (i : Nat) (h : i < 8) : heads.getD i 0 = Sha.H0.get i := by
  rw [heads_H0]; simp [h]
/-- NewMaker, as the steps need it. -/
theorem maker_new (w : World) :
    Calls Tryz.prog 55 #[] w fun e w' => ∃ m, e = .returned (.pointer (some ⟨m, 0, none⟩)) ∧ (∀ (a : Addr) v, a.block < w.heap.size → MakerAt (w'.setCell a v) m) ∧ Below w.heap.size w w' := by
  refine (newMaker_any w).mono ?_
  rintro e w' ⟨m, vk, vh, rfl, hm, hrow, hk, hh, hb⟩
  obtain ⟨gk, ck, rfl, bk, h3⟩ := hk.row (by decide)
  obtain ⟨gh, ch, rfl, bh, h4⟩ := hh.row (by decide)
  refine ⟨m, rfl, fun a v ha => ?_, hb⟩
  have f : ∀ (p : Addr) u, w.heap.size ≤ p.block → w'.cell? p = some u → (w'.setCell a v).cell? p = some u := fun p u hp h => by
    rw [World.cell?_setCell_other _ _ _ _ (by intro h; rw [h] at ha; omega)]; exact h
  exact ⟨gk, ck, gh, ch, f _ _ hm (by rw [cell_of_row _ _ _ _ _ _ hrow]; rfl), f _ _ hm (by rw [cell_of_row _ _ _ _ _ _ hrow]; rfl), fun i hi => f _ _ bk (h3 i hi), fun i hi => f _ _ bh (by rw [h4 i hi, heads_at i hi])⟩

/-- The table of the program's rounds, where it lies. -/
def RoundsAt (w : World) : Prop := ∀ i, i < 64 → w.cell? ⟨10, i, none⟩ = some (.int .u32 (keyAt i))
theorem RoundsAt.later {w w' : World} (h : RoundsAt w) (hb : ∀ k, k < w.heap.size → w'.heap[k]? = w.heap[k]?) : RoundsAt w' := fun i hi => by
  rw [World.cell?_of_block (w := w) (a := ⟨10, i, none⟩) (hb _ (block_lt_of_cell (h i hi)))]; exact h i hi

set_option maxHeartbeats 2000000 in
theorem step_sum (x : OpV) (hk : x.kd = 1) (hs : x.s.size ≤ 140737488351232) (wb mb : Nat) (w : World) (hm : w.cell? ⟨wb, 0, none⟩ = some (.pointer (some ⟨mb, 0, none⟩))) (hmk : MakerAt w mb) (hr : RoundsAt w) :
    Calls Tryz.prog 56 #[.pointer (some ⟨wb, 0, none⟩), .agg x.vals.toArray] w fun e w' => e = .returned (.bool true) ∧ Keeps w.heap.size w w' := by
  have HMK : Hid (MakerAt w mb) := hmk
  have HR : Hid (RoundsAt w) := hr
  have HM : Hid (w.cell? ⟨wb, 0, none⟩ = some (.pointer (some ⟨mb, 0, none⟩))) := hm
  obtain ⟨kd, ya, yb, yd, ys, yt, la, ln, lc, ma, mn, mc⟩ := x
  simp only at hk hs
  subst hk
  simp only [OpV.vals]
  clear hmk hr hm
  go_enter Tryz.func56, Tryz.ntmps56
  go_wp2_with fail
  have HB1 : Hid (Below w.heap.size w (w.alloc (.cells #[.int .i64 1, .int .i64 ya, .int .i64 yb, .int .i64 yd, .string ys, .string yt, .slice la ln lc, .slice ma mn mc] 104))) := (Below.refl _ _).alloc (Nat.le_refl _) _
  have c4 : (w.alloc (.cells #[.int .i64 1, .int .i64 ya, .int .i64 yb, .int .i64 yd, .string ys, .string yt, .slice la ln lc, .slice ma mn mc] 104)).cell? ⟨w.heap.size, 4, none⟩ = some (.string ys) := cell_fresh _ _ _ _ _ rfl
  generalize w.alloc (.cells #[.int .i64 1, .int .i64 ya, .int .i64 yb, .int .i64 yd, .string ys, .string yt, .slice la ln lc, .slice ma mn mc] 104) = W1 at *
  refine (sum_any keyAt ys (by omega) W1 (HR.out.later HB1.out.block) keyAt_lt).mono ?_
  rintro e w2 ⟨s, HS, rfl, hb2⟩
  have HB2 : Hid (Below w.heap.size w w2) := HB1.out.trans (hb2.mono HB1.out.size)
  have c4' : w2.cell? ⟨w.heap.size, 4, none⟩ = some (.string ys) := by rw [hb2.cell (p := ⟨w.heap.size, 4, none⟩) (block_lt_of_cell c4)]; exact c4
  have cm : w2.cell? ⟨wb, 0, none⟩ = some (.pointer (some ⟨mb, 0, none⟩)) := by rw [HB2.out.cell (p := ⟨wb, 0, none⟩) (block_lt_of_cell HM.out)]; exact HM.out
  obtain ⟨kb, kc, hb0, hc0, m1, m2, m3, m4⟩ := (HMK.out.later HB2.out.block).ex
  have M1 : Hid (w2.cell? ⟨mb, 0, none⟩ = some (.slice (some ⟨kb, 0, none⟩) 64 kc)) := m1
  have M2 : Hid (w2.cell? ⟨mb, 1, none⟩ = some (.slice (some ⟨hb0, 0, none⟩) 8 hc0)) := m2
  have M3 : Hid (∀ i, i < 64 → w2.cell? ⟨kb, i, none⟩ = some (.int .i64 (keyAt i))) := m3
  have M4 : Hid (∀ i, i < 8 → w2.cell? ⟨hb0, i, none⟩ = some (.int .i64 (Sha.H0.get i))) := m4
  clear hb2 c4 m1 m2 m3 m4 HB1
  go_wp2_with fail
  go_region_with (go_at_call 80; refine (msum_any ys hs mb 0 kb kc hb0 hc0 keyAt _ ?_ ?_ ?_ ?_ keyAt_lt).mono ?_; exact M1.out; exact M2.out; exact M3.out; exact M4.out; rintro e w3 ⟨s2, HS2, rfl, hk3⟩)
  all_goals
    obtain rfl : s2 = s := HS2.out.trans HS.out.symm
    have HK3 : Hid (Keeps w.heap.size w w3) := (Keeps.of HB2.out).trans ((show Keeps w2.heap.size w2 w3 from ⟨hk3.os, hk3.output, hk3.size, hk3.block⟩).mono HB2.out.size)
    clear hk3 M1 M2 M3 M4 cm c4' HS HS2
    generalize outStr s2.byte = z at *
    go_wp2
    go_ret
    exact ⟨rfl, HK3.out⟩
end Go.Proofs.YthhbpebihgjpjaaGreatDoor
