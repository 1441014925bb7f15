import Derived.Test.YthhbpebihgjpjaaGreatDoorR03
import Derived.BigRegion
import Derived.BigQuiet
import Derived.Deep.QuietTactic
import Derived.Laws.Rows
import Derived.Deep.RegionHeld3
namespace Go.Proofs.YthhbpebihgjpjaaGreatDoor
open Go.RowKit
set_option maxRecDepth 1000000

/-- Sixty-four bytes, sixty-four words, as values. -/
def bytesV (b : Nat → Nat) : Array Value := ((List.range 64).map fun i => Value.int .u8 (b i)).toArray
def wordsV (f : Nat → Nat) : Array Value := ((List.range 64).map fun i => Value.int .u32 (f i)).toArray
theorem bytesV_size (b : Nat → Nat) : (bytesV b).size = 64 := by simp [bytesV]
theorem wordsV_size (b : Nat → Nat) : (wordsV b).size = 64 := by simp [wordsV]
theorem bytesV_at (b : Nat → Nat) (i : Nat) (h : i < 64) : (bytesV b)[i]? = some (.int .u8 (b i)) := by simp [bytesV, h]
theorem wordsV_at (b : Nat → Nat) (i : Nat) (h : i < 64) : (wordsV b)[i]? = some (.int .u32 (b i)) := by simp [wordsV, h]

theorem wordsV_zero : wordsV (fun _ => 0) = #[.int .u32 0, .int .u32 0, .int .u32 0, .int .u32 0, .int .u32 0, .int .u32 0, .int .u32 0, .int .u32 0, .int .u32 0, .int .u32 0, .int .u32 0, .int .u32 0, .int .u32 0, .int .u32 0, .int .u32 0, .int .u32 0, .int .u32 0, .int .u32 0, .int .u32 0, .int .u32 0, .int .u32 0, .int .u32 0, .int .u32 0, .int .u32 0, .int .u32 0, .int .u32 0, .int .u32 0, .int .u32 0, .int .u32 0, .int .u32 0, .int .u32 0, .int .u32 0, .int .u32 0, .int .u32 0, .int .u32 0, .int .u32 0, .int .u32 0, .int .u32 0, .int .u32 0, .int .u32 0, .int .u32 0, .int .u32 0, .int .u32 0, .int .u32 0, .int .u32 0, .int .u32 0, .int .u32 0, .int .u32 0, .int .u32 0, .int .u32 0, .int .u32 0, .int .u32 0, .int .u32 0, .int .u32 0, .int .u32 0, .int .u32 0, .int .u32 0, .int .u32 0, .int .u32 0, .int .u32 0, .int .u32 0, .int .u32 0, .int .u32 0, .int .u32 0] := rfl
theorem wordsV_set (f : Nat → Nat) (n v : Nat) : (wordsV f).setIfInBounds n (.int .u32 v) = wordsV (fun i => if i = n then v else f i) := by
  apply Array.ext
  · simp [wordsV]
  · intro i h1 h2
    have h3 : i < 64 := by simpa [wordsV] using h2
    rw [Array.getElem_setIfInBounds (by simpa [wordsV] using h3)]
    by_cases e : n = i
    · subst e; simp [wordsV]
    · have e' : ¬ i = n := fun h => e h.symm
      simp [wordsV, e, e']

theorem wordsV_one (f : Nat → Nat) : (wordsV f).all (·.oneCell') = true := by simp [wordsV, Value.oneCell']
theorem wordsV_congr (f g : Nat → Nat) (h : ∀ i, i < 64 → f i = g i) : wordsV f = wordsV g := by
  unfold wordsV
  congr 1
  apply List.map_congr_left
  intro i hi
  rw [h i (List.mem_range.1 hi)]

/-- What lies in memory as spread goes: the block's bytes, the result's cells, the words so far. -/
structure SpMem (b : Nat → Nat) (w : World) (n : Nat) (wr : World) : Prop where
  bytes : wr.heap[w.heap.size]? = some (.cells (bytesV b) 320 (0, 0))
  res : wr.heap[w.heap.size + 1]? = some (.cells (wordsV fun _ => 0) 412 (0, 0))
  words : wr.heap[w.heap.size + 1 + 1]? = some (.cells (wordsV (Sha.upTo b n)) 412 (0, 0))
  below : Below w.heap.size w wr

theorem SpMem.start (b : Nat → Nat) (w : World) : SpMem b w 0 (((w.alloc (.cells (bytesV b) 320)).alloc (.cells (wordsV fun _ => 0) 412)).alloc (.cells (wordsV fun _ => 0) 412)) where
  bytes := by rw [heapA_old _ _ _ (by simp; omega), heapA_old _ _ _ (by simp)]; exact heapA_new _ _ _ rfl
  res := by rw [heapA_old _ _ _ (by simp)]; exact heapA_new _ _ _ (by simp)
  words := heapA_new _ _ _ (by simp)
  below := (((Below.refl _ _).alloc (Nat.le_refl _) _).alloc (by simp) _).alloc (by simp; omega) _

theorem SpMem.step {b : Nat → Nat} {w : World} {n : Nat} {wr : World} (h : SpMem b w n wr) (v : Int) (hv : v = ((Sha.word b n : Nat) : Int)) :
    SpMem b w (n + 1) (wr.setCell ⟨w.heap.size + 1 + 1, n, none⟩ (.int .u32 v)) where
  bytes := by rw [heap_setCell_other _ _ _ _ (by simp; omega)]; exact h.bytes
  res := by rw [heap_setCell_other _ _ _ _ (by simp)]; exact h.res
  words := by
    subst hv
    rw [heap_setCell_same _ _ _ _ _ _ h.words, wordsV_set]
    have e : (fun i => if i = n then Sha.word b n else Sha.upTo b n i) = Sha.upTo b (n + 1) := by
      funext i
      by_cases e : i = n
      · subst e; rw [if_pos rfl]; rfl
      · rw [if_neg e]; show _ = (if i = n then _ else Sha.upTo b n i); rw [if_neg e]
    rw [e]
  below := h.below.setCell (by simp; omega) _

theorem SpMem.drew {b : Nat → Nat} {w : World} {n : Nat} {wr : World} (h : SpMem b w n wr) : SpMem b w n wr.drew := ⟨h.bytes, h.res, h.words, h.below.drew⟩
theorem SpMem.drewN {b : Nat → Nat} {w : World} {n : Nat} {wr : World} (h : SpMem b w n wr) (q : Nat) : SpMem b w n (wr.drewN q) := ⟨h.bytes, h.res, h.words, below_drewN h.below q⟩

set_option maxHeartbeats 2000000 in
theorem spread_any (b : Nat → Nat) (hb : ∀ i, b i < 256) (w : World) :
    Calls Tryz.prog 277 #[.agg (bytesV b)] w fun e w' => e = .returned (.agg (wordsV (Sha.word b))) ∧ Below w.heap.size w w' := by
  have hsz := bytesV_size b
  have H0 := SpMem.start b w
  have HB : Hid (∀ i, b i < 256) := hb
  clear hb
  go_enter Tryz.func277, Tryz.ntmps277
  go_wp2
  rw [← wordsV_zero]
  go_loopw [8] (fun i wr => ∃ n : Nat, n ≤ 16 ∧ i = .int .i64 n ∧ SpMem b w n wr) (fun i _ => 16 - (intOf i).toNat)
  case atStart => exact ⟨0, by omega, rfl, H0⟩
  case round =>
    obtain ⟨n, hn, rfl, hm⟩ := hrel
    have HM : Hid (SpMem b w n wr) := hm
    clear hm H0
    by_cases hlt : n < 16
    · have c0 : wr.cell? ⟨w.heap.size, (4 * (n : Int)).toNat, none⟩ = some (.int .u8 (b (4 * n))) := by rw [show (4 * (n : Int)).toNat = 4 * n by omega, cell_of_row _ _ _ _ _ _ HM.out.bytes]; exact bytesV_at _ _ (by omega)
      have c1 : wr.cell? ⟨w.heap.size, (4 * (n : Int) + 1).toNat, none⟩ = some (.int .u8 (b (4 * n + 1))) := by rw [show (4 * (n : Int) + 1).toNat = 4 * n + 1 by omega, cell_of_row _ _ _ _ _ _ HM.out.bytes]; exact bytesV_at _ _ (by omega)
      have c2 : wr.cell? ⟨w.heap.size, (4 * (n : Int) + 2).toNat, none⟩ = some (.int .u8 (b (4 * n + 2))) := by rw [show (4 * (n : Int) + 2).toNat = 4 * n + 2 by omega, cell_of_row _ _ _ _ _ _ HM.out.bytes]; exact bytesV_at _ _ (by omega)
      have c3 : wr.cell? ⟨w.heap.size, (4 * (n : Int) + 3).toNat, none⟩ = some (.int .u8 (b (4 * n + 3))) := by rw [show (4 * (n : Int) + 3).toNat = 4 * n + 3 by omega, cell_of_row _ _ _ _ _ _ HM.out.bytes]; exact bytesV_at _ _ (by omega)
      have cw : ∃ v, wr.cell? ⟨w.heap.size + 1 + 1, n, none⟩ = some (.int .u32 v) := ⟨_, by rw [cell_of_row _ _ _ _ _ _ HM.out.words]; exact wordsV_at _ _ (by omega)⟩
      obtain ⟨v, cw⟩ := cw
      have fw : wr.frozen? ⟨w.heap.size + 1 + 1, n, none⟩ = false := frozen_of_row _ _ _ _ _ HM.out.words
      have hkeep : ∀ v o, (wr.setCell ⟨w.heap.size + 1 + 1, n, none⟩ v).cell? ⟨w.heap.size, o, none⟩ = wr.cell? ⟨w.heap.size, o, none⟩ := fun v o => World.cell?_setCell_other _ _ _ _ (by simp)
      have i0 : (0 : Int) ≤ (n : Int) := by omega
      have i1 : (n : Int) < 16 := by omega
      have j0 : (0 : Int) ≤ 4 * (n : Int) := by omega
      have j1 : 4 * (n : Int) < 64 := by omega
      have j2 : (0 : Int) ≤ 4 * (n : Int) + 1 := by omega
      have j3 : 4 * (n : Int) + 1 < 64 := by omega
      have j4 : (0 : Int) ≤ 4 * (n : Int) + 2 := by omega
      have j5 : 4 * (n : Int) + 2 < 64 := by omega
      have j6 : (0 : Int) ≤ 4 * (n : Int) + 3 := by omega
      have j7 : 4 * (n : Int) + 3 < 64 := by omega
      have j8 : (n : Int) < 64 := by omega
      have k0 : IntKind.i64.wrap (4 * (n : Int)) = 4 * (n : Int) := by rw [IntKind.wrap_i64]; omega
      have k1 : IntKind.i64.wrap (4 * (n : Int) + 1) = 4 * (n : Int) + 1 := by rw [IntKind.wrap_i64]; omega
      have k2 : IntKind.i64.wrap (4 * (n : Int) + 2) = 4 * (n : Int) + 2 := by rw [IntKind.wrap_i64]; omega
      have k3 : IntKind.i64.wrap (4 * (n : Int) + 3) = 4 * (n : Int) + 3 := by rw [IntKind.wrap_i64]; omega
      go_wp2
      go_region_held3 (fun w' => w'.cell? ⟨w.heap.size, (4 * (n : Int)).toNat, none⟩ = some (.int .u8 (b (4 * n))) ∧ w'.cell? ⟨w.heap.size, (4 * (n : Int) + 1).toNat, none⟩ = some (.int .u8 (b (4 * n + 1))) ∧ w'.cell? ⟨w.heap.size, (4 * (n : Int) + 2).toNat, none⟩ = some (.int .u8 (b (4 * n + 2))) ∧ w'.cell? ⟨w.heap.size, (4 * (n : Int) + 3).toNat, none⟩ = some (.int .u8 (b (4 * n + 3)))) (simp [hkeep, c0, c1, c2, c3]) (fail)
      go_wp2
      go_roundw
      case rel => exact ⟨n + 1, by omega, by go_num, (HM.out.step _ (by rw [Sha.or4 _ _ _ _ (HB.out _) (HB.out _) (HB.out _) (HB.out _), Sha.word_low b n hlt])).drew⟩
      case measure => simp [intOf]; omega
    · obtain rfl : n = 16 := by omega
      obtain ⟨wo, rfl⟩ : ∃ wo : World, wo = wr := ⟨_, rfl⟩
      go_wp2
      go_loopw [5] (fun i wr => ∃ m : Nat, 16 ≤ m ∧ m ≤ 64 ∧ i = .int .i64 m ∧ SpMem b w m wr) (fun i _ => 64 - (intOf i).toNat)
      case atStart => exact ⟨16, by omega, by omega, rfl, HM.out⟩
      case round =>
        clear HM
        obtain ⟨m, hm16, hm, rfl, hmem⟩ := hrel
        have HM : Hid (SpMem b w m wr) := hmem
        clear hmem
        by_cases hlt : m < 64
        · have row : ∀ j, j < m → wr.cell? ⟨w.heap.size + 1 + 1, j, none⟩ = some (.int .u32 (Sha.word b j)) := fun j hj => by rw [cell_of_row _ _ _ _ _ _ HM.out.words, wordsV_at _ _ (by omega), Sha.upTo_old b m j hj]
          have d15 : wr.cell? ⟨w.heap.size + 1 + 1, ((m : Int) - 15).toNat, none⟩ = some (.int .u32 (Sha.word b (m - 15))) := by rw [show ((m : Int) - 15).toNat = m - 15 by omega]; exact row _ (by omega)
          have d2 : wr.cell? ⟨w.heap.size + 1 + 1, ((m : Int) - 2).toNat, none⟩ = some (.int .u32 (Sha.word b (m - 2))) := by rw [show ((m : Int) - 2).toNat = m - 2 by omega]; exact row _ (by omega)
          have d16 : wr.cell? ⟨w.heap.size + 1 + 1, ((m : Int) - 16).toNat, none⟩ = some (.int .u32 (Sha.word b (m - 16))) := by rw [show ((m : Int) - 16).toNat = m - 16 by omega]; exact row _ (by omega)
          have d7 : wr.cell? ⟨w.heap.size + 1 + 1, ((m : Int) - 7).toNat, none⟩ = some (.int .u32 (Sha.word b (m - 7))) := by rw [show ((m : Int) - 7).toNat = m - 7 by omega]; exact row _ (by omega)
          have cw : ∃ v, wr.cell? ⟨w.heap.size + 1 + 1, m, none⟩ = some (.int .u32 v) := ⟨_, by rw [cell_of_row _ _ _ _ _ _ HM.out.words]; exact wordsV_at _ _ (by omega)⟩
          obtain ⟨v, cw⟩ := cw
          have fw : wr.frozen? ⟨w.heap.size + 1 + 1, m, none⟩ = false := frozen_of_row _ _ _ _ _ HM.out.words
          clear row
          have hk16 : ∀ v, (wr.setCell ⟨w.heap.size + 1 + 1, m, none⟩ v).cell? ⟨w.heap.size + 1 + 1, ((m : Int) - 16).toNat, none⟩ = some (.int .u32 (Sha.word b (m - 16))) := fun v => by rw [World.cell?_setCell_other _ _ _ _ (by intro h; injection h; omega)]; exact d16
          have hk7 : ∀ v, (wr.setCell ⟨w.heap.size + 1 + 1, m, none⟩ v).cell? ⟨w.heap.size + 1 + 1, ((m : Int) - 7).toNat, none⟩ = some (.int .u32 (Sha.word b (m - 7))) := fun v => by rw [World.cell?_setCell_other _ _ _ _ (by intro h; injection h; omega)]; exact d7
          have i0 : (0 : Int) ≤ (m : Int) := by omega
          have i1 : (m : Int) < 64 := by omega
          have j0 : (0 : Int) ≤ (m : Int) - 15 := by omega
          have j1 : (m : Int) - 15 < 64 := by omega
          have j2 : (0 : Int) ≤ (m : Int) - 2 := by omega
          have j3 : (m : Int) - 2 < 64 := by omega
          have j4 : (0 : Int) ≤ (m : Int) - 16 := by omega
          have j5 : (m : Int) - 16 < 64 := by omega
          have j6 : (0 : Int) ≤ (m : Int) - 7 := by omega
          have j7 : (m : Int) - 7 < 64 := by omega
          have k0 : IntKind.i64.wrap ((m : Int) - 15) = (m : Int) - 15 := by rw [IntKind.wrap_i64]; omega
          have k1 : IntKind.i64.wrap ((m : Int) - 2) = (m : Int) - 2 := by rw [IntKind.wrap_i64]; omega
          have k2 : IntKind.i64.wrap ((m : Int) - 16) = (m : Int) - 16 := by rw [IntKind.wrap_i64]; omega
          have k3 : IntKind.i64.wrap ((m : Int) - 7) = (m : Int) - 7 := by rw [IntKind.wrap_i64]; omega
          have g15 : (15 : Int) ≤ (m : Int) := by omega
          have g2 : (2 : Int) ≤ (m : Int) := by omega
          have g16 : (16 : Int) ≤ (m : Int) := by omega
          have g7 : (7 : Int) ≤ (m : Int) := by omega
          have n15 : 15 ≤ m := by omega
          have n2 : 2 ≤ m := by omega
          have n7 : 7 ≤ m := by omega
          have l15 : Sha.word b (m - 15) < 4294967296 := Sha.word_lt b HB.out _
          have l2 : Sha.word b (m - 2) < 4294967296 := Sha.word_lt b HB.out _
          go_wp2
          go_region_held3 (fun w' => w'.cell? ⟨w.heap.size + 1 + 1, ((m : Int) - 15).toNat, none⟩ = some (.int .u32 (Sha.word b (m - 15))) ∧ w'.cell? ⟨w.heap.size + 1 + 1, ((m : Int) - 2).toNat, none⟩ = some (.int .u32 (Sha.word b (m - 2)))) (go_keep) (fail)
          go_wp2_with fail
          refine (turn7 _ _ l15).mono ?_
          rintro e w' ⟨rfl, rfl⟩
          go_wp2_with fail
          refine (turn18 _ _ l15).mono ?_
          rintro e w' ⟨rfl, rfl⟩
          go_wp2_with fail
          refine (turn17 _ _ l2).mono ?_
          rintro e w' ⟨rfl, rfl⟩
          go_wp2_with fail
          refine (turn19 _ _ l2).mono ?_
          rintro e w' ⟨rfl, rfl⟩
          go_wp2_with fail
          rw [Sha.s0_u32 _ l15, Sha.s1_u32 _ l2]
          go_region_held3 (fun w' => w'.cell? ⟨w.heap.size + 1 + 1, ((m : Int) - 16).toNat, none⟩ = some (.int .u32 (Sha.word b (m - 16))) ∧ w'.cell? ⟨w.heap.size + 1 + 1, ((m : Int) - 7).toNat, none⟩ = some (.int .u32 (Sha.word b (m - 7)))) (simp [hk16, hk7, d16, d7]) (fail)
          go_wp2
          go_roundw
          case rel =>
            have hv := (Sha.high_u32 (Sha.word b (m - 16)) (Sha.s0 (Sha.word b (m - 15))) (Sha.word b (m - 7)) (Sha.s1 (Sha.word b (m - 2)))).trans (congrArg (fun x : Nat => (x : Int)) (Sha.word_high b m hm16).symm)
            first
              | exact ⟨m + 1, by omega, by omega, by go_num, (HM.out.step _ hv).drew.drew⟩
              | ((repeat apply Exists.intro); exact ⟨⟨m + 1, by omega, by omega, by go_num, (HM.out.step _ hv).drew.drew⟩, rfl⟩)
          case measure => simp [intOf]; omega
        · obtain rfl : m = 64 := by omega
          have hwz := wordsV_size (Sha.upTo b 64)
          have hwz' := wordsV_size (fun _ => 0)
          have hinf : (Tryz.prog.info? 412).map (·.size) = some 64 := by kernel_rfl
          go_wp2_with (first
            | (refine wpList_load_row rfl 412 _ rfl (w.heap.size + 1 + 1) rfl 412 _ (0, 0) _ HM.out.words Tryz.underlying412 rfl (by rw [hwz]; exact hinf) ?_)
            | (refine wpList_store_mid rfl 412 _ _ rfl (w.heap.size + 1) 0 (wordsV (Sha.upTo b 64)) rfl rfl (there_of_row HM.out.res 0 _ (by rw [hwz, hwz']; omega)) (by rw [hwz]; exact hinf) (wordsV_one _) ?_))
          exact bodyPost_ret (results_cell_row Tryz.results277 _ _ (w.heap.size + 1) 412 (wordsV (Sha.upTo b 64)) (0, 0) _ rfl (heapC_row _ _ _ _ _ HM.out.res (by rw [hwz, hwz'])) Tryz.underlying412 rfl (by rw [hwz]; exact hinf)) rfl
            ⟨by rw [wordsV_congr _ _ (fun i hi => Sha.upTo_old b 64 i hi)], belowC _ _ HM.out.below (by omega)⟩
end Go.Proofs.YthhbpebihgjpjaaGreatDoor
