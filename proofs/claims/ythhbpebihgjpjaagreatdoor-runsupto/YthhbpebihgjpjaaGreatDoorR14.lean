import Derived.Test.YthhbpebihgjpjaaGreatDoorR05
namespace Go.Proofs.YthhbpebihgjpjaaGreatDoor
open Go.RowKit
set_option maxRecDepth 1000000

/-- Thirty-two bytes, as values. -/
def outF (f : Nat → Nat) : Array Value := ((List.range 32).map fun i => Value.int .u8 (f i)).toArray
theorem outF_size (f : Nat → Nat) : (outF f).size = 32 := by simp [outF]
theorem outF_at (f : Nat → Nat) (i : Nat) (h : i < 32) : (outF f)[i]? = some (.int .u8 (f i)) := by simp [outF, h]
theorem outF_set (f : Nat → Nat) (n v : Nat) : (outF f).setIfInBounds n (.int .u8 v) = outF (fun i => if i = n then v else f i) := by
  apply Array.ext
  · simp [outF]
  · intro i h1 h2
    have h3 : i < 32 := by simpa [outF] using h2
    rw [Array.getElem_setIfInBounds (by simpa [outF] using h3)]
    by_cases e : n = i
    · subst e; simp [outF]
    · have e' : ¬ i = n := fun h => e h.symm
      simp [outF, e, e']
theorem outF_one (f : Nat → Nat) : (outF f).all (·.oneCell') = true := by simp [outF, Value.oneCell']
theorem outF_congr (f g : Nat → Nat) (h : ∀ i, i < 32 → f i = g i) : outF f = outF g := by
  unfold outF
  congr 1
  apply List.map_congr_left
  intro i hi
  rw [h i (List.mem_range.1 hi)]
theorem outF_zero : outF (fun _ => 0) = #[.int .u8 0, .int .u8 0, .int .u8 0, .int .u8 0, .int .u8 0, .int .u8 0, .int .u8 0, .int .u8 0, .int .u8 0, .int .u8 0, .int .u8 0, .int .u8 0, .int .u8 0, .int .u8 0, .int .u8 0, .int .u8 0, .int .u8 0, .int .u8 0, .int .u8 0, .int .u8 0, .int .u8 0, .int .u8 0, .int .u8 0, .int .u8 0, .int .u8 0, .int .u8 0, .int .u8 0, .int .u8 0, .int .u8 0, .int .u8 0, .int .u8 0, .int .u8 0] := rfl

/-- A state's bytes, the high byte of each word first. -/
def Sha.St.byte (s : Sha.St) (j : Nat) : Nat := s.get (j / 4) / 2 ^ (24 - 8 * (j % 4)) % 256

structure OutMem (s : Sha.St) (w : World) (m : Nat) (wr : World) : Prop where
  out : ∃ f, wr.heap[w.heap.size + 1 + 1]? = some (.cells (outF f) 217 (0, 0)) ∧ ∀ j, j < 4 * m → f j = s.byte j
  res : wr.heap[w.heap.size + 1]? = some (.cells (outF fun _ => 0) 217 (0, 0))
  below : Below w.heap.size w wr
theorem OutMem.step {s : Sha.St} {w : World} {m : Nat} {wr : World} (h : OutMem s w m wr) (v0 v1 v2 v3 : Int)
    (h0 : v0 = ((s.get m / 16777216 % 256 : Nat) : Int)) (h1 : v1 = ((s.get m / 65536 % 256 : Nat) : Int)) (h2 : v2 = ((s.get m / 256 % 256 : Nat) : Int)) (h3 : v3 = ((s.get m % 256 : Nat) : Int))
    (o0 o1 o2 o3 : Nat) (e0 : o0 = 4 * m) (e1 : o1 = 4 * m + 1) (e2 : o2 = 4 * m + 2) (e3 : o3 = 4 * m + 3) :
    OutMem s w (m + 1) ((((wr.setCell ⟨w.heap.size + 1 + 1, o0, none⟩ (.int .u8 v0)).setCell ⟨w.heap.size + 1 + 1, o1, none⟩ (.int .u8 v1)).setCell ⟨w.heap.size + 1 + 1, o2, none⟩ (.int .u8 v2)).setCell ⟨w.heap.size + 1 + 1, o3, none⟩ (.int .u8 v3)) where
  out := by
    obtain ⟨f, hf, hj⟩ := h.out
    subst h0 h1 h2 h3 e0 e1 e2 e3
    have g0 := heap_setCell_same _ _ (4 * m) _ _ (.int .u8 ((s.get m / 16777216 % 256 : Nat) : Int)) hf
    rw [outF_set] at g0
    have g1 := heap_setCell_same _ _ (4 * m + 1) _ _ (.int .u8 ((s.get m / 65536 % 256 : Nat) : Int)) g0
    rw [outF_set] at g1
    have g2 := heap_setCell_same _ _ (4 * m + 2) _ _ (.int .u8 ((s.get m / 256 % 256 : Nat) : Int)) g1
    rw [outF_set] at g2
    have g3 := heap_setCell_same _ _ (4 * m + 3) _ _ (.int .u8 ((s.get m % 256 : Nat) : Int)) g2
    rw [outF_set] at g3
    refine ⟨_, g3, fun j hlt => ?_⟩
    unfold Sha.St.byte
    by_cases c3 : j = 4 * m + 3
    · subst c3
      rw [if_pos rfl, show (4 * m + 3) / 4 = m by omega, show (4 * m + 3) % 4 = 3 by omega]; try simp
    · rw [if_neg c3]
      by_cases c2 : j = 4 * m + 2
      · subst c2
        rw [if_pos rfl, show (4 * m + 2) / 4 = m by omega, show (4 * m + 2) % 4 = 2 by omega]
      · rw [if_neg c2]
        by_cases c1 : j = 4 * m + 1
        · subst c1
          rw [if_pos rfl, show (4 * m + 1) / 4 = m by omega, show (4 * m + 1) % 4 = 1 by omega]
        · rw [if_neg c1]
          by_cases c0 : j = 4 * m
          · subst c0
            rw [if_pos rfl, show (4 * m) / 4 = m by omega, show (4 * m) % 4 = 0 by omega]
          · rw [if_neg c0, hj j (by omega)]; rfl
  res := by
    rw [heap_setCell_other _ _ _ _ (by simp), heap_setCell_other _ _ _ _ (by simp), heap_setCell_other _ _ _ _ (by simp), heap_setCell_other _ _ _ _ (by simp)]; exact h.res
  below := (((h.below.setCell (by simp; omega) _).setCell (by simp; omega) _).setCell (by simp; omega) _).setCell (by simp; omega) _

set_option maxHeartbeats 2000000 in
theorem stateBytes_any (s : Sha.St) (hs : s.Ok) (w : World) :
    Calls Tryz.prog 205 #[.agg (stF s.get)] w fun e w' => e = .returned (.agg (outF s.byte)) ∧ Below w.heap.size w w' := by
  have hz1 := stF_size s.get
  have i131 : (Tryz.prog.info? 319).map (·.size) = some 8 := by kernel_rfl
  have RS : Hid (s.Ok) := hs
  clear hs
  have hr1 : ((w.alloc (.cells (stF s.get) 319)).alloc (.cells (outF fun _ => 0) 217)).heap[w.heap.size]? = some (.cells (stF s.get) 319 (0, 0)) := by rw [heapA_old _ _ _ (by simp)]; exact heapA_new _ _ _ rfl
  have M0 : Hid (OutMem s w 0 (((w.alloc (.cells (stF s.get) 319)).alloc (.cells (outF fun _ => 0) 217)).alloc (.cells (outF fun _ => 0) 217))) :=
    ⟨⟨_, heapA_new _ _ _ (by simp), fun j h => by omega⟩, by rw [heapA_old _ _ _ (by simp)]; exact heapA_new _ _ _ (by simp), (((Below.refl _ _).alloc (Nat.le_refl _) _).alloc (by simp) _).alloc (by simp; omega) _⟩
  have HR : Hid ((((w.alloc (.cells (stF s.get) 319)).alloc (.cells (outF fun _ => 0) 217)).alloc (.cells (outF fun _ => 0) 217)).heap[w.heap.size]? = some (.cells (stF s.get) 319 (0, 0))) := by
    show _ = _; rw [heapA_old _ _ _ (by simp; omega)]; exact hr1
  clear hr1
  go_enter Tryz.func205, Tryz.ntmps205
  go_wp2_with (refine wpList_load_row rfl 319 _ rfl w.heap.size rfl 319 (stF s.get) (0, 0) _ (by exact HR.out) Tryz.underlying319 rfl (by rw [hz1]; exact i131) ?_)
  rw [← outF_zero]
  go_loopw [7] (fun i wr => ∃ m : Nat, m ≤ 8 ∧ i = .int .i64 m ∧ OutMem s w m wr) (fun i _ => 8 - (intOf i).toNat)
  case atStart => exact ⟨0, by omega, rfl, M0.out⟩
  case round =>
    clear M0 HR
    obtain ⟨m, hm, rfl, hmem⟩ := hrel
    have HM : Hid (OutMem s w m wr) := hmem
    clear hmem
    by_cases hlt : m < 8
    · obtain ⟨f, hf, hj⟩ := HM.out.out
      have hidx : ∀ wx, (Instr.index 319 (.agg (stF s.get)) (.int .i64 m)).run Tryz.prog wx = .ok (.int .u32 (s.get m)) wx := by
        intro wx
        simp [Instr.index, go_sem, stF_at s.get m hlt]
        omega
      have c0 : ∃ v, wr.cell? ⟨w.heap.size + 1 + 1, 4 * m, none⟩ = some v := ⟨_, by rw [cell_of_row _ _ _ _ _ _ hf]; exact outF_at _ _ (by omega)⟩
      have c1 : ∃ v, wr.cell? ⟨w.heap.size + 1 + 1, 4 * m + 1, none⟩ = some v := ⟨_, by rw [cell_of_row _ _ _ _ _ _ hf]; exact outF_at _ _ (by omega)⟩
      have c2 : ∃ v, wr.cell? ⟨w.heap.size + 1 + 1, 4 * m + 2, none⟩ = some v := ⟨_, by rw [cell_of_row _ _ _ _ _ _ hf]; exact outF_at _ _ (by omega)⟩
      have c3 : ∃ v, wr.cell? ⟨w.heap.size + 1 + 1, 4 * m + 3, none⟩ = some v := ⟨_, by rw [cell_of_row _ _ _ _ _ _ hf]; exact outF_at _ _ (by omega)⟩
      obtain ⟨v0, c0⟩ := c0
      obtain ⟨v1, c1⟩ := c1
      obtain ⟨v2, c2⟩ := c2
      obtain ⟨v3, c3⟩ := c3
      have fz : ∀ o, wr.frozen? ⟨w.heap.size + 1 + 1, o, none⟩ = false := fun o => frozen_of_row _ _ _ _ _ hf
      clear hf hj
      have i0 : (0 : Int) ≤ (m : Int) := by omega
      have i1 : (m : Int) < 8 := by omega
      go_wp2
      go_roundw
      case rel =>
        first
          | exact ⟨m + 1, by omega, by go_num, HM.out.step _ _ _ _ (by omega) (by omega) (by omega) (by omega) _ _ _ _ rfl rfl rfl rfl⟩
          | ((repeat apply Exists.intro); exact ⟨⟨m + 1, by omega, by go_num, HM.out.step _ _ _ _ (by omega) (by omega) (by omega) (by omega) _ _ _ _ rfl rfl rfl rfl⟩, rfl⟩)
      case measure => simp [intOf]; omega
    · obtain rfl : m = 8 := by omega
      obtain ⟨f, hf, hj⟩ := HM.out.out
      have HF : Hid (wr.heap[w.heap.size + 1 + 1]? = some (.cells (outF f) 217 (0, 0))) := hf
      have HJ : Hid (∀ j, j < 4 * 8 → f j = s.byte j) := hj
      clear hf hj
      have hy1 := outF_size f
      have hy2 := outF_size (fun _ => 0)
      have i67 : (Tryz.prog.info? 217).map (·.size) = some 32 := by kernel_rfl
      go_wp2_with (first
        | (refine wpList_load_row rfl 217 _ rfl (w.heap.size + 1 + 1) rfl 217 _ (0, 0) _ HF.out Tryz.underlying217 rfl (by rw [hy1]; exact i67) ?_)
        | (refine wpList_store_mid rfl 217 _ _ rfl (w.heap.size + 1) 0 (outF f) rfl rfl (there_of_row HM.out.res 0 _ (by rw [hy1, hy2]; omega)) (by rw [hy1]; exact i67) (outF_one _) ?_))
      refine bodyPost_ret (results_cell_row Tryz.results205 _ _ (w.heap.size + 1) 217 (outF f) (0, 0) _ rfl (heapC_row _ _ _ _ _ HM.out.res (by rw [hy1, hy2])) Tryz.underlying217 rfl (by rw [hy1]; exact i67)) rfl
        ⟨?_, belowC _ _ HM.out.below (by omega)⟩
      rw [outF_congr f s.byte (fun i hi => HJ.out i (by omega))]
end Go.Proofs.YthhbpebihgjpjaaGreatDoor
