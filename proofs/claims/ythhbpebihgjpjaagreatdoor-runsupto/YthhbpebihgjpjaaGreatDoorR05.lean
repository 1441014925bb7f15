import Derived.Test.YthhbpebihgjpjaaGreatDoorR04
namespace Go.Proofs.YthhbpebihgjpjaaGreatDoor
open Go.RowKit
set_option maxRecDepth 1000000

/-- Eight words, as values. -/
def stF (f : Nat → Nat) : Array Value := ((List.range 8).map fun i => Value.int .u32 (f i)).toArray
theorem stF_size (f : Nat → Nat) : (stF f).size = 8 := by simp [stF]
theorem stF_at (f : Nat → Nat) (i : Nat) (h : i < 8) : (stF f)[i]? = some (.int .u32 (f i)) := by simp [stF, h]
theorem stF_set (f : Nat → Nat) (n v : Nat) : (stF f).setIfInBounds n (.int .u32 v) = stF (fun i => if i = n then v else f i) := by
  apply Array.ext
  · simp [stF]
  · intro i h1 h2
    have h3 : i < 8 := by simpa [stF] using h2
    rw [Array.getElem_setIfInBounds (by simpa [stF] using h3)]
    by_cases e : n = i
    · subst e; simp [stF]
    · have e' : ¬ i = n := fun h => e h.symm
      simp [stF, e, e']
theorem stF_one (f : Nat → Nat) : (stF f).all (·.oneCell') = true := by simp [stF, Value.oneCell']
theorem stF_congr (f g : Nat → Nat) (h : ∀ i, i < 8 → f i = g i) : stF f = stF g := by
  unfold stF
  congr 1
  apply List.map_congr_left
  intro i hi
  rw [h i (List.mem_range.1 hi)]
def Sha.St.get (s : Sha.St) : Nat → Nat
  | 0 => s.a
  | 1 => s.b
  | 2 => s.c
  | 3 => s.d
  | 4 => s.e
  | 5 => s.f
  | 6 => s.g
  | _ => s.h
theorem Sha.St.get_lt (s : Sha.St) (h : s.Ok) (i : Nat) : s.get i < 4294967296 := by
  unfold Sha.St.get
  split <;> first | exact h.a | exact h.b | exact h.c | exact h.d | exact h.e | exact h.f | exact h.g | exact h.h
theorem stF_zero : stF (fun _ => 0) = #[.int .u32 0, .int .u32 0, .int .u32 0, .int .u32 0, .int .u32 0, .int .u32 0, .int .u32 0, .int .u32 0] := rfl
theorem stF_get (s : Sha.St) : stF s.get = #[.int .u32 s.a, .int .u32 s.b, .int .u32 s.c, .int .u32 s.d, .int .u32 s.e, .int .u32 s.f, .int .u32 s.g, .int .u32 s.h] := rfl
theorem join_get (s t : Sha.St) (i : Nat) (h : i < 8) : (Sha.join s t).get i = (s.get i + t.get i) % 4294967296 := by
  match i, h with
  | 0, _ => rfl
  | 1, _ => rfl
  | 2, _ => rfl
  | 3, _ => rfl
  | 4, _ => rfl
  | 5, _ => rfl
  | 6, _ => rfl
  | 7, _ => rfl
  | n + 8, h => exact absurd h (by omega)

/-- The bytes' rows. -/
theorem bytesV_one (f : Nat → Nat) : (bytesV f).all (·.oneCell') = true := by simp [bytesV, Value.oneCell']

/-- What lies in memory as the sums are written. -/
structure MixMem (s t : Sha.St) (w : World) (m : Nat) (wr : World) : Prop where
  st : wr.heap[w.heap.size]? = some (.cells (stF fun j => if j < m then (s.get j + t.get j) % 4294967296 else s.get j) 319 (0, 0))
  res : wr.heap[w.heap.size + 1 + 1]? = some (.cells (stF fun _ => 0) 319 (0, 0))
  below : Below w.heap.size w wr
theorem MixMem.start {s t : Sha.St} {w wr : World} (h0 : wr.heap[w.heap.size]? = some (.cells (stF s.get) 319 (0, 0))) (h2 : wr.heap[w.heap.size + 1 + 1]? = some (.cells (stF fun _ => 0) 319 (0, 0))) (hb : Below w.heap.size w wr) : MixMem s t w 0 wr :=
  ⟨h0.trans (by rw [show stF s.get = stF (fun j => if j < 0 then (s.get j + t.get j) % 4294967296 else s.get j) from stF_congr _ _ (fun i _ => by rw [if_neg (by omega)])]), h2, hb⟩
theorem MixMem.step {s t : Sha.St} {w : World} {m : Nat} {wr : World} (h : MixMem s t w m wr) (v : Int) (hv : v = (((s.get m + t.get m) % 4294967296 : Nat) : Int)) :
    MixMem s t w (m + 1) (wr.setCell ⟨w.heap.size, m, none⟩ (.int .u32 v)) where
  st := by
    subst hv
    rw [heap_setCell_same _ _ _ _ _ _ h.st, stF_set]
    have e : (fun i => if i = m then (s.get m + t.get m) % 4294967296 else if i < m then (s.get i + t.get i) % 4294967296 else s.get i) = (fun j => if j < m + 1 then (s.get j + t.get j) % 4294967296 else s.get j) := by
      funext i
      by_cases e : i = m
      · subst e; rw [if_pos rfl, if_pos (by omega)]
      · rw [if_neg e]
        by_cases e2 : i < m
        · rw [if_pos e2, if_pos (by omega)]
        · rw [if_neg e2, if_neg (by omega)]
    rw [e]
  res := by rw [heap_setCell_other _ _ _ _ (by simp; omega)]; exact h.res
  below := h.below.setCell (by simp) _

/-- The words under a name: what lies behind it is not to be reckoned. -/
theorem spread_ex (b : Nat → Nat) (hb : ∀ i, b i < 256) (w : World) :
    Calls Tryz.prog 277 #[.agg (bytesV b)] w fun e w' => ∃ W : Nat → Nat, Hid (W = Sha.word b) ∧ e = .returned (.agg (wordsV W)) ∧ Below w.heap.size w w' :=
  (spread_any b hb w).mono fun _ _ ⟨h1, h2⟩ => ⟨_, rfl, h1, h2⟩

set_option maxHeartbeats 2000000 in
theorem mix_any (K : Nat → Nat) (s : Sha.St) (hs : s.Ok) (b : Nat → Nat) (hb : ∀ i, b i < 256) (w : World)
    (hK : ∀ i, i < 64 → w.cell? ⟨10, i, none⟩ = some (.int .u32 (K i))) (hKl : ∀ i, K i < 4294967296) :
    Calls Tryz.prog 204 #[.agg (stF s.get), .agg (bytesV b)] w fun e w' => e = .returned (.agg (stF (Sha.mixed K s b).get)) ∧ Below w.heap.size w w' := by
  have hz1 := stF_size s.get
  have hz2 := bytesV_size b
  have i132 : (Tryz.prog.info? 320).map (·.size) = some 64 := by kernel_rfl
  have hr1 : ((w.alloc (.cells (stF s.get) 319)).alloc (.cells (bytesV b) 320)).heap[w.heap.size + 1]? = some (.cells (bytesV b) 320 (0, 0)) := heapA_new _ _ _ (by simp)
  go_enter Tryz.func204, Tryz.ntmps204
  go_wp2_with (refine wpList_load_row rfl 320 _ rfl (w.heap.size + 1) rfl 320 (bytesV b) (0, 0) _ (by exact (heapA_old _ _ _ (by simp)).trans hr1) Tryz.underlying320 rfl (by rw [hz2]; exact i132) ?_)
  have hb0 : Below w.heap.size w (((w.alloc (.cells (stF s.get) 319)).alloc (.cells (bytesV b) 320)).alloc (.cells (stF fun _ => 0) 319)) := (((Below.refl _ _).alloc (Nat.le_refl _) _).alloc (by simp) _).alloc (by simp; omega) _
  have q0 : (((w.alloc (.cells (stF s.get) 319)).alloc (.cells (bytesV b) 320)).alloc (.cells (stF fun _ => 0) 319)).heap[w.heap.size]? = some (.cells (stF s.get) 319 (0, 0)) := by rw [heapA_old _ _ _ (by simp; omega), heapA_old _ _ _ (by simp)]; exact heapA_new _ _ _ rfl
  have q2 : (((w.alloc (.cells (stF s.get) 319)).alloc (.cells (bytesV b) 320)).alloc (.cells (stF fun _ => 0) 319)).heap[w.heap.size + 1 + 1]? = some (.cells (stF fun _ => 0) 319 (0, 0)) := heapA_new _ _ _ (by simp)
  rw [← stF_zero]
  have hK0 : ∀ i, i < 64 → (((w.alloc (.cells (stF s.get) 319)).alloc (.cells (bytesV b) 320)).alloc (.cells (stF fun _ => 0) 319)).cell? ⟨10, i, none⟩ = some (.int .u32 (K i)) := fun i hi => by
    rw [hb0.cell (p := ⟨10, i, none⟩) (block_lt_of_cell (hK i hi))]; exact hK i hi
  have hgs : 10 < w.heap.size := block_lt_of_cell (hK 0 (by omega))
  clear hK hr1
  generalize hW0 : ((w.alloc (.cells (stF s.get) 319)).alloc (.cells (bytesV b) 320)).alloc (.cells (stF fun _ => 0) 319) = W0 at *
  have hs0 : W0.heap.size = w.heap.size + 1 + 1 + 1 := by rw [← hW0]; simp
  clear hW0
  refine (spread_ex b hb _).mono ?_
  rintro e w1 ⟨W, HW, rfl, hb1⟩
  have hs1 : w.heap.size + 1 + 1 + 1 ≤ w1.heap.size := by have := hb1.size; omega
  have r0 : w1.heap[w.heap.size]? = some (.cells (stF s.get) 319 (0, 0)) := by rw [hb1.block _ (by omega)]; exact q0
  have r2 : w1.heap[w.heap.size + 1 + 1]? = some (.cells (stF fun _ => 0) 319 (0, 0)) := by rw [hb1.block _ (by omega)]; exact q2
  have hK1 : ∀ i, i < 64 → w1.cell? ⟨10, i, none⟩ = some (.int .u32 (K i)) := fun i hi => by rw [hb1.cell (p := ⟨10, i, none⟩) (by show 10 < _; omega)]; exact hK0 i hi
  have hB1 : Below w.heap.size w w1 := hb0.trans (hb1.mono (by omega))
  have R0 : Hid (w1.heap[w.heap.size]? = some (.cells (stF s.get) 319 (0, 0))) := r0
  have R2 : Hid (w1.heap[w.heap.size + 1 + 1]? = some (.cells (stF fun _ => 0) 319 (0, 0))) := r2
  have RK : Hid (∀ i, i < 64 → w1.cell? ⟨10, i, none⟩ = some (.int .u32 (K i))) := hK1
  have RB : Hid (Below w.heap.size w w1) := hB1
  have RS : Hid (s.Ok) := hs
  have RL : Hid (∀ i, K i < 4294967296) := hKl
  have Rb : Hid (∀ i, b i < 256) := hb
  clear r0 r2 hK1 hB1 hb1 hb0 q0 q2 hK0 hs0 hs hKl hb W0
  have hwz := wordsV_size W
  have i196 : (Tryz.prog.info? 412).map (·.size) = some 64 := by kernel_rfl
  go_wp2_with (refine wpList_store_mid rfl 412 _ _ rfl w1.heap.size 0 (wordsV W) rfl rfl (there_of_row (heapA_new _ _ _ rfl) 0 _ (by rw [hwz]; decide)) (by rw [hwz]; exact i196) (wordsV_one _) ?_)
  rw [← wordsV_zero]
  have P0 : Hid (((w1.alloc (.cells (wordsV fun _ => 0) 412)).setCells w1.heap.size 0 (wordsV W).toList).heap[w.heap.size]? = some (.cells (stF s.get) 319 (0, 0))) := by
    show _ = _; rw [heapC_other _ _ _ _ _ (by omega), heapA_old _ _ _ (by omega)]; exact R0.out
  have P2 : Hid (((w1.alloc (.cells (wordsV fun _ => 0) 412)).setCells w1.heap.size 0 (wordsV W).toList).heap[w.heap.size + 1 + 1]? = some (.cells (stF fun _ => 0) 319 (0, 0))) := by
    show _ = _; rw [heapC_other _ _ _ _ _ (by omega), heapA_old _ _ _ (by omega)]; exact R2.out
  have P5 : Hid (((w1.alloc (.cells (wordsV fun _ => 0) 412)).setCells w1.heap.size 0 (wordsV W).toList).heap[w1.heap.size]? = some (.cells (wordsV W) 412 (0, 0))) :=
    heapC_row _ _ _ _ _ (heapA_new _ _ _ rfl) (by rw [hwz, wordsV_size])
  have PB : Hid (Below w.heap.size w ((w1.alloc (.cells (wordsV fun _ => 0) 412)).setCells w1.heap.size 0 (wordsV W).toList)) := belowC _ _ (RB.out.alloc (by omega) _) (by omega)
  have PK : Hid (∀ i, i < 64 → ((w1.alloc (.cells (wordsV fun _ => 0) 412)).setCells w1.heap.size 0 (wordsV W).toList).cell? ⟨10, i, none⟩ = some (.int .u32 (K i))) := fun i hi => by
    rw [World.cell?_setCells_out _ _ _ _ _ (fun h => by simp at h; omega), World.cell?_alloc_lt _ _ ⟨10, i, none⟩ (by show 10 < _; omega)]; exact RK.out i hi
  clear R0 R2 RK RB
  generalize hW2 : (w1.alloc (.cells (wordsV fun _ => 0) 412)).setCells w1.heap.size 0 (wordsV W).toList = W2 at *
  clear hW2
  have c0 : W2.cell? ⟨w.heap.size, 0, none⟩ = some (.int .u32 s.a) := by rw [cell_of_row _ _ _ _ _ _ P0.out]; rfl
  have c1 : W2.cell? ⟨w.heap.size, 1, none⟩ = some (.int .u32 s.b) := by rw [cell_of_row _ _ _ _ _ _ P0.out]; rfl
  have c2 : W2.cell? ⟨w.heap.size, 2, none⟩ = some (.int .u32 s.c) := by rw [cell_of_row _ _ _ _ _ _ P0.out]; rfl
  have c3 : W2.cell? ⟨w.heap.size, 3, none⟩ = some (.int .u32 s.d) := by rw [cell_of_row _ _ _ _ _ _ P0.out]; rfl
  have c4 : W2.cell? ⟨w.heap.size, 4, none⟩ = some (.int .u32 s.e) := by rw [cell_of_row _ _ _ _ _ _ P0.out]; rfl
  have c5 : W2.cell? ⟨w.heap.size, 5, none⟩ = some (.int .u32 s.f) := by rw [cell_of_row _ _ _ _ _ _ P0.out]; rfl
  have c6 : W2.cell? ⟨w.heap.size, 6, none⟩ = some (.int .u32 s.g) := by rw [cell_of_row _ _ _ _ _ _ P0.out]; rfl
  have c7 : W2.cell? ⟨w.heap.size, 7, none⟩ = some (.int .u32 s.h) := by rw [cell_of_row _ _ _ _ _ _ P0.out]; rfl
  simp only [Act.put]
  go_quiet (fail)
  obtain ⟨q1, rfl⟩ : ∃ q1, q1 = nq := ⟨_, rfl⟩
  go_wp2
  go_quiet (fail)
  clear c0 c1 c2 c3 c4 c5 c6 c7
  go_wp2_with (refine wpList_load_row rfl 412 _ rfl w1.heap.size rfl 412 (wordsV W) (0, 0) _ (by exact P5.out) Tryz.underlying412 rfl (by rw [hwz]; exact i196) ?_)
  have Q0 : Hid ((W2.drewN (q1 + nq)).heap[w.heap.size]? = some (.cells (stF s.get) 319 (0, 0))) := P0.out
  have Q2 : Hid ((W2.drewN (q1 + nq)).heap[w.heap.size + 1 + 1]? = some (.cells (stF fun _ => 0) 319 (0, 0))) := P2.out
  have QB : Hid (Below w.heap.size w (W2.drewN (q1 + nq))) := below_drewN PB.out _
  have QK : Hid (∀ i, i < 64 → (W2.drewN (q1 + nq)).cell? ⟨10, i, none⟩ = some (.int .u32 (K i))) := PK.out
  clear P0 P2 P5 PB PK
  generalize hW3 : W2.drewN (q1 + nq) = W3 at *
  clear hW3 q1 nq
  go_loop [6, 7, 8, 9, 10, 11, 12, 13, 41] (fun a b c d e f g h i => ∃ n : Nat, n ≤ 64 ∧ i = .int .i64 n ∧ ∃ t : Sha.St, Hid (t = Sha.after K W s n) ∧ a = .int .u32 t.a ∧ b = .int .u32 t.b ∧ c = .int .u32 t.c ∧ d = .int .u32 t.d ∧ e = .int .u32 t.e ∧ f = .int .u32 t.f ∧ g = .int .u32 t.g ∧ h = .int .u32 t.h) (fun _ _ _ _ _ _ _ _ i => 64 - (intOf i).toNat)
  case atStart => exact ⟨0, by omega, rfl, s, rfl, rfl, rfl, rfl, rfl, rfl, rfl, rfl, rfl⟩
  case round =>
    obtain ⟨n, hn, rfl, t, HT, rfl, rfl, rfl, rfl, rfl, rfl, rfl, rfl⟩ := hrel
    have ht : t.Ok := by rw [HT.out]; exact Sha.after_ok K W s RS.out n
    by_cases hlt : n < 64
    · have kc := QK.out n hlt
      have hidx : ∀ wx, (Instr.index 412 (.agg (wordsV W)) (.int .i64 n)).run Tryz.prog wx = .ok (.int .u32 (W n)) wx := by
        intro wx
        simp [Instr.index, go_sem, wordsV_at W n hlt]
        omega
      have i0 : (0 : Int) ≤ (n : Int) := by omega
      have i1 : (n : Int) < 64 := by omega
      have la := ht.a
      have le := ht.e
      go_wp2_with fail
      refine (turn6 _ _ le).mono ?_
      rintro e w' ⟨rfl, rfl⟩
      go_wp2_with fail
      refine (turn11 _ _ le).mono ?_
      rintro e w' ⟨rfl, rfl⟩
      go_wp2_with fail
      refine (turn25 _ _ le).mono ?_
      rintro e w' ⟨rfl, rfl⟩
      go_wp2_with fail
      refine (turn2 _ _ la).mono ?_
      rintro e w' ⟨rfl, rfl⟩
      go_wp2_with fail
      refine (turn13 _ _ la).mono ?_
      rintro e w' ⟨rfl, rfl⟩
      go_wp2_with fail
      refine (turn22 _ _ la).mono ?_
      rintro e w' ⟨rfl, rfl⟩
      go_wp2
      rw [Sha.S1_u32 _ ht.e, Sha.S0_u32 _ ht.a, Sha.ch_u32 _ _ _ ht.e ht.f ht.g, Sha.maj_u32 _ _ _ ht.a ht.b ht.c, Sha.round_a (K n) (W n) t, Sha.round_e (K n) (W n) t]
      refine ⟨⟨n + 1, by omega, by go_num, Sha.round (K n) (W n) t, ?_, rfl, rfl, rfl, rfl, rfl, rfl, rfl, rfl⟩, ?_⟩
      · show _ = Sha.round (K n) (W n) (Sha.after K W s n)
        rw [HT.out]
      · simp [intOf]; omega
    · obtain rfl : n = 64 := by omega
      go_wp2
      rw [← stF_get t]
      clear QK RL Rb
      have RT : Hid (t.Ok) := ht
      clear ht
      go_loopw [115] (fun i wr => ∃ m : Nat, m ≤ 8 ∧ i = .int .i64 m ∧ MixMem s t w m wr) (fun i _ => 8 - (intOf i).toNat)
      case atStart => exact ⟨0, by omega, rfl, MixMem.start Q0.out Q2.out QB.out⟩
      case round =>
        clear Q0 Q2 QB
        obtain ⟨m, hm, rfl, hmem⟩ := hrel
        have HM : Hid (MixMem s t w m wr) := hmem
        clear hmem
        by_cases hlt : m < 8
        · have kc : wr.cell? ⟨w.heap.size, m, none⟩ = some (.int .u32 (s.get m)) := by
            rw [cell_of_row _ _ _ _ _ _ HM.out.st, stF_at _ m hlt, if_neg (by omega)]
          have fz : wr.frozen? ⟨w.heap.size, m, none⟩ = false := frozen_of_row _ _ _ _ _ HM.out.st
          have hidx : ∀ wx, (Instr.index 319 (.agg (stF t.get)) (.int .i64 m)).run Tryz.prog wx = .ok (.int .u32 (t.get m)) wx := by
            intro wx
            simp [Instr.index, go_sem, stF_at t.get m hlt]
            omega
          have i0 : (0 : Int) ≤ (m : Int) := by omega
          have i1 : (m : Int) < 8 := by omega
          go_wp2
          go_roundw
          case rel =>
            first
              | exact ⟨m + 1, by omega, by go_num, HM.out.step _ (by omega)⟩
              | ((repeat apply Exists.intro); exact ⟨⟨m + 1, by omega, by go_num, HM.out.step _ (by omega)⟩, rfl⟩)
          case measure => simp [intOf]; omega
        · obtain rfl : m = 8 := by omega
          have hy1 := stF_size (fun j => if j < 8 then (s.get j + t.get j) % 4294967296 else s.get j)
          have hy2 := stF_size (fun _ => 0)
          have i131 : (Tryz.prog.info? 319).map (·.size) = some 8 := by kernel_rfl
          go_wp2_with (first
            | (refine wpList_load_row rfl 319 _ rfl w.heap.size rfl 319 _ (0, 0) _ HM.out.st Tryz.underlying319 rfl (by rw [hy1]; exact i131) ?_)
            | (refine wpList_store_mid rfl 319 _ _ rfl (w.heap.size + 1 + 1) 0 (stF fun j => if j < 8 then (s.get j + t.get j) % 4294967296 else s.get j) rfl rfl (there_of_row HM.out.res 0 _ (by rw [hy1, hy2]; omega)) (by rw [hy1]; exact i131) (stF_one _) ?_))
          refine bodyPost_ret (results_cell_row Tryz.results204 _ _ (w.heap.size + 1 + 1) 319 (stF fun j => if j < 8 then (s.get j + t.get j) % 4294967296 else s.get j) (0, 0) _ rfl (heapC_row _ _ _ _ _ HM.out.res (by rw [hy1, hy2])) Tryz.underlying319 rfl (by rw [hy1]; exact i131)) rfl
            ⟨?_, belowC _ _ HM.out.below (by omega)⟩
          have hfin : (Sha.mixed K s b) = Sha.join s t := by unfold Sha.mixed; rw [HT.out, HW.out]
          rw [hfin, stF_congr _ (Sha.join s t).get (fun i hi => by rw [if_pos hi, join_get s t i hi])]
end Go.Proofs.YthhbpebihgjpjaaGreatDoor
