import Derived.Test.YthhbpebihgjpjaaGreatDoorJ43
namespace Go.Proofs.YthhbpebihgjpjaaGreatDoor
open Go.RowKit
set_option maxRecDepth 1000000

/-- A block mixed in, its outcome under a name. -/
theorem mix_ex (K : Nat → Nat) (s : Sha.St) (hs : s.Ok) (b : Nat → Nat) (hb : ∀ i, b i < 256) (w : World)
    (hK : ∀ i, i < 64 → w.cell? ⟨10, i, none⟩ = some (.int .u32 (K i))) (hKl : ∀ i, K i < 4294967296) :
    Calls Tryz.prog 204 #[.agg (stF s.get), .agg (bytesV b)] w fun e w' => ∃ s' : Sha.St, Hid (s' = Sha.mixed K s b) ∧ e = .returned (.agg (stF s'.get)) ∧ Below w.heap.size w w' :=
  (mix_any K s hs b hb w hK hKl).mono fun _ _ ⟨h1, h2⟩ => ⟨_, rfl, h1, h2⟩

/-- The number of bits in the last eight bytes. -/
def lenB (b : Nat → Nat) (len : Nat) (i : Nat) : Nat := if 56 ≤ i ∧ i < 64 then len * 8 / 2 ^ (8 * (63 - i)) % 256 else b i
/-- The mark behind the text. -/
def marked (r : List UInt8) (i : Nat) : Nat := if i = r.length then 128 else byteAt r i
def codeEnd (K : Nat → Nat) (s : Sha.St) (r : List UInt8) (len : Nat) : Sha.St :=
  if 56 < r.length + 1 then Sha.mixed K (Sha.mixed K s (marked r)) (lenB (fun _ => 0) len) else Sha.mixed K s (lenB (marked r) len)
theorem marked_lt (r : List UInt8) (i : Nat) : marked r i < 256 := by
  unfold marked; split
  · decide
  · exact byteAt_lt _ _
theorem lenB_lt (b : Nat → Nat) (hb : ∀ i, b i < 256) (len i : Nat) : lenB b len i < 256 := by
  unfold lenB; split
  · exact Nat.mod_lt _ (by decide)
  · exact hb i

/-- What lies in memory as mixEnd goes. -/
structure EndMem (s : Sha.St) (b : Nat → Nat) (w : World) (wr : World) : Prop where
  st : wr.heap[w.heap.size]? = some (.cells (stF s.get) 319 (0, 0))
  res : wr.heap[w.heap.size + 1]? = some (.cells (stF fun _ => 0) 319 (0, 0))
  blk : wr.heap[w.heap.size + 1 + 1]? = some (.cells (bytesV b) 320 (0, 0))
  below : Below w.heap.size w wr
theorem EndMem.set {s : Sha.St} {b : Nat → Nat} {w wr : World} (h : EndMem s b w wr) (n v : Nat) : EndMem s (fun i => if i = n then v else b i) w (wr.setCell ⟨w.heap.size + 1 + 1, n, none⟩ (.int .u8 (v : Int))) where
  st := by rw [heap_setCell_other _ _ _ _ (by simp; omega)]; exact h.st
  res := by rw [heap_setCell_other _ _ _ _ (by simp)]; exact h.res
  blk := by rw [heap_setCell_same _ _ _ _ _ _ h.blk, bytesV_set]
  below := h.below.setCell (by simp; omega) _
theorem EndMem.congr {s : Sha.St} {b b' : Nat → Nat} {w wr : World} (h : EndMem s b w wr) (e : ∀ i, i < 64 → b i = b' i) : EndMem s b' w wr :=
  ⟨h.st, h.res, by rw [h.blk, bytesV_congr _ _ e], h.below⟩
theorem EndMem.keys {s : Sha.St} {b : Nat → Nat} {w wr : World} (h : EndMem s b w wr) {K : Nat → Nat} (hK : ∀ i, i < 64 → w.cell? ⟨10, i, none⟩ = some (.int .u32 (K i))) :
    ∀ i, i < 64 → wr.cell? ⟨10, i, none⟩ = some (.int .u32 (K i)) := fun i hi => by
  rw [h.below.cell (p := ⟨10, i, none⟩) (block_lt_of_cell (hK i hi))]; exact hK i hi
/-- Behind a call that leaves all of it. -/
theorem EndMem.past {s : Sha.St} {b : Nat → Nat} {w wr w2 : World} (h : EndMem s b w wr) (hb : Below wr.heap.size wr w2) : EndMem s b w w2 :=
  have lt : w.heap.size + 1 + 1 < wr.heap.size := by
    rcases Nat.lt_or_ge (w.heap.size + 1 + 1) wr.heap.size with g | g
    · exact g
    · have := h.blk; rw [Array.getElem?_eq_none g] at this; cases this
  ⟨by rw [hb.block _ (by omega)]; exact h.st, by rw [hb.block _ (by omega)]; exact h.res, by rw [hb.block _ (by omega)]; exact h.blk, h.below.trans (hb.mono (by omega))⟩
/-- Behind the store of a state. -/
theorem EndMem.state {s : Sha.St} {b : Nat → Nat} {w wr : World} (h : EndMem s b w wr) (s' : Sha.St) : EndMem s' b w (wr.setCells w.heap.size 0 (stF s'.get).toList) :=
  ⟨heapC_row _ _ _ _ _ h.st (by rw [stF_size, stF_size]), by rw [heapC_other _ _ _ _ _ (by omega)]; exact h.res, by rw [heapC_other _ _ _ _ _ (by omega)]; exact h.blk, belowC _ _ h.below (Nat.le_refl _)⟩
/-- Behind the store of a block of zeros. -/
theorem EndMem.zeros {s : Sha.St} {b : Nat → Nat} {w wr : World} (h : EndMem s b w wr) : EndMem s (fun _ => 0) w (wr.setCells (w.heap.size + 1 + 1) 0 (bytesV fun _ => 0).toList) :=
  ⟨by rw [heapC_other _ _ _ _ _ (by omega)]; exact h.st, by rw [heapC_other _ _ _ _ _ (by omega)]; exact h.res, heapC_row _ _ _ _ _ h.blk (by rw [bytesV_size, bytesV_size]), belowC _ _ h.below (by omega)⟩

theorem EndMem.copied {s : Sha.St} {z : Nat → Nat} {w W w2 : World} {l : List UInt8} (h : EndMem s z w W) (ha : Hid (w2.heap[w.heap.size + 1 + 1]? = some (.cells (bytesV (byteAt l)) 320 (0, 0)))) (hb : Hid (∀ k, k ≠ w.heap.size + 1 + 1 → w2.heap[k]? = W.heap[k]?))
    (hc : Hid (∀ B w0, Below B w0 W → B ≤ w.heap.size + 1 + 1 → Below B w0 w2)) : EndMem s (byteAt l) w w2 :=
  ⟨(hb.out _ (by omega)).trans h.st, (hb.out _ (by omega)).trans h.res, ha.out, hc.out _ _ h.below (by omega)⟩
theorem EndMem.mark {s : Sha.St} {w w2 : World} {l : List UInt8} (h : EndMem s (byteAt l) w w2) (n : Nat) (hn : l.length = n) : EndMem s (marked l) w (w2.setCell ⟨w.heap.size + 1 + 1, n, none⟩ (.int .u8 128)) := by
  subst hn
  exact (h.set l.length 128).congr (fun i _ => rfl)
/-- The number of bits, so far. -/
def lenTo (b : Nat → Nat) (len m i : Nat) : Nat := if 64 - m ≤ i ∧ i < 64 then len * 8 / 2 ^ (8 * (63 - i)) % 256 else b i
theorem lenTo_zero (b : Nat → Nat) (len i : Nat) : lenTo b len 0 i = b i := by unfold lenTo; rw [if_neg (by omega)]
theorem lenTo_eight (b : Nat → Nat) (len i : Nat) : lenTo b len 8 i = lenB b len i := rfl
theorem lenTo_step (b : Nat → Nat) (len m : Nat) (hm : m < 8) (i : Nat) : (if i = 63 - m then len * 8 / 2 ^ (8 * m) % 256 else lenTo b len m i) = lenTo b len (m + 1) i := by
  by_cases e : i = 63 - m
  · subst e
    rw [if_pos rfl]; unfold lenTo; rw [if_pos (by omega), show 63 - (63 - m) = m by omega]
  · rw [if_neg e]; unfold lenTo
    by_cases c : 64 - m ≤ i ∧ i < 64
    · rw [if_pos c, if_pos (by omega)]
    · rw [if_neg c, if_neg (by omega)]
theorem EndMem.len {s : Sha.St} {b : Nat → Nat} {w wr : World} {len m : Nat} (h : EndMem s (lenTo b len m) w wr) (hm : m < 8) (o : Nat) (ho : o = 63 - m) (v : Int) (hv : v = ((len * 8 / 2 ^ (8 * m) % 256 : Nat) : Int)) :
    EndMem s (lenTo b len (m + 1)) w (wr.setCell ⟨w.heap.size + 1 + 1, o, none⟩ (.int .u8 v)) := by
  subst ho hv
  exact (h.set (63 - m) (len * 8 / 2 ^ (8 * m) % 256)).congr (fun i _ => lenTo_step b len m hm i)

set_option maxHeartbeats 2000000 in
theorem mixEnd_any (K : Nat → Nat) (s : Sha.St) (hs : s.Ok) (r : ByteArray) (hr : r.size < 64) (len : Nat) (hlen : len < 2305843009213693952) (w : World)
    (hK : ∀ i, i < 64 → w.cell? ⟨10, i, none⟩ = some (.int .u32 (K i))) (hKl : ∀ i, K i < 4294967296) :
    Calls Tryz.prog 206 #[.agg (stF s.get), .string r, .int .u64 len] w fun e w' => ∃ s' : Sha.St, Hid (s' = codeEnd K s r.data.toList len) ∧ e = .returned (.agg (stF s'.get)) ∧ Below w.heap.size w w' := by
  have hz1 := stF_size s.get
  have hsl : r.data.toList.length = r.size := rfl
  have HZ : Hid (EndMem s (fun _ => 0) w (((w.alloc (.cells (stF s.get) 319)).alloc (.cells (stF fun _ => 0) 319)).alloc (.cells (bytesV fun _ => 0) 320))) :=
    ⟨by rw [heapA_old _ _ _ (by simp; omega), heapA_old _ _ _ (by simp)]; exact heapA_new _ _ _ rfl, by rw [heapA_old _ _ _ (by simp)]; exact heapA_new _ _ _ (by simp), heapA_new _ _ _ (by simp), (((Below.refl _ _).alloc (Nat.le_refl _) _).alloc (by simp) _).alloc (by simp; omega) _⟩
  have RS : Hid (s.Ok) := hs
  have RK : Hid (∀ i, i < 64 → w.cell? ⟨10, i, none⟩ = some (.int .u32 (K i))) := hK
  have RL : Hid (∀ i, K i < 4294967296) := hKl
  clear hs hK hKl
  have i131 : (Tryz.prog.info? 319).map (·.size) = some 8 := by kernel_rfl
  have i132 : (Tryz.prog.info? 320).map (·.size) = some 64 := by kernel_rfl
  have i5 : (Tryz.prog.info? 5).map (·.size) = some 1 := by kernel_rfl
  have b0 : (0 : Int) ≤ (r.size : Int) := by omega
  have b1 : (r.size : Int) < 64 := by omega
  go_enter Tryz.func206, Tryz.ntmps206
  by_cases hlong : 56 < r.size + 1
  · have l1 : (56 : Int) < (r.size : Int) + 1 := by omega
    go_wp2_with (first
      | (refine wpList_copy_block rfl (.tmp 10) (.tmp 11) 219 9 rfl 5 Tryz.underlying219 i5 (w.heap.size + 1 + 1) r rfl rfl 320 (by exact HZ.out.blk) ?_; intro w2 h2a h2b h2c; have hck : ∃ v, w2.cell? ⟨w.heap.size + 1 + 1, r.size, none⟩ = some v := ⟨_, (cell_of_row _ _ _ _ _ _ h2a.out).trans (bytesV_at _ _ hr)⟩; obtain ⟨vk, hck⟩ := hck; have hfk : w2.frozen? ⟨w.heap.size + 1 + 1, r.size, none⟩ = false := frozen_of_row _ _ _ _ _ h2a.out; have HM : Hid (EndMem s (marked r.data.toList) w (w2.setCell ⟨w.heap.size + 1 + 1, r.size, none⟩ (.int .u8 128))) := (HZ.out.copied h2a h2b h2c).mark r.size rfl; clear h2a h2b h2c)
      | (refine wpList_load_row rfl 319 _ rfl w.heap.size rfl 319 (stF s.get) (0, 0) _ (by exact HM.out.st) Tryz.underlying319 rfl (by rw [hz1]; exact i131) ?_)
      | (refine wpList_load_row rfl 320 _ rfl (w.heap.size + 1 + 1) rfl 320 (bytesV (marked r.data.toList)) (0, 0) _ (by exact HM.out.blk) Tryz.underlying320 rfl (by rw [bytesV_size]; exact i132) ?_))
    refine (mix_ex K s RS.out _ (marked_lt _) _ (HM.out.keys RK.out) RL.out).mono ?_
    rintro e w3 ⟨s1, HS1, rfl, hb3⟩
    have HM3 : Hid (EndMem s (marked r.data.toList) w w3) := HM.out.past hb3
    clear hb3 HM hck hfk vk
    clear w2
    have hz3 := stF_size s1.get
    have HM4 : Hid (EndMem s1 (fun _ => 0) w ((w3.setCells w.heap.size 0 (stF s1.get).toList).setCells (w.heap.size + 1 + 1) 0 (bytesV fun _ => 0).toList)) := (HM3.out.state s1).zeros
    go_wp2_with (refine wpList_store_mid rfl 319 _ _ rfl w.heap.size 0 (stF s1.get) rfl rfl (there_of_row HM3.out.st 0 _ (by rw [hz3, hz1]; omega)) (by rw [hz3]; exact i131) (stF_one _) ?_; refine Hid.out ?_)
    unfold Hid
    go_wp2_with (refine wpList_store_mid rfl 320 _ _ rfl (w.heap.size + 1 + 1) 0 (bytesV fun _ => 0) ?hx ?hy ?ht ?hi ?h1 ?_)
    case hx => rfl
    case hy => rw [bytesV_zero]; rfl
    case ht => exact there_of_row (HM3.out.state s1).blk 0 _ (by rw [bytesV_size, bytesV_size]; omega)
    case hi => rw [bytesV_size]; exact i132
    case h1 => exact bytesV_one _
    go_loopw [26] (fun i wr => ∃ m : Nat, m ≤ 8 ∧ i = .int .i64 m ∧ EndMem s1 (lenTo (fun _ => 0) len m) w wr) (fun i _ => 8 - (intOf i).toNat)
    case atStart => exact ⟨0, by omega, rfl, HM4.out.congr (fun i _ => (lenTo_zero (fun _ => 0) len i).symm)⟩
    case round =>
      clear HM4
      obtain ⟨m, hm, rfl, hmem⟩ := hrel
      have HN : Hid (EndMem s1 (lenTo (fun _ => 0) len m) w wr) := hmem
      clear hmem
      by_cases hlt : m < 8
      · have hck : ∃ v, wr.cell? ⟨w.heap.size + 1 + 1, 63 - m, none⟩ = some v := ⟨_, (cell_of_row _ _ _ _ _ _ HN.out.blk).trans (bytesV_at _ _ (by omega))⟩
        obtain ⟨vk, hck⟩ := hck
        have hfk : wr.frozen? ⟨w.heap.size + 1 + 1, 63 - m, none⟩ = false := frozen_of_row _ _ _ _ _ HN.out.blk
        have i0 : (0 : Int) ≤ (m : Int) := by omega
        have i1 : (m : Int) < 8 := by omega
        have j0 : (0 : Int) ≤ 63 - (m : Int) := by omega
        have j1 : 63 - (m : Int) < 64 := by omega
        have j2 : (0 : Int) ≤ 8 * (m : Int) := by omega
        go_wp2
        go_roundw
        case rel =>
          have hv : (len : Int) * 8 / 2 ^ (8 * m) % 256 = ((len * 8 / 2 ^ (8 * m) % 256 : Nat) : Int) := by simp
          first
            | exact ⟨m + 1, by omega, by go_num, HN.out.len hlt _ rfl _ hv⟩
            | ((repeat apply Exists.intro); exact ⟨⟨m + 1, by omega, by go_num, HN.out.len hlt _ rfl _ hv⟩, rfl⟩)
        case measure => simp [intOf]; omega
      · obtain rfl : m = 8 := by omega
        have hzs := stF_size s1.get
        obtain ⟨BL, HBL⟩ : ∃ BL, Hid (BL = lenTo (fun _ => 0) len 8) := ⟨_, rfl⟩
        have HN' : Hid (EndMem s1 BL w wr) := by rw [HBL.out]; exact HN
        clear HN
        go_wp2_with (first
          | (refine wpList_load_row rfl 319 _ rfl w.heap.size rfl 319 (stF s1.get) (0, 0) _ (by exact HN'.out.st) Tryz.underlying319 rfl (by rw [hzs]; exact i131) ?_)
          | (refine wpList_load_row rfl 320 _ rfl (w.heap.size + 1 + 1) rfl 320 (bytesV BL) (0, 0) _ (by exact HN'.out.blk) Tryz.underlying320 rfl (by rw [bytesV_size]; exact i132) ?_))
        refine (mix_ex K s1 (by rw [HS1.out]; exact Sha.mixed_ok _ _ _) _ (fun i => by rw [HBL.out]; exact lenB_lt (fun _ => 0) (fun _ => by decide) len i) _ (HN'.out.keys RK.out) RL.out).mono ?_
        rintro e w5 ⟨s2, HS2, rfl, hb5⟩
        have HN5 : Hid (EndMem s1 BL w w5) := HN'.out.past hb5
        clear HN' hb5
        have hz5 := stF_size s2.get
        have hy2 := stF_size (fun _ => 0)
        go_wp2_with (refine wpList_store_mid rfl 319 _ _ rfl (w.heap.size + 1) 0 (stF s2.get) rfl rfl (there_of_row HN5.out.res 0 _ (by rw [hz5, hy2]; omega)) (by rw [hz5]; exact i131) (stF_one _) ?_)
        refine bodyPost_ret (results_cell_row Tryz.results206 _ _ (w.heap.size + 1) 319 (stF s2.get) (0, 0) _ rfl (heapC_row _ _ _ _ _ HN5.out.res (by rw [hz5, hy2])) Tryz.underlying319 rfl (by rw [hz5]; exact i131)) rfl
          ⟨s2, ?_, rfl, belowC _ _ HN5.out.below (by omega)⟩
        show s2 = codeEnd K s r.data.toList len
        unfold codeEnd
        rw [if_pos (by rw [hsl]; exact hlong), ← HS1.out]
        rw [HS2.out, HBL.out]
        rfl
  · have l1 : ¬ (56 : Int) < (r.size : Int) + 1 := by omega
    go_wp2_with (refine wpList_copy_block rfl (.tmp 10) (.tmp 11) 219 9 rfl 5 Tryz.underlying219 i5 (w.heap.size + 1 + 1) r rfl rfl 320 (by exact HZ.out.blk) ?_; intro w2 h2a h2b h2c; have hck : ∃ v, w2.cell? ⟨w.heap.size + 1 + 1, r.size, none⟩ = some v := ⟨_, (cell_of_row _ _ _ _ _ _ h2a.out).trans (bytesV_at _ _ hr)⟩; obtain ⟨vk, hck⟩ := hck; have hfk : w2.frozen? ⟨w.heap.size + 1 + 1, r.size, none⟩ = false := frozen_of_row _ _ _ _ _ h2a.out; have HM : Hid (EndMem s (marked r.data.toList) w (w2.setCell ⟨w.heap.size + 1 + 1, r.size, none⟩ (.int .u8 128))) := (HZ.out.copied h2a h2b h2c).mark r.size rfl; clear h2a h2b h2c)
    clear hck hfk vk
    go_loopw [26] (fun i wr => ∃ m : Nat, m ≤ 8 ∧ i = .int .i64 m ∧ EndMem s (lenTo (marked r.data.toList) len m) w wr) (fun i _ => 8 - (intOf i).toNat)
    case atStart => exact ⟨0, by omega, rfl, HM.out.congr (fun i _ => (lenTo_zero (marked r.data.toList) len i).symm)⟩
    case round =>
      clear HM
      obtain ⟨m, hm, rfl, hmem⟩ := hrel
      have HN : Hid (EndMem s (lenTo (marked r.data.toList) len m) w wr) := hmem
      clear hmem
      by_cases hlt : m < 8
      · have hck : ∃ v, wr.cell? ⟨w.heap.size + 1 + 1, 63 - m, none⟩ = some v := ⟨_, (cell_of_row _ _ _ _ _ _ HN.out.blk).trans (bytesV_at _ _ (by omega))⟩
        obtain ⟨vk, hck⟩ := hck
        have hfk : wr.frozen? ⟨w.heap.size + 1 + 1, 63 - m, none⟩ = false := frozen_of_row _ _ _ _ _ HN.out.blk
        have i0 : (0 : Int) ≤ (m : Int) := by omega
        have i1 : (m : Int) < 8 := by omega
        have j0 : (0 : Int) ≤ 63 - (m : Int) := by omega
        have j1 : 63 - (m : Int) < 64 := by omega
        have j2 : (0 : Int) ≤ 8 * (m : Int) := by omega
        go_wp2
        go_roundw
        case rel =>
          have hv : (len : Int) * 8 / 2 ^ (8 * m) % 256 = ((len * 8 / 2 ^ (8 * m) % 256 : Nat) : Int) := by simp
          first
            | exact ⟨m + 1, by omega, by go_num, HN.out.len hlt _ rfl _ hv⟩
            | ((repeat apply Exists.intro); exact ⟨⟨m + 1, by omega, by go_num, HN.out.len hlt _ rfl _ hv⟩, rfl⟩)
        case measure => simp [intOf]; omega
      · obtain rfl : m = 8 := by omega
        have hzs := stF_size s.get
        obtain ⟨BL, HBL⟩ : ∃ BL, Hid (BL = lenTo (marked r.data.toList) len 8) := ⟨_, rfl⟩
        have HN' : Hid (EndMem s BL w wr) := by rw [HBL.out]; exact HN
        clear HN
        go_wp2_with (first
          | (refine wpList_load_row rfl 319 _ rfl w.heap.size rfl 319 (stF s.get) (0, 0) _ (by exact HN'.out.st) Tryz.underlying319 rfl (by rw [hzs]; exact i131) ?_)
          | (refine wpList_load_row rfl 320 _ rfl (w.heap.size + 1 + 1) rfl 320 (bytesV BL) (0, 0) _ (by exact HN'.out.blk) Tryz.underlying320 rfl (by rw [bytesV_size]; exact i132) ?_))
        refine (mix_ex K s RS.out _ (fun i => by rw [HBL.out]; exact lenB_lt (marked r.data.toList) (marked_lt _) len i) _ (HN'.out.keys RK.out) RL.out).mono ?_
        rintro e w5 ⟨s2, HS2, rfl, hb5⟩
        have HN5 : Hid (EndMem s BL w w5) := HN'.out.past hb5
        clear HN' hb5
        have hz5 := stF_size s2.get
        have hy2 := stF_size (fun _ => 0)
        go_wp2_with (refine wpList_store_mid rfl 319 _ _ rfl (w.heap.size + 1) 0 (stF s2.get) rfl rfl (there_of_row HN5.out.res 0 _ (by rw [hz5, hy2]; omega)) (by rw [hz5]; exact i131) (stF_one _) ?_)
        refine bodyPost_ret (results_cell_row Tryz.results206 _ _ (w.heap.size + 1) 319 (stF s2.get) (0, 0) _ rfl (heapC_row _ _ _ _ _ HN5.out.res (by rw [hz5, hy2])) Tryz.underlying319 rfl (by rw [hz5]; exact i131)) rfl
          ⟨s2, ?_, rfl, belowC _ _ HN5.out.below (by omega)⟩
        show s2 = codeEnd K s r.data.toList len
        unfold codeEnd
        rw [if_neg (by rw [hsl]; exact hlong)]
        rw [HS2.out, HBL.out]
        rfl
end Go.Proofs.YthhbpebihgjpjaaGreatDoor
