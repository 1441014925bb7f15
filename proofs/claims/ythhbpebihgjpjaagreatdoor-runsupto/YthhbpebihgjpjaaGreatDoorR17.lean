import Derived.Test.YthhbpebihgjpjaaGreatDoorR16
namespace Go.Proofs.YthhbpebihgjpjaaGreatDoor
open Go.RowKit
set_option maxRecDepth 1000000

/-- The eight words at the start. -/
def Sha.H0 : Sha.St := ⟨1779033703, 3144134277, 1013904242, 2773480762, 1359893119, 2600822924, 528734635, 1541459225⟩
theorem Sha.H0_ok : Sha.H0.Ok := by constructor <;> decide
theorem stF_H0 : stF Sha.H0.get = #[.int .u32 1779033703, .int .u32 3144134277, .int .u32 1013904242, .int .u32 2773480762, .int .u32 1359893119, .int .u32 2600822924, .int .u32 528734635, .int .u32 1541459225] := rfl
/-- Behind the first n whole blocks. -/
def blocks (K : Nat → Nat) (l : List UInt8) : Nat → Sha.St
  | 0 => Sha.H0
  | n + 1 => Sha.mixed K (blocks K l n) (byteAt (l.drop (64 * n)))
theorem blocks_ok (K : Nat → Nat) (l : List UInt8) : ∀ n, (blocks K l n).Ok
  | 0 => Sha.H0_ok
  | _ + 1 => Sha.mixed_ok _ _ _
/-- What the program works out of a text. -/
def codeSum (K : Nat → Nat) (l : List UInt8) : Sha.St := codeEnd K (blocks K l (l.length / 64)) (l.drop (64 * (l.length / 64))) l.length

structure OfMem (s : Sha.St) (w wr : World) : Prop where
  res : wr.heap[w.heap.size]? = some (.cells (outF fun _ => 0) 217 (0, 0))
  st : wr.heap[w.heap.size + 1]? = some (.cells (stF s.get) 319 (0, 0))
  below : Below w.heap.size w wr
theorem OfMem.lt {s : Sha.St} {w wr : World} (h : OfMem s w wr) : w.heap.size + 1 < wr.heap.size := by
  rcases Nat.lt_or_ge (w.heap.size + 1) wr.heap.size with g | g
  · exact g
  · have := h.st; rw [Array.getElem?_eq_none g] at this; cases this
theorem OfMem.past {s : Sha.St} {w wr w2 : World} (h : OfMem s w wr) (hb : Below wr.heap.size wr w2) : OfMem s w w2 :=
  have := h.lt
  ⟨by rw [hb.block _ (by omega)]; exact h.res, by rw [hb.block _ (by omega)]; exact h.st, h.below.trans (hb.mono (by omega))⟩
theorem OfMem.state {s : Sha.St} {w wr : World} (h : OfMem s w wr) (s' : Sha.St) : OfMem s' w (wr.setCells (w.heap.size + 1) 0 (stF s'.get).toList) :=
  ⟨by rw [heapC_other _ _ _ _ _ (by omega)]; exact h.res, heapC_row _ _ _ _ _ h.st (by rw [stF_size, stF_size]), belowC _ _ h.below (by omega)⟩
theorem OfMem.keys {s : Sha.St} {w wr : World} (h : OfMem s w wr) {K : Nat → Nat} (hK : ∀ i, i < 64 → w.cell? ⟨10, i, none⟩ = some (.int .u32 (K i))) :
    ∀ i, i < 64 → wr.cell? ⟨10, i, none⟩ = some (.int .u32 (K i)) := fun i hi => by
  rw [h.below.cell (p := ⟨10, i, none⟩) (block_lt_of_cell (hK i hi))]; exact hK i hi
/-- Behind the copy into a block of its own. -/
theorem OfMem.copied {s : Sha.St} {w wr w2 : World} {o : Obj} (h : OfMem s w wr) (hb : Hid (∀ k, k ≠ wr.heap.size → w2.heap[k]? = (wr.alloc o).heap[k]?)) (hc : Hid (∀ B w0, Below B w0 (wr.alloc o) → B ≤ wr.heap.size → Below B w0 w2)) : OfMem s w w2 :=
  have := h.lt
  ⟨by rw [hb.out _ (by omega), heapA_old _ _ _ (by omega)]; exact h.res, by rw [hb.out _ (by omega), heapA_old _ _ _ (by omega)]; exact h.st, hc.out _ _ (h.below.alloc (by omega) _) (by omega)⟩

/-- How long a slot's text is: for a loop's measure. -/
def strLen : Value → Nat | .string s => s.size | _ => 0
theorem drop_more (l : List UInt8) (n : Nat) : (l.drop (64 * n)).drop 64 = l.drop (64 * (n + 1)) := by rw [List.drop_drop]; congr 1

set_option maxHeartbeats 2000000 in
theorem of_any (K : Nat → Nat) (t : ByteArray) (ht : t.size < 140737488355328) (w : World)
    (hK : ∀ i, i < 64 → w.cell? ⟨10, i, none⟩ = some (.int .u32 (K i))) (hKl : ∀ i, K i < 4294967296) :
    Calls Tryz.prog 124 #[.string t] w fun e w' => ∃ s : Sha.St, Hid (s = codeSum K t.data.toList) ∧ e = .returned (.agg (outF s.byte)) ∧ Below w.heap.size w w' := by
  have hsl : t.data.toList.length = t.size := rfl
  have RK : Hid (∀ i, i < 64 → w.cell? ⟨10, i, none⟩ = some (.int .u32 (K i))) := hK
  have RL : Hid (∀ i, K i < 4294967296) := hKl
  clear hK hKl
  have i131 : (Tryz.prog.info? 319).map (·.size) = some 8 := by kernel_rfl
  have i132 : (Tryz.prog.info? 320).map (·.size) = some 64 := by kernel_rfl
  have i5 : (Tryz.prog.info? 5).map (·.size) = some 1 := by kernel_rfl
  have HZ : Hid (OfMem Sha.H0 w (((w.alloc (.cells (outF fun _ => 0) 217)).alloc (.cells (stF fun _ => 0) 319)).setCells (w.heap.size + 1) 0 (stF Sha.H0.get).toList)) :=
    ⟨by rw [heapC_other _ _ _ _ _ (by omega), heapA_old _ _ _ (by simp)]; exact heapA_new _ _ _ rfl, heapC_row _ _ _ _ _ (heapA_new _ _ _ (by simp)) (by rw [stF_size, stF_size]), belowC _ _ (((Below.refl _ _).alloc (Nat.le_refl _) _).alloc (by simp) _) (by omega)⟩
  go_enter Tryz.func124, Tryz.ntmps124
  go_wp2_with (refine wpList_store_mid rfl 319 _ _ rfl (w.heap.size + 1) 0 (stF Sha.H0.get) rfl ?hy (there_of_row (heapA_new _ _ _ (by simp)) 0 _ (by rw [stF_size]; decide)) (by rw [stF_size]; exact i131) (stF_one _) ?_)
  case hy => rw [stF_H0]
  rw [← outF_zero, ← stF_zero]
  go_loopw [4] (fun v wr => ∃ (n : Nat) (ρ : ByteArray) (st : Sha.St), 64 * n ≤ t.size ∧ v = .string ρ ∧ Hid (ρ.data.toList = t.data.toList.drop (64 * n)) ∧ Hid (st = blocks K t.data.toList n) ∧ OfMem st w wr) (fun v _ => strLen v)
  case atStart => exact ⟨0, t, Sha.H0, by omega, rfl, rfl, rfl, HZ.out⟩
  case round =>
    clear HZ
    obtain ⟨n, ρ, st, hn, rfl, HR, HS, hmem⟩ := hrel
    have HM : Hid (OfMem st w wr) := hmem
    clear hmem
    have hρ : ρ.size = t.size - 64 * n := by
      have := congrArg List.length HR.out
      rw [List.length_drop, hsl] at this
      exact this
    have HP : Hid (ρ.size = t.size - 64 * n) := hρ
    have hlt2 := HM.out.lt
    have hsok : Hid (st.Ok) := by show st.Ok; rw [HS.out]; exact blocks_ok _ _ _
    have hzs := stF_size st.get
    by_cases hlt : 64 ≤ ρ.size
    · clear hρ
      have g1 : (64 : Int) ≤ (ρ.size : Int) := by omega
      go_wp2_with (first
        | (refine wpList_copy_block rfl (.tmp 11) (.tmp 12) 219 9 rfl 5 Tryz.underlying219 i5 wr.heap.size ρ rfl rfl 320 (by rw [bytesV_zero]; exact heapA_new _ _ _ rfl) ?_; intro w2 h2a h2b h2c; have HM2 : Hid (OfMem st w w2) := HM.out.copied h2b h2c)
        | (refine wpList_load_row rfl 319 _ rfl (w.heap.size + 1) rfl 319 (stF st.get) (0, 0) _ (by exact HM2.out.st) Tryz.underlying319 rfl (by rw [hzs]; exact i131) ?_)
        | (refine wpList_load_row rfl 320 _ rfl wr.heap.size rfl 320 (bytesV (byteAt ρ.data.toList)) (0, 0) _ (by exact h2a.out) Tryz.underlying320 rfl (by rw [bytesV_size]; exact i132) ?_))
      refine (mix_ex K st hsok.out _ (byteAt_lt _) _ (HM2.out.keys RK.out) RL.out).mono ?_
      rintro e w3 ⟨s1, HS1, rfl, hb3⟩
      have HM3 : Hid (OfMem st w w3) := HM2.out.past hb3
      clear HM2 hb3 h2a h2b h2c
      have hz3 := stF_size s1.get
      go_wp2_with (refine wpList_store_mid rfl 319 _ _ rfl (w.heap.size + 1) 0 (stF s1.get) rfl rfl (there_of_row HM3.out.st 0 _ (by rw [hz3, hzs]; omega)) (by rw [hz3]; exact i131) (stF_one _) ?_; refine Hid.out ?_)
      have HM4 : Hid (OfMem s1 w (w3.setCells (w.heap.size + 1) 0 (stF s1.get).toList)) := HM3.out.state s1
      have HQ : Hid (s1 = blocks K t.data.toList (n + 1)) := by
        show s1 = Sha.mixed K (blocks K t.data.toList n) (byteAt (t.data.toList.drop (64 * n)))
        rw [HS1.out, HS.out, HR.out]
      clear HM HM3 HS1 HS
      generalize w3.setCells (w.heap.size + 1) 0 (stF s1.get).toList = w4 at *
      unfold Hid
      go_wp2
      have hx1 : (ρ.extract 64 ρ.size).data.toList = t.data.toList.drop (64 * (n + 1)) := by
        rw [← drop_more, ← HR.out]
        rw [Lib.extract_data, List.take_of_length_le (by rw [List.length_drop]; exact Nat.le_refl _)]
      have hx2 : (ρ.extract 64 ρ.size).size = ρ.size - 64 := by simp
      have hP := HP.out
      go_roundw
      case rel => exact ⟨n + 1, _, s1, by omega, rfl, hx1, HQ, HM4.out⟩
      case measure => simp [strLen]; omega
    · have hn64 : n = t.size / 64 := by omega
      have HN : Hid (n = t.size / 64) := hn64
      clear hρ hn64
      have g1 : ¬ (64 : Int) ≤ (ρ.size : Int) := by omega
      have hfit : IntKind.u64.wrap (t.size : Int) = (t.size : Int) := by rw [IntKind.wrap_u64]; omega
      go_wp2_with (refine wpList_load_row rfl 319 _ rfl (w.heap.size + 1) rfl 319 (stF st.get) (0, 0) _ (by exact HM.out.st) Tryz.underlying319 rfl (by rw [hzs]; exact i131) ?_)
      refine (mixEnd_any K st hsok.out ρ (by omega) t.size (by omega) _ (HM.out.keys RK.out) RL.out).mono ?_
      rintro e w3 ⟨s1, HS1, rfl, hb3⟩
      have HM3 : Hid (OfMem st w w3) := HM.out.past hb3
      clear HM hb3
      have hok1 : Hid (s1.Ok) := by
        show s1.Ok
        rw [HS1.out]; unfold codeEnd
        split <;> exact Sha.mixed_ok _ _ _
      go_wp2_with fail
      refine (stateBytes_any s1 hok1.out _).mono ?_
      rintro e w4 ⟨rfl, hb4⟩
      have HM4 : Hid (OfMem st w w4) := HM3.out.past hb4
      clear HM3 hb4
      have hy1 := outF_size s1.byte
      have hy2 := outF_size (fun _ => 0)
      have i67 : (Tryz.prog.info? 217).map (·.size) = some 32 := by kernel_rfl
      go_wp2_with (refine wpList_store_mid rfl 217 _ _ rfl w.heap.size 0 (outF s1.byte) rfl rfl (there_of_row HM4.out.res 0 _ (by rw [hy1, hy2]; omega)) (by rw [hy1]; exact i67) (outF_one _) ?_)
      refine bodyPost_ret (results_cell_row Tryz.results124 _ _ w.heap.size 217 (outF s1.byte) (0, 0) _ rfl (heapC_row _ _ _ _ _ HM4.out.res (by rw [hy1, hy2])) Tryz.underlying217 rfl (by rw [hy1]; exact i67)) rfl
        ⟨s1, ?_, rfl, belowC _ _ HM4.out.below (Nat.le_refl _)⟩
      show s1 = codeSum K t.data.toList
      unfold codeSum
      rw [HS1.out, HR.out, HS.out, HN.out, hsl]
end Go.Proofs.YthhbpebihgjpjaaGreatDoor
