import Derived.Test.YthhbpebihgjpjaaGreatDoorJ44
import Derived.Laws.BytesString
namespace Go.Proofs.YthhbpebihgjpjaaGreatDoor
open Go.RowKit
set_option maxRecDepth 1000000

/-- The eight words at the start. -/
def Sha.H0 : Sha.St := ⟨1779033703, 3144134277, 1013904242, 2773480762, 1359893119, 2600822924, 528734635, 1541459225⟩
theorem Sha.H0_ok : Sha.H0.Ok := by constructor <;> decide
theorem stF_H0 : stF Sha.H0.get = #[.int .u32 1779033703, .int .u32 3144134277, .int .u32 1013904242, .int .u32 2773480762, .int .u32 1359893119, .int .u32 2600822924, .int .u32 528734635, .int .u32 1541459225] := rfl
/-- Behind the first n whole blocks. -/
def blocks (K : Nat → Nat) (l : List UInt8) : Nat → Sha.St
  | 0 => Sha.H0
  | n + 1 => Sha.mixed K (blocks K l n) (byteAt (l.drop (64 * n)))
theorem blocks_ok (K : Nat → Nat) (l : List UInt8) : ∀ n, (blocks K l n).Ok
  | 0 => Sha.H0_ok
  | _ + 1 => Sha.mixed_ok _ _ _
/-- What the program works out of a text. -/
def codeSum (K : Nat → Nat) (l : List UInt8) : Sha.St := codeEnd K (blocks K l (l.length / 64)) (l.drop (64 * (l.length / 64))) l.length

structure OfMem (s : Sha.St) (w wr : World) : Prop where
  res : wr.heap[w.heap.size]? = some (.cells (outF fun _ => 0) 217 (0, 0))
  st : wr.heap[w.heap.size + 1]? = some (.cells (stF s.get) 319 (0, 0))
  below : Below w.heap.size w wr
theorem OfMem.lt {s : Sha.St} {w wr : World} (h : OfMem s w wr) : w.heap.size + 1 < wr.heap.size := by
  rcases Nat.lt_or_ge (w.heap.size + 1) wr.heap.size with g | g
  · exact g
  · have := h.st; rw [Array.getElem?_eq_none g] at this; cases this
theorem OfMem.past {s : Sha.St} {w wr w2 : World} (h : OfMem s w wr) (hb : Below wr.heap.size wr w2) : OfMem s w w2 :=
  have := h.lt
  ⟨by rw [hb.block _ (by omega)]; exact h.res, by rw [hb.block _ (by omega)]; exact h.st, h.below.trans (hb.mono (by omega))⟩
theorem OfMem.state {s : Sha.St} {w wr : World} (h : OfMem s w wr) (s' : Sha.St) : OfMem s' w (wr.setCells (w.heap.size + 1) 0 (stF s'.get).toList) :=
  ⟨by rw [heapC_other _ _ _ _ _ (by omega)]; exact h.res, heapC_row _ _ _ _ _ h.st (by rw [stF_size, stF_size]), belowC _ _ h.below (by omega)⟩
theorem OfMem.keys {s : Sha.St} {w wr : World} (h : OfMem s w wr) {K : Nat → Nat} (hK : ∀ i, i < 64 → w.cell? ⟨10, i, none⟩ = some (.int .u32 (K i))) :
    ∀ i, i < 64 → wr.cell? ⟨10, i, none⟩ = some (.int .u32 (K i)) := fun i hi => by
  rw [h.below.cell (p := ⟨10, i, none⟩) (block_lt_of_cell (hK i hi))]; exact hK i hi
/-- Behind the copy into a block of its own. -/
theorem OfMem.copied {s : Sha.St} {w wr w2 : World} {o : Obj} (h : OfMem s w wr) (hb : Hid (∀ k, k ≠ wr.heap.size → w2.heap[k]? = (wr.alloc o).heap[k]?)) (hc : Hid (∀ B w0, Below B w0 (wr.alloc o) → B ≤ wr.heap.size → Below B w0 w2)) : OfMem s w w2 :=
  have := h.lt
  ⟨by rw [hb.out _ (by omega), heapA_old _ _ _ (by omega)]; exact h.res, by rw [hb.out _ (by omega), heapA_old _ _ _ (by omega)]; exact h.st, hc.out _ _ (h.below.alloc (by omega) _) (by omega)⟩

/-- How long a slot's text is: for a loop's measure. -/
def strLen : Value → Nat | .string s => s.size | _ => 0
theorem drop_more (l : List UInt8) (n : Nat) : (l.drop (64 * n)).drop 64 = l.drop (64 * (n + 1)) := by rw [List.drop_drop]; congr 1

set_option maxHeartbeats 2000000 in
theorem of_any (K : Nat → Nat) (t : ByteArray) (ht : t.size < 140737488355328) (w : World)
    (hK : ∀ i, i < 64 → w.cell? ⟨10, i, none⟩ = some (.int .u32 (K i))) (hKl : ∀ i, K i < 4294967296) :
    Calls Tryz.prog 124 #[.string t] w fun e w' => ∃ s : Sha.St, Hid (s = codeSum K t.data.toList) ∧ e = .returned (.agg (outF s.byte)) ∧ Below w.heap.size w w' := by
  have hsl : t.data.toList.length = t.size := rfl
  have RK : Hid (∀ i, i < 64 → w.cell? ⟨10, i, none⟩ = some (.int .u32 (K i))) := hK
  have RL : Hid (∀ i, K i < 4294967296) := hKl
  clear hK hKl
  have i131 : (Tryz.prog.info? 319).map (·.size) = some 8 := by kernel_rfl
  have i132 : (Tryz.prog.info? 320).map (·.size) = some 64 := by kernel_rfl
  have i5 : (Tryz.prog.info? 5).map (·.size) = some 1 := by kernel_rfl
  have HZ : Hid (OfMem Sha.H0 w (((w.alloc (.cells (outF fun _ => 0) 217)).alloc (.cells (stF fun _ => 0) 319)).setCells (w.heap.size + 1) 0 (stF Sha.H0.get).toList)) :=
    ⟨by rw [heapC_other _ _ _ _ _ (by omega), heapA_old _ _ _ (by simp)]; exact heapA_new _ _ _ rfl, heapC_row _ _ _ _ _ (heapA_new _ _ _ (by simp)) (by rw [stF_size, stF_size]), belowC _ _ (((Below.refl _ _).alloc (Nat.le_refl _) _).alloc (by simp) _) (by omega)⟩
  go_enter Tryz.func124, Tryz.ntmps124
  go_wp2_with (refine wpList_store_mid rfl 319 _ _ rfl (w.heap.size + 1) 0 (stF Sha.H0.get) rfl ?hy (there_of_row (heapA_new _ _ _ (by simp)) 0 _ (by rw [stF_size]; decide)) (by rw [stF_size]; exact i131) (stF_one _) ?_)
  case hy => rw [stF_H0]
  rw [← outF_zero, ← stF_zero]
  go_loopw [4] (fun v wr => ∃ (n : Nat) (ρ : ByteArray) (st : Sha.St), 64 * n ≤ t.size ∧ v = .string ρ ∧ Hid (ρ.data.toList = t.data.toList.drop (64 * n)) ∧ Hid (st = blocks K t.data.toList n) ∧ OfMem st w wr) (fun v _ => strLen v)
  case atStart => exact ⟨0, t, Sha.H0, by omega, rfl, rfl, rfl, HZ.out⟩
  case round =>
    clear HZ
    obtain ⟨n, ρ, st, hn, rfl, HR, HS, hmem⟩ := hrel
    have HM : Hid (OfMem st w wr) := hmem
    clear hmem
    have hρ : ρ.size = t.size - 64 * n := by
      have := congrArg List.length HR.out
      rw [List.length_drop, hsl] at this
      exact this
    have HP : Hid (ρ.size = t.size - 64 * n) := hρ
    have hlt2 := HM.out.lt
    have hsok : Hid (st.Ok) := by show st.Ok; rw [HS.out]; exact blocks_ok _ _ _
    have hzs := stF_size st.get
    by_cases hlt : 64 ≤ ρ.size
    · clear hρ
      have g1 : (64 : Int) ≤ (ρ.size : Int) := by omega
      go_wp2_with (first
        | (refine wpList_copy_block rfl (.tmp 11) (.tmp 12) 219 9 rfl 5 Tryz.underlying219 i5 wr.heap.size ρ rfl rfl 320 (by rw [bytesV_zero]; exact heapA_new _ _ _ rfl) ?_; intro w2 h2a h2b h2c; have HM2 : Hid (OfMem st w w2) := HM.out.copied h2b h2c)
        | (refine wpList_load_row rfl 319 _ rfl (w.heap.size + 1) rfl 319 (stF st.get) (0, 0) _ (by exact HM2.out.st) Tryz.underlying319 rfl (by rw [hzs]; exact i131) ?_)
        | (refine wpList_load_row rfl 320 _ rfl wr.heap.size rfl 320 (bytesV (byteAt ρ.data.toList)) (0, 0) _ (by exact h2a.out) Tryz.underlying320 rfl (by rw [bytesV_size]; exact i132) ?_))
      refine (mix_ex K st hsok.out _ (byteAt_lt _) _ (HM2.out.keys RK.out) RL.out).mono ?_
      rintro e w3 ⟨s1, HS1, rfl, hb3⟩
      have HM3 : Hid (OfMem st w w3) := HM2.out.past hb3
      clear HM2 hb3 h2a h2b h2c
      have hz3 := stF_size s1.get
      go_wp2_with (refine wpList_store_mid rfl 319 _ _ rfl (w.heap.size + 1) 0 (stF s1.get) rfl rfl (there_of_row HM3.out.st 0 _ (by rw [hz3, hzs]; omega)) (by rw [hz3]; exact i131) (stF_one _) ?_; refine Hid.out ?_)
      have HM4 : Hid (OfMem s1 w (w3.setCells (w.heap.size + 1) 0 (stF s1.get).toList)) := HM3.out.state s1
      have HQ : Hid (s1 = blocks K t.data.toList (n + 1)) := by
        show s1 = Sha.mixed K (blocks K t.data.toList n) (byteAt (t.data.toList.drop (64 * n)))
        rw [HS1.out, HS.out, HR.out]
      clear HM HM3 HS1 HS
      generalize w3.setCells (w.heap.size + 1) 0 (stF s1.get).toList = w4 at *
      unfold Hid
      go_wp2
      have hx1 : (ρ.extract 64 ρ.size).data.toList = t.data.toList.drop (64 * (n + 1)) := by
        rw [← drop_more, ← HR.out]
        rw [Lib.extract_data, List.take_of_length_le (by rw [List.length_drop]; exact Nat.le_refl _)]
      have hx2 : (ρ.extract 64 ρ.size).size = ρ.size - 64 := by simp
      have hP := HP.out
      go_roundw
      case rel => exact ⟨n + 1, _, s1, by omega, rfl, hx1, HQ, HM4.out⟩
      case measure => simp [strLen]; omega
    · have hn64 : n = t.size / 64 := by omega
      have HN : Hid (n = t.size / 64) := hn64
      clear hρ hn64
      have g1 : ¬ (64 : Int) ≤ (ρ.size : Int) := by omega
      have hfit : IntKind.u64.wrap (t.size : Int) = (t.size : Int) := by rw [IntKind.wrap_u64]; omega
      go_wp2_with (refine wpList_load_row rfl 319 _ rfl (w.heap.size + 1) rfl 319 (stF st.get) (0, 0) _ (by exact HM.out.st) Tryz.underlying319 rfl (by rw [hzs]; exact i131) ?_)
      refine (mixEnd_any K st hsok.out ρ (by omega) t.size (by omega) _ (HM.out.keys RK.out) RL.out).mono ?_
      rintro e w3 ⟨s1, HS1, rfl, hb3⟩
      have HM3 : Hid (OfMem st w w3) := HM.out.past hb3
      clear HM hb3
      have hok1 : Hid (s1.Ok) := by
        show s1.Ok
        rw [HS1.out]; unfold codeEnd
        split <;> exact Sha.mixed_ok _ _ _
      go_wp2_with fail
      refine (stateBytes_any s1 hok1.out _).mono ?_
      rintro e w4 ⟨rfl, hb4⟩
      have HM4 : Hid (OfMem st w w4) := HM3.out.past hb4
      clear HM3 hb4
      have hy1 := outF_size s1.byte
      have hy2 := outF_size (fun _ => 0)
      have i67 : (Tryz.prog.info? 217).map (·.size) = some 32 := by kernel_rfl
      go_wp2_with (refine wpList_store_mid rfl 217 _ _ rfl w.heap.size 0 (outF s1.byte) rfl rfl (there_of_row HM4.out.res 0 _ (by rw [hy1, hy2]; omega)) (by rw [hy1]; exact i67) (outF_one _) ?_)
      refine bodyPost_ret (results_cell_row Tryz.results124 _ _ w.heap.size 217 (outF s1.byte) (0, 0) _ rfl (heapC_row _ _ _ _ _ HM4.out.res (by rw [hy1, hy2])) Tryz.underlying217 rfl (by rw [hy1]; exact i67)) rfl
        ⟨s1, ?_, rfl, belowC _ _ HM4.out.below (Nat.le_refl _)⟩
      show s1 = codeSum K t.data.toList
      unfold codeSum
      rw [HS1.out, HR.out, HS.out, HN.out, hsl]
end Go.Proofs.YthhbpebihgjpjaaGreatDoor

namespace Go.Proofs.YthhbpebihgjpjaaGreatDoor
set_option maxRecDepth 1000000

/-! The document's answer pads the text and mixes it block by block: the same as the program's way. -/
theorem word_congr (b b' : Nat → Nat) (h : ∀ i, i < 64 → b i = b' i) (n : Nat) : Sha.word b n = Sha.word b' n := by
  induction n using Nat.strongRecOn with
  | ind n ih =>
    by_cases hn : n < 16
    · rw [Sha.word_low b n hn, Sha.word_low b' n hn, h _ (by omega), h _ (by omega), h _ (by omega), h _ (by omega)]
    · rw [Sha.word_high b n (by omega), Sha.word_high b' n (by omega), ih _ (by omega), ih _ (by omega), ih _ (by omega), ih _ (by omega)]
theorem mixed_congr (K : Nat → Nat) (s : Sha.St) (b b' : Nat → Nat) (h : ∀ i, i < 64 → b i = b' i) : Sha.mixed K s b = Sha.mixed K s b' := by
  unfold Sha.mixed
  rw [show Sha.word b = Sha.word b' from funext (word_congr b b' h)]

/-- How many zeros stand behind the mark. -/
def zeros (n : Nat) : Nat := (119 - n % 64) % 64
def len8 (n : Nat) : List UInt8 := (List.range 8).map fun j => UInt8.ofNat (n * 8 / 2 ^ (8 * (7 - j)))
def padded (l : List UInt8) : List UInt8 := l ++ (128 :: (List.replicate (zeros l.length) 0 ++ len8 l.length))
theorem len8_length (n : Nat) : (len8 n).length = 8 := by simp [len8]
theorem padded_length (l : List UInt8) : (padded l).length = l.length + 1 + zeros l.length + 8 := by
  simp [padded, len8_length]; omega
theorem byteAt_drop (l : List UInt8) (k i : Nat) : byteAt (l.drop k) i = byteAt l (k + i) := by
  unfold byteAt; rw [List.getElem?_drop]
theorem byteAt_left (l r : List UInt8) (i : Nat) (h : i < l.length) : byteAt (l ++ r) i = byteAt l i := by
  unfold byteAt; rw [List.getElem?_append_left h]
theorem byteAt_right (l r : List UInt8) (i : Nat) (h : l.length ≤ i) : byteAt (l ++ r) i = byteAt r (i - l.length) := by
  unfold byteAt; rw [List.getElem?_append_right h]
theorem padded_text (l : List UInt8) (i : Nat) (h : i < l.length) : byteAt (padded l) i = byteAt l i := byteAt_left _ _ _ h
theorem padded_mark (l : List UInt8) : byteAt (padded l) l.length = 128 := by
  unfold padded; rw [byteAt_right _ _ _ (Nat.le_refl _), Nat.sub_self]; rfl
theorem padded_zero (l : List UInt8) (i : Nat) (h1 : l.length < i) (h2 : i < l.length + 1 + zeros l.length) : byteAt (padded l) i = 0 := by
  unfold padded
  rw [byteAt_right _ _ _ (by omega)]
  unfold byteAt
  rw [show i - l.length = (i - l.length - 1) + 1 by omega, List.getElem?_cons_succ, List.getElem?_append_left (by simp; omega), List.getElem?_replicate_of_lt (by omega)]
  rfl
theorem padded_len (l : List UInt8) (j : Nat) (hj : j < 8) : byteAt (padded l) (l.length + 1 + zeros l.length + j) = l.length * 8 / 2 ^ (8 * (7 - j)) % 256 := by
  unfold padded
  rw [byteAt_right _ _ _ (by omega)]
  unfold byteAt
  rw [show l.length + 1 + zeros l.length + j - l.length = (zeros l.length + j) + 1 by omega, List.getElem?_cons_succ, List.getElem?_append_right (by simp), List.length_replicate, show zeros l.length + j - zeros l.length = j by omega]
  simp [len8, hj]

theorem blocks_text (K : Nat → Nat) (l : List UInt8) : ∀ n, 64 * n ≤ l.length → blocks K (padded l) n = blocks K l n := by
  intro n
  induction n with
  | zero => intro _; rfl
  | succ n ih =>
    intro h
    show Sha.mixed K (blocks K (padded l) n) _ = Sha.mixed K (blocks K l n) _
    rw [ih (by omega)]
    apply mixed_congr
    intro i hi
    rw [byteAt_drop, byteAt_drop, padded_text _ _ (by omega)]

/-- The two ways come to one. -/
theorem padded_sum (K : Nat → Nat) (l : List UInt8) : blocks K (padded l) ((padded l).length / 64) = codeSum K l := by
  have hz : zeros l.length < 64 ∧ (l.length + 1 + zeros l.length) % 64 = 56 := by unfold zeros; omega
  have hr : (l.drop (64 * (l.length / 64))).length = l.length % 64 := by rw [List.length_drop]; omega
  have hrb : ∀ i, byteAt (l.drop (64 * (l.length / 64))) i = byteAt l (64 * (l.length / 64) + i) := fun i => byteAt_drop _ _ _
  unfold codeSum codeEnd
  rw [hr, padded_length]
  by_cases hl : 56 < l.length % 64 + 1
  · rw [if_pos hl]
    have hz2 : zeros l.length = 119 - l.length % 64 := by unfold zeros; omega
    have hN : (l.length + 1 + zeros l.length + 8) / 64 = l.length / 64 + 1 + 1 := by omega
    rw [hN]
    show Sha.mixed K (Sha.mixed K (blocks K (padded l) (l.length / 64)) _) _ = _
    rw [blocks_text K l _ (by omega)]
    have e1 : Sha.mixed K (blocks K l (l.length / 64)) (byteAt ((padded l).drop (64 * (l.length / 64)))) = Sha.mixed K (blocks K l (l.length / 64)) (marked (l.drop (64 * (l.length / 64)))) := by
      apply mixed_congr
      intro i hi
      rw [byteAt_drop]; unfold marked; rw [hr, hrb]
      by_cases c : i = l.length % 64
      · rw [if_pos c, show 64 * (l.length / 64) + i = l.length by omega, padded_mark]
      · rw [if_neg c]
        by_cases c2 : i < l.length % 64
        · rw [padded_text _ _ (by omega)]
        · rw [padded_zero _ _ (by omega) (by omega), byteAt_past _ _ (by omega)]
    rw [e1]
    apply mixed_congr
    intro i hi
    rw [byteAt_drop]; unfold lenB
    by_cases c : 56 ≤ i ∧ i < 64
    · rw [if_pos c, show 64 * (l.length / 64 + 1) + i = l.length + 1 + zeros l.length + (i - 56) by omega, padded_len _ _ (by omega), show 7 - (i - 56) = 63 - i by omega]
    · rw [if_neg c, padded_zero _ _ (by omega) (by omega)]
  · rw [if_neg hl]
    have hz2 : zeros l.length = 55 - l.length % 64 := by unfold zeros; omega
    have hN : (l.length + 1 + zeros l.length + 8) / 64 = l.length / 64 + 1 := by omega
    rw [hN]
    show Sha.mixed K (blocks K (padded l) (l.length / 64)) _ = _
    rw [blocks_text K l _ (by omega)]
    apply mixed_congr
    intro i hi
    rw [byteAt_drop]; unfold lenB
    by_cases c : 56 ≤ i ∧ i < 64
    · rw [if_pos c, show 64 * (l.length / 64) + i = l.length + 1 + zeros l.length + (i - 56) by omega, padded_len _ _ (by omega), show 7 - (i - 56) = 63 - i by omega]
    · rw [if_neg c]; unfold marked; rw [hr, hrb]
      by_cases c1 : i = l.length % 64
      · rw [if_pos c1, show 64 * (l.length / 64) + i = l.length by omega, padded_mark]
      · rw [if_neg c1]
        by_cases c2 : i < l.length % 64
        · rw [padded_text _ _ (by omega)]
        · rw [padded_zero _ _ (by omega) (by omega), byteAt_past _ _ (by omega)]
end Go.Proofs.YthhbpebihgjpjaaGreatDoor

namespace Go.Proofs.YthhbpebihgjpjaaGreatDoor
open Go.RowKit
set_option maxRecDepth 1000000

/-- Thirty-two bytes as a text. -/
def outStr (f : Nat → Nat) : ByteArray := ⟨((List.range 32).map fun j => UInt8.ofNat (f j)).toArray⟩
theorem push_all (ns : List Int) : ∀ r : ByteArray, (ns.foldl (fun r n => r.push (UInt8.ofNat n.toNat)) r) = ⟨r.data ++ (ns.map fun n => UInt8.ofNat n.toNat).toArray⟩ := by
  induction ns with
  | nil => intro r; simp
  | cons n ns ih =>
    intro r
    rw [List.foldl_cons, ih]
    simp [ByteArray.push]
theorem run_out_string {P : Program} (w : World) (src dst e : TypeId) (g : Nat) (t : TypeId) (f : Nat → Nat)
    (hs : P.underlying src = some (.slice e)) (he : P.underlying e = some (.int .u8)) (hd : P.underlying dst = some .string) (hg : w.heap[g]? = some (.cells (outF f) t (0, 0))) :
    (convert src dst (.slice (some ⟨g, 0, none⟩) 32 32)).run P w = .ok (.string (outStr f)) w := by
  rw [run_convert_bytes_string w src dst e _ _ _ hs he hd]
  have hl : (loadCells ⟨g, 0, none⟩ (outF f).toList.length).run P w = .ok (outF f).toList.toArray w :=
    run_loadCells_list (P := P) w ⟨g, 0, none⟩ (outF f).toList (fun j v hv => by
      have hadd : (⟨g, 0, none⟩ : Addr).add j = ⟨g, j, none⟩ := by unfold Addr.add; split <;> simp_all
      rw [hadd, cell_of_row w g j _ t _ hg]
      simpa using hv)
  rw [Array.length_toList, outF_size, Array.toArray_toList] at hl
  have e1 : outF f = (((List.range 32).map fun i => ((f i : Nat) : Int)).map (Value.int .u8)).toArray := by simp [outF]
  rw [e1] at hl
  have e2 : (((List.range 32).map fun i => ((f i : Nat) : Int)).foldl (fun r n => r.push (UInt8.ofNat n.toNat)) ByteArray.empty) = outStr f := by
    rw [push_all, List.map_map]
    show (⟨#[] ++ ((List.range 32).map ((fun n : Int => UInt8.ofNat n.toNat) ∘ fun i => ((f i : Nat) : Int))).toArray⟩ : ByteArray) = _
    rw [Array.empty_append]
    rfl
  rw [run_bytesToString w _ _ _ _ hl, e2]

set_option maxHeartbeats 2000000 in
theorem sum_any (K : Nat → Nat) (t : ByteArray) (ht : t.size < 140737488355328) (w : World)
    (hK : ∀ i, i < 64 → w.cell? ⟨10, i, none⟩ = some (.int .u32 (K i))) (hKl : ∀ i, K i < 4294967296) :
    Calls Tryz.prog 77 #[.string t] w fun e w' => ∃ s : Sha.St, Hid (s = codeSum K t.data.toList) ∧ e = .returned (.string (outStr s.byte)) ∧ Below w.heap.size w w' := by
  have i67 : (Tryz.prog.info? 217).map (·.size) = some 32 := by kernel_rfl
  go_enter Tryz.func77, Tryz.ntmps77
  go_wp2_with fail
  refine (of_any K t ht _ hK hKl).mono ?_
  rintro e w1 ⟨s, HS, rfl, hb1⟩
  have hy1 := outF_size s.byte
  go_wp2_with (refine wpList_store_mid rfl 217 _ _ rfl w1.heap.size 0 (outF s.byte) rfl rfl (there_of_row (heapA_new _ _ _ rfl) 0 _ (by rw [hy1]; decide)) (by rw [hy1]; exact i67) (outF_one _) ?_; refine Hid.out ?_)
  rw [← outF_zero]
  have hrow : ((w1.alloc (.cells (outF fun _ => 0) 217)).setCells w1.heap.size 0 (outF s.byte).toList).heap[w1.heap.size]? = some (.cells (outF s.byte) 217 (0, 0)) := heapC_row _ _ _ _ _ (heapA_new _ _ _ rfl) (by rw [hy1, outF_size])
  have HB : Hid (Below w.heap.size w ((w1.alloc (.cells (outF fun _ => 0) 217)).setCells w1.heap.size 0 (outF s.byte).toList)) := belowC _ _ (hb1.alloc hb1.size _) hb1.size
  have HR : Hid (((w1.alloc (.cells (outF fun _ => 0) 217)).setCells w1.heap.size 0 (outF s.byte).toList).heap[w1.heap.size]? = some (.cells (outF s.byte) 217 (0, 0))) := hrow
  clear hrow hb1
  generalize (w1.alloc (.cells (outF fun _ => 0) 217)).setCells w1.heap.size 0 (outF s.byte).toList = w2 at *
  have hconv := run_out_string (P := Tryz.prog) w2 219 9 5 w1.heap.size 217 s.byte Tryz.underlying219 Tryz.underlying5 Tryz.underlying9 HR.out
  unfold Hid
  go_wp2
  go_ret
  exact ⟨s, HS, rfl, HB.out⟩
end Go.Proofs.YthhbpebihgjpjaaGreatDoor

namespace Go.Proofs.YthhbpebihgjpjaaGreatDoor
open Go.RowKit
set_option maxRecDepth 1000000

/-- A word's four bytes, the high byte first. -/
def fourStr (x : Nat) : ByteArray := ⟨#[UInt8.ofNat (x / 16777216 % 256), UInt8.ofNat (x / 65536 % 256), UInt8.ofNat (x / 256 % 256), UInt8.ofNat (x % 256)]⟩
theorem run_four_string {P : Program} (w : World) (src dst e t : TypeId) (b0 b1 b2 b3 : Nat)
    (hs : P.underlying src = some (.slice e)) (he : P.underlying e = some (.int .u8)) (hd : P.underlying dst = some .string) :
    (convert src dst (.slice (some ⟨w.heap.size, 0, none⟩) 4 4)).run P (w.alloc (.cells #[.int .u8 (b0 : Int), .int .u8 (b1 : Int), .int .u8 (b2 : Int), .int .u8 (b3 : Int)] t)) = .ok (.string ⟨#[UInt8.ofNat b0, UInt8.ofNat b1, UInt8.ofNat b2, UInt8.ofNat b3]⟩) (w.alloc (.cells #[.int .u8 (b0 : Int), .int .u8 (b1 : Int), .int .u8 (b2 : Int), .int .u8 (b3 : Int)] t)) := by
  rw [run_convert_bytes_string _ src dst e _ _ _ hs he hd]
  have hl : (loadCells ⟨w.heap.size, 0, none⟩ ([.int .u8 (b0 : Int), .int .u8 (b1 : Int), .int .u8 (b2 : Int), .int .u8 (b3 : Int)] : List Value).length).run P (w.alloc (.cells #[.int .u8 (b0 : Int), .int .u8 (b1 : Int), .int .u8 (b2 : Int), .int .u8 (b3 : Int)] t)) = .ok ([.int .u8 (b0 : Int), .int .u8 (b1 : Int), .int .u8 (b2 : Int), .int .u8 (b3 : Int)] : List Value).toArray _ :=
    run_loadCells_list (P := P) _ ⟨w.heap.size, 0, none⟩ _ (fun j v hv => by
      have hadd : (⟨w.heap.size, 0, none⟩ : Addr).add j = ⟨w.heap.size, j, none⟩ := by unfold Addr.add; split <;> simp_all
      rw [hadd, cell_of_row _ w.heap.size j #[.int .u8 (b0 : Int), .int .u8 (b1 : Int), .int .u8 (b2 : Int), .int .u8 (b3 : Int)] t (0, 0) (heapA_new _ _ _ rfl)]
      simpa using hv)
  have hl4 : (loadCells ⟨w.heap.size, 0, none⟩ 4).run P (w.alloc (.cells #[.int .u8 (b0 : Int), .int .u8 (b1 : Int), .int .u8 (b2 : Int), .int .u8 (b3 : Int)] t)) = .ok ([(b0 : Int), (b1 : Int), (b2 : Int), (b3 : Int)].map (Value.int .u8)).toArray (w.alloc (.cells #[.int .u8 (b0 : Int), .int .u8 (b1 : Int), .int .u8 (b2 : Int), .int .u8 (b3 : Int)] t)) := hl
  rw [run_bytesToString _ _ 4 4 [(b0 : Int), (b1 : Int), (b2 : Int), (b3 : Int)] hl4, push_all]
  rfl
theorem four_any (x : Nat) (hx : x < 4294967296) (w : World) :
    Calls Tryz.prog 130 #[.int .i64 x] w fun e w' => e = .returned (.string (fourStr x)) ∧ Below w.heap.size w w' := by
  have x1 : (x : Int) < 4294967296 := by omega
  have hc := run_four_string (P := Tryz.prog) w 219 9 5 5 (x / 16777216 % 256) (x / 65536 % 256) (x / 256 % 256) (x % 256) Tryz.underlying219 Tryz.underlying5 Tryz.underlying9
  rw [show ((x / 16777216 % 256 : Nat) : Int) = (x : Int) / 16777216 % 256 by omega, show ((x / 65536 % 256 : Nat) : Int) = (x : Int) / 65536 % 256 by omega, show ((x / 256 % 256 : Nat) : Int) = (x : Int) / 256 % 256 by omega, show ((x % 256 : Nat) : Int) = (x : Int) % 256 by omega] at hc
  go_enter Tryz.func130, Tryz.ntmps130
  go_wp2
  go_ret
  exact ⟨rfl, (Below.refl _ _).alloc (Nat.le_refl _) _⟩
end Go.Proofs.YthhbpebihgjpjaaGreatDoor
