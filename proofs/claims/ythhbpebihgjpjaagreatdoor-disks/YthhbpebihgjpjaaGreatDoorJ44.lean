import Derived.Test.YthhbpebihgjpjaaGreatDoorJ43
import Derived.Test.YthhbpebihgjpjaaGreatDoorJ42
import Derived.Test.YthhbpebihgjpjaaGreatDoorJ40
namespace Go.Proofs.YthhbpebihgjpjaaGreatDoor
open Go.RowKit
set_option maxRecDepth 1000000

/-- The eight words at the start. -/
def Sha.H0 : Sha.St := ⟨1779033703, 3144134277, 1013904242, 2773480762, 1359893119, 2600822924, 528734635, 1541459225⟩
theorem Sha.H0_ok : Sha.H0.Ok := by constructor <;> decide
theorem stF_H0 : stF Sha.H0.get = #[.int .u32 1779033703, .int .u32 3144134277, .int .u32 1013904242, .int .u32 2773480762, .int .u32 1359893119, .int .u32 2600822924, .int .u32 528734635, .int .u32 1541459225] := rfl
/-- Behind the first n whole blocks. -/
def blocks (K : Nat → Nat) (l : List UInt8) : Nat → Sha.St
  | 0 => Sha.H0
  | n + 1 => Sha.mixed K (blocks K l n) (byteAt (l.drop (64 * n)))
theorem blocks_ok (K : Nat → Nat) (l : List UInt8) : ∀ n, (blocks K l n).Ok
  | 0 => Sha.H0_ok
  | _ + 1 => Sha.mixed_ok _ _ _
/-- What the program works out of a text. -/
def codeSum (K : Nat → Nat) (l : List UInt8) : Sha.St := codeEnd K (blocks K l (l.length / 64)) (l.drop (64 * (l.length / 64))) l.length

structure OfMem (s : Sha.St) (w wr : World) : Prop where
  res : wr.heap[w.heap.size]? = some (.cells (outF fun _ => 0) 217 (0, 0))
  st : wr.heap[w.heap.size + 1]? = some (.cells (stF s.get) 319 (0, 0))
  below : Below w.heap.size w wr
theorem OfMem.lt {s : Sha.St} {w wr : World} (h : OfMem s w wr) : w.heap.size + 1 < wr.heap.size := by
  rcases Nat.lt_or_ge (w.heap.size + 1) wr.heap.size with g | g
  · exact g
  · have := h.st; rw [Array.getElem?_eq_none g] at this; cases this
theorem OfMem.past {s : Sha.St} {w wr w2 : World} (h : OfMem s w wr) (hb : Below wr.heap.size wr w2) : OfMem s w w2 :=
  have := h.lt
  ⟨by rw [hb.block _ (by omega)]; exact h.res, by rw [hb.block _ (by omega)]; exact h.st, h.below.trans (hb.mono (by omega))⟩
theorem OfMem.state {s : Sha.St} {w wr : World} (h : OfMem s w wr) (s' : Sha.St) : OfMem s' w (wr.setCells (w.heap.size + 1) 0 (stF s'.get).toList) :=
  ⟨by rw [heapC_other _ _ _ _ _ (by omega)]; exact h.res, heapC_row _ _ _ _ _ h.st (by rw [stF_size, stF_size]), belowC _ _ h.below (by omega)⟩
theorem OfMem.keys {s : Sha.St} {w wr : World} (h : OfMem s w wr) {K : Nat → Nat} (hK : ∀ i, i < 64 → w.cell? ⟨10, i, none⟩ = some (.int .u32 (K i))) :
    ∀ i, i < 64 → wr.cell? ⟨10, i, none⟩ = some (.int .u32 (K i)) := fun i hi => by
  rw [h.below.cell (p := ⟨10, i, none⟩) (block_lt_of_cell (hK i hi))]; exact hK i hi
/-- Behind the copy into a block of its own. -/
theorem OfMem.copied {s : Sha.St} {w wr w2 : World} {o : Obj} (h : OfMem s w wr) (hb : Hid (∀ k, k ≠ wr.heap.size → w2.heap[k]? = (wr.alloc o).heap[k]?)) (hc : Hid (∀ B w0, Below B w0 (wr.alloc o) → B ≤ wr.heap.size → Below B w0 w2)) : OfMem s w w2 :=
  have := h.lt
  ⟨by rw [hb.out _ (by omega), heapA_old _ _ _ (by omega)]; exact h.res, by rw [hb.out _ (by omega), heapA_old _ _ _ (by omega)]; exact h.st, hc.out _ _ (h.below.alloc (by omega) _) (by omega)⟩

/-- How long a slot's text is: for a loop's measure. -/
def strLen : Value → Nat | .string s => s.size | _ => 0
theorem drop_more (l : List UInt8) (n : Nat) : (l.drop (64 * n)).drop 64 = l.drop (64 * (n + 1)) := by rw [List.drop_drop]; congr 1

set_option maxHeartbeats 2000000 in
theorem of_any (K : Nat → Nat) (t : ByteArray) (ht : t.size < 140737488355328) (w : World)
    (hK : ∀ i, i < 64 → w.cell? ⟨10, i, none⟩ = some (.int .u32 (K i))) (hKl : ∀ i, K i < 4294967296) :
    Calls Tryz.prog 124 #[.string t] w fun e w' => ∃ s : Sha.St, Hid (s = codeSum K t.data.toList) ∧ e = .returned (.agg (outF s.byte)) ∧ Below w.heap.size w w' := by
  have hsl : t.data.toList.length = t.size := rfl
  have RK : Hid (∀ i, i < 64 → w.cell? ⟨10, i, none⟩ = some (.int .u32 (K i))) := hK
  have RL : Hid (∀ i, K i < 4294967296) := hKl
  clear hK hKl
  have i131 : (Tryz.prog.info? 319).map (·.size) = some 8 := by kernel_rfl
  have i132 : (Tryz.prog.info? 320).map (·.size) = some 64 := by kernel_rfl
  have i5 : (Tryz.prog.info? 5).map (·.size) = some 1 := by kernel_rfl
  have HZ : Hid (OfMem Sha.H0 w (((w.alloc (.cells (outF fun _ => 0) 217)).alloc (.cells (stF fun _ => 0) 319)).setCells (w.heap.size + 1) 0 (stF Sha.H0.get).toList)) :=
    ⟨by rw [heapC_other _ _ _ _ _ (by omega), heapA_old _ _ _ (by simp)]; exact heapA_new _ _ _ rfl, heapC_row _ _ _ _ _ (heapA_new _ _ _ (by simp)) (by rw [stF_size, stF_size]), belowC _ _ (((Below.refl _ _).alloc (Nat.le_refl _) _).alloc (by simp) _) (by omega)⟩
  go_enter Tryz.func124, Tryz.ntmps124
  go_wp2_with (refine wpList_store_mid rfl 319 _ _ rfl (w.heap.size + 1) 0 (stF Sha.H0.get) rfl ?hy (there_of_row (heapA_new _ _ _ (by simp)) 0 _ (by rw [stF_size]; decide)) (by rw [stF_size]; exact i131) (stF_one _) ?_)
  case hy => rw [stF_H0]
  rw [← outF_zero, ← stF_zero]
  go_loopw [4] (fun v wr => ∃ (n : Nat) (ρ : ByteArray) (st : Sha.St), 64 * n ≤ t.size ∧ v = .string ρ ∧ Hid (ρ.data.toList = t.data.toList.drop (64 * n)) ∧ Hid (st = blocks K t.data.toList n) ∧ OfMem st w wr) (fun v _ => strLen v)
  case atStart => exact ⟨0, t, Sha.H0, by omega, rfl, rfl, rfl, HZ.out⟩
  case round =>
    clear HZ
    obtain ⟨n, ρ, st, hn, rfl, HR, HS, hmem⟩ := hrel
    have HM : Hid (OfMem st w wr) := hmem
    clear hmem
    have hρ : ρ.size = t.size - 64 * n := by
      have := congrArg List.length HR.out
      rw [List.length_drop, hsl] at this
      exact this
    have HP : Hid (ρ.size = t.size - 64 * n) := hρ
    have hlt2 := HM.out.lt
    have hsok : Hid (st.Ok) := by show st.Ok; rw [HS.out]; exact blocks_ok _ _ _
    have hzs := stF_size st.get
    by_cases hlt : 64 ≤ ρ.size
    · clear hρ
      have g1 : (64 : Int) ≤ (ρ.size : Int) := by omega
      go_wp2_with (first
        | (refine wpList_copy_block rfl (.tmp 11) (.tmp 12) 219 9 rfl 5 Tryz.underlying219 i5 wr.heap.size ρ rfl rfl 320 (by rw [bytesV_zero]; exact heapA_new _ _ _ rfl) ?_; intro w2 h2a h2b h2c; have HM2 : Hid (OfMem st w w2) := HM.out.copied h2b h2c)
        | (refine wpList_load_row rfl 319 _ rfl (w.heap.size + 1) rfl 319 (stF st.get) (0, 0) _ (by exact HM2.out.st) Tryz.underlying319 rfl (by rw [hzs]; exact i131) ?_)
        | (refine wpList_load_row rfl 320 _ rfl wr.heap.size rfl 320 (bytesV (byteAt ρ.data.toList)) (0, 0) _ (by exact h2a.out) Tryz.underlying320 rfl (by rw [bytesV_size]; exact i132) ?_))
      refine (mix_ex K st hsok.out _ (byteAt_lt _) _ (HM2.out.keys RK.out) RL.out).mono ?_
      rintro e w3 ⟨s1, HS1, rfl, hb3⟩
      have HM3 : Hid (OfMem st w w3) := HM2.out.past hb3
      clear HM2 hb3 h2a h2b h2c
      have hz3 := stF_size s1.get
      go_wp2_with (refine wpList_store_mid rfl 319 _ _ rfl (w.heap.size + 1) 0 (stF s1.get) rfl rfl (there_of_row HM3.out.st 0 _ (by rw [hz3, hzs]; omega)) (by rw [hz3]; exact i131) (stF_one _) ?_; refine Hid.out ?_)
      have HM4 : Hid (OfMem s1 w (w3.setCells (w.heap.size + 1) 0 (stF s1.get).toList)) := HM3.out.state s1
      have HQ : Hid (s1 = blocks K t.data.toList (n + 1)) := by
        show s1 = Sha.mixed K (blocks K t.data.toList n) (byteAt (t.data.toList.drop (64 * n)))
        rw [HS1.out, HS.out, HR.out]
      clear HM HM3 HS1 HS
      generalize w3.setCells (w.heap.size + 1) 0 (stF s1.get).toList = w4 at *
      unfold Hid
      go_wp2
      have hx1 : (ρ.extract 64 ρ.size).data.toList = t.data.toList.drop (64 * (n + 1)) := by
        rw [← drop_more, ← HR.out]
        rw [Lib.extract_data, List.take_of_length_le (by rw [List.length_drop]; exact Nat.le_refl _)]
      have hx2 : (ρ.extract 64 ρ.size).size = ρ.size - 64 := by simp
      have hP := HP.out
      go_roundw
      case rel => exact ⟨n + 1, _, s1, by omega, rfl, hx1, HQ, HM4.out⟩
      case measure => simp [strLen]; omega
    · have hn64 : n = t.size / 64 := by omega
      have HN : Hid (n = t.size / 64) := hn64
      clear hρ hn64
      have g1 : ¬ (64 : Int) ≤ (ρ.size : Int) := by omega
      have hfit : IntKind.u64.wrap (t.size : Int) = (t.size : Int) := by rw [IntKind.wrap_u64]; omega
      go_wp2_with (refine wpList_load_row rfl 319 _ rfl (w.heap.size + 1) rfl 319 (stF st.get) (0, 0) _ (by exact HM.out.st) Tryz.underlying319 rfl (by rw [hzs]; exact i131) ?_)
      refine (mixEnd_any K st hsok.out ρ (by omega) t.size (by omega) _ (HM.out.keys RK.out) RL.out).mono ?_
      rintro e w3 ⟨s1, HS1, rfl, hb3⟩
      have HM3 : Hid (OfMem st w w3) := HM.out.past hb3
      clear HM hb3
      have hok1 : Hid (s1.Ok) := by
        show s1.Ok
        rw [HS1.out]; unfold codeEnd
        split <;> exact Sha.mixed_ok _ _ _
      go_wp2_with fail
      refine (stateBytes_any s1 hok1.out _).mono ?_
      rintro e w4 ⟨rfl, hb4⟩
      have HM4 : Hid (OfMem st w w4) := HM3.out.past hb4
      clear HM3 hb4
      have hy1 := outF_size s1.byte
      have hy2 := outF_size (fun _ => 0)
      have i67 : (Tryz.prog.info? 217).map (·.size) = some 32 := by kernel_rfl
      go_wp2_with (refine wpList_store_mid rfl 217 _ _ rfl w.heap.size 0 (outF s1.byte) rfl rfl (there_of_row HM4.out.res 0 _ (by rw [hy1, hy2]; omega)) (by rw [hy1]; exact i67) (outF_one _) ?_)
      refine bodyPost_ret (results_cell_row Tryz.results124 _ _ w.heap.size 217 (outF s1.byte) (0, 0) _ rfl (heapC_row _ _ _ _ _ HM4.out.res (by rw [hy1, hy2])) Tryz.underlying217 rfl (by rw [hy1]; exact i67)) rfl
        ⟨s1, ?_, rfl, belowC _ _ HM4.out.below (Nat.le_refl _)⟩
      show s1 = codeSum K t.data.toList
      unfold codeSum
      rw [HS1.out, HR.out, HS.out, HN.out, hsl]
end Go.Proofs.YthhbpebihgjpjaaGreatDoor

namespace Go.Proofs.YthhbpebihgjpjaaGreatDoor
set_option maxRecDepth 1000000

def primes64 : List Nat := [2, 3, 5, 7, 11, 13, 17, 19, 23, 29, 31, 37, 41, 43, 47, 53, 59, 61, 67, 71, 73, 79, 83, 89, 97, 101, 103, 107, 109, 113, 127, 131, 137, 139, 149, 151, 157, 163, 167, 173, 179, 181, 191, 193, 197, 199, 211, 223, 227, 229, 233, 239, 241, 251, 257, 263, 269, 271, 277, 281, 283, 293, 307, 311]
/-- SHA-256's words of the rounds. -/
def keys : List Nat := [1116352408, 1899447441, 3049323471, 3921009573, 961987163, 1508970993, 2453635748, 2870763221, 3624381080, 310598401, 607225278, 1426881987, 1925078388, 2162078206, 2614888103, 3248222580, 3835390401, 4022224774, 264347078, 604807628, 770255983, 1249150122, 1555081692, 1996064986, 2554220882, 2821834349, 2952996808, 3210313671, 3336571891, 3584528711, 113926993, 338241895, 666307205, 773529912, 1294757372, 1396182291, 1695183700, 1986661051, 2177026350, 2456956037, 2730485921, 2820302411, 3259730800, 3345764771, 3516065817, 3600352804, 4094571909, 275423344, 430227734, 506948616, 659060556, 883997877, 958139571, 1322822218, 1537002063, 1747873779, 1955562222, 2024104815, 2227730452, 2361852424, 2428436474, 2756734187, 3204031479, 3329325298]
/-- .. and those that it starts with. -/
def heads : List Nat := [1779033703, 3144134277, 1013904242, 2773480762, 1359893119, 2600822924, 528734635, 1541459225]
theorem roots3_0 : ((primes64.drop 0).take 8).map (fun p => rootM p 3) = ((keys.drop 0).take 8).map some := by decide +kernel
theorem roots3_1 : ((primes64.drop 8).take 8).map (fun p => rootM p 3) = ((keys.drop 8).take 8).map some := by decide +kernel
theorem roots3_2 : ((primes64.drop 16).take 8).map (fun p => rootM p 3) = ((keys.drop 16).take 8).map some := by decide +kernel
theorem roots3_3 : ((primes64.drop 24).take 8).map (fun p => rootM p 3) = ((keys.drop 24).take 8).map some := by decide +kernel
theorem roots3_4 : ((primes64.drop 32).take 8).map (fun p => rootM p 3) = ((keys.drop 32).take 8).map some := by decide +kernel
theorem roots3_5 : ((primes64.drop 40).take 8).map (fun p => rootM p 3) = ((keys.drop 40).take 8).map some := by decide +kernel
theorem roots3_6 : ((primes64.drop 48).take 8).map (fun p => rootM p 3) = ((keys.drop 48).take 8).map some := by decide +kernel
theorem roots3_7 : ((primes64.drop 56).take 8).map (fun p => rootM p 3) = ((keys.drop 56).take 8).map some := by decide +kernel
theorem roots3 (i : Nat) (hi : i < 64) : rootM (primes64.getD i 0) 3 = some (keys.getD i 0) := by
  have at8 : ∀ (l k : List Nat) (o j : Nat), ((l.drop o).take 8).map (fun p => rootM p 3) = ((k.drop o).take 8).map some → j < 8 → o + j < l.length → o + j < k.length → rootM (l.getD (o + j) 0) 3 = some (k.getD (o + j) 0) := by
    intro l k o j h hj hl hk
    have := congrArg (fun x => x[j]?) h
    simp only [List.getElem?_map, List.getElem?_take, if_pos hj, List.getElem?_drop, List.getElem?_eq_getElem hl, List.getElem?_eq_getElem hk, Option.map_some, Option.some.injEq] at this
    simpa [List.getD_eq_getElem?_getD, List.getElem?_eq_getElem hl, List.getElem?_eq_getElem hk] using this
  have hlp : primes64.length = 64 := rfl
  have hlk : keys.length = 64 := rfl
  have h8 : i = 8 * (i / 8) + i % 8 := by omega
  have hm : i % 8 < 8 := by omega
  rw [h8]
  match i / 8, (by omega : i / 8 < 8) with
  | 0, _ => exact at8 _ _ 0 _ roots3_0 hm (by omega) (by omega)
  | 1, _ => exact at8 _ _ 8 _ roots3_1 hm (by omega) (by omega)
  | 2, _ => exact at8 _ _ 16 _ roots3_2 hm (by omega) (by omega)
  | 3, _ => exact at8 _ _ 24 _ roots3_3 hm (by omega) (by omega)
  | 4, _ => exact at8 _ _ 32 _ roots3_4 hm (by omega) (by omega)
  | 5, _ => exact at8 _ _ 40 _ roots3_5 hm (by omega) (by omega)
  | 6, _ => exact at8 _ _ 48 _ roots3_6 hm (by omega) (by omega)
  | 7, _ => exact at8 _ _ 56 _ roots3_7 hm (by omega) (by omega)
  | n + 8, h => exact absurd h (by omega)
theorem roots2 : ((primes64.take 8).map fun p => rootM p 2) = heads.map some := by decide +kernel
theorem heads_H0 : heads = (List.range 8).map Sha.H0.get := by decide
end Go.Proofs.YthhbpebihgjpjaaGreatDoor

namespace Go.Proofs.YthhbpebihgjpjaaGreatDoor
open Go.RowKit
set_option maxRecDepth 1000000

theorem primes_64 : primesM 64 1000 2 [] = some primes64 := by decide +kernel
theorem primes64_lt (i : Nat) : primes64.getD i 0 < 1048576 := by
  by_cases h : i < 64
  · have : ∀ x ∈ primes64, x < 1048576 := by decide
    rw [List.getD_eq_getElem?_getD, List.getElem?_eq_getElem (by exact h)]
    exact this _ (List.getElem_mem _)
  · rw [List.getD_eq_getElem?_getD, List.getElem?_eq_none (by show 64 ≤ i; omega)]; decide
theorem take_next (l : List Nat) (i : Nat) (h : i < l.length) : l.take (i + 1) = l.take i ++ [l.getD i 0] := by
  rw [List.take_succ_eq_append_getElem h, List.getD_eq_getElem?_getD, List.getElem?_eq_getElem h]; rfl

theorem roots2_at (i : Nat) (hi : i < 8) : rootM (primes64.getD i 0) 2 = some (heads.getD i 0) := by
  have := congrArg (fun x => x[i]?) roots2
  have hl : i < primes64.length := by show i < 64; omega
  have hk : i < heads.length := hi
  simp only [List.getElem?_map, List.getElem?_take, if_pos hi, List.getElem?_eq_getElem hl, List.getElem?_eq_getElem hk, Option.map_some, Option.some.injEq] at this
  simpa [List.getD_eq_getElem?_getD, List.getElem?_eq_getElem hl, List.getElem?_eq_getElem hk] using this
theorem Own.mono {base base' : Nat} {v : Value} {l : List Nat} {w : World} (h : Own base v l w) (hb : base' ≤ base) : Own base' v l w := by
  obtain ⟨h1, ⟨rfl, h0⟩ | ⟨g, cap, cur, rfl, hg, r⟩⟩ := h.own
  · exact ⟨⟨h1, Or.inl ⟨rfl, h0⟩⟩⟩
  · exact ⟨⟨h1, Or.inr ⟨g, cap, cur, rfl, Nat.le_trans hb hg, r⟩⟩⟩

set_option maxHeartbeats 2000000 in
theorem constants_any (w : World) :
    Calls Tryz.prog 79 #[] w fun e w' => ∃ vk vh, e = .returned (.tuple #[vk, vh]) ∧ Own w.heap.size vk keys w' ∧ Own w.heap.size vh heads w' ∧ Below w.heap.size w w' := by
  go_enter Tryz.func79, Tryz.ntmps79
  go_wp2_with fail
  refine (primes_any 64 primes64 primes_64 (by omega) _).mono ?_
  rintro e w1 ⟨v, rfl, ho1, hb1⟩
  obtain ⟨g, cap, hv, hg, hcell⟩ := ho1.row (by decide)
  rw [show primes64.length = 64 from rfl] at hv
  subst hv
  have HC : Hid (∀ i, i < 64 → w1.cell? ⟨g, i, none⟩ = some (.int .i64 ((primes64.getD i 0 : Nat) : Int))) := hcell
  have HB1 : Hid (Below w.heap.size w w1) := hb1
  have hgl : g < w1.heap.size := block_lt_of_cell (hcell 0 (by decide))
  clear ho1 hb1 hcell
  have hinf : (Tryz.prog.info? 3).map (fun i => (i.size, i.bytes, i.zero)) = some (1, 8, some (.int .i64 0)) := by kernel_rfl
  obtain ⟨ti, hti, htj⟩ := Option.map_eq_some_iff.1 hinf
  simp only [Prod.mk.injEq] at htj
  have HTI : Hid (Tryz.prog.info? 3 = some ti ∧ ti.size = 1 ∧ ti.bytes = 8 ∧ ti.zero = some (.int .i64 0)) := ⟨hti, htj.1, htj.2.1, htj.2.2⟩
  clear hinf hti htj
  go_wp2
  go_loopw [3, 5] (fun v q wr => ∃ i : Nat, i ≤ 64 ∧ q = .int .i64 i ∧ Own w1.heap.size v (keys.take i) wr ∧ Below w1.heap.size w1 wr) (fun _ q _ => 64 - (intOf q).toNat)
  case atStart => exact ⟨0, by omega, rfl, ⟨⟨rfl, Or.inl ⟨rfl, rfl⟩⟩⟩, Below.refl _ _⟩
  case round =>
    obtain ⟨i, hi, rfl, hown, hbel⟩ := hrel
    obtain ⟨ao, cap2, hform⟩ := hown.form
    subst hform
    have HO : Hid (Own w1.heap.size (.slice ao (keys.take i).length cap2) (keys.take i) wr) := hown
    have HB : Hid (Below w1.heap.size w1 wr) := hbel
    have hlen : (keys.take i).length = i := by rw [List.length_take]; show min i 64 = i; omega
    clear hown hbel
    by_cases hlt : i < 64
    · have cx : wr.cell? ⟨g, i, none⟩ = some (.int .i64 ((primes64.getD i 0 : Nat) : Int)) := by
        rw [HB.out.cell (p := ⟨g, i, none⟩) (by show g < _; omega)]; exact HC.out i (by omega)
      obtain ⟨r, hr⟩ : ∃ r, r = keys.getD i 0 := ⟨_, rfl⟩
      have HR : Hid (rootM (primes64.getD i 0) 3 = some r) := by rw [hr]; exact roots3 i hlt
      have HX : Hid (primes64.getD i 0 < 1048576) := primes64_lt i
      have HT : Hid (keys.take (i + 1) = keys.take i ++ [r]) := by rw [hr]; exact take_next _ _ (by show i < 64; omega)
      clear hr
      generalize primes64.getD i 0 = x at *
      generalize keys.take i = l at *
      generalize hl2 : keys.take (i + 1) = l2 at *
      have HL2 : Hid (keys.take (i + 1) = l2) := hl2
      clear hl2
      have HL : Hid (l.length = i) := hlen
      clear hlen
      have i1 : (i : Int) < 64 := by omega
      have i2 : (i : Int) < 64 := by omega
      go_wp2_with fail
      refine (root3 x r HR.out HX.out _).mono ?_
      rintro e w2 ⟨rfl, hb2⟩
      have HO2 : Hid (Own w1.heap.size (.slice ao l.length cap2) l w2) := HO.out.later (fun k hk => hb2.block k hk)
      have HB2 : Hid (Below w1.heap.size w1 w2) := HB.out.trans (hb2.mono HB.out.size)
      clear hb2 HO HB cx
      go_wp2_with (refine wpList_append_own _ rfl (.tmp 19) (.tmp 21) 48 rfl w1.heap.size 3 ti (.int .i64 0) 1 8 Tryz.underlying48 HTI.out.1 HTI.out.2.2.2 HTI.out.2.1 HTI.out.2.2.1 rfl (by decide) _ l.length (vals l) rfl (by exact (HO2.out.later (fun k hk => heapA_old w2 _ k hk)).own) ⟨w2.heap.size, 0, none⟩ 1 1 [.int .i64 (r : Int)] rfl rfl (by exact cell_one_new w2 _ _) (by intro u hu; simp at hu; subst hu; rfl) (by have := HL.out; unfold maxLen; omega) (by have := HL.out; omega) (by have := HB2.out.size; simp; omega) ?_; intro v' w3 hv3 hg3 hn3; refine Hid.out ?_)
      have HO3 : Hid (Own w1.heap.size v' l2 w3) := by
        rw [HT.out]
        exact ⟨by rw [List.length_append, vals_append]; exact hv3⟩
      have HB3 : Hid (Below w1.heap.size w1 w3) := (HB2.out.alloc HB2.out.size _).grown hg3 (by have := HB2.out.size; simp; omega) (fun k hk => HO2.out.block k hk)
      clear hv3 hg3 hn3 HO2 HB2
      unfold Hid
      go_wp2
      go_roundw
      case rel =>
        first
          | exact ⟨i + 1, by omega, by go_num, by rw [HL2.out]; exact HO3.out, HB3.out⟩
          | ((repeat apply Exists.intro); exact ⟨⟨i + 1, by omega, by go_num, by rw [HL2.out]; exact HO3.out, HB3.out⟩, rfl⟩)
      case measure => simp [intOf]; omega
    · obtain rfl : i = 64 := by omega
      have HOk : Hid (Own w1.heap.size (.slice ao 64 cap2) keys wr) := HO.out
      have HBk : Hid (Below w1.heap.size w1 wr) := HB.out
      have hsl : (keys.take 64).length = 64 := rfl
      have HCk : Hid (∀ i, i < 64 → wr.cell? ⟨g, i, none⟩ = some (.int .i64 ((primes64.getD i 0 : Nat) : Int))) := fun i hi => by
        rw [HBk.out.cell (p := ⟨g, i, none⟩) (by show g < _; exact hgl)]; exact HC.out i hi
      have hgk : g < wr.heap.size := Nat.lt_of_lt_of_le hgl HBk.out.size
      rw [hsl]
      clear HO HB hlen hsl HC
      obtain ⟨wk, rfl⟩ : ∃ wk : World, wk = wr := ⟨_, rfl⟩
      go_wp2
      go_loopw [4, 7] (fun v q wr => ∃ i : Nat, i ≤ 8 ∧ q = .int .i64 i ∧ Own wk.heap.size v (heads.take i) wr ∧ Below wk.heap.size wk wr) (fun _ q _ => 8 - (intOf q).toNat)
      case atStart => exact ⟨0, by omega, rfl, ⟨⟨rfl, Or.inl ⟨rfl, rfl⟩⟩⟩, Below.refl _ _⟩
      case round =>
        obtain ⟨i, hi, rfl, hown, hbel⟩ := hrel
        obtain ⟨ao, cap2, hform⟩ := hown.form
        subst hform
        have HO : Hid (Own wk.heap.size (.slice ao (heads.take i).length cap2) (heads.take i) wr) := hown
        have HB : Hid (Below wk.heap.size wk wr) := hbel
        have hlen : (heads.take i).length = i := by rw [List.length_take]; show min i 8 = i; omega
        clear hown hbel
        by_cases hlt : i < 8
        · have cx : wr.cell? ⟨g, i, none⟩ = some (.int .i64 ((primes64.getD i 0 : Nat) : Int)) := by
            rw [HB.out.cell (p := ⟨g, i, none⟩) (by show g < _; exact hgk)]; exact HCk.out i (by omega)
          obtain ⟨r, hr⟩ : ∃ r, r = heads.getD i 0 := ⟨_, rfl⟩
          have HR : Hid (rootM (primes64.getD i 0) 2 = some r) := by rw [hr]; exact roots2_at i hlt
          have HX : Hid (primes64.getD i 0 < 1048576) := primes64_lt i
          have HT : Hid (heads.take (i + 1) = heads.take i ++ [r]) := by rw [hr]; exact take_next _ _ (by show i < 8; omega)
          clear hr
          generalize primes64.getD i 0 = x at *
          generalize heads.take i = l at *
          generalize hl2 : heads.take (i + 1) = l2 at *
          have HL2 : Hid (heads.take (i + 1) = l2) := hl2
          clear hl2
          have HL : Hid (l.length = i) := hlen
          clear hlen
          have i1 : (i : Int) < 8 := by omega
          have i2 : (i : Int) < 64 := by omega
          go_wp2_with fail
          refine (root2 x r HR.out HX.out _).mono ?_
          rintro e w2 ⟨rfl, hb2⟩
          have HO2 : Hid (Own wk.heap.size (.slice ao l.length cap2) l w2) := HO.out.later (fun k hk => hb2.block k hk)
          have HB2 : Hid (Below wk.heap.size wk w2) := HB.out.trans (hb2.mono HB.out.size)
          clear hb2 HO HB cx
          go_wp2_with (refine wpList_append_own _ rfl (.tmp 32) (.tmp 34) 48 rfl wk.heap.size 3 ti (.int .i64 0) 1 8 Tryz.underlying48 HTI.out.1 HTI.out.2.2.2 HTI.out.2.1 HTI.out.2.2.1 rfl (by decide) _ l.length (vals l) rfl (by exact (HO2.out.later (fun k hk => heapA_old w2 _ k hk)).own) ⟨w2.heap.size, 0, none⟩ 1 1 [.int .i64 (r : Int)] rfl rfl (by exact cell_one_new w2 _ _) (by intro u hu; simp at hu; subst hu; rfl) (by have := HL.out; unfold maxLen; omega) (by have := HL.out; omega) (by have := HB2.out.size; simp; omega) ?_; intro v' w3 hv3 hg3 hn3; refine Hid.out ?_)
          have HO3 : Hid (Own wk.heap.size v' l2 w3) := by
            rw [HT.out]
            exact ⟨by rw [List.length_append, vals_append]; exact hv3⟩
          have HB3 : Hid (Below wk.heap.size wk w3) := (HB2.out.alloc HB2.out.size _).grown hg3 (by have := HB2.out.size; simp; omega) (fun k hk => HO2.out.block k hk)
          clear hv3 hg3 hn3 HO2 HB2
          unfold Hid
          go_wp2
          go_roundw
          case rel =>
            first
              | exact ⟨i + 1, by omega, by go_num, by rw [HL2.out]; exact HO3.out, HB3.out⟩
              | ((repeat apply Exists.intro); exact ⟨⟨i + 1, by omega, by go_num, by rw [HL2.out]; exact HO3.out, HB3.out⟩, rfl⟩)
          case measure => simp [intOf]; omega
        · obtain rfl : i = 8 := by omega
          have HOh : Hid (Own wk.heap.size (.slice ao (heads.take 8).length cap2) heads wr) := HO.out
          have HBh : Hid (Below wk.heap.size wk wr) := HB.out
          clear HO HB hlen
          go_wp2
          go_ret2
          refine ⟨_, _, rfl, ?_, ?_, ?_⟩
          · exact (HOk.out.later (fun k hk => HBh.out.block k hk)).mono HB1.out.size
          · exact HOh.out.mono (Nat.le_trans HB1.out.size HBk.out.size)
          · exact HB1.out.trans ((HBk.out.trans (HBh.out.mono HBk.out.size)).mono HB1.out.size)
end Go.Proofs.YthhbpebihgjpjaaGreatDoor
