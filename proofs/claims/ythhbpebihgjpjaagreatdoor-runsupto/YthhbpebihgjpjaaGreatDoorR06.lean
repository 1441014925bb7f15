import Derived.Test.YthhbpebihgjpjaaGreatDoorR02
import Derived.Test.YthhbpebihgjpjaaGreatDoorR03
import Derived.Test.YthhbpebihgjpjaaGreatDoorR05
import Derived.Laws.AppendOwn
import Derived.BigRegion
import Derived.Deep.RegionHeld3
import Derived.BigQuiet
import Derived.Deep.QuietTactic
namespace Go.Proofs.YthhbpebihgjpjaaGreatDoor
open Go.RowKit
set_option maxRecDepth 1000000

/-- Sixty-four ints, as values. -/
def intsV (f : Nat → Nat) : Array Value := ((List.range 64).map fun i => Value.int .i64 (f i)).toArray
theorem intsV_size (f : Nat → Nat) : (intsV f).size = 64 := by simp [intsV]
theorem intsV_at (f : Nat → Nat) (i : Nat) (h : i < 64) : (intsV f)[i]? = some (.int .i64 (f i)) := by simp [intsV, h]
theorem intsV_set (f : Nat → Nat) (n v : Nat) : (intsV f).setIfInBounds n (.int .i64 v) = intsV (fun i => if i = n then v else f i) := by
  apply Array.ext
  · simp [intsV]
  · intro i h1 h2
    have h3 : i < 64 := by simpa [intsV] using h2
    rw [Array.getElem_setIfInBounds (by simpa [intsV] using h3)]
    by_cases e : n = i
    · subst e; simp [intsV]
    · have e' : ¬ i = n := fun h => e h.symm
      simp [intsV, e, e']
theorem run_make64 (w : World) : (Instr.makeSlice 48 (.int .i64 64) (.int .i64 64)).run Tryz.prog w = .ok (.slice (some ⟨w.heap.size, 0, none⟩) 64 64) (w.alloc (.cells (intsV fun _ => 0) 3)) := by kernel_rfl

/-- What lies in memory as the words are spread: a new row, all else as it was. -/
structure WMem (b : Nat → Nat) (w : World) (n : Nat) (wr : World) : Prop where
  words : wr.heap[w.heap.size]? = some (.cells (intsV (Sha.upTo b n)) 3 (0, 0))
  below : Below w.heap.size w wr
theorem WMem.start (b : Nat → Nat) (w : World) : WMem b w 0 (w.alloc (.cells (intsV fun _ => 0) 3)) :=
  ⟨heapA_new _ _ _ rfl, (Below.refl _ _).alloc (Nat.le_refl _) _⟩
theorem WMem.drew {b : Nat → Nat} {w : World} {n : Nat} {wr : World} (h : WMem b w n wr) : WMem b w n wr.drew := ⟨h.words, h.below.drew⟩
theorem WMem.step {b : Nat → Nat} {w : World} {n : Nat} {wr : World} (h : WMem b w n wr) (v : Int) (hv : v = ((Sha.word b n : Nat) : Int)) :
    WMem b w (n + 1) (wr.setCell ⟨w.heap.size, n, none⟩ (.int .i64 v)) where
  words := by
    subst hv
    rw [heap_setCell_same _ _ _ _ _ _ h.words, intsV_set]
    have e : (fun i => if i = n then Sha.word b n else Sha.upTo b n i) = Sha.upTo b (n + 1) := by
      funext i
      by_cases e : i = n
      · subst e; rw [if_pos rfl]; rfl
      · rw [if_neg e]; show _ = (if i = n then _ else Sha.upTo b n i); rw [if_neg e]
    rw [e]
  below := h.below.setCell (by simp) _

/-- Eight numbers at the head of a row. -/
def Row8 (g : Nat) (f : Nat → Nat) (w : World) : Prop := ∃ cur, w.heap[g]? = some (.cells cur 3 (0, 0)) ∧ ∀ j, j < 8 → cur[j]? = some (.int .i64 (f j : Nat))
theorem Row8.cell {g : Nat} {f : Nat → Nat} {w : World} (h : Row8 g f w) (j : Nat) (hj : j < 8) : w.cell? ⟨g, j, none⟩ = some (.int .i64 (f j : Nat)) := by
  obtain ⟨cur, h1, h2⟩ := h
  rw [cell_of_row _ _ _ _ _ _ h1]; exact h2 j hj
theorem Row8.free {g : Nat} {f : Nat → Nat} {w : World} (h : Row8 g f w) (j : Nat) : w.frozen? ⟨g, j, none⟩ = false := by
  obtain ⟨cur, h1, h2⟩ := h
  exact frozen_of_row _ _ _ _ _ h1
theorem Row8.congr {g : Nat} {f f' : Nat → Nat} {w : World} (h : Row8 g f w) (e : ∀ j, j < 8 → f j = f' j) : Row8 g f' w := by
  obtain ⟨cur, h1, h2⟩ := h
  exact ⟨cur, h1, fun j hj => by rw [← e j hj]; exact h2 j hj⟩
theorem Row8.later {g : Nat} {f : Nat → Nat} {w w' : World} (h : Row8 g f w) (e : w'.heap[g]? = w.heap[g]?) : Row8 g f w' := by
  obtain ⟨cur, h1, h2⟩ := h
  exact ⟨cur, by rw [e]; exact h1, h2⟩
theorem Row8.lt {g : Nat} {f : Nat → Nat} {w : World} (h : Row8 g f w) : g < w.heap.size := block_lt_of_cell (h.cell 0 (by omega))
theorem Row8.put {g : Nat} {f : Nat → Nat} {w : World} (h : Row8 g f w) (k v : Nat) (hk : k < 8) (u : Int) (hu : u = (v : Int)) :
    Row8 g (fun j => if j = k then v else f j) (w.setCell ⟨g, k, none⟩ (.int .i64 u)) := by
  subst hu
  obtain ⟨cur, h1, h2⟩ := h
  refine ⟨_, heap_setCell_same _ _ _ _ _ _ h1, fun j hj => ?_⟩
  have hk2 : k < cur.size := by
    rcases Nat.lt_or_ge k cur.size with c | c
    · exact c
    · have := h2 k hk; rw [Array.getElem?_eq_none c] at this; cases this
  rw [Array.getElem?_setIfInBounds]
  by_cases e : k = j
  · subst e; simp [hk2]
  · rw [if_neg e, h2 j hj]; show _ = some (Value.int .i64 ((if j = k then v else f j : Nat) : Int)); rw [if_neg (fun h => e h.symm)]
/-- What lies in memory as the rounds go: eight numbers in a row of their own. -/
structure VMem (W : Nat → Nat) (w : World) (g : Nat) (f : Nat → Nat) (wr : World) : Prop where
  row : Row8 g f wr
  words : wr.heap[w.heap.size]? = some (.cells (intsV W) 3 (0, 0))
  below : Below w.heap.size w wr
theorem VMem.drew {W : Nat → Nat} {w : World} {g : Nat} {f : Nat → Nat} {wr : World} (h : VMem W w g f wr) : VMem W w g f wr.drew := ⟨h.row, h.words, h.below.drew⟩
theorem VMem.drewN {W : Nat → Nat} {w : World} {g : Nat} {f : Nat → Nat} {wr : World} (h : VMem W w g f wr) (n : Nat) : VMem W w g f (wr.drewN n) := ⟨h.row, h.words, below_drewN h.below _⟩
theorem VMem.congr {W : Nat → Nat} {w : World} {g : Nat} {f f' : Nat → Nat} {wr : World} (h : VMem W w g f wr) (e : ∀ j, j < 8 → f j = f' j) : VMem W w g f' wr := ⟨h.row.congr e, h.words, h.below⟩
theorem VMem.put {W : Nat → Nat} {w : World} {g : Nat} {f : Nat → Nat} {wr : World} (h : VMem W w g f wr) (hg : w.heap.size < g) (k v : Nat) (hk : k < 8) (u : Int) (hu : u = (v : Int)) :
    VMem W w g (fun j => if j = k then v else f j) (wr.setCell ⟨g, k, none⟩ (.int .i64 u)) :=
  ⟨h.row.put k v hk u hu, by rw [heap_setCell_other _ _ _ _ (by simp; omega)]; exact h.words, h.below.setCell (by simp; omega) _⟩
/-- .. and as the sums are written. -/
structure HMem (s t : Sha.St) (w : World) (hb g m : Nat) (wr : World) : Prop where
  hrow : Row8 hb (fun j => if j < m then (s.get j + t.get j) % 4294967296 else s.get j) wr
  vrow : Row8 g t.get wr
  grown : w.grownBy wr (some hb)
theorem HMem.drew {s t : Sha.St} {w : World} {hb g m : Nat} {wr : World} (h : HMem s t w hb g m wr) : HMem s t w hb g m wr.drew := ⟨h.hrow, h.vrow, ⟨h.grown.os, h.grown.tape, h.grown.output, h.grown.size, h.grown.block⟩⟩
theorem HMem.put {s t : Sha.St} {w : World} {hb g m : Nat} {wr : World} (h : HMem s t w hb g m wr) (hg : hb ≠ g) (hm : m < 8) (u : Int) (hu : u = (((s.get m + t.get m) % 4294967296 : Nat) : Int)) :
    HMem s t w hb g (m + 1) (wr.setCell ⟨hb, m, none⟩ (.int .i64 u)) :=
  ⟨(h.hrow.put m _ hm u hu).congr (fun j hj => by
      by_cases e : j = m
      · subst e; rw [if_pos rfl, if_pos (by omega)]
      · rw [if_neg e]
        by_cases e2 : j < m
        · rw [if_pos e2, if_pos (by omega)]
        · rw [if_neg e2, if_neg (by omega)]),
   h.vrow.later (heap_setCell_other _ _ _ _ (by simp; omega)),
   ⟨h.grown.os, h.grown.tape, h.grown.output, by simpa [World.setCell] using h.grown.size, fun k hk hne => by rw [heap_setCell_other _ _ _ _ (by simp; intro e; exact hne (by rw [e]))]; exact h.grown.block k hk hne⟩⟩
theorem t1_i64 (a b c d e : Nat) (ha : a < 4294967296) (hb : b < 4294967296) (hc : c < 4294967296) (hd : d < 4294967296) (he : e < 4294967296) :
    wrap64 (wrap64 (wrap64 (wrap64 ((a : Int) + (b : Int)) + (c : Int)) + (d : Int)) + (e : Int)) = ((a + b + c + d + e : Nat) : Int) := by
  have f : ∀ x : Int, 0 ≤ x → x < 9223372036854775808 → wrap64 x = x := fun x h0 h1 => by unfold wrap64; omega
  rw [f (a + b) (by omega) (by omega), f (a + b + c) (by omega) (by omega), f (a + b + c + d) (by omega) (by omega), f (a + b + c + d + e) (by omega) (by omega)]
  omega
theorem u1_i64 (a b : Nat) (ha : a < 4294967296) (hb : b < 4294967296) : wrap64 ((a : Int) + (b : Int)) = ((a + b : Nat) : Int) := by
  have f : ∀ x : Int, 0 ≤ x → x < 9223372036854775808 → wrap64 x = x := fun x h0 h1 => by unfold wrap64; omega
  rw [f (a + b) (by omega) (by omega)]
  omega

theorem after_congr (K W W' : Nat → Nat) (s : Sha.St) : ∀ n, (∀ i, i < n → W i = W' i) → Sha.after K W s n = Sha.after K W' s n := by
  intro n
  induction n with
  | zero => intro _; rfl
  | succ n ih => intro h; rw [Sha.after, Sha.after, ih (fun i hi => h i (by omega)), h n (by omega)]
theorem round_e_nat (k w : Nat) (t : Sha.St) : (t.d + (t.h + Sha.S1 t.e + Sha.ch t.e t.f t.g + k + w)) % 4294967296 = (Sha.round k w t).e := by simp only [Sha.round]
theorem round_a_nat (k w : Nat) (t : Sha.St) : (t.h + Sha.S1 t.e + Sha.ch t.e t.f t.g + k + w + (Sha.S0 t.a + Sha.maj t.a t.b t.c)) % 4294967296 = (Sha.round k w t).a := by simp only [Sha.round]
theorem round_row (k w : Nat) (t : Sha.St) (j : Nat) (hj : j < 8) : (if j = 0 then (Sha.round k w t).a else if j = 4 then (Sha.round k w t).e else if 0 < j then t.get (j - 1) else t.get j) = (Sha.round k w t).get j := by
  match j, hj with
  | 0, _ => rw [if_pos rfl, Sha.St.get]
  | 1, _ => rw [if_neg (by decide), if_neg (by decide), if_pos (by decide)]; simp only [Sha.round, Sha.St.get]
  | 2, _ => rw [if_neg (by decide), if_neg (by decide), if_pos (by decide)]; simp only [Sha.round, Sha.St.get]
  | 3, _ => rw [if_neg (by decide), if_neg (by decide), if_pos (by decide)]; simp only [Sha.round, Sha.St.get]
  | 4, _ => rw [if_neg (by decide), if_pos rfl, Sha.St.get]
  | 5, _ => rw [if_neg (by decide), if_neg (by decide), if_pos (by decide)]; simp only [Sha.round, Sha.St.get]
  | 6, _ => rw [if_neg (by decide), if_neg (by decide), if_pos (by decide)]; simp only [Sha.round, Sha.St.get]
  | 7, _ => rw [if_neg (by decide), if_neg (by decide), if_pos (by decide)]; simp only [Sha.round, Sha.St.get]
  | n + 8, h => exact absurd h (by omega)

set_option maxHeartbeats 2000000 in
theorem block_any (K : Nat → Nat) (s : Sha.St) (hs : s.Ok) (b : Nat → Nat) (hb : ∀ i, b i < 256) (mb mo kb kc hb' hc pb po pc : Nat) (w : World)
    (hp : ∀ i, i < 64 → w.cell? ⟨pb, po + i, none⟩ = some (.int .u8 (b i))) (hpb : pb < w.heap.size)
    (hh : Row8 hb' s.get w)
    (hmk' : w.cell? ⟨mb, mo, none⟩ = some (.slice (some ⟨kb, 0, none⟩) 64 kc)) (hmb : mb < w.heap.size) (hk : ∀ i, i < 64 → w.cell? ⟨kb, i, none⟩ = some (.int .i64 (K i))) (hkb : kb < w.heap.size) (hKl : ∀ i, K i < 4294967296) :
    Calls Tryz.prog 129 #[.pointer (some ⟨mb, mo, none⟩), .slice (some ⟨hb', 0, none⟩) 8 hc, .slice (some ⟨pb, po, none⟩) 64 pc] w fun e w' => e = .returned (.tuple #[]) ∧ Row8 hb' (Sha.mixed K s b).get w' ∧ w.grownBy w' (some hb') := by
  have hmk := run_make64
  have HB : Hid (∀ i, b i < 256) := hb
  have HP : Hid (∀ i, i < 64 → w.cell? ⟨pb, po + i, none⟩ = some (.int .u8 (b i))) := hp
  have H0 : Hid (WMem b w 0 (w.alloc (.cells (intsV fun _ => 0) 3))) := WMem.start b w
  have HH : Hid (Row8 hb' s.get w) := hh
  have hhb : hb' < w.heap.size := hh.lt
  have HMK : Hid (w.cell? ⟨mb, mo, none⟩ = some (.slice (some ⟨kb, 0, none⟩) 64 kc)) := hmk'
  have HKK : Hid (∀ i, i < 64 → w.cell? ⟨kb, i, none⟩ = some (.int .i64 (K i))) := hk
  have HKL : Hid (∀ i, K i < 4294967296) := hKl
  have HSO : Hid (s.Ok) := hs
  clear hb hp hh hmk' hk hKl hs
  go_enter Tryz.func129, Tryz.ntmps129
  go_wp2
  clear hmk
  go_loopw [7] (fun i wr => ∃ n : Nat, n ≤ 16 ∧ i = .int .i64 n ∧ WMem b w n wr) (fun i _ => 16 - (intOf i).toNat)
  case atStart => exact ⟨0, by omega, rfl, H0.out⟩
  case round =>
    obtain ⟨n, hn, rfl, hm⟩ := hrel
    have HM : Hid (WMem b w n wr) := hm
    clear hm H0
    by_cases hlt : n < 16
    · have pc0 : ∀ i, i < 64 → wr.cell? ⟨pb, po + i, none⟩ = some (.int .u8 (b i)) := fun i hi => by rw [HM.out.below.cell (p := ⟨pb, po + i, none⟩) hpb]; exact HP.out i hi
      have c0 : wr.cell? ⟨pb, po + (4 * (n : Int)).toNat, none⟩ = some (.int .u8 (b (4 * n))) := by rw [show (4 * (n : Int)).toNat = 4 * n by omega]; exact pc0 _ (by omega)
      have c1 : wr.cell? ⟨pb, po + (4 * (n : Int) + 1).toNat, none⟩ = some (.int .u8 (b (4 * n + 1))) := by rw [show (4 * (n : Int) + 1).toNat = 4 * n + 1 by omega]; exact pc0 _ (by omega)
      have c2 : wr.cell? ⟨pb, po + (4 * (n : Int) + 2).toNat, none⟩ = some (.int .u8 (b (4 * n + 2))) := by rw [show (4 * (n : Int) + 2).toNat = 4 * n + 2 by omega]; exact pc0 _ (by omega)
      have c3 : wr.cell? ⟨pb, po + (4 * (n : Int) + 3).toNat, none⟩ = some (.int .u8 (b (4 * n + 3))) := by rw [show (4 * (n : Int) + 3).toNat = 4 * n + 3 by omega]; exact pc0 _ (by omega)
      clear pc0
      have cw : ∃ v, wr.cell? ⟨w.heap.size, n, none⟩ = some (.int .i64 v) := ⟨_, by rw [cell_of_row _ _ _ _ _ _ HM.out.words]; exact intsV_at _ _ (by omega)⟩
      obtain ⟨v, cw⟩ := cw
      have fw : wr.frozen? ⟨w.heap.size, n, none⟩ = false := frozen_of_row _ _ _ _ _ HM.out.words
      have hkeep : ∀ v o, (wr.setCell ⟨w.heap.size, n, none⟩ v).cell? ⟨pb, o, none⟩ = wr.cell? ⟨pb, o, none⟩ := fun v o => World.cell?_setCell_other _ _ _ _ (by intro h; injection h; omega)
      have i0 : (0 : Int) ≤ (n : Int) := by omega
      have i1 : (n : Int) < 16 := by omega
      have j0 : (0 : Int) ≤ 4 * (n : Int) := by omega
      have j1 : 4 * (n : Int) < 64 := by omega
      have j2 : (0 : Int) ≤ 4 * (n : Int) + 1 := by omega
      have j3 : 4 * (n : Int) + 1 < 64 := by omega
      have j4 : (0 : Int) ≤ 4 * (n : Int) + 2 := by omega
      have j5 : 4 * (n : Int) + 2 < 64 := by omega
      have j6 : (0 : Int) ≤ 4 * (n : Int) + 3 := by omega
      have j7 : 4 * (n : Int) + 3 < 64 := by omega
      have j8 : (n : Int) < 64 := by omega
      have k0 : IntKind.i64.wrap (4 * (n : Int)) = 4 * (n : Int) := by rw [IntKind.wrap_i64]; omega
      have k1 : IntKind.i64.wrap (4 * (n : Int) + 1) = 4 * (n : Int) + 1 := by rw [IntKind.wrap_i64]; omega
      have k2 : IntKind.i64.wrap (4 * (n : Int) + 2) = 4 * (n : Int) + 2 := by rw [IntKind.wrap_i64]; omega
      have k3 : IntKind.i64.wrap (4 * (n : Int) + 3) = 4 * (n : Int) + 3 := by rw [IntKind.wrap_i64]; omega
      go_wp2
      go_region_held3 (fun w' => w'.cell? ⟨pb, po + (4 * (n : Int)).toNat, none⟩ = some (.int .u8 (b (4 * n))) ∧ w'.cell? ⟨pb, po + (4 * (n : Int) + 1).toNat, none⟩ = some (.int .u8 (b (4 * n + 1))) ∧ w'.cell? ⟨pb, po + (4 * (n : Int) + 2).toNat, none⟩ = some (.int .u8 (b (4 * n + 2))) ∧ w'.cell? ⟨pb, po + (4 * (n : Int) + 3).toNat, none⟩ = some (.int .u8 (b (4 * n + 3)))) (simp [hkeep, c0, c1, c2, c3]) (fail)
      go_wp2
      go_roundw
      case rel => exact ⟨n + 1, by omega, by go_num, (HM.out.step _ (by rw [add4_i64 _ _ _ _ (HB.out _) (HB.out _) (HB.out _) (HB.out _), Sha.word_low b n hlt])).drew⟩
      case measure => simp [intOf]; omega
    · obtain rfl : n = 16 := by omega
      obtain ⟨wo, rfl⟩ : ∃ wo : World, wo = wr := ⟨_, rfl⟩
      go_wp2
      go_loopw [8] (fun i wr => ∃ m : Nat, 16 ≤ m ∧ m ≤ 64 ∧ i = .int .i64 m ∧ WMem b w m wr) (fun i _ => 64 - (intOf i).toNat)
      case atStart => exact ⟨16, by omega, by omega, rfl, HM.out⟩
      case round =>
        clear HM
        obtain ⟨m, hm16, hm, rfl, hmem⟩ := hrel
        have HM : Hid (WMem b w m wr) := hmem
        clear hmem
        by_cases hlt : m < 64
        · have row : ∀ j, j < m → wr.cell? ⟨w.heap.size, j, none⟩ = some (.int .i64 (Sha.word b j)) := fun j hj => by rw [cell_of_row _ _ _ _ _ _ HM.out.words, intsV_at _ _ (by omega), Sha.upTo_old b m j hj]
          have d15 : wr.cell? ⟨w.heap.size, m - 15, none⟩ = some (.int .i64 (Sha.word b (m - 15))) := row _ (by omega)
          have d2 : wr.cell? ⟨w.heap.size, m - 2, none⟩ = some (.int .i64 (Sha.word b (m - 2))) := row _ (by omega)
          have d16 : wr.cell? ⟨w.heap.size, ((m : Int) - 16).toNat, none⟩ = some (.int .i64 (Sha.word b (m - 16))) := by rw [show ((m : Int) - 16).toNat = m - 16 by omega]; exact row _ (by omega)
          have d7 : wr.cell? ⟨w.heap.size, ((m : Int) - 7).toNat, none⟩ = some (.int .i64 (Sha.word b (m - 7))) := by rw [show ((m : Int) - 7).toNat = m - 7 by omega]; exact row _ (by omega)
          have cw : ∃ v, wr.cell? ⟨w.heap.size, m, none⟩ = some (.int .i64 v) := ⟨_, by rw [cell_of_row _ _ _ _ _ _ HM.out.words]; exact intsV_at _ _ (by omega)⟩
          obtain ⟨v, cw⟩ := cw
          have fw : wr.frozen? ⟨w.heap.size, m, none⟩ = false := frozen_of_row _ _ _ _ _ HM.out.words
          clear row
          have hk16 : ∀ v, (wr.setCell ⟨w.heap.size, m, none⟩ v).cell? ⟨w.heap.size, ((m : Int) - 16).toNat, none⟩ = some (.int .i64 (Sha.word b (m - 16))) := fun v => by rw [World.cell?_setCell_other _ _ _ _ (by intro h; injection h; omega)]; exact d16
          have hk7 : ∀ v, (wr.setCell ⟨w.heap.size, m, none⟩ v).cell? ⟨w.heap.size, ((m : Int) - 7).toNat, none⟩ = some (.int .i64 (Sha.word b (m - 7))) := fun v => by rw [World.cell?_setCell_other _ _ _ _ (by intro h; injection h; omega)]; exact d7
          have HST : Hid (∀ v : Int, v = ((Sha.word b m : Nat) : Int) → WMem b w (m + 1) (wr.setCell ⟨w.heap.size, m, none⟩ (.int .i64 v)).drew) := fun v hv => (HM.out.step v hv).drew
          have i0 : (0 : Int) ≤ (m : Int) := by omega
          have i1 : (m : Int) < 64 := by omega
          have j4 : (0 : Int) ≤ (m : Int) - 16 := by omega
          have j5 : (m : Int) - 16 < 64 := by omega
          have j6 : (0 : Int) ≤ (m : Int) - 7 := by omega
          have j7 : (m : Int) - 7 < 64 := by omega
          have k2 : IntKind.i64.wrap ((m : Int) - 16) = (m : Int) - 16 := by rw [IntKind.wrap_i64]; omega
          have k3 : IntKind.i64.wrap ((m : Int) - 7) = (m : Int) - 7 := by rw [IntKind.wrap_i64]; omega
          have g16 : (16 : Int) ≤ (m : Int) := by omega
          have g7 : (7 : Int) ≤ (m : Int) := by omega
          have n7 : 7 ≤ m := by omega
          have l15 : Sha.word b (m - 15) < 4294967296 := Sha.word_lt b HB.out _
          have l2 : Sha.word b (m - 2) < 4294967296 := Sha.word_lt b HB.out _
          have l16 : Sha.word b (m - 16) < 4294967296 := Sha.word_lt b HB.out _
          have l7 : Sha.word b (m - 7) < 4294967296 := Sha.word_lt b HB.out _
          go_wp2_with fail
          refine (rturn7 _ _ l15).mono ?_
          rintro e w' ⟨rfl, rfl⟩
          go_wp2_with fail
          refine (rturn18 _ _ l15).mono ?_
          rintro e w' ⟨rfl, rfl⟩
          go_wp2_with fail
          refine (rturn17 _ _ l2).mono ?_
          rintro e w' ⟨rfl, rfl⟩
          go_wp2_with fail
          refine (rturn19 _ _ l2).mono ?_
          rintro e w' ⟨rfl, rfl⟩
          go_wp2_with fail
          go_region_held3 (fun w' => w'.cell? ⟨w.heap.size, ((m : Int) - 16).toNat, none⟩ = some (.int .i64 (Sha.word b (m - 16))) ∧ w'.cell? ⟨w.heap.size, ((m : Int) - 7).toNat, none⟩ = some (.int .i64 (Sha.word b (m - 7)))) (simp [hk16, hk7, d16, d7]) (fail)
          go_wp2
          go_roundw
          case rel =>
            (repeat apply Exists.intro)
            refine ⟨⟨m + 1, by omega, by omega, by go_num, HST.out _ ?hv⟩, rfl⟩
            rw [s0_i64 _ l15, s1_i64 _ l2, high_i64 _ _ _ _ l16 (Sha.s0_lt _ l15) l7 (Sha.s1_lt _ l2), ← Sha.word_high b m hm16]
          case measure => simp [intOf]; omega
        · obtain rfl : m = 64 := by omega
          obtain ⟨W, HW⟩ : ∃ W, Hid (W = Sha.upTo b 64) := ⟨_, rfl⟩
          have HWR : Hid (wr.heap[w.heap.size]? = some (.cells (intsV W) 3 (0, 0))) := by show _ = _; rw [HW.out]; exact HM.out.words
          have HWB : Hid (Below w.heap.size w wr) := HM.out.below
          have hsz : w.heap.size < wr.heap.size := block_lt_of_cell (a := ⟨w.heap.size, 0, none⟩) ((cell_of_row _ _ 0 _ _ _ HWR.out).trans (intsV_at W 0 (by omega)))
          clear HM
          have hinf : (Tryz.prog.info? 3).map (fun i => (i.size, i.bytes, i.zero)) = some (1, 8, some (.int .i64 0)) := by kernel_rfl
          obtain ⟨ti, hti, htj⟩ := Option.map_eq_some_iff.1 hinf
          simp only [Prod.mk.injEq] at htj
          have HTI : Hid (Tryz.prog.info? 3 = some ti ∧ ti.size = 1 ∧ ti.bytes = 8 ∧ ti.zero = some (.int .i64 0)) := ⟨hti, htj.1, htj.2.1, htj.2.2⟩
          clear hinf hti htj
          have HNW : Hid (∀ (o : Obj) (j : Nat) u, ((List.range 8).map fun i => Value.int .i64 (s.get i : Nat))[j]? = some u → (wr.alloc o).cell? ((⟨hb', 0, none⟩ : Addr).add j) = some u) := by
            intro o j u hu
            have hadd : (⟨hb', 0, none⟩ : Addr).add j = ⟨hb', j, none⟩ := by unfold Addr.add; split <;> simp_all
            by_cases hj : j < 8
            · rw [hadd, World.cell?_alloc_lt _ _ ⟨hb', j, none⟩ (by show hb' < _; omega), HWB.out.cell (p := ⟨hb', j, none⟩) hhb, HH.out.cell j hj]
              simpa [hj] using hu
            · rw [List.getElem?_eq_none (by simp; omega)] at hu; cases hu
          go_wp2_with (refine wpList_append_own _ rfl (.tmp 121) (.tmp 122) 48 rfl wr.heap.size 3 ti (.int .i64 0) 1 8 Tryz.underlying48 HTI.out.1 HTI.out.2.2.2 HTI.out.2.1 HTI.out.2.2.1 rfl (by decide) _ 0 [] rfl (by exact ⟨rfl, Or.inr ⟨wr.heap.size, 0, #[], rfl, Nat.le_refl _, heapA_new _ _ _ rfl, Nat.le_refl _, Nat.zero_le _, rfl, rfl⟩⟩) ⟨hb', 0, none⟩ 8 hc ((List.range 8).map fun i => Value.int .i64 (s.get i : Nat)) rfl (by simp) (by exact HNW.out _) (by intro u hu; obtain ⟨x, _, rfl⟩ := List.mem_map.1 hu; rfl) (by unfold maxLen; omega) (by omega) (by simp) ?_; intro v' w3 hv3 hg3 hn3; refine Hid.out ?_)
          obtain ⟨_, ⟨_, h0⟩ | ⟨g, cap, cur, hv, hg, hrow, _, _, _, htake⟩⟩ := hv3
          · omega
          have HV : Hid (∀ i, i < 8 → cur[i]? = some (.int .i64 (s.get i : Nat))) := by
            intro i hi
            have h1 : (cur.toList.take (0 + 8))[i]? = cur[i]? := by rw [List.getElem?_take, if_pos (by omega)]; simp
            rw [← h1, show 0 + 8 = (0 + 8) * 1 by rfl, htake]
            simp [hi]
          have HG : Hid (w3.heap[g]? = some (.cells cur 3 (0, 0))) := hrow
          have HWR3 : Hid (w3.heap[w.heap.size]? = some (.cells (intsV W) 3 (0, 0))) := by
            show _ = _
            rw [hg3.block w.heap.size (by simp; omega) (fun h => by have h := Option.some.inj h; simp at h; omega), heapA_old _ _ _ hsz]; exact HWR.out
          have HB3 : Hid (Below w.heap.size w w3) := (HWB.out.alloc (by omega) _).grown hg3 (by simp; omega) (fun k hk => by have h : wr.heap.size = k := Option.some.inj hk; omega)
          subst hv
          have hgw : w.heap.size < g := by omega
          have HV0 : Hid (VMem W w g s.get w3) := ⟨⟨cur, HG.out, HV.out⟩, HWR3.out, HB3.out⟩
          clear hrow htake hg3 hn3 HNW HWR HWB HV HG HWR3 HB3
          unfold Hid
          go_wp2
          go_loopw [16] (fun i wr => ∃ n : Nat, n ≤ 64 ∧ i = .int .i64 n ∧ ∃ t : Sha.St, Hid (t = Sha.after K W s n) ∧ VMem W w g t.get wr) (fun i _ => 64 - (intOf i).toNat)
          case atStart => exact ⟨0, by omega, rfl, s, rfl, HV0.out⟩
          case round =>
            clear HV0
            obtain ⟨n, hn, rfl, t, HT, hmem⟩ := hrel
            have HM : Hid (VMem W w g t.get wr) := hmem
            clear hmem
            have ht : t.Ok := by rw [HT.out]; exact Sha.after_ok K W s HSO.out n
            by_cases hlt : n < 64
            · have c0 : wr.cell? ⟨g, 0, none⟩ = some (.int .i64 t.a) := HM.out.row.cell 0 (by omega)
              have c1 : wr.cell? ⟨g, 1, none⟩ = some (.int .i64 t.b) := HM.out.row.cell 1 (by omega)
              have c2 : wr.cell? ⟨g, 2, none⟩ = some (.int .i64 t.c) := HM.out.row.cell 2 (by omega)
              have c4 : wr.cell? ⟨g, 4, none⟩ = some (.int .i64 t.e) := HM.out.row.cell 4 (by omega)
              have c5 : wr.cell? ⟨g, 5, none⟩ = some (.int .i64 t.f) := HM.out.row.cell 5 (by omega)
              have c6 : wr.cell? ⟨g, 6, none⟩ = some (.int .i64 t.g) := HM.out.row.cell 6 (by omega)
              have c7 : wr.cell? ⟨g, 7, none⟩ = some (.int .i64 t.h) := HM.out.row.cell 7 (by omega)
              have cm : wr.cell? ⟨mb, mo, none⟩ = some (.slice (some ⟨kb, 0, none⟩) 64 kc) := by rw [HM.out.below.cell (p := ⟨mb, mo, none⟩) hmb]; exact HMK.out
              have ck : wr.cell? ⟨kb, n, none⟩ = some (.int .i64 (K n)) := by rw [HM.out.below.cell (p := ⟨kb, n, none⟩) hkb]; exact HKK.out n hlt
              have cw : wr.cell? ⟨w.heap.size, n, none⟩ = some (.int .i64 (W n)) := by rw [cell_of_row _ _ _ _ _ _ HM.out.words]; exact intsV_at _ _ hlt
              have kl : K n < 4294967296 := HKL.out n
              have wl : W n < 4294967296 := by rw [HW.out, Sha.upTo_old b 64 n hlt]; exact Sha.word_lt b HB.out n
              have i0 : (0 : Int) ≤ (n : Int) := by omega
              have i1 : (n : Int) < 64 := by omega
              have la := ht.a
              have le := ht.e
              go_wp2_with fail
              refine (rturn6 _ _ le).mono ?_
              rintro e w' ⟨rfl, rfl⟩
              go_wp2_with fail
              refine (rturn11 _ _ le).mono ?_
              rintro e w' ⟨rfl, rfl⟩
              go_wp2_with fail
              refine (rturn25 _ _ le).mono ?_
              rintro e w' ⟨rfl, rfl⟩
              go_wp2_with fail
              refine (rturn2 _ _ la).mono ?_
              rintro e w' ⟨rfl, rfl⟩
              go_wp2_with fail
              refine (rturn13 _ _ la).mono ?_
              rintro e w' ⟨rfl, rfl⟩
              go_wp2_with fail
              refine (rturn22 _ _ la).mono ?_
              rintro e w' ⟨rfl, rfl⟩
              go_wp2
              go_quiet (fail)
              obtain ⟨q1, rfl⟩ : ∃ q1, q1 = nq := ⟨_, rfl⟩
              go_wp2
              go_quiet (fail)
              go_wp2
              rw [S1_i64 _ ht.e, S0_i64 _ ht.a, ch_i64 _ _ _ ht.e ht.f ht.g, maj_i64 _ _ _ ht.a ht.b ht.c, t1_i64 _ _ _ _ _ ht.h (Sha.S1_lt _ ht.e) (Sha.ch_lt _ _ _ ht.e) kl wl, u1_i64 _ _ (Sha.S0_lt _ ht.a) (Sha.maj_lt _ _ _ ht.a ht.b)]
              have T1l : t.h + Sha.S1 t.e + Sha.ch t.e t.f t.g + K n + W n < 21474836480 := by
                have := ht.h; have := Sha.S1_lt _ ht.e; have := Sha.ch_lt t.e t.f t.g ht.e; omega
              have U1l : Sha.S0 t.a + Sha.maj t.a t.b t.c < 8589934592 := by
                have := Sha.S0_lt _ ht.a; have := Sha.maj_lt t.a t.b t.c ht.a ht.b; omega
              obtain ⟨T1, hT1⟩ : ∃ T1, T1 = t.h + Sha.S1 t.e + Sha.ch t.e t.f t.g + K n + W n := ⟨_, rfl⟩
              obtain ⟨U1, hU1⟩ : ∃ U1, U1 = Sha.S0 t.a + Sha.maj t.a t.b t.c := ⟨_, rfl⟩
              rw [← hT1] at T1l ⊢
              rw [← hU1] at U1l ⊢
              have HT1 : Hid (T1 = t.h + Sha.S1 t.e + Sha.ch t.e t.f t.g + K n + W n) := hT1
              have HU1 : Hid (U1 = Sha.S0 t.a + Sha.maj t.a t.b t.c) := hU1
              have T1i : (T1 : Int) < 21474836480 := by omega
              have U1i : (U1 : Int) < 8589934592 := by omega
              have HM2 : Hid (VMem W w g t.get ((w'.drewN q1).drewN nq)) := (HM.out.drewN _).drewN _
              clear hT1 hU1 HM c0 c1 c2 c4 c5 c6 c7 cm ck cw
              generalize (w'.drewN q1).drewN nq = w4 at *
              clear w' q1 nq
              go_loopw [27] (fun i wr => ∃ k : Nat, k ≤ 7 ∧ i = .int .i64 k ∧ VMem W w g (fun j => if k < j then t.get (j - 1) else t.get j) wr) (fun i _ => (intOf i).toNat)
              case atStart => exact ⟨7, by omega, rfl, HM2.out.congr (fun j hj => by rw [if_neg (by omega)])⟩
              case round =>
                clear HM2
                obtain ⟨k, hk, rfl, hmem⟩ := hrel
                have HM : Hid (VMem W w g (fun j => if k < j then t.get (j - 1) else t.get j) wr) := hmem
                clear hmem
                by_cases hk0 : 0 < k
                · obtain ⟨k, rfl⟩ : ∃ k', k = k' + 1 := ⟨k - 1, by omega⟩
                  have cx : wr.cell? ⟨g, k, none⟩ = some (.int .i64 (t.get k)) := by rw [HM.out.row.cell k (by omega), if_neg (by omega)]
                  have cy : wr.cell? ⟨g, k + 1, none⟩ = some (.int .i64 (t.get (k + 1))) := by rw [HM.out.row.cell (k + 1) (by omega), if_neg (by omega)]
                  have fy : wr.frozen? ⟨g, k + 1, none⟩ = false := HM.out.row.free _
                  have i1 : (k : Int) + 1 < 8 := by omega
                  have i2 : (k : Int) < 8 := by omega
                  have HP2 : Hid (VMem W w g (fun j => if k < j then t.get (j - 1) else t.get j) (wr.setCell ⟨g, k + 1, none⟩ (.int .i64 (t.get k)))) :=
                    (HM.out.put hgw (k + 1) (t.get k) (by omega) _ rfl).congr (fun j hj => by
                      by_cases e : j = k + 1
                      · subst e; rw [if_pos rfl, if_pos (by omega)]; rfl
                      · rw [if_neg e]
                        by_cases e2 : k + 1 < j
                        · rw [if_pos e2, if_pos (by omega)]
                        · rw [if_neg e2, if_neg (by omega)])
                  go_wp2
                  go_roundw
                  case rel =>
                    first
                      | exact ⟨k, by omega, by go_num, HP2.out⟩
                      | exact ⟨k, by omega, by go_num, HP2.out.drew⟩
                      | ((repeat apply Exists.intro); exact ⟨⟨k, by omega, by go_num, HP2.out⟩, rfl⟩)
                      | ((repeat apply Exists.intro); exact ⟨⟨k, by omega, by go_num, HP2.out.drew⟩, rfl⟩)
                  case measure => simp [intOf] <;> omega
                · obtain rfl : k = 0 := by omega
                  have c4 : wr.cell? ⟨g, 4, none⟩ = some (.int .i64 t.d) := by rw [HM.out.row.cell 4 (by omega), if_pos (by omega)]; rfl
                  have c0 : wr.cell? ⟨g, 0, none⟩ = some (.int .i64 t.a) := by rw [HM.out.row.cell 0 (by omega), if_neg (by omega)]; rfl
                  have f4 : wr.frozen? ⟨g, 4, none⟩ = false := HM.out.row.free _
                  have f0 : wr.frozen? ⟨g, 0, none⟩ = false := HM.out.row.free _
                  have ld : (t.d : Int) < 4294967296 := by have := ht.d; omega
                  have HRN : Hid (∀ x y : Int, x = (((Sha.round (K n) (W n) t).e : Nat) : Int) → y = (((Sha.round (K n) (W n) t).a : Nat) : Int) → VMem W w g (Sha.round (K n) (W n) t).get ((wr.setCell ⟨g, 4, none⟩ (.int .i64 x)).setCell ⟨g, 0, none⟩ (.int .i64 y))) := fun x y hx hy =>
                    ((HM.out.put hgw 4 _ (by omega) x hx).put hgw 0 _ (by omega) y hy).congr (round_row _ _ _)
                  have HE : Hid (((t.d + T1) % 4294967296 : Nat) = (Sha.round (K n) (W n) t).e) := by show _ = _; rw [HT1.out]; exact round_e_nat _ _ _
                  have HA : Hid (((T1 + U1) % 4294967296 : Nat) = (Sha.round (K n) (W n) t).a) := by show _ = _; rw [HT1.out, HU1.out]; exact round_a_nat _ _ _
                  have HTN : Hid (Sha.round (K n) (W n) t = Sha.after K W s (n + 1)) := by show _ = _; rw [HT.out, Sha.after]
                  generalize Sha.round (K n) (W n) t = t2 at *
                  go_wp2
                  go_roundw
                  case rel =>
                    (repeat apply Exists.intro)
                    exact ⟨⟨n + 1, by omega, by go_num, t2, HTN, HRN.out _ _ (by rw [← HE.out]; omega) (by rw [← HA.out]; omega)⟩, rfl⟩
                  case measure => simp [intOf]; omega
            · obtain rfl : n = 64 := by omega
              clear HMK HKK HKL
              have hne : hb' ≠ g := by omega
              have H50 : Hid (HMem s t w hb' g 0 wr) := ⟨(HH.out.later (HM.out.below.block _ hhb)).congr (fun j hj => by rw [if_neg (by omega)]), HM.out.row, ⟨HM.out.below.os, HM.out.below.tape, HM.out.below.output, HM.out.below.size, fun k hk _ => HM.out.below.block k hk⟩⟩
              have HTOK : Hid (t.Ok) := ht
              clear ht HM
              obtain ⟨wo, rfl⟩ : ∃ wo : World, wo = wr := ⟨_, rfl⟩
              go_wp2
              go_loopw [28] (fun i wr => ∃ m : Nat, m ≤ 8 ∧ i = .int .i64 m ∧ HMem s t w hb' g m wr) (fun i _ => 8 - (intOf i).toNat)
              case atStart => exact ⟨0, by omega, rfl, H50.out⟩
              case round =>
                clear H50
                obtain ⟨m, hm8, rfl, hmem⟩ := hrel
                have HM : Hid (HMem s t w hb' g m wr) := hmem
                clear hmem
                by_cases hlt : m < 8
                · have ch : wr.cell? ⟨hb', m, none⟩ = some (.int .i64 (s.get m)) := by rw [HM.out.hrow.cell m hlt, if_neg (by omega)]
                  have cv : wr.cell? ⟨g, m, none⟩ = some (.int .i64 (t.get m)) := HM.out.vrow.cell m hlt
                  have fh : wr.frozen? ⟨hb', m, none⟩ = false := HM.out.hrow.free _
                  have i0 : (0 : Int) ≤ (m : Int) := by omega
                  have i1 : (m : Int) < 8 := by omega
                  have HPN : Hid (∀ u : Int, u = (((s.get m + t.get m) % 4294967296 : Nat) : Int) → HMem s t w hb' g (m + 1) (wr.setCell ⟨hb', m, none⟩ (.int .i64 u)).drew) := fun u hu => (HM.out.put hne hlt u hu).drew
                  have l1 : s.get m < 4294967296 := s.get_lt HSO.out m
                  have l2 : t.get m < 4294967296 := t.get_lt HTOK.out m
                  generalize s.get m = x at *
                  generalize t.get m = y at *
                  have x1 : (x : Int) < 4294967296 := by omega
                  have y1 : (y : Int) < 4294967296 := by omega
                  have kx : IntKind.i64.wrap ((x : Int) + (y : Int)) = (x : Int) + (y : Int) := by rw [IntKind.wrap_i64]; omega
                  go_wp2
                  go_region
                  go_wp2
                  go_roundw
                  case rel =>
                    refine ⟨m + 1, by omega, by go_num, HPN.out _ ?hv5⟩
                    omega
                  case measure => simp [intOf]; omega
                · obtain rfl : m = 8 := by omega
                  have HRR : Hid (Row8 hb' (Sha.mixed K s b).get wr) := HM.out.hrow.congr (fun j hj => by
                    rw [if_pos hj]
                    unfold Sha.mixed
                    rw [join_get _ _ _ hj, HT.out, after_congr K W (Sha.word b) s 64 (fun i hi => by rw [HW.out, Sha.upTo_old b 64 i hi])])
                  have HGR : Hid (w.grownBy wr (some hb')) := HM.out.grown
                  go_wp2
                  go_end0
                  exact ⟨rfl, HRR.out, HGR.out⟩
end Go.Proofs.YthhbpebihgjpjaaGreatDoor
