import Derived.Test.YthhbpebihgjpjaaGreatDoorJ42
import Derived.Test.YthhbpebihgjpjaaGreatDoorJ37
import Derived.Lib.BufferWrite
import Derived.Laws.CopyOwn
namespace Go.Proofs.YthhbpebihgjpjaaGreatDoor
open Go.RowKit
set_option maxRecDepth 1000000

theorem newMaker_any (w : World) :
    Calls Tryz.prog 55 #[] w fun e w' => ∃ m vk vh, e = .returned (.pointer (some ⟨m, 0, none⟩)) ∧ w.heap.size ≤ m ∧ w'.heap[m]? = some (.cells #[vk, vh] 156 (0, 0)) ∧ Own w.heap.size vk keys w' ∧ Own w.heap.size vh heads w' ∧ Below w.heap.size w w' := by
  go_enter Tryz.func55, Tryz.ntmps55
  go_wp2_with fail
  refine (constants_any _).mono ?_
  rintro e w1 ⟨vk, vh, rfl, hk, hh, hb⟩
  have HK : Hid (Own w.heap.size vk keys w1) := hk
  have HH : Hid (Own w.heap.size vh heads w1) := hh
  have HB : Hid (Below w.heap.size w w1) := hb
  obtain ⟨a1, c1, e1⟩ := hk.form
  obtain ⟨a2, c2, e2⟩ := hh.form
  clear hk hh hb
  subst e1 e2
  go_wp2
  go_ret
  exact ⟨w1.heap.size, _, _, rfl, HB.out.size, heapA_new _ _ _ rfl, HK.out.later (fun k hk => heapA_old w1 _ k hk), HH.out.later (fun k hk => heapA_old w1 _ k hk), HB.out.alloc HB.out.size _⟩
end Go.Proofs.YthhbpebihgjpjaaGreatDoor

namespace Go.Proofs.YthhbpebihgjpjaaGreatDoor
open Go.RowKit
set_option maxRecDepth 1000000

/-- Thirty-two bytes, as values. -/
def outF (f : Nat → Nat) : Array Value := ((List.range 32).map fun i => Value.int .u8 (f i)).toArray
theorem outF_size (f : Nat → Nat) : (outF f).size = 32 := by simp [outF]
theorem outF_at (f : Nat → Nat) (i : Nat) (h : i < 32) : (outF f)[i]? = some (.int .u8 (f i)) := by simp [outF, h]
theorem outF_set (f : Nat → Nat) (n v : Nat) : (outF f).setIfInBounds n (.int .u8 v) = outF (fun i => if i = n then v else f i) := by
  apply Array.ext
  · simp [outF]
  · intro i h1 h2
    have h3 : i < 32 := by simpa [outF] using h2
    rw [Array.getElem_setIfInBounds (by simpa [outF] using h3)]
    by_cases e : n = i
    · subst e; simp [outF]
    · have e' : ¬ i = n := fun h => e h.symm
      simp [outF, e, e']
theorem outF_one (f : Nat → Nat) : (outF f).all (·.oneCell') = true := by simp [outF, Value.oneCell']
theorem outF_congr (f g : Nat → Nat) (h : ∀ i, i < 32 → f i = g i) : outF f = outF g := by
  unfold outF
  congr 1
  apply List.map_congr_left
  intro i hi
  rw [h i (List.mem_range.1 hi)]
theorem outF_zero : outF (fun _ => 0) = #[.int .u8 0, .int .u8 0, .int .u8 0, .int .u8 0, .int .u8 0, .int .u8 0, .int .u8 0, .int .u8 0, .int .u8 0, .int .u8 0, .int .u8 0, .int .u8 0, .int .u8 0, .int .u8 0, .int .u8 0, .int .u8 0, .int .u8 0, .int .u8 0, .int .u8 0, .int .u8 0, .int .u8 0, .int .u8 0, .int .u8 0, .int .u8 0, .int .u8 0, .int .u8 0, .int .u8 0, .int .u8 0, .int .u8 0, .int .u8 0, .int .u8 0, .int .u8 0] := rfl

/-- A state's bytes, the high byte of each word first. -/
def Sha.St.byte (s : Sha.St) (j : Nat) : Nat := s.get (j / 4) / 2 ^ (24 - 8 * (j % 4)) % 256

structure OutMem (s : Sha.St) (w : World) (m : Nat) (wr : World) : Prop where
  out : ∃ f, wr.heap[w.heap.size + 1 + 1]? = some (.cells (outF f) 217 (0, 0)) ∧ ∀ j, j < 4 * m → f j = s.byte j
  res : wr.heap[w.heap.size + 1]? = some (.cells (outF fun _ => 0) 217 (0, 0))
  below : Below w.heap.size w wr
theorem OutMem.step {s : Sha.St} {w : World} {m : Nat} {wr : World} (h : OutMem s w m wr) (v0 v1 v2 v3 : Int)
    (h0 : v0 = ((s.get m / 16777216 % 256 : Nat) : Int)) (h1 : v1 = ((s.get m / 65536 % 256 : Nat) : Int)) (h2 : v2 = ((s.get m / 256 % 256 : Nat) : Int)) (h3 : v3 = ((s.get m % 256 : Nat) : Int))
    (o0 o1 o2 o3 : Nat) (e0 : o0 = 4 * m) (e1 : o1 = 4 * m + 1) (e2 : o2 = 4 * m + 2) (e3 : o3 = 4 * m + 3) :
    OutMem s w (m + 1) ((((wr.setCell ⟨w.heap.size + 1 + 1, o0, none⟩ (.int .u8 v0)).setCell ⟨w.heap.size + 1 + 1, o1, none⟩ (.int .u8 v1)).setCell ⟨w.heap.size + 1 + 1, o2, none⟩ (.int .u8 v2)).setCell ⟨w.heap.size + 1 + 1, o3, none⟩ (.int .u8 v3)) where
  out := by
    obtain ⟨f, hf, hj⟩ := h.out
    subst h0 h1 h2 h3 e0 e1 e2 e3
    have g0 := heap_setCell_same _ _ (4 * m) _ _ (.int .u8 ((s.get m / 16777216 % 256 : Nat) : Int)) hf
    rw [outF_set] at g0
    have g1 := heap_setCell_same _ _ (4 * m + 1) _ _ (.int .u8 ((s.get m / 65536 % 256 : Nat) : Int)) g0
    rw [outF_set] at g1
    have g2 := heap_setCell_same _ _ (4 * m + 2) _ _ (.int .u8 ((s.get m / 256 % 256 : Nat) : Int)) g1
    rw [outF_set] at g2
    have g3 := heap_setCell_same _ _ (4 * m + 3) _ _ (.int .u8 ((s.get m % 256 : Nat) : Int)) g2
    rw [outF_set] at g3
    refine ⟨_, g3, fun j hlt => ?_⟩
    unfold Sha.St.byte
    by_cases c3 : j = 4 * m + 3
    · subst c3
      rw [if_pos rfl, show (4 * m + 3) / 4 = m by omega, show (4 * m + 3) % 4 = 3 by omega]; try simp
    · rw [if_neg c3]
      by_cases c2 : j = 4 * m + 2
      · subst c2
        rw [if_pos rfl, show (4 * m + 2) / 4 = m by omega, show (4 * m + 2) % 4 = 2 by omega]
      · rw [if_neg c2]
        by_cases c1 : j = 4 * m + 1
        · subst c1
          rw [if_pos rfl, show (4 * m + 1) / 4 = m by omega, show (4 * m + 1) % 4 = 1 by omega]
        · rw [if_neg c1]
          by_cases c0 : j = 4 * m
          · subst c0
            rw [if_pos rfl, show (4 * m) / 4 = m by omega, show (4 * m) % 4 = 0 by omega]
          · rw [if_neg c0, hj j (by omega)]; rfl
  res := by
    rw [heap_setCell_other _ _ _ _ (by simp), heap_setCell_other _ _ _ _ (by simp), heap_setCell_other _ _ _ _ (by simp), heap_setCell_other _ _ _ _ (by simp)]; exact h.res
  below := (((h.below.setCell (by simp; omega) _).setCell (by simp; omega) _).setCell (by simp; omega) _).setCell (by simp; omega) _

set_option maxHeartbeats 2000000 in
theorem stateBytes_any (s : Sha.St) (hs : s.Ok) (w : World) :
    Calls Tryz.prog 205 #[.agg (stF s.get)] w fun e w' => e = .returned (.agg (outF s.byte)) ∧ Below w.heap.size w w' := by
  have hz1 := stF_size s.get
  have i131 : (Tryz.prog.info? 319).map (·.size) = some 8 := by kernel_rfl
  have RS : Hid (s.Ok) := hs
  clear hs
  have hr1 : ((w.alloc (.cells (stF s.get) 319)).alloc (.cells (outF fun _ => 0) 217)).heap[w.heap.size]? = some (.cells (stF s.get) 319 (0, 0)) := by rw [heapA_old _ _ _ (by simp)]; exact heapA_new _ _ _ rfl
  have M0 : Hid (OutMem s w 0 (((w.alloc (.cells (stF s.get) 319)).alloc (.cells (outF fun _ => 0) 217)).alloc (.cells (outF fun _ => 0) 217))) :=
    ⟨⟨_, heapA_new _ _ _ (by simp), fun j h => by omega⟩, by rw [heapA_old _ _ _ (by simp)]; exact heapA_new _ _ _ (by simp), (((Below.refl _ _).alloc (Nat.le_refl _) _).alloc (by simp) _).alloc (by simp; omega) _⟩
  have HR : Hid ((((w.alloc (.cells (stF s.get) 319)).alloc (.cells (outF fun _ => 0) 217)).alloc (.cells (outF fun _ => 0) 217)).heap[w.heap.size]? = some (.cells (stF s.get) 319 (0, 0))) := by
    show _ = _; rw [heapA_old _ _ _ (by simp; omega)]; exact hr1
  clear hr1
  go_enter Tryz.func205, Tryz.ntmps205
  go_wp2_with (refine wpList_load_row rfl 319 _ rfl w.heap.size rfl 319 (stF s.get) (0, 0) _ (by exact HR.out) Tryz.underlying319 rfl (by rw [hz1]; exact i131) ?_)
  rw [← outF_zero]
  go_loopw [7] (fun i wr => ∃ m : Nat, m ≤ 8 ∧ i = .int .i64 m ∧ OutMem s w m wr) (fun i _ => 8 - (intOf i).toNat)
  case atStart => exact ⟨0, by omega, rfl, M0.out⟩
  case round =>
    clear M0 HR
    obtain ⟨m, hm, rfl, hmem⟩ := hrel
    have HM : Hid (OutMem s w m wr) := hmem
    clear hmem
    by_cases hlt : m < 8
    · obtain ⟨f, hf, hj⟩ := HM.out.out
      have hidx : ∀ wx, (Instr.index 319 (.agg (stF s.get)) (.int .i64 m)).run Tryz.prog wx = .ok (.int .u32 (s.get m)) wx := by
        intro wx
        simp [Instr.index, go_sem, stF_at s.get m hlt]
        omega
      have c0 : ∃ v, wr.cell? ⟨w.heap.size + 1 + 1, 4 * m, none⟩ = some v := ⟨_, by rw [cell_of_row _ _ _ _ _ _ hf]; exact outF_at _ _ (by omega)⟩
      have c1 : ∃ v, wr.cell? ⟨w.heap.size + 1 + 1, 4 * m + 1, none⟩ = some v := ⟨_, by rw [cell_of_row _ _ _ _ _ _ hf]; exact outF_at _ _ (by omega)⟩
      have c2 : ∃ v, wr.cell? ⟨w.heap.size + 1 + 1, 4 * m + 2, none⟩ = some v := ⟨_, by rw [cell_of_row _ _ _ _ _ _ hf]; exact outF_at _ _ (by omega)⟩
      have c3 : ∃ v, wr.cell? ⟨w.heap.size + 1 + 1, 4 * m + 3, none⟩ = some v := ⟨_, by rw [cell_of_row _ _ _ _ _ _ hf]; exact outF_at _ _ (by omega)⟩
      obtain ⟨v0, c0⟩ := c0
      obtain ⟨v1, c1⟩ := c1
      obtain ⟨v2, c2⟩ := c2
      obtain ⟨v3, c3⟩ := c3
      have fz : ∀ o, wr.frozen? ⟨w.heap.size + 1 + 1, o, none⟩ = false := fun o => frozen_of_row _ _ _ _ _ hf
      clear hf hj
      have i0 : (0 : Int) ≤ (m : Int) := by omega
      have i1 : (m : Int) < 8 := by omega
      go_wp2
      go_roundw
      case rel =>
        first
          | exact ⟨m + 1, by omega, by go_num, HM.out.step _ _ _ _ (by omega) (by omega) (by omega) (by omega) _ _ _ _ rfl rfl rfl rfl⟩
          | ((repeat apply Exists.intro); exact ⟨⟨m + 1, by omega, by go_num, HM.out.step _ _ _ _ (by omega) (by omega) (by omega) (by omega) _ _ _ _ rfl rfl rfl rfl⟩, rfl⟩)
      case measure => simp [intOf]; omega
    · obtain rfl : m = 8 := by omega
      obtain ⟨f, hf, hj⟩ := HM.out.out
      have HF : Hid (wr.heap[w.heap.size + 1 + 1]? = some (.cells (outF f) 217 (0, 0))) := hf
      have HJ : Hid (∀ j, j < 4 * 8 → f j = s.byte j) := hj
      clear hf hj
      have hy1 := outF_size f
      have hy2 := outF_size (fun _ => 0)
      have i67 : (Tryz.prog.info? 217).map (·.size) = some 32 := by kernel_rfl
      go_wp2_with (first
        | (refine wpList_load_row rfl 217 _ rfl (w.heap.size + 1 + 1) rfl 217 _ (0, 0) _ HF.out Tryz.underlying217 rfl (by rw [hy1]; exact i67) ?_)
        | (refine wpList_store_mid rfl 217 _ _ rfl (w.heap.size + 1) 0 (outF f) rfl rfl (there_of_row HM.out.res 0 _ (by rw [hy1, hy2]; omega)) (by rw [hy1]; exact i67) (outF_one _) ?_))
      refine bodyPost_ret (results_cell_row Tryz.results205 _ _ (w.heap.size + 1) 217 (outF f) (0, 0) _ rfl (heapC_row _ _ _ _ _ HM.out.res (by rw [hy1, hy2])) Tryz.underlying217 rfl (by rw [hy1]; exact i67)) rfl
        ⟨?_, belowC _ _ HM.out.below (by omega)⟩
      rw [outF_congr f s.byte (fun i hi => HJ.out i (by omega))]
end Go.Proofs.YthhbpebihgjpjaaGreatDoor

namespace Go.Proofs.YthhbpebihgjpjaaGreatDoor
open Go.RowKit
set_option maxRecDepth 1000000

/-- The i-th byte of a text, 0 beyond its end. -/
def byteAt (l : List UInt8) (i : Nat) : Nat := (l[i]?.getD 0).toNat
theorem byteAt_lt (l : List UInt8) (i : Nat) : byteAt l i < 256 := by
  unfold byteAt
  exact UInt8.toNat_lt _
theorem byteAt_past (l : List UInt8) (i : Nat) (h : l.length ≤ i) : byteAt l i = 0 := by
  unfold byteAt
  rw [List.getElem?_eq_none h]; rfl
theorem bytesV_set (f : Nat → Nat) (n v : Nat) : (bytesV f).setIfInBounds n (.int .u8 v) = bytesV (fun i => if i = n then v else f i) := by
  apply Array.ext
  · simp [bytesV]
  · intro i h1 h2
    have h3 : i < 64 := by simpa [bytesV] using h2
    rw [Array.getElem_setIfInBounds (by simpa [bytesV] using h3)]
    by_cases e : n = i
    · subst e; simp [bytesV]
    · have e' : ¬ i = n := fun h => e h.symm
      simp [bytesV, e, e']
theorem bytesV_congr (f g : Nat → Nat) (h : ∀ i, i < 64 → f i = g i) : bytesV f = bytesV g := by
  unfold bytesV
  congr 1
  apply List.map_congr_left
  intro i hi
  rw [h i (List.mem_range.1 hi)]
theorem bytesV_zero : bytesV (fun _ => 0) = #[.int .u8 0, .int .u8 0, .int .u8 0, .int .u8 0, .int .u8 0, .int .u8 0, .int .u8 0, .int .u8 0, .int .u8 0, .int .u8 0, .int .u8 0, .int .u8 0, .int .u8 0, .int .u8 0, .int .u8 0, .int .u8 0, .int .u8 0, .int .u8 0, .int .u8 0, .int .u8 0, .int .u8 0, .int .u8 0, .int .u8 0, .int .u8 0, .int .u8 0, .int .u8 0, .int .u8 0, .int .u8 0, .int .u8 0, .int .u8 0, .int .u8 0, .int .u8 0, .int .u8 0, .int .u8 0, .int .u8 0, .int .u8 0, .int .u8 0, .int .u8 0, .int .u8 0, .int .u8 0, .int .u8 0, .int .u8 0, .int .u8 0, .int .u8 0, .int .u8 0, .int .u8 0, .int .u8 0, .int .u8 0, .int .u8 0, .int .u8 0, .int .u8 0, .int .u8 0, .int .u8 0, .int .u8 0, .int .u8 0, .int .u8 0, .int .u8 0, .int .u8 0, .int .u8 0, .int .u8 0, .int .u8 0, .int .u8 0, .int .u8 0, .int .u8 0] := rfl

/-- A text's bytes over sixty-four zeros. -/
theorem over_zeros (l : List UInt8) :
    ((bytesV fun _ => 0).toList.take (0 + 0) ++ (l.take 64).map (fun x => Value.int .u8 (x.toNat : Int)) ++ (bytesV fun _ => 0).toList.drop (0 + 0 + ((l.take 64).map (fun x => Value.int .u8 (x.toNat : Int))).length)).toArray = bytesV (byteAt l) := by
  have e0 : (bytesV fun _ => 0).toList = List.replicate 64 (Value.int .u8 0) := by
    unfold bytesV
    rw [List.toList_toArray]
    rw [List.eq_replicate_iff]
    exact ⟨by simp, fun b hb => by obtain ⟨x, _, rfl⟩ := List.mem_map.1 hb; rfl⟩
  apply Array.ext_getElem?
  intro i
  rw [e0]
  simp only [Nat.add_zero, List.take_zero, List.nil_append, List.length_map, List.length_take, Nat.zero_add, List.getElem?_toArray, List.drop_replicate]
  by_cases h : i < 64
  · rw [bytesV_at _ i h]
    by_cases h2 : i < l.length
    · rw [List.getElem?_append_left (by simp; omega)]
      simp [h, byteAt, h2]
    · rw [List.getElem?_append_right (by simp; omega), byteAt_past l i (by omega)]
      simp [List.getElem?_replicate]
      omega
  · rw [List.getElem?_eq_none (by simp; omega), Array.getElem?_eq_none (by rw [bytesV_size]; omega)]

theorem run_copy_block {P : Program} (w : World) (dT sT ty elem : TypeId) (g : Nat) (s : ByteArray) (t : TypeId)
    (hu : P.underlying dT = some (.slice elem)) (hs : (P.info? elem).map (·.size) = some 1) (hg : w.heap[g]? = some (.cells (bytesV fun _ => 0) t (0, 0))) :
    (Builtin.copy_ #[dT, sT] ty #[.slice (some ⟨g, 0, none⟩) 64 64, .string s]).run P w = .ok (goInt (Nat.min s.size 64)) (w.setRow g (bytesV (byteAt s.data.toList))) := by
  have hsl : s.data.toList.length = s.size := rfl
  have hst := run_storeCells_at P g 0 t ((s.data.toList.take 64).map (fun x => Value.int .u8 (x.toNat : Int))) 0 (bytesV fun _ => 0) w hg (by rw [bytesV_size]; simp; omega) (by
    intro v hv
    obtain ⟨x, _, rfl⟩ := List.mem_map.1 hv
    rfl)
  rw [over_zeros] at hst
  cases hq : P.info? elem with
  | none => simp [hq] at hs
  | some i =>
    have htk : List.take (s.size.min 64) (List.map (fun x : UInt8 => Value.int IntKind.u8 (x.toNat : Int)) s.data.toList) = (s.data.toList.take 64).map (fun x => Value.int .u8 (x.toNat : Int)) := by
      rw [← List.map_take]
      congr 1
      by_cases h : s.size ≤ 64
      · rw [show s.size.min 64 = s.size from Nat.min_eq_left h, List.take_of_length_le (by omega), List.take_of_length_le (by omega)]
      · rw [show s.size.min 64 = 64 from Nat.min_eq_right (by omega)]
    simp [Builtin.copy_, run_underlying hu, Builtin.lenOf, Builtin.firstCells, sizeOf, typeInfo, hq]
    rw [htk, hst]
    simp [Result.andThen]

/-- The operation: behind it the world is a letter. -/
theorem wpList_copy_block {P : Program} {w : World} {ops : Array Oper} {rest : List Oper} {o : Oper} {a : Act} {Q : Exit → Act → World → Prop} (hgd : o.guard = none) (d x : Operand) (dT sT : TypeId)
    (ho : o.op = .call { callee := .builtin .copy, args := #[d, x], argTypes := #[dT, sT] }) (elem : TypeId) (hu : P.underlying dT = some (.slice elem)) (hsz : (P.info? elem).map (·.size) = some 1)
    (g : Nat) (s : ByteArray) (hd : a.eval d = .slice (some ⟨g, 0, none⟩) 64 64) (hs : a.eval x = .string s)
    (t : TypeId) (hg : w.heap[g]? = some (.cells (bytesV fun _ => 0) t (0, 0)))
    (h : ∀ w', Hid (w'.heap[g]? = some (.cells (bytesV (byteAt s.data.toList)) t (0, 0))) → Hid (∀ k, k ≠ g → w'.heap[k]? = w.heap[k]?) → Hid (∀ B w0, Below B w0 w → B ≤ g → Below B w0 w') → wpList P ops Q rest (a.put o.dst (goInt (Nat.min s.size 64))) w') : wpList P ops Q (o :: rest) a w := by
  refine wpList_plain hgd fun K hK => ?_
  have hrun := run_copy_block (P := P) w dT sT o.type elem g s t hu hsz hg
  unfold Oper.wp
  simp [execOp, ho, resolve, invoke, builtin, hd, hs, hrun, Result.andThen]
  exact hK _ _ (h _ (setRow_heap w g _ _ t _ hg) (fun k hk => setRow_other w g k _ hk) (fun B w0 hb hB => below_setRow hb hB _))
end Go.Proofs.YthhbpebihgjpjaaGreatDoor
