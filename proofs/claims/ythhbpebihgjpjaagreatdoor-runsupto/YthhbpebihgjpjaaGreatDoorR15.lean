import Derived.Test.YthhbpebihgjpjaaGreatDoorR14
import Derived.Lib.BufferWrite
import Derived.Laws.CopyOwn
namespace Go.Proofs.YthhbpebihgjpjaaGreatDoor
open Go.RowKit
set_option maxRecDepth 1000000

/-- The i-th byte of a text, 0 beyond its end. -/
def byteAt (l : List UInt8) (i : Nat) : Nat := (l[i]?.getD 0).toNat
theorem byteAt_lt (l : List UInt8) (i : Nat) : byteAt l i < 256 := by
  unfold byteAt
  exact UInt8.toNat_lt _
theorem byteAt_past (l : List UInt8) (i : Nat) (h : l.length ≤ i) : byteAt l i = 0 := by
  unfold byteAt
  rw [List.getElem?_eq_none h]; rfl
theorem bytesV_set (f : Nat → Nat) (n v : Nat) : (bytesV f).setIfInBounds n (.int .u8 v) = bytesV (fun i => if i = n then v else f i) := by
  apply Array.ext
  · simp [bytesV]
  · intro i h1 h2
    have h3 : i < 64 := by simpa [bytesV] using h2
    rw [Array.getElem_setIfInBounds (by simpa [bytesV] using h3)]
    by_cases e : n = i
    · subst e; simp [bytesV]
    · have e' : ¬ i = n := fun h => e h.symm
      simp [bytesV, e, e']
theorem bytesV_congr (f g : Nat → Nat) (h : ∀ i, i < 64 → f i = g i) : bytesV f = bytesV g := by
  unfold bytesV
  congr 1
  apply List.map_congr_left
  intro i hi
  rw [h i (List.mem_range.1 hi)]
theorem bytesV_zero : bytesV (fun _ => 0) = #[.int .u8 0, .int .u8 0, .int .u8 0, .int .u8 0, .int .u8 0, .int .u8 0, .int .u8 0, .int .u8 0, .int .u8 0, .int .u8 0, .int .u8 0, .int .u8 0, .int .u8 0, .int .u8 0, .int .u8 0, .int .u8 0, .int .u8 0, .int .u8 0, .int .u8 0, .int .u8 0, .int .u8 0, .int .u8 0, .int .u8 0, .int .u8 0, .int .u8 0, .int .u8 0, .int .u8 0, .int .u8 0, .int .u8 0, .int .u8 0, .int .u8 0, .int .u8 0, .int .u8 0, .int .u8 0, .int .u8 0, .int .u8 0, .int .u8 0, .int .u8 0, .int .u8 0, .int .u8 0, .int .u8 0, .int .u8 0, .int .u8 0, .int .u8 0, .int .u8 0, .int .u8 0, .int .u8 0, .int .u8 0, .int .u8 0, .int .u8 0, .int .u8 0, .int .u8 0, .int .u8 0, .int .u8 0, .int .u8 0, .int .u8 0, .int .u8 0, .int .u8 0, .int .u8 0, .int .u8 0, .int .u8 0, .int .u8 0, .int .u8 0, .int .u8 0] := rfl

/-- A text's bytes over sixty-four zeros. -/
theorem over_zeros (l : List UInt8) :
    ((bytesV fun _ => 0).toList.take (0 + 0) ++ (l.take 64).map (fun x => Value.int .u8 (x.toNat : Int)) ++ (bytesV fun _ => 0).toList.drop (0 + 0 + ((l.take 64).map (fun x => Value.int .u8 (x.toNat : Int))).length)).toArray = bytesV (byteAt l) := by
  have e0 : (bytesV fun _ => 0).toList = List.replicate 64 (Value.int .u8 0) := by
    unfold bytesV
    rw [List.toList_toArray]
    rw [List.eq_replicate_iff]
    exact ⟨by simp, fun b hb => by obtain ⟨x, _, rfl⟩ := List.mem_map.1 hb; rfl⟩
  apply Array.ext_getElem?
  intro i
  rw [e0]
  simp only [Nat.add_zero, List.take_zero, List.nil_append, List.length_map, List.length_take, Nat.zero_add, List.getElem?_toArray, List.drop_replicate]
  by_cases h : i < 64
  · rw [bytesV_at _ i h]
    by_cases h2 : i < l.length
    · rw [List.getElem?_append_left (by simp; omega)]
      simp [h, byteAt, h2]
    · rw [List.getElem?_append_right (by simp; omega), byteAt_past l i (by omega)]
      simp [List.getElem?_replicate]
      omega
  · rw [List.getElem?_eq_none (by simp; omega), Array.getElem?_eq_none (by rw [bytesV_size]; omega)]

theorem run_copy_block {P : Program} (w : World) (dT sT ty elem : TypeId) (g : Nat) (s : ByteArray) (t : TypeId)
    (hu : P.underlying dT = some (.slice elem)) (hs : (P.info? elem).map (·.size) = some 1) (hg : w.heap[g]? = some (.cells (bytesV fun _ => 0) t (0, 0))) :
    (Builtin.copy_ #[dT, sT] ty #[.slice (some ⟨g, 0, none⟩) 64 64, .string s]).run P w = .ok (goInt (Nat.min s.size 64)) (w.setRow g (bytesV (byteAt s.data.toList))) := by
  have hsl : s.data.toList.length = s.size := rfl
  have hst := run_storeCells_at P g 0 t ((s.data.toList.take 64).map (fun x => Value.int .u8 (x.toNat : Int))) 0 (bytesV fun _ => 0) w hg (by rw [bytesV_size]; simp; omega) (by
    intro v hv
    obtain ⟨x, _, rfl⟩ := List.mem_map.1 hv
    rfl)
  rw [over_zeros] at hst
  cases hq : P.info? elem with
  | none => simp [hq] at hs
  | some i =>
    have htk : List.take (s.size.min 64) (List.map (fun x : UInt8 => Value.int IntKind.u8 (x.toNat : Int)) s.data.toList) = (s.data.toList.take 64).map (fun x => Value.int .u8 (x.toNat : Int)) := by
      rw [← List.map_take]
      congr 1
      by_cases h : s.size ≤ 64
      · rw [show s.size.min 64 = s.size from Nat.min_eq_left h, List.take_of_length_le (by omega), List.take_of_length_le (by omega)]
      · rw [show s.size.min 64 = 64 from Nat.min_eq_right (by omega)]
    simp [Builtin.copy_, run_underlying hu, Builtin.lenOf, Builtin.firstCells, sizeOf, typeInfo, hq]
    rw [htk, hst]
    simp [Result.andThen]

/-- The operation: behind it the world is a letter. -/
theorem wpList_copy_block {P : Program} {w : World} {ops : Array Oper} {rest : List Oper} {o : Oper} {a : Act} {Q : Exit → Act → World → Prop} (hgd : o.guard = none) (d x : Operand) (dT sT : TypeId)
    (ho : o.op = .call { callee := .builtin .copy, args := #[d, x], argTypes := #[dT, sT] }) (elem : TypeId) (hu : P.underlying dT = some (.slice elem)) (hsz : (P.info? elem).map (·.size) = some 1)
    (g : Nat) (s : ByteArray) (hd : a.eval d = .slice (some ⟨g, 0, none⟩) 64 64) (hs : a.eval x = .string s)
    (t : TypeId) (hg : w.heap[g]? = some (.cells (bytesV fun _ => 0) t (0, 0)))
    (h : ∀ w', Hid (w'.heap[g]? = some (.cells (bytesV (byteAt s.data.toList)) t (0, 0))) → Hid (∀ k, k ≠ g → w'.heap[k]? = w.heap[k]?) → Hid (∀ B w0, Below B w0 w → B ≤ g → Below B w0 w') → wpList P ops Q rest (a.put o.dst (goInt (Nat.min s.size 64))) w') : wpList P ops Q (o :: rest) a w := by
  refine wpList_plain hgd fun K hK => ?_
  have hrun := run_copy_block (P := P) w dT sT o.type elem g s t hu hsz hg
  unfold Oper.wp
  simp [execOp, ho, resolve, invoke, builtin, hd, hs, hrun, Result.andThen]
  exact hK _ _ (h _ (setRow_heap w g _ _ t _ hg) (fun k hk => setRow_other w g k _ hk) (fun B w0 hb hB => below_setRow hb hB _))
end Go.Proofs.YthhbpebihgjpjaaGreatDoor
