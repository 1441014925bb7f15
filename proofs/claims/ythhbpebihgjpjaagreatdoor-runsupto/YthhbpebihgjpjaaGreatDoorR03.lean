import Derived.WalkKit
import Derived.WalkLawsBesides
import Derived.Laws.Rows
import Derived.Deep.MidRow
import Derived.Test.YthhbpebihgjpjaaGreatDoorChecked
import Derived.Test.YthhbpebihgjpjaaGreatDoorR01
import Derived.Outline
namespace Go.Proofs.YthhbpebihgjpjaaGreatDoor
open Go.RowKit

/-! Whole arrays in memory. -/
theorem heapA_old (w : World) (o : Obj) (i : Nat) (h : i < w.heap.size) : (w.alloc o).heap[i]? = w.heap[i]? := Below.heap_alloc w o i h
theorem heapA_new (w : World) (o : Obj) (i : Nat) (h : i = w.heap.size) : (w.alloc o).heap[i]? = some o := by
  subst h
  show (w.heap.push o)[w.heap.size]? = _
  simp
theorem heapC_other (g : Nat) (vs : List Value) : ∀ (o : Nat) (w : World) (k : Nat), k ≠ g → (w.setCells g o vs).heap[k]? = w.heap[k]? := by
  induction vs with
  | nil => intro o w k h; rfl
  | cons v r ih =>
    intro o w k h
    show ((w.setCell ⟨g, o, none⟩ v).setCells g (o + 1) r).heap[k]? = _
    rw [ih _ _ k h, heap_setCell_other _ _ _ _ h]
theorem sizeC (g : Nat) (vs : List Value) : ∀ (o : Nat) (w : World), (w.setCells g o vs).heap.size = w.heap.size := by
  induction vs with
  | nil => intro o w; rfl
  | cons v r ih =>
    intro o w
    show ((w.setCell ⟨g, o, none⟩ v).setCells g (o + 1) r).heap.size = _
    rw [ih]; simp [World.setCell]
theorem belowC {B g : Nat} (vs : List Value) : ∀ (o : Nat) {w0 w : World}, Below B w0 w → B ≤ g → Below B w0 (w.setCells g o vs) := by
  induction vs with
  | nil => intro o w0 w h _; exact h
  | cons v r ih =>
    intro o w0 w h hB
    exact ih (o + 1) (h.setCell (p := ⟨g, o, none⟩) hB v) hB
theorem heapC_at (g : Nat) (t : TypeId) (vs : List Value) : ∀ (o : Nat) (cs : Array Value) (w : World), w.heap[g]? = some (.cells cs t (0, 0)) → o + vs.length ≤ cs.size →
    ∃ cs', (w.setCells g o vs).heap[g]? = some (.cells cs' t (0, 0)) ∧ cs'.size = cs.size ∧ (∀ j, cs'[j]? = if o ≤ j ∧ j < o + vs.length then vs[j - o]? else cs[j]?) := by
  induction vs with
  | nil =>
    intro o cs w hg _
    exact ⟨cs, hg, rfl, fun j => by rw [if_neg (by intro h; simp at h; omega)]⟩
  | cons v r ih =>
    intro o cs w hg hl
    simp only [List.length_cons] at hl
    obtain ⟨cs', h1, h2, h3⟩ := ih (o + 1) (cs.setIfInBounds o v) (w.setCell ⟨g, o, none⟩ v) (heap_setCell_same w g o cs t v hg) (by simp; omega)
    refine ⟨cs', h1, by simpa using h2, fun j => ?_⟩
    rw [h3 j]
    simp only [List.length_cons]
    by_cases e : j = o
    · subst e
      rw [if_neg (by omega), if_pos (by omega), Array.getElem?_setIfInBounds]
      simp; omega
    · by_cases e2 : o + 1 ≤ j ∧ j < o + 1 + r.length
      · rw [if_pos e2, if_pos (by omega)]
        have : j - o = (j - (o + 1)) + 1 := by omega
        rw [this, List.getElem?_cons_succ]
      · rw [if_neg e2, if_neg (by omega), Array.getElem?_setIfInBounds, if_neg (fun h => e h.symm)]
theorem heapC_row (g : Nat) (t : TypeId) (xs cs : Array Value) (w : World) (hg : w.heap[g]? = some (.cells cs t (0, 0))) (hl : xs.size = cs.size) :
    (w.setCells g 0 xs.toList).heap[g]? = some (.cells xs t (0, 0)) := by
  obtain ⟨cs', h1, h2, h3⟩ := heapC_at g t xs.toList 0 cs w hg (by simp; omega)
  have e : cs' = xs := by
    apply Array.ext_getElem?
    intro j
    rw [h3 j]
    by_cases h : j < xs.size
    · rw [if_pos (by simp; omega)]; simp
    · rw [if_neg (by simp; omega), Array.getElem?_eq_none (by omega), Array.getElem?_eq_none (by omega)]
  rw [h1, e]
theorem there_of_row {w : World} {g : Nat} {t : TypeId} {cs : Array Value} (hg : w.heap[g]? = some (.cells cs t (0, 0))) (o n : Nat) (h : o + n ≤ cs.size) : w.there g o n := by
  intro j hj
  rw [cell_of_row _ _ _ _ _ _ hg]
  exact ⟨by rw [Array.getElem?_eq_getElem (by omega)]; rfl, frozen_of_row _ _ _ _ _ hg⟩
end Go.Proofs.YthhbpebihgjpjaaGreatDoor

namespace Go.Proofs.YthhbpebihgjpjaaGreatDoor
open Go.RowKit
set_option maxRecDepth 100000

theorem turn2 (x : Nat) (w : World) (hx : x < 4294967296) :
    Calls Tryz.prog 278 #[.int .u32 x, .int .i64 2] w fun e w' => e = .returned (.int .u32 (Sha.rotr x 2 : Nat)) ∧ w' = w := by
  have hb : bits BinOp.and IntKind.u64 (IntKind.u64.wrap (-2)) 31 = 30 := by decide
  have ht := Sha.turn_u32 x 2 hx
  go_enter Tryz.func278, Tryz.ntmps278
  go_wp2
  go_ret
  refine ⟨?_, rfl⟩
  simp only [← ht]
  rfl
theorem turn6 (x : Nat) (w : World) (hx : x < 4294967296) :
    Calls Tryz.prog 278 #[.int .u32 x, .int .i64 6] w fun e w' => e = .returned (.int .u32 (Sha.rotr x 6 : Nat)) ∧ w' = w := by
  have hb : bits BinOp.and IntKind.u64 (IntKind.u64.wrap (-6)) 31 = 26 := by decide
  have ht := Sha.turn_u32 x 6 hx
  go_enter Tryz.func278, Tryz.ntmps278
  go_wp2
  go_ret
  refine ⟨?_, rfl⟩
  simp only [← ht]
  rfl
theorem turn7 (x : Nat) (w : World) (hx : x < 4294967296) :
    Calls Tryz.prog 278 #[.int .u32 x, .int .i64 7] w fun e w' => e = .returned (.int .u32 (Sha.rotr x 7 : Nat)) ∧ w' = w := by
  have hb : bits BinOp.and IntKind.u64 (IntKind.u64.wrap (-7)) 31 = 25 := by decide
  have ht := Sha.turn_u32 x 7 hx
  go_enter Tryz.func278, Tryz.ntmps278
  go_wp2
  go_ret
  refine ⟨?_, rfl⟩
  simp only [← ht]
  rfl
theorem turn11 (x : Nat) (w : World) (hx : x < 4294967296) :
    Calls Tryz.prog 278 #[.int .u32 x, .int .i64 11] w fun e w' => e = .returned (.int .u32 (Sha.rotr x 11 : Nat)) ∧ w' = w := by
  have hb : bits BinOp.and IntKind.u64 (IntKind.u64.wrap (-11)) 31 = 21 := by decide
  have ht := Sha.turn_u32 x 11 hx
  go_enter Tryz.func278, Tryz.ntmps278
  go_wp2
  go_ret
  refine ⟨?_, rfl⟩
  simp only [← ht]
  rfl
theorem turn13 (x : Nat) (w : World) (hx : x < 4294967296) :
    Calls Tryz.prog 278 #[.int .u32 x, .int .i64 13] w fun e w' => e = .returned (.int .u32 (Sha.rotr x 13 : Nat)) ∧ w' = w := by
  have hb : bits BinOp.and IntKind.u64 (IntKind.u64.wrap (-13)) 31 = 19 := by decide
  have ht := Sha.turn_u32 x 13 hx
  go_enter Tryz.func278, Tryz.ntmps278
  go_wp2
  go_ret
  refine ⟨?_, rfl⟩
  simp only [← ht]
  rfl
theorem turn17 (x : Nat) (w : World) (hx : x < 4294967296) :
    Calls Tryz.prog 278 #[.int .u32 x, .int .i64 17] w fun e w' => e = .returned (.int .u32 (Sha.rotr x 17 : Nat)) ∧ w' = w := by
  have hb : bits BinOp.and IntKind.u64 (IntKind.u64.wrap (-17)) 31 = 15 := by decide
  have ht := Sha.turn_u32 x 17 hx
  go_enter Tryz.func278, Tryz.ntmps278
  go_wp2
  go_ret
  refine ⟨?_, rfl⟩
  simp only [← ht]
  rfl
theorem turn18 (x : Nat) (w : World) (hx : x < 4294967296) :
    Calls Tryz.prog 278 #[.int .u32 x, .int .i64 18] w fun e w' => e = .returned (.int .u32 (Sha.rotr x 18 : Nat)) ∧ w' = w := by
  have hb : bits BinOp.and IntKind.u64 (IntKind.u64.wrap (-18)) 31 = 14 := by decide
  have ht := Sha.turn_u32 x 18 hx
  go_enter Tryz.func278, Tryz.ntmps278
  go_wp2
  go_ret
  refine ⟨?_, rfl⟩
  simp only [← ht]
  rfl
theorem turn19 (x : Nat) (w : World) (hx : x < 4294967296) :
    Calls Tryz.prog 278 #[.int .u32 x, .int .i64 19] w fun e w' => e = .returned (.int .u32 (Sha.rotr x 19 : Nat)) ∧ w' = w := by
  have hb : bits BinOp.and IntKind.u64 (IntKind.u64.wrap (-19)) 31 = 13 := by decide
  have ht := Sha.turn_u32 x 19 hx
  go_enter Tryz.func278, Tryz.ntmps278
  go_wp2
  go_ret
  refine ⟨?_, rfl⟩
  simp only [← ht]
  rfl
theorem turn22 (x : Nat) (w : World) (hx : x < 4294967296) :
    Calls Tryz.prog 278 #[.int .u32 x, .int .i64 22] w fun e w' => e = .returned (.int .u32 (Sha.rotr x 22 : Nat)) ∧ w' = w := by
  have hb : bits BinOp.and IntKind.u64 (IntKind.u64.wrap (-22)) 31 = 10 := by decide
  have ht := Sha.turn_u32 x 22 hx
  go_enter Tryz.func278, Tryz.ntmps278
  go_wp2
  go_ret
  refine ⟨?_, rfl⟩
  simp only [← ht]
  rfl
theorem turn25 (x : Nat) (w : World) (hx : x < 4294967296) :
    Calls Tryz.prog 278 #[.int .u32 x, .int .i64 25] w fun e w' => e = .returned (.int .u32 (Sha.rotr x 25 : Nat)) ∧ w' = w := by
  have hb : bits BinOp.and IntKind.u64 (IntKind.u64.wrap (-25)) 31 = 7 := by decide
  have ht := Sha.turn_u32 x 25 hx
  go_enter Tryz.func278, Tryz.ntmps278
  go_wp2
  go_ret
  refine ⟨?_, rfl⟩
  simp only [← ht]
  rfl
end Go.Proofs.YthhbpebihgjpjaaGreatDoor
