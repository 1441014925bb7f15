import Derived.WalkKit
import Derived.WalkLawsBesides
import Derived.Laws.Rows
import Derived.Deep.MidRow
import Derived.Test.YthhbpebihgjpjaaGreatDoorChecked
import Derived.Outline
import Derived.BigQuiet
import Derived.Deep.QuietTactic
namespace Go.Proofs.YthhbpebihgjpjaaGreatDoor
open Go.RowKit

/-! Whole arrays in memory. -/
theorem heapA_old (w : World) (o : Obj) (i : Nat) (h : i < w.heap.size) : (w.alloc o).heap[i]? = w.heap[i]? := Below.heap_alloc w o i h
theorem heapA_new (w : World) (o : Obj) (i : Nat) (h : i = w.heap.size) : (w.alloc o).heap[i]? = some o := by
  subst h
  show (w.heap.push o)[w.heap.size]? = _
  simp
theorem heapC_other (g : Nat) (vs : List Value) : ∀ (o : Nat) (w : World) (k : Nat), k ≠ g → (w.setCells g o vs).heap[k]? = w.heap[k]? := by
  induction vs with
  | nil => intro o w k h; rfl
  | cons v r ih =>
    intro o w k h
    show ((w.setCell ⟨g, o, none⟩ v).setCells g (o + 1) r).heap[k]? = _
    rw [ih _ _ k h, heap_setCell_other _ _ _ _ h]
theorem sizeC (g : Nat) (vs : List Value) : ∀ (o : Nat) (w : World), (w.setCells g o vs).heap.size = w.heap.size := by
  induction vs with
  | nil => intro o w; rfl
  | cons v r ih =>
    intro o w
    show ((w.setCell ⟨g, o, none⟩ v).setCells g (o + 1) r).heap.size = _
    rw [ih]; simp [World.setCell]
theorem belowC {B g : Nat} (vs : List Value) : ∀ (o : Nat) {w0 w : World}, Below B w0 w → B ≤ g → Below B w0 (w.setCells g o vs) := by
  induction vs with
  | nil => intro o w0 w h _; exact h
  | cons v r ih =>
    intro o w0 w h hB
    exact ih (o + 1) (h.setCell (p := ⟨g, o, none⟩) hB v) hB
theorem heapC_at (g : Nat) (t : TypeId) (vs : List Value) : ∀ (o : Nat) (cs : Array Value) (w : World), w.heap[g]? = some (.cells cs t (0, 0)) → o + vs.length ≤ cs.size →
    ∃ cs', (w.setCells g o vs).heap[g]? = some (.cells cs' t (0, 0)) ∧ cs'.size = cs.size ∧ (∀ j, cs'[j]? = if o ≤ j ∧ j < o + vs.length then vs[j - o]? else cs[j]?) := by
  induction vs with
  | nil =>
    intro o cs w hg _
    exact ⟨cs, hg, rfl, fun j => by rw [if_neg (by intro h; simp at h; omega)]⟩
  | cons v r ih =>
    intro o cs w hg hl
    simp only [List.length_cons] at hl
    obtain ⟨cs', h1, h2, h3⟩ := ih (o + 1) (cs.setIfInBounds o v) (w.setCell ⟨g, o, none⟩ v) (heap_setCell_same w g o cs t v hg) (by simp; omega)
    refine ⟨cs', h1, by simpa using h2, fun j => ?_⟩
    rw [h3 j]
    simp only [List.length_cons]
    by_cases e : j = o
    · subst e
      rw [if_neg (by omega), if_pos (by omega), Array.getElem?_setIfInBounds]
      simp; omega
    · by_cases e2 : o + 1 ≤ j ∧ j < o + 1 + r.length
      · rw [if_pos e2, if_pos (by omega)]
        have : j - o = (j - (o + 1)) + 1 := by omega
        rw [this, List.getElem?_cons_succ]
      · rw [if_neg e2, if_neg (by omega), Array.getElem?_setIfInBounds, if_neg (fun h => e h.symm)]
theorem heapC_row (g : Nat) (t : TypeId) (xs cs : Array Value) (w : World) (hg : w.heap[g]? = some (.cells cs t (0, 0))) (hl : xs.size = cs.size) :
    (w.setCells g 0 xs.toList).heap[g]? = some (.cells xs t (0, 0)) := by
  obtain ⟨cs', h1, h2, h3⟩ := heapC_at g t xs.toList 0 cs w hg (by simp; omega)
  have e : cs' = xs := by
    apply Array.ext_getElem?
    intro j
    rw [h3 j]
    by_cases h : j < xs.size
    · rw [if_pos (by simp; omega)]; simp
    · rw [if_neg (by simp; omega), Array.getElem?_eq_none (by omega), Array.getElem?_eq_none (by omega)]
  rw [h1, e]
theorem there_of_row {w : World} {g : Nat} {t : TypeId} {cs : Array Value} (hg : w.heap[g]? = some (.cells cs t (0, 0))) (o n : Nat) (h : o + n ≤ cs.size) : w.there g o n := by
  intro j hj
  rw [cell_of_row _ _ _ _ _ _ hg]
  exact ⟨by rw [Array.getElem?_eq_getElem (by omega)]; rfl, frozen_of_row _ _ _ _ _ hg⟩
end Go.Proofs.YthhbpebihgjpjaaGreatDoor

namespace Go.Proofs.YthhbpebihgjpjaaGreatDoor
open Go.RowKit
set_option maxRecDepth 1000000

/-- One step of a script, as its eight cells hold it. -/
structure OpV where
  kd : Int
  a : Int
  b : Int
  d : Int
  s : ByteArray
  t : ByteArray
  la : Option Addr
  ln : Nat
  lc : Nat
  ma : Option Addr
  mn : Nat
  mc : Nat
def OpV.vals (x : OpV) : List Value := [.int .i64 x.kd, .int .i64 x.a, .int .i64 x.b, .int .i64 x.d, .string x.s, .string x.t, .slice x.la x.ln x.lc, .slice x.ma x.mn x.mc]

/-- A list of texts that is there. -/
def Strs (w : World) (ao : Option Addr) (n : Nat) : Prop :=
  n ≤ 9223372036854775807 ∧ (n = 0 ∨ ∃ b o, ao = some ⟨b, o, none⟩ ∧ b < w.heap.size ∧ ∀ k, k < n → ∃ s : ByteArray, s.size ≤ 140737488351232 ∧ w.cell? ⟨b, o + k, none⟩ = some (.string s))
structure OpAt (w : World) (x : OpV) (b o : Nat) : Prop where
  cells : w.rangeAt b o x.vals
  lt : b < w.heap.size
  sS : x.s.size ≤ 140737488351232
  sT : x.t.size ≤ 140737488351232
  lL : Strs w x.la x.ln
  lM : Strs w x.ma x.mn
  ints : (-9223372036854775808 ≤ x.a ∧ x.a ≤ 9223372036854775807) ∧ (-9223372036854775808 ≤ x.d ∧ x.d ≤ 9223372036854775807)
/-- A script that is there: n steps behind an address. -/
def ScriptAt (w : World) (ao : Option Addr) (n : Nat) : Prop :=
  n ≤ 140737488351232 ∧ (n = 0 ∨ ∃ b o, ao = some ⟨b, o, none⟩ ∧ ∀ i, i < n → ∃ x, OpAt w x b (o + i * 8))
theorem Strs.later {w w' : World} {ao : Option Addr} {n : Nat} (h : Strs w ao n) (hs : w.heap.size ≤ w'.heap.size) (hb : ∀ k, k < w.heap.size → w'.heap[k]? = w.heap[k]?) : Strs w' ao n := by
  obtain ⟨h0, h | ⟨b, o, e, hl, h⟩⟩ := h
  · exact ⟨h0, Or.inl h⟩
  · refine ⟨h0, Or.inr ⟨b, o, e, by omega, fun k hk => ?_⟩⟩
    obtain ⟨s, h1, h2⟩ := h k hk
    exact ⟨s, h1, by rw [World.cell?_of_block (w := w) (a := ⟨b, o + k, none⟩) (hb b hl)]; exact h2⟩
theorem OpAt.later {w w' : World} {x : OpV} {b o : Nat} (h : OpAt w x b o) (hs : w.heap.size ≤ w'.heap.size) (hb : ∀ k, k < w.heap.size → w'.heap[k]? = w.heap[k]?) : OpAt w' x b o :=
  ⟨fun j v hv => by rw [World.cell?_of_block (w := w) (a := ⟨b, o + j, none⟩) (hb b h.lt)]; exact h.cells j v hv, by have := h.lt; omega, h.sS, h.sT, h.lL.later hs hb, h.lM.later hs hb, h.ints⟩
theorem ScriptAt.later {w w' : World} {ao : Option Addr} {n : Nat} (h : ScriptAt w ao n) (hs : w.heap.size ≤ w'.heap.size) (hb : ∀ k, k < w.heap.size → w'.heap[k]? = w.heap[k]?) : ScriptAt w' ao n := by
  obtain ⟨h0, h | ⟨b, o, e, h⟩⟩ := h
  · exact ⟨h0, Or.inl h⟩
  · refine ⟨h0, Or.inr ⟨b, o, e, fun i hi => ?_⟩⟩
    obtain ⟨x, hx⟩ := h i hi
    exact ⟨x, hx.later hs hb⟩
theorem size_alloc_le (w : World) (o : Obj) : w.heap.size ≤ (w.alloc o).heap.size := by simp
theorem cell_fresh (w : World) (cs : Array Value) (t : TypeId) (j : Nat) (v : Value) (h : cs[j]? = some v) : (w.alloc (.cells cs t)).cell? ⟨w.heap.size, j, none⟩ = some v := by
  rw [cell_of_row _ _ _ _ _ _ (heapA_new w _ _ rfl)]; exact h
theorem OpAt.c0 {w : World} {x : OpV} {b o : Nat} (h : OpAt w x b o) : w.cell? ⟨b, o, none⟩ = some (.int .i64 x.kd) := h.cells 0 _ rfl
theorem OpAt.c1 {w : World} {x : OpV} {b o : Nat} (h : OpAt w x b o) : w.cell? ⟨b, o + 1, none⟩ = some (.int .i64 x.a) := h.cells 1 _ rfl
theorem OpAt.c2 {w : World} {x : OpV} {b o : Nat} (h : OpAt w x b o) : w.cell? ⟨b, o + 2, none⟩ = some (.int .i64 x.b) := h.cells 2 _ rfl
theorem OpAt.c3 {w : World} {x : OpV} {b o : Nat} (h : OpAt w x b o) : w.cell? ⟨b, o + 3, none⟩ = some (.int .i64 x.d) := h.cells 3 _ rfl
theorem OpAt.c4 {w : World} {x : OpV} {b o : Nat} (h : OpAt w x b o) : w.cell? ⟨b, o + 4, none⟩ = some (.string x.s) := h.cells 4 _ rfl
theorem OpAt.c5 {w : World} {x : OpV} {b o : Nat} (h : OpAt w x b o) : w.cell? ⟨b, o + 5, none⟩ = some (.string x.t) := h.cells 5 _ rfl
theorem OpAt.c6 {w : World} {x : OpV} {b o : Nat} (h : OpAt w x b o) : w.cell? ⟨b, o + 6, none⟩ = some (.slice x.la x.ln x.lc) := h.cells 6 _ rfl
theorem OpAt.c7 {w : World} {x : OpV} {b o : Nat} (h : OpAt w x b o) : w.cell? ⟨b, o + 7, none⟩ = some (.slice x.ma x.mn x.mc) := h.cells 7 _ rfl
theorem Strs.cell {w : World} {ao : Option Addr} {n : Nat} (h : Strs w ao n) (k : Nat) (hk : k < n) : ∃ b o s, ao = some ⟨b, o, none⟩ ∧ w.cell? ⟨b, o + k, none⟩ = some (.string s) ∧ s.size ≤ 140737488351232 := by
  obtain ⟨_, h0 | ⟨b, o, e, _, h⟩⟩ := h
  · omega
  · obtain ⟨s, h1, h2⟩ := h k hk
    exact ⟨b, o, s, e, h2, h1⟩
end Go.Proofs.YthhbpebihgjpjaaGreatDoor

namespace Go.Proofs.YthhbpebihgjpjaaGreatDoor
open Go.RowKit
set_option maxRecDepth 1000000

/-- A byte of a word; of a name. -/
def wordByte (c : Nat) : Bool := decide ((97 ≤ c ∧ c ≤ 122) ∨ (65 ≤ c ∧ c ≤ 90) ∨ (48 ≤ c ∧ c ≤ 57) ∨ c = 95 ∨ c = 45)
def nameByte (c : Nat) : Bool := wordByte c || decide (c = 46 ∨ c = 47)
def byteOf (t : ByteArray) (i : Nat) : Nat := (t.data[i]?.getD 0).toNat
theorem byteOf_lt (t : ByteArray) (i : Nat) : byteOf t i < 256 := UInt8.toNat_lt _
/-- A name (P4). -/
def named (t : ByteArray) : Bool := decide (1 ≤ t.size ∧ t.size ≤ 32 ∧ ∀ i, i < t.size → nameByte (byteOf t i) = true)

theorem wordByte_any (c : Nat) (hc : c < 256) (w : World) :
    Calls Tryz.prog 203 #[.int .u8 c] w fun e w' => e = .returned (.bool (wordByte c)) ∧ w' = w := by
  have c1 : (c : Int) < 256 := by omega
  go_enter Tryz.func203, Tryz.ntmps203
  go_wp2
  all_goals go_ret
  all_goals refine ⟨?_, rfl⟩
  all_goals simp only [beq_iff_eq, beq_eq_false_iff_ne, ne_eq] at *
  all_goals first
    | (have hx : wordByte c = true := by simp only [wordByte, decide_eq_true_eq]; omega
       rw [hx]; rfl)
    | (have hx : wordByte c = false := by simp only [wordByte, decide_eq_false_iff_not]; omega
       rw [hx]; rfl)

theorem nameByte_any (c : Nat) (hc : c < 256) (w : World) :
    Calls Tryz.prog 122 #[.int .u8 c] w fun e w' => e = .returned (.bool (nameByte c)) ∧ w' = w := by
  have c1 : (c : Int) < 256 := by omega
  go_enter Tryz.func122, Tryz.ntmps122
  go_wp2_with fail
  refine (wordByte_any c hc w).mono ?_
  rintro e w' ⟨rfl, rfl⟩
  have hn : nameByte c = (wordByte c || decide (c = 46 ∨ c = 47)) := rfl
  generalize wordByte c = b at *
  cases b
  · go_wp2
    · rename_i h46
      go_ret
      refine ⟨?_, rfl⟩
      rw [hn, show decide (c = 46 ∨ c = 47) = true by simp; omega]; rfl
    · go_ret
      refine ⟨?_, rfl⟩
      have hx : ((c : Int) == 46 || (c : Int) == 47) = decide (c = 46 ∨ c = 47) := by rw [Bool.eq_iff_iff]; simp; omega
      rw [hn, ← hx]; rfl
  · go_wp2
    go_ret
    exact ⟨by rw [hn]; rfl, rfl⟩

theorem named_short (t : ByteArray) (h : ¬ (1 ≤ t.size ∧ t.size ≤ 32)) : named t = false := by
  unfold named; simp only [decide_eq_false_iff_not]; intro hh; exact h ⟨hh.1, hh.2.1⟩
theorem named_bad (t : ByteArray) (i : Nat) (hi : i < t.size) (h : nameByte (byteOf t i) = false) : named t = false := by
  unfold named; simp only [decide_eq_false_iff_not]; intro hh; rw [hh.2.2 i hi] at h; cases h
theorem named_good (t : ByteArray) (h1 : 1 ≤ t.size) (h2 : t.size ≤ 32) (h : ∀ i, i < t.size → nameByte (byteOf t i) = true) : named t = true := by
  unfold named; simp only [decide_eq_true_eq]; exact ⟨h1, h2, h⟩
theorem byteOf_at (t : ByteArray) (i : Nat) (hi : i < t.size) : t.data[i]? = some (UInt8.ofNat (byteOf t i)) := by
  unfold byteOf
  rw [Array.getElem?_eq_getElem hi]; simp

theorem run_index_text (t : ByteArray) (j : Nat) (h : j < t.size) (wx : World) : (Instr.index 9 (.string t) (.int .i64 j)).run Tryz.prog wx = .ok (.int .u8 (byteOf t j)) wx := by
  have e : t[j]? = some t[j] := getElem?_pos t j h
  have e2 : (t.data[j]?.getD 0) = t[j] := by
    rw [Array.getElem?_eq_getElem h]; rfl
  simp [Instr.index, go_sem, byteOf, e, e2]

set_option maxHeartbeats 2000000 in
theorem isName_any (t : ByteArray) (w : World) :
    Calls Tryz.prog 73 #[.string t] w fun e w' => e = .returned (.bool (named t)) ∧ w' = w := by
  go_enter Tryz.func73, Tryz.ntmps73
  by_cases hs : 1 ≤ t.size ∧ t.size ≤ 32
  · obtain ⟨h1, h2⟩ := hs
    have z1 : ¬ (t.size : Int) < 1 := by omega
    have z2 : ¬ (32 : Int) < (t.size : Int) := by omega
    have z3 : (t.size : Int) ≤ 32 := by omega
    go_wp2
    go_loop [14] (fun c => ∃ j : Nat, j ≤ t.size ∧ c = .int .i64 j ∧ Hid (∀ i, i < j → nameByte (byteOf t i) = true)) (fun c => t.size - (intOf c).toNat)
    case atStart => exact ⟨0, by omega, rfl, fun i hi => by omega⟩
    case round =>
      obtain ⟨j, hj, rfl, HG⟩ := hrel
      by_cases hlt : j < t.size
      · have i0 : (0 : Int) ≤ (j : Int) := by omega
        have i1 : (j : Int) < (t.size : Int) := by omega
        have hb := byteOf_lt t j
        have hidx : ∀ wx, (Instr.index 9 (.string t) (.int .i64 j)).run Tryz.prog wx = .ok (.int .u8 (byteOf t j)) wx := by
          intro wx
          exact run_index_text t j hlt wx
        obtain ⟨x, hx⟩ : ∃ x, x = byteOf t j := ⟨_, rfl⟩
        rw [← hx] at hidx hb
        have HX : Hid (x = byteOf t j) := hx
        clear hx
        go_wp2_with fail
        refine (nameByte_any x hb _).mono ?_
        rintro e w' ⟨rfl, rfl⟩
        by_cases hgood : nameByte x = true
        · rw [hgood]
          have HG2 : Hid (∀ i, i < j + 1 → nameByte (byteOf t i) = true) := fun i hi => by
            by_cases e : i = j
            · subst e; rw [← HX.out]; exact hgood
            · exact HG.out i (by omega)
          go_wp2
          go_round
          case rel => exact ⟨j + 1, by omega, by go_num, HG2⟩
          case measure => simp [intOf]; omega
        · have hbad : nameByte x = false := by simpa using hgood
          rw [hbad]
          have HN : Hid (named t = false) := named_bad t j hlt (by rw [← HX.out]; exact hbad)
          go_wp2
          go_ret
          exact ⟨by rw [HN.out]; rfl, rfl⟩
      · have hjs : j = t.size := by omega
        subst hjs
        have HN : Hid (named t = true) := named_good t h1 h2 HG.out
        go_wp2
        go_ret
        exact ⟨by rw [HN.out]; rfl, rfl⟩
  · have hn := named_short t hs
    rw [hn]
    by_cases h1 : t.size < 1
    · have z1 : (t.size : Int) < 1 := by omega
      go_wp2
      go_ret
      exact ⟨rfl, rfl⟩
    · have z1 : ¬ (t.size : Int) < 1 := by omega
      have z2 : (32 : Int) < (t.size : Int) := by omega
      go_wp2
      go_ret
      exact ⟨rfl, rfl⟩
end Go.Proofs.YthhbpebihgjpjaaGreatDoor
