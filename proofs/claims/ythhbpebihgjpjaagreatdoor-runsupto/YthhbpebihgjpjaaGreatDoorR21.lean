import Derived.Test.YthhbpebihgjpjaaGreatDoorChecked
import Derived.WalkKit
import Derived.Outline
import Derived.WalkLawsBesides
import Derived.BigQuiet
import Derived.Deep.QuietTactic
import Derived.Deep.MidRow
import Derived.Test.YthhbpebihgjpjaaGreatDoorR03
namespace Go.Proofs.YthhbpebihgjpjaaGreatDoor
open Go.RowKit
set_option maxRecDepth 1000000

/-- One step of a script, as its eight cells hold it. -/
structure OpV where
  kd : Int
  a : Int
  b : Int
  d : Int
  s : ByteArray
  t : ByteArray
  la : Option Addr
  ln : Nat
  lc : Nat
  ma : Option Addr
  mn : Nat
  mc : Nat
def OpV.vals (x : OpV) : List Value := [.int .i64 x.kd, .int .i64 x.a, .int .i64 x.b, .int .i64 x.d, .string x.s, .string x.t, .slice x.la x.ln x.lc, .slice x.ma x.mn x.mc]

/-- A list of texts that is there. -/
def Strs (w : World) (ao : Option Addr) (n : Nat) : Prop :=
  n ≤ 9223372036854775807 ∧ (n = 0 ∨ ∃ b o, ao = some ⟨b, o, none⟩ ∧ b < w.heap.size ∧ ∀ k, k < n → ∃ s : ByteArray, s.size ≤ 140737488351232 ∧ w.cell? ⟨b, o + k, none⟩ = some (.string s))
structure OpAt (w : World) (x : OpV) (b o : Nat) : Prop where
  cells : w.rangeAt b o x.vals
  lt : b < w.heap.size
  sS : x.s.size ≤ 140737488351232
  sT : x.t.size ≤ 140737488351232
  lL : Strs w x.la x.ln
  lM : Strs w x.ma x.mn
  ints : (-9223372036854775808 ≤ x.a ∧ x.a ≤ 9223372036854775807) ∧ (-9223372036854775808 ≤ x.d ∧ x.d ≤ 9223372036854775807)
/-- A script that is there: n steps behind an address. -/
def ScriptAt (w : World) (ao : Option Addr) (n : Nat) : Prop :=
  n ≤ 140737488351232 ∧ (n = 0 ∨ ∃ b o, ao = some ⟨b, o, none⟩ ∧ ∀ i, i < n → ∃ x, OpAt w x b (o + i * 8))
theorem Strs.later {w w' : World} {ao : Option Addr} {n : Nat} (h : Strs w ao n) (hs : w.heap.size ≤ w'.heap.size) (hb : ∀ k, k < w.heap.size → w'.heap[k]? = w.heap[k]?) : Strs w' ao n := by
  obtain ⟨h0, h | ⟨b, o, e, hl, h⟩⟩ := h
  · exact ⟨h0, Or.inl h⟩
  · refine ⟨h0, Or.inr ⟨b, o, e, by omega, fun k hk => ?_⟩⟩
    obtain ⟨s, h1, h2⟩ := h k hk
    exact ⟨s, h1, by rw [World.cell?_of_block (w := w) (a := ⟨b, o + k, none⟩) (hb b hl)]; exact h2⟩
theorem OpAt.later {w w' : World} {x : OpV} {b o : Nat} (h : OpAt w x b o) (hs : w.heap.size ≤ w'.heap.size) (hb : ∀ k, k < w.heap.size → w'.heap[k]? = w.heap[k]?) : OpAt w' x b o :=
  ⟨fun j v hv => by rw [World.cell?_of_block (w := w) (a := ⟨b, o + j, none⟩) (hb b h.lt)]; exact h.cells j v hv, by have := h.lt; omega, h.sS, h.sT, h.lL.later hs hb, h.lM.later hs hb, h.ints⟩
theorem ScriptAt.later {w w' : World} {ao : Option Addr} {n : Nat} (h : ScriptAt w ao n) (hs : w.heap.size ≤ w'.heap.size) (hb : ∀ k, k < w.heap.size → w'.heap[k]? = w.heap[k]?) : ScriptAt w' ao n := by
  obtain ⟨h0, h | ⟨b, o, e, h⟩⟩ := h
  · exact ⟨h0, Or.inl h⟩
  · refine ⟨h0, Or.inr ⟨b, o, e, fun i hi => ?_⟩⟩
    obtain ⟨x, hx⟩ := h i hi
    exact ⟨x, hx.later hs hb⟩
theorem size_alloc_le (w : World) (o : Obj) : w.heap.size ≤ (w.alloc o).heap.size := by simp
theorem cell_fresh (w : World) (cs : Array Value) (t : TypeId) (j : Nat) (v : Value) (h : cs[j]? = some v) : (w.alloc (.cells cs t)).cell? ⟨w.heap.size, j, none⟩ = some v := by
  rw [cell_of_row _ _ _ _ _ _ (heapA_new w _ _ rfl)]; exact h
theorem OpAt.c0 {w : World} {x : OpV} {b o : Nat} (h : OpAt w x b o) : w.cell? ⟨b, o, none⟩ = some (.int .i64 x.kd) := h.cells 0 _ rfl
theorem OpAt.c1 {w : World} {x : OpV} {b o : Nat} (h : OpAt w x b o) : w.cell? ⟨b, o + 1, none⟩ = some (.int .i64 x.a) := h.cells 1 _ rfl
theorem OpAt.c2 {w : World} {x : OpV} {b o : Nat} (h : OpAt w x b o) : w.cell? ⟨b, o + 2, none⟩ = some (.int .i64 x.b) := h.cells 2 _ rfl
theorem OpAt.c3 {w : World} {x : OpV} {b o : Nat} (h : OpAt w x b o) : w.cell? ⟨b, o + 3, none⟩ = some (.int .i64 x.d) := h.cells 3 _ rfl
theorem OpAt.c4 {w : World} {x : OpV} {b o : Nat} (h : OpAt w x b o) : w.cell? ⟨b, o + 4, none⟩ = some (.string x.s) := h.cells 4 _ rfl
theorem OpAt.c5 {w : World} {x : OpV} {b o : Nat} (h : OpAt w x b o) : w.cell? ⟨b, o + 5, none⟩ = some (.string x.t) := h.cells 5 _ rfl
theorem OpAt.c6 {w : World} {x : OpV} {b o : Nat} (h : OpAt w x b o) : w.cell? ⟨b, o + 6, none⟩ = some (.slice x.la x.ln x.lc) := h.cells 6 _ rfl
theorem OpAt.c7 {w : World} {x : OpV} {b o : Nat} (h : OpAt w x b o) : w.cell? ⟨b, o + 7, none⟩ = some (.slice x.ma x.mn x.mc) := h.cells 7 _ rfl
theorem Strs.cell {w : World} {ao : Option Addr} {n : Nat} (h : Strs w ao n) (k : Nat) (hk : k < n) : ∃ b o s, ao = some ⟨b, o, none⟩ ∧ w.cell? ⟨b, o + k, none⟩ = some (.string s) ∧ s.size ≤ 140737488351232 := by
  obtain ⟨_, h0 | ⟨b, o, e, _, h⟩⟩ := h
  · omega
  · obtain ⟨s, h1, h2⟩ := h k hk
    exact ⟨b, o, s, e, h2, h1⟩
end Go.Proofs.YthhbpebihgjpjaaGreatDoor

namespace Go.Proofs.YthhbpebihgjpjaaGreatDoor
open Go.RowKit
set_option maxRecDepth 1000000

/-- No list was handed out: nothing to look at. -/
theorem looks_none (wb wo : Nat) (w : World) (hl : w.cell? ⟨wb, wo + 4, none⟩ = some (.slice none 0 0)) :
    Calls Tryz.prog 57 #[.pointer (some ⟨wb, wo, none⟩)] w fun e w' => e = .returned (.bool true) ∧ ∃ n, w' = w.drewN n := by
  go_enter Tryz.func57, Tryz.ntmps57
  go_wp2
  refine wp_loop_rounds 1 ?_
  rw [rounds_succ]
  go_wp2
  go_ret
  exact ⟨rfl, 0, rfl⟩
end Go.Proofs.YthhbpebihgjpjaaGreatDoor
