import Derived.Test.YthhbpebihgjpjaaGreatDoorR21
import Derived.Test.YthhbpebihgjpjaaGreatDoorR31
import Derived.Test.YthhbpebihgjpjaaGreatDoorR35
namespace Go.Proofs.YthhbpebihgjpjaaGreatDoor
open Go.RowKit
set_option maxRecDepth 1000000

/-- A list of texts, all told no more than 2^20. -/
def FewTexts (w : World) (v : Value) : Prop := ∃ l : List ByteArray, TextsAt w v l ∧ l.length ≤ 1048576 ∧ ∀ y ∈ l, y.size ≤ 1048576
/-- A step whose texts are small. -/
structure OpUp (w : World) (x : OpV) : Prop where
  s : x.s.size ≤ 1048576
  l : FewTexts w (.slice x.la x.ln x.lc)
  m : FewTexts w (.slice x.ma x.mn x.mc)
theorem FewTexts.later {w w' : World} {v : Value} (h : FewTexts w v) (hb : ∀ k, k < w.heap.size → w'.heap[k]? = w.heap[k]?) : FewTexts w' v := by
  obtain ⟨l, ht, h1, h2⟩ := h
  refine ⟨l, ?_, h1, h2⟩
  obtain ⟨ao, cap, rfl, hc, h | ⟨b, o, rfl, h⟩⟩ := ht
  · exact ⟨ao, cap, rfl, hc, Or.inl h⟩
  · exact ⟨_, cap, rfl, hc, Or.inr ⟨b, o, rfl, fun k s hs => (World.cell?_of_block (w := w) (a := ⟨b, o + k, none⟩) (hb b (block_lt_of_cell (h k s hs)))).trans (h k s hs)⟩⟩
theorem OpUp.later {w w' : World} {x : OpV} (h : OpUp w x) (hb : ∀ k, k < w.heap.size → w'.heap[k]? = w.heap[k]?) : OpUp w' x := ⟨h.s, h.l.later hb, h.m.later hb⟩
def ScriptUp (w : World) (ao : Option Addr) (n : Nat) : Prop :=
  n ≤ 140737488351232 ∧ (n = 0 ∨ ∃ b o, ao = some ⟨b, o, none⟩ ∧ ∀ i, i < n → ∃ x, OpAt w x b (o + i * 8) ∧ OpUp w x)
theorem ScriptUp.at' {w : World} {ao : Option Addr} {n : Nat} (h : ScriptUp w ao n) : ScriptAt w ao n := by
  obtain ⟨h0, h | ⟨b, o, e, h⟩⟩ := h
  · exact ⟨h0, Or.inl h⟩
  · exact ⟨h0, Or.inr ⟨b, o, e, fun i hi => let ⟨x, hx, _⟩ := h i hi; ⟨x, hx⟩⟩⟩
theorem ScriptUp.later {w w' : World} {ao : Option Addr} {n : Nat} (h : ScriptUp w ao n) (hs : w.heap.size ≤ w'.heap.size) (hb : ∀ k, k < w.heap.size → w'.heap[k]? = w.heap[k]?) : ScriptUp w' ao n := by
  obtain ⟨h0, h | ⟨b, o, e, h⟩⟩ := h
  · exact ⟨h0, Or.inl h⟩
  · refine ⟨h0, Or.inr ⟨b, o, e, fun i hi => ?_⟩⟩
    obtain ⟨x, hx, hu⟩ := h i hi
    exact ⟨x, hx.later hs hb, hu.later hb⟩
end Go.Proofs.YthhbpebihgjpjaaGreatDoor
