import Derived.Test.YthhbpebihgjpjaaGreatDoorK20
import Derived.Test.YthhbpebihgjpjaaGreatDoorK21
import Derived.Test.YthhbpebihgjpjaaGreatDoorK08
import Derived.Deep.AppendLies
namespace Go.Proofs.YthhbpebihgjpjaaGreatDoor
open Go.RowKit Go.Shelf
set_option maxRecDepth 1000000

/-- Sections in memory: the mark, and where the paths lie. -/
abbrev SecV := List (ByteArray × Value)
def scells (l : SecV) : List Value := l.flatMap fun x => [.string x.1, x.2]
theorem scells_append (l r : SecV) : scells (l ++ r) = scells l ++ scells r := by simp [scells]
theorem scells_at {l : SecV} {i : Nat} {x : ByteArray × Value} (h : l[i]? = some x) : (scells l)[i * 2]? = some (.string x.1) ∧ (scells l)[i * 2 + 1]? = some x.2 := two_cells (fun x : ByteArray × Value => .string x.1) (fun x => x.2) l i x h
theorem scells_set (l : SecV) (mk : ByteArray) (pv pv' : Value) : (scells (l ++ [(mk, pv)])).set (l.length * 2 + 1) pv' = scells (l ++ [(mk, pv')]) := by
  rw [scells_append, scells_append, List.set_append_right _ _ (by unfold scells; rw [two_length]; omega)]
  unfold scells
  rw [two_length, show l.length * 2 + 1 - l.length * 2 = 1 by omega]
  rfl
/-- Texts in memory that was made behind W0. -/
def TextsF (W0 : Nat) (w : World) (v : Value) (l : List ByteArray) : Prop := TextsAt w v l ∧ ∀ k, v.ownBlock = some k → W0 ≤ k
def SecsC (W0 : Nat) (w : World) (vs : SecV) (I : Secs) : Prop := vs.length = I.length ∧ ∀ (k : Nat) x y, vs[k]? = some x → I[k]? = some y → x.1 = y.1 ∧ TextsF W0 w x.2 y.2
/-- The reading of paths, midway. -/
structure PathsAt (W0 : Nat) (w wr : World) (c : Nat → Nat) (v pv : Value) (vs : SecV) (I : Secs) (mk : ByteArray) (l : List ByteArray) : Prop where
  secs : wr.ownsRow W0 399 2 v (vs.length + 1) (scells (vs ++ [(mk, pv)]))
  last : wr.ownsRow W0 9 1 pv l.length (l.map Value.string)
  const : Stable c wr (fun w => SecsC W0 w vs I)
  c1 : ∀ k, v.ownBlock = some k → c k = 1
  c2 : ∀ k, pv.ownBlock = some k → c k = 2
  low : ∀ k, k < W0 → c k = 0
  below : Below W0 w wr
theorem PathsAt.later {W0 : Nat} {w wr w' : World} {c : Nat → Nat} {v pv : Value} {vs : SecV} {I : Secs} {mk : ByteArray} {l : List ByteArray} (h : PathsAt W0 w wr c v pv vs I mk l) (hb : Below wr.heap.size wr w') (hW : W0 ≤ wr.heap.size) : PathsAt W0 w w' c v pv vs I mk l where
  secs := rkeep h.secs (fun k hk => hb.block k (rblock h.secs k hk).2)
  last := rkeep h.last (fun k hk => hb.block k (rblock h.last k hk).2)
  const := h.const.step hb.size (fun k hk h0 => ⟨hb.block k hk, h0⟩)
  c1 := h.c1
  c2 := h.c2
  low := h.low
  below := h.below.trans (hb.mono hW)
theorem texts_own {w : World} {base : Nat} {v : Value} {l : List ByteArray} (h : w.ownsRow base 9 1 v l.length (l.map Value.string)) : TextsAt w v l := by
  obtain ⟨ao2, cap2, e, hc2, hg2⟩ := row_form h
  subst e
  refine ⟨ao2, cap2, rfl, hc2, ?_⟩
  by_cases h0 : l = []
  · refine Or.inl ⟨fun e => ?_, h0, trivial⟩
    obtain ⟨_, ⟨e2, _⟩ | ⟨g2, _, _, e2, _⟩⟩ := h
    · injection e2
    · injection e2 with e3 _ _; rw [e] at e3; cases e3
  · obtain ⟨g2, rfl⟩ := hg2 (List.length_pos_iff.2 h0)
    refine Or.inr ⟨g2, 0, rfl, fun k s hs => ?_⟩
    rw [Nat.zero_add]
    exact (row_cell h k _ (by rw [List.getElem?_map, hs]; rfl)).1
/-- Sections that are there. -/
def SecsAt (W0 : Nat) (w : World) (v : Value) (s : Secs) : Prop := ∃ g cap, v = .slice (some ⟨g, 0, none⟩) s.length cap ∧ s.length ≤ cap ∧ ∃ vs : SecV, SecsC W0 w vs s ∧ ∀ i x, vs[i]? = some x → w.cell? ⟨g, i * 2, none⟩ = some (.string x.1) ∧ w.cell? ⟨g, i * 2 + 1, none⟩ = some x.2
theorem PathsAt.done {W0 : Nat} {w wr : World} {c : Nat → Nat} {v pv : Value} {vs : SecV} {I : Secs} {mk : ByteArray} {l : List ByteArray} (h : PathsAt W0 w wr c v pv vs I mk l) : SecsAt W0 wr v (I ++ [(mk, l)]) := by
  obtain ⟨ao, cap, rfl, hc, hg⟩ := row_form h.secs
  obtain ⟨g, rfl⟩ := hg (by omega)
  have hcn := h.const.now
  have hlen : (I ++ [(mk, l)]).length = vs.length + 1 := by rw [List.length_append, hcn.1]; rfl
  refine ⟨g, cap, by rw [hlen], by rw [hlen]; exact hc, vs ++ [(mk, pv)], ⟨by rw [List.length_append, hlen]; rfl, fun k x y hx hy => ?_⟩, fun i x hx => ?_⟩
  · rcases Nat.lt_or_ge k vs.length with q | q
    · rw [List.getElem?_append_left q] at hx
      rw [List.getElem?_append_left (by rw [← hcn.1]; exact q)] at hy
      exact hcn.2 k x y hx hy
    · have hk : k = vs.length := by
        have := (List.getElem?_eq_some_iff.1 hx).1
        rw [List.length_append] at this
        simp at this
        omega
      subst hk
      rw [List.getElem?_append_right (Nat.le_refl _), Nat.sub_self] at hx
      rw [hcn.1, List.getElem?_append_right (Nat.le_refl _), Nat.sub_self] at hy
      obtain rfl := Option.some.inj hx
      obtain rfl := Option.some.inj hy
      exact ⟨rfl, texts_own h.last, fun k hk => (rblock h.last k hk).1⟩
  · have hc2 := scells_at hx
    exact ⟨(row_cell h.secs _ _ hc2.1).1, (row_cell h.secs _ _ hc2.2).1⟩
/-- A section more: the last paths stay as they are. -/
theorem PathsAt.more {W0 : Nat} {w wr w' : World} {c : Nat → Nat} {v v' pv : Value} {vs : SecV} {I : Secs} {mk m2 : ByteArray} {l : List ByteArray} (h : PathsAt W0 w wr c v pv vs I mk l) (hg : wr.grownBy w' v.ownBlock) (hv : w'.ownsRow W0 399 2 v' (vs.length + 1 + 1) (scells (vs ++ [(mk, pv)] ++ [(m2, .slice none 0 0)]))) (hat : ∀ k, v'.ownBlock = some k → v.ownBlock = some k ∨ wr.heap.size ≤ k) (hW : W0 ≤ wr.heap.size) : ∃ c', PathsAt W0 w w' c' v' (.slice none 0 0) (vs ++ [(mk, pv)]) (I ++ [(mk, l)]) m2 [] := by
  have hoff : ∀ k, k < wr.heap.size → c k ≠ 1 → w'.heap[k]? = wr.heap[k]? := fun k hk hc => hg.block k hk (fun e => hc (h.c1 k e.symm))
  refine ⟨fun k => if v'.ownBlock = some k then 1 else if c k = 2 then 0 else if c k = 1 then 3 else c k, ?_⟩
  exact {
    secs := by rw [List.length_append]; exact hv
    last := World.ownsRow_nil _ _ _ _
    const := fun w'' hs hk => by
      have hk2 : ∀ k, k < wr.heap.size → c k = 0 ∨ c k = 2 → w''.heap[k]? = wr.heap[k]? := fun k h1 h2 => by
        refine (hk k (Nat.lt_of_lt_of_le h1 hg.size) ?_).trans (hoff k h1 (by omega))
        show (if v'.ownBlock = some k then 1 else if c k = 2 then 0 else if c k = 1 then 3 else c k) = 0
        rw [if_neg (fun e => by
          rcases hat k e with q | q
          · have := h.c1 k q; omega
          · omega)]
        rcases h2 with h2 | h2
        · rw [if_neg (by omega), if_neg (by omega)]; exact h2
        · rw [if_pos h2]
      have hcn := h.const w'' (Nat.le_trans hg.size hs) (fun k h1 h2 => hk2 k h1 (Or.inl h2))
      have hl : w''.ownsRow W0 9 1 pv l.length (l.map Value.string) := rkeep h.last (fun k hk' => hk2 k (rblock h.last k hk').2 (Or.inr (h.c2 k hk')))
      refine ⟨by rw [List.length_append, List.length_append, hcn.1]; rfl, fun k x y hx hy => ?_⟩
      rcases Nat.lt_or_ge k vs.length with q | q
      · rw [List.getElem?_append_left q] at hx
        rw [List.getElem?_append_left (by rw [← hcn.1]; exact q)] at hy
        exact hcn.2 k x y hx hy
      · have hkk : k = vs.length := by
          have := (List.getElem?_eq_some_iff.1 hx).1
          rw [List.length_append] at this
          simp at this
          omega
        subst hkk
        rw [List.getElem?_append_right (Nat.le_refl _), Nat.sub_self] at hx
        rw [hcn.1, List.getElem?_append_right (Nat.le_refl _), Nat.sub_self] at hy
        obtain rfl := Option.some.inj hx
        obtain rfl := Option.some.inj hy
        exact ⟨rfl, texts_own hl, fun k hk => (rblock hl k hk).1⟩
    c1 := fun k hk => if_pos hk
    c2 := fun k hk => by cases hk
    low := fun k hk => by
      show (if v'.ownBlock = some k then 1 else if c k = 2 then 0 else if c k = 1 then 3 else c k) = 0
      rw [if_neg (fun e => by
        rcases hat k e with q | q
        · have := h.c1 k q; have := h.low k hk; omega
        · omega)]
      have := h.low k hk
      rw [if_neg (by omega), if_neg (by omega)]; exact this
    below := h.below.grown hg hW (fun k hk => (rblock h.secs k hk).1) }
end Go.Proofs.YthhbpebihgjpjaaGreatDoor

namespace Go.Proofs.YthhbpebihgjpjaaGreatDoor
open Go.RowKit Go.Shelf
set_option maxRecDepth 1000000

/-- A path more. -/
theorem PathsAt.add {W0 : Nat} {w wr w6 : World} {c : Nat → Nat} {pv pv' : Value} {vs : SecV} {I : Secs} {mk p : ByteArray} {l : List ByteArray} {g n cap : Nat} (h : PathsAt W0 w wr c (.slice (some ⟨g, 0, none⟩) n cap) pv vs I mk l) (hn : n = vs.length + 1) (hg : wr.grownBy w6 pv.ownBlock) (hl : w6.ownsRow W0 9 1 pv' (l.length + 1) (l.map Value.string ++ [.string p])) (hat : ∀ k, pv'.ownBlock = some k → pv.ownBlock = some k ∨ wr.heap.size ≤ k) (hW : W0 ≤ wr.heap.size) : ∃ c', PathsAt W0 w (w6.setCell ⟨g, vs.length * 2 + 1, none⟩ pv') c' (.slice (some ⟨g, 0, none⟩) n cap) pv' vs I mk (l ++ [p]) := by
  have hgc : c g = 1 := h.c1 g rfl
  have hgb := rblock h.secs g rfl
  have hoff : ∀ k, k < wr.heap.size → c k ≠ 2 → w6.heap[k]? = wr.heap[k]? := fun k hk hc => hg.block k hk (fun e => hc (h.c2 k e.symm))
  have hne : pv'.ownBlock ≠ some g := fun e => by
    rcases hat g e with q | q
    · have := h.c2 g q; omega
    · omega
  refine ⟨fun k => if pv'.ownBlock = some k then 2 else c k, ?_⟩
  have hs6 : w6.ownsRow W0 399 2 (.slice (some ⟨g, 0, none⟩) n cap) n (scells (vs ++ [(mk, pv)])) := by
    have h1 := rkeep h.secs (w' := w6) (fun k hk => by
      have e : g = k := Option.some.inj hk
      subst e
      exact hoff _ hgb.2 (by rw [hgc]; decide))
    rw [hn]; rw [hn] at h1; exact h1
  exact {
    secs := by
      have h1 := row_set hs6 (vs.length * 2 + 1) pv'
      rw [scells_set] at h1
      rw [← hn]; exact h1
    last := by
      rw [List.length_append, List.map_append]
      exact rkeep hl (fun k hk => heap_setCell_other _ _ _ _ (fun e => hne (by rw [← show k = g from e]; exact hk)))
    const := h.const.step (by simpa using hg.size) (fun k hk h0 => ⟨by
      rw [heap_setCell_other _ _ _ _ (show k ≠ g from fun e => by rw [e] at h0; omega)]
      exact hoff k hk (by omega), by
      show (if pv'.ownBlock = some k then 2 else c k) = 0
      rw [if_neg (fun e => by
        rcases hat k e with q | q
        · have := h.c2 k q; omega
        · omega)]
      exact h0⟩)
    c1 := fun k hk => by
      have e : g = k := Option.some.inj hk
      subst e
      show (if pv'.ownBlock = some g then 2 else c g) = 1
      rw [if_neg hne]; exact hgc
    c2 := fun k hk => if_pos hk
    low := fun k hk => by
      show (if pv'.ownBlock = some k then 2 else c k) = 0
      rw [if_neg (fun e => by
        rcases hat k e with q | q
        · have := h.c2 k q; have := h.low k hk; omega
        · omega)]
      exact h.low k hk
    below := (h.below.grown hg hW (fun k hk => (rblock h.last k hk).1)).setCell (p := ⟨g, vs.length * 2 + 1, none⟩) hgb.1 _ }
theorem PathsAt.still {W0 : Nat} {w wr w6 : World} {c : Nat → Nat} {pv : Value} {vs : SecV} {I : Secs} {mk : ByteArray} {l : List ByteArray} {g n cap : Nat} (h : PathsAt W0 w wr c (.slice (some ⟨g, 0, none⟩) n cap) pv vs I mk l) (hn : n = vs.length + 1) (hg : wr.grownBy w6 pv.ownBlock) : w6.cell? ⟨g, vs.length * 2 + 1, none⟩ = some pv ∧ w6.frozen? ⟨g, vs.length * 2 + 1, none⟩ = false := by
  have hgc : c g = 1 := h.c1 g rfl
  have hgb := rblock h.secs g rfl
  have h1 := rkeep h.secs (w' := w6) (fun k hk => by
    have e : g = k := Option.some.inj hk
    subst e
    exact hg.block _ hgb.2 (fun e => by have := h.c2 g e.symm; omega))
  rw [← hn] at h1
  exact row_cell h1 (vs.length * 2 + 1) pv (scells_at (l := vs ++ [(mk, pv)]) (i := vs.length) (x := (mk, pv)) (by simp)).2
theorem contains_any (ms : List ByteArray) (v : Value) (x : ByteArray) (w : World) (h : TextsAt w v ms) (hl : ms.length ≤ 1048576) :
    Calls Tryz.prog 321 #[v, .string x] w fun e w' => e = .returned (.bool (memB x ms)) ∧ w' = w := by
  obtain ⟨ao, cap, rfl, hc, h⟩ := h
  have hm : ∀ zs : List ByteArray, Lib.containsS zs x = memB x zs := fun zs => by
    rw [Bool.eq_iff_iff, Lib.containsS_iff]
    unfold memB
    rw [List.any_eq_true]
    exact ⟨fun h => ⟨x, h, decide_eq_true rfl⟩, fun ⟨y, h1, h2⟩ => by rw [← of_decide_eq_true h2]; exact h1⟩
  rcases h with ⟨_, rfl, _⟩ | ⟨b, o, rfl, h⟩
  · exact Any.slices_Contains_string_empty Tryz.lays110 ao cap x w
  · refine (Any.slices_Contains_string Tryz.lays110 b o ms.length cap ms x w (Nat.le_refl _) (by omega) (fun j hj => ?_)).mono ?_
    · rw [h j (ms[j]) (by simp)]
      simp [List.getD, hj]
    · rintro e w' ⟨rfl, rfl⟩
      rw [List.take_length, hm]
      exact ⟨rfl, rfl⟩
end Go.Proofs.YthhbpebihgjpjaaGreatDoor
