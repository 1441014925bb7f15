import Derived.Test.YthhbpebihgjpjaaGreatDoorP44
import Derived.Test.YthhbpebihgjpjaaGreatDoorP03
import Derived.Test.YthhbpebihgjpjaaGreatDoorChecked
import Derived.Test.YthhbpebihgjpjaaGreatDoorP02
import Derived.WalkKit
import Derived.Outline
import Derived.WalkLawsBesides
import Derived.Deep.RegionHeld3
import Derived.BigRegion
import Derived.BigQuiet
import Derived.Deep.QuietTactic
namespace Go.Proofs.YthhbpebihgjpjaaGreatDoor
open Go.RowKit
set_option maxRecDepth 1000000

theorem elcells_at (l : List (Value × Value)) : ∀ (j : Nat) (x : Value × Value), l[j]? = some x → (elcells l)[j * 6]? = some (.slice none 0 0) ∧ (elcells l)[j * 6 + 1]? = some (.slice none 0 0) ∧ (elcells l)[j * 6 + 2]? = some (.slice none 0 0) ∧ (elcells l)[j * 6 + 3]? = some (.slice none 0 0) ∧ (elcells l)[j * 6 + 4]? = some x.1 ∧ (elcells l)[j * 6 + 5]? = some x.2 := by
 induction l with
 | nil => intro j x h; simp at h
 | cons y l ih =>
  intro j x h
  cases j with
  | zero => simp at h; subst h; exact ⟨rfl, rfl, rfl, rfl, rfl, rfl⟩
  | succ j =>
   have h2 := ih j x (by simpa using h)
   have e : ∀ r, (elcells (y :: l))[(j + 1) * 6 + r]? = (elcells l)[j * 6 + r]? := fun r => by
    have : (j + 1) * 6 + r = (j * 6 + r) + 6 := by omega
    rw [this]; rfl
   exact ⟨(e 0).trans h2.1, (e 1).trans h2.2.1, (e 2).trans h2.2.2.1, (e 3).trans h2.2.2.2.1, (e 4).trans h2.2.2.2.2.1, (e 5).trans h2.2.2.2.2.2⟩
set_option maxHeartbeats 2000000 in
theorem sameInts_nil (w : World) : Calls Tryz.prog 92 #[.slice none 0 0, .slice none 0 0] w fun e w' => e = .returned (.bool true) ∧ w' = w := by
 go_enter Tryz.func92, Tryz.ntmps92
 go_wp2
 refine wp_loop_rounds 1 ?_
 rw [rounds_succ]
 go_wp2
 go_ret
 exact ⟨rfl, rfl⟩
theorem TextsAt.stay {w w' : World} {v : Value} {l : List ByteArray} (h : TextsAt w v l) (hb : ∀ k, k < w.heap.size → w'.heap[k]? = w.heap[k]?) : TextsAt w' v l := by
 obtain ⟨ao, cap, rfl, hc, h | ⟨b, o, rfl, h⟩⟩ := h
 ·exact ⟨ao, cap, rfl, hc, Or.inl h⟩
 ·exact ⟨_, cap, rfl, hc, Or.inr ⟨b, o, rfl, fun k s hs => (World.cell?_of_block (w := w) (a := ⟨b, o + k, none⟩) (hb b (block_lt_of_cell (h k s hs)))).trans (h k s hs)⟩⟩
theorem EdgeRowAt.later {w w' : World} {v : Value} {es : List EdgeS} {cs : List ByteArray} (h : EdgeRowAt w v es cs) (hb : ∀ k, k < w.heap.size → w'.heap[k]? = w.heap[k]?) : EdgeRowAt w' v es cs := by
 have f : ∀ (p : Addr) u, w.cell? p = some u → w'.cell? p = some u := fun p u h => by rw [World.cell?_of_block (w := w) (a := p) (hb _ (block_lt_of_cell h))]; exact h
 obtain ⟨ao, cap, rfl, h | ⟨g, o, rfl, h⟩⟩ := h
 ·exact ⟨ao, cap, rfl, Or.inl h⟩
 ·refine ⟨_, cap, rfl, Or.inr ⟨g, o, rfl, fun k e c he hc => ?_⟩⟩
  obtain ⟨vo, vi, vm, vr, ⟨h0, h1, h2, h3, h4, h5⟩, t1, t2, t3, t4⟩ := h k e c he hc
  exact ⟨vo, vi, vm, vr, ⟨f _ _ h0, f _ _ h1, f _ _ h2, f _ _ h3, f _ _ h4, f _ _ h5⟩, t1.stay hb, t2.stay hb, t3.stay hb, t4.stay hb⟩
set_option maxHeartbeats 4000000 in
theorem looks_edges {c : Nat → Nat} {w0 : World} {wb : Nat} {mv vp vq vl : Value} {ps qs : List Value} {E : List (Value × Value)} {left : Int} {w : World} (h : ParSt c w0 wb mv vp vq vl ps qs E left w) (hE : E.length ≤ 262145) :
  Calls Tryz.prog 57 #[.pointer (some ⟨wb, 0, none⟩)] w fun e w' => e = .returned (.bool true) ∧ Below w.heap.size w w' := by
 have H : Hid (ParSt c w0 wb mv vp vq vl ps qs E left w) := h
 obtain ⟨al, cl, hlf, _, hgl⟩ := row_form h.lists
 have HLF : Hid (vl = .slice al E.length cl ∧ (0 < E.length → ∃ g, al = some ⟨g, 0, none⟩)) := ⟨hlf, hgl⟩
 clear h hlf hgl
 generalize hEN : E.length = EN at *
 have HEN : Hid (E.length = EN) := hEN
 clear hEN
 go_enter Tryz.func57, Tryz.ntmps57
 go_wp2
 go_loopw [3] (fun i wr => ∃ j : Nat, i = .int .i64 j ∧ j ≤ EN ∧ Below w.heap.size w wr) (fun i _ => EN - (intOf i).toNat)
 case atStart => exact ⟨0, rfl, Nat.zero_le _, Below.refl _ _⟩
 case round =>
  obtain ⟨j, rfl, hle, hb⟩ := hrel
  have HB : Hid (Below w.heap.size w wr) := hb
  have H1 : Hid (ParSt c w0 wb mv vp vq vl ps qs E left wr) := H.out.below hb
  have c4 : wr.cell? ⟨wb, 4, none⟩ = some (.slice al EN cl) := by rw [cell_of_row _ _ _ _ _ _ H1.out.row]; exact congrArg some HLF.out.1
  clear hb
  have i0 : (0 : Int) ≤ (j : Int) := by omega
  by_cases hlt : j < EN
  ·have i1 : (j : Int) < (EN : Int) := by omega
   obtain ⟨x, hx⟩ : ∃ x, E[j]? = some x := ⟨E[j]'(by have := HEN.out; omega), by simp⟩
   obtain ⟨g, rfl⟩ := HLF.out.2 (by omega)
   obtain ⟨xe, xd⟩ := x
   have hl := H1.out.lists
   rw [HLF.out.1, HEN.out] at hl
   have hc := elcells_at E j (xe, xd) hx
   have q0 := (row_cell hl _ _ hc.1).1
   have q1 := (row_cell hl _ _ hc.2.1).1
   have q2 := (row_cell hl _ _ hc.2.2.1).1
   have q3 := (row_cell hl _ _ hc.2.2.2.1).1
   have q4 := (row_cell hl _ _ hc.2.2.2.2.1).1
   have q5 := (row_cell hl _ _ hc.2.2.2.2.2).1
   have hgood : Stable c wr (EdgesGood (xe, xd)) := fun w'' hs hk => H1.out.const w'' hs hk (xe, xd) (List.mem_of_getElem? hx)
   obtain ⟨es, cs, g1, g2, g3, g4, g5⟩ := hgood.now
   obtain ⟨a1, p1, e1, _⟩ := id g1
   obtain ⟨a2, p2, e2, _⟩ := id g2
   simp only at e1 e2
   subst e1 e2
   have HG : Hid (∀ w'', (∀ k, k < wr.heap.size → w''.heap[k]? = wr.heap[k]?) → EdgeRowAt w'' (.slice a1 es.length p1) es cs ∧ EdgeRowAt w'' (.slice a2 es.length p2) es cs) := fun w'' hk => ⟨g1.later hk, g2.later hk⟩
   have HOK : Hid (es.length ≤ 64 ∧ cs.length = es.length ∧ fewE es) := ⟨g3, g4, g5⟩
   have hba : Below wr.heap.size wr (wr.alloc (.cells #[.slice none 0 0, .slice none 0 0, .slice none 0 0, .slice none 0 0, .slice a1 es.length p1, .slice a2 es.length p2] 166)) := (Below.refl _ _).alloc (Nat.le_refl _) _
   have HBA : Hid (Below wr.heap.size wr (wr.alloc (.cells #[.slice none 0 0, .slice none 0 0, .slice none 0 0, .slice none 0 0, .slice a1 es.length p1, .slice a2 es.length p2] 166))) := hba
   have HCA : Hid ((wr.alloc (.cells #[.slice none 0 0, .slice none 0 0, .slice none 0 0, .slice none 0 0, .slice a1 es.length p1, .slice a2 es.length p2] 166)).heap[wr.heap.size]? = some (.cells #[.slice none 0 0, .slice none 0 0, .slice none 0 0, .slice none 0 0, .slice a1 es.length p1, .slice a2 es.length p2] 166 (0, 0))) := heapA_new _ _ _ rfl
   have HST : Hid (∀ wx, Calls Tryz.prog 91 #[.slice none 0 0, .slice none 0 0] wx fun e w' => e = .returned (.bool true) ∧ ∃ m, w' = wx.drewN m) := fun wx => by
    have := sameTexts_any [] [] (.slice none 0 0) (.slice none 0 0) wx ⟨none, 0, rfl, Nat.le_refl _, Or.inl ⟨fun _ => rfl, rfl, trivial⟩⟩ ⟨none, 0, rfl, Nat.le_refl _, Or.inl ⟨fun _ => rfl, rfl, trivial⟩⟩ (by decide)
    simpa using this
   clear hba g1 g2 g3 g4 g5 hgood hc hl hx
   generalize hES : es.length = EL at *
   have HES : Hid (es.length = EL) := hES
   clear hES
   go_wp2_with fail
   clear q0 q1 q2 q3 q4 q5 c4
   generalize wr.alloc (.cells #[.slice none 0 0, .slice none 0 0, .slice none 0 0, .slice none 0 0, .slice a1 EL p1, .slice a2 EL p2] 166) = wA at *
   refine (HST.out wA).mono ?_
   rintro e w2 ⟨rfl, m2, rfl⟩
   have z2 : (wA.drewN m2).cell? ⟨wr.heap.size, 2, none⟩ = some (.slice none 0 0) := by show wA.cell? _ = _; rw [cell_of_row _ _ _ _ _ _ HCA.out]; rfl
   have z3 : (wA.drewN m2).cell? ⟨wr.heap.size, 3, none⟩ = some (.slice none 0 0) := by show wA.cell? _ = _; rw [cell_of_row _ _ _ _ _ _ HCA.out]; rfl
   have z4 : (wA.drewN m2).cell? ⟨wr.heap.size, 4, none⟩ = some (.slice a1 EL p1) := by show wA.cell? _ = _; rw [cell_of_row _ _ _ _ _ _ HCA.out]; rfl
   have z5 : (wA.drewN m2).cell? ⟨wr.heap.size, 5, none⟩ = some (.slice a2 EL p2) := by show wA.cell? _ = _; rw [cell_of_row _ _ _ _ _ _ HCA.out]; rfl
   have HB2 : Hid (Below wr.heap.size wr (wA.drewN m2)) := below_drewN HBA.out m2
   clear HBA HCA HST
   generalize wA.drewN m2 = w3 at *
   have HSE : Hid (Calls Tryz.prog 93 #[.slice a1 EL p1, .slice a2 EL p2] w3 fun e w' => e = .returned (.bool true) ∧ ∃ q, w' = w3.drewN q) := by
    have h2 := HG.out w3 HB2.out.block
    exact sameEdges_same es cs _ _ w3 h2.1 h2.2 (by have := HOK.out.1; have := HES.out; omega) (by have := HOK.out.2.1; have := HES.out; omega) HOK.out.2.2
   go_wp2_with (first
    | (go_at_call 92; refine (sameInts_nil _).mono ?_; rintro e w' ⟨rfl, hw⟩; rw [hw]; clear hw w')
    | fail)
   refine HSE.out.mono ?_
   rintro e w4 ⟨rfl, m4, rfl⟩
   have HFN : Hid (Below w.heap.size w (w3.drewN m4)) := below_drewN (HB.out.trans (HB2.out.mono HB.out.size)) m4
   go_wp2_with fail
   exact ⟨⟨j + 1, by go_num, hlt, HFN.out⟩, by simp [intOf]; omega⟩
  ·have i1 : ¬ (j : Int) < (EN : Int) := by omega
   go_wp2_with fail
   go_ret
   exact ⟨rfl, HB.out⟩
def ParPost (w0 : World) (wb : Nat) (mv : Value) (n : Nat) (left : Int) (e : Ending) (w' : World) : Prop := e = .returned (.bool true) ∧ ∃ c' vp' vq' vl' ps' qs' E', ParSt c' w0 wb mv vp' vq' vl' ps' qs' E' left w' ∧ ps'.length ≤ n ∧ qs'.length ≤ n ∧ E'.length ≤ n
set_option maxHeartbeats 2000000 in
theorem step_parse (x : OpV) (hk : x.kd = 14) (a : Nat → Addr) (tt : Nat → ByteArray) {c : Nat → Nat} {w0 : World} {wb : Nat} {mv vp vq vl : Value} {ps qs : List Value} {E : List (Value × Value)} {left : Int} {w : World} {n : Nat} (h : ParSt c w0 wb mv vp vq vl ps qs E left w) (hg : Gl a w0) (hS : Sents a tt w0) (hng : 14 ≤ w0.heap.size) (ht : x.s.size ≤ 140737488351232) (hlf : -281474976710656 ≤ left ∧ left ≤ 262144) (hn : ps.length ≤ n ∧ qs.length ≤ n ∧ E.length ≤ n) (hn2 : n ≤ 262144) :
  Calls Tryz.prog 56 #[.pointer (some ⟨wb, 0, none⟩), .agg x.vals.toArray] w (ParPost w0 wb mv (n + 1) (left - x.s.size)) := by
 obtain ⟨kd, ya, yb, yd, ys, yt, la, ln, lc, ma, mn, mc⟩ := x
 simp only at hk ht
 subst hk
 simp only [OpV.vals]
 have H1 : Hid (ParSt c w0 wb mv vp vq vl ps qs E left (w.alloc (.cells #[.int .i64 14, .int .i64 ya, .int .i64 yb, .int .i64 yd, .string ys, .string yt, .slice la ln lc, .slice ma mn mc] 104))) := h.below ((Below.refl _ _).alloc (Nat.le_refl _) _)
 have c4 : (w.alloc (.cells #[.int .i64 14, .int .i64 ya, .int .i64 yb, .int .i64 yd, .string ys, .string yt, .slice la ln lc, .slice ma mn mc] 104)).cell? ⟨w.heap.size, 4, none⟩ = some (.string ys) := cell_fresh _ _ _ _ _ rfl
 have HPA : Hid (∀ wx, ParSt c w0 wb mv vp vq vl ps qs E left wx → Calls Tryz.prog 82 #[.pointer (some ⟨wb, 0, none⟩), .string ys] wx fun e w' => e = .returned (.bool true) ∧ ∃ c' vp' vq' vl' ps' qs' E', ParSt c' w0 wb mv vp' vq' vl' ps' qs' E' (left - ys.size) w' ∧ ps'.length ≤ ps.length + 1 ∧ qs'.length ≤ qs.length + 1 ∧ E'.length ≤ E.length + 1) := fun wx hx => parsed_any ys a tt hx hg hS hng ht hlf ⟨by omega, by omega, by omega⟩
 have HN : Hid (ps.length ≤ n ∧ qs.length ≤ n ∧ E.length ≤ n) := hn
 clear h hg hS hng ht hlf hn hn2
 go_enter Tryz.func56, Tryz.ntmps56
 go_wp2_with fail
 generalize w.alloc (.cells #[.int .i64 14, .int .i64 ya, .int .i64 yb, .int .i64 yd, .string ys, .string yt, .slice la ln lc, .slice ma mn mc] 104) = W1 at *
 refine (HPA.out W1 H1.out).mono ?_
 rintro e w2 ⟨rfl, c', vp', vq', vl', ps', qs', E', hst, h1, h2, h3⟩
 have HFIN : Hid (∃ c' vp' vq' vl' ps' qs' E', ParSt c' w0 wb mv vp' vq' vl' ps' qs' E' (left - ys.size) w2 ∧ ps'.length ≤ n + 1 ∧ qs'.length ≤ n + 1 ∧ E'.length ≤ n + 1) := by
  have := HN.out
  exact ⟨c', vp', vq', vl', ps', qs', E', hst, by omega, by omega, by omega⟩
 clear hst h1 h2 h3
 go_wp2_with fail
 go_ret
 exact ⟨rfl, HFIN.out⟩
end Go.Proofs.YthhbpebihgjpjaaGreatDoor

namespace Go.Proofs.YthhbpebihgjpjaaGreatDoor
open Go.RowKit
set_option maxRecDepth 1000000

def natsV (l : List Nat) : Array Value := (l.map fun x : Nat => Value.int .i64 (x : Int)).toArray
theorem natsV_size (l : List Nat) : (natsV l).size = l.length := by simp [natsV]
theorem natsV_at (l : List Nat) (i : Nat) (h : i < l.length) : (natsV l)[i]? = some (.int .i64 ((l.getD i 0 : Nat) : Int)) := by
 simp [natsV, h]
theorem natsV_set (l : List Nat) (n v : Nat) : (natsV l).setIfInBounds n (.int .i64 (v : Int)) = natsV (l.set n v) := by
 simp [natsV]

/-! The loops of 'times', as plain functions: 'none' where an index would leave its row, or a number grow great. -/
def carry : Nat → List Nat → Nat → Option (List Nat)
 | 0, _, _ => none
 | f + 1, c, k =>
  if c.getD k 0 < 65536 then (if k < c.length then some c else none)
  else if k + 1 < c.length ∧ c.getD k 0 < 1099511627776 ∧ c.getD (k + 1) 0 < 1099511627776 then carry f ((c.set (k + 1) (c.getD (k + 1) 0 + c.getD k 0 / 65536)).set k (c.getD k 0 % 65536)) (k + 1)
  else none
def stepAdd (a b : List Nat) (i j : Nat) (c : List Nat) : Option (List Nat) :=
 if i + j < c.length ∧ c.getD (i + j) 0 < 1099511627776 ∧ a.getD i 0 < 1048576 ∧ b.getD j 0 < 1048576 then some (c.set (i + j) (c.getD (i + j) 0 + a.getD i 0 * b.getD j 0)) else none
def timesJ (a b : List Nat) (i : Nat) : Nat → Nat → List Nat → Option (List Nat)
 | 0, _, c => some c
 | r + 1, j, c => (stepAdd a b i j c).bind fun c1 => (carry 40 c1 (i + j)).bind fun c2 => timesJ a b i r (j + 1) c2
def timesI (a b : List Nat) : Nat → Nat → List Nat → Option (List Nat)
 | 0, _, c => some c
 | r + 1, i, c => (timesJ a b i b.length 0 c).bind fun c1 => timesI a b r (i + 1) c1
def timesM (a b : List Nat) : Option (List Nat) := timesI a b a.length 0 (List.replicate (a.length + b.length) 0)
theorem carry_length (f : Nat) : ∀ (c : List Nat) (k : Nat) (c' : List Nat), carry f c k = some c' → c'.length = c.length ∧ k < c.length := by
 induction f with
 | zero => intro c k c' h; cases h
 | succ f ih =>
  intro c k c' h
  unfold carry at h
  by_cases h1 : c.getD k 0 < 65536
  ·rw [if_pos h1] at h
   by_cases h2 : k < c.length
   ·rw [if_pos h2] at h; cases h; exact ⟨rfl, h2⟩
   ·rw [if_neg h2] at h; cases h
  ·rw [if_neg h1] at h
   split at h
   ·rename_i h2
    have := ih _ _ _ h
    simp at this
    exact ⟨this.1, by omega⟩
   ·cases h

structure TMem (c : List Nat) (w wr : World) : Prop where
 row : wr.heap[w.heap.size]? = some (.cells (natsV c) 3 (0, 0))
 below : Below w.heap.size w wr
theorem TMem.drew {c : List Nat} {w wr : World} (h : TMem c w wr) : TMem c w wr.drew := ⟨h.row, h.below.drew⟩
theorem TMem.set {c : List Nat} {w wr : World} (h : TMem c w wr) (n v : Nat) : TMem (c.set n v) w (wr.setCell ⟨w.heap.size, n, none⟩ (.int .i64 (v : Int))) :=
 ⟨by rw [heap_setCell_same _ _ _ _ _ _ h.row, natsV_set], h.below.setCell (by simp) _⟩
theorem TMem.put {c : List Nat} {w wr : World} (h : TMem c w wr) (n v : Nat) (u : Int) (hu : u = (v : Int)) : TMem (c.set n v) w (wr.setCell ⟨w.heap.size, n, none⟩ (.int .i64 u)) := by
 subst hu; exact h.set n v
theorem TMem.cell {c : List Nat} {w wr : World} (h : TMem c w wr) (i : Nat) (hi : i < c.length) : wr.cell? ⟨w.heap.size, i, none⟩ = some (.int .i64 ((c.getD i 0 : Nat) : Int)) := by
 rw [cell_of_row _ _ _ _ _ _ h.row]; exact natsV_at _ _ hi

set_option maxHeartbeats 2000000 in
theorem times_any (a b t : List Nat) (ht : timesM a b = some t) (hla : a.length ≤ 100) (hlb : b.length ≤ 100) (ab ao ac bb bo bc : Nat) (w : World)
  (ha : ∀ i, i < a.length → w.cell? ⟨ab, ao + i, none⟩ = some (.int .i64 ((a.getD i 0 : Nat) : Int))) (hab : ab < w.heap.size)
  (hb : ∀ i, i < b.length → w.cell? ⟨bb, bo + i, none⟩ = some (.int .i64 ((b.getD i 0 : Nat) : Int))) (hbb : bb < w.heap.size)
  (hmk : ∀ wx, (Instr.makeSlice 48 (.int .i64 ((a.length : Int) + (b.length : Int))) (.int .i64 ((a.length : Int) + (b.length : Int)))).run Tryz.prog wx = .ok (.slice (some ⟨wx.heap.size, 0, none⟩) (a.length + b.length) (a.length + b.length)) (wx.alloc (.cells (natsV (List.replicate (a.length + b.length) 0)) 3))) :
  Calls Tryz.prog 279 #[.slice (some ⟨ab, ao, none⟩) a.length ac, .slice (some ⟨bb, bo, none⟩) b.length bc] w fun e w' => e = .returned (.slice (some ⟨w.heap.size, 0, none⟩) (a.length + b.length) (a.length + b.length)) ∧ TMem t w w' ∧ t.length = a.length + b.length := by
 have HA : Hid (∀ i, i < a.length → w.cell? ⟨ab, ao + i, none⟩ = some (.int .i64 ((a.getD i 0 : Nat) : Int))) := ha
 have HBb : Hid (∀ i, i < b.length → w.cell? ⟨bb, bo + i, none⟩ = some (.int .i64 ((b.getD i 0 : Nat) : Int))) := hb
 have HT : Hid (timesI a b a.length 0 (List.replicate (a.length + b.length) 0) = some t) := ht
 have H0 : Hid (TMem (List.replicate (a.length + b.length) 0) w (w.alloc (.cells (natsV (List.replicate (a.length + b.length) 0)) 3))) := ⟨heapA_new _ _ _ rfl, (Below.refl _ _).alloc (Nat.le_refl _) _⟩
 clear ha hb ht
 have la1 : (a.length : Int) ≤ 100 := by omega
 have lb1 : (b.length : Int) ≤ 100 := by omega
 generalize hz : List.replicate (a.length + b.length) 0 = z0 at *
 have hz0 : z0.length = a.length + b.length := by rw [← hz]; simp
 have HZL : Hid (z0.length = a.length + b.length) := hz0
 clear hz hz0
 go_enter Tryz.func279, Tryz.ntmps279
 go_wp2
 clear hmk
 go_loopw [6] (fun v wr => ∃ (i : Nat) (c : List Nat), i ≤ a.length ∧ v = .int .i64 i ∧ c.length = a.length + b.length ∧ Hid (timesI a b (a.length - i) i c = some t) ∧ TMem c w wr) (fun v _ => a.length - (intOf v).toNat)
 case atStart => exact ⟨0, z0, by omega, rfl, HZL.out, HT.out, H0.out⟩
 case round =>
  clear HT H0 HZL
  obtain ⟨i, c, hi, rfl, hc, HI, hm⟩ := hrel
  have HM : Hid (TMem c w wr) := hm
  have HC : Hid (c.length = a.length + b.length) := hc
  clear hm hc
  by_cases hlt : i < a.length
  ·have i1 : (i : Int) < (a.length : Int) := by omega
   obtain ⟨c1, hc1, hc2⟩ : ∃ c1, timesJ a b i b.length 0 c = some c1 ∧ timesI a b (a.length - (i + 1)) (i + 1) c1 = some t := by
    have h := HI.out
    rw [show a.length - i = (a.length - (i + 1)) + 1 by omega] at h
    exact Option.bind_eq_some_iff.1 h
   have HJ : Hid (timesJ a b i b.length 0 c = some c1) := hc1
   have HI2 : Hid (timesI a b (a.length - (i + 1)) (i + 1) c1 = some t) := hc2
   clear hc1 hc2 HI
   obtain ⟨wo, rfl⟩ : ∃ wo : World, wo = wr := ⟨_, rfl⟩
   go_wp2
   go_loopw [7] (fun v wr => ∃ (j : Nat) (c : List Nat), j ≤ b.length ∧ v = .int .i64 j ∧ c.length = a.length + b.length ∧ Hid (timesJ a b i (b.length - j) j c = some c1) ∧ TMem c w wr) (fun v _ => b.length - (intOf v).toNat)
   case atStart => exact ⟨0, c, by omega, rfl, HC.out, HJ.out, HM.out⟩
   case round =>
    clear HJ HM HC
    obtain ⟨j, cj, hj, rfl, hcj, HJ, hm⟩ := hrel
    have HM : Hid (TMem cj w wr) := hm
    have HC : Hid (cj.length = a.length + b.length) := hcj
    clear hm hcj
    by_cases hjl : j < b.length
    ·have j1 : (j : Int) < (b.length : Int) := by omega
     obtain ⟨c2, hs2, c3, hs3, hs4⟩ : ∃ c2, stepAdd a b i j cj = some c2 ∧ ∃ c3, carry 40 c2 (i + j) = some c3 ∧ timesJ a b i (b.length - (j + 1)) (j + 1) c3 = some c1 := by
      have h := HJ.out
      rw [show b.length - j = (b.length - (j + 1)) + 1 by omega] at h
      obtain ⟨c2, e1, h⟩ := Option.bind_eq_some_iff.1 h
      obtain ⟨c3, e2, h⟩ := Option.bind_eq_some_iff.1 h
      exact ⟨c2, e1, c3, e2, h⟩
     unfold stepAdd at hs2
     split at hs2
     case isFalse => cases hs2
     rename_i hok
     obtain ⟨q1, q2, q3, q4⟩ := hok
     have hs2 := Option.some.inj hs2
     obtain ⟨x, hx⟩ : ∃ x, x = cj.getD (i + j) 0 := ⟨_, rfl⟩
     obtain ⟨y, hy⟩ : ∃ y, y = a.getD i 0 := ⟨_, rfl⟩
     obtain ⟨z, hz⟩ : ∃ z, z = b.getD j 0 := ⟨_, rfl⟩
     have cc : wr.cell? ⟨w.heap.size, i + j, none⟩ = some (.int .i64 (x : Int)) := by rw [HM.out.cell _ q1, hx]
     have ca : wr.cell? ⟨ab, ao + i, none⟩ = some (.int .i64 (y : Int)) := by rw [HM.out.below.cell (p := ⟨ab, ao + i, none⟩) hab, HA.out i hlt, hy]
     have cb : wr.cell? ⟨bb, bo + j, none⟩ = some (.int .i64 (z : Int)) := by rw [HM.out.below.cell (p := ⟨bb, bo + j, none⟩) hbb, HBb.out j hjl, hz]
     have fc : wr.frozen? ⟨w.heap.size, i + j, none⟩ = false := frozen_of_row _ _ _ _ _ HM.out.row
     have hyz : y * z < 1099511627776 := Nat.lt_of_lt_of_le (Nat.mul_lt_mul'' (by omega : y < 1048576) (by omega : z < 1048576)) (by decide)
     have HS2 : Hid (c2 = cj.set (i + j) (x + y * z)) := by rw [hx, hy, hz]; exact hs2.symm
     have HS3 : Hid (carry 40 c2 (i + j) = some c3) := hs3
     have HS4 : Hid (timesJ a b i (b.length - (j + 1)) (j + 1) c3 = some c1) := hs4
     have x1 : (x : Int) < 1099511627776 := by omega
     have y1 : (y : Int) < 1048576 := by omega
     have z1 : (z : Int) < 1048576 := by omega
     have m1 : (y : Int) * (z : Int) < 1099511627776 := by
      have : ((y * z : Nat) : Int) = (y : Int) * (z : Int) := by simp
      omega
     have m0 : (0 : Int) ≤ (y : Int) * (z : Int) := Int.mul_nonneg (by omega) (by omega)
     have kk : IntKind.i64.wrap ((y : Int) * (z : Int)) = (y : Int) * (z : Int) := by rw [IntKind.wrap_i64]; omega
     have kq : IntKind.i64.wrap ((x : Int) + (y : Int) * (z : Int)) = (x : Int) + (y : Int) * (z : Int) := by rw [IntKind.wrap_i64]; omega
     have kij : IntKind.i64.wrap ((i : Int) + (j : Int)) = (i : Int) + (j : Int) := by rw [IntKind.wrap_i64]; omega
     have p1 : (i : Int) + (j : Int) < (a.length : Int) + (b.length : Int) := by omega
     have p0 : (0 : Int) ≤ (i : Int) + (j : Int) := by omega
     clear hs2 hs3 hs4 hx hy hz q2 q3 q4 HJ
     go_wp2
     go_region
     go_wp2
     have HM2 : Hid (TMem c2 w (wr.setCell ⟨w.heap.size, i + j, none⟩ (.int .i64 ((x : Int) + (y : Int) * (z : Int)))).drew) := by
      rw [HS2.out]
      exact (HM.out.put (i + j) (x + y * z) _ (by simp)).drew
     have HC2 : Hid (c2.length = a.length + b.length) := by
      show c2.length = _
      rw [HS2.out, List.length_set]; exact HC.out
     clear HM HC cc ca cb fc x1 y1 z1 m1 m0 kk kq hyz HS2
     generalize (wr.setCell ⟨w.heap.size, i + j, none⟩ (.int .i64 ((x : Int) + (y : Int) * (z : Int)))).drew = w3 at *
     clear wr
     go_loopw [8] (fun v wr => ∃ (k f : Nat) (ck : List Nat), v = .int .i64 k ∧ ck.length = a.length + b.length ∧ Hid (carry f ck k = some c3) ∧ TMem ck w wr) (fun v _ => a.length + b.length - (intOf v).toNat)
     case atStart => exact ⟨i + j, 40, c2, by go_num, HC2.out, HS3, HM2.out⟩
     case round =>
      clear HM2 HC2 HS3
      obtain ⟨k, f, ck, rfl, hck, HF, hm⟩ := hrel
      have HM : Hid (TMem ck w wr) := hm
      have HC : Hid (ck.length = a.length + b.length) := hck
      clear hm hck
      obtain ⟨hc3, hkl⟩ := carry_length f ck k c3 HF.out
      obtain ⟨f, rfl⟩ : ∃ f', f = f' + 1 := by
       cases f with
       | zero => cases HF.out
       | succ f => exact ⟨f, rfl⟩
      have hk2 := HC.out
      have k1 : (k : Int) < (a.length : Int) + (b.length : Int) := by omega
      obtain ⟨x, hx⟩ : ∃ x, x = ck.getD k 0 := ⟨_, rfl⟩
      have cx : wr.cell? ⟨w.heap.size, k, none⟩ = some (.int .i64 (x : Int)) := by rw [HM.out.cell _ hkl, hx]
      have fx : wr.frozen? ⟨w.heap.size, k, none⟩ = false := frozen_of_row _ _ _ _ _ HM.out.row
      have hcar := HF.out
      unfold carry at hcar
      rw [← hx] at hcar
      by_cases hsm : x < 65536
      ·rw [if_pos hsm, if_pos hkl] at hcar
       have hcc : ck = c3 := Option.some.inj hcar
       subst hcc
       clear hcar
       have x1 : ¬ (65536 : Int) ≤ (x : Int) := by omega
       have HX : Hid (x = ck.getD k 0) := hx
       clear hx hk2 hc3
       go_wp2
       go_roundw
       case rel =>
        first
         | exact ⟨j + 1, ck, by omega, by go_num, HC.out, HS4, HM.out⟩
         | ((repeat apply Exists.intro); exact ⟨⟨j + 1, ck, by omega, by go_num, HC.out, HS4, HM.out⟩, rfl⟩)
       case measure => simp [intOf]; omega
      ·rw [if_neg hsm] at hcar
       split at hcar
       case isFalse => cases hcar
       rename_i hok
       obtain ⟨q1, q2, q3⟩ := hok
       obtain ⟨y, hy⟩ : ∃ y, y = ck.getD (k + 1) 0 := ⟨_, rfl⟩
       rw [← hy] at hcar q3
       have cy : wr.cell? ⟨w.heap.size, k + 1, none⟩ = some (.int .i64 (y : Int)) := by rw [HM.out.cell _ q1, hy]
       have fy : wr.frozen? ⟨w.heap.size, k + 1, none⟩ = false := frozen_of_row _ _ _ _ _ HM.out.row
       have x1 : (65536 : Int) ≤ (x : Int) := by omega
       have x2 : (x : Int) < 1099511627776 := by omega
       have y2 : (y : Int) < 1099511627776 := by omega
       have p1 : (k : Int) + 1 < (a.length : Int) + (b.length : Int) := by omega
       have p0 : (0 : Int) ≤ (k : Int) + 1 := by omega
       have kk : IntKind.i64.wrap ((k : Int) + 1) = (k : Int) + 1 := by rw [IntKind.wrap_i64]; omega
       have HF2 : Hid (carry f ((ck.set (k + 1) (y + x / 65536)).set k (x % 65536)) (k + 1) = some c3) := hcar
       clear hcar hx hy hk2 hc3 q2 q3 HF
       go_wp2
       go_region
       go_wp2
       have HL : Hid (((ck.set (k + 1) (y + x / 65536)).set k (x % 65536)).length = a.length + b.length) := by
        show _ = _
        rw [List.length_set, List.length_set]; exact HC.out
       go_roundw
       case rel =>
        first
         | exact ⟨k + 1, f, _, by go_num, HL.out, HF2, ((HM.out.put (k + 1) (y + x / 65536) _ (by omega)).put k (x % 65536) _ (by omega)).drew⟩
         | ((repeat apply Exists.intro); exact ⟨⟨k + 1, f, _, by go_num, HL.out, HF2, ((HM.out.put (k + 1) (y + x / 65536) _ (by omega)).put k (x % 65536) _ (by omega)).drew⟩, rfl⟩)
       case measure => simp [intOf]; omega
    ·obtain rfl : j = b.length := by omega
     have hcc : cj = c1 := by
      have h := HJ.out
      rw [Nat.sub_self] at h
      exact Option.some.inj h
     subst hcc
     go_wp2
     go_roundw
     case rel =>
      first
       | exact ⟨i + 1, cj, by omega, by go_num, HC.out, HI2, HM.out⟩
       | ((repeat apply Exists.intro); exact ⟨⟨i + 1, cj, by omega, by go_num, HC.out, HI2, HM.out⟩, rfl⟩)
     case measure => simp [intOf]; omega
  ·obtain rfl : i = a.length := by omega
   have hcc : c = t := by
    have h := HI.out
    rw [Nat.sub_self] at h
    exact Option.some.inj h
   subst hcc
   go_wp2
   go_ret
   exact ⟨rfl, HM.out, HC.out⟩
end Go.Proofs.YthhbpebihgjpjaaGreatDoor
