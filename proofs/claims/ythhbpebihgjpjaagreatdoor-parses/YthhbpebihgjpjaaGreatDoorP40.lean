import Derived.Test.YthhbpebihgjpjaaGreatDoorP23
import Derived.Test.YthhbpebihgjpjaaGreatDoorP24
import Derived.Test.YthhbpebihgjpjaaGreatDoorP39
namespace Go.Proofs.YthhbpebihgjpjaaGreatDoor
open Go.RowKit
set_option maxRecDepth 1000000

def elcells (l : List (Value × Value)) : List Value := l.flatMap fun x => [.slice none 0 0, .slice none 0 0, .slice none 0 0, .slice none 0 0, x.1, x.2]
theorem elcells_append (l r : List (Value × Value)) : elcells (l ++ r) = elcells l ++ elcells r := by simp [elcells]
def PRow (w : World) (wb : Nat) (mv vp vq vl : Value) (left : Int) : Prop := w.heap[wb]? = some (.cells #[mv, .slice none 0 0, vp, vq, vl, .int .i64 0, .int .i64 left] 112 (0, 0))
theorem PRow.lt {w : World} {wb : Nat} {mv vp vq vl : Value} {left : Int} (h : PRow w wb mv vp vq vl left) : wb < w.heap.size := by
 rcases Nat.lt_or_ge wb w.heap.size with c | c
 ·exact c
 ·unfold PRow at h; rw [Array.getElem?_eq_none c] at h; cases h
def EdgesGood (x : Value × Value) (w : World) : Prop := ∃ es cs, EdgeRowAt w x.1 es cs ∧ EdgeRowAt w x.2 es cs ∧ es.length ≤ 64 ∧ cs.length = es.length ∧ ∀ e ∈ es, e.outs.length ≤ 10000 ∧ e.ins.length ≤ 10000 ∧ e.impl.length ≤ 10000 ∧ e.ord.length ≤ 10000
structure ParSt (c : Nat → Nat) (w0 : World) (wb : Nat) (mv vp vq vl : Value) (ps qs : List Value) (E : List (Value × Value)) (left : Int) (w : World) : Prop where
 row : PRow w wb mv vp vq vl left
 p : w.ownsRow w0.heap.size 45 1 vp ps.length ps
 q : w.ownsRow w0.heap.size 227 1 vq qs.length qs
 lists : w.ownsRow w0.heap.size 166 6 vl E.length (elcells E)
 const : Stable c w (fun w => ∀ x ∈ E, EdgesGood x w)
 c1 : c wb = 1
 c2 : ∀ k, vp.ownBlock = some k → c k = 2
 c3 : ∀ k, vq.ownBlock = some k → c k = 3
 c4 : ∀ k, vl.ownBlock = some k → c k = 4
 fresh : ∀ k, w.heap.size ≤ k → c k = 0
 wlow : w0.heap.size ≤ wb
 bl : Below w0.heap.size w0 w
theorem ParSt.below {c : Nat → Nat} {w0 : World} {wb : Nat} {mv vp vq vl : Value} {ps qs : List Value} {E : List (Value × Value)} {left : Int} {w w' : World} (h : ParSt c w0 wb mv vp vq vl ps qs E left w) (hb : Below w.heap.size w w') : ParSt c w0 wb mv vp vq vl ps qs E left w' where
 row := (hb.block wb h.row.lt).trans h.row
 p := rkeep h.p (fun k hk => hb.block k (rblock h.p k hk).2)
 q := rkeep h.q (fun k hk => hb.block k (rblock h.q k hk).2)
 lists := rkeep h.lists (fun k hk => hb.block k (rblock h.lists k hk).2)
 const := h.const.step hb.size (fun k hk h0 => ⟨hb.block k hk, h0⟩)
 c1 := h.c1
 c2 := h.c2
 c3 := h.c3
 c4 := h.c4
 fresh := fun k hk => h.fresh k (Nat.le_trans hb.size hk)
 wlow := h.wlow
 bl := h.bl.trans (hb.mono h.bl.size)
theorem ParSt.spend {c : Nat → Nat} {w0 : World} {wb : Nat} {mv vp vq vl : Value} {ps qs : List Value} {E : List (Value × Value)} {left : Int} {w : World} (h : ParSt c w0 wb mv vp vq vl ps qs E left w) (z : Int) : ParSt c w0 wb mv vp vq vl ps qs E z (w.setCell ⟨wb, 6, none⟩ (.int .i64 z)) := by
 have off : ∀ k, c k ≠ 1 → (w.setCell ⟨wb, 6, none⟩ (.int .i64 z)).heap[k]? = w.heap[k]? := fun k hc => heap_setCell_other _ _ _ _ (show k ≠ wb from fun e => hc (by rw [e]; exact h.c1))
 have hsz : (w.setCell ⟨wb, 6, none⟩ (.int .i64 z)).heap.size = w.heap.size := by simp
 exact {
  row := by unfold PRow; rw [heap_setCell_same _ _ _ _ _ _ h.row]; rfl
  p := rkeep h.p (fun k hk => off k (by rw [h.c2 k hk]; decide))
  q := rkeep h.q (fun k hk => off k (by rw [h.c3 k hk]; decide))
  lists := rkeep h.lists (fun k hk => off k (by rw [h.c4 k hk]; decide))
  const := h.const.step (Nat.le_of_eq hsz.symm) (fun k hk h0 => ⟨off k (by omega), h0⟩)
  c1 := h.c1, c2 := h.c2, c3 := h.c3, c4 := h.c4
  fresh := fun k hk => h.fresh k (by rw [hsz] at hk; exact hk)
  wlow := h.wlow
  bl := h.bl.setCell (p := ⟨wb, 6, none⟩) h.wlow _ }
theorem ParSt.addP {c : Nat → Nat} {w0 : World} {wb : Nat} {mv vp vq vl : Value} {ps qs : List Value} {E : List (Value × Value)} {left : Int} {w w3 : World} {x : Value} {v' : Value} (h : ParSt c w0 wb mv vp vq vl ps qs E left w) (hg : w.grownBy w3 vp.ownBlock) (hr : w3.ownsRow w0.heap.size 45 1 v' (ps.length + 1) (ps ++ [x])) (hat : ∀ k, v'.ownBlock = some k → vp.ownBlock = some k ∨ w.heap.size ≤ k) : ParSt (fun k => if v'.ownBlock = some k then 2 else c k) w0 wb mv v' vq vl (ps ++ [x]) qs E left (w3.setCell ⟨wb, 2, none⟩ v') := by
 have hnv : ∀ k, k < w.heap.size → c k ≠ 2 → v'.ownBlock ≠ some k := fun k hk hc e => by
  rcases hat k e with q | q
  ·exact hc (h.c2 k q)
  ·omega
 have hc' : ∀ k, k < w.heap.size → c k ≠ 2 → (if v'.ownBlock = some k then 2 else c k) = c k := fun k hk hc => if_neg (hnv k hk hc)
 have off3 : ∀ k, k < w.heap.size → c k ≠ 2 → w3.heap[k]? = w.heap[k]? := fun k hk hc => hg.block k hk (fun e => hc (h.c2 k e.symm))
 have off : ∀ k, k < w.heap.size → c k ≠ 2 → c k ≠ 1 → (w3.setCell ⟨wb, 2, none⟩ v').heap[k]? = w.heap[k]? := fun k hk hc h1 => by
  rw [heap_setCell_other _ _ _ _ (show k ≠ wb from fun e => h1 (by rw [e]; exact h.c1))]
  exact off3 k hk hc
 have hsz : w.heap.size ≤ (w3.setCell ⟨wb, 2, none⟩ v').heap.size := by simpa using hg.size
 exact {
  row := by
   have h1 : w3.heap[wb]? = _ := (off3 wb h.row.lt (by rw [h.c1]; decide)).trans h.row
   show (w3.setCell ⟨wb, 2, none⟩ v').heap[wb]? = _
   rw [heap_setCell_same _ _ _ _ _ _ h1]; rfl
  p := by
   rw [List.length_append]
   exact rkeep hr (fun k hk => heap_setCell_other _ _ _ _ (show k ≠ wb from fun e => hnv wb h.row.lt (by rw [h.c1]; decide) (by rw [← e]; exact hk)))
  q := rkeep h.q (fun k hk => off k (rblock h.q k hk).2 (by rw [h.c3 k hk]; decide) (by rw [h.c3 k hk]; decide))
  lists := rkeep h.lists (fun k hk => off k (rblock h.lists k hk).2 (by rw [h.c4 k hk]; decide) (by rw [h.c4 k hk]; decide))
  const := h.const.step hsz (fun k hk h0 => ⟨off k hk (by rw [h0]; decide) (by rw [h0]; decide), (hc' k hk (by rw [h0]; decide)).trans h0⟩)
  c1 := (hc' wb h.row.lt (by rw [h.c1]; decide)).trans h.c1
  c2 := fun k hk => if_pos hk
  c3 := fun k hk => (hc' k (rblock h.q k hk).2 (by rw [h.c3 k hk]; decide)).trans (h.c3 k hk)
  c4 := fun k hk => (hc' k (rblock h.lists k hk).2 (by rw [h.c4 k hk]; decide)).trans (h.c4 k hk)
  fresh := fun k hk => by
   have h1 : w3.heap.size ≤ k := by simpa using hk
   have h2 := hg.size
   show (if v'.ownBlock = some k then 2 else c k) = 0
   rw [if_neg (fun e => by have := (rblock hr k e).2; omega)]
   exact h.fresh k (by omega)
  wlow := h.wlow
  bl := (h.bl.grown hg h.bl.size (fun k hk => (rblock h.p k hk).1)).setCell (p := ⟨wb, 2, none⟩) h.wlow _ }
theorem ParSt.addQ {c : Nat → Nat} {w0 : World} {wb : Nat} {mv vp vq vl : Value} {ps qs : List Value} {E : List (Value × Value)} {left : Int} {w w3 : World} {x : Value} {v' : Value} (h : ParSt c w0 wb mv vp vq vl ps qs E left w) (hg : w.grownBy w3 vq.ownBlock) (hr : w3.ownsRow w0.heap.size 227 1 v' (qs.length + 1) (qs ++ [x])) (hat : ∀ k, v'.ownBlock = some k → vq.ownBlock = some k ∨ w.heap.size ≤ k) : ParSt (fun k => if v'.ownBlock = some k then 3 else c k) w0 wb mv vp v' vl ps (qs ++ [x]) E left (w3.setCell ⟨wb, 3, none⟩ v') := by
 have hnv : ∀ k, k < w.heap.size → c k ≠ 3 → v'.ownBlock ≠ some k := fun k hk hc e => by
  rcases hat k e with q | q
  ·exact hc (h.c3 k q)
  ·omega
 have hc' : ∀ k, k < w.heap.size → c k ≠ 3 → (if v'.ownBlock = some k then 3 else c k) = c k := fun k hk hc => if_neg (hnv k hk hc)
 have off3 : ∀ k, k < w.heap.size → c k ≠ 3 → w3.heap[k]? = w.heap[k]? := fun k hk hc => hg.block k hk (fun e => hc (h.c3 k e.symm))
 have off : ∀ k, k < w.heap.size → c k ≠ 3 → c k ≠ 1 → (w3.setCell ⟨wb, 3, none⟩ v').heap[k]? = w.heap[k]? := fun k hk hc h1 => by
  rw [heap_setCell_other _ _ _ _ (show k ≠ wb from fun e => h1 (by rw [e]; exact h.c1))]
  exact off3 k hk hc
 have hsz : w.heap.size ≤ (w3.setCell ⟨wb, 3, none⟩ v').heap.size := by simpa using hg.size
 exact {
  row := by
   have h1 : w3.heap[wb]? = _ := (off3 wb h.row.lt (by rw [h.c1]; decide)).trans h.row
   show (w3.setCell ⟨wb, 3, none⟩ v').heap[wb]? = _
   rw [heap_setCell_same _ _ _ _ _ _ h1]; rfl
  p := rkeep h.p (fun k hk => off k (rblock h.p k hk).2 (by rw [h.c2 k hk]; decide) (by rw [h.c2 k hk]; decide))
  q := by
   rw [List.length_append]
   exact rkeep hr (fun k hk => heap_setCell_other _ _ _ _ (show k ≠ wb from fun e => hnv wb h.row.lt (by rw [h.c1]; decide) (by rw [← e]; exact hk)))
  lists := rkeep h.lists (fun k hk => off k (rblock h.lists k hk).2 (by rw [h.c4 k hk]; decide) (by rw [h.c4 k hk]; decide))
  const := h.const.step hsz (fun k hk h0 => ⟨off k hk (by rw [h0]; decide) (by rw [h0]; decide), (hc' k hk (by rw [h0]; decide)).trans h0⟩)
  c1 := (hc' wb h.row.lt (by rw [h.c1]; decide)).trans h.c1
  c2 := fun k hk => (hc' k (rblock h.p k hk).2 (by rw [h.c2 k hk]; decide)).trans (h.c2 k hk)
  c3 := fun k hk => if_pos hk
  c4 := fun k hk => (hc' k (rblock h.lists k hk).2 (by rw [h.c4 k hk]; decide)).trans (h.c4 k hk)
  fresh := fun k hk => by
   have h1 : w3.heap.size ≤ k := by simpa using hk
   have h2 := hg.size
   show (if v'.ownBlock = some k then 3 else c k) = 0
   rw [if_neg (fun e => by have := (rblock hr k e).2; omega)]
   exact h.fresh k (by omega)
  wlow := h.wlow
  bl := (h.bl.grown hg h.bl.size (fun k hk => (rblock h.q k hk).1)).setCell (p := ⟨wb, 3, none⟩) h.wlow _ }
theorem ParSt.addL {c : Nat → Nat} {w0 : World} {wb : Nat} {mv vp vq vl : Value} {ps qs : List Value} {E : List (Value × Value)} {left : Int} {w w3 : World} {x : Value × Value} {v' : Value} (h : ParSt c w0 wb mv vp vq vl ps qs E left w) (hg : w.grownBy w3 vl.ownBlock) (hr : w3.ownsRow w0.heap.size 166 6 v' (E.length + 1) (elcells E ++ [.slice none 0 0, .slice none 0 0, .slice none 0 0, .slice none 0 0, x.1, x.2])) (hat : ∀ k, v'.ownBlock = some k → vl.ownBlock = some k ∨ w.heap.size ≤ k) (hx : Stable c w (EdgesGood x)) : ParSt (fun k => if v'.ownBlock = some k then 4 else c k) w0 wb mv vp vq v' ps qs (E ++ [x]) left (w3.setCell ⟨wb, 4, none⟩ v') := by
 have hnv : ∀ k, k < w.heap.size → c k ≠ 4 → v'.ownBlock ≠ some k := fun k hk hc e => by
  rcases hat k e with q | q
  ·exact hc (h.c4 k q)
  ·omega
 have hc' : ∀ k, k < w.heap.size → c k ≠ 4 → (if v'.ownBlock = some k then 4 else c k) = c k := fun k hk hc => if_neg (hnv k hk hc)
 have off3 : ∀ k, k < w.heap.size → c k ≠ 4 → w3.heap[k]? = w.heap[k]? := fun k hk hc => hg.block k hk (fun e => hc (h.c4 k e.symm))
 have off : ∀ k, k < w.heap.size → c k ≠ 4 → c k ≠ 1 → (w3.setCell ⟨wb, 4, none⟩ v').heap[k]? = w.heap[k]? := fun k hk hc h1 => by
  rw [heap_setCell_other _ _ _ _ (show k ≠ wb from fun e => h1 (by rw [e]; exact h.c1))]
  exact off3 k hk hc
 have hsz : w.heap.size ≤ (w3.setCell ⟨wb, 4, none⟩ v').heap.size := by simpa using hg.size
 exact {
  row := by
   have h1 : w3.heap[wb]? = _ := (off3 wb h.row.lt (by rw [h.c1]; decide)).trans h.row
   show (w3.setCell ⟨wb, 4, none⟩ v').heap[wb]? = _
   rw [heap_setCell_same _ _ _ _ _ _ h1]; rfl
  p := rkeep h.p (fun k hk => off k (rblock h.p k hk).2 (by rw [h.c2 k hk]; decide) (by rw [h.c2 k hk]; decide))
  q := rkeep h.q (fun k hk => off k (rblock h.q k hk).2 (by rw [h.c3 k hk]; decide) (by rw [h.c3 k hk]; decide))
  lists := by
   rw [List.length_append, elcells_append, show elcells [x] = [.slice none 0 0, .slice none 0 0, .slice none 0 0, .slice none 0 0, x.1, x.2] by simp [elcells]]
   exact rkeep hr (fun k hk => heap_setCell_other _ _ _ _ (show k ≠ wb from fun e => hnv wb h.row.lt (by rw [h.c1]; decide) (by rw [← e]; exact hk)))
  const := fun w'' hs hk => by
   have hk2 : ∀ k, k < w.heap.size → c k = 0 → w''.heap[k]? = w.heap[k]? := fun k h1 h2 => (hk k (Nat.lt_of_lt_of_le h1 hsz) ((hc' k h1 (by rw [h2]; decide)).trans h2)).trans (off k h1 (by rw [h2]; decide) (by rw [h2]; decide))
   have hold := h.const w'' (Nat.le_trans hsz hs) hk2
   intro y hy
   rcases List.mem_append.1 hy with hy | hy
   ·exact hold y hy
   ·obtain rfl := List.mem_singleton.1 hy
    exact hx w'' (Nat.le_trans hsz hs) hk2
  c1 := (hc' wb h.row.lt (by rw [h.c1]; decide)).trans h.c1
  c2 := fun k hk => (hc' k (rblock h.p k hk).2 (by rw [h.c2 k hk]; decide)).trans (h.c2 k hk)
  c3 := fun k hk => (hc' k (rblock h.q k hk).2 (by rw [h.c3 k hk]; decide)).trans (h.c3 k hk)
  c4 := fun k hk => if_pos hk
  fresh := fun k hk => by
   have h1 : w3.heap.size ≤ k := by simpa using hk
   have h2 := hg.size
   show (if v'.ownBlock = some k then 4 else c k) = 0
   rw [if_neg (fun e => by have := (rblock hr k e).2; omega)]
   exact h.fresh k (by omega)
  wlow := h.wlow
  bl := (h.bl.grown hg h.bl.size (fun k hk => (rblock h.lists k hk).1)).setCell (p := ⟨wb, 4, none⟩) h.wlow _ }
end Go.Proofs.YthhbpebihgjpjaaGreatDoor
