import Derived.Test.YthhbpebihgjpjaaGreatDoorK09
namespace Go.Proofs.YthhbpebihgjpjaaGreatDoor
open Go.RowKit
set_option maxRecDepth 1000000

theorem obj_other {w : World} {k : Nat} {cs : Array Value} {t : TypeId} {fr : Nat × Nat} (h : w.heap[k]? = some (.cells cs t fr)) {B : Nat} {e : TypeId} {s : Nat} {v : Value} {n : Nat} {xs : List Value} (ho : w.ownsRow B e s v n xs) (he : e ≠ t) : v.ownBlock ≠ some k := by
  intro hk
  obtain ⟨h1, ⟨rfl, h0⟩ | ⟨g, cap, cur, rfl, hg, hh, r⟩⟩ := ho
  · cases hk
  · have e1 : g = k := Option.some.inj hk
    subst e1
    rw [hh] at h
    injection h with h
    injection h with _ h _
    exact he h
theorem rows_other {w : World} {B B' : Nat} {e e' : TypeId} {s s' : Nat} {v v' : Value} {n n' : Nat} {xs xs' : List Value} (h : w.ownsRow B e s v n xs) (h' : w.ownsRow B' e' s' v' n' xs') (he : e ≠ e') {k : Nat} (hk : v.ownBlock = some k) : v'.ownBlock ≠ some k := by
  obtain ⟨h1, ⟨rfl, h0⟩ | ⟨g, cap, cur, rfl, hg, hh, r⟩⟩ := h
  · cases hk
  · have e1 : g = k := Option.some.inj hk
    subst e1
    exact obj_other hh h' (fun e => he e.symm)
def stkOf (I : Items) : Stk := (I.map fun x => (x.1, x.2.1)).reverse
theorem stkOf_snoc (I : Items) (p : Nat) (l : List Nat) (v : Value) : stkOf (I ++ [(p, l, v)]) = (p, l) :: stkOf I := by simp [stkOf]
/-- What each edge needs, where it lies. -/
def NeedsAt (w : World) (gN : Nat) (N : List (List Nat)) : Prop := ∀ i l, N[i]? = some l → ∃ v, w.cell? ⟨gN, i, none⟩ = some v ∧ IntsAt w v l
/-- A walk under way. -/
structure WMem (w0 : World) (wb sb gN cN gs cS : Nat) (N : List (List Nat)) (vo vi : Value) (I : Items) (s o : List Nat) (w : World) : Prop where
  row : WRow w wb (.slice (some ⟨gN, 0, none⟩) N.length cN) (.slice (some ⟨gs, 0, none⟩) N.length cS) vo
  seen : w.ownsRow w0.heap.size 206 1 (.slice (some ⟨gs, 0, none⟩) N.length cS) N.length (natsV s)
  order : w.ownsRow w0.heap.size 3 1 vo o.length (natsV o)
  srow : SRow w sb vi
  items : w.ownsRow w0.heap.size 212 2 vi I.length (ocells I)
  left : ∀ x ∈ I, IntsAt w0 x.2.2 x.2.1
  needs : NeedsAt w0 gN N
  bl : Below w0.heap.size w0 w
  wlow : w0.heap.size ≤ wb
  slow : w0.heap.size ≤ sb
theorem seen_cell {w : World} {B gs n cS : Nat} {s : List Nat} (h : w.ownsRow B 206 1 (.slice (some ⟨gs, 0, none⟩) n cS) n (natsV s)) : s.length = n ∧ ∃ cur, w.heap[gs]? = some (.cells cur 206 (0, 0)) ∧ ∀ i, i < n → cur[i]? = some (.int .i64 (s.getD i 0 : Nat)) := by
  obtain ⟨h1, ⟨e, h0⟩ | ⟨g', cap', cur, e, hg, hh, hn, hm, hs, ht⟩⟩ := h
  · cases e
  · injection e with e1 e2 e3
    injection e1 with e1
    injection e1 with e1 _ _
    subst e1
    rw [natsV_length, Nat.mul_one] at h1
    refine ⟨h1, cur, hh, fun i hi => ?_⟩
    have hx : (natsV s)[i]? = some (.int .i64 (s.getD i 0 : Nat)) := by
      refine natsV_at ?_
      rw [List.getD_eq_getElem?_getD, List.getElem?_eq_getElem (by omega)]; rfl
    rw [← ht, List.getElem?_take] at hx
    split at hx
    · rw [← Array.getElem?_toList]; exact hx
    · cases hx
/-- What lies low stays. -/
theorem WMem.need {w0 : World} {wb sb gN cN gs cS : Nat} {N : List (List Nat)} {vo vi : Value} {I : Items} {s o : List Nat} {w : World} (h : WMem w0 wb sb gN cN gs cS N vo vi I s o w) {i : Nat} (hi : i < N.length) : ∃ av cv, w.cell? ⟨gN, i, none⟩ = some (.slice av (N.getD i []).length cv) ∧ IntsAt w0 (.slice av (N.getD i []).length cv) (N.getD i []) := by
  have hg : N[i]? = some (N.getD i []) := by rw [List.getD_eq_getElem?_getD, List.getElem?_eq_getElem hi]; rfl
  obtain ⟨v, hc, hv⟩ := h.needs i _ hg
  obtain ⟨ao, cap, e, hcap, hr⟩ := id hv
  subst e
  exact ⟨ao, cap, (h.bl.cell (p := ⟨gN, i, none⟩) (block_lt_of_cell hc)).trans hc, hv⟩
theorem WMem.gsne {w0 : World} {wb sb gN cN gs cS : Nat} {N : List (List Nat)} {vo vi : Value} {I : Items} {s o : List Nat} {w : World} (h : WMem w0 wb sb gN cN gs cS N vo vi I s o w) (hp : 0 < N.length) : gs ≠ wb ∧ gs ≠ gN ∧ gs ≠ sb := by
  refine ⟨fun e => obj_other h.row h.seen (by decide) (by rw [← e]; rfl), fun e => ?_, fun e => obj_other h.srow h.seen (by decide) (by rw [← e]; rfl)⟩
  obtain ⟨v, hc, _⟩ := h.needs 0 N[0] (by simp)
  have h1 := (rblock h.seen gs rfl).1
  have h2 := block_lt_of_cell hc
  simp only at h2
  omega
/-- Another world, that differs in the cells of 'seen' alone. -/
theorem WMem.mark {w0 : World} {wb sb gN cN gs cS : Nat} {N : List (List Nat)} {vo vi : Value} {I : Items} {s o : List Nat} {w w' : World} (h : WMem w0 wb sb gN cN gs cS N vo vi I s o w) {p x : Nat} (hm : Moves (fun k => k = gs) w w') (hg : w'.heap[gs]? = (w.setCell ⟨gs, p, none⟩ (.int .i64 (x : Nat))).heap[gs]?) : WMem w0 wb sb gN cN gs cS N vo vi I (s.set p x) o w' := by
  have off : ∀ k, k < w.heap.size → k ≠ gs → w'.heap[k]? = w.heap[k]? := fun k hk hn => hm.block k hk hn
  have hgl := (rblock h.seen gs rfl)
  have hsn : gs ≠ sb := fun e => obj_other h.srow h.seen (by decide) (by rw [← e]; rfl)
  have hwn : gs ≠ wb := fun e => obj_other h.row h.seen (by decide) (by rw [← e]; rfl)
  exact {
    row := (off wb (heap_lt h.row) (fun e => hwn e.symm)).trans h.row
    seen := by
      have hr := row_set h.seen p (.int .i64 (x : Nat))
      rw [← natsV_set] at hr
      exact rkeep hr (fun k hk => by have e : gs = k := Option.some.inj hk; subst e; exact hg)
    order := rkeep h.order (fun k hk => off k (rblock h.order k hk).2 (fun e => rows_other h.order h.seen (by decide) hk (by rw [e]; rfl)))
    srow := (off sb h.srow.lt (fun e => hsn e.symm)).trans h.srow
    items := rkeep h.items (fun k hk => off k (rblock h.items k hk).2 (fun e => rows_other h.items h.seen (by decide) hk (by rw [e]; rfl)))
    left := h.left
    needs := h.needs
    bl := Moves.below h.bl h.bl.size hm (fun k hk => by rw [hk]; exact hgl.1)
    wlow := h.wlow
    slow := h.slow }
theorem WMem.marked {w0 : World} {wb sb gN cN gs cS : Nat} {N : List (List Nat)} {vo vi : Value} {I : Items} {s o : List Nat} {w : World} (h : WMem w0 wb sb gN cN gs cS N vo vi I s o w) (p x : Nat) : WMem w0 wb sb gN cN gs cS N vo vi I (s.set p x) o (w.setCell ⟨gs, p, none⟩ (.int .i64 (x : Nat))) :=
  h.mark ⟨rfl, rfl, rfl, by simp, fun k hk hn => heap_setCell_other _ _ _ _ hn⟩ rfl
/-- One more step. -/
theorem WMem.push {w0 : World} {wb sb gN cN gs cS : Nat} {N : List (List Nat)} {vo vi vi' : Value} {I : Items} {s o : List Nat} {w w' : World} (h : WMem w0 wb sb gN cN gs cS N vo vi I s o w) {p : Nat} {l : List Nat} {v : Value} (hv : IntsAt w0 v l) (hr : SRow w' sb vi') (ho : w'.ownsRow w0.heap.size 212 2 vi' (I.length + 1) (ocells (I ++ [(p, l, v)]))) (hm : Moves (fun k => k = sb ∨ vi.ownBlock = some k) w w') : WMem w0 wb sb gN cN gs cS N vo vi' (I ++ [(p, l, v)]) s o w' := by
  have off : ∀ k, k < w.heap.size → k ≠ sb → vi.ownBlock ≠ some k → w'.heap[k]? = w.heap[k]? := fun k hk hn h2 => hm.block k hk (fun q => q.elim hn h2)
  have hws : wb ≠ sb := fun e => by
    have h1 := h.row
    unfold WRow at h1
    rw [e, h.srow] at h1
    injection h1 with h1
    injection h1 with _ h1 _
    exact absurd h1 (by decide)
  exact {
    row := (off wb (heap_lt h.row) hws (obj_other h.row h.items (by decide))).trans h.row
    seen := rkeep h.seen (fun k hk => off k (rblock h.seen k hk).2 (fun e => obj_other h.srow h.seen (by decide) (by rw [← e]; exact hk)) (rows_other h.seen h.items (by decide) hk))
    order := rkeep h.order (fun k hk => off k (rblock h.order k hk).2 (fun e => obj_other h.srow h.order (by decide) (by rw [← e]; exact hk)) (rows_other h.order h.items (by decide) hk))
    srow := hr
    items := by rw [List.length_append]; exact ho
    left := fun x hx => by
      rcases List.mem_append.1 hx with hx | hx
      · exact h.left x hx
      · obtain rfl := List.mem_singleton.1 hx; exact hv
    needs := h.needs
    bl := Moves.below h.bl h.bl.size hm (fun k hk => by
      rcases hk with hk | hk
      · rw [hk]; exact h.slow
      · exact (rblock h.items k hk).1)
    wlow := h.wlow
    slow := h.slow }
theorem ocells_set (I : Items) (p : Nat) (l : List Nat) (v v2 : Value) (l2 : List Nat) : (ocells (I ++ [(p, l, v)])).set (I.length * 2 + 1) v2 = ocells (I ++ [(p, l2, v2)]) := by
  rw [ocells_append, ocells_append, List.set_append_right _ _ (by rw [ocells_length]; omega), ocells_length, show I.length * 2 + 1 - I.length * 2 = 1 by omega]
  rfl
/-- What is left of the last step. -/
theorem WMem.setLeft {w0 : World} {wb sb gN cN gs cS g cap : Nat} {N : List (List Nat)} {vo : Value} {I : Items} {s o : List Nat} {w : World} {p : Nat} {l l2 : List Nat} {v v2 : Value} (h : WMem w0 wb sb gN cN gs cS N vo (.slice (some ⟨g, 0, none⟩) (I.length + 1) cap) (I ++ [(p, l, v)]) s o w) (hv : IntsAt w0 v2 l2) : WMem w0 wb sb gN cN gs cS N vo (.slice (some ⟨g, 0, none⟩) (I.length + 1) cap) (I ++ [(p, l2, v2)]) s o (w.setCell ⟨g, I.length * 2 + 1, none⟩ v2) := by
  have hit : w.ownsRow w0.heap.size 212 2 (.slice (some ⟨g, 0, none⟩) (I.length + 1) cap) (I.length + 1) (ocells (I ++ [(p, l, v)])) := by have := h.items; rw [List.length_append] at this; exact this
  have off : ∀ k, k ≠ g → (w.setCell ⟨g, I.length * 2 + 1, none⟩ v2).heap[k]? = w.heap[k]? := fun k hn => heap_setCell_other _ _ _ _ hn
  exact {
    row := (off wb (fun e => obj_other h.row h.items (by decide) (by rw [e]; rfl))).trans h.row
    seen := rkeep h.seen (fun k hk => off k (fun e => rows_other h.seen h.items (by decide) hk (by rw [e]; rfl)))
    order := rkeep h.order (fun k hk => off k (fun e => rows_other h.order h.items (by decide) hk (by rw [e]; rfl)))
    srow := (off sb (fun e => obj_other h.srow h.items (by decide) (by rw [e]; rfl))).trans h.srow
    items := by
      rw [List.length_append, ← ocells_set I p l v v2 l2]
      exact row_set hit _ _
    left := fun x hx => by
      rcases List.mem_append.1 hx with hx | hx
      · exact h.left x (List.mem_append_left _ hx)
      · obtain rfl := List.mem_singleton.1 hx; exact hv
    needs := h.needs
    bl := h.bl.setCell (p := ⟨g, I.length * 2 + 1, none⟩) (rblock hit g rfl).1 _
    wlow := h.wlow
    slow := h.slow }
theorem row_short {w : World} {B : Nat} {e : TypeId} {k g n m cap : Nat} {xs ys : List Value} (h : w.ownsRow B e k (.slice (some ⟨g, 0, none⟩) m cap) m (xs ++ ys)) (hx : xs.length = n * k) (hnm : n ≤ m) : w.ownsRow B e k (.slice (some ⟨g, 0, none⟩) n cap) n xs := by
  obtain ⟨h1, ⟨e, h0⟩ | ⟨g', cap', cur, e, hg, hh, hn, hm, hs, ht⟩⟩ := h
  · cases e
  · injection e with e1 e2 e3
    injection e1 with e1
    injection e1 with e1 _ _
    subst e1 e3
    refine ⟨hx, Or.inr ⟨g, cap, cur, rfl, hg, hh, by omega, hm, hs, ?_⟩⟩
    have := congrArg (List.take (n * k)) ht
    rw [List.take_take, Nat.min_eq_left (Nat.mul_le_mul_right k hnm)] at this
    rw [this, ← hx, List.take_left]
theorem WMem.below {w0 : World} {wb sb gN cN gs cS : Nat} {N : List (List Nat)} {vo vi : Value} {I : Items} {s o : List Nat} {w w' : World} (h : WMem w0 wb sb gN cN gs cS N vo vi I s o w) (hb : Below w.heap.size w w') : WMem w0 wb sb gN cN gs cS N vo vi I s o w' where
  row := (hb.block wb (heap_lt h.row)).trans h.row
  seen := rkeep h.seen (fun k hk => hb.block k (rblock h.seen k hk).2)
  order := rkeep h.order (fun k hk => hb.block k (rblock h.order k hk).2)
  srow := (hb.block sb h.srow.lt).trans h.srow
  items := rkeep h.items (fun k hk => hb.block k (rblock h.items k hk).2)
  left := h.left
  needs := h.needs
  bl := h.bl.trans (hb.mono h.bl.size)
  wlow := h.wlow
  slow := h.slow
/-- The last step goes. -/
theorem WMem.pop {w0 : World} {wb sb gN cN gs cS g cap : Nat} {N : List (List Nat)} {vo : Value} {I : Items} {x : Nat × List Nat × Value} {s o : List Nat} {w w' : World} (h : WMem w0 wb sb gN cN gs cS N vo (.slice (some ⟨g, 0, none⟩) (I.length + 1) cap) (I ++ [x]) s o w) (hr : SRow w' sb (.slice (some ⟨g, 0, none⟩) I.length cap)) (hm : Moves (fun k => k = sb) w w') : WMem w0 wb sb gN cN gs cS N vo (.slice (some ⟨g, 0, none⟩) I.length cap) I s o w' := by
  have off : ∀ k, k < w.heap.size → k ≠ sb → w'.heap[k]? = w.heap[k]? := fun k hk hn => hm.block k hk hn
  have hws : wb ≠ sb := fun e => by
    have h1 := h.row
    unfold WRow at h1
    rw [e, h.srow] at h1
    injection h1 with h1
    injection h1 with _ h1 _
    exact absurd h1 (by decide)
  have hit : w.ownsRow w0.heap.size 212 2 (.slice (some ⟨g, 0, none⟩) (I.length + 1) cap) (I.length + 1) (ocells I ++ ocells [x]) := by have := h.items; rw [List.length_append, ocells_append] at this; exact this
  exact {
    row := (off wb (heap_lt h.row) hws).trans h.row
    seen := rkeep h.seen (fun k hk => off k (rblock h.seen k hk).2 (fun e => obj_other h.srow h.seen (by decide) (by rw [← e]; exact hk)))
    order := rkeep h.order (fun k hk => off k (rblock h.order k hk).2 (fun e => obj_other h.srow h.order (by decide) (by rw [← e]; exact hk)))
    srow := hr
    items := rkeep (row_short hit (ocells_length I) (Nat.le_succ _)) (fun k hk => off k (by have e : g = k := Option.some.inj hk; subst e; exact (rblock hit g rfl).2) (fun e => obj_other h.srow hit (by decide) (by rw [← e]; exact hk)))
    left := fun y hy => h.left y (List.mem_append_left _ hy)
    needs := h.needs
    bl := Moves.below h.bl h.bl.size hm (fun k hk => by rw [hk]; exact h.slow)
    wlow := h.wlow
    slow := h.slow }
/-- One more in the order. -/
theorem WMem.addOrder {w0 : World} {wb sb gN cN gs cS g cap : Nat} {N : List (List Nat)} {vo vi : Value} {I : Items} {s o : List Nat} {w wx w3 : World} {p : Nat} (h : WMem w0 wb sb gN cN gs cS N vo vi I s o w) (hb : Below w.heap.size w wx) (hg : wx.grownBy w3 vo.ownBlock) (hr : w3.ownsRow w0.heap.size 3 1 (.slice (some ⟨g, 0, none⟩) (o.length + 1) cap) (o.length + 1) (natsV o ++ [.int .i64 (p : Nat)])) : WMem w0 wb sb gN cN gs cS N (.slice (some ⟨g, 0, none⟩) (o.length + 1) cap) vi I s (o ++ [p]) (w3.setCell ⟨wb, 2, none⟩ (.slice (some ⟨g, 0, none⟩) (o.length + 1) cap)) := by
  have hx := h.below hb
  have off3 : ∀ k, k < wx.heap.size → vo.ownBlock ≠ some k → w3.heap[k]? = wx.heap[k]? := fun k hk hn => hg.block k hk (fun e => hn e.symm)
  have off : ∀ k, k < wx.heap.size → vo.ownBlock ≠ some k → k ≠ wb → (w3.setCell ⟨wb, 2, none⟩ (.slice (some ⟨g, 0, none⟩) (o.length + 1) cap)).heap[k]? = wx.heap[k]? := fun k hk hn h2 => (heap_setCell_other _ _ _ _ h2).trans (off3 k hk hn)
  have hrow3 : w3.heap[wb]? = _ := (off3 wb (heap_lt hx.row) (obj_other hx.row hx.order (by decide))).trans hx.row
  have hws : sb ≠ wb := fun e => by
    have h1 := h.row
    unfold WRow at h1
    rw [← e, h.srow] at h1
    injection h1 with h1
    injection h1 with _ h1 _
    exact absurd h1 (by decide)
  exact {
    row := by unfold WRow; rw [heap_setCell_same _ _ _ _ _ _ hrow3]; rfl
    seen := rkeep hx.seen (fun k hk => off k (rblock hx.seen k hk).2 (rows_other hx.seen hx.order (by decide) hk) (fun e => obj_other hx.row hx.seen (by decide) (by rw [← e]; exact hk)))
    order := by
      rw [List.length_append, natsV_append]
      exact rkeep hr (fun k hk => heap_setCell_other _ _ _ _ (show k ≠ wb from fun e => obj_other hrow3 hr (by decide) (by rw [← e]; exact hk)))
    srow := (off sb hx.srow.lt (obj_other hx.srow hx.order (by decide)) hws).trans hx.srow
    items := rkeep hx.items (fun k hk => off k (rblock hx.items k hk).2 (rows_other hx.items hx.order (by decide) hk) (fun e => obj_other hx.row hx.items (by decide) (by rw [← e]; exact hk)))
    left := h.left
    needs := h.needs
    bl := (hx.bl.grown hg hx.bl.size (fun k hk => (rblock hx.order k hk).1)).setCell (p := ⟨wb, 2, none⟩) h.wlow _
    wlow := h.wlow
    slow := h.slow }
end Go.Proofs.YthhbpebihgjpjaaGreatDoor
