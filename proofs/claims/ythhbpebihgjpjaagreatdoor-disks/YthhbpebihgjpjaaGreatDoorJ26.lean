import Derived.Test.YthhbpebihgjpjaaGreatDoorJ02
import Derived.Test.YthhbpebihgjpjaaGreatDoorJ25
import Derived.Deep.AppendLies
import Derived.OwnWalk
namespace Go.Proofs.YthhbpebihgjpjaaGreatDoor
open Go.RowKit Go.MuLone Go.Maps
set_option maxRecDepth 1000000

def lcells (l : List (Value × Value)) : List Value := l.flatMap fun x => [x.1, x.2, .slice none 0 0, .slice none 0 0, .slice none 0 0, .slice none 0 0]
theorem lcells_append (l r : List (Value × Value)) : lcells (l ++ r) = lcells l ++ lcells r := by simp [lcells]
/-- The lists that were handed out, as the law keeps them. -/
structure OwnL (v : Value) (l : List (Value × Value)) (w : World) : Prop where
  own : w.ownsRow 0 166 6 v l.length (lcells l)
theorem OwnL.form {v : Value} {l : List (Value × Value)} {w : World} (h : OwnL v l w) : ∃ ao cap, v = .slice ao l.length cap := by
  obtain ⟨_, ⟨rfl, h0⟩ | ⟨g, cap, cur, rfl, _⟩⟩ := h.own
  · exact ⟨none, 0, by rw [h0]⟩
  · exact ⟨_, _, rfl⟩
theorem OwnL.keep {v : Value} {l : List (Value × Value)} {w w' : World} (h : OwnL v l w) (hb : ∀ k, v.ownBlock = some k → w'.heap[k]? = w.heap[k]?) : OwnL v l w' := by
  obtain ⟨h1, ⟨rfl, h0⟩ | ⟨g, cap, cur, rfl, hg, hh, r⟩⟩ := h.own
  · exact ⟨⟨h1, Or.inl ⟨rfl, h0⟩⟩⟩
  · exact ⟨⟨h1, Or.inr ⟨g, cap, cur, rfl, hg, by rw [hb g rfl]; exact hh, r⟩⟩⟩
theorem OwnL.lt {v : Value} {l : List (Value × Value)} {w : World} (h : OwnL v l w) (k : Nat) (hk : v.ownBlock = some k) : k < w.heap.size := by
  obtain ⟨h1, ⟨rfl, h0⟩ | ⟨g, cap, cur, rfl, hg, hh, r⟩⟩ := h.own
  · cases hk
  · have e : g = k := Option.some.inj hk
    subst e
    rcases Nat.lt_or_ge g w.heap.size with c | c
    · exact c
    · rw [Array.getElem?_eq_none c] at hh; cases hh
theorem LawRow.setLists {w : World} {wb : Nat} {mv va vl : Value} {left : Int} (h : LawRow w wb mv va vl left) (x : Value) : LawRow (w.setCell ⟨wb, 4, none⟩ x) wb mv va x left := by
  unfold LawRow; rw [heap_setCell_same _ _ _ _ _ _ h]; rfl

theorem row_keep {w w' : World} {base : Nat} {e : TypeId} {s : Nat} {v : Value} {n : Nat} {xs : List Value} (h : w.ownsRow base e s v n xs) (hb : ∀ k, v.ownBlock = some k → w'.heap[k]? = w.heap[k]?) : w'.ownsRow base e s v n xs := by
  obtain ⟨h1, ⟨rfl, h0⟩ | ⟨g, cap, cur, rfl, hg, hh, r⟩⟩ := h
  · exact ⟨h1, Or.inl ⟨rfl, h0⟩⟩
  · exact ⟨h1, Or.inr ⟨g, cap, cur, rfl, hg, by rw [hb g rfl]; exact hh, r⟩⟩
theorem row_block {w : World} {base : Nat} {e : TypeId} {s : Nat} {v : Value} {n : Nat} {xs : List Value} (h : w.ownsRow base e s v n xs) (k : Nat) (hk : v.ownBlock = some k) : base ≤ k ∧ k < w.heap.size := by
  obtain ⟨h1, ⟨rfl, h0⟩ | ⟨g, cap, cur, rfl, hg, hh, r⟩⟩ := h
  · cases hk
  · have e : g = k := Option.some.inj hk
    subst e
    refine ⟨hg, ?_⟩
    rcases Nat.lt_or_ge g w.heap.size with c | c
    · exact c
    · rw [Array.getElem?_eq_none c] at hh; cases hh

set_option maxHeartbeats 4000000 in
theorem ownTexts_any (l : List ByteArray) (g : Nat) (L : List (Value × Value)) (wb : Nat) (mv va vl : Value) (left : Int) (w : World) (hr : LawRow w wb mv va vl left) (hL : OwnL vl L w) (hLl : L.length ≤ 1048576) (hne : vl.ownBlock ≠ some wb) (ht : TextsAt w (.slice (some ⟨g, 0, none⟩) l.length l.length) l) (hs : l.length ≤ 1048576) :
    Calls Tryz.prog 140 #[.pointer (some ⟨wb, 0, none⟩), .slice (some ⟨g, 0, none⟩) l.length l.length] w fun e w' => e = .returned (.tuple #[]) ∧ ∃ vl' u, LawRow w' wb mv va vl' left ∧ OwnL vl' (L ++ [(.slice (some ⟨g, 0, none⟩) l.length l.length, u)]) w' ∧ Turns (fun k => k = wb ∨ vl.ownBlock = some k) w w' ∧ Lies vl vl' w ∧ w'.ownsRow w.heap.size 9 1 u l.length (l.map Value.string) ∧ (∀ k, u.ownBlock = some k → vl'.ownBlock ≠ some k) := by
  have hinf : (Tryz.prog.info? 166).map (fun i => (i.size, i.bytes, i.zero)) = some (6, 144, some (.agg #[.slice none 0 0, .slice none 0 0, .slice none 0 0, .slice none 0 0, .slice none 0 0, .slice none 0 0])) := by kernel_rfl
  obtain ⟨ti, hti, htj⟩ := Option.map_eq_some_iff.1 hinf
  simp only [Prod.mk.injEq] at htj
  have HTI : Hid (Tryz.prog.info? 166 = some ti ∧ ti.size = 6 ∧ ti.bytes = 144 ∧ ti.zero = some (.agg #[.slice none 0 0, .slice none 0 0, .slice none 0 0, .slice none 0 0, .slice none 0 0, .slice none 0 0])) := ⟨hti, htj.1, htj.2.1, htj.2.2⟩
  clear hinf hti htj
  have HTX : Hid (TextsAt w (.slice (some ⟨g, 0, none⟩) l.length l.length) l) := ht
  have HR : Hid (LawRow w wb mv va vl left) := hr
  have HL : Hid (OwnL vl L w) := hL
  clear ht hr hL
  go_enter Tryz.func140, Tryz.ntmps140
  go_wp2_with fail
  refine (texts_any l _ w HTX.out hs).mono ?_
  rintro e w1 ⟨u, rfl, hu1, hb1⟩
  have HU : Hid (w1.ownsRow w.heap.size 9 1 u l.length (l.map Value.string)) := hu1
  have HB1 : Hid (Below w.heap.size w w1) := hb1
  have HR1 : Hid (LawRow w1 wb mv va vl left) := (hb1.block wb HR.out.lt).trans HR.out
  have HL1 : Hid (OwnL vl L w1) := HL.out.keep (fun k hk => hb1.block k (HL.out.lt k hk))
  clear hu1 hb1
  obtain ⟨al, cl, hform⟩ := HL.out.form
  subst hform
  have c4 : w1.cell? ⟨wb, 4, none⟩ = some (.slice al L.length cl) := by rw [cell_of_row _ _ _ _ _ _ HR1.out]; rfl
  have f4 : w1.frozen? ⟨wb, 4, none⟩ = false := frozen_of_row _ _ _ _ _ HR1.out
  obtain ⟨au, cu, hfu⟩ : ∃ au cu, u = .slice au l.length cu := by
    obtain ⟨_, ⟨rfl, h0⟩ | ⟨g, cap, cur, rfl, _⟩⟩ := HU.out
    · exact ⟨none, 0, by rw [h0]⟩
    · exact ⟨_, _, rfl⟩
  subst hfu
  have hwb1 : wb < w1.heap.size := HR1.out.lt
  go_wp2_with (at_builtin; refine wpList_append_lies _ rfl (.tmp 16) (.tmp 20) 110 rfl 0 166 ti (.agg #[.slice none 0 0, .slice none 0 0, .slice none 0 0, .slice none 0 0, .slice none 0 0, .slice none 0 0]) 6 144 Tryz.underlying110 HTI.out.1 HTI.out.2.2.2 HTI.out.2.1 HTI.out.2.2.1 rfl (by decide) _ L.length (lcells L) rfl (by exact (HL1.out.keep (fun k hk => heapA_old w1 _ k (HL1.out.lt k hk))).own) ⟨w1.heap.size, 0, none⟩ 1 1 [.slice (some ⟨g, 0, none⟩) l.length l.length, .slice au l.length cu, .slice none 0 0, .slice none 0 0, .slice none 0 0, .slice none 0 0] rfl rfl (by exact new_cells w1 _ _) (by intro u hu; simp only [List.mem_cons, List.not_mem_nil, or_false] at hu; rcases hu with rfl | rfl | rfl | rfl | rfl | rfl <;> rfl) (by decide) (by unfold maxLen; omega) (by omega) (Nat.zero_le _) _ rfl ?_; intro g6 cap6 w6 hv6 hg6 hat6 hlt6; refine Hid.out ?_)
  have hrow6 : w6.heap[wb]? = w1.heap[wb]? := (hg6.block wb (by simp; omega) (fun e => hne e.symm)).trans (heapA_old w1 _ wb hwb1)
  have HR6 : Hid (LawRow w6 wb mv va (.slice al L.length cl) left) := hrow6.trans HR1.out
  have hgb : ∀ k, k < w1.heap.size → some k ≠ (Value.slice al L.length cl).ownBlock → w6.heap[k]? = w1.heap[k]? := fun k hk hn => (hg6.block k (by simp; omega) hn).trans (heapA_old w1 _ k hk)
  have hsz6 : w1.heap.size ≤ w6.heap.size := by have := hg6.size; simp at this; omega
  have hgf : g6 ≠ wb := by
    rcases hat6 with e | e
    · intro e2; exact hne (by rw [← e2]; exact e)
    · rw [e]; simp; omega
  have c46 : w6.cell? ⟨wb, 4, none⟩ = some (.slice al L.length cl) := by rw [cell_of_row _ _ _ _ _ _ HR6.out]; rfl
  have f46 : w6.frozen? ⟨wb, 4, none⟩ = false := frozen_of_row _ _ _ _ _ HR6.out
  have hat : ∀ k, (Value.slice (some ⟨g6, 0, none⟩) (L.length + 1) cap6).ownBlock = some k → (Value.slice al L.length cl).ownBlock = some k ∨ w1.heap.size ≤ k := fun k hk => by
    have e : g6 = k := Option.some.inj hk
    subst e
    rcases hat6 with e2 | e2
    · exact Or.inl e2
    · right; rw [e2]; simp
  have HFIN : Hid (∃ vl' u, LawRow (w6.setCell ⟨wb, 4, none⟩ (.slice (some ⟨g6, 0, none⟩) (L.length + 1) cap6)) wb mv va vl' left ∧ OwnL vl' (L ++ [(.slice (some ⟨g, 0, none⟩) l.length l.length, u)]) (w6.setCell ⟨wb, 4, none⟩ (.slice (some ⟨g6, 0, none⟩) (L.length + 1) cap6)) ∧ Turns (fun k => k = wb ∨ (Value.slice al L.length cl).ownBlock = some k) w (w6.setCell ⟨wb, 4, none⟩ (.slice (some ⟨g6, 0, none⟩) (L.length + 1) cap6)) ∧ Lies (.slice al L.length cl) vl' w ∧ (w6.setCell ⟨wb, 4, none⟩ (.slice (some ⟨g6, 0, none⟩) (L.length + 1) cap6)).ownsRow w.heap.size 9 1 u l.length (l.map Value.string) ∧ (∀ k, u.ownBlock = some k → vl'.ownBlock ≠ some k)) := by
    refine ⟨.slice (some ⟨g6, 0, none⟩) (L.length + 1) cap6, .slice au l.length cu, HR6.out.setLists _, ?_, ?_, ?_, ?_, ?_⟩
    · have h1 : OwnL (.slice (some ⟨g6, 0, none⟩) (L.length + 1) cap6) (L ++ [(.slice (some ⟨g, 0, none⟩) l.length l.length, .slice au l.length cu)]) w6 := ⟨by rw [List.length_append, lcells_append]; exact hv6⟩
      exact h1.keep (fun k hk => heap_setCell_other _ _ _ _ (by have e : g6 = k := Option.some.inj hk; subst e; exact hgf))
    · refine Turns.setCell ?_ ⟨wb, 4, none⟩ _ (Or.inl (Or.inl rfl))
      refine ((Turns.of_below (fun k => k = wb ∨ (Value.slice al L.length cl).ownBlock = some k) HB1.out).trans (G := fun k => (Value.slice al L.length cl).ownBlock = some k) (c := w6) ⟨hg6.os, hg6.output, hsz6, fun k hk hn => hgb k hk (fun e => hn e.symm)⟩ (fun k hk => Or.inl (Or.inr hk)))
    · intro k hk
      rcases hat k hk with e | e
      · exact Or.inl e
      · exact Or.inr (Nat.le_trans HB1.out.size e)
    · refine row_keep HU.out (fun k hk => ?_)
      have hb := row_block HU.out k hk
      have hwb := HR.out.lt
      rw [heap_setCell_other _ _ _ _ (show k ≠ wb by omega)]
      exact hgb k hb.2 (fun e => by have := HL.out.lt k e.symm; omega)
    · intro k hk e
      have hb := row_block HU.out k hk
      rcases hat k e with q | q
      · have := HL.out.lt k q; omega
      · omega
  clear hgb hv6 hg6 hat6 hlt6 hrow6 c4 f4 hgf HR6 hat hsz6 HU HB1 HR1 HL1
  generalize hw7 : w6.setCell ⟨wb, 4, none⟩ (.slice (some ⟨g6, 0, none⟩) (L.length + 1) cap6) = w7 at *
  unfold Hid
  go_wp2
  go_end0
  first
    | exact ⟨rfl, HFIN.out⟩
    | (rw [hw7]; exact ⟨rfl, HFIN.out⟩)
end Go.Proofs.YthhbpebihgjpjaaGreatDoor

namespace Go.Proofs.YthhbpebihgjpjaaGreatDoor
open Go.RowKit Go.MuLone Go.Maps
set_option maxRecDepth 1000000

theorem lcells_at (l : List (Value × Value)) : ∀ (j : Nat) (x : Value × Value), l[j]? = some x → (lcells l)[j * 6]? = some x.1 ∧ (lcells l)[j * 6 + 1]? = some x.2 ∧ (lcells l)[j * 6 + 2]? = some (.slice none 0 0) ∧ (lcells l)[j * 6 + 3]? = some (.slice none 0 0) ∧ (lcells l)[j * 6 + 4]? = some (.slice none 0 0) ∧ (lcells l)[j * 6 + 5]? = some (.slice none 0 0) := by
  induction l with
  | nil => intro j x h; simp at h
  | cons y l ih =>
    intro j x h
    cases j with
    | zero => simp at h; subst h; exact ⟨rfl, rfl, rfl, rfl, rfl, rfl⟩
    | succ j =>
      have h2 := ih j x (by simpa using h)
      have e : ∀ r, (lcells (y :: l))[(j + 1) * 6 + r]? = (lcells l)[j * 6 + r]? := fun r => by
        have : (j + 1) * 6 + r = (j * 6 + r) + 6 := by omega
        rw [this]; rfl
      exact ⟨(e 0).trans h2.1, (e 1).trans h2.2.1, (e 2).trans h2.2.2.1, (e 3).trans h2.2.2.2.1, (e 4).trans h2.2.2.2.2.1, (e 5).trans h2.2.2.2.2.2⟩
theorem OwnL.cell {v : Value} {l : List (Value × Value)} {w : World} (h : OwnL v l w) (j : Nat) (x : Value × Value) (hj : l[j]? = some x) : ∃ g cap, v = .slice (some ⟨g, 0, none⟩) l.length cap ∧ w.cell? ⟨g, j * 6, none⟩ = some x.1 ∧ w.cell? ⟨g, j * 6 + 1, none⟩ = some x.2 ∧ w.cell? ⟨g, j * 6 + 2, none⟩ = some (.slice none 0 0) ∧ w.cell? ⟨g, j * 6 + 3, none⟩ = some (.slice none 0 0) ∧ w.cell? ⟨g, j * 6 + 4, none⟩ = some (.slice none 0 0) ∧ w.cell? ⟨g, j * 6 + 5, none⟩ = some (.slice none 0 0) := by
  have hlt : j < l.length := (List.getElem?_eq_some_iff.1 hj).1
  obtain ⟨_, ⟨rfl, h0⟩ | ⟨g, cap, cur, rfl, _, hh, _, _, _, htk⟩⟩ := h.own
  · omega
  · have e : ∀ i u, i < l.length * 6 → (lcells l)[i]? = some u → w.cell? ⟨g, i, none⟩ = some u := fun i u hi hu => by
      rw [cell_of_row _ _ _ _ _ _ hh, ← Array.getElem?_toList]; rw [← htk, List.getElem?_take, if_pos hi] at hu; exact hu
    have h2 := lcells_at l j x hj
    exact ⟨g, cap, rfl, e _ _ (by omega) h2.1, e _ _ (by omega) h2.2.1, e _ _ (by omega) h2.2.2.1, e _ _ (by omega) h2.2.2.2.1, e _ _ (by omega) h2.2.2.2.2.1, e _ _ (by omega) h2.2.2.2.2.2⟩
set_option maxHeartbeats 2000000 in
theorem sameInts_none (w : World) : Calls Tryz.prog 92 #[.slice none 0 0, .slice none 0 0] w fun e w' => e = .returned (.bool true) ∧ w' = w := by
  go_enter Tryz.func92, Tryz.ntmps92
  go_wp2
  refine wp_loop_rounds 1 ?_
  rw [rounds_succ]
  go_wp2
  go_ret
  exact ⟨rfl, rfl⟩
set_option maxHeartbeats 2000000 in
theorem sameEdges_none (w : World) : Calls Tryz.prog 93 #[.slice none 0 0, .slice none 0 0] w fun e w' => e = .returned (.bool true) ∧ w' = w := by
  go_enter Tryz.func93, Tryz.ntmps93
  go_wp2
  refine wp_loop_rounds 1 ?_
  rw [rounds_succ]
  go_wp2
  go_ret
  exact ⟨rfl, rfl⟩
theorem TextsAt.later {w w' : World} {v : Value} {l : List ByteArray} (h : TextsAt w v l) (hb : ∀ k, k < w.heap.size → w'.heap[k]? = w.heap[k]?) : TextsAt w' v l := by
  obtain ⟨ao, cap, rfl, hc, h | ⟨b, o, rfl, h⟩⟩ := h
  · exact ⟨ao, cap, rfl, hc, Or.inl h⟩
  · exact ⟨_, cap, rfl, hc, Or.inr ⟨b, o, rfl, fun k s hs => (World.cell?_of_block (w := w) (a := ⟨b, o + k, none⟩) (hb b (block_lt_of_cell (h k s hs)))).trans (h k s hs)⟩⟩
/-- Every list that was handed out may be read. -/
def ListsOk (L : List (Value × Value)) (w : World) : Prop := ∀ x, x ∈ L → ∃ l1 l2, TextsAt w x.1 l1 ∧ TextsAt w x.2 l2 ∧ l1.length ≤ 1048576

set_option maxHeartbeats 4000000 in
theorem looks_any (L : List (Value × Value)) (wb : Nat) (mv va vl : Value) (left : Int) (w : World) (hr : LawRow w wb mv va vl left) (hL : OwnL vl L w) (hLl : L.length ≤ 1048576) (hok : ListsOk L w) :
    Calls Tryz.prog 57 #[.pointer (some ⟨wb, 0, none⟩)] w fun e w' => ∃ b, e = .returned (.bool b) ∧ Turns (fun _ => False) w w' := by
  have HR : Hid (LawRow w wb mv va vl left) := hr
  have HL : Hid (OwnL vl L w) := hL
  have HOK : Hid (ListsOk L w) := hok
  obtain ⟨al, cl, hform⟩ := hL.form
  subst hform
  have n0 : (L.length : Int) ≤ 1048576 := by omega
  clear hr hL hok
  go_enter Tryz.func57, Tryz.ntmps57
  go_wp2
  go_loopw [3] (fun i wr => ∃ j : Nat, i = .int .i64 j ∧ j ≤ L.length ∧ Turns (fun _ => False) w wr) (fun i _ => L.length - (intOf i).toNat)
  case atStart => exact ⟨0, rfl, Nat.zero_le _, Turns.refl _ _⟩
  case round =>
    obtain ⟨j, rfl, hle, ht⟩ := hrel
    have HT : Hid (Turns (fun _ => False) w wr) := ht
    have HR1 : Hid (LawRow wr wb mv va (.slice al L.length cl) left) := (ht.block wb HR.out.lt id).trans HR.out
    have c4 : wr.cell? ⟨wb, 4, none⟩ = some (.slice al L.length cl) := by rw [cell_of_row _ _ _ _ _ _ HR1.out]; rfl
    have HL1 : Hid (OwnL (.slice al L.length cl) L wr) := HL.out.keep (fun k hk => ht.block k (HL.out.lt k hk) id)
    clear ht
    have i0 : (0 : Int) ≤ (j : Int) := by omega
    by_cases hlt : j < L.length
    · have i1 : (j : Int) < (L.length : Int) := by omega
      obtain ⟨x, hx⟩ : ∃ x, L[j]? = some x := ⟨L[j]'hlt, by simp⟩
      obtain ⟨g, cap, hge, q0, q1, q2, q3, q4, q5⟩ := HL1.out.cell j x hx
      injection hge with e1 e2 e3
      subst e1 e3
      obtain ⟨l1, l2, ht1, ht2, hs1⟩ := HOK.out x (List.mem_of_getElem? hx)
      obtain ⟨xt, xu⟩ := x
      simp only at q0 q1 ht1 ht2
      have HX1 : Hid (TextsAt w xt l1 ∧ TextsAt w xu l2) := ⟨ht1, ht2⟩
      obtain ⟨a1, c1, hx1, _⟩ := ht1
      obtain ⟨a2, c2, hx2, _⟩ := ht2
      subst hx1 hx2
      have HTA : Hid (Turns (fun _ => False) w (wr.alloc (.cells #[.slice a1 l1.length c1, .slice a2 l2.length c2, .slice none 0 0, .slice none 0 0, .slice none 0 0, .slice none 0 0] 166))) := HT.out.trans (Turns.of_below (fun _ => False) ((Below.refl _ _).alloc (Nat.le_refl _) _)) (fun _ h => h.elim)
      have HCA : Hid ((wr.alloc (.cells #[.slice a1 l1.length c1, .slice a2 l2.length c2, .slice none 0 0, .slice none 0 0, .slice none 0 0, .slice none 0 0] 166)).heap[wr.heap.size]? = some (.cells #[.slice a1 l1.length c1, .slice a2 l2.length c2, .slice none 0 0, .slice none 0 0, .slice none 0 0, .slice none 0 0] 166 (0, 0))) := heapA_new _ _ _ rfl
      go_wp2_with fail
      clear q0 q1 q2 q3 q4 q5 c4
      generalize wr.alloc (.cells #[.slice a1 l1.length c1, .slice a2 l2.length c2, .slice none 0 0, .slice none 0 0, .slice none 0 0, .slice none 0 0] 166) = wA at *
      refine (sameTexts_any l1 l2 _ _ wA (HX1.out.1.later (fun k hk => HTA.out.block k hk id)) (HX1.out.2.later (fun k hk => HTA.out.block k hk id)) (by omega)).mono ?_
      rintro e w2 ⟨rfl, m2, rfl⟩
      generalize decide (l1 = l2) = eq at *
      have z2 : (wA.drewN m2).cell? ⟨wr.heap.size, 2, none⟩ = some (.slice none 0 0) := by show wA.cell? _ = _; rw [cell_of_row _ _ _ _ _ _ HCA.out]; rfl
      have z3 : (wA.drewN m2).cell? ⟨wr.heap.size, 3, none⟩ = some (.slice none 0 0) := by show wA.cell? _ = _; rw [cell_of_row _ _ _ _ _ _ HCA.out]; rfl
      have z4 : (wA.drewN m2).cell? ⟨wr.heap.size, 4, none⟩ = some (.slice none 0 0) := by show wA.cell? _ = _; rw [cell_of_row _ _ _ _ _ _ HCA.out]; rfl
      have z5 : (wA.drewN m2).cell? ⟨wr.heap.size, 5, none⟩ = some (.slice none 0 0) := by show wA.cell? _ = _; rw [cell_of_row _ _ _ _ _ _ HCA.out]; rfl
      have HT2 : Hid (Turns (fun _ => False) w (wA.drewN m2)) := ⟨HTA.out.os, HTA.out.output, HTA.out.size, HTA.out.block⟩
      clear HTA HCA
      generalize wA.drewN m2 = w3 at *
      cases eq
      · go_wp2_with (first
          | (go_at_call 92; refine (sameInts_none _).mono ?_; rintro e w' ⟨rfl, rfl⟩)
          | (go_at_call 93; refine (sameEdges_none _).mono ?_; rintro e w' ⟨rfl, rfl⟩)
          | fail)
        go_ret
        exact ⟨false, rfl, HT2.out⟩
      · go_wp2_with (first
          | (go_at_call 92; refine (sameInts_none _).mono ?_; rintro e w' ⟨rfl, rfl⟩)
          | (go_at_call 93; refine (sameEdges_none _).mono ?_; rintro e w' ⟨rfl, rfl⟩)
          | fail)
        refine ⟨⟨j + 1, by go_num, hlt, HT2.out⟩, by simp [intOf]; omega⟩
    · obtain rfl : j = L.length := by omega
      go_wp2
      go_ret
      exact ⟨true, rfl, HT.out⟩
end Go.Proofs.YthhbpebihgjpjaaGreatDoor
