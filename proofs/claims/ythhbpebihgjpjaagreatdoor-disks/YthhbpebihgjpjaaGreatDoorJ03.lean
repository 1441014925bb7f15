import Derived.Test.YthhbpebihgjpjaaGreatDoorJ02
namespace Go.Proofs.YthhbpebihgjpjaaGreatDoor
open Go.RowKit
set_option maxRecDepth 1000000

/-- A list of files in a row of one's own. -/
structure Own2 (base : Nat) (v : Value) (l : List FileV) (w : World) : Prop where
  own : w.ownsRow base 362 2 v l.length (fcells l)
theorem Own2.nil (base : Nat) (w : World) : Own2 base (.slice none 0 0) [] w := ⟨⟨rfl, Or.inl ⟨rfl, rfl⟩⟩⟩
theorem Own2.form {base : Nat} {v : Value} {l : List FileV} {w : World} (h : Own2 base v l w) : ∃ ao cap, v = .slice ao l.length cap := by
  obtain ⟨_, ⟨rfl, h0⟩ | ⟨g, cap, cur, rfl, _⟩⟩ := h.own
  · exact ⟨none, 0, by rw [h0]⟩
  · exact ⟨_, _, rfl⟩
theorem Own2.later {base : Nat} {v : Value} {l : List FileV} {w w' : World} (h : Own2 base v l w) (hb : ∀ k, k < w.heap.size → w'.heap[k]? = w.heap[k]?) : Own2 base v l w' := by
  obtain ⟨h1, ⟨rfl, h0⟩ | ⟨g, cap, cur, rfl, hg, hh, r⟩⟩ := h.own
  · exact ⟨⟨h1, Or.inl ⟨rfl, h0⟩⟩⟩
  · have hlt : g < w.heap.size := by
      rcases Nat.lt_or_ge g w.heap.size with c | c
      · exact c
      · rw [Array.getElem?_eq_none c] at hh; cases hh
    exact ⟨⟨h1, Or.inr ⟨g, cap, cur, rfl, hg, by rw [hb g hlt]; exact hh, r⟩⟩⟩
theorem Own2.mono {base base' : Nat} {v : Value} {l : List FileV} {w : World} (h : Own2 base v l w) (hb : base' ≤ base) : Own2 base' v l w := by
  obtain ⟨h1, ⟨rfl, h0⟩ | ⟨g, cap, cur, rfl, hg, r⟩⟩ := h.own
  · exact ⟨⟨h1, Or.inl ⟨rfl, h0⟩⟩⟩
  · exact ⟨⟨h1, Or.inr ⟨g, cap, cur, rfl, Nat.le_trans hb hg, r⟩⟩⟩
theorem Own2.block {base : Nat} {ao : Option Addr} {n cap : Nat} {l : List FileV} {w : World} (h : Own2 base (.slice ao n cap) l w) (k : Nat) (hk : (Value.slice ao n cap).ownBlock = some k) : base ≤ k := by
  obtain ⟨_, ⟨h1, h0⟩ | ⟨g, cap', cur, h1, hg, _⟩⟩ := h.own
  · rw [h1] at hk; cases hk
  · rw [h1] at hk
    have : g = k := by simpa [Value.ownBlock] using hk
    omega
/-- .. read. -/
theorem Own2.at {base : Nat} {ao : Option Addr} {n cap : Nat} {l : List FileV} {w : World} (h : Own2 base (.slice ao n cap) l w) : FilesAt w ao l := by
  obtain ⟨_, ⟨_, h0⟩ | ⟨g, cap', cur, h1, hg, hh, _, _, _, ht⟩⟩ := h.own
  · exact Or.inl (List.eq_nil_of_length_eq_zero h0)
  · right
    injection h1 with e1 e2 e3
    refine ⟨g, 0, e1, fun i x hx => ?_⟩
    have hi : i < l.length := (List.getElem?_eq_some_iff.1 hx).1
    obtain ⟨f1, f2⟩ := fcells_name l i x hx
    have rd : ∀ j u, j < l.length * 2 → (fcells l)[j]? = some u → cur[j]? = some u := fun j u hj hu => by
      rw [← ht, List.getElem?_take, if_pos hj] at hu
      simpa using hu
    rw [Nat.zero_add]
    exact ⟨by rw [cell_of_row _ _ _ _ _ _ hh]; exact rd _ _ (by omega) f1, by rw [cell_of_row _ _ _ _ _ _ hh]; exact rd _ _ (by omega) f2⟩
theorem FilesAt.later {w w' : World} {ao : Option Addr} {l : List FileV} (h : FilesAt w ao l) (hb : ∀ k, k < w.heap.size → w'.heap[k]? = w.heap[k]?) : FilesAt w' ao l := by
  rcases h with h | ⟨b, o, e, h⟩
  · exact Or.inl h
  · refine Or.inr ⟨b, o, e, fun i x hx => ?_⟩
    obtain ⟨h1, h2⟩ := h i x hx
    exact ⟨by rw [World.cell?_of_block (w := w) (a := ⟨b, o + i * 2, none⟩) (hb b (block_lt_of_cell h1))]; exact h1, by rw [World.cell?_of_block (w := w) (a := ⟨b, o + i * 2 + 1, none⟩) (hb b (block_lt_of_cell h2))]; exact h2⟩

theorem new_cells (w : World) (cs : List Value) (t : TypeId) : ∀ j u, cs[j]? = some u → (w.alloc (.cells cs.toArray t)).cell? ((⟨w.heap.size, 0, none⟩ : Addr).add j) = some u := by
  intro j u hu
  have hadd : (⟨w.heap.size, 0, none⟩ : Addr).add j = ⟨w.heap.size, j, none⟩ := by unfold Addr.add; split <;> simp_all
  rw [hadd, cell_of_row _ _ _ _ _ _ (heapA_new w _ _ rfl)]
  simpa using hu

def withoutL (l : List FileV) (name : ByteArray) : List FileV := l.filter fun x => decide (x.1 ≠ name)
theorem take_more (l : List FileV) (j : Nat) (x : FileV) (h : l[j]? = some x) : l.take (j + 1) = l.take j ++ [x] := by
  have hj := (List.getElem?_eq_some_iff.1 h).1
  rw [List.take_succ_eq_append_getElem hj]
  congr 2
  exact (List.getElem?_eq_some_iff.1 h).2
theorem without_next (l : List FileV) (name : ByteArray) (j : Nat) (x : FileV) (h : l[j]? = some x) : withoutL (l.take (j + 1)) name = if x.1 = name then withoutL (l.take j) name else withoutL (l.take j) name ++ [x] := by
  rw [take_more l j x h]
  unfold withoutL
  rw [List.filter_append]
  by_cases e : x.1 = name
  · simp [e]
  · simp [e]
theorem without_le (l : List FileV) (name : ByteArray) (j : Nat) : (withoutL (l.take j) name).length ≤ j := by
  unfold withoutL
  exact Nat.le_trans (List.length_filter_le _ _) (by rw [List.length_take]; omega)

set_option maxHeartbeats 2000000 in
theorem without_any (l : List FileV) (name : ByteArray) (ao : Option Addr) (cap : Nat) (hl : l.length ≤ 1099511627776) (w : World) (h : FilesAt w ao l) :
    Calls Tryz.prog 305 #[.slice ao l.length cap, .string name] w fun e w' => ∃ v, e = .returned v ∧ Own2 w.heap.size v (withoutL l name) w' ∧ Below w.heap.size w w' := by
  have HF : Hid (FilesAt w ao l) := h
  have n0 : (l.length : Int) ≤ 1099511627776 := by omega
  have hinf : (Tryz.prog.info? 362).map (fun i => (i.size, i.bytes, i.zero)) = some (2, 32, some (.agg #[.string ⟨#[]⟩, .string ⟨#[]⟩])) := by kernel_rfl
  obtain ⟨ti, hti, htj⟩ := Option.map_eq_some_iff.1 hinf
  simp only [Prod.mk.injEq] at htj
  have HTI : Hid (Tryz.prog.info? 362 = some ti ∧ ti.size = 2 ∧ ti.bytes = 32 ∧ ti.zero = some (.agg #[.string ⟨#[]⟩, .string ⟨#[]⟩])) := ⟨hti, htj.1, htj.2.1, htj.2.2⟩
  clear h hinf hti htj
  go_enter Tryz.func305, Tryz.ntmps305
  go_wp2
  go_loopw [5, 6] (fun v c wr => ∃ j : Nat, j ≤ l.length ∧ c = .int .i64 j ∧ Own2 w.heap.size v (withoutL (l.take j) name) wr ∧ Below w.heap.size w wr) (fun _ c _ => l.length - (intOf c).toNat)
  case atStart => exact ⟨0, by omega, rfl, Own2.nil _ _, Below.refl _ _⟩
  case round =>
    obtain ⟨j, hj, rfl, hown, hbel⟩ := hrel
    obtain ⟨a5, c5, hform⟩ := hown.form
    subst hform
    have HO : Hid (Own2 w.heap.size (.slice a5 (withoutL (l.take j) name).length c5) (withoutL (l.take j) name) wr) := hown
    have HB : Hid (Below w.heap.size w wr) := hbel
    have HL : Hid ((withoutL (l.take j) name).length ≤ j) := without_le l name j
    clear hown hbel
    by_cases hlt : j < l.length
    · obtain ⟨x, hx⟩ : ∃ x, l[j]? = some x := ⟨_, List.getElem?_eq_getElem hlt⟩
      obtain ⟨b, o, rfl, hc1, hc2⟩ : ∃ b o, ao = some ⟨b, o, none⟩ ∧ wr.cell? ⟨b, o + j * 2, none⟩ = some (.string x.1) ∧ wr.cell? ⟨b, o + j * 2 + 1, none⟩ = some (.string x.2) := by
        rcases HF.out.later HB.out.block with h | ⟨b, o, e, h⟩
        · subst h; simp at hlt
        · exact ⟨b, o, e, h j x hx⟩
      have i0 : (0 : Int) ≤ (j : Int) := by omega
      have i1 : (j : Int) < (l.length : Int) := by omega
      have HN : Hid (withoutL (l.take (j + 1)) name = if x.1 = name then withoutL (l.take j) name else withoutL (l.take j) name ++ [x]) := without_next l name j x hx
      obtain ⟨xn, xd⟩ := x
      clear hx
      simp only at hc1 hc2 HN
      generalize withoutL (l.take j) name = r at *
      generalize hr2 : withoutL (l.take (j + 1)) name = r2 at *
      by_cases hq : (xn.toList == name.toList) = true
      · have HS : Hid (r2 = r) := by show _ = _; rw [HN.out, if_pos (text_same hq)]
        go_wp2
        go_roundw
        case rel =>
          first
            | exact ⟨j + 1, by omega, by go_num, by rw [hr2, HS.out]; exact HO.out, HB.out⟩
            | ((repeat apply Exists.intro); exact ⟨⟨j + 1, by omega, by go_num, by rw [hr2, HS.out]; exact HO.out, HB.out⟩, rfl⟩)
        case measure => simp [intOf]; omega
      · have hq2 : (xn.toList == name.toList) = false := by simpa using hq
        have HS : Hid (r2 = r ++ [(xn, xd)]) := by show _ = _; rw [HN.out, if_neg (text_other hq2)]
        have hq3 : (xn.toList != name.toList) = true := by simp only [bne, hq2]; rfl
        clear HN hq
        iterate 71 (first | rw [hq3] | go_values | go_skip | go_guarded | go_step | go_upon)
        refine wpList_append_own _ rfl (.tmp 20) (.tmp 25) 223 rfl w.heap.size 362 ti (.agg #[.string ⟨#[]⟩, .string ⟨#[]⟩]) 2 32 Tryz.underlying223 HTI.out.1 HTI.out.2.2.2 HTI.out.2.1 HTI.out.2.2.1 rfl (by decide) _ r.length (fcells r) rfl (by exact (HO.out.later (fun k hk => heapA_old wr _ k hk)).own) ⟨wr.heap.size, 0, none⟩ 1 1 [.string xn, .string xd] rfl rfl (by exact new_cells wr _ _) (by intro u hu; simp at hu; rcases hu with rfl | rfl <;> rfl) (by have := HL.out; unfold maxLen; omega) (by have := HL.out; omega) (by have := HB.out.size; simp; omega) ?_
        intro v3 w3 hv3 hg3 hn3
        refine Hid.out ?_
        have HO3 : Hid (Own2 w.heap.size v3 r2 w3) := by
          rw [HS.out]
          exact ⟨by rw [List.length_append, fcells_append]; exact hv3⟩
        have HB3 : Hid (Below w.heap.size w w3) := (HB.out.alloc HB.out.size _).grown hg3 (by have := HB.out.size; simp; omega) (fun k hk => HO.out.block k hk)
        obtain ⟨a9, c9, hform⟩ := HO3.out.form
        subst hform
        clear hv3 hg3 hn3 HO HB hc1 hc2
        unfold Hid
        go_wp2
        go_roundw
        case rel =>
          first
            | exact ⟨j + 1, by omega, by go_num, by rw [hr2]; exact HO3.out, HB3.out⟩
            | ((repeat apply Exists.intro); exact ⟨⟨j + 1, by omega, by go_num, by rw [hr2]; exact HO3.out, HB3.out⟩, rfl⟩)
        case measure => simp [intOf]; omega
    · have hjs : j = l.length := by omega
      subst hjs
      have HE : Hid (Own2 w.heap.size (.slice a5 (withoutL l name).length c5) (withoutL l name) wr) := by
        have := HO.out
        rw [List.take_length] at this
        exact this
      have i1 : ¬ (l.length : Int) < (l.length : Int) := by omega
      go_wp2
      go_ret
      exact ⟨_, rfl, HE.out, HB.out⟩
end Go.Proofs.YthhbpebihgjpjaaGreatDoor
