import Derived.Test.YthhbpebihgjpjaaGreatDoorK31
namespace Go.Proofs.YthhbpebihgjpjaaGreatDoor
open Go.RowKit Go.Maps Go.Shelf
set_option maxRecDepth 1000000

theorem pclone_any (l : List ByteArray) (v : Value) (w : World) (h : TextsAt w v l) (hl : l.length ≤ 10000) :
    Calls Tryz.prog 54 #[v] w fun e w' => ∃ ao n c, e = .returned (.slice ao n c) ∧ TextsF w.heap.size w' (.slice ao n c) l ∧ (∀ k, (Value.slice ao n c).ownBlock = some k → k < w'.heap.size) ∧ Below w.heap.size w w' := by
  have fin : ∀ {e : Ending} {w' : World} {v' : Value} {l : List ByteArray}, e = .returned v' → w'.ownsRow w.heap.size 9 1 v' l.length (l.map Value.string) → Below w.heap.size w w' → ∃ ao n c, e = .returned (.slice ao n c) ∧ TextsF w.heap.size w' (.slice ao n c) l ∧ (∀ k, (Value.slice ao n c).ownBlock = some k → k < w'.heap.size) ∧ Below w.heap.size w w' := by
    intro e w' v' l he hr hb
    obtain ⟨ao, cap, rfl, _, _⟩ := row_form hr
    exact ⟨ao, _, cap, he, ⟨texts_own hr, fun k hk => (rblock hr k hk).1⟩, fun k hk => (rblock hr k hk).2, hb⟩
  obtain ⟨ao, cap, rfl, hc, ⟨h0, rfl, _⟩ | ⟨b, o, rfl, h⟩⟩ := h
  · cases ao with
    | none =>
      refine (Any.slices_Clone_string_nil Tryz.laysNm216 0 cap w).mono ?_
      rintro e w' ⟨rfl, rfl⟩
      exact ⟨none, 0, 0, rfl, ⟨⟨none, 0, rfl, Nat.le_refl _, Or.inl ⟨fun _ => rfl, rfl, trivial⟩⟩, (fun k hk => by cases hk)⟩, (fun k hk => by cases hk), Below.refl _ _⟩
    | some a =>
      refine (Any.slices_Clone_string_zero Tryz.laysNm216 a cap w).mono ?_
      rintro e w' ⟨v', rfl, hr, _, hb⟩
      exact fin (l := []) rfl hr hb
  · refine (Any.slices_Clone_string Tryz.laysNm216 b o l.length cap l w (Nat.le_refl _) (by omega) (fun j hj => ?_)).mono ?_
    · rw [h j l[j] (by simp)]
      simp [List.getD, hj]
    · rintro e w' ⟨v', rfl, hr, _, hb⟩
      rw [List.take_length] at hr
      exact fin rfl hr hb
/-- Edges that are there, in a row of one's own. -/
structure EdgesAt (W0 : Nat) (w : World) (c : Nat → Nat) (v : Value) (ds : List DraftV) (es : List EdgeS) (cs : List ByteArray) : Prop where
  row : w.ownsRow W0 63 6 v es.length (ecells ds cs)
  const : Stable c w (fun w => ds.length = es.length ∧ ∀ (k : Nat) d e, ds[k]? = some d → es[k]? = some e → TextsAt w d.vo e.outs ∧ TextsAt w d.vi e.ins ∧ TextsAt w d.vm e.impl ∧ TextsAt w d.vr e.ord ∧ d.rule = e.rule)
  c1 : ∀ k, v.ownBlock = some k → c k = 1
  fresh : ∀ k, w.heap.size ≤ k → c k = 0
  low : ∀ k, k < W0 → c k = 9
theorem ecells_at : ∀ (ds : List DraftV) (cs : List ByteArray) (j : Nat) (d : DraftV) (c : ByteArray) (i : Nat), ds[j]? = some d → cs[j]? = some c → i < 6 → (ecells ds cs)[j * 6 + i]? = (ecell d c)[i]?
  | [], _, j, d, c, i, h, _, _ => by simp at h
  | _ :: _, [], j, d, c, i, _, h, _ => by simp at h
  | x :: ds, y :: cs, 0, d, c, i, h, h2, hi => by
    simp only [List.getElem?_cons_zero, Option.some.injEq] at h h2
    subst h h2
    show (ecell x y ++ ecells ds cs)[0 * 6 + i]? = _
    rw [Nat.zero_mul, Nat.zero_add, List.getElem?_append_left (by show i < 6; exact hi)]
  | x :: ds, y :: cs, j + 1, d, c, i, h, h2, hi => by
    show (ecell x y ++ ecells ds cs)[(j + 1) * 6 + i]? = _
    rw [List.getElem?_append_right (by show 6 ≤ _; omega), show (j + 1) * 6 + i - (ecell x y).length = j * 6 + i by show (j + 1) * 6 + i - 6 = _; omega]
    exact ecells_at ds cs j d c i (by simpa using h) (by simpa using h2) hi
theorem EdgesAt.later {W0 : Nat} {w w' : World} {c : Nat → Nat} {v : Value} {ds : List DraftV} {es : List EdgeS} {cs : List ByteArray} (h : EdgesAt W0 w c v ds es cs) (hb : Below w.heap.size w w') : EdgesAt W0 w' c v ds es cs where
  row := rkeep h.row (fun k hk => hb.block k (rblock h.row k hk).2)
  const := h.const.step hb.size (fun k hk h0 => ⟨hb.block k hk, h0⟩)
  c1 := h.c1
  fresh := fun k hk => h.fresh k (Nat.le_trans hb.size hk)
  low := h.low
/-- An edge more. -/
theorem EdgesAt.add {W0 : Nat} {w wx w' : World} {c : Nat → Nat} {v v' : Value} {ds : List DraftV} {es : List EdgeS} {cs : List ByteArray} {d : DraftV} {e : EdgeS} {y : ByteArray} (h : EdgesAt W0 w c v ds es cs) (hlen : ds.length = cs.length) (hb : Below w.heap.size w wx) (hg : wx.grownBy w' v.ownBlock) (hr : w'.ownsRow W0 63 6 v' (es.length + 1) (ecells ds cs ++ ecell d y)) (hat : ∀ k, v'.ownBlock = some k → v.ownBlock = some k ∨ wx.heap.size ≤ k) (t1 : TextsF w.heap.size wx d.vo e.outs) (t2 : TextsF w.heap.size wx d.vi e.ins) (t3 : TextsF w.heap.size wx d.vm e.impl) (t4 : TextsF w.heap.size wx d.vr e.ord) (hru : d.rule = e.rule) : ∃ c', EdgesAt W0 w' c' v' (ds ++ [d]) (es ++ [e]) (cs ++ [y]) := by
  have hx := h.later hb
  have hoff : ∀ k, k < wx.heap.size → c k ≠ 1 → w'.heap[k]? = wx.heap[k]? := fun k hk hc => hg.block k hk (fun e => hc (h.c1 k e.symm))
  have hn : ∀ k, k < wx.heap.size → c k ≠ 1 → v'.ownBlock ≠ some k := fun k hk hc e => by
    rcases hat k e with q | q
    · exact hc (h.c1 k q)
    · omega
  refine ⟨fun k => if v'.ownBlock = some k then 1 else if c k = 1 then 2 else c k, ?_⟩
  exact {
    row := by rw [List.length_append, ecells_snoc _ _ _ _ hlen]; exact hr
    const := fun w'' hs hk => by
      have hk2 : ∀ k, k < wx.heap.size → c k = 0 → w''.heap[k]? = wx.heap[k]? := fun k h1 h2 => by
        refine (hk k (Nat.lt_of_lt_of_le h1 hg.size) ?_).trans (hoff k h1 (by omega))
        show (if v'.ownBlock = some k then 1 else if c k = 1 then 2 else c k) = 0
        rw [if_neg (hn k h1 (by omega)), if_neg (by omega)]; exact h2
      have hold := hx.const w'' (Nat.le_trans hg.size hs) hk2
      have hnew : ∀ {u : Value} {l : List ByteArray}, TextsF w.heap.size wx u l → TextsAt w'' u l := fun {u l} hu => by
        obtain ⟨ao, cap, rfl, hc, q | ⟨b, o, rfl, q⟩⟩ := hu.1
        · exact ⟨ao, cap, rfl, hc, Or.inl q⟩
        · exact ⟨_, cap, rfl, hc, Or.inr ⟨b, o, rfl, fun k s hs' => (World.cell?_of_block (w := wx) (a := ⟨b, o + k, none⟩) (hk2 b (block_lt_of_cell (q k s hs')) (h.fresh b (hu.2 b rfl)))).trans (q k s hs')⟩⟩
      refine ⟨by simp [hold.1], fun k x z hx' hz => ?_⟩
      rcases Nat.lt_or_ge k ds.length with q | q
      · rw [List.getElem?_append_left q] at hx'
        rw [List.getElem?_append_left (by rw [← hold.1]; exact q)] at hz
        exact hold.2 k x z hx' hz
      · have hkk : k = ds.length := by
          have := (List.getElem?_eq_some_iff.1 hx').1
          simp at this
          omega
        subst hkk
        rw [List.getElem?_append_right (Nat.le_refl _), Nat.sub_self] at hx'
        rw [hold.1, List.getElem?_append_right (Nat.le_refl _), Nat.sub_self] at hz
        obtain rfl := Option.some.inj hx'
        obtain rfl := Option.some.inj hz
        exact ⟨hnew t1, hnew t2, hnew t3, hnew t4, hru⟩
    c1 := fun k hk => if_pos hk
    fresh := fun k hk => by
      have h1 := hg.size
      have h0 := hx.fresh k (by omega)
      show (if v'.ownBlock = some k then 1 else if c k = 1 then 2 else c k) = 0
      rw [if_neg (fun e => by have := (rblock hr k e).2; omega), if_neg (by omega)]; exact h0
    low := fun k hk => by
      have h0 := h.low k hk
      show (if v'.ownBlock = some k then 1 else if c k = 1 then 2 else c k) = 9
      rw [if_neg (fun e => by have := (rblock hr k e).1; omega), if_neg (by omega)]; exact h0 }
end Go.Proofs.YthhbpebihgjpjaaGreatDoor
