import Derived.Test.YthhbpebihgjpjaaGreatDoorJ04
namespace Go.Proofs.YthhbpebihgjpjaaGreatDoor
open Go.RowKit
set_option maxRecDepth 1000000

/-- An operation that waits. -/
structure WaitV where
  kind : Nat
  name : ByteArray
  data : ByteArray
def dataOf (l : List FileV) (name : ByteArray) : ByteArray := if posIn l name = -1 then ⟨#[]⟩ else (fileAt l (posIn l name).toNat).2
def applyL (l : List FileV) (o : WaitV) : List FileV :=
  if o.kind = 1 then putL l o.name o.data
  else if o.kind = 2 then putL l o.name (dataOf l o.name ++ o.data)
  else if o.kind = 3 then putL (withoutL l o.name) o.data (dataOf l o.name)
  else withoutL l o.name
theorem Own2.grown {base : Nat} {v : Value} {l : List FileV} {w w' : World} (h : Own2 base v l w) (hb : ∀ k, k < w.heap.size → w'.heap[k]? = w.heap[k]?) : Own2 base v l w' := h.later hb
theorem withoutL_le (l : List FileV) (name : ByteArray) : (withoutL l name).length ≤ l.length := List.length_filter_le _ _
theorem below_grown {a b : World} (h : Below a.heap.size a b) (row : Option Nat) : a.grownBy b row := ⟨h.os, h.tape, h.output, h.size, fun k hk _ => h.block k hk⟩
theorem grownBy.andBelow {a b c : World} {row : Option Nat} (h : Below a.heap.size a b) (k : b.grownBy c row) (hr : ∀ g, row = some g → a.heap.size ≤ g) : Below a.heap.size a c :=
  ⟨k.os.trans h.os, k.tape.trans h.tape, k.output.trans h.output, Nat.le_trans h.size k.size, fun i hi => (k.block i (Nat.lt_of_lt_of_le hi h.size) (fun e => by have := hr i e.symm; omega)).trans (h.block i hi)⟩

theorem grownBy.afterBelow {a b c : World} {row : Option Nat} (h : Below a.heap.size a b) (k : b.grownBy c row) : a.grownBy c row :=
  ⟨k.os.trans h.os, k.tape.trans h.tape, k.output.trans h.output, Nat.le_trans h.size k.size, fun i hi hne => (k.block i (Nat.lt_of_lt_of_le hi h.size) hne).trans (h.block i hi)⟩
theorem FilesAt.cell {w : World} {g : Nat} {l : List FileV} (h : FilesAt w (some ⟨g, 0, none⟩) l) (j : Nat) (x : FileV) (hx : l[j]? = some x) : w.cell? ⟨g, j * 2, none⟩ = some (.string x.1) ∧ w.cell? ⟨g, j * 2 + 1, none⟩ = some (.string x.2) := by
  rcases h with h | ⟨b, o, e, h⟩
  · subst h; simp at hx
  · injection e with e; injection e with e1 e2; subst e1 e2
    have := h j x hx
    rwa [Nat.zero_add] at this

set_option maxHeartbeats 4000000 in
theorem apply_any (l : List FileV) (o : WaitV) (base : Nat) (ao : Option Addr) (cap : Nat) (hl : l.length ≤ 1099511627776) (w : World) (h : Own2 base (.slice ao l.length cap) l w) (hbase : base ≤ w.heap.size)
    (hk : 1 ≤ o.kind ∧ o.kind ≤ 4) (h3 : o.kind = 3 → posIn l o.name ≠ -1) (hd : o.data.size ≤ 1099511627776) (hold : (dataOf l o.name).size ≤ 1099511627776) :
    Calls Tryz.prog 231 #[.slice ao l.length cap, .agg #[.int .i64 o.kind, .string o.name, .string o.data]] w fun e w' => ∃ v, e = .returned v ∧ Own2 base v (applyL l o) w' ∧ w.grownBy w' (Value.slice ao l.length cap).ownBlock ∧ Lies (.slice ao l.length cap) v w := by
  have HO : Hid (Own2 base (.slice ao l.length cap) l w) := h
  have n0 : (l.length : Int) ≤ 1099511627776 := by omega
  obtain ⟨kd, nm, dt⟩ := o
  simp only at hk h3 hd hold
  have HK3 : Hid (kd = 3 → posIn l nm ≠ -1) := h3
  clear h h3
  go_enter Tryz.func231, Tryz.ntmps231
  go_wp2_with fail
  have HB1 : Hid (Below w.heap.size w (w.alloc (.cells #[.int .i64 kd, .string nm, .string dt] 365))) := (Below.refl _ _).alloc (Nat.le_refl _) _
  have HO1 : Hid (Own2 base (.slice ao l.length cap) l (w.alloc (.cells #[.int .i64 kd, .string nm, .string dt] 365))) := HO.out.later (fun k hk => heapA_old w _ k hk)
  have c0 : (w.alloc (.cells #[.int .i64 kd, .string nm, .string dt] 365)).cell? ⟨w.heap.size, 0, none⟩ = some (.int .i64 kd) := by rw [cell_of_row _ _ _ _ _ _ (heapA_new w _ _ rfl)]; rfl
  have c1 : (w.alloc (.cells #[.int .i64 kd, .string nm, .string dt] 365)).cell? ⟨w.heap.size, 1, none⟩ = some (.string nm) := by rw [cell_of_row _ _ _ _ _ _ (heapA_new w _ _ rfl)]; rfl
  have c2 : (w.alloc (.cells #[.int .i64 kd, .string nm, .string dt] 365)).cell? ⟨w.heap.size, 2, none⟩ = some (.string dt) := by rw [cell_of_row _ _ _ _ _ _ (heapA_new w _ _ rfl)]; rfl
  generalize w.alloc (.cells #[.int .i64 kd, .string nm, .string dt] 365) = W1 at *
  have hb1 : base ≤ W1.heap.size := Nat.le_trans hbase HB1.out.size
  clear HO
  refine (at_any l nm ao cap (by omega) W1 HO1.out.at).mono ?_
  rintro e w' ⟨rfl, rfl⟩
  obtain ⟨p, hp⟩ : ∃ p, p = posIn l nm := ⟨_, rfl⟩
  rw [← hp]
  have HP : Hid (p = posIn l nm) := hp
  clear hp
  by_cases k1 : kd = 1
  · subst k1
    go_wp2_with fail
    refine (put_any l nm dt base ao cap hl w' HO1.out hb1).mono ?_
    rintro e w2 ⟨v, rfl, ho2, hg2, hl2⟩
    obtain ⟨a2, c2', hform⟩ := ho2.form
    subst hform
    have HO2 : Hid (Own2 base (.slice a2 (putL l nm dt).length c2') (putL l nm dt) w2) := ho2
    have HG2 : Hid (w.grownBy w2 (Value.slice ao l.length cap).ownBlock ∧ Lies (.slice ao l.length cap) (.slice a2 (putL l nm dt).length c2') w) := ⟨grownBy.afterBelow HB1.out hg2, fun k hk => (hl2 k hk).imp id (Nat.le_trans HB1.out.size)⟩
    clear ho2 hg2 hl2
    generalize hr : putL l nm dt = r at *
    go_wp2
    go_ret
    exact ⟨_, rfl, by rw [applyL, if_pos rfl, hr]; exact HO2.out, HG2.out.1, HG2.out.2⟩
  · by_cases k2 : kd = 2
    · subst k2
      rcases posIn_cases l nm with ⟨j, x, hpj, hx, hn⟩ | ⟨hpj, hnone⟩
      · have hj : j < l.length := (List.getElem?_eq_some_iff.1 hx).1
        have hpe : p = (j : Int) := by rw [HP.out, hpj]
        subst hpe
        obtain ⟨g, cur, rfl, _, hg, hh, _⟩ := HO1.out.row (by omega)
        have i0 : (0 : Int) ≤ (j : Int) := by omega
        have i1 : (j : Int) < (l.length : Int) := by omega
        have cd := (HO1.out.at.cell j x hx).2
        have HD : Hid (dataOf l nm = x.2) := by
          show _ = _
          rw [dataOf, if_neg (by rw [hpj]; omega), hpj]
          show (fileAt l j).2 = _
          have := fileAt_eq l j hj
          rw [hx] at this
          rw [← Option.some.inj this]
        have hz : x.2.size ≤ 1099511627776 := by rw [← HD.out]; exact hold
        obtain ⟨xn, xd⟩ := x
        simp only at cd HD hz hn
        clear hh hx hpj
        go_wp2_with fail
        refine (put_any l nm (xd ++ dt) base (some ⟨g, 0, none⟩) cap hl w' HO1.out hb1).mono ?_
        rintro e w2 ⟨v, rfl, ho2, hg2, hl2⟩
        obtain ⟨a2, c2', hform⟩ := ho2.form
        subst hform
        have HO2 : Hid (Own2 base (.slice a2 (putL l nm (xd ++ dt)).length c2') (putL l nm (xd ++ dt)) w2) := ho2
        have HG2 : Hid (w.grownBy w2 (Value.slice (some ⟨g, 0, none⟩) l.length cap).ownBlock ∧ Lies (.slice (some ⟨g, 0, none⟩) l.length cap) (.slice a2 (putL l nm (xd ++ dt)).length c2') w) := ⟨grownBy.afterBelow HB1.out hg2, fun k hk => (hl2 k hk).imp id (Nat.le_trans HB1.out.size)⟩
        clear ho2 hg2 hl2
        generalize hr : putL l nm (xd ++ dt) = r at *
        go_wp2
        go_ret
        exact ⟨_, rfl, by rw [applyL, if_neg (by simp), if_pos rfl, HD.out, hr]; exact HO2.out, HG2.out.1, HG2.out.2⟩
      · have hpe : p = -1 := by rw [HP.out, hpj]
        subst hpe
        have HD : Hid (dataOf l nm = ⟨#[]⟩) := by show _ = _; rw [dataOf, if_pos hpj]
        have HE : Hid ((⟨#[]⟩ : ByteArray) ++ dt = dt) := by
          show _ = _
          apply ByteArray.ext
          rw [ByteArray.data_append]; simp
        clear hpj
        go_wp2_with fail
        rw [HE.out]
        refine (put_any l nm dt base ao cap hl w' HO1.out hb1).mono ?_
        rintro e w2 ⟨v, rfl, ho2, hg2, hl2⟩
        obtain ⟨a2, c2', hform⟩ := ho2.form
        subst hform
        have HO2 : Hid (Own2 base (.slice a2 (putL l nm dt).length c2') (putL l nm dt) w2) := ho2
        have HG2 : Hid (w.grownBy w2 (Value.slice ao l.length cap).ownBlock ∧ Lies (.slice ao l.length cap) (.slice a2 (putL l nm dt).length c2') w) := ⟨grownBy.afterBelow HB1.out hg2, fun k hk => (hl2 k hk).imp id (Nat.le_trans HB1.out.size)⟩
        clear ho2 hg2 hl2
        generalize hr : putL l nm dt = r at *
        go_wp2
        go_ret
        exact ⟨_, rfl, by rw [applyL, if_neg (by simp), if_pos rfl, HD.out, HE.out, hr]; exact HO2.out, HG2.out.1, HG2.out.2⟩
    · by_cases k3 : kd = 3
      · subst k3
        rcases posIn_cases l nm with ⟨j, x, hpj, hx, hn⟩ | ⟨hpj, hnone⟩
        · have hj : j < l.length := (List.getElem?_eq_some_iff.1 hx).1
          have hpe : p = (j : Int) := by rw [HP.out, hpj]
          subst hpe
          obtain ⟨g, cur, rfl, _, hg, hh, _⟩ := HO1.out.row (by omega)
          have i0 : (0 : Int) ≤ (j : Int) := by omega
          have i1 : (j : Int) < (l.length : Int) := by omega
          have cd := (HO1.out.at.cell j x hx).2
          have HD : Hid (dataOf l nm = x.2) := by
            show _ = _
            rw [dataOf, if_neg (by rw [hpj]; omega), hpj]
            show (fileAt l j).2 = _
            have := fileAt_eq l j hj
            rw [hx] at this
            rw [← Option.some.inj this]
          obtain ⟨xn, xd⟩ := x
          simp only at cd HD hn
          clear hh hx hpj
          go_wp2_with fail
          refine (without_any l nm (some ⟨g, 0, none⟩) cap hl w' HO1.out.at).mono ?_
          rintro e w2 ⟨v, rfl, ho2, hb2⟩
          obtain ⟨a2, q2, hform⟩ := ho2.form
          subst hform
          have HO2 : Hid (Own2 w'.heap.size (.slice a2 (withoutL l nm).length q2) (withoutL l nm) w2) := ho2
          have HB2 : Hid (Below w'.heap.size w' w2) := hb2
          have HL2 : Hid ((withoutL l nm).length ≤ l.length) := withoutL_le l nm
          have c2b : w2.cell? ⟨w.heap.size, 2, none⟩ = some (.string dt) := by rw [hb2.cell (p := ⟨w.heap.size, 2, none⟩) (block_lt_of_cell c2)]; exact c2
          clear ho2 hb2 c0 c1 c2 cd
          generalize hm : withoutL l nm = m at *
          go_wp2_with fail
          refine (put_any m dt xd w'.heap.size a2 q2 (by have := HL2.out; omega) w2 HO2.out HB2.out.size).mono ?_
          rintro e w3 ⟨v, rfl, ho3, hg3, hl3⟩
          obtain ⟨a3, q3, hform⟩ := ho3.form
          subst hform
          have HO3 : Hid (Own2 base (.slice a3 (putL m dt xd).length q3) (putL m dt xd) w3) := ho3.mono hb1
          have HG3 : Hid (w.grownBy w3 (Value.slice (some ⟨g, 0, none⟩) l.length cap).ownBlock) := grownBy.afterBelow HB1.out (below_grown (grownBy.andBelow HB2.out hg3 (fun k hk => HO2.out.block k hk)) _)
          have HL3 : Hid (Lies (.slice (some ⟨g, 0, none⟩) l.length cap) (.slice a3 (putL m dt xd).length q3) w) := fun k hk => Or.inr (by have h1 := ho3.block k hk; have := HB1.out.size; omega)
          clear ho3 hg3 hl3
          generalize hr : putL m dt xd = r at *
          go_wp2
          go_ret
          exact ⟨_, rfl, by rw [applyL, if_neg (by simp), if_neg (by simp), if_pos rfl, HD.out, hm, hr]; exact HO3.out, HG3.out, HL3.out⟩
        · exact absurd hpj (HK3.out rfl)
      · have hk4 : kd = 4 := by omega
        subst hk4
        go_wp2_with fail
        refine (without_any l nm ao cap hl w' HO1.out.at).mono ?_
        rintro e w2 ⟨v, rfl, ho2, hb2⟩
        obtain ⟨a2, q2, hform⟩ := ho2.form
        subst hform
        have HO2 : Hid (Own2 base (.slice a2 (withoutL l nm).length q2) (withoutL l nm) w2) := ho2.mono hb1
        have HG2 : Hid (w.grownBy w2 (Value.slice ao l.length cap).ownBlock ∧ Lies (.slice ao l.length cap) (.slice a2 (withoutL l nm).length q2) w) := ⟨grownBy.afterBelow HB1.out (below_grown hb2 _), fun k hk => Or.inr (by have h1 := ho2.block k hk; have := HB1.out.size; omega)⟩
        clear ho2 hb2
        generalize hr : withoutL l nm = r at *
        go_wp2
        go_ret
        exact ⟨_, rfl, by rw [applyL, if_neg (by simp), if_neg (by simp), if_neg (by simp), hr]; exact HO2.out, HG2.out.1, HG2.out.2⟩
end Go.Proofs.YthhbpebihgjpjaaGreatDoor
