import Derived.Test.YthhbpebihgjpjaaGreatDoorJ03
import Derived.BigRegion
import Derived.Deep.AppendLies
namespace Go.Proofs.YthhbpebihgjpjaaGreatDoor
open Go.RowKit
set_option maxRecDepth 1000000

theorem fcells_set : ∀ (l : List FileV) (i : Nat) (x : FileV), i < l.length → ∀ j, (fcells (l.set i x))[j]? = if j = i * 2 then some (.string x.1) else if j = i * 2 + 1 then some (.string x.2) else (fcells l)[j]? := by
  intro l
  induction l with
  | nil => intro i x h; simp at h
  | cons y r ih =>
    intro i x h j
    have e : ∀ z s, fcells (z :: s) = .string z.1 :: .string z.2 :: fcells s := fun _ _ => rfl
    cases i with
    | zero =>
      rw [List.set_cons_zero, e, e]
      match j with
      | 0 => rfl
      | 1 => rfl
      | j + 2 => simp
    | succ i =>
      rw [List.set_cons_succ, e, e]
      match j with
      | 0 => rw [if_neg (by omega), if_neg (by omega)]; rfl
      | 1 => rw [if_neg (by omega), if_neg (by omega)]; rfl
      | j + 2 =>
        have := ih i x (by simpa using h) j
        simp only [List.getElem?_cons_succ]
        rw [this]
        by_cases h1 : j = i * 2
        · rw [if_pos h1, if_pos (show j + 2 = (i + 1) * 2 by omega)]
        · rw [if_neg h1, if_neg (show ¬ j + 2 = (i + 1) * 2 by omega)]
          by_cases h2 : j = i * 2 + 1
          · rw [if_pos h2, if_pos (show j + 2 = (i + 1) * 2 + 1 by omega)]
          · rw [if_neg h2, if_neg (show ¬ j + 2 = (i + 1) * 2 + 1 by omega)]
/-- Where there is an element, there is a row. -/
theorem Own2.row {base : Nat} {ao : Option Addr} {n cap : Nat} {l : List FileV} {w : World} (h : Own2 base (.slice ao n cap) l w) (hl : 0 < l.length) :
    ∃ g cur, ao = some ⟨g, 0, none⟩ ∧ n = l.length ∧ base ≤ g ∧ w.heap[g]? = some (.cells cur 362 (0, 0)) ∧ l.length * 2 ≤ cur.size ∧ l.length ≤ cap ∧ cap ≤ maxLen ∧ cur.size = cap * 2 ∧ cur.toList.take (l.length * 2) = fcells l := by
  obtain ⟨_, ⟨_, h0⟩ | ⟨g, cap', cur, h1, hg, hh, hle, hm, hs, ht⟩⟩ := h.own
  · omega
  · injection h1 with e1 e2 e3
    subst e3
    exact ⟨g, cur, e1, e2, hg, hh, by omega, hle, hm, hs, ht⟩
theorem Own2.of_row {base g n cap : Nat} {cur : Array Value} {l : List FileV} {w : World} (hn : n = l.length) (hg : base ≤ g) (hh : w.heap[g]? = some (.cells cur 362 (0, 0))) (hle : l.length ≤ cap) (hm : cap ≤ maxLen) (hs : cur.size = cap * 2)
    (ht : ∀ j, j < l.length * 2 → cur[j]? = (fcells l)[j]?) : Own2 base (.slice (some ⟨g, 0, none⟩) n cap) l w := by
  subst hn
  refine ⟨⟨fcells_length l, Or.inr ⟨g, cap, cur, rfl, hg, hh, hle, hm, hs, ?_⟩⟩⟩
  apply List.ext_getElem?
  intro j
  rw [List.getElem?_take]
  by_cases hj : j < l.length * 2
  · rw [if_pos hj, ← ht j hj]; simp
  · rw [if_neg hj, List.getElem?_eq_none (by rw [fcells_length]; omega)]
theorem take_at {l : List FileV} {cur : Array Value} (ht : cur.toList.take (l.length * 2) = fcells l) (j : Nat) (hj : j < l.length * 2) : cur[j]? = (fcells l)[j]? := by
  rw [← ht, List.getElem?_take, if_pos hj]; simp
/-- One file's bytes turned. -/
theorem Own2.data {base g n cap : Nat} {l : List FileV} {w : World} (h : Own2 base (.slice (some ⟨g, 0, none⟩) n cap) l w) (i : Nat) (x : FileV) (hx : l[i]? = some x) (d : ByteArray) :
    Own2 base (.slice (some ⟨g, 0, none⟩) n cap) (l.set i (x.1, d)) (w.setCell ⟨g, i * 2 + 1, none⟩ (.string d)) := by
  have hi : i < l.length := (List.getElem?_eq_some_iff.1 hx).1
  obtain ⟨g', cur, e1, hn, hg, hh, hcs, hle, hm, hs, ht⟩ := h.row (by omega)
  injection e1 with e1; injection e1 with e1; subst e1
  refine Own2.of_row (by rw [List.length_set]; exact hn) hg (heap_setCell_same _ _ _ _ _ _ hh) (by rw [List.length_set]; exact hle) hm (by simpa using hs) (fun j hj => ?_)
  rw [List.length_set] at hj
  rw [fcells_set l i _ hi j, Array.getElem?_setIfInBounds]
  by_cases h1 : j = i * 2
  · subst h1
    rw [if_neg (by omega), if_pos rfl, take_at ht _ hj, (fcells_name l i x hx).1]
  · rw [if_neg h1]
    by_cases h2 : j = i * 2 + 1
    · subst h2
      rw [if_pos rfl, if_pos (by omega), if_pos rfl]
    · rw [if_neg (fun e => h2 e.symm), if_neg h2, take_at ht j hj]
/-- One file turned whole. -/
theorem Own2.store {base g n cap : Nat} {l : List FileV} {w : World} (h : Own2 base (.slice (some ⟨g, 0, none⟩) n cap) l w) (i : Nat) (hi : i < l.length) (x : FileV) :
    Own2 base (.slice (some ⟨g, 0, none⟩) n cap) (l.set i x) (w.setCells g (i * 2) [.string x.1, .string x.2]) := by
  obtain ⟨g', cur, e1, hn, hg, hh, hcs, hle, hm, hs, ht⟩ := h.row (by omega)
  injection e1 with e1; injection e1 with e1; subst e1
  obtain ⟨cs', h1, h2, h3⟩ := heapC_at g 362 [.string x.1, .string x.2] (i * 2) cur w hh (by simp; omega)
  refine Own2.of_row (by rw [List.length_set]; exact hn) hg h1 (by rw [List.length_set]; exact hle) hm (by rw [h2]; exact hs) (fun j hj => ?_)
  rw [List.length_set] at hj
  rw [fcells_set l i _ hi j, h3 j]
  by_cases c1 : j = i * 2
  · subst c1; rw [if_pos (by simp), if_pos rfl, Nat.sub_self]; rfl
  · rw [if_neg c1]
    by_cases c2 : j = i * 2 + 1
    · subst c2; rw [if_pos (by simp), if_pos rfl, show i * 2 + 1 - i * 2 = 1 by omega]; rfl
    · rw [if_neg (by simp; omega), if_neg c2, take_at ht j hj]
/-- What may be written, and what is there. -/
theorem Own2.there {base g n cap : Nat} {l : List FileV} {w : World} (h : Own2 base (.slice (some ⟨g, 0, none⟩) n cap) l w) (i : Nat) (hi : i < l.length) : w.there g (i * 2) 2 ∧ w.frozen? ⟨g, i * 2 + 1, none⟩ = false := by
  obtain ⟨g', cur, e1, hn, hg, hh, hcs, hle, hm, hs, ht⟩ := h.row (by omega)
  injection e1 with e1; injection e1 with e1; subst e1
  exact ⟨there_of_row hh _ _ (by omega), frozen_of_row _ _ _ _ _ hh⟩
theorem posIn_cases (l : List FileV) (name : ByteArray) : (∃ (j : Nat) (x : FileV), posIn l name = (j : Int) ∧ l[j]? = some x ∧ x.1 = name) ∨ (posIn l name = -1 ∧ ∀ x ∈ l, x.1 ≠ name) := by
  have key : ∀ (l : List FileV) (k : Nat), (∃ (j : Nat) (x : FileV), posFrom name l k = ((k + j : Nat) : Int) ∧ l[j]? = some x ∧ x.1 = name) ∨ (posFrom name l k = -1 ∧ ∀ x ∈ l, x.1 ≠ name) := by
    intro l
    induction l with
    | nil => intro k; exact Or.inr ⟨rfl, fun x hx => by cases hx⟩
    | cons y r ih =>
      intro k
      by_cases e : y.1 = name
      · exact Or.inl ⟨0, y, by rw [posFrom, if_pos e]; rfl, rfl, e⟩
      · rcases ih (k + 1) with ⟨j, x, h1, h2, h3⟩ | ⟨h1, h2⟩
        · exact Or.inl ⟨j + 1, x, by rw [posFrom, if_neg e, h1]; congr 1; omega, by simpa using h2, h3⟩
        · refine Or.inr ⟨by rw [posFrom, if_neg e, h1], fun x hx => ?_⟩
          rcases List.mem_cons.1 hx with rfl | hx
          · exact e
          · exact h2 x hx
  rcases key l 0 with ⟨j, x, h1, h2, h3⟩ | h
  · exact Or.inl ⟨j, x, by rw [posIn, h1, Nat.zero_add], h2, h3⟩
  · exact Or.inr h

/-- Where what is handed back lies: in the old row, or in new memory. -/
def Lies (v0 v : Value) (w : World) : Prop := ∀ k, v.ownBlock = some k → v0.ownBlock = some k ∨ w.heap.size ≤ k
theorem two_one (a b : ByteArray) : (#[Value.string a, Value.string b] : Array Value).all (·.oneCell') = true := by simp [Value.oneCell']
def lessT (a b : ByteArray) : Bool := Op.bytesLess a.toList b.toList
def fileAt (l : List FileV) (i : Nat) : FileV := l.getD i (⟨#[]⟩, ⟨#[]⟩)
theorem fileAt_eq (l : List FileV) (i : Nat) (h : i < l.length) : l[i]? = some (fileAt l i) := by
  unfold fileAt; simp [h]
/-- The last file sinks to its place. -/
def bubble : List FileV → Nat → List FileV
  | l, 0 => l
  | l, k + 1 => if lessT (fileAt l (k + 1)).1 (fileAt l k).1 = true then bubble ((l.set (k + 1) (fileAt l k)).set k (fileAt l (k + 1))) k else l
def putL (l : List FileV) (name data : ByteArray) : List FileV := if posIn l name = -1 then bubble (l ++ [(name, data)]) l.length else l.set (posIn l name).toNat (name, data)
theorem grownBy.setCell' {a b : World} {row : Option Nat} (h : a.grownBy b row) (p : Addr) (v : Value) (hp : row = some p.block ∨ a.heap.size ≤ p.block) : a.grownBy (b.setCell p v) row :=
  ⟨h.os, h.tape, h.output, by simpa [World.setCell] using h.size, fun k hk hne => by
    rw [heap_setCell_other _ _ _ _ (by rintro rfl; rcases hp with hp | hp; exact hne hp.symm; omega)]; exact h.block k hk hne⟩
theorem grownBy.setCells' {a : World} {row : Option Nat} {g : Nat} (hp : row = some g ∨ a.heap.size ≤ g) : ∀ (vs : List Value) (o : Nat) (b : World), a.grownBy b row → a.grownBy (b.setCells g o vs) row
  | [], _, _, h => h
  | v :: r, o, b, h => grownBy.setCells' hp r (o + 1) (b.setCell ⟨g, o, none⟩ v) (grownBy.setCell' h ⟨g, o, none⟩ v hp)

set_option maxHeartbeats 2000000 in
theorem put_any (l : List FileV) (name data : ByteArray) (base : Nat) (ao : Option Addr) (cap : Nat) (hl : l.length ≤ 1099511627776) (w : World) (h : Own2 base (.slice ao l.length cap) l w) (hbase : base ≤ w.heap.size) :
    Calls Tryz.prog 304 #[.slice ao l.length cap, .string name, .string data] w fun e w' => ∃ v, e = .returned v ∧ Own2 base v (putL l name data) w' ∧ w.grownBy w' (Value.slice ao l.length cap).ownBlock ∧ Lies (.slice ao l.length cap) v w := by
  have HO : Hid (Own2 base (.slice ao l.length cap) l w) := h
  have n0 : (l.length : Int) ≤ 1099511627776 := by omega
  have hinf : (Tryz.prog.info? 362).map (fun i => (i.size, i.bytes, i.zero)) = some (2, 32, some (.agg #[.string ⟨#[]⟩, .string ⟨#[]⟩])) := by kernel_rfl
  obtain ⟨ti, hti, htj⟩ := Option.map_eq_some_iff.1 hinf
  simp only [Prod.mk.injEq] at htj
  have HTI : Hid (Tryz.prog.info? 362 = some ti ∧ ti.size = 2 ∧ ti.bytes = 32 ∧ ti.zero = some (.agg #[.string ⟨#[]⟩, .string ⟨#[]⟩])) := ⟨hti, htj.1, htj.2.1, htj.2.2⟩
  have i182 : (Tryz.prog.info? 362).map (·.size) = some 2 := by kernel_rfl
  clear h hinf hti htj
  go_enter Tryz.func304, Tryz.ntmps304
  go_wp2_with fail
  refine (at_any l name ao cap (by omega) w HO.out.at).mono ?_
  rintro e w' ⟨rfl, rfl⟩
  rcases posIn_cases l name with ⟨j, x, hp, hx, hn⟩ | ⟨hp, hnone⟩
  · have HP : Hid (putL l name data = l.set j (x.1, data)) := by
      show _ = _
      rw [putL, if_neg (by rw [hp]; omega), hp, hn]; rfl
    rw [hp]
    have hj : j < l.length := (List.getElem?_eq_some_iff.1 hx).1
    obtain ⟨g, cur, rfl, _, hg, hh, _⟩ := HO.out.row (by omega)
    have i0 : (0 : Int) ≤ (j : Int) := by omega
    have i1 : (j : Int) < (l.length : Int) := by omega
    have cd : w'.cell? ⟨g, j * 2 + 1, none⟩ = some (.string x.2) := by
      rcases HO.out.at with h | ⟨b, o, e, h⟩
      · subst h; simp at hj
      · injection e with e; injection e with e1 e2; subst e1 e2
        have := (h j x hx).2
        rwa [Nat.zero_add] at this
    have fd := (HO.out.there j hj).2
    have HO2 : Hid (Own2 base (.slice (some ⟨g, 0, none⟩) l.length cap) (l.set j (x.1, data)) (w'.setCell ⟨g, j * 2 + 1, none⟩ (.string data))) := HO.out.data j x hx data
    have HG2 : Hid (w'.grownBy (w'.setCell ⟨g, j * 2 + 1, none⟩ (.string data)) (some g)) := grownBy.setCell' ⟨rfl, rfl, rfl, Nat.le_refl _, fun _ _ _ => rfl⟩ _ _ (Or.inl rfl)
    clear hh hp hx
    go_wp2
    go_ret
    exact ⟨_, rfl, by rw [HP.out]; exact HO2.out, HG2.out, fun k hk => Or.inl hk⟩
  · have HP : Hid (putL l name data = bubble (l ++ [(name, data)]) l.length) := by
      show _ = _
      rw [putL, if_pos hp]
    rw [hp]
    iterate 41 (first | go_values | go_skip | go_guarded | go_step | go_upon | go_back | go_simp)
    refine wpList_append_lies _ rfl (.tmp 21) (.tmp 25) 223 rfl base 362 ti (.agg #[.string ⟨#[]⟩, .string ⟨#[]⟩]) 2 32 Tryz.underlying223 HTI.out.1 HTI.out.2.2.2 HTI.out.2.1 HTI.out.2.2.1 rfl (by decide) _ l.length (fcells l) rfl (by exact (HO.out.later (fun k hk => heapA_old w' _ k hk)).own) ⟨w'.heap.size, 0, none⟩ 1 1 [.string name, .string data] rfl rfl (by exact new_cells w' _ _) (by intro u hu; simp at hu; rcases hu with rfl | rfl <;> rfl) (by decide) (by unfold maxLen; omega) (by omega) (by simp; omega) _ rfl ?_
    intro g3 cap3 w3 hv3 hg3 hat3 hlt3
    refine Hid.out ?_
    have HO3 : Hid (Own2 base (.slice (some ⟨g3, 0, none⟩) (l.length + 1) cap3) (l ++ [(name, data)]) w3) := ⟨by rw [List.length_append, fcells_append]; exact hv3⟩
    have HG3 : Hid (w'.grownBy w3 (Value.slice ao l.length cap).ownBlock) := ⟨hg3.os, hg3.tape, hg3.output, by have := hg3.size; simp at this; omega, fun k hk hne => by rw [hg3.block k (by simp; omega) hne, heapA_old _ _ _ hk]⟩
    have HAT : Hid ((Value.slice ao l.length cap).ownBlock = some g3 ∨ w'.heap.size ≤ g3) := by
      rcases hat3 with h | h
      · exact Or.inl h
      · right; rw [h]; simp
    have HLN : Hid ((l ++ [(name, data)]).length = l.length + 1) := by simp [Hid]
    generalize l ++ [(name, data)] = L at *
    clear hv3 hg3 hat3
    unfold Hid
    go_wp2
    go_loopw [8] (fun c wr => ∃ (k : Nat) (M : List FileV), c = .int .i64 k ∧ k < l.length + 1 ∧ M.length = l.length + 1 ∧ Hid (bubble M k = putL l name data) ∧ Own2 base (.slice (some ⟨g3, 0, none⟩) (l.length + 1) cap3) M wr ∧ w'.grownBy wr (Value.slice ao l.length cap).ownBlock) (fun c _ => (intOf c).toNat)
    case atStart => exact ⟨l.length, L, by go_num, by omega, HLN.out, by show _ = _; rw [HP.out], HO3.out, HG3.out⟩
    case round =>
      clear HO3 HG3 HP HLN HO
      obtain ⟨k, M, rfl, hk, hM, HBU, hown, hgr⟩ := hrel
      have HO : Hid (Own2 base (.slice (some ⟨g3, 0, none⟩) (l.length + 1) cap3) M wr) := hown
      have HG : Hid (w'.grownBy wr (Value.slice ao l.length cap).ownBlock) := hgr
      have HM : Hid (M.length = l.length + 1) := hM
      clear hown hgr hM
      cases k with
      | zero =>
        go_wp2
        go_quiet (fail)
        go_wp2
        go_ret
        exact ⟨_, rfl, by have := HBU.out; rw [bubble] at this; rw [← this]; exact HO.out.later (fun _ _ => rfl), ⟨HG.out.os, HG.out.tape, HG.out.output, HG.out.size, HG.out.block⟩, fun k hk => by have e : g3 = k := Option.some.inj hk; subst e; exact HAT.out⟩
      | succ k =>
        have ck : ∀ i, i < l.length + 1 → wr.cell? ⟨g3, i * 2, none⟩ = some (.string (fileAt M i).1) ∧ wr.cell? ⟨g3, i * 2 + 1, none⟩ = some (.string (fileAt M i).2) := fun i hi => by
          rcases HO.out.at with h | ⟨b, o, e, h⟩
          · have := HM.out; rw [h] at this; simp at this
          · injection e with e; injection e with e1 e2; subst e1 e2
            have := h i _ (fileAt_eq M i (by rw [HM.out]; exact hi))
            rwa [Nat.zero_add] at this
        have d0 := (ck (k + 1) hk).1
        have d1 := (ck (k + 1) hk).2
        have e0 := (ck k (by omega)).1
        have e1 := (ck k (by omega)).2
        have i0 : (0 : Int) ≤ (k : Int) := by omega
        have i1 : (k : Int) + 1 < (l.length : Int) + 1 := by omega
        have i2 : (k : Int) < (l.length : Int) + 1 := by omega
        clear ck
        generalize hA : (fileAt M (k + 1)).1 = A0 at *
        generalize hA2 : (fileAt M (k + 1)).2 = A1 at *
        generalize hB : (fileAt M k).1 = B0 at *
        generalize hB2 : (fileAt M k).2 = B1 at *
        by_cases hq : Op.bytesLess A0.toList B0.toList = true
        · have HBN : Hid (bubble ((M.set (k + 1) (B0, B1)).set k (A0, A1)) k = putL l name data) := by
            have := HBU.out
            rw [bubble, if_pos (by rw [lessT, hA, hB]; exact hq)] at this
            rw [← this, ← hA, ← hA2, ← hB, ← hB2]
            rfl
          go_wp2
          go_quiet (fail)
          have HOq : Hid (Own2 base (.slice (some ⟨g3, 0, none⟩) (l.length + 1) cap3) M (wr.drewN nq)) := HO.out.later (fun _ _ => rfl)
          have HGq : Hid (w'.grownBy (wr.drewN nq) (Value.slice ao l.length cap).ownBlock) := ⟨HG.out.os, HG.out.tape, HG.out.output, HG.out.size, HG.out.block⟩
          have d0' : (wr.drewN nq).cell? ⟨g3, (k + 1) * 2, none⟩ = some (.string A0) := d0
          have d1' : (wr.drewN nq).cell? ⟨g3, (k + 1) * 2 + 1, none⟩ = some (.string A1) := d1
          have e0' : (wr.drewN nq).cell? ⟨g3, k * 2, none⟩ = some (.string B0) := e0
          have e1' : (wr.drewN nq).cell? ⟨g3, k * 2 + 1, none⟩ = some (.string B1) := e1
          clear HO HG d0 d1 e0 e1 hA hA2 hB hB2 HBU
          generalize wr.drewN nq = wq at *
          clear wr nq
          have hg3q : g3 < wq.heap.size := block_lt_of_cell d0'
          have HOz : Hid (Own2 base (.slice (some ⟨g3, 0, none⟩) (l.length + 1) cap3) M (wq.alloc (.cells #[.string A0, .string A1] 362))) := HOq.out.later (fun k hk => heapA_old wq _ k hk)
          have HGz : Hid (w'.grownBy (wq.alloc (.cells #[.string A0, .string A1] 362)) (Value.slice ao l.length cap).ownBlock) := ⟨HGq.out.os, HGq.out.tape, HGq.out.output, Nat.le_trans HGq.out.size (by simp), fun k hk hne => by rw [heapA_old _ _ _ (Nat.lt_of_lt_of_le hk HGq.out.size)]; exact HGq.out.block k hk hne⟩
          have e0z : (wq.alloc (.cells #[.string A0, .string A1] 362)).cell? ⟨g3, k * 2, none⟩ = some (.string B0) := by rw [World.cell?_alloc_lt _ _ ⟨g3, k * 2, none⟩ hg3q]; exact e0'
          have e1z : (wq.alloc (.cells #[.string A0, .string A1] 362)).cell? ⟨g3, k * 2 + 1, none⟩ = some (.string B1) := by rw [World.cell?_alloc_lt _ _ ⟨g3, k * 2 + 1, none⟩ hg3q]; exact e1'
          have x0z : (wq.alloc (.cells #[.string A0, .string A1] 362)).cell? ⟨wq.heap.size, 0, none⟩ = some (.string A0) := by rw [cell_of_row _ _ _ _ _ _ (heapA_new wq _ _ rfl)]; rfl
          have x1z : (wq.alloc (.cells #[.string A0, .string A1] 362)).cell? ⟨wq.heap.size, 1, none⟩ = some (.string A1) := by rw [cell_of_row _ _ _ _ _ _ (heapA_new wq _ _ rfl)]; rfl
          iterate 31 (first | go_values | go_skip | go_guarded | go_step | go_upon | go_back | go_simp)
          clear HOq HGq d0' d1' e0' e1'
          generalize hwz : wq.alloc (.cells #[.string A0, .string A1] 362) = wz at *
          clear hwz
          have HX0 : Hid (wz.cell? ⟨wq.heap.size, 0, none⟩ = some (.string A0)) := x0z
          have HX1 : Hid (wz.cell? ⟨wq.heap.size, 1, none⟩ = some (.string A1)) := x1z
          clear x0z x1z
          have tz := (HOz.out.there (k + 1) (by rw [HM.out]; exact hk)).1
          go_wp2_with (refine wpList_store_mid rfl 362 _ _ rfl g3 ((k + 1) * 2) #[.string B0, .string B1] rfl rfl tz i182 (two_one _ _) ?_; refine Hid.out ?_)
          have HO5 : Hid (Own2 base (.slice (some ⟨g3, 0, none⟩) (l.length + 1) cap3) (M.set (k + 1) (B0, B1)) (wz.setCells g3 ((k + 1) * 2) [.string B0, .string B1])) := HOz.out.store (k + 1) (by rw [HM.out]; exact hk) (B0, B1)
          have HG5 : Hid (w'.grownBy (wz.setCells g3 ((k + 1) * 2) [.string B0, .string B1]) (Value.slice ao l.length cap).ownBlock) := grownBy.setCells' HAT.out _ _ _ HGz.out
          have x0 : (wz.setCells g3 ((k + 1) * 2) [.string B0, .string B1]).cell? ⟨wq.heap.size, 0, none⟩ = some (.string A0) := by rw [World.cell?_of_block (w := wz) (a := ⟨wq.heap.size, 0, none⟩) (heapC_other _ _ _ _ _ (by show wq.heap.size ≠ g3; omega))]; exact HX0.out
          have x1 : (wz.setCells g3 ((k + 1) * 2) [.string B0, .string B1]).cell? ⟨wq.heap.size, 1, none⟩ = some (.string A1) := by rw [World.cell?_of_block (w := wz) (a := ⟨wq.heap.size, 1, none⟩) (heapC_other _ _ _ _ _ (by show wq.heap.size ≠ g3; omega))]; exact HX1.out
          clear HOz HGz e0z e1z HX0 HX1 tz
          show Hid (wpList _ _ _ _ _ (wz.setCells g3 ((k + 1) * 2) [.string B0, .string B1]))
          generalize wz.setCells g3 ((k + 1) * 2) [.string B0, .string B1] = w5 at *
          clear wz
          have tz := (HO5.out.there k (by rw [List.length_set, HM.out]; omega)).1
          unfold Hid
          go_wp2_with (refine wpList_store_mid rfl 362 _ _ rfl g3 (k * 2) #[.string A0, .string A1] rfl rfl tz i182 (two_one _ _) ?_; refine Hid.out ?_)
          have HO6 : Hid (Own2 base (.slice (some ⟨g3, 0, none⟩) (l.length + 1) cap3) ((M.set (k + 1) (B0, B1)).set k (A0, A1)) (w5.setCells g3 (k * 2) [.string A0, .string A1])) := HO5.out.store k (by rw [List.length_set, HM.out]; omega) (A0, A1)
          have HG6 : Hid (w'.grownBy (w5.setCells g3 (k * 2) [.string A0, .string A1]) (Value.slice ao l.length cap).ownBlock) := grownBy.setCells' HAT.out _ _ _ HG5.out
          have HM6 : Hid (((M.set (k + 1) (B0, B1)).set k (A0, A1)).length = l.length + 1) := by show _ = _; rw [List.length_set, List.length_set]; exact HM.out
          clear HO5 HG5 x0 x1 tz
          show Hid (wpList _ _ _ _ _ (w5.setCells g3 (k * 2) [.string A0, .string A1]))
          generalize w5.setCells g3 (k * 2) [.string A0, .string A1] = w6 at *
          clear w5
          generalize (M.set (k + 1) (B0, B1)).set k (A0, A1) = M6 at *
          unfold Hid
          go_wp2
          go_roundw
          case rel =>
            first
              | exact ⟨k, M6, by go_num, by omega, HM6.out, HBN, HO6.out, HG6.out⟩
              | ((repeat apply Exists.intro); exact ⟨⟨k, M6, by go_num, by omega, HM6.out, HBN, HO6.out, HG6.out⟩, rfl⟩)
          case measure => simp [intOf] <;> omega
        · have hq2 : Op.bytesLess A0.toList B0.toList = false := by simpa using hq
          have HBN : Hid (M = putL l name data) := by
            have := HBU.out
            rw [bubble, if_neg (by rw [lessT, hA, hB]; exact hq)] at this
            exact this
          go_wp2
          go_quiet (fail)
          go_wp2
          go_ret
          exact ⟨_, rfl, by rw [← HBN.out]; exact HO.out.later (fun _ _ => rfl), ⟨HG.out.os, HG.out.tape, HG.out.output, HG.out.size, HG.out.block⟩, fun k hk => by have e : g3 = k := Option.some.inj hk; subst e; exact HAT.out⟩
end Go.Proofs.YthhbpebihgjpjaaGreatDoor
