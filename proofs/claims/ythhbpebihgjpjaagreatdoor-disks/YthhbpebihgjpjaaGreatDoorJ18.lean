import Derived.Test.YthhbpebihgjpjaaGreatDoorJ17
import Derived.Test.YthhbpebihgjpjaaGreatDoorJ08
namespace Go.Proofs.YthhbpebihgjpjaaGreatDoor
open Go.RowKit Go.MuLone Go.Maps
set_option maxRecDepth 1000000

/-- The names are short. -/
def NamesL (l : List FileV) : Prop := ∀ x, x ∈ l → x.1.size ≤ 65536
theorem NamesL.put {l : List FileV} (h : NamesL l) (name data : ByteArray) (hn : name.size ≤ 65536) : NamesL (putL l name data) := by
  by_cases hp : posIn l name = -1
  · obtain ⟨a, b, rfl, h2, _, _⟩ := put_new l name data hp
    rw [h2]
    intro x hx
    rcases List.mem_append.1 hx with hx | hx
    · exact h x (List.mem_append_left _ hx)
    · rcases List.mem_cons.1 hx with rfl | hx
      · exact hn
      · exact h x (List.mem_append_right _ hx)
  · obtain ⟨a, b, old, rfl, h2⟩ := put_old l name data hp
    rw [h2]
    intro x hx
    rcases List.mem_append.1 hx with hx | hx
    · exact h x (List.mem_append_left _ hx)
    · rcases List.mem_cons.1 hx with rfl | hx
      · exact hn
      · exact h x (List.mem_append_right _ (List.mem_cons_of_mem _ hx))
theorem NamesL.without {l : List FileV} (h : NamesL l) (name : ByteArray) : NamesL (withoutL l name) := fun x hx => h x (List.mem_filter.1 hx).1
theorem NamesL.apply {l : List FileV} (h : NamesL l) (o : WaitV) (hn : o.name.size ≤ 65536) (hd : o.kind = 3 → o.data.size ≤ 65536) : NamesL (applyL l o) := by
  unfold applyL
  split
  · exact h.put _ _ hn
  · split
    · exact h.put _ _ hn
    · split
      · rename_i h3; exact (h.without _).put _ _ (hd h3)
      · exact h.without _
/-- An operation that waits, where the files were as l says. -/
structure WaitOk (l : List FileV) (o : WaitV) : Prop where
  kind : 1 ≤ o.kind ∧ o.kind ≤ 4
  three : o.kind = 3 → posIn l o.name ≠ -1
  data : o.data.size ≤ 65536
  name : o.name.size ≤ 32
/-- The program's files and the document's, side by side, behind c steps. -/
structure Inv (c : Nat) (r : RefD) (d : ProgD) : Prop where
  room : d.room = r.room
  lo : 0 ≤ r.room
  hi : r.room ≤ 65536
  down : d.down = r.down
  leftHi : r.left ≤ 9223372036854775807
  fuse : (r.lit = true ∧ -(c : Int) ≤ r.left ∧ ((0 < r.left ∧ d.fuse = r.left) ∨ (r.left ≤ 0 ∧ d.fuse = 0 ∧ r.down = true))) ∨ (r.lit = false ∧ d.fuse = 0)
  kept : ∀ j, j ≤ r.wait.length → SortL (keptL r j) ∧ totalBytes (keptL r j) ≤ 65536
  seen : keptL r r.wait.length = r.seen
  ops : ∀ j, j < r.wait.length → WaitOk (keptL r j) (waitAt r.wait j)
  count : r.safe.length + r.wait.length ≤ c
  names : ∀ j, j ≤ r.wait.length → NamesL (keptL r j)
theorem Inv.later {c c' : Nat} {r : RefD} {d : ProgD} (h : Inv c r d) (hc : c ≤ c') : Inv c' r d :=
  ⟨h.room, h.lo, h.hi, h.down, h.leftHi, by rcases h.fuse with ⟨a, b, e⟩ | e; exact Or.inl ⟨a, by omega, e⟩; exact Or.inr e, h.kept, h.seen, h.ops, Nat.le_trans h.count hc, h.names⟩
theorem Inv.fuseHi {c : Nat} {r : RefD} {d : ProgD} (h : Inv c r d) : d.fuse ≤ 9223372036854775807 := by
  have := h.leftHi
  rcases h.fuse with ⟨_, _, ⟨_, e⟩ | ⟨_, e, _⟩⟩ | ⟨_, e⟩ <;> omega
theorem keptL_len (r : RefD) : ∀ j, (keptL r j).length ≤ r.safe.length + j := by
  intro j
  induction j with
  | zero => exact Nat.le_refl _
  | succ j ih => rw [keptL]; exact Nat.le_trans (applyL_len _ _) (by omega)
theorem Inv.seenLen {c : Nat} {r : RefD} {d : ProgD} (h : Inv c r d) : r.seen.length ≤ c := by
  rw [← h.seen]; exact Nat.le_trans (keptL_len r _) h.count
theorem Inv.sorted {c : Nat} {r : RefD} {d : ProgD} (h : Inv c r d) : SortL r.seen := by
  have := (h.kept _ (Nat.le_refl _)).1
  rw [h.seen] at this; exact this
theorem Inv.total {c : Nat} {r : RefD} {d : ProgD} (h : Inv c r d) : totalBytes r.seen ≤ 65536 := by
  have := (h.kept _ (Nat.le_refl _)).2
  rw [h.seen] at this; exact this
theorem Inv.namesSeen {c : Nat} {r : RefD} {d : ProgD} (h : Inv c r d) : NamesL r.seen := by
  have := h.names _ (Nat.le_refl _)
  rw [h.seen] at this; exact this
theorem Inv.refOk {c : Nat} {r : RefD} {d : ProgD} (h : Inv c r d) (hc : c ≤ 1048576) : RefOk r where
  seenL := Nat.le_trans h.seenLen hc
  waitL := by have := h.count; omega
  sizes := fun i => by have := fileAt_le r.seen i; have := h.total; omega
  lo := fun e => by
    rcases h.fuse with ⟨_, a, _⟩ | ⟨a, _⟩
    · omega
    · rw [a] at e; cases e
  hi := h.leftHi
theorem Inv.applyOk {c : Nat} {r : RefD} {d : ProgD} (h : Inv c r d) (hc : c ≤ 1048576) (j : Nat) (hj : j < r.wait.length) : ApplyOk (keptL r j) (waitAt r.wait j) where
  len := by have := keptL_len r j; have := h.count; omega
  kind := (h.ops j hj).kind
  three := (h.ops j hj).three
  data := by have := (h.ops j hj).data; omega
  old := by have := dataOf_le (keptL r j) (waitAt r.wait j).name; have := (h.kept j (by omega)).2; omega

theorem keptL_same {r r' : RefD} (hs : r'.safe = r.safe) : ∀ j, (∀ i, i < j → waitAt r'.wait i = waitAt r.wait i) → keptL r' j = keptL r j := by
  intro j
  induction j with
  | zero => intro _; exact hs
  | succ j ih =>
    intro h
    rw [keptL, keptL, ih (fun i hi => h i (by omega)), h j (by omega)]
theorem mayD_safe (d : RefD) : (mayD d).safe = d.safe := by unfold mayD; split <;> rfl
theorem mayD_room (d : RefD) : (mayD d).room = d.room := by unfold mayD; split <;> rfl
theorem burnD_room (d : ProgD) : (burnD d).room = d.room := by unfold burnD; split <;> rfl
/-- The fuse burns on both sides alike. -/
theorem Inv.burn {c : Nat} {r : RefD} {d : ProgD} (h : Inv c r d) : Inv (c + 1) (mayD r) (burnD d) := by
  have hk : ∀ j, keptL (mayD r) j = keptL r j := fun j => keptL_same (mayD_safe r) j (fun i _ => by rw [mayD_wait])
  have hdn : (burnD d).down = (mayD r).down ∧ (mayD r).left ≤ 9223372036854775807 ∧ (((mayD r).lit = true ∧ -((c + 1 : Nat) : Int) ≤ (mayD r).left ∧ ((0 < (mayD r).left ∧ (burnD d).fuse = (mayD r).left) ∨ ((mayD r).left ≤ 0 ∧ (burnD d).fuse = 0 ∧ (mayD r).down = true))) ∨ ((mayD r).lit = false ∧ (burnD d).fuse = 0)) := by
    have h1 := h.down
    have h2 := h.leftHi
    have h3 := h.fuse
    unfold mayD burnD
    rcases h3 with ⟨hl, hlo, ⟨hp, hf⟩ | ⟨hp, hf, hd⟩⟩ | ⟨hl, hf⟩
    · rw [if_pos hl, if_pos (show 0 < d.fuse by omega)]
      simp only
      by_cases hz : r.left - 1 ≤ 0
      · have e1 : d.fuse - 1 = 0 := by omega
        refine ⟨by simp [hz, e1], by omega, Or.inl ⟨hl, by omega, Or.inr ⟨hz, e1, by simp [hz]⟩⟩⟩
      · have e1 : ¬ d.fuse - 1 = 0 := by omega
        refine ⟨by simp [hz, e1, h1], by omega, Or.inl ⟨hl, by omega, Or.inl ⟨by omega, by omega⟩⟩⟩
    · rw [if_pos hl, if_neg (show ¬ 0 < d.fuse by omega)]
      simp only
      refine ⟨by rw [h1, hd]; simp, by omega, Or.inl ⟨hl, by omega, Or.inr ⟨by omega, hf, by simp [hd]⟩⟩⟩
    · rw [if_neg (show ¬ r.lit = true by simp [hl]), if_neg (show ¬ 0 < d.fuse by omega)]
      exact ⟨h1, h2, Or.inr ⟨hl, hf⟩⟩
  refine ⟨by rw [burnD_room, mayD_room]; exact h.room, by rw [mayD_room]; exact h.lo, by rw [mayD_room]; exact h.hi, hdn.1, hdn.2.1, hdn.2.2, ?_, ?_, ?_, ?_, ?_⟩
  · rw [mayD_wait]; intro j hj; rw [hk]; exact h.kept j hj
  · rw [mayD_wait, mayD_seen, hk]; exact h.seen
  · rw [mayD_wait]; intro j hj; rw [hk]; exact h.ops j hj
  · rw [mayD_wait, mayD_safe]; have := h.count; omega
  · rw [mayD_wait]; intro j hj; rw [hk]; exact h.names j hj
/-- An operation is done on both sides. -/
theorem Inv.more {c : Nat} {r : RefD} {d : ProgD} (h : Inv c r d) (hc : r.safe.length + r.wait.length + 1 ≤ c) (o : WaitV) (ho : WaitOk r.seen o) (ht : totalBytes (applyL r.seen o) ≤ 65536) : Inv c { r with seen := applyL r.seen o, wait := r.wait ++ [o] } d := by
  have hw : ∀ i, i < r.wait.length → waitAt (r.wait ++ [o]) i = waitAt r.wait i := fun i hi => by rw [waitAt, waitAt, List.getElem?_append_left hi]
  have hk : ∀ j, j ≤ r.wait.length → keptL { r with seen := applyL r.seen o, wait := r.wait ++ [o] } j = keptL r j := fun j hj => keptL_same (by rfl) j (fun i hi => hw i (by omega))
  have hlast : keptL { r with seen := applyL r.seen o, wait := r.wait ++ [o] } (r.wait.length + 1) = applyL r.seen o := by
    rw [keptL, hk _ (Nat.le_refl _), h.seen]
    simp [waitAt]
  refine ⟨h.room, h.lo, h.hi, h.down, h.leftHi, h.fuse, ?_, ?_, ?_, ?_, ?_⟩
  · intro j hj
    simp only [List.length_append, List.length_singleton] at hj
    rcases Nat.lt_or_ge r.wait.length j with c1 | c1
    · obtain rfl : j = r.wait.length + 1 := by omega
      rw [hlast]; exact ⟨h.sorted.apply o, ht⟩
    · rw [hk j c1]; exact h.kept j c1
  · simp only [List.length_append, List.length_singleton]; exact hlast
  · intro j hj
    simp only [List.length_append, List.length_singleton] at hj
    rcases Nat.lt_or_ge j r.wait.length with c1 | c1
    · rw [hk j (by omega)]; simp only [hw j c1]; exact h.ops j c1
    · obtain rfl : j = r.wait.length := by omega
      rw [hk _ (Nat.le_refl _), h.seen]
      simpa [waitAt] using ho
  · simp only [List.length_append, List.length_singleton]; omega
  · intro j hj
    simp only [List.length_append, List.length_singleton] at hj
    rcases Nat.lt_or_ge r.wait.length j with c1 | c1
    · obtain rfl : j = r.wait.length + 1 := by omega
      rw [hlast]; exact h.namesSeen.apply o (by have := ho.name; omega) (fun _ => ho.data)
    · rw [hk j c1]; exact h.names j c1
theorem Inv.do {c : Nat} {r : RefD} {d : ProgD} (h : Inv c r d) (o : WaitV) (ho : WaitOk r.seen o) (ht : totalBytes (applyL r.seen o) ≤ 65536) :
    ((burnD d).down = true ∧ doD r o = (4, mayD r) ∧ Inv (c + 1) (mayD r) (burnD d)) ∨ ((burnD d).down = false ∧ (doD r o).1 = 0 ∧ (doD r o).2.seen = applyL r.seen o ∧ (doD r o).2.wait = r.wait ++ [o] ∧ (doD r o).2.safe = r.safe ∧ Inv (c + 1) (doD r o).2 (burnD d)) := by
  have hb := h.burn
  by_cases hd : (mayD r).down = true
  · left
    exact ⟨by rw [hb.down]; exact hd, by rw [doD, if_pos hd], hb⟩
  · right
    have e : doD r o = (0, { mayD r with seen := applyL (mayD r).seen o, wait := (mayD r).wait ++ [o] }) := by rw [doD, if_neg hd]
    rw [e]
    refine ⟨by rw [hb.down]; simpa using hd, rfl, by rw [mayD_seen], by rw [mayD_wait], mayD_safe r, hb.more (by rw [mayD_safe, mayD_wait]; have := h.count; omega) o (by rw [mayD_seen]; exact ho) (by rw [mayD_seen]; exact ht)⟩
theorem Inv.fresh (c : Nat) (n : Int) : Inv c ⟨[], [], min (max n 0) 65536, [], 0, false, false⟩ ⟨min (max n 0) 65536, 0, false⟩ :=
  ⟨rfl, by simp only; omega, by simp only; omega, rfl, by simp only; omega, Or.inr ⟨rfl, rfl⟩, fun j hj => by obtain rfl : j = 0 := by simpa using hj
                                                                                                              exact ⟨List.Pairwise.nil, by simp [keptL, totalBytes, goneBytes]⟩, rfl, fun j hj => by simp at hj, by simp, fun j hj x hx => by
    obtain rfl : j = 0 := by simpa using hj
    simp [keptL] at hx⟩
theorem Inv.setFuse {c : Nat} {r : RefD} {d : ProgD} (h : Inv c r d) (n : Int) (hn : n ≤ 9223372036854775807) : Inv c { r with lit := decide (0 < n), left := n } { d with fuse := max n 0 } := by
  have hk : ∀ j, keptL { r with lit := decide (0 < n), left := n } j = keptL r j := fun j => keptL_same (by rfl) j (fun _ _ => rfl)
  refine ⟨h.room, h.lo, h.hi, h.down, hn, ?_, fun j hj => by rw [hk]; exact h.kept j hj, by rw [hk]; exact h.seen, fun j hj => by rw [hk]; exact h.ops j hj, h.count, fun j hj => by rw [hk]; exact h.names j hj⟩
  by_cases c1 : 0 < n
  · exact Or.inl ⟨by simp [c1], by simp only; omega, Or.inl ⟨c1, by simp only; omega⟩⟩
  · exact Or.inr ⟨by simp [c1], by simp only; omega⟩
theorem Inv.setRoom {c : Nat} {r : RefD} {d : ProgD} (h : Inv c r d) (n : Int) : Inv c { r with room := min (max n 0) 65536 } { d with room := min (max n 0) 65536 } := by
  have hk : ∀ j, keptL { r with room := min (max n 0) 65536 } j = keptL r j := fun j => keptL_same (by rfl) j (fun _ _ => rfl)
  exact ⟨rfl, by simp only; omega, by simp only; omega, h.down, h.leftHi, h.fuse, fun j hj => by rw [hk]; exact h.kept j hj, by rw [hk]; exact h.seen, fun j hj => by rw [hk]; exact h.ops j hj, h.count, fun j hj => by rw [hk]; exact h.names j hj⟩
/-- All is safe, at a list that may be. -/
theorem Inv.safely {c : Nat} {r : RefD} {d : ProgD} (h : Inv c r d) (L : List FileV) (hs : SortL L) (ht : totalBytes L ≤ 65536) (hl : L.length ≤ c) (hn : NamesL L) : Inv c { r with safe := L, seen := L, wait := [] } d :=
  ⟨h.room, h.lo, h.hi, h.down, h.leftHi, h.fuse, fun j hj => by
    obtain rfl : j = 0 := by simpa using hj
    exact ⟨hs, ht⟩, rfl, fun j hj => by simp at hj, by simpa using hl, fun j hj => by
    obtain rfl : j = 0 := by simpa using hj
    exact hn⟩
theorem Inv.sync {c : Nat} {r : RefD} {d : ProgD} (h : Inv c r d) :
    ((burnD d).down = true ∧ syncD r = (4, mayD r) ∧ Inv (c + 1) (mayD r) (burnD d)) ∨ ((burnD d).down = false ∧ (syncD r).1 = 0 ∧ (syncD r).2.seen = r.seen ∧ (syncD r).2.safe = r.seen ∧ (syncD r).2.wait = [] ∧ Inv (c + 1) (syncD r).2 (burnD d)) := by
  have hb := h.burn
  by_cases hd : (mayD r).down = true
  · left
    exact ⟨by rw [hb.down]; exact hd, by rw [syncD, if_pos hd], hb⟩
  · right
    have e : syncD r = (0, { mayD r with safe := (mayD r).seen, wait := [] }) := by rw [syncD, if_neg hd]
    rw [e]
    refine ⟨by rw [hb.down]; simpa using hd, rfl, mayD_seen r, mayD_seen r, rfl, ?_⟩
    exact hb.safely (mayD r).seen hb.sorted hb.total hb.seenLen hb.namesSeen
theorem cut_total (l : List FileV) (h : DistinctL l) (o : WaitV) (cut : Int) (hk : 1 ≤ o.kind ∧ o.kind ≤ 2) : totalBytes (applyL l (cutO o cut)) ≤ totalBytes (applyL l o) := by
  unfold cutO
  split
  · rename_i hc
    have hx : (o.data.extract 0 cut.toNat).size ≤ o.data.size := by simp [ByteArray.size_extract]; omega
    rcases (show o.kind = 1 ∨ o.kind = 2 by omega) with e | e
    · rw [applyL, applyL, if_pos e, if_pos e]
      have h1 := total_put l h o.name (o.data.extract 0 cut.toNat)
      have h2 := total_put l h o.name o.data
      simp only
      omega
    · rw [applyL, applyL, if_neg (by simp only; omega), if_pos e, if_neg (by omega), if_pos e]
      have h1 := total_put l h o.name (dataOf l o.name ++ o.data.extract 0 cut.toNat)
      have h2 := total_put l h o.name (dataOf l o.name ++ o.data)
      simp only [ByteArray.size_append] at *
      omega
  · exact Nat.le_refl _
theorem Inv.crash {c : Nat} {r : RefD} {d : ProgD} (h : Inv c r d) (keep cut : Int) : Inv c (crashD r keep cut) { d with fuse := 0, down := false } ∧ (crashSafe r keep cut).length ≤ c := by
  have hkn : keepsN r keep ≤ r.wait.length := Nat.min_le_left _ _
  have hnm : NamesL (crashSafe r keep cut) := by
    unfold crashSafe
    split
    · rename_i hc
      have ho := h.ops _ hc.1
      have e1 : (cutO (waitAt r.wait (keepsN r keep)) cut).name = (waitAt r.wait (keepsN r keep)).name := by unfold cutO; split <;> rfl
      have e2 : (cutO (waitAt r.wait (keepsN r keep)) cut).kind = (waitAt r.wait (keepsN r keep)).kind := by unfold cutO; split <;> rfl
      exact (h.names _ hkn).apply _ (by rw [e1]; have := ho.name; omega) (fun h3 => by rw [e2] at h3; have := hc.2.1; omega)
    · exact h.names _ hkn
  have hkey : SortL (crashSafe r keep cut) ∧ totalBytes (crashSafe r keep cut) ≤ 65536 ∧ (crashSafe r keep cut).length ≤ c := by
    unfold crashSafe
    have h1 := h.kept _ hkn
    have h2 := keptL_len r (keepsN r keep)
    have h3 := h.count
    split
    · rename_i hc
      have h4 := h.kept (keepsN r keep + 1) (by omega)
      refine ⟨h1.1.apply _, ?_, by have := applyL_len (keptL r (keepsN r keep)) (cutO (waitAt r.wait (keepsN r keep)) cut); omega⟩
      have := cut_total (keptL r (keepsN r keep)) h1.1.distinct (waitAt r.wait (keepsN r keep)) cut ⟨(h.ops _ hc.1).kind.1, hc.2.1⟩
      exact Nat.le_trans this h4.2
    · exact ⟨h1.1, h1.2, by omega⟩
  refine ⟨?_, hkey.2.2⟩
  exact ⟨h.room, h.lo, h.hi, rfl, h.leftHi, Or.inr ⟨rfl, rfl⟩, fun j hj => by
    obtain rfl : j = 0 := by simpa [crashD] using hj
    exact ⟨hkey.1, hkey.2.1⟩, rfl, fun j hj => by simp [crashD] at hj, by simpa [crashD] using hkey.2.2, fun j hj => by
    obtain rfl : j = 0 := by simpa [crashD] using hj
    exact hnm⟩
end Go.Proofs.YthhbpebihgjpjaaGreatDoor
