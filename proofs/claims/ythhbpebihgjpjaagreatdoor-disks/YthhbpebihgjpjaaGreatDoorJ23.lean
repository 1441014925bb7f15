import Derived.Test.YthhbpebihgjpjaaGreatDoorJ22
namespace Go.Proofs.YthhbpebihgjpjaaGreatDoor
open Go.RowKit Go.MuLone Go.Maps
set_option maxRecDepth 1000000

theorem moreD_iff (r : RefD) (n : Int) : moreD r n = decide (r.room < n + (totalBytes r.seen : Int)) := by rw [moreD, sumBytes_total]
theorem named_le {t : ByteArray} (h : named t = true) : t.size ≤ 32 := (of_decide_eq_true h).2.1
/-- As PStep, with the error told as its number. -/
def NStep (A : Nat → Nat) (id c fb : Nat) (q : Int × RefD) (w : World) (e : Ending) (w' : World) : Prop :=
  ∃ d' A', e = .returned (.int .i64 q.1) ∧ ProgAt A' id (c + 1) fb d' q.2 w' ∧ Inv (c + 1) q.2 d' ∧ (∀ k, k < w.heap.size → A' k = A k) ∧ Turns (fun k => A k = id) w w'
theorem PStep.told {A : Nat → Nat} {id c fb : Nat} {q : Int × RefD} {w w1 w2 : World} {d' : ProgD} {A' : Nat → Nat} (hp : ProgAt A' id (c + 1) fb d' q.2 w1) (hI : Inv (c + 1) q.2 d') (hA : ∀ k, k < w.heap.size → A' k = A k) (ht : Turns (fun k => A k = id) w w1) (hb : Below w1.heap.size w1 w2) : NStep A id c fb q w (.returned (.int .i64 q.1)) w2 :=
  ⟨d', A', rfl, hp.keep (Nat.le_refl _) (fun _ _ => rfl) (fun k hk _ => hb.block k hk), hI, hA, ht.trans (Turns.of_below (fun _ => False) hb) (fun _ h => h.elim)⟩

theorem pWrite_any {A : Nat → Nat} {a : Nat → Addr} {t : Nat → ByteArray} {id c fb : Nat} {d : ProgD} {r : RefD} {w : World} (hid : id ≠ 0) (he : EnvAt A a t w) (hp : ProgAt A id c fb d r w) (hI : Inv c r d) (hc : c < 1048576) (name data : ByteArray) (hn : name.size ≤ 140737488351232) (hd : data.size ≤ 140737488351232) :
    Calls Tryz.prog 49 #[.pointer (some ⟨fb, 0, none⟩), .string name, .string data] w (PStep A a id c fb (refWrite r name data) w) := by
  obtain ⟨nb, sb, n, m, sv, S, h1, h2, h3, h4, h5, h6, h7, h8, h9, h10, h11⟩ := hp
  have htot := hI.total
  have hdo := dataOf_le r.seen name
  refine (progWrite_any name data (Nat.le_trans hn (by decide)) hd r.seen hI.sorted.distinct (by omega) (by omega) S (errV a 0) (errV a 1) (errV a 2) (errV a 3) d fb nb sb n sv w ⟨h1, h2, h4, he.errsAt, he.glob⟩ (by unfold maxLen; omega) hI.fuseHi (by rw [hI.room]; exact hI.hi) (dataOf_le _ _) (by rw [h5]; have := hI.count; omega) h11 ⟨h9.2.2.2.1, h9.2.2.2.2.1, h9.1⟩).mono (fun e w' hpost => op_pstep hid hI h1 h2 h3 h5 h6 h7 h8 h9 h10 h11 ?_ hpost)
  rw [refWrite, writeNo, moreD_iff, hI.room]
  by_cases hnm : named name = true
  · rw [if_pos hnm, if_neg (show ¬ named name = false by simp [hnm])]
    by_cases hmr : r.room < (totalBytes r.seen : Int) - ((dataOf r.seen name).size : Int) + (data.size : Int)
    · rw [if_pos hmr, if_pos (show decide (r.room < (data.size : Int) - ((dataOf r.seen name).size : Int) + (totalBytes r.seen : Int)) = true by simp; omega)]
      exact Or.inl ⟨_, rfl, Or.inr ⟨2, by decide, rfl, rfl⟩, rfl⟩
    · rw [if_neg hmr, if_neg (show ¬ decide (r.room < (data.size : Int) - ((dataOf r.seen name).size : Int) + (totalBytes r.seen : Int)) = true by simp; omega)]
      have hput := total_put r.seen hI.sorted.distinct name data
      have hhi := hI.hi
      refine Or.inr ⟨rfl, rfl, ⟨⟨Nat.le_refl _, by simp⟩, fun h => by simp at h, by simp only; omega, named_le hnm⟩, ?_⟩
      rw [applyL, if_pos rfl]
      simp only
      omega
  · rw [if_neg hnm, if_pos (show named name = false by simpa using hnm)]
    exact Or.inl ⟨_, rfl, Or.inr ⟨0, by decide, rfl, rfl⟩, rfl⟩

theorem pAppend_any {A : Nat → Nat} {a : Nat → Addr} {t : Nat → ByteArray} {id c fb : Nat} {d : ProgD} {r : RefD} {w : World} (hid : id ≠ 0) (he : EnvAt A a t w) (hp : ProgAt A id c fb d r w) (hI : Inv c r d) (hc : c < 1048576) (name data : ByteArray) (hn : name.size ≤ 140737488351232) (hd : data.size ≤ 140737488351232) :
    Calls Tryz.prog 229 #[.pointer (some ⟨fb, 0, none⟩), .string name, .string data] w (PStep A a id c fb (refAppend r name data) w) := by
  obtain ⟨nb, sb, n, m, sv, S, h1, h2, h3, h4, h5, h6, h7, h8, h9, h10, h11⟩ := hp
  have htot := hI.total
  have hdo := dataOf_le r.seen name
  refine (progAppend_any name data (Nat.le_trans hn (by decide)) hd r.seen hI.sorted.distinct (by omega) (by omega) S (errV a 0) (errV a 1) (errV a 2) (errV a 3) d fb nb sb n sv w ⟨h1, h2, h4, he.errsAt, he.glob⟩ (by unfold maxLen; omega) hI.fuseHi (by rw [hI.room]; exact hI.hi) (by rw [h5]; have := hI.count; omega) h11 ⟨h9.2.2.2.1, h9.2.2.2.2.1, h9.1⟩).mono (fun e w' hpost => op_pstep hid hI h1 h2 h3 h5 h6 h7 h8 h9 h10 h11 ?_ hpost)
  rw [refAppend, appendNo, moreD_iff, hI.room]
  by_cases hnm : named name = true
  · rw [if_pos hnm, if_neg (show ¬ named name = false by simp [hnm])]
    by_cases hmr : r.room < (totalBytes r.seen : Int) + (data.size : Int)
    · rw [if_pos hmr, if_pos (show decide (r.room < (data.size : Int) + (totalBytes r.seen : Int)) = true by simp; omega)]
      exact Or.inl ⟨_, rfl, Or.inr ⟨2, by decide, rfl, rfl⟩, rfl⟩
    · rw [if_neg hmr, if_neg (show ¬ decide (r.room < (data.size : Int) + (totalBytes r.seen : Int)) = true by simp; omega)]
      have hput := total_put r.seen hI.sorted.distinct name (dataOf r.seen name ++ data)
      have hhi := hI.hi
      rw [ByteArray.size_append] at hput
      refine Or.inr ⟨rfl, rfl, ⟨⟨by simp, by simp⟩, fun h => by simp at h, by simp only; omega, named_le hnm⟩, ?_⟩
      rw [applyL, if_neg (by simp), if_pos rfl]
      simp only
      omega
  · rw [if_neg hnm, if_pos (show named name = false by simpa using hnm)]
    exact Or.inl ⟨_, rfl, Or.inr ⟨0, by decide, rfl, rfl⟩, rfl⟩

theorem pRemove_any {A : Nat → Nat} {a : Nat → Addr} {t : Nat → ByteArray} {id c fb : Nat} {d : ProgD} {r : RefD} {w : World} (hid : id ≠ 0) (he : EnvAt A a t w) (hp : ProgAt A id c fb d r w) (hI : Inv c r d) (hc : c < 1048576) (name : ByteArray) (hn : name.size ≤ 140737488351232) :
    Calls Tryz.prog 78 #[.pointer (some ⟨fb, 0, none⟩), .string name] w (PStep A a id c fb (refRemove r name) w) := by
  obtain ⟨nb, sb, n, m, sv, S, h1, h2, h3, h4, h5, h6, h7, h8, h9, h10, h11⟩ := hp
  have htot := hI.total
  have hdo := dataOf_le r.seen name
  refine (progRemove_any name (Nat.le_trans hn (by decide)) r.seen (by omega) S (errV a 0) (errV a 1) (errV a 2) (errV a 3) d fb nb sb n sv w ⟨h1, h2, h4, he.errsAt, he.glob⟩ (by unfold maxLen; omega) hI.fuseHi (by rw [h5]; have := hI.count; omega) h11 ⟨h9.2.2.2.1, h9.2.2.2.2.1, h9.1⟩).mono (fun e w' hpost => op_pstep hid hI h1 h2 h3 h5 h6 h7 h8 h9 h10 h11 ?_ hpost)
  rw [refRemove, removeNo]
  by_cases hnm : named name = true
  · rw [if_pos hnm, if_neg (show ¬ named name = false by simp [hnm])]
    by_cases hps : posIn r.seen name = -1
    · rw [if_pos hps, if_pos hps]
      exact Or.inl ⟨_, rfl, Or.inr ⟨1, by decide, rfl, rfl⟩, rfl⟩
    · rw [if_neg hps, if_neg hps]
      have hw := total_without r.seen hI.sorted.distinct name
      refine Or.inr ⟨rfl, rfl, ⟨⟨by simp, by simp⟩, fun h => by simp at h, Nat.zero_le _, named_le hnm⟩, ?_⟩
      rw [applyL, if_neg (by simp), if_neg (by simp), if_neg (by simp)]
      simp only
      omega
  · rw [if_neg hnm, if_pos (show named name = false by simpa using hnm)]
    exact Or.inl ⟨_, rfl, Or.inr ⟨0, by decide, rfl, rfl⟩, rfl⟩

theorem pRename_any {A : Nat → Nat} {a : Nat → Addr} {t : Nat → ByteArray} {id c fb : Nat} {d : ProgD} {r : RefD} {w : World} (hid : id ≠ 0) (he : EnvAt A a t w) (hp : ProgAt A id c fb d r w) (hI : Inv c r d) (hc : c < 1048576) (frm tnm : ByteArray) (hn : frm.size ≤ 140737488351232) :
    Calls Tryz.prog 174 #[.pointer (some ⟨fb, 0, none⟩), .string frm, .string tnm] w (PStep A a id c fb (refRename r frm tnm) w) := by
  obtain ⟨nb, sb, n, m, sv, S, h1, h2, h3, h4, h5, h6, h7, h8, h9, h10, h11⟩ := hp
  have htot := hI.total
  have hdo := dataOf_le r.seen frm
  refine (progRename_any frm tnm (Nat.le_trans hn (by decide)) r.seen (by omega) S (errV a 0) (errV a 1) (errV a 2) (errV a 3) d fb nb sb n sv w ⟨h1, h2, h4, he.errsAt, he.glob⟩ (by unfold maxLen; omega) hI.fuseHi (by rw [h5]; have := hI.count; omega) h11 ⟨h9.2.2.2.1, h9.2.2.2.2.1, h9.1⟩).mono (fun e w' hpost => op_pstep hid hI h1 h2 h3 h5 h6 h7 h8 h9 h10 h11 ?_ hpost)
  rw [refRename, renameNo]
  by_cases hnm : named frm = true ∧ named tnm = true
  · rw [if_pos hnm, if_neg (show ¬ (named frm = false ∨ named tnm = false) by simp [hnm.1, hnm.2])]
    by_cases hps : posIn r.seen frm = -1
    · rw [if_pos hps, if_pos hps]
      exact Or.inl ⟨_, rfl, Or.inr ⟨1, by decide, rfl, rfl⟩, rfl⟩
    · rw [if_neg hps, if_neg hps]
      have hw := total_without r.seen hI.sorted.distinct frm
      have hput := total_put (withoutL r.seen frm) (hI.sorted.without frm).distinct tnm (dataOf r.seen frm)
      have hsz := named_le hnm.2
      refine Or.inr ⟨rfl, rfl, ⟨⟨by simp, by simp⟩, fun _ => hps, by simp only; omega, named_le hnm.1⟩, ?_⟩
      rw [applyL, if_neg (by simp), if_neg (by simp), if_pos rfl]
      simp only
      omega
  · have hor : named frm = false ∨ named tnm = false := by
      by_cases h1 : named frm = true
      · right
        have : ¬ named tnm = true := fun h2 => hnm ⟨h1, h2⟩
        simpa using this
      · left; simpa using h1
    rw [if_neg hnm, if_pos hor]
    exact Or.inl ⟨_, rfl, Or.inr ⟨0, by decide, rfl, rfl⟩, rfl⟩

theorem pSync_any {A : Nat → Nat} {a : Nat → Addr} {t : Nat → ByteArray} {id c fb : Nat} {d : ProgD} {r : RefD} {w : World} (hid : id ≠ 0) (he : EnvAt A a t w) (hp : ProgAt A id c fb d r w) (hI : Inv c r d) :
    Calls Tryz.prog 173 #[.pointer (some ⟨fb, 0, none⟩)] w (PStep A a id c fb (syncD r) w) := by
  obtain ⟨nb, sb, n, m, sv, S, h1, h2, h3, h4, h5, h6, h7, h8, h9, h10, h11⟩ := hp
  refine (progSync_any r.seen (errV a 3) d fb nb sb n sv w h1 h2 (fun e => h9.1 e.symm) hI.fuseHi he.errsAt.down (by omega)).mono ?_
  rintro e w' ⟨hm, ht, hcase⟩
  have hT : Turns (fun k => A k = id) w w' := ht.mono (fun k hk => by rw [hk]; exact h10.1)
  rcases hcase with ⟨hd, rfl, hr⟩ | ⟨hd, rfl, z, hz, hr, hmz⟩
  · rcases hI.sync with ⟨_, e2, hI2⟩ | ⟨e1, _⟩
    · rw [e2]
      have hkeep : ∀ k, k < w.heap.size → k ≠ fb → w'.heap[k]? = w.heap[k]? := fun k hk hne => ht.block k hk hne
      refine ⟨errV a 3, burnD d, A, rfl, Or.inr ⟨3, by decide, rfl, rfl⟩, ⟨nb, sb, n, m, sv, S, hr, by rw [mayD_seen]; exact hm, by rw [mayD_safe]; exact h3.keep (hkeep sb h3.lt (fun e => h9.2.1 e.symm)), h4.keep (fun k hk => hkeep k (h4.lt k hk) (fun e => h9.2.2.2.1 (by rw [hk, e]))), by rw [mayD_wait]; exact h5, ?_, by omega, by rw [mayD_wait]; omega, h9, h10, h11⟩, hI2, fun _ _ => rfl, hT⟩
      rw [mayD_wait]
      intro j k hk
      obtain ⟨x, y⟩ := h6 j k hk
      exact ⟨x.keep (fun b hb => hkeep b (x.box_lt b hb) (fun e => hid (by rw [← h10.1, ← e]; exact y b hb))), y⟩
    · rw [hd] at e1; cases e1
  · rcases hI.sync with ⟨e1, _⟩ | ⟨_, e2, e3, e4, e5, hI2⟩
    · rw [hd] at e1; cases e1
    obtain ⟨A', a1, a2, a3⟩ := assign A w.heap.size id (fun b => b = z)
    refine ⟨.nilIface, burnD d, A', rfl, Or.inl ⟨rfl, e2⟩, ⟨nb, z, n, n, .slice none 0 0, [], hr, by rw [e3]; exact hm, by rw [e4]; exact hmz, ⟨⟨rfl, Or.inl ⟨rfl, rfl⟩⟩⟩, by rw [e5]; rfl, fun j k hk => by simp at hk, by omega, by rw [e5]; simp; omega, ⟨h9.1, ?_, ?_, by simp [Value.ownBlock], by simp [Value.ownBlock], by simp [Value.ownBlock]⟩, ⟨by rw [a1 _ h1.lt]; exact h10.1, by rw [a1 _ h2.lt]; exact h10.2.1, a2 z hz rfl, fun k hk => by simp [Value.ownBlock] at hk⟩, h11⟩, hI2, a1, hT⟩
    · have := h1.lt; omega
    · have := h2.lt; omega
end Go.Proofs.YthhbpebihgjpjaaGreatDoor

namespace Go.Proofs.YthhbpebihgjpjaaGreatDoor
open Go.RowKit Go.MuLone Go.Maps
set_option maxRecDepth 1000000

/-- What a call without an answer leaves. -/
def QStep (A : Nat → Nat) (id c fb : Nat) (q : RefD) (w : World) (e : Ending) (w' : World) : Prop :=
  ∃ d' A', e = .returned (.tuple #[]) ∧ ProgAt A' id (c + 1) fb d' q w' ∧ Inv (c + 1) q d' ∧ (∀ k, k < w.heap.size → A' k = A k) ∧ Turns (fun k => A k = id) w w'
/-- Only the struct has turned, and of the document's side nothing that the maps and the closures hang on. -/
theorem ProgAt.row {A : Nat → Nat} {id c c' fb : Nat} {d d' : ProgD} {r r' : RefD} {w w' : World} (hid : id ≠ 0) (h : ProgAt A id c fb d r w) (hc : c ≤ c') (hs : r'.safe = r.safe ∧ r'.seen = r.seen ∧ r'.wait = r.wait) (ht : Turns (fun k => k = fb) w w') (hrow : ∀ nb sb sv, ProgRow w fb d 0 nb sb sv → ProgRow w' fb d' 0 nb sb sv) : ProgAt A id c' fb d' r' w' ∧ Turns (fun k => A k = id) w w' := by
  obtain ⟨nb, sb, n, m, sv, S, h1, h2, h3, h4, h5, h6, h7, h8, h9, h10, h11⟩ := h
  have hk : ∀ k, k < w.heap.size → k ≠ fb → w'.heap[k]? = w.heap[k]? := fun k hk hne => ht.block k hk hne
  refine ⟨⟨nb, sb, n, m, sv, S, hrow _ _ _ h1, by rw [hs.2.1]; exact h2.keep (hk nb h2.lt (fun e => h9.1 e.symm)), by rw [hs.1]; exact h3.keep (hk sb h3.lt (fun e => h9.2.1 e.symm)), h4.keep (fun k q => hk k (h4.lt k q) (fun e => h9.2.2.2.1 (by rw [q, e]))), by rw [hs.2.2]; exact h5, ?_, by omega, by rw [hs.2.2]; omega, h9, h10, h11⟩, ht.mono (fun k e => by rw [e]; exact h10.1)⟩
  rw [hs.2.2]
  intro j k q
  obtain ⟨x, y⟩ := h6 j k q
  exact ⟨x.keep (fun b hb => hk b (x.box_lt b hb) (fun e => hid (by rw [← h10.1, ← e]; exact y b hb))), y⟩
theorem ProgRow.same {w : World} {fb : Nat} {d : ProgD} {lk : Int} {nb sb nb' sb' : Nat} {sv sv' : Value} (h : ProgRow w fb d lk nb sb sv) (h' : ProgRow w fb d lk nb' sb' sv') : nb = nb' ∧ sb = sb' ∧ sv = sv' := by
  have e := h.symm.trans h'
  injection e with e
  injection e with e
  have e3 := congrArg (fun x => x[3]?) e
  have e4 := congrArg (fun x => x[4]?) e
  have e5 := congrArg (fun x => x[5]?) e
  simp [ProgD.row] at e3 e4 e5
  exact ⟨e3, e4, e5⟩
theorem pFuse_any {A : Nat → Nat} {id c fb : Nat} {d : ProgD} {r : RefD} {w : World} (hid : id ≠ 0) (hp : ProgAt A id c fb d r w) (hI : Inv c r d) (n : Int) (hn : n ≤ 9223372036854775807) :
    Calls Tryz.prog 52 #[.pointer (some ⟨fb, 0, none⟩), .int .i64 n] w (QStep A id c fb { r with lit := decide (0 < n), left := n } w) := by
  obtain ⟨nb, sb, _, _, sv, _, h1, _⟩ := (show _ from hp)
  refine (progFuse_any n d fb nb sb sv w h1).mono ?_
  rintro e w' ⟨rfl, hr, ht⟩
  have hx := hp.row (r' := { r with lit := decide (0 < n), left := n }) (d' := { d with fuse := max n 0 }) (c' := c + 1) hid (Nat.le_succ c) ⟨rfl, rfl, rfl⟩ ht (fun nb' sb' sv' h' => by
    obtain ⟨e1, e2, e3⟩ := ProgRow.same h1 h'
    subst e1 e2 e3; exact hr)
  exact ⟨_, A, rfl, hx.1, (hI.setFuse n hn).later (Nat.le_succ c), fun _ _ => rfl, hx.2⟩
theorem pRoom_any {A : Nat → Nat} {id c fb : Nat} {d : ProgD} {r : RefD} {w : World} (hid : id ≠ 0) (hp : ProgAt A id c fb d r w) (hI : Inv c r d) (n : Int) :
    Calls Tryz.prog 41 #[.pointer (some ⟨fb, 0, none⟩), .int .i64 n] w (QStep A id c fb { r with room := min (max n 0) 65536 } w) := by
  obtain ⟨nb, sb, _, _, sv, _, h1, _⟩ := (show _ from hp)
  refine (progRoom_any n d fb nb sb sv w h1).mono ?_
  rintro e w' ⟨rfl, hr, ht⟩
  have hx := hp.row (r' := { r with room := min (max n 0) 65536 }) (d' := { d with room := min (max n 0) 65536 }) (c' := c + 1) hid (Nat.le_succ c) ⟨rfl, rfl, rfl⟩ ht (fun nb' sb' sv' h' => by
    obtain ⟨e1, e2, e3⟩ := ProgRow.same h1 h'
    subst e1 e2 e3; exact hr)
  exact ⟨_, A, rfl, hx.1, (hI.setRoom n).later (Nat.le_succ c), fun _ _ => rfl, hx.2⟩
theorem pCrash_any {A : Nat → Nat} {id c fb : Nat} {d : ProgD} {r : RefD} {w : World} (hid : id ≠ 0) (hp : ProgAt A id c fb d r w) (hI : Inv c r d) (hc : c < 1048576) (keep cut : Int) :
    Calls Tryz.prog 40 #[.pointer (some ⟨fb, 0, none⟩), .int .i64 keep, .int .i64 cut] w (QStep A id c fb (crashD r keep cut) w) := by
  obtain ⟨nb, sb, n, m, sv, S, h1, h2, h3, h4, h5, h6, h7, h8, h9, h10, h11⟩ := hp
  refine (progCrash_any keep cut d fb nb sb m sv S r w h1 h3 h4 ⟨h9.2.2.2.1, fun e => h9.2.1 e.symm⟩ h5 (by rw [h5]; have := hI.count; omega) (fun j k hk => ⟨(h6 j k hk).1, fun b hb e => hid (by rw [← h10.1, ← e]; exact (h6 j k hk).2 b hb)⟩) hI.ops (fun j hj => (hI.kept j hj).2) (by unfold maxLen; omega)).mono ?_
  rintro e w' ⟨rfl, nb', sb', hr, hm1, hm2, ht, hn1, hn2, hne⟩
  obtain ⟨A', a1, a2, a3⟩ := assign A w.heap.size id (fun b => b = nb' ∨ b = sb')
  have hfb := h1.lt
  refine ⟨{ d with fuse := 0, down := false }, A', rfl, ⟨nb', sb', m + r.wait.length, m + r.wait.length, .slice none 0 0, [], hr, hm1, hm2, ⟨⟨rfl, Or.inl ⟨rfl, rfl⟩⟩⟩, rfl, fun j k hk => by simp at hk, by omega, by simp [crashD]; omega, ⟨by omega, by omega, hne, by simp [Value.ownBlock], by simp [Value.ownBlock], by simp [Value.ownBlock]⟩, ⟨by rw [a1 _ hfb]; exact h10.1, a2 nb' hn1 (Or.inl rfl), a2 sb' hn2 (Or.inr rfl), fun k hk => by simp [Value.ownBlock] at hk⟩, h11⟩, (hI.crash keep cut).1.later (Nat.le_succ c), a1, ht.mono (fun k e => by rw [e]; exact h10.1)⟩
theorem pNew_any (A : Nat → Nat) (id c : Nat) (w : World) (hg : 14 ≤ w.heap.size) (n : Int) :
    Calls Tryz.prog 27 #[.int .i64 n] w fun e w' => ∃ fb A', e = .returned (.pointer (some ⟨fb, 0, none⟩)) ∧ ProgAt A' id c fb ⟨min (max n 0) 65536, 0, false⟩ ⟨[], [], min (max n 0) 65536, [], 0, false, false⟩ w' ∧ (∀ k, k < w.heap.size → A' k = A k) ∧ w.heap.size ≤ fb ∧ Below w.heap.size w w' := by
  refine (progNew_any n w).mono ?_
  rintro e w' ⟨fb, nb, sb, rfl, hr, hm1, hm2, l1, l2, l3, n1, n2, n3, hb⟩
  obtain ⟨A', a1, a2, a3⟩ := assign A w.heap.size id (fun b => b = fb ∨ b = nb ∨ b = sb)
  exact ⟨fb, A', rfl, ⟨nb, sb, 0, 0, .slice none 0 0, [], hr, hm1, hm2, ⟨⟨rfl, Or.inl ⟨rfl, rfl⟩⟩⟩, rfl, fun j k hk => by simp at hk, Nat.zero_le _, Nat.zero_le _, ⟨fun e => n1 e.symm, fun e => n2 e.symm, n3, by simp [Value.ownBlock], by simp [Value.ownBlock], by simp [Value.ownBlock]⟩, ⟨a2 fb l1 (Or.inl rfl), a2 nb l2 (Or.inr (Or.inl rfl)), a2 sb l3 (Or.inr (Or.inr rfl)), fun k hk => by simp [Value.ownBlock] at hk⟩, Nat.le_trans hg l1⟩, a1, l1, hb⟩
theorem pRead_any {A : Nat → Nat} {a : Nat → Addr} {t : Nat → ByteArray} {id c fb : Nat} {d : ProgD} {r : RefD} {w : World} (hid : id ≠ 0) (he : EnvAt A a t w) (hp : ProgAt A id c fb d r w) (name : ByteArray) (hn : name.size ≤ 140737488351232) :
    Calls Tryz.prog 45 #[.pointer (some ⟨fb, 0, none⟩), .string name] w fun e w' => ∃ v, e = .returned (.tuple #[.string (refRead r name).1, v]) ∧ NumOf a v (refRead r name).2 ∧ ProgAt A id c fb d r w' ∧ Turns (fun k => A k = id) w w' := by
  obtain ⟨nb, sb, n, m, sv, S, h1, h2, h3, h4, h5, h6, h7, h8, h9, h10, h11⟩ := (show _ from hp)
  refine (progRead_any name (Nat.le_trans hn (by decide)) r.seen (errV a 1) d fb nb sb n sv w h1 h2 (fun e => h9.1 e.symm) he.errsAt.gone (by omega)).mono ?_
  rintro e w' ⟨rfl, hr, ht⟩
  have hx := hp.row (r' := r) (d' := d) (c' := c) hid (Nat.le_refl _) ⟨rfl, rfl, rfl⟩ ht (fun nb' sb' sv' h' => by
    obtain ⟨e1, e2, e3⟩ := ProgRow.same h1 h'
    subst e1 e2 e3; exact hr)
  by_cases hps : posIn r.seen name = -1
  · refine ⟨errV a 1, ?_, ?_, hx.1, hx.2⟩
    · rw [readP, if_neg (by simp [hps]), refRead, if_pos hps]
    · rw [refRead, if_pos hps]; exact Or.inr ⟨1, by decide, rfl, rfl⟩
  · refine ⟨.nilIface, ?_, ?_, hx.1, hx.2⟩
    · rw [readP, if_pos (by simpa using hps), refRead, if_neg hps]
    · rw [refRead, if_neg hps]; exact Or.inl ⟨rfl, rfl⟩
end Go.Proofs.YthhbpebihgjpjaaGreatDoor
