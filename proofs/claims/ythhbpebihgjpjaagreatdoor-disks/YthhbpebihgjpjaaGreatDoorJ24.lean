import Derived.Test.YthhbpebihgjpjaaGreatDoorJ23
namespace Go.Proofs.YthhbpebihgjpjaaGreatDoor
open Go.RowKit Go.MuLone Go.Maps
set_option maxRecDepth 1000000

theorem pNames_any {A : Nat → Nat} {id c fb : Nat} {d : ProgD} {r : RefD} {w : World} (hid : id ≠ 0) (hp : ProgAt A id c fb d r w) (hI : Inv c r d) (hc : c < 1048576) :
    Calls Tryz.prog 44 #[.pointer (some ⟨fb, 0, none⟩)] w fun e w' => ∃ g, w.heap.size ≤ g ∧ e = .returned (.slice (some ⟨g, 0, none⟩) r.seen.length r.seen.length) ∧ w'.ownsRow w.heap.size 9 1 (.slice (some ⟨g, 0, none⟩) r.seen.length r.seen.length) r.seen.length ((nameKeys r.seen).map encStr) ∧ ProgAt A id c fb d r w' ∧ Turns (fun k => A k = id) w w' := by
  obtain ⟨nb, sb, n, m, sv, S, h1, h2, h3, h4, h5, h6, h7, h8, h9, h10, h11⟩ := (show _ from hp)
  refine (progNames_any r.seen hI.sorted d fb nb sb n sv w h1 h2 (by omega) (fun e => h9.1 e.symm)).mono ?_
  rintro e w' ⟨g, hg, rfl, hrow, hr, ht⟩
  have hx := hp.row (r' := r) (d' := d) (c' := c) hid (Nat.le_refl _) ⟨rfl, rfl, rfl⟩ ht (fun nb' sb' sv' h' => by
    obtain ⟨e1, e2, e3⟩ := ProgRow.same h1 h'
    subst e1 e2 e3; exact hr)
  exact ⟨g, hg, rfl, hrow, hx.1, hx.2⟩

set_option maxHeartbeats 2000000 in
theorem plainWrite_any {A : Nat → Nat} {a : Nat → Addr} {t : Nat → ByteArray} {id c fb : Nat} {d : ProgD} {r : RefD} {w : World} (hid : id ≠ 0) (he : EnvAt A a t w) (hp : ProgAt A id c fb d r w) (hI : Inv c r d) (hc : c < 1048576) (name data : ByteArray) (hn : name.size ≤ 140737488351232) (hd : data.size ≤ 140737488351232) :
    Calls Tryz.prog 29 #[.pointer (some ⟨fb, 0, none⟩), .string name, .string data] w (NStep A id c fb (refWrite r name data) w) := by
  have HP : Hid (Calls Tryz.prog 49 #[.pointer (some ⟨fb, 0, none⟩), .string name, .string data] w (PStep A a id c fb (refWrite r name data) w)) := pWrite_any hid he hp hI hc name data hn hd
  have HE : Hid (EnvAt A a t w) := he
  clear he hp hI
  go_enter Tryz.func29, Tryz.ntmps29
  go_wp2_with fail
  refine HP.out.mono ?_
  rintro e w1 ⟨v, d', A', rfl, hnum, hp1, hI1, hA1, ht1⟩
  have HS1 : Hid (Sents a t w1) := (HE.out.keep (A' := A') ht1.size hA1 (fun k hk h0 => ht1.block k hk (fun e => hid (e.symm.trans h0)))).sents
  have HX : Hid (∀ w2, Below w1.heap.size w1 w2 → NStep A id c fb (refWrite r name data) w (.returned (.int .i64 ((refWrite r name data)).1)) w2) := fun w2 hb => PStep.told hp1 hI1 hA1 ht1 hb
  have HN : Hid (NumOf a v ((refWrite r name data)).1) := hnum
  clear hnum hp1 hI1 hA1 ht1 HE HP
  generalize ((refWrite r name data)).1 = num at *
  go_wp2_with fail
  refine (number_of HN.out w1 HS1.out).mono ?_
  rintro e w2 ⟨rfl, hb2⟩
  have HB2 : Hid (Below w1.heap.size w1 w2) := hb2
  clear hb2
  go_wp2
  go_ret
  exact HX.out w2 HB2.out
set_option maxHeartbeats 2000000 in
theorem plainAppend_any {A : Nat → Nat} {a : Nat → Addr} {t : Nat → ByteArray} {id c fb : Nat} {d : ProgD} {r : RefD} {w : World} (hid : id ≠ 0) (he : EnvAt A a t w) (hp : ProgAt A id c fb d r w) (hI : Inv c r d) (hc : c < 1048576) (name data : ByteArray) (hn : name.size ≤ 140737488351232) (hd : data.size ≤ 140737488351232) :
    Calls Tryz.prog 144 #[.pointer (some ⟨fb, 0, none⟩), .string name, .string data] w (NStep A id c fb (refAppend r name data) w) := by
  have HP : Hid (Calls Tryz.prog 229 #[.pointer (some ⟨fb, 0, none⟩), .string name, .string data] w (PStep A a id c fb (refAppend r name data) w)) := pAppend_any hid he hp hI hc name data hn hd
  have HE : Hid (EnvAt A a t w) := he
  clear he hp hI
  go_enter Tryz.func144, Tryz.ntmps144
  go_wp2_with fail
  refine HP.out.mono ?_
  rintro e w1 ⟨v, d', A', rfl, hnum, hp1, hI1, hA1, ht1⟩
  have HS1 : Hid (Sents a t w1) := (HE.out.keep (A' := A') ht1.size hA1 (fun k hk h0 => ht1.block k hk (fun e => hid (e.symm.trans h0)))).sents
  have HX : Hid (∀ w2, Below w1.heap.size w1 w2 → NStep A id c fb (refAppend r name data) w (.returned (.int .i64 ((refAppend r name data)).1)) w2) := fun w2 hb => PStep.told hp1 hI1 hA1 ht1 hb
  have HN : Hid (NumOf a v ((refAppend r name data)).1) := hnum
  clear hnum hp1 hI1 hA1 ht1 HE HP
  generalize ((refAppend r name data)).1 = num at *
  go_wp2_with fail
  refine (number_of HN.out w1 HS1.out).mono ?_
  rintro e w2 ⟨rfl, hb2⟩
  have HB2 : Hid (Below w1.heap.size w1 w2) := hb2
  clear hb2
  go_wp2
  go_ret
  exact HX.out w2 HB2.out
set_option maxHeartbeats 2000000 in
theorem plainRename_any {A : Nat → Nat} {a : Nat → Addr} {t : Nat → ByteArray} {id c fb : Nat} {d : ProgD} {r : RefD} {w : World} (hid : id ≠ 0) (he : EnvAt A a t w) (hp : ProgAt A id c fb d r w) (hI : Inv c r d) (hc : c < 1048576) (name data : ByteArray) (hn : name.size ≤ 140737488351232) :
    Calls Tryz.prog 146 #[.pointer (some ⟨fb, 0, none⟩), .string name, .string data] w (NStep A id c fb (refRename r name data) w) := by
  have HP : Hid (Calls Tryz.prog 174 #[.pointer (some ⟨fb, 0, none⟩), .string name, .string data] w (PStep A a id c fb (refRename r name data) w)) := pRename_any hid he hp hI hc name data hn
  have HE : Hid (EnvAt A a t w) := he
  clear he hp hI
  go_enter Tryz.func146, Tryz.ntmps146
  go_wp2_with fail
  refine HP.out.mono ?_
  rintro e w1 ⟨v, d', A', rfl, hnum, hp1, hI1, hA1, ht1⟩
  have HS1 : Hid (Sents a t w1) := (HE.out.keep (A' := A') ht1.size hA1 (fun k hk h0 => ht1.block k hk (fun e => hid (e.symm.trans h0)))).sents
  have HX : Hid (∀ w2, Below w1.heap.size w1 w2 → NStep A id c fb (refRename r name data) w (.returned (.int .i64 ((refRename r name data)).1)) w2) := fun w2 hb => PStep.told hp1 hI1 hA1 ht1 hb
  have HN : Hid (NumOf a v ((refRename r name data)).1) := hnum
  clear hnum hp1 hI1 hA1 ht1 HE HP
  generalize ((refRename r name data)).1 = num at *
  go_wp2_with fail
  refine (number_of HN.out w1 HS1.out).mono ?_
  rintro e w2 ⟨rfl, hb2⟩
  have HB2 : Hid (Below w1.heap.size w1 w2) := hb2
  clear hb2
  go_wp2
  go_ret
  exact HX.out w2 HB2.out
set_option maxHeartbeats 2000000 in
theorem plainRemove_any {A : Nat → Nat} {a : Nat → Addr} {t : Nat → ByteArray} {id c fb : Nat} {d : ProgD} {r : RefD} {w : World} (hid : id ≠ 0) (he : EnvAt A a t w) (hp : ProgAt A id c fb d r w) (hI : Inv c r d) (hc : c < 1048576) (name : ByteArray) (hn : name.size ≤ 140737488351232) :
    Calls Tryz.prog 51 #[.pointer (some ⟨fb, 0, none⟩), .string name] w (NStep A id c fb (refRemove r name) w) := by
  have HP : Hid (Calls Tryz.prog 78 #[.pointer (some ⟨fb, 0, none⟩), .string name] w (PStep A a id c fb (refRemove r name) w)) := pRemove_any hid he hp hI hc name hn
  have HE : Hid (EnvAt A a t w) := he
  clear he hp hI
  go_enter Tryz.func51, Tryz.ntmps51
  go_wp2_with fail
  refine HP.out.mono ?_
  rintro e w1 ⟨v, d', A', rfl, hnum, hp1, hI1, hA1, ht1⟩
  have HS1 : Hid (Sents a t w1) := (HE.out.keep (A' := A') ht1.size hA1 (fun k hk h0 => ht1.block k hk (fun e => hid (e.symm.trans h0)))).sents
  have HX : Hid (∀ w2, Below w1.heap.size w1 w2 → NStep A id c fb (refRemove r name) w (.returned (.int .i64 ((refRemove r name)).1)) w2) := fun w2 hb => PStep.told hp1 hI1 hA1 ht1 hb
  have HN : Hid (NumOf a v ((refRemove r name)).1) := hnum
  clear hnum hp1 hI1 hA1 ht1 HE HP
  generalize ((refRemove r name)).1 = num at *
  go_wp2_with fail
  refine (number_of HN.out w1 HS1.out).mono ?_
  rintro e w2 ⟨rfl, hb2⟩
  have HB2 : Hid (Below w1.heap.size w1 w2) := hb2
  clear hb2
  go_wp2
  go_ret
  exact HX.out w2 HB2.out
set_option maxHeartbeats 2000000 in
theorem plainSync_any {A : Nat → Nat} {a : Nat → Addr} {t : Nat → ByteArray} {id c fb : Nat} {d : ProgD} {r : RefD} {w : World} (hid : id ≠ 0) (he : EnvAt A a t w) (hp : ProgAt A id c fb d r w) (hI : Inv c r d) :
    Calls Tryz.prog 149 #[.pointer (some ⟨fb, 0, none⟩)] w (NStep A id c fb (syncD r) w) := by
  have HP : Hid (Calls Tryz.prog 173 #[.pointer (some ⟨fb, 0, none⟩)] w (PStep A a id c fb (syncD r) w)) := pSync_any hid he hp hI
  have HE : Hid (EnvAt A a t w) := he
  clear he hp hI
  go_enter Tryz.func149, Tryz.ntmps149
  go_wp2_with fail
  refine HP.out.mono ?_
  rintro e w1 ⟨v, d', A', rfl, hnum, hp1, hI1, hA1, ht1⟩
  have HS1 : Hid (Sents a t w1) := (HE.out.keep (A' := A') ht1.size hA1 (fun k hk h0 => ht1.block k hk (fun e => hid (e.symm.trans h0)))).sents
  have HX : Hid (∀ w2, Below w1.heap.size w1 w2 → NStep A id c fb (syncD r) w (.returned (.int .i64 ((syncD r)).1)) w2) := fun w2 hb => PStep.told hp1 hI1 hA1 ht1 hb
  have HN : Hid (NumOf a v ((syncD r)).1) := hnum
  clear hnum hp1 hI1 hA1 ht1 HE HP
  generalize ((syncD r)).1 = num at *
  go_wp2_with fail
  refine (number_of HN.out w1 HS1.out).mono ?_
  rintro e w2 ⟨rfl, hb2⟩
  have HB2 : Hid (Below w1.heap.size w1 w2) := hb2
  clear hb2
  go_wp2
  go_ret
  exact HX.out w2 HB2.out
set_option maxHeartbeats 2000000 in
theorem plainRead_any {A : Nat → Nat} {a : Nat → Addr} {t : Nat → ByteArray} {id c fb : Nat} {d : ProgD} {r : RefD} {w : World} (hid : id ≠ 0) (he : EnvAt A a t w) (hp : ProgAt A id c fb d r w) (name : ByteArray) (hn : name.size ≤ 140737488351232) :
    Calls Tryz.prog 21 #[.pointer (some ⟨fb, 0, none⟩), .string name] w fun e w' => e = .returned (.tuple #[.string (refRead r name).1, .int .i64 (refRead r name).2]) ∧ ProgAt A id c fb d r w' ∧ Turns (fun k => A k = id) w w' := by
  have HP : Hid (Calls Tryz.prog 45 #[.pointer (some ⟨fb, 0, none⟩), .string name] w fun e w' => ∃ v, e = .returned (.tuple #[.string (refRead r name).1, v]) ∧ NumOf a v (refRead r name).2 ∧ ProgAt A id c fb d r w' ∧ Turns (fun k => A k = id) w w') := pRead_any hid he hp name hn
  have HE : Hid (EnvAt A a t w) := he
  clear he hp
  generalize refRead r name = q at HP ⊢
  obtain ⟨txt, num⟩ := q
  simp only at HP ⊢
  go_enter Tryz.func21, Tryz.ntmps21
  go_wp2_with fail
  refine HP.out.mono ?_
  rintro e w1 ⟨v, rfl, hnum, hp1, ht1⟩
  have HS1 : Hid (Sents a t w1) := (HE.out.keep (A' := A) ht1.size (fun _ _ => rfl) (fun k hk h0 => ht1.block k hk (fun e => hid (e.symm.trans h0)))).sents
  have HX : Hid (∀ w2, Below w1.heap.size w1 w2 → ProgAt A id c fb d r w2 ∧ Turns (fun k => A k = id) w w2) := fun w2 hb => ⟨hp1.keep (Nat.le_refl _) (fun _ _ => rfl) (fun k hk _ => hb.block k hk), ht1.trans (Turns.of_below (fun _ => False) hb) (fun _ h => h.elim)⟩
  have HN : Hid (NumOf a v num) := hnum
  clear hnum hp1 ht1 HE HP
  go_wp2_with fail
  refine (number_of HN.out w1 HS1.out).mono ?_
  rintro e w2 ⟨rfl, hb2⟩
  have HB2 : Hid (Below w1.heap.size w1 w2) := hb2
  clear hb2
  go_wp2
  go_ret2
  exact ⟨rfl, HX.out w2 HB2.out⟩
end Go.Proofs.YthhbpebihgjpjaaGreatDoor

namespace Go.Proofs.YthhbpebihgjpjaaGreatDoor
open Go.RowKit Go.MuLone Go.Maps
set_option maxRecDepth 1000000

/-- The document's files, with whose blocks are whose. -/
def RefIn (A : Nat → Nat) (id gb : Nat) (r : RefD) (w : World) : Prop := ∃ vs vn vw, RefAt w gb r vs vn vw ∧ ∀ k, RefFoot gb vs vn vw k → A k = id
theorem RefAt.foot_lt {w : World} {gb : Nat} {r : RefD} {vs vn vw : Value} (h : RefAt w gb r vs vn vw) (k : Nat) (hk : RefFoot gb vs vn vw k) : k < w.heap.size := by
  rcases hk with rfl | e | e | e
  · exact h.lt
  · exact h.safe.lt k e
  · exact h.seen.lt k e
  · exact h.wait.lt k e
theorem RefIn.keep {A A' : Nat → Nat} {id gb : Nat} {r : RefD} {w w' : World} (h : RefIn A id gb r w) (hA : ∀ k, k < w.heap.size → A' k = A k) (hb : ∀ k, k < w.heap.size → A k = id → w'.heap[k]? = w.heap[k]?) : RefIn A' id gb r w' := by
  obtain ⟨vs, vn, vw, h1, h2⟩ := h
  have hk : ∀ k, RefFoot gb vs vn vw k → w'.heap[k]? = w.heap[k]? := fun k q => hb k (h1.foot_lt k q) (h2 k q)
  exact ⟨vs, vn, vw, ⟨(hk gb (Or.inl rfl)).trans h1.row, h1.safe.keep (fun k e => hk k (Or.inr (Or.inl e))), h1.seen.keep (fun k e => hk k (Or.inr (Or.inr (Or.inl e)))), h1.wait.keep (fun k e => hk k (Or.inr (Or.inr (Or.inr e)))), h1.ne, h1.apart⟩, fun k q => by rw [hA k (h1.foot_lt k q)]; exact h2 k q⟩
/-- What a call on the document's files leaves. -/
def RStep (A : Nat → Nat) (id gb : Nat) (q : RefD) (w w' : World) : Prop := ∃ A', RefIn A' id gb q w' ∧ (∀ k, k < w.heap.size → A' k = A k) ∧ Turns (fun k => A k = id) w w'
theorem RefPost.step {A : Nat → Nat} {id gb : Nat} {vs vn vw : Value} {q : Int × RefD} {w w' : World} {e : Ending} (h2 : ∀ k, RefFoot gb vs vn vw k → A k = id) (hp : RefPost w gb vs vn vw q e w') : e = .returned (.int .i64 q.1) ∧ RStep A id gb q.2 w w' := by
  obtain ⟨vs', vn', vw', rfl, h1, ht, hf⟩ := hp
  obtain ⟨A', a1, a2, _⟩ := assign A w.heap.size id (RefFoot gb vs' vn' vw')
  refine ⟨rfl, A', ⟨vs', vn', vw', h1, fun k hk => ?_⟩, a1, ht.mono h2⟩
  rcases Nat.lt_or_ge k w.heap.size with c | c
  · rw [a1 k c]
    rcases hf k hk with x | x
    · exact h2 k x
    · omega
  · exact a2 k c hk
theorem RefPost0.step {A : Nat → Nat} {id gb : Nat} {vs vn vw : Value} {q : RefD} {w w' : World} {e : Ending} (h2 : ∀ k, RefFoot gb vs vn vw k → A k = id) (hp : RefPost0 w gb vs vn vw q e w') : e = .returned (.tuple #[]) ∧ RStep A id gb q w w' := by
  obtain ⟨vs', vn', vw', rfl, h1, ht, hf⟩ := hp
  obtain ⟨A', a1, a2, _⟩ := assign A w.heap.size id (RefFoot gb vs' vn' vw')
  refine ⟨rfl, A', ⟨vs', vn', vw', h1, fun k hk => ?_⟩, a1, ht.mono h2⟩
  rcases Nat.lt_or_ge k w.heap.size with c | c
  · rw [a1 k c]
    rcases hf k hk with x | x
    · exact h2 k x
    · omega
  · exact a2 k c hk
/-- Files and the document's, number i, behind c steps. -/
def PairAt (A : Nat → Nat) (i c fb gb : Nat) (r : RefD) (w : World) : Prop := ∃ d, ProgAt A (2 * i + 2) c fb d r w ∧ RefIn A (2 * i + 3) gb r w ∧ Inv c r d
theorem PairAt.keep {A A' : Nat → Nat} {i c c' fb gb : Nat} {r : RefD} {w w' : World} (h : PairAt A i c fb gb r w) (hc : c ≤ c') (hA : ∀ k, k < w.heap.size → A' k = A k) (hb : ∀ k, k < w.heap.size → (A k = 2 * i + 2 ∨ A k = 2 * i + 3 ∨ A k = 0) → w'.heap[k]? = w.heap[k]?) : PairAt A' i c' fb gb r w' := by
  obtain ⟨d, h1, h2, h3⟩ := h
  exact ⟨d, h1.keep hc hA (fun k hk e => hb k hk (by rcases e with e | e; exact Or.inl e; exact Or.inr (Or.inr e))), h2.keep hA (fun k hk e => hb k hk (Or.inr (Or.inl e))), h3.later hc⟩
/-- What a step on files number i leaves. -/
def PairStep (A : Nat → Nat) (i c fb gb : Nat) (w w' : World) : Prop := ∃ A' r', PairAt A' i (c + 1) fb gb r' w' ∧ (∀ k, k < w.heap.size → A' k = A k) ∧ Turns (fun k => A k = 2 * i + 2 ∨ A k = 2 * i + 3) w w'
theorem pair_step {A A1 : Nat → Nat} {i c fb gb : Nat} {r' : RefD} {d' : ProgD} {w w1 w2 : World} (hp1 : ProgAt A1 (2 * i + 2) (c + 1) fb d' r' w1) (hI1 : Inv (c + 1) r' d') (hA1 : ∀ k, k < w.heap.size → A1 k = A k) (ht1 : Turns (fun k => A k = 2 * i + 2) w w1) (h2 : RStep A1 (2 * i + 3) gb r' w1 w2) : PairStep A i c fb gb w w2 := by
  obtain ⟨A2, hr2, hA2, ht2⟩ := h2
  refine ⟨A2, r', ⟨d', hp1.keep (Nat.le_refl _) hA2 (fun k hk e => ht2.block k hk (by omega)), hr2, hI1⟩, fun k hk => (hA2 k (Nat.lt_of_lt_of_le hk ht1.size)).trans (hA1 k hk), ?_⟩
  refine (ht1.mono (fun k e => Or.inl e)).trans ht2 (fun k hk => ?_)
  rcases Nat.lt_or_ge k w.heap.size with c1 | c1
  · rw [hA1 k c1] at hk; exact Or.inl (Or.inr hk)
  · exact Or.inr c1
theorem RefIn.behind {A A1 : Nat → Nat} {i gb : Nat} {r : RefD} {w w1 : World} (h : RefIn A (2 * i + 3) gb r w) (hA1 : ∀ k, k < w.heap.size → A1 k = A k) (ht1 : Turns (fun k => A k = 2 * i + 2) w w1) : RefIn A1 (2 * i + 3) gb r w1 := h.keep hA1 (fun k hk e => ht1.block k hk (by omega))
end Go.Proofs.YthhbpebihgjpjaaGreatDoor
