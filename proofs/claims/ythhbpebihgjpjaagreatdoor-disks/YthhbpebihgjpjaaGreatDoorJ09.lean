import Derived.Test.YthhbpebihgjpjaaGreatDoorJ08
namespace Go.Proofs.YthhbpebihgjpjaaGreatDoor
open Go.RowKit
set_option maxRecDepth 1000000

def waitAt (l : List WaitV) (j : Nat) : WaitV := l[j]?.getD ⟨1, ⟨#[]⟩, ⟨#[]⟩⟩
/-- What is safe when so many of what waits were kept. -/
def keptL (d : RefD) : Nat → List FileV
  | 0 => d.safe
  | j + 1 => applyL (keptL d j) (waitAt d.wait j)
/-- An operation that may be applied. -/
structure ApplyOk (l : List FileV) (o : WaitV) : Prop where
  len : l.length ≤ 1048576
  kind : 1 ≤ o.kind ∧ o.kind ≤ 4
  three : o.kind = 3 → posIn l o.name ≠ -1
  data : o.data.size ≤ 1099511627776
  old : (dataOf l o.name).size ≤ 1099511627776
def keepsN (d : RefD) (keep : Int) : Nat := min d.wait.length keep.toNat
def cutO (o : WaitV) (cut : Int) : WaitV := if cut < (o.data.size : Int) then { o with data := o.data.extract 0 cut.toNat } else o
def crashSafe (d : RefD) (keep cut : Int) : List FileV :=
  if keepsN d keep < d.wait.length ∧ (waitAt d.wait (keepsN d keep)).kind ≤ 2 ∧ 0 ≤ cut then applyL (keptL d (keepsN d keep)) (cutO (waitAt d.wait (keepsN d keep)) cut) else keptL d (keepsN d keep)
def crashD (d : RefD) (keep cut : Int) : RefD := { d with safe := crashSafe d keep cut, seen := crashSafe d keep cut, wait := [], lit := false, down := false }

theorem wcells_at (l : List WaitV) : ∀ (j : Nat) (x : WaitV), l[j]? = some x → (wcells l)[j * 3]? = some (.int .i64 x.kind) ∧ (wcells l)[j * 3 + 1]? = some (.string x.name) ∧ (wcells l)[j * 3 + 2]? = some (.string x.data) := by
  induction l with
  | nil => intro j x h; simp at h
  | cons y l ih =>
    intro j x h
    cases j with
    | zero => simp at h; subst h; exact ⟨rfl, rfl, rfl⟩
    | succ j =>
      have h2 := ih j x (by simpa using h)
      have e : ∀ r, (wcells (y :: l))[(j + 1) * 3 + r]? = (wcells l)[j * 3 + r]? := fun r => by
        have : (j + 1) * 3 + r = (j * 3 + r) + 3 := by omega
        rw [this]; rfl
      exact ⟨(e 0).trans h2.1, (e 1).trans h2.2.1, (e 2).trans h2.2.2⟩
theorem wcells_length (l : List WaitV) : (wcells l).length = l.length * 3 := by
  induction l with
  | nil => rfl
  | cons y l ih => simp [wcells] at ih ⊢; omega
theorem waitAt_eq (l : List WaitV) (j : Nat) (h : j < l.length) : l[j]? = some (waitAt l j) := by simp [waitAt, h]
theorem OwnW.cell {base : Nat} {v : Value} {l : List WaitV} {w : World} (h : OwnW base v l w) (j : Nat) (hj : j < l.length) : ∃ g cap, v = .slice (some ⟨g, 0, none⟩) l.length cap ∧ w.cell? ⟨g, j * 3, none⟩ = some (.int .i64 (waitAt l j).kind) ∧ w.cell? ⟨g, j * 3 + 1, none⟩ = some (.string (waitAt l j).name) ∧ w.cell? ⟨g, j * 3 + 2, none⟩ = some (.string (waitAt l j).data) := by
  obtain ⟨_, ⟨rfl, h0⟩ | ⟨g, cap, cur, rfl, _, hh, _, _, _, htk⟩⟩ := h.own
  · omega
  · have e : ∀ i u, i < l.length * 3 → (wcells l)[i]? = some u → w.cell? ⟨g, i, none⟩ = some u := fun i u hi hu => by
      rw [cell_of_row _ _ _ _ _ _ hh, ← Array.getElem?_toList]; rw [← htk, List.getElem?_take, if_pos hi] at hu; exact hu
    have h2 := wcells_at l j _ (waitAt_eq l j hj)
    exact ⟨g, cap, rfl, e _ _ (by omega) h2.1, e _ _ (by omega) h2.2.1, e _ _ (by omega) h2.2.2⟩
/-- Another list of what is safe, in the old row or in new memory. -/
theorem RefAt.growSafe {w w3 : World} {fb : Nat} {d : RefD} {vs vn vw v : Value} {l : List FileV} (h : RefAt w fb d vs vn vw) (hg : w.grownBy w3 vs.ownBlock) (ho : Own2 0 v l w3) (hl : Lies vs v w) :
    RefAt (w3.setCell ⟨fb, 0, none⟩ v) fb { d with safe := l } v vn vw ∧ Turns (RefFoot fb vs vn vw) w (w3.setCell ⟨fb, 0, none⟩ v) ∧ ∀ k, RefFoot fb v vn vw k → RefFoot fb vs vn vw k ∨ w.heap.size ≤ k := by
  have hfb := h.lt
  have hrow : w3.heap[fb]? = some (.cells (d.row vs vn vw) 226 (0, 0)) := by rw [hg.block fb hfb (fun e => h.ne.1 e.symm)]; exact h.row
  have vne : v.ownBlock ≠ some fb := fun e => by rcases hl fb e with e2 | e2; exact h.ne.1 e2; omega
  have old : ∀ k, k < w.heap.size → k ≠ fb → some k ≠ vs.ownBlock → (w3.setCell ⟨fb, 0, none⟩ v).heap[k]? = w.heap[k]? := fun k hk hf hn => by
    rw [heap_setCell_other _ _ _ _ hf]; exact hg.block k hk hn
  refine ⟨⟨by rw [heap_setCell_same _ _ _ _ _ _ hrow]; rfl, ho.keep (fun k hk => heap_setCell_other _ _ _ _ (fun e => vne (by rw [hk, e]))),
    h.seen.keep (fun k hk => old k (h.seen.lt k hk) (fun e => h.ne.2.1 (by rw [hk, e])) (fun e => ((h.apart k).1 e.symm).1 hk)), h.wait.keep (fun k hk => old k (h.wait.lt k hk) (fun e => h.ne.2.2 (by rw [hk, e])) (fun e => ((h.apart k).1 e.symm).2 hk)), ⟨vne, h.ne.2.1, h.ne.2.2⟩, fun k => ⟨fun e => ⟨fun hk => ?_, fun hk => ?_⟩, (h.apart k).2⟩⟩, ?_, ?_⟩
  · rcases hl k e with e2 | e2
    · exact ((h.apart k).1 e2).1 hk
    · have := h.seen.lt k hk; omega
  · rcases hl k e with e2 | e2
    · exact ((h.apart k).1 e2).2 hk
    · have := h.wait.lt k hk; omega
  · exact ⟨hg.os, hg.output, by simpa [World.setCell] using hg.size, fun k hk hn => old k hk (fun e => hn (Or.inl e)) (fun e => hn (Or.inr (Or.inl e.symm)))⟩
  · rintro k (e | e | e | e)
    · exact Or.inl (Or.inl e)
    · rcases hl k e with e2 | e2
      · exact Or.inl (Or.inr (Or.inl e2))
      · exact Or.inr e2
    · exact Or.inl (Or.inr (Or.inr (Or.inl e)))
    · exact Or.inl (Or.inr (Or.inr (Or.inr e)))
/-- Under way: so many were kept. -/
structure CrMem (d : RefD) (keep : Int) (fb : Nat) (vs vn vw : Value) (w : World) (j : Nat) (wr : World) : Prop where
  le : j ≤ keepsN d keep
  st : ∃ v, RefAt wr fb { d with safe := keptL d j } v vn vw ∧ Turns (RefFoot fb vs vn vw) w wr ∧ ∀ k, RefFoot fb v vn vw k → RefFoot fb vs vn vw k ∨ w.heap.size ≤ k

theorem crash_fin {d : RefD} {keep cut : Int} {fb : Nat} {vs vn vw v v5 : Value} {w w6 w5 : World} {L : List FileV} (h : RefAt w6 fb { d with safe := L } v vn vw) (ht : Turns (RefFoot fb vs vn vw) w w6) (hf : ∀ k, RefFoot fb v vn vw k → RefFoot fb vs vn vw k ∨ w.heap.size ≤ k)
    (hL : crashSafe d keep cut = L) (hb : Below w6.heap.size w6 w5) (ho : Own2 w6.heap.size v5 L w5) :
    RefPost0 w fb vs vn vw (crashD d keep cut) (.returned (.tuple #[])) ((((w5.setCell ⟨fb, 1, none⟩ v5).setCell ⟨fb, 3, none⟩ (.slice none 0 0)).setCell ⟨fb, 5, none⟩ (.bool false)).setCell ⟨fb, 6, none⟩ (.bool false)) := by
  have h1 := h.newSeen (below_grown hb _) (ho.mono (Nat.zero_le _)) (fun k hk => Or.inr (by obtain ⟨a, c, e⟩ := ho.form; subst e; exact ho.block k hk))
  have h2 := h1.1.noWait
  have h3 := (h2.1.setLit false).setDown false
  have e : crashD d keep cut = { d with safe := L, seen := L, wait := [], lit := false, down := false } := by rw [crashD, hL]
  refine ⟨v, v5, .slice none 0 0, rfl, by rw [e]; exact h3, (((ht.trans h1.2.1 hf).trans h2.2.1 (fun i hi => ?_)).setCell ⟨fb, 5, none⟩ _ (Or.inl (Or.inl rfl))).setCell ⟨fb, 6, none⟩ _ (Or.inl (Or.inl rfl)), fun k hk => ?_⟩
  · rcases h1.2.2 i hi with a | a
    · exact hf i a
    · exact Or.inr (Nat.le_trans ht.size a)
  · rcases h2.2.2 k hk with a | a
    · rcases h1.2.2 k a with b | b
      · exact hf k b
      · exact Or.inr (Nat.le_trans ht.size b)
    · exact Or.inr (Nat.le_trans ht.size (Nat.le_trans h1.2.1.size a))

set_option maxHeartbeats 4000000 in
theorem refCrash_any (d : RefD) (keep cut : Int) (fb : Nat) (vs vn vw : Value) (w : World) (h : RefAt w fb d vs vn vw) (hwl : d.wait.length ≤ 1048576) (hap : ∀ j, j < d.wait.length → ApplyOk (keptL d j) (waitAt d.wait j)) (hfin : (crashSafe d keep cut).length ≤ 1048576) :
    Calls Tryz.prog 152 #[.pointer (some ⟨fb, 0, none⟩), .int .i64 keep, .int .i64 cut] w (RefPost0 w fb vs vn vw (crashD d keep cut)) := by
  have HR : Hid (RefAt w fb d vs vn vw) := h
  have HAP : Hid (∀ j, j < d.wait.length → ApplyOk (keptL d j) (waitAt d.wait j)) := hap
  have HFI : Hid ((crashSafe d keep cut).length ≤ 1048576) := hfin
  have hinf : (Tryz.prog.info? 362).map (fun i => (i.size, i.bytes, i.zero)) = some (2, 32, some (.agg #[.string ⟨#[]⟩, .string ⟨#[]⟩])) := by kernel_rfl
  obtain ⟨ti, hti, htj⟩ := Option.map_eq_some_iff.1 hinf
  simp only [Prod.mk.injEq] at htj
  have HTI : Hid (Tryz.prog.info? 362 = some ti ∧ ti.size = 2 ∧ ti.bytes = 32 ∧ ti.zero = some (.agg #[.string ⟨#[]⟩, .string ⟨#[]⟩])) := ⟨hti, htj.1, htj.2.1, htj.2.2⟩
  clear h hap hfin hinf hti htj
  go_enter Tryz.func152, Tryz.ntmps152
  obtain ⟨aw, cw, hform⟩ := HR.out.wait.form
  subst hform
  obtain ⟨an, cn', hform⟩ := HR.out.seen.form
  subst hform
  go_wp2
  go_loopw [6] (fun i wr => ∃ j : Nat, i = .int .i64 j ∧ CrMem d keep fb vs (.slice an d.seen.length cn') (.slice aw d.wait.length cw) w j wr) (fun i _ => d.wait.length - (intOf i).toNat)
  case atStart => exact ⟨0, rfl, Nat.zero_le _, vs, HR.out, Turns.refl _ _, fun k hk => Or.inl hk⟩
  case round =>
    obtain ⟨j, rfl, hle, v1, hr1, ht1, hf1⟩ := hrel
    obtain ⟨as1, cs1, hform⟩ := hr1.safe.form
    simp only at hform
    subst hform
    have HR1 : Hid (RefAt wr fb { d with safe := keptL d j } (.slice as1 (keptL d j).length cs1) (.slice an d.seen.length cn') (.slice aw d.wait.length cw)) := hr1
    have HT1 : Hid (Turns (RefFoot fb vs (.slice an d.seen.length cn') (.slice aw d.wait.length cw)) w wr) := ht1
    have HF1 : Hid (∀ k, RefFoot fb (.slice as1 (keptL d j).length cs1) (.slice an d.seen.length cn') (.slice aw d.wait.length cw) k → RefFoot fb vs (.slice an d.seen.length cn') (.slice aw d.wait.length cw) k ∨ w.heap.size ≤ k) := hf1
    have c0 : wr.cell? ⟨fb, 0, none⟩ = some (.slice as1 (keptL d j).length cs1) := by rw [cell_of_row _ _ _ _ _ _ hr1.row]; rfl
    have f0 : wr.frozen? ⟨fb, 0, none⟩ = false := frozen_of_row _ _ _ _ _ hr1.row
    have c3 : wr.cell? ⟨fb, 3, none⟩ = some (.slice aw d.wait.length cw) := by rw [cell_of_row _ _ _ _ _ _ hr1.row]; rfl
    have hfb2 : fb < wr.heap.size := hr1.lt
    have nfb : some fb ≠ (Value.slice as1 (keptL d j).length cs1).ownBlock := fun e => hr1.ne.1 e.symm
    clear hr1 ht1 hf1 HR
    have n0 : (d.wait.length : Int) ≤ 1048576 := by omega
    by_cases hlt : j < d.wait.length
    · obtain ⟨g, cw', hge, ck, cn, cd⟩ := HR1.out.wait.cell j hlt
      injection hge with q1 q2 q3
      subst q1 q3
      have i0 : (0 : Int) ≤ (j : Int) := by omega
      have i1 : (j : Int) < (d.wait.length : Int) := by omega
      by_cases hkp : (j : Int) < keep
      · have HLE : Hid (j + 1 ≤ keepsN d keep) := by show _ ≤ _; unfold keepsN; omega
        have HOK : Hid (ApplyOk (keptL d j) (waitAt d.wait j)) := HAP.out j hlt
        have HNX : Hid (keptL d (j + 1) = applyL (keptL d j) (waitAt d.wait j)) := rfl
        clear hle
        generalize waitAt d.wait j = o at *
        obtain ⟨kd, nm, dt⟩ := o
        simp only at ck cn cd
        go_wp2_with fail
        go_region_with (go_at_call 231; refine (apply_any (keptL d j) ⟨kd, nm, dt⟩ 0 as1 cs1 ?_ _ ?_ ?_ ?_ ?_ ?_ ?_).mono ?_; exact (by have := HOK.out.len; omega); exact HR1.out.safe.later (fun _ _ => rfl); exact Nat.zero_le _; exact HOK.out.kind; exact HOK.out.three; exact HOK.out.data; exact HOK.out.old; rintro e w3 ⟨v, rfl, ho3, hg3, hl3⟩; obtain ⟨a3, c3', hf3⟩ := ho3.form; subst hf3; have hrow3 : w3.heap[fb]? = wr.heap[fb]? := hg3.block fb hfb2 nfb; have c03 : w3.cell? ⟨fb, 0, none⟩ = some (.slice as1 (keptL d j).length cs1) := (World.cell?_of_block (w := wr) (a := ⟨fb, 0, none⟩) hrow3).trans c0; have f03 : w3.frozen? ⟨fb, 0, none⟩ = false := (World.frozen?_of_block (w := wr) (a := ⟨fb, 0, none⟩) hrow3).trans f0)
        all_goals
          have hns := HR1.out.growSafe (w3 := w3) ⟨hg3.os, hg3.tape, hg3.output, hg3.size, hg3.block⟩ ho3 hl3
          clear ho3 hg3 hl3 hrow3 c03 f03
          generalize hL5 : applyL (keptL d j) ⟨kd, nm, dt⟩ = L5 at *
          have HST : Hid (CrMem d keep fb vs (.slice an d.seen.length cn') (.slice (some ⟨g, 0, none⟩) d.wait.length cw) w (j + 1) (w3.setCell ⟨fb, 0, none⟩ (.slice a3 L5.length c3'))) := ⟨HLE.out, .slice a3 L5.length c3', by rw [HNX.out]; exact hns.1, HT1.out.trans hns.2.1 (fun i hi => HF1.out i hi), fun k hk => by
            rcases hns.2.2 k hk with h | h
            · exact HF1.out k h
            · exact Or.inr (Nat.le_trans HT1.out.size h)⟩
          clear hns c0 f0 c3 ck cn cd
          generalize w3.setCell ⟨fb, 0, none⟩ (.slice a3 L5.length c3') = w5 at *
          go_wp2
          go_roundw
          case rel =>
            first
              | exact ⟨j + 1, by go_num, HST.out⟩
              | ((repeat apply Exists.intro); exact ⟨⟨j + 1, by go_num, HST.out⟩, rfl⟩)
          case measure => simp [intOf]; omega
      · have HJ : Hid (j = keepsN d keep) := by show _ = _; have : keepsN d keep ≤ keep.toNat := Nat.min_le_right _ _; omega
        by_cases hk2 : (waitAt d.wait j).kind ≤ 2
        · by_cases hcut : 0 ≤ cut
          · have HL6 : Hid (crashSafe d keep cut = applyL (keptL d j) (cutO (waitAt d.wait j) cut)) := by show _ = _; rw [crashSafe, ← HJ.out, if_pos ⟨hlt, hk2, hcut⟩]
            have HLL : Hid ((applyL (keptL d j) (cutO (waitAt d.wait j) cut)).length ≤ 1048576) := by show _ ≤ _; rw [← HL6.out]; exact HFI.out
            have HOK : Hid (ApplyOk (keptL d j) (waitAt d.wait j)) := HAP.out j hlt
            clear HFI HAP HJ hle
            generalize waitAt d.wait j = o at *
            obtain ⟨kd, nm, dt⟩ := o
            simp only at ck cn cd hk2
            have k2 : (kd : Int) ≤ 2 := by omega
            have z0 : (dt.size : Int) ≤ 1099511627776 := by have := HOK.out.data; simp only at this; omega
            by_cases hcs : cut < (dt.size : Int)
            · have HCO : Hid (cutO ⟨kd, nm, dt⟩ cut = ⟨kd, nm, dt.extract 0 cut.toNat⟩) := by show _ = _; rw [cutO, if_pos hcs]
              have HOK2 : Hid (ApplyOk (keptL d j) ⟨kd, nm, dt.extract 0 cut.toNat⟩) := ⟨HOK.out.len, HOK.out.kind, HOK.out.three, Nat.le_trans (by simp [ByteArray.size_extract]; omega) HOK.out.data, HOK.out.old⟩
              go_wp2_with fail
              rw [HCO.out] at HL6 HLL
              have HT2 : Hid (Turns (RefFoot fb vs (.slice an d.seen.length cn') (.slice (some ⟨g, 0, none⟩) d.wait.length cw)) w (wr.alloc (.cells #[.int .i64 kd, .string nm, .string (dt.extract 0 cut.toNat)] 365))) := HT1.out.trans (Turns.of_below (fun _ => False) ((Below.refl _ _).alloc (Nat.le_refl _) _)) (fun i hi => hi.elim)
              have HR2 : Hid (RefAt (wr.alloc (.cells #[.int .i64 kd, .string nm, .string (dt.extract 0 cut.toNat)] 365)) fb { d with safe := keptL d j } (.slice as1 (keptL d j).length cs1) (.slice an d.seen.length cn') (.slice (some ⟨g, 0, none⟩) d.wait.length cw)) := HR1.out.later (fun k hk => heapA_old wr _ k hk)
              have HC : Hid ((wr.alloc (.cells #[.int .i64 kd, .string nm, .string (dt.extract 0 cut.toNat)] 365)).heap[wr.heap.size]? = some (.cells #[.int .i64 kd, .string nm, .string (dt.extract 0 cut.toNat)] 365 (0, 0))) := heapA_new _ _ _ rfl
              generalize wr.alloc (.cells #[.int .i64 kd, .string nm, .string (dt.extract 0 cut.toNat)] 365) = W1 at *
              clear c0 f0 c3 ck cn cd HR1 HT1 hfb2
              have c0 : W1.cell? ⟨fb, 0, none⟩ = some (.slice as1 (keptL d j).length cs1) := by rw [cell_of_row _ _ _ _ _ _ HR2.out.row]; rfl
              have f0 : W1.frozen? ⟨fb, 0, none⟩ = false := frozen_of_row _ _ _ _ _ HR2.out.row
              have o0 : W1.cell? ⟨wr.heap.size, 0, none⟩ = some (.int .i64 kd) := by rw [cell_of_row _ _ _ _ _ _ HC.out]; rfl
              have o1 : W1.cell? ⟨wr.heap.size, 1, none⟩ = some (.string nm) := by rw [cell_of_row _ _ _ _ _ _ HC.out]; rfl
              have o2 : W1.cell? ⟨wr.heap.size, 2, none⟩ = some (.string (dt.extract 0 cut.toNat)) := by rw [cell_of_row _ _ _ _ _ _ HC.out]; rfl
              have hfb2 : fb < W1.heap.size := HR2.out.lt
              clear HC HCO HOK
              generalize (dt.extract 0 cut.toNat) = dc at *
              go_region_with (go_at_call 231; refine (apply_any (keptL d j) ⟨kd, nm, dc⟩ 0 as1 cs1 ?_ _ ?_ ?_ ?_ ?_ ?_ ?_).mono ?_; exact (by have := HOK2.out.len; omega); exact HR2.out.safe.later (fun _ _ => rfl); exact Nat.zero_le _; exact HOK2.out.kind; exact HOK2.out.three; exact HOK2.out.data; exact HOK2.out.old; rintro e w3 ⟨v, rfl, ho3, hg3, hl3⟩; obtain ⟨a3, c3', hf3⟩ := ho3.form; subst hf3; have hrow3 : w3.heap[fb]? = W1.heap[fb]? := hg3.block fb hfb2 nfb; have c03 : w3.cell? ⟨fb, 0, none⟩ = some (.slice as1 (keptL d j).length cs1) := (World.cell?_of_block (w := W1) (a := ⟨fb, 0, none⟩) hrow3).trans c0; have f03 : w3.frozen? ⟨fb, 0, none⟩ = false := (World.frozen?_of_block (w := W1) (a := ⟨fb, 0, none⟩) hrow3).trans f0)
              all_goals
                have hns := HR2.out.growSafe (w3 := w3) ⟨hg3.os, hg3.tape, hg3.output, hg3.size, hg3.block⟩ ho3 hl3
                clear ho3 hg3 hl3 hrow3 c03 f03
                generalize applyL (keptL d j) ⟨kd, nm, dc⟩ = L at *
                have HR6 : Hid (RefAt (w3.setCell ⟨fb, 0, none⟩ (.slice a3 L.length c3')) fb { d with safe := L } (.slice a3 L.length c3') (.slice an d.seen.length cn') (.slice (some ⟨g, 0, none⟩) d.wait.length cw)) := hns.1
                have HT6 : Hid (Turns (RefFoot fb vs (.slice an d.seen.length cn') (.slice (some ⟨g, 0, none⟩) d.wait.length cw)) w (w3.setCell ⟨fb, 0, none⟩ (.slice a3 L.length c3'))) := HT2.out.trans hns.2.1 (fun i hi => HF1.out i hi)
                have HF6 : Hid (∀ k, RefFoot fb (.slice a3 L.length c3') (.slice an d.seen.length cn') (.slice (some ⟨g, 0, none⟩) d.wait.length cw) k → RefFoot fb vs (.slice an d.seen.length cn') (.slice (some ⟨g, 0, none⟩) d.wait.length cw) k ∨ w.heap.size ≤ k) := fun k hk => by
                  rcases hns.2.2 k hk with h | h
                  · exact HF1.out k h
                  · exact Or.inr (Nat.le_trans HT2.out.size h)
                clear hns c0 f0 o0 o1 o2 HR2 HT2 HF1 HOK2 nfb hfb2
                generalize w3.setCell ⟨fb, 0, none⟩ (.slice a3 L.length c3') = w6 at *
                generalize a3 = as6 at *
                generalize c3' = cs6 at *
                have hfb6 := HR6.out.lt
                have c0 : w6.cell? ⟨fb, 0, none⟩ = some (.slice as6 L.length cs6) := by rw [cell_of_row _ _ _ _ _ _ HR6.out.row]; rfl
                have c0a : ∀ o, (w6.alloc o).cell? ⟨fb, 0, none⟩ = some (.slice as6 L.length cs6) := fun o => by rw [World.cell?_alloc_lt _ _ ⟨fb, 0, none⟩ hfb6]; exact c0
                have HBA : Hid (Below w6.heap.size w6 (w6.alloc (.cells #[] 362))) := (Below.refl _ _).alloc (Nat.le_refl _) _
                have HROW : Hid (∀ w3 : World, Below w6.heap.size w6 w3 → w3.cell? ⟨fb, 1, none⟩ = some (.slice an d.seen.length cn') ∧ w3.frozen? ⟨fb, 1, none⟩ = false ∧ w3.cell? ⟨fb, 3, none⟩ = some (.slice (some ⟨g, 0, none⟩) d.wait.length cw) ∧ w3.frozen? ⟨fb, 3, none⟩ = false ∧ w3.cell? ⟨fb, 5, none⟩ = some (.bool d.lit) ∧ w3.frozen? ⟨fb, 5, none⟩ = false ∧ w3.cell? ⟨fb, 6, none⟩ = some (.bool d.down) ∧ w3.frozen? ⟨fb, 6, none⟩ = false) := fun w3 hb => by
                  have hr : w3.heap[fb]? = _ := (hb.block fb hfb6).trans HR6.out.row
                  exact ⟨by rw [cell_of_row _ _ _ _ _ _ hr]; rfl, frozen_of_row _ _ _ _ _ hr, by rw [cell_of_row _ _ _ _ _ _ hr]; rfl, frozen_of_row _ _ _ _ _ hr, by rw [cell_of_row _ _ _ _ _ _ hr]; rfl, frozen_of_row _ _ _ _ _ hr, by rw [cell_of_row _ _ _ _ _ _ hr]; rfl, frozen_of_row _ _ _ _ _ hr⟩
                have HFIN : Hid (∀ (v5 : Value) (w5 : World), Below w6.heap.size w6 w5 → Own2 w6.heap.size v5 L w5 → RefPost0 w fb vs (.slice an d.seen.length cn') (.slice (some ⟨g, 0, none⟩) d.wait.length cw) (crashD d keep cut) (.returned (.tuple #[])) ((((w5.setCell ⟨fb, 1, none⟩ v5).setCell ⟨fb, 3, none⟩ (.slice none 0 0)).setCell ⟨fb, 5, none⟩ (.bool false)).setCell ⟨fb, 6, none⟩ (.bool false))) := fun v5 w5 hb ho => crash_fin HR6.out HT6.out HF6.out HL6.out hb ho
                have hown6 := HR6.out.safe
                simp only at hown6
                clear HR6 HT6 HF6 HL6
                obtain ⟨_, ⟨hnil, h0⟩ | ⟨g9, cap', cur, hsl, _, hh, _, _, _, htk⟩⟩ := hown6.own
                · have hl0 : L = [] := List.eq_nil_of_length_eq_zero h0
                  subst hl0
                  injection hnil with q1 q2 q3
                  subst q1 q3
                  have HX := HFIN.out (.slice (some ⟨w6.heap.size, 0, none⟩) 0 0) _ HBA.out ⟨⟨rfl, Or.inr ⟨w6.heap.size, 0, #[], rfl, Nat.le_refl _, heapA_new _ _ _ rfl, Nat.le_refl _, Nat.zero_le _, rfl, rfl⟩⟩⟩
                  have HOW : Hid ((w6.alloc (.cells #[] 362)).ownsRow w6.heap.size 362 2 (.slice (some ⟨w6.heap.size, 0, none⟩) 0 0) 0 []) := ⟨rfl, Or.inr ⟨w6.heap.size, 0, #[], rfl, Nat.le_refl _, heapA_new _ _ _ rfl, Nat.le_refl _, Nat.zero_le _, rfl, rfl⟩⟩
                  obtain ⟨z1, z2, z3, z4, z5, z6, z7, z8⟩ := HROW.out _ HBA.out
                  clear HFIN HROW HBA h0 hown6 q2
                  go_wp2_with (refine wpList_append_own_none rfl (.tmp 86) (.tmp 90) 223 rfl w6.heap.size 362 ti 2 Tryz.underlying223 HTI.out.1 _ 0 [] rfl (by exact HOW.out) rfl ?_; refine Hid.out ?_)
                  clear c0a HOW
                  generalize w6.alloc (.cells #[] 362) = w5 at z1 z2 z3 z4 z5 z6 z7 z8 HX ⊢
                  unfold Hid
                  go_wp2
                  go_end0
                  exact HX
                · injection hsl with q1 q2 q3
                  subst q1 q3
                  have hml := HLL.out
                  have HNW : Hid (∀ (o : Obj) (j : Nat) u, (fcells L)[j]? = some u → (w6.alloc o).cell? ((⟨g9, 0, none⟩ : Addr).add j) = some u) := by
                    intro o j u hu
                    have hadd : (⟨g9, 0, none⟩ : Addr).add j = ⟨g9, j, none⟩ := by unfold Addr.add; split <;> simp_all
                    have hj : j < L.length * 2 := by rw [← fcells_length]; exact (List.getElem?_eq_some_iff.1 hu).1
                    have hc : w6.cell? ⟨g9, j, none⟩ = some u := by rw [cell_of_row _ _ _ _ _ _ hh, take_at htk j hj]; exact hu
                    rw [hadd, World.cell?_alloc_lt _ _ ⟨g9, j, none⟩ (block_lt_of_cell hc)]; exact hc
                  have HONE : Hid (∀ u ∈ fcells L, u.oneCell' = true) := by
                    intro u hu
                    simp only [fcells, List.mem_flatMap] at hu
                    obtain ⟨x, _, hx⟩ := hu
                    simp at hx
                    rcases hx with rfl | rfl <;> rfl
                  clear hh htk hown6
                  go_wp2_with (refine wpList_append_own _ rfl (.tmp 86) (.tmp 90) 223 rfl w6.heap.size 362 ti (.agg #[.string ⟨#[]⟩, .string ⟨#[]⟩]) 2 32 Tryz.underlying223 HTI.out.1 HTI.out.2.2.2 HTI.out.2.1 HTI.out.2.2.1 rfl (by decide) _ 0 [] rfl (by exact ⟨rfl, Or.inr ⟨w6.heap.size, 0, #[], rfl, Nat.le_refl _, heapA_new _ _ _ rfl, Nat.le_refl _, Nat.zero_le _, rfl, rfl⟩⟩) ⟨g9, 0, none⟩ L.length cs6 (fcells L) rfl (fcells_length _) (by exact HNW.out _) (by exact HONE.out) (by unfold maxLen; omega) (by omega) (by simp) ?_; intro v5 w5 hv5 hg5 hn5; refine Hid.out ?_)
                  have HB5 : Hid (Below w6.heap.size w6 w5) := HBA.out.grown hg5 (by simp) (fun k hk => by have h : w6.heap.size = k := Option.some.inj hk; omega)
                  have HO5 : Hid (Own2 w6.heap.size v5 L w5) := ⟨by have := hv5; rw [Nat.zero_add] at this; exact this⟩
                  obtain ⟨a5, c5, hf5⟩ := HO5.out.form
                  subst hf5
                  have HX := HFIN.out _ _ HB5.out HO5.out
                  obtain ⟨z1, z2, z3, z4, z5, z6, z7, z8⟩ := HROW.out _ HB5.out
                  clear HFIN HROW HBA HNW HONE hv5 hg5 hn5 HB5 HO5 c0a c0
                  unfold Hid
                  go_wp2
                  go_end0
                  exact HX
            · have HCO : Hid (cutO ⟨kd, nm, dt⟩ cut = ⟨kd, nm, dt⟩) := by show _ = _; rw [cutO, if_neg hcs]
              have HOK2 : Hid (ApplyOk (keptL d j) ⟨kd, nm, dt⟩) := HOK.out
              go_wp2_with fail
              rw [HCO.out] at HL6 HLL
              have HT2 : Hid (Turns (RefFoot fb vs (.slice an d.seen.length cn') (.slice (some ⟨g, 0, none⟩) d.wait.length cw)) w (wr.alloc (.cells #[.int .i64 kd, .string nm, .string dt] 365))) := HT1.out.trans (Turns.of_below (fun _ => False) ((Below.refl _ _).alloc (Nat.le_refl _) _)) (fun i hi => hi.elim)
              have HR2 : Hid (RefAt (wr.alloc (.cells #[.int .i64 kd, .string nm, .string dt] 365)) fb { d with safe := keptL d j } (.slice as1 (keptL d j).length cs1) (.slice an d.seen.length cn') (.slice (some ⟨g, 0, none⟩) d.wait.length cw)) := HR1.out.later (fun k hk => heapA_old wr _ k hk)
              have HC : Hid ((wr.alloc (.cells #[.int .i64 kd, .string nm, .string dt] 365)).heap[wr.heap.size]? = some (.cells #[.int .i64 kd, .string nm, .string dt] 365 (0, 0))) := heapA_new _ _ _ rfl
              generalize wr.alloc (.cells #[.int .i64 kd, .string nm, .string dt] 365) = W1 at *
              clear c0 f0 c3 ck cn cd HR1 HT1 hfb2
              have c0 : W1.cell? ⟨fb, 0, none⟩ = some (.slice as1 (keptL d j).length cs1) := by rw [cell_of_row _ _ _ _ _ _ HR2.out.row]; rfl
              have f0 : W1.frozen? ⟨fb, 0, none⟩ = false := frozen_of_row _ _ _ _ _ HR2.out.row
              have o0 : W1.cell? ⟨wr.heap.size, 0, none⟩ = some (.int .i64 kd) := by rw [cell_of_row _ _ _ _ _ _ HC.out]; rfl
              have o1 : W1.cell? ⟨wr.heap.size, 1, none⟩ = some (.string nm) := by rw [cell_of_row _ _ _ _ _ _ HC.out]; rfl
              have o2 : W1.cell? ⟨wr.heap.size, 2, none⟩ = some (.string dt) := by rw [cell_of_row _ _ _ _ _ _ HC.out]; rfl
              have hfb2 : fb < W1.heap.size := HR2.out.lt
              clear HC HCO HOK
              generalize dt = dc at *
              go_region_with (go_at_call 231; refine (apply_any (keptL d j) ⟨kd, nm, dc⟩ 0 as1 cs1 ?_ _ ?_ ?_ ?_ ?_ ?_ ?_).mono ?_; exact (by have := HOK2.out.len; omega); exact HR2.out.safe.later (fun _ _ => rfl); exact Nat.zero_le _; exact HOK2.out.kind; exact HOK2.out.three; exact HOK2.out.data; exact HOK2.out.old; rintro e w3 ⟨v, rfl, ho3, hg3, hl3⟩; obtain ⟨a3, c3', hf3⟩ := ho3.form; subst hf3; have hrow3 : w3.heap[fb]? = W1.heap[fb]? := hg3.block fb hfb2 nfb; have c03 : w3.cell? ⟨fb, 0, none⟩ = some (.slice as1 (keptL d j).length cs1) := (World.cell?_of_block (w := W1) (a := ⟨fb, 0, none⟩) hrow3).trans c0; have f03 : w3.frozen? ⟨fb, 0, none⟩ = false := (World.frozen?_of_block (w := W1) (a := ⟨fb, 0, none⟩) hrow3).trans f0)
              all_goals
                have hns := HR2.out.growSafe (w3 := w3) ⟨hg3.os, hg3.tape, hg3.output, hg3.size, hg3.block⟩ ho3 hl3
                clear ho3 hg3 hl3 hrow3 c03 f03
                generalize applyL (keptL d j) ⟨kd, nm, dc⟩ = L at *
                have HR6 : Hid (RefAt (w3.setCell ⟨fb, 0, none⟩ (.slice a3 L.length c3')) fb { d with safe := L } (.slice a3 L.length c3') (.slice an d.seen.length cn') (.slice (some ⟨g, 0, none⟩) d.wait.length cw)) := hns.1
                have HT6 : Hid (Turns (RefFoot fb vs (.slice an d.seen.length cn') (.slice (some ⟨g, 0, none⟩) d.wait.length cw)) w (w3.setCell ⟨fb, 0, none⟩ (.slice a3 L.length c3'))) := HT2.out.trans hns.2.1 (fun i hi => HF1.out i hi)
                have HF6 : Hid (∀ k, RefFoot fb (.slice a3 L.length c3') (.slice an d.seen.length cn') (.slice (some ⟨g, 0, none⟩) d.wait.length cw) k → RefFoot fb vs (.slice an d.seen.length cn') (.slice (some ⟨g, 0, none⟩) d.wait.length cw) k ∨ w.heap.size ≤ k) := fun k hk => by
                  rcases hns.2.2 k hk with h | h
                  · exact HF1.out k h
                  · exact Or.inr (Nat.le_trans HT2.out.size h)
                clear hns c0 f0 o0 o1 o2 HR2 HT2 HF1 HOK2 nfb hfb2
                generalize w3.setCell ⟨fb, 0, none⟩ (.slice a3 L.length c3') = w6 at *
                generalize a3 = as6 at *
                generalize c3' = cs6 at *
                have hfb6 := HR6.out.lt
                have c0 : w6.cell? ⟨fb, 0, none⟩ = some (.slice as6 L.length cs6) := by rw [cell_of_row _ _ _ _ _ _ HR6.out.row]; rfl
                have c0a : ∀ o, (w6.alloc o).cell? ⟨fb, 0, none⟩ = some (.slice as6 L.length cs6) := fun o => by rw [World.cell?_alloc_lt _ _ ⟨fb, 0, none⟩ hfb6]; exact c0
                have HBA : Hid (Below w6.heap.size w6 (w6.alloc (.cells #[] 362))) := (Below.refl _ _).alloc (Nat.le_refl _) _
                have HROW : Hid (∀ w3 : World, Below w6.heap.size w6 w3 → w3.cell? ⟨fb, 1, none⟩ = some (.slice an d.seen.length cn') ∧ w3.frozen? ⟨fb, 1, none⟩ = false ∧ w3.cell? ⟨fb, 3, none⟩ = some (.slice (some ⟨g, 0, none⟩) d.wait.length cw) ∧ w3.frozen? ⟨fb, 3, none⟩ = false ∧ w3.cell? ⟨fb, 5, none⟩ = some (.bool d.lit) ∧ w3.frozen? ⟨fb, 5, none⟩ = false ∧ w3.cell? ⟨fb, 6, none⟩ = some (.bool d.down) ∧ w3.frozen? ⟨fb, 6, none⟩ = false) := fun w3 hb => by
                  have hr : w3.heap[fb]? = _ := (hb.block fb hfb6).trans HR6.out.row
                  exact ⟨by rw [cell_of_row _ _ _ _ _ _ hr]; rfl, frozen_of_row _ _ _ _ _ hr, by rw [cell_of_row _ _ _ _ _ _ hr]; rfl, frozen_of_row _ _ _ _ _ hr, by rw [cell_of_row _ _ _ _ _ _ hr]; rfl, frozen_of_row _ _ _ _ _ hr, by rw [cell_of_row _ _ _ _ _ _ hr]; rfl, frozen_of_row _ _ _ _ _ hr⟩
                have HFIN : Hid (∀ (v5 : Value) (w5 : World), Below w6.heap.size w6 w5 → Own2 w6.heap.size v5 L w5 → RefPost0 w fb vs (.slice an d.seen.length cn') (.slice (some ⟨g, 0, none⟩) d.wait.length cw) (crashD d keep cut) (.returned (.tuple #[])) ((((w5.setCell ⟨fb, 1, none⟩ v5).setCell ⟨fb, 3, none⟩ (.slice none 0 0)).setCell ⟨fb, 5, none⟩ (.bool false)).setCell ⟨fb, 6, none⟩ (.bool false))) := fun v5 w5 hb ho => crash_fin HR6.out HT6.out HF6.out HL6.out hb ho
                have hown6 := HR6.out.safe
                simp only at hown6
                clear HR6 HT6 HF6 HL6
                obtain ⟨_, ⟨hnil, h0⟩ | ⟨g9, cap', cur, hsl, _, hh, _, _, _, htk⟩⟩ := hown6.own
                · have hl0 : L = [] := List.eq_nil_of_length_eq_zero h0
                  subst hl0
                  injection hnil with q1 q2 q3
                  subst q1 q3
                  have HX := HFIN.out (.slice (some ⟨w6.heap.size, 0, none⟩) 0 0) _ HBA.out ⟨⟨rfl, Or.inr ⟨w6.heap.size, 0, #[], rfl, Nat.le_refl _, heapA_new _ _ _ rfl, Nat.le_refl _, Nat.zero_le _, rfl, rfl⟩⟩⟩
                  have HOW : Hid ((w6.alloc (.cells #[] 362)).ownsRow w6.heap.size 362 2 (.slice (some ⟨w6.heap.size, 0, none⟩) 0 0) 0 []) := ⟨rfl, Or.inr ⟨w6.heap.size, 0, #[], rfl, Nat.le_refl _, heapA_new _ _ _ rfl, Nat.le_refl _, Nat.zero_le _, rfl, rfl⟩⟩
                  obtain ⟨z1, z2, z3, z4, z5, z6, z7, z8⟩ := HROW.out _ HBA.out
                  clear HFIN HROW HBA h0 hown6 q2
                  go_wp2_with (refine wpList_append_own_none rfl (.tmp 86) (.tmp 90) 223 rfl w6.heap.size 362 ti 2 Tryz.underlying223 HTI.out.1 _ 0 [] rfl (by exact HOW.out) rfl ?_; refine Hid.out ?_)
                  clear c0a HOW
                  generalize w6.alloc (.cells #[] 362) = w5 at z1 z2 z3 z4 z5 z6 z7 z8 HX ⊢
                  unfold Hid
                  go_wp2
                  go_end0
                  exact HX
                · injection hsl with q1 q2 q3
                  subst q1 q3
                  have hml := HLL.out
                  have HNW : Hid (∀ (o : Obj) (j : Nat) u, (fcells L)[j]? = some u → (w6.alloc o).cell? ((⟨g9, 0, none⟩ : Addr).add j) = some u) := by
                    intro o j u hu
                    have hadd : (⟨g9, 0, none⟩ : Addr).add j = ⟨g9, j, none⟩ := by unfold Addr.add; split <;> simp_all
                    have hj : j < L.length * 2 := by rw [← fcells_length]; exact (List.getElem?_eq_some_iff.1 hu).1
                    have hc : w6.cell? ⟨g9, j, none⟩ = some u := by rw [cell_of_row _ _ _ _ _ _ hh, take_at htk j hj]; exact hu
                    rw [hadd, World.cell?_alloc_lt _ _ ⟨g9, j, none⟩ (block_lt_of_cell hc)]; exact hc
                  have HONE : Hid (∀ u ∈ fcells L, u.oneCell' = true) := by
                    intro u hu
                    simp only [fcells, List.mem_flatMap] at hu
                    obtain ⟨x, _, hx⟩ := hu
                    simp at hx
                    rcases hx with rfl | rfl <;> rfl
                  clear hh htk hown6
                  go_wp2_with (refine wpList_append_own _ rfl (.tmp 86) (.tmp 90) 223 rfl w6.heap.size 362 ti (.agg #[.string ⟨#[]⟩, .string ⟨#[]⟩]) 2 32 Tryz.underlying223 HTI.out.1 HTI.out.2.2.2 HTI.out.2.1 HTI.out.2.2.1 rfl (by decide) _ 0 [] rfl (by exact ⟨rfl, Or.inr ⟨w6.heap.size, 0, #[], rfl, Nat.le_refl _, heapA_new _ _ _ rfl, Nat.le_refl _, Nat.zero_le _, rfl, rfl⟩⟩) ⟨g9, 0, none⟩ L.length cs6 (fcells L) rfl (fcells_length _) (by exact HNW.out _) (by exact HONE.out) (by unfold maxLen; omega) (by omega) (by simp) ?_; intro v5 w5 hv5 hg5 hn5; refine Hid.out ?_)
                  have HB5 : Hid (Below w6.heap.size w6 w5) := HBA.out.grown hg5 (by simp) (fun k hk => by have h : w6.heap.size = k := Option.some.inj hk; omega)
                  have HO5 : Hid (Own2 w6.heap.size v5 L w5) := ⟨by have := hv5; rw [Nat.zero_add] at this; exact this⟩
                  obtain ⟨a5, c5, hf5⟩ := HO5.out.form
                  subst hf5
                  have HX := HFIN.out _ _ HB5.out HO5.out
                  obtain ⟨z1, z2, z3, z4, z5, z6, z7, z8⟩ := HROW.out _ HB5.out
                  clear HFIN HROW HBA HNW HONE hv5 hg5 hn5 HB5 HO5 c0a c0
                  unfold Hid
                  go_wp2
                  go_end0
                  exact HX
          · have HL6 : Hid (crashSafe d keep cut = keptL d j) := by show _ = _; rw [crashSafe, ← HJ.out, if_neg (by omega)]
            have HLL : Hid ((keptL d j).length ≤ 1048576) := by show _ ≤ _; rw [← HL6.out]; exact HFI.out
            clear HFI HAP HJ hle cn cd f0 c0 nfb
            generalize (waitAt d.wait j).kind = kd at *
            have k2 : (kd : Int) ≤ 2 := by omega
            generalize keptL d j = L at *
            generalize hwe : wr = w6 at *
            have HR6 := HR1
            have HT6 := HT1
            have HF6 := HF1
            generalize as1 = as6 at *
            generalize cs1 = cs6 at *
            clear HR1 HT1 HF1
            have hfb6 := HR6.out.lt
            have c0 : w6.cell? ⟨fb, 0, none⟩ = some (.slice as6 L.length cs6) := by rw [cell_of_row _ _ _ _ _ _ HR6.out.row]; rfl
            have c0a : ∀ o, (w6.alloc o).cell? ⟨fb, 0, none⟩ = some (.slice as6 L.length cs6) := fun o => by rw [World.cell?_alloc_lt _ _ ⟨fb, 0, none⟩ hfb6]; exact c0
            have HBA : Hid (Below w6.heap.size w6 (w6.alloc (.cells #[] 362))) := (Below.refl _ _).alloc (Nat.le_refl _) _
            have HROW : Hid (∀ w3 : World, Below w6.heap.size w6 w3 → w3.cell? ⟨fb, 1, none⟩ = some (.slice an d.seen.length cn') ∧ w3.frozen? ⟨fb, 1, none⟩ = false ∧ w3.cell? ⟨fb, 3, none⟩ = some (.slice (some ⟨g, 0, none⟩) d.wait.length cw) ∧ w3.frozen? ⟨fb, 3, none⟩ = false ∧ w3.cell? ⟨fb, 5, none⟩ = some (.bool d.lit) ∧ w3.frozen? ⟨fb, 5, none⟩ = false ∧ w3.cell? ⟨fb, 6, none⟩ = some (.bool d.down) ∧ w3.frozen? ⟨fb, 6, none⟩ = false) := fun w3 hb => by
              have hr : w3.heap[fb]? = _ := (hb.block fb hfb6).trans HR6.out.row
              exact ⟨by rw [cell_of_row _ _ _ _ _ _ hr]; rfl, frozen_of_row _ _ _ _ _ hr, by rw [cell_of_row _ _ _ _ _ _ hr]; rfl, frozen_of_row _ _ _ _ _ hr, by rw [cell_of_row _ _ _ _ _ _ hr]; rfl, frozen_of_row _ _ _ _ _ hr, by rw [cell_of_row _ _ _ _ _ _ hr]; rfl, frozen_of_row _ _ _ _ _ hr⟩
            have HFIN : Hid (∀ (v5 : Value) (w5 : World), Below w6.heap.size w6 w5 → Own2 w6.heap.size v5 L w5 → RefPost0 w fb vs (.slice an d.seen.length cn') (.slice (some ⟨g, 0, none⟩) d.wait.length cw) (crashD d keep cut) (.returned (.tuple #[])) ((((w5.setCell ⟨fb, 1, none⟩ v5).setCell ⟨fb, 3, none⟩ (.slice none 0 0)).setCell ⟨fb, 5, none⟩ (.bool false)).setCell ⟨fb, 6, none⟩ (.bool false))) := fun v5 w5 hb ho => crash_fin HR6.out HT6.out HF6.out HL6.out hb ho
            have hown6 := HR6.out.safe
            simp only at hown6
            clear HR6 HT6 HF6 HL6
            obtain ⟨_, ⟨hnil, h0⟩ | ⟨g9, cap', cur, hsl, _, hh, _, _, _, htk⟩⟩ := hown6.own
            · have hl0 : L = [] := List.eq_nil_of_length_eq_zero h0
              subst hl0
              injection hnil with q1 q2 q3
              subst q1 q3
              have HX := HFIN.out (.slice (some ⟨w6.heap.size, 0, none⟩) 0 0) _ HBA.out ⟨⟨rfl, Or.inr ⟨w6.heap.size, 0, #[], rfl, Nat.le_refl _, heapA_new _ _ _ rfl, Nat.le_refl _, Nat.zero_le _, rfl, rfl⟩⟩⟩
              have HOW : Hid ((w6.alloc (.cells #[] 362)).ownsRow w6.heap.size 362 2 (.slice (some ⟨w6.heap.size, 0, none⟩) 0 0) 0 []) := ⟨rfl, Or.inr ⟨w6.heap.size, 0, #[], rfl, Nat.le_refl _, heapA_new _ _ _ rfl, Nat.le_refl _, Nat.zero_le _, rfl, rfl⟩⟩
              obtain ⟨z1, z2, z3, z4, z5, z6, z7, z8⟩ := HROW.out _ HBA.out
              clear HFIN HROW HBA h0 hown6 q2
              go_wp2_with (refine wpList_append_own_none rfl (.tmp 86) (.tmp 90) 223 rfl w6.heap.size 362 ti 2 Tryz.underlying223 HTI.out.1 _ 0 [] rfl (by exact HOW.out) rfl ?_; refine Hid.out ?_)
              clear c0a HOW
              generalize w6.alloc (.cells #[] 362) = w5 at z1 z2 z3 z4 z5 z6 z7 z8 HX ⊢
              unfold Hid
              go_wp2
              go_end0
              exact HX
            · injection hsl with q1 q2 q3
              subst q1 q3
              have hml := HLL.out
              have HNW : Hid (∀ (o : Obj) (j : Nat) u, (fcells L)[j]? = some u → (w6.alloc o).cell? ((⟨g9, 0, none⟩ : Addr).add j) = some u) := by
                intro o j u hu
                have hadd : (⟨g9, 0, none⟩ : Addr).add j = ⟨g9, j, none⟩ := by unfold Addr.add; split <;> simp_all
                have hj : j < L.length * 2 := by rw [← fcells_length]; exact (List.getElem?_eq_some_iff.1 hu).1
                have hc : w6.cell? ⟨g9, j, none⟩ = some u := by rw [cell_of_row _ _ _ _ _ _ hh, take_at htk j hj]; exact hu
                rw [hadd, World.cell?_alloc_lt _ _ ⟨g9, j, none⟩ (block_lt_of_cell hc)]; exact hc
              have HONE : Hid (∀ u ∈ fcells L, u.oneCell' = true) := by
                intro u hu
                simp only [fcells, List.mem_flatMap] at hu
                obtain ⟨x, _, hx⟩ := hu
                simp at hx
                rcases hx with rfl | rfl <;> rfl
              clear hh htk hown6
              go_wp2_with (refine wpList_append_own _ rfl (.tmp 86) (.tmp 90) 223 rfl w6.heap.size 362 ti (.agg #[.string ⟨#[]⟩, .string ⟨#[]⟩]) 2 32 Tryz.underlying223 HTI.out.1 HTI.out.2.2.2 HTI.out.2.1 HTI.out.2.2.1 rfl (by decide) _ 0 [] rfl (by exact ⟨rfl, Or.inr ⟨w6.heap.size, 0, #[], rfl, Nat.le_refl _, heapA_new _ _ _ rfl, Nat.le_refl _, Nat.zero_le _, rfl, rfl⟩⟩) ⟨g9, 0, none⟩ L.length cs6 (fcells L) rfl (fcells_length _) (by exact HNW.out _) (by exact HONE.out) (by unfold maxLen; omega) (by omega) (by simp) ?_; intro v5 w5 hv5 hg5 hn5; refine Hid.out ?_)
              have HB5 : Hid (Below w6.heap.size w6 w5) := HBA.out.grown hg5 (by simp) (fun k hk => by have h : w6.heap.size = k := Option.some.inj hk; omega)
              have HO5 : Hid (Own2 w6.heap.size v5 L w5) := ⟨by have := hv5; rw [Nat.zero_add] at this; exact this⟩
              obtain ⟨a5, c5, hf5⟩ := HO5.out.form
              subst hf5
              have HX := HFIN.out _ _ HB5.out HO5.out
              obtain ⟨z1, z2, z3, z4, z5, z6, z7, z8⟩ := HROW.out _ HB5.out
              clear HFIN HROW HBA HNW HONE hv5 hg5 hn5 HB5 HO5 c0a c0
              unfold Hid
              go_wp2
              go_end0
              exact HX
        · have HL6 : Hid (crashSafe d keep cut = keptL d j) := by show _ = _; rw [crashSafe, ← HJ.out, if_neg (by omega)]
          have HLL : Hid ((keptL d j).length ≤ 1048576) := by show _ ≤ _; rw [← HL6.out]; exact HFI.out
          clear HFI HAP HJ hle cn cd f0 c0 nfb
          generalize (waitAt d.wait j).kind = kd at *
          have k2 : ¬ (kd : Int) ≤ 2 := by omega
          generalize keptL d j = L at *
          generalize hwe : wr = w6 at *
          have HR6 := HR1
          have HT6 := HT1
          have HF6 := HF1
          generalize as1 = as6 at *
          generalize cs1 = cs6 at *
          clear HR1 HT1 HF1
          have hfb6 := HR6.out.lt
          have c0 : w6.cell? ⟨fb, 0, none⟩ = some (.slice as6 L.length cs6) := by rw [cell_of_row _ _ _ _ _ _ HR6.out.row]; rfl
          have c0a : ∀ o, (w6.alloc o).cell? ⟨fb, 0, none⟩ = some (.slice as6 L.length cs6) := fun o => by rw [World.cell?_alloc_lt _ _ ⟨fb, 0, none⟩ hfb6]; exact c0
          have HBA : Hid (Below w6.heap.size w6 (w6.alloc (.cells #[] 362))) := (Below.refl _ _).alloc (Nat.le_refl _) _
          have HROW : Hid (∀ w3 : World, Below w6.heap.size w6 w3 → w3.cell? ⟨fb, 1, none⟩ = some (.slice an d.seen.length cn') ∧ w3.frozen? ⟨fb, 1, none⟩ = false ∧ w3.cell? ⟨fb, 3, none⟩ = some (.slice (some ⟨g, 0, none⟩) d.wait.length cw) ∧ w3.frozen? ⟨fb, 3, none⟩ = false ∧ w3.cell? ⟨fb, 5, none⟩ = some (.bool d.lit) ∧ w3.frozen? ⟨fb, 5, none⟩ = false ∧ w3.cell? ⟨fb, 6, none⟩ = some (.bool d.down) ∧ w3.frozen? ⟨fb, 6, none⟩ = false) := fun w3 hb => by
            have hr : w3.heap[fb]? = _ := (hb.block fb hfb6).trans HR6.out.row
            exact ⟨by rw [cell_of_row _ _ _ _ _ _ hr]; rfl, frozen_of_row _ _ _ _ _ hr, by rw [cell_of_row _ _ _ _ _ _ hr]; rfl, frozen_of_row _ _ _ _ _ hr, by rw [cell_of_row _ _ _ _ _ _ hr]; rfl, frozen_of_row _ _ _ _ _ hr, by rw [cell_of_row _ _ _ _ _ _ hr]; rfl, frozen_of_row _ _ _ _ _ hr⟩
          have HFIN : Hid (∀ (v5 : Value) (w5 : World), Below w6.heap.size w6 w5 → Own2 w6.heap.size v5 L w5 → RefPost0 w fb vs (.slice an d.seen.length cn') (.slice (some ⟨g, 0, none⟩) d.wait.length cw) (crashD d keep cut) (.returned (.tuple #[])) ((((w5.setCell ⟨fb, 1, none⟩ v5).setCell ⟨fb, 3, none⟩ (.slice none 0 0)).setCell ⟨fb, 5, none⟩ (.bool false)).setCell ⟨fb, 6, none⟩ (.bool false))) := fun v5 w5 hb ho => crash_fin HR6.out HT6.out HF6.out HL6.out hb ho
          have hown6 := HR6.out.safe
          simp only at hown6
          clear HR6 HT6 HF6 HL6
          obtain ⟨_, ⟨hnil, h0⟩ | ⟨g9, cap', cur, hsl, _, hh, _, _, _, htk⟩⟩ := hown6.own
          · have hl0 : L = [] := List.eq_nil_of_length_eq_zero h0
            subst hl0
            injection hnil with q1 q2 q3
            subst q1 q3
            have HX := HFIN.out (.slice (some ⟨w6.heap.size, 0, none⟩) 0 0) _ HBA.out ⟨⟨rfl, Or.inr ⟨w6.heap.size, 0, #[], rfl, Nat.le_refl _, heapA_new _ _ _ rfl, Nat.le_refl _, Nat.zero_le _, rfl, rfl⟩⟩⟩
            have HOW : Hid ((w6.alloc (.cells #[] 362)).ownsRow w6.heap.size 362 2 (.slice (some ⟨w6.heap.size, 0, none⟩) 0 0) 0 []) := ⟨rfl, Or.inr ⟨w6.heap.size, 0, #[], rfl, Nat.le_refl _, heapA_new _ _ _ rfl, Nat.le_refl _, Nat.zero_le _, rfl, rfl⟩⟩
            obtain ⟨z1, z2, z3, z4, z5, z6, z7, z8⟩ := HROW.out _ HBA.out
            clear HFIN HROW HBA h0 hown6 q2
            go_wp2_with (refine wpList_append_own_none rfl (.tmp 86) (.tmp 90) 223 rfl w6.heap.size 362 ti 2 Tryz.underlying223 HTI.out.1 _ 0 [] rfl (by exact HOW.out) rfl ?_; refine Hid.out ?_)
            clear c0a HOW
            generalize w6.alloc (.cells #[] 362) = w5 at z1 z2 z3 z4 z5 z6 z7 z8 HX ⊢
            unfold Hid
            go_wp2
            go_end0
            exact HX
          · injection hsl with q1 q2 q3
            subst q1 q3
            have hml := HLL.out
            have HNW : Hid (∀ (o : Obj) (j : Nat) u, (fcells L)[j]? = some u → (w6.alloc o).cell? ((⟨g9, 0, none⟩ : Addr).add j) = some u) := by
              intro o j u hu
              have hadd : (⟨g9, 0, none⟩ : Addr).add j = ⟨g9, j, none⟩ := by unfold Addr.add; split <;> simp_all
              have hj : j < L.length * 2 := by rw [← fcells_length]; exact (List.getElem?_eq_some_iff.1 hu).1
              have hc : w6.cell? ⟨g9, j, none⟩ = some u := by rw [cell_of_row _ _ _ _ _ _ hh, take_at htk j hj]; exact hu
              rw [hadd, World.cell?_alloc_lt _ _ ⟨g9, j, none⟩ (block_lt_of_cell hc)]; exact hc
            have HONE : Hid (∀ u ∈ fcells L, u.oneCell' = true) := by
              intro u hu
              simp only [fcells, List.mem_flatMap] at hu
              obtain ⟨x, _, hx⟩ := hu
              simp at hx
              rcases hx with rfl | rfl <;> rfl
            clear hh htk hown6
            go_wp2_with (refine wpList_append_own _ rfl (.tmp 86) (.tmp 90) 223 rfl w6.heap.size 362 ti (.agg #[.string ⟨#[]⟩, .string ⟨#[]⟩]) 2 32 Tryz.underlying223 HTI.out.1 HTI.out.2.2.2 HTI.out.2.1 HTI.out.2.2.1 rfl (by decide) _ 0 [] rfl (by exact ⟨rfl, Or.inr ⟨w6.heap.size, 0, #[], rfl, Nat.le_refl _, heapA_new _ _ _ rfl, Nat.le_refl _, Nat.zero_le _, rfl, rfl⟩⟩) ⟨g9, 0, none⟩ L.length cs6 (fcells L) rfl (fcells_length _) (by exact HNW.out _) (by exact HONE.out) (by unfold maxLen; omega) (by omega) (by simp) ?_; intro v5 w5 hv5 hg5 hn5; refine Hid.out ?_)
            have HB5 : Hid (Below w6.heap.size w6 w5) := HBA.out.grown hg5 (by simp) (fun k hk => by have h : w6.heap.size = k := Option.some.inj hk; omega)
            have HO5 : Hid (Own2 w6.heap.size v5 L w5) := ⟨by have := hv5; rw [Nat.zero_add] at this; exact this⟩
            obtain ⟨a5, c5, hf5⟩ := HO5.out.form
            subst hf5
            have HX := HFIN.out _ _ HB5.out HO5.out
            obtain ⟨z1, z2, z3, z4, z5, z6, z7, z8⟩ := HROW.out _ HB5.out
            clear HFIN HROW HBA HNW HONE hv5 hg5 hn5 HB5 HO5 c0a c0
            unfold Hid
            go_wp2
            go_end0
            exact HX
    · have HJ : Hid (j = keepsN d keep) := by show _ = _; have : keepsN d keep ≤ d.wait.length := Nat.min_le_left _ _; omega
      have hje : j = d.wait.length := by have : keepsN d keep ≤ d.wait.length := Nat.min_le_left _ _; omega
      have HL6 : Hid (crashSafe d keep cut = keptL d j) := by show _ = _; rw [crashSafe, ← HJ.out, if_neg (by omega)]
      have HLL : Hid ((keptL d j).length ≤ 1048576) := by show _ ≤ _; rw [← HL6.out]; exact HFI.out
      have i1 : ¬ (j : Int) < (d.wait.length : Int) := by omega
      clear HFI HAP HJ hle f0 c0 nfb hje
      generalize keptL d j = L at *
      generalize hwe : wr = w6 at *
      have HR6 := HR1
      have HT6 := HT1
      have HF6 := HF1
      generalize as1 = as6 at *
      generalize cs1 = cs6 at *
      clear HR1 HT1 HF1
      have hfb6 := HR6.out.lt
      have c0 : w6.cell? ⟨fb, 0, none⟩ = some (.slice as6 L.length cs6) := by rw [cell_of_row _ _ _ _ _ _ HR6.out.row]; rfl
      have c0a : ∀ o, (w6.alloc o).cell? ⟨fb, 0, none⟩ = some (.slice as6 L.length cs6) := fun o => by rw [World.cell?_alloc_lt _ _ ⟨fb, 0, none⟩ hfb6]; exact c0
      have HBA : Hid (Below w6.heap.size w6 (w6.alloc (.cells #[] 362))) := (Below.refl _ _).alloc (Nat.le_refl _) _
      have HROW : Hid (∀ w3 : World, Below w6.heap.size w6 w3 → w3.cell? ⟨fb, 1, none⟩ = some (.slice an d.seen.length cn') ∧ w3.frozen? ⟨fb, 1, none⟩ = false ∧ w3.cell? ⟨fb, 3, none⟩ = some (.slice aw d.wait.length cw) ∧ w3.frozen? ⟨fb, 3, none⟩ = false ∧ w3.cell? ⟨fb, 5, none⟩ = some (.bool d.lit) ∧ w3.frozen? ⟨fb, 5, none⟩ = false ∧ w3.cell? ⟨fb, 6, none⟩ = some (.bool d.down) ∧ w3.frozen? ⟨fb, 6, none⟩ = false) := fun w3 hb => by
        have hr : w3.heap[fb]? = _ := (hb.block fb hfb6).trans HR6.out.row
        exact ⟨by rw [cell_of_row _ _ _ _ _ _ hr]; rfl, frozen_of_row _ _ _ _ _ hr, by rw [cell_of_row _ _ _ _ _ _ hr]; rfl, frozen_of_row _ _ _ _ _ hr, by rw [cell_of_row _ _ _ _ _ _ hr]; rfl, frozen_of_row _ _ _ _ _ hr, by rw [cell_of_row _ _ _ _ _ _ hr]; rfl, frozen_of_row _ _ _ _ _ hr⟩
      have HFIN : Hid (∀ (v5 : Value) (w5 : World), Below w6.heap.size w6 w5 → Own2 w6.heap.size v5 L w5 → RefPost0 w fb vs (.slice an d.seen.length cn') (.slice aw d.wait.length cw) (crashD d keep cut) (.returned (.tuple #[])) ((((w5.setCell ⟨fb, 1, none⟩ v5).setCell ⟨fb, 3, none⟩ (.slice none 0 0)).setCell ⟨fb, 5, none⟩ (.bool false)).setCell ⟨fb, 6, none⟩ (.bool false))) := fun v5 w5 hb ho => crash_fin HR6.out HT6.out HF6.out HL6.out hb ho
      have hown6 := HR6.out.safe
      simp only at hown6
      clear HR6 HT6 HF6 HL6
      obtain ⟨_, ⟨hnil, h0⟩ | ⟨g9, cap', cur, hsl, _, hh, _, _, _, htk⟩⟩ := hown6.own
      · have hl0 : L = [] := List.eq_nil_of_length_eq_zero h0
        subst hl0
        injection hnil with q1 q2 q3
        subst q1 q3
        have HX := HFIN.out (.slice (some ⟨w6.heap.size, 0, none⟩) 0 0) _ HBA.out ⟨⟨rfl, Or.inr ⟨w6.heap.size, 0, #[], rfl, Nat.le_refl _, heapA_new _ _ _ rfl, Nat.le_refl _, Nat.zero_le _, rfl, rfl⟩⟩⟩
        have HOW : Hid ((w6.alloc (.cells #[] 362)).ownsRow w6.heap.size 362 2 (.slice (some ⟨w6.heap.size, 0, none⟩) 0 0) 0 []) := ⟨rfl, Or.inr ⟨w6.heap.size, 0, #[], rfl, Nat.le_refl _, heapA_new _ _ _ rfl, Nat.le_refl _, Nat.zero_le _, rfl, rfl⟩⟩
        obtain ⟨z1, z2, z3, z4, z5, z6, z7, z8⟩ := HROW.out _ HBA.out
        clear HFIN HROW HBA h0 hown6 q2
        go_wp2_with (refine wpList_append_own_none rfl (.tmp 86) (.tmp 90) 223 rfl w6.heap.size 362 ti 2 Tryz.underlying223 HTI.out.1 _ 0 [] rfl (by exact HOW.out) rfl ?_; refine Hid.out ?_)
        clear c0a HOW
        generalize w6.alloc (.cells #[] 362) = w5 at z1 z2 z3 z4 z5 z6 z7 z8 HX ⊢
        unfold Hid
        go_wp2
        go_end0
        exact HX
      · injection hsl with q1 q2 q3
        subst q1 q3
        have hml := HLL.out
        have HNW : Hid (∀ (o : Obj) (j : Nat) u, (fcells L)[j]? = some u → (w6.alloc o).cell? ((⟨g9, 0, none⟩ : Addr).add j) = some u) := by
          intro o j u hu
          have hadd : (⟨g9, 0, none⟩ : Addr).add j = ⟨g9, j, none⟩ := by unfold Addr.add; split <;> simp_all
          have hj : j < L.length * 2 := by rw [← fcells_length]; exact (List.getElem?_eq_some_iff.1 hu).1
          have hc : w6.cell? ⟨g9, j, none⟩ = some u := by rw [cell_of_row _ _ _ _ _ _ hh, take_at htk j hj]; exact hu
          rw [hadd, World.cell?_alloc_lt _ _ ⟨g9, j, none⟩ (block_lt_of_cell hc)]; exact hc
        have HONE : Hid (∀ u ∈ fcells L, u.oneCell' = true) := by
          intro u hu
          simp only [fcells, List.mem_flatMap] at hu
          obtain ⟨x, _, hx⟩ := hu
          simp at hx
          rcases hx with rfl | rfl <;> rfl
        clear hh htk hown6
        go_wp2_with (refine wpList_append_own _ rfl (.tmp 86) (.tmp 90) 223 rfl w6.heap.size 362 ti (.agg #[.string ⟨#[]⟩, .string ⟨#[]⟩]) 2 32 Tryz.underlying223 HTI.out.1 HTI.out.2.2.2 HTI.out.2.1 HTI.out.2.2.1 rfl (by decide) _ 0 [] rfl (by exact ⟨rfl, Or.inr ⟨w6.heap.size, 0, #[], rfl, Nat.le_refl _, heapA_new _ _ _ rfl, Nat.le_refl _, Nat.zero_le _, rfl, rfl⟩⟩) ⟨g9, 0, none⟩ L.length cs6 (fcells L) rfl (fcells_length _) (by exact HNW.out _) (by exact HONE.out) (by unfold maxLen; omega) (by omega) (by simp) ?_; intro v5 w5 hv5 hg5 hn5; refine Hid.out ?_)
        have HB5 : Hid (Below w6.heap.size w6 w5) := HBA.out.grown hg5 (by simp) (fun k hk => by have h : w6.heap.size = k := Option.some.inj hk; omega)
        have HO5 : Hid (Own2 w6.heap.size v5 L w5) := ⟨by have := hv5; rw [Nat.zero_add] at this; exact this⟩
        obtain ⟨a5, c5, hf5⟩ := HO5.out.form
        subst hf5
        have HX := HFIN.out _ _ HB5.out HO5.out
        obtain ⟨z1, z2, z3, z4, z5, z6, z7, z8⟩ := HROW.out _ HB5.out
        clear HFIN HROW HBA HNW HONE hv5 hg5 hn5 HB5 HO5 c0a c0
        unfold Hid
        go_wp2
        go_end0
        exact HX
end Go.Proofs.YthhbpebihgjpjaaGreatDoor
