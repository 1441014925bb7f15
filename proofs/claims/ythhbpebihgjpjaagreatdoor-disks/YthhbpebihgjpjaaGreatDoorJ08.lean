import Derived.Test.YthhbpebihgjpjaaGreatDoorJ07
import Derived.Laws.AppendOwnNone
namespace Go.Proofs.YthhbpebihgjpjaaGreatDoor
open Go.RowKit
set_option maxRecDepth 1000000

theorem named_size (t : ByteArray) (h : named t = true) : t.size ≤ 32 := by
  unfold named at h
  simp only [decide_eq_true_eq] at h
  exact h.2.1
def refRename (d : RefD) (frm to : ByteArray) : Int × RefD :=
  if named frm = false ∨ named to = false then (1, d) else if posIn d.seen frm = -1 then (2, d) else doD d ⟨3, frm, to⟩

set_option maxHeartbeats 4000000 in
theorem refRename_any (d : RefD) (frm to : ByteArray) (fb : Nat) (vs vn vw : Value) (w : World) (h : RefAt w fb d vs vn vw) (hok : RefOk d) (hn : frm.size ≤ 140737488351232) (hn2 : to.size ≤ 140737488351232) :
    Calls Tryz.prog 147 #[.pointer (some ⟨fb, 0, none⟩), .string frm, .string to] w (RefPost w fb vs vn vw (refRename d frm to)) := by
  have HR : Hid (RefAt w fb d vs vn vw) := h
  have HK : Hid (RefOk d) := hok
  obtain ⟨an, cn, hform⟩ := h.seen.form
  subst hform
  have c1 : w.cell? ⟨fb, 1, none⟩ = some (.slice an d.seen.length cn) := by rw [cell_of_row _ _ _ _ _ _ h.row]; rfl
  clear h hok
  go_enter Tryz.func147, Tryz.ntmps147
  go_wp2_with fail
  refine (named_any frm hn w).mono ?_
  rintro e w' ⟨rfl, rfl⟩
  go_wp2_with fail
  refine (named_any to hn2 w').mono ?_
  rintro e w2 ⟨rfl, rfl⟩
  by_cases hnm : named frm = true
  · by_cases hnt : named to = true
    · have HE : Hid (refRename d frm to = if posIn d.seen frm = -1 then (2, d) else doD d ⟨3, frm, to⟩) := by show _ = _; rw [refRename, hnm, hnt, if_neg (by simp)]
      have hts := named_size to hnt
      rw [hnm, hnt]
      go_wp2_with fail
      refine (at_any d.seen frm an cn (by have := HK.out.seenL; omega) w2 HR.out.seen.at).mono ?_
      rintro e w3 ⟨rfl, rfl⟩
      rcases posIn_cases d.seen frm with ⟨j, x, hp, hx, hne⟩ | ⟨hp, hnone⟩
      · have HE2 : Hid (refRename d frm to = doD d ⟨3, frm, to⟩) := by show _ = _; rw [HE.out, if_neg (by rw [hp]; omega)]
        have HP : Hid (posIn d.seen frm ≠ -1) := by show _ ≠ _; rw [hp]; omega
        rw [hp]
        have i0 : ¬ (j : Int) < 0 := by omega
        clear hp
        go_wp2_with fail
        refine (do_post d ⟨3, frm, to⟩ fb vs _ vw w3 HR.out HK.out (by simp) (fun _ => HP.out) (by show to.size ≤ _; omega)).mono ?_
        rintro e w4 ⟨vs', vn', vw', rfl, hr4, ht4, hf4⟩
        have HX : Hid (RefPost w3 fb vs (.slice an d.seen.length cn) vw (refRename d frm to) (.returned (.int .i64 (doD d ⟨3, frm, to⟩).1)) w4) := ⟨vs', vn', vw', by rw [HE2.out], by rw [HE2.out]; exact hr4, ht4, hf4⟩
        clear hr4 ht4 hf4
        generalize (doD d ⟨3, frm, to⟩).1 = code at *
        go_wp2
        go_ret
        exact HX.out
      · have HE2 : Hid (refRename d frm to = (2, d)) := by show _ = _; rw [HE.out, if_pos hp]
        rw [hp]
        go_wp2
        go_ret
        exact ⟨_, _, _, by rw [HE2.out]; rfl, by rw [HE2.out]; exact HR.out, Turns.refl _ _, fun k hk => Or.inl hk⟩
    · have hnt2 : named to = false := by simpa using hnt
      have HE : Hid (refRename d frm to = (1, d)) := by show _ = _; rw [refRename, if_pos (Or.inr hnt2)]
      rw [hnm, hnt2]
      go_wp2
      go_ret
      exact ⟨_, _, _, by rw [HE.out]; rfl, by rw [HE.out]; exact HR.out, Turns.refl _ _, fun k hk => Or.inl hk⟩
  · have hnm2 : named frm = false := by simpa using hnm
    have HE : Hid (refRename d frm to = (1, d)) := by show _ = _; rw [refRename, if_pos (Or.inl hnm2)]
    rw [hnm2]
    generalize named to = b at *
    go_wp2
    go_ret
    exact ⟨_, _, _, by rw [HE.out]; rfl, by rw [HE.out]; exact HR.out, Turns.refl _ _, fun k hk => Or.inl hk⟩

/-- What a file reads as. -/
def refRead (d : RefD) (name : ByteArray) : ByteArray × Int := if posIn d.seen name = -1 then (⟨#[]⟩, 2) else (dataOf d.seen name, 0)

set_option maxHeartbeats 4000000 in
theorem refRead_any (d : RefD) (name : ByteArray) (fb : Nat) (vs vn vw : Value) (w : World) (h : RefAt w fb d vs vn vw) (hok : RefOk d) :
    Calls Tryz.prog 141 #[.pointer (some ⟨fb, 0, none⟩), .string name] w fun e w' => e = .returned (.tuple #[.string (refRead d name).1, .int .i64 (refRead d name).2]) ∧ ∃ m, w' = w.drewN m := by
  have HR : Hid (RefAt w fb d vs vn vw) := h
  have HK : Hid (RefOk d) := hok
  obtain ⟨an, cn, hform⟩ := h.seen.form
  subst hform
  have c1 : w.cell? ⟨fb, 1, none⟩ = some (.slice an d.seen.length cn) := by rw [cell_of_row _ _ _ _ _ _ h.row]; rfl
  clear h hok
  go_enter Tryz.func141, Tryz.ntmps141
  go_wp2_with fail
  refine (at_any d.seen name an cn (by have := HK.out.seenL; omega) w HR.out.seen.at).mono ?_
  rintro e w2 ⟨rfl, rfl⟩
  rcases posIn_cases d.seen name with ⟨j, x, hp, hx, hne⟩ | ⟨hp, hnone⟩
  · have hj : j < d.seen.length := (List.getElem?_eq_some_iff.1 hx).1
    obtain ⟨g, cur, rfl, _, hg, hh, _⟩ := HR.out.seen.row (by omega)
    have cd := (HR.out.seen.at.cell j x hx).2
    have HD : Hid (dataOf d.seen name = x.2) := by
      show _ = _
      rw [dataOf, if_neg (by rw [hp]; omega), hp]
      show (fileAt d.seen j).2 = _
      have := fileAt_eq d.seen j hj
      rw [hx] at this
      rw [← Option.some.inj this]
    have HE : Hid (refRead d name = (x.2, 0)) := by show _ = _; rw [refRead, if_neg (by rw [hp]; omega), HD.out]
    obtain ⟨xn, xd⟩ := x
    simp only at cd HE
    have i0 : (0 : Int) ≤ (j : Int) := by omega
    have i1 : (j : Int) < (d.seen.length : Int) := by omega
    have i2 : ¬ (j : Int) < 0 := by omega
    rw [hp]
    clear hh hx hp HD
    go_wp2
    go_ret2
    exact ⟨by rw [HE.out]; rfl, 0, rfl⟩
  · have HE : Hid (refRead d name = (⟨#[]⟩, 2)) := by show _ = _; rw [refRead, if_pos hp]
    rw [hp]
    go_wp2
    go_ret2
    exact ⟨by rw [HE.out]; rfl, 0, rfl⟩

set_option maxHeartbeats 2000000 in
theorem bound_any (n : Int) (w : World) : Calls Tryz.prog 131 #[.int .i64 n] w fun e w' => e = .returned (.int .i64 (min (max n 0) 65536)) ∧ w' = w := by
  go_enter Tryz.func131, Tryz.ntmps131
  by_cases h1 : n < 0
  · have e : min (max n 0) 65536 = 0 := by omega
    rw [e]
    go_wp2
    go_ret
    exact ⟨rfl, rfl⟩
  · by_cases h2 : 65536 < n
    · have e : min (max n 0) 65536 = 65536 := by omega
      rw [e]
      go_wp2
      go_ret
      exact ⟨rfl, rfl⟩
    · have e : min (max n 0) 65536 = n := by omega
      rw [e]
      go_wp2
      go_ret
      exact ⟨rfl, rfl⟩

/-- A call that tells nothing. -/
def RefPost0 (w : World) (fb : Nat) (vs vn vw : Value) (d : RefD) (e : Ending) (w' : World) : Prop :=
  ∃ vs' vn' vw', e = .returned (.tuple #[]) ∧ RefAt w' fb d vs' vn' vw' ∧ Turns (RefFoot fb vs vn vw) w w' ∧ ∀ k, RefFoot fb vs' vn' vw' k → RefFoot fb vs vn vw k ∨ w.heap.size ≤ k

set_option maxHeartbeats 2000000 in
theorem refFuse_any (d : RefD) (n : Int) (fb : Nat) (vs vn vw : Value) (w : World) (h : RefAt w fb d vs vn vw) :
    Calls Tryz.prog 151 #[.pointer (some ⟨fb, 0, none⟩), .int .i64 n] w (RefPost0 w fb vs vn vw { d with lit := decide (0 < n), left := n }) := by
  have HX : Hid (RefPost0 w fb vs vn vw { d with lit := decide (0 < n), left := n } (.returned (.tuple #[])) ((w.setCell ⟨fb, 5, none⟩ (.bool (decide (0 < n)))).setCell ⟨fb, 4, none⟩ (.int .i64 n))) :=
    ⟨vs, vn, vw, rfl, (h.setLit (decide (0 < n))).setLeft n, ((Turns.refl (RefFoot fb vs vn vw) w).setCell ⟨fb, 5, none⟩ _ (Or.inl (Or.inl rfl))).setCell ⟨fb, 4, none⟩ _ (Or.inl (Or.inl rfl)), fun k hk => Or.inl hk⟩
  have c4 : w.cell? ⟨fb, 4, none⟩ = some (.int .i64 d.left) := by rw [cell_of_row _ _ _ _ _ _ h.row]; rfl
  have c5 : w.cell? ⟨fb, 5, none⟩ = some (.bool d.lit) := by rw [cell_of_row _ _ _ _ _ _ h.row]; rfl
  have f4 : w.frozen? ⟨fb, 4, none⟩ = false := frozen_of_row _ _ _ _ _ h.row
  have f5 : w.frozen? ⟨fb, 5, none⟩ = false := frozen_of_row _ _ _ _ _ h.row
  clear h
  go_enter Tryz.func151, Tryz.ntmps151
  go_wp2
  go_end0
  exact HX.out

set_option maxHeartbeats 2000000 in
theorem refRoom_any (d : RefD) (n : Int) (fb : Nat) (vs vn vw : Value) (w : World) (h : RefAt w fb d vs vn vw) :
    Calls Tryz.prog 153 #[.pointer (some ⟨fb, 0, none⟩), .int .i64 n] w (RefPost0 w fb vs vn vw { d with room := min (max n 0) 65536 }) := by
  have HX : Hid (RefPost0 w fb vs vn vw { d with room := min (max n 0) 65536 } (.returned (.tuple #[])) (w.setCell ⟨fb, 2, none⟩ (.int .i64 (min (max n 0) 65536)))) :=
    ⟨vs, vn, vw, rfl, h.setRoom _, (Turns.refl (RefFoot fb vs vn vw) w).setCell ⟨fb, 2, none⟩ _ (Or.inl (Or.inl rfl)), fun k hk => Or.inl hk⟩
  have c2 : w.cell? ⟨fb, 2, none⟩ = some (.int .i64 d.room) := by rw [cell_of_row _ _ _ _ _ _ h.row]; rfl
  have f2 : w.frozen? ⟨fb, 2, none⟩ = false := frozen_of_row _ _ _ _ _ h.row
  clear h
  go_enter Tryz.func153, Tryz.ntmps153
  go_wp2_with fail
  refine (bound_any n w).mono ?_
  rintro e w' ⟨rfl, rfl⟩
  generalize min (max n 0) 65536 = r at *
  go_wp2
  go_end0
  exact HX.out

set_option maxHeartbeats 2000000 in
theorem refNew_any (n : Int) (w : World) :
    Calls Tryz.prog 81 #[.int .i64 n] w fun e w' => e = .returned (.pointer (some ⟨w.heap.size, 0, none⟩)) ∧ RefAt w' w.heap.size ⟨[], [], min (max n 0) 65536, [], 0, false, false⟩ (.slice none 0 0) (.slice none 0 0) (.slice none 0 0) ∧ Below w.heap.size w w' := by
  have HX : Hid (∀ w' : World, w'.heap[w.heap.size]? = some (.cells #[.slice none 0 0, .slice none 0 0, .int .i64 (min (max n 0) 65536), .slice none 0 0, .int .i64 0, .bool false, .bool false] 226 (0, 0)) → RefAt w' w.heap.size ⟨[], [], min (max n 0) 65536, [], 0, false, false⟩ (.slice none 0 0) (.slice none 0 0) (.slice none 0 0)) := fun w' h =>
    ⟨h, Own2.nil _ _, Own2.nil _ _, OwnW.nil _ _, ⟨by simp [Value.ownBlock], by simp [Value.ownBlock], by simp [Value.ownBlock]⟩, fun k => ⟨fun hk => (by cases hk), fun hk => (by cases hk)⟩⟩
  go_enter Tryz.func81, Tryz.ntmps81
  go_wp2_with fail
  refine (bound_any n w).mono ?_
  rintro e w' ⟨rfl, rfl⟩
  go_wp2
  go_ret
  exact ⟨rfl, HX.out _ (heapA_new _ _ _ rfl), (Below.refl _ _).alloc (Nat.le_refl _) _⟩
end Go.Proofs.YthhbpebihgjpjaaGreatDoor

namespace Go.Proofs.YthhbpebihgjpjaaGreatDoor
open Go.RowKit
set_option maxRecDepth 1000000

/-- Another list of what is safe, in new memory. -/
theorem RefAt.newSafe {w w3 : World} {fb : Nat} {d : RefD} {vs vn vw v : Value} {l : List FileV} (h : RefAt w fb d vs vn vw) (hg : Below w.heap.size w w3) (ho : Own2 w.heap.size v l w3) (hbk : ∀ k, v.ownBlock = some k → w.heap.size ≤ k) :
    RefAt (w3.setCell ⟨fb, 0, none⟩ v) fb { d with safe := l } v vn vw ∧ Turns (RefFoot fb vs vn vw) w (w3.setCell ⟨fb, 0, none⟩ v) ∧ ∀ k, RefFoot fb v vn vw k → RefFoot fb vs vn vw k ∨ w.heap.size ≤ k := by
  have hfb := h.lt
  have hrow : w3.heap[fb]? = some (.cells (d.row vs vn vw) 226 (0, 0)) := by rw [hg.block fb hfb]; exact h.row
  have vne : v.ownBlock ≠ some fb := fun e => by have := hbk fb e; omega
  have old : ∀ k, k < w.heap.size → k ≠ fb → (w3.setCell ⟨fb, 0, none⟩ v).heap[k]? = w.heap[k]? := fun k hk hf => by
    rw [heap_setCell_other _ _ _ _ hf]; exact hg.block k hk
  refine ⟨⟨by rw [heap_setCell_same _ _ _ _ _ _ hrow]; rfl, (ho.mono (Nat.zero_le _)).keep (fun k hk => heap_setCell_other _ _ _ _ (fun e => vne (by rw [hk, e]))),
    h.seen.keep (fun k hk => old k (h.seen.lt k hk) (fun e => h.ne.2.1 (by rw [hk, e]))), h.wait.keep (fun k hk => old k (h.wait.lt k hk) (fun e => h.ne.2.2 (by rw [hk, e]))), ⟨vne, h.ne.2.1, h.ne.2.2⟩, fun k => ⟨fun hk => ⟨fun e => ?_, fun e => ?_⟩, (h.apart k).2⟩⟩, ?_, ?_⟩
  · have h1 := hbk k hk; have h2 := h.seen.lt k e; omega
  · have h1 := hbk k hk; have h2 := h.wait.lt k e; omega
  · exact ⟨hg.os, hg.output, by simpa [World.setCell] using hg.size, fun k hk hn => old k hk (fun e => hn (Or.inl e))⟩
  · rintro k (e | e | e | e)
    · exact Or.inl (Or.inl e)
    · exact Or.inr (hbk k e)
    · exact Or.inl (Or.inr (Or.inr (Or.inl e)))
    · exact Or.inl (Or.inr (Or.inr (Or.inr e)))
theorem RefAt.noWait {w : World} {fb : Nat} {d : RefD} {vs vn vw : Value} (h : RefAt w fb d vs vn vw) :
    RefAt (w.setCell ⟨fb, 3, none⟩ (.slice none 0 0)) fb { d with wait := [] } vs vn (.slice none 0 0) ∧ Turns (RefFoot fb vs vn vw) w (w.setCell ⟨fb, 3, none⟩ (.slice none 0 0)) ∧ ∀ k, RefFoot fb vs vn (.slice none 0 0) k → RefFoot fb vs vn vw k ∨ w.heap.size ≤ k :=
  h.newWait (w3 := w) ⟨rfl, rfl, rfl, Nat.le_refl _, fun _ _ _ => rfl⟩ (OwnW.nil _ _) (fun k hk => by cases hk)

def syncD (d : RefD) : Int × RefD := if (mayD d).down then (4, mayD d) else (0, { mayD d with safe := (mayD d).seen, wait := [] })

set_option maxHeartbeats 4000000 in
theorem refSync_any (d : RefD) (fb : Nat) (vs vn vw : Value) (w : World) (h : RefAt w fb d vs vn vw) (hok : RefOk d) :
    Calls Tryz.prog 150 #[.pointer (some ⟨fb, 0, none⟩)] w (RefPost w fb vs vn vw (syncD d)) := by
  have HK : Hid (RefOk d) := hok
  have HR : Hid (RefAt w fb d vs vn vw) := h
  have HML : Hid ((mayD d).seen.length ≤ 1048576) := by show _ ≤ _; rw [mayD_seen]; exact hok.seenL
  have hinf : (Tryz.prog.info? 362).map (fun i => (i.size, i.bytes, i.zero)) = some (2, 32, some (.agg #[.string ⟨#[]⟩, .string ⟨#[]⟩])) := by kernel_rfl
  obtain ⟨ti, hti, htj⟩ := Option.map_eq_some_iff.1 hinf
  simp only [Prod.mk.injEq] at htj
  have HTI : Hid (Tryz.prog.info? 362 = some ti ∧ ti.size = 2 ∧ ti.bytes = 32 ∧ ti.zero = some (.agg #[.string ⟨#[]⟩, .string ⟨#[]⟩])) := ⟨hti, htj.1, htj.2.1, htj.2.2⟩
  clear h hok hinf hti htj
  go_enter Tryz.func150, Tryz.ntmps150
  go_wp2_with fail
  refine (may_any d fb vs vn vw w HR.out HK.out.lo HK.out.hi).mono ?_
  rintro e w2 ⟨rfl, hr2, ht2⟩
  have HR2 : Hid (RefAt w2 fb (mayD d) vs vn vw) := hr2
  have HT2 : Hid (Turns (RefFoot fb vs vn vw) w w2) := ht2.mono (fun k hk => Or.inl hk)
  clear hr2 ht2 HR
  generalize hdd : mayD d = d1 at *
  by_cases hdn : d1.down = true
  · have HE : Hid (syncD d = (4, d1)) := by show _ = _; rw [syncD, hdd, if_pos hdn]
    rw [hdn]
    go_wp2
    go_ret
    exact ⟨vs, vn, vw, by rw [HE.out]; rfl, by rw [HE.out]; exact HR2.out, HT2.out, fun k hk => Or.inl hk⟩
  · have hdn2 : d1.down = false := by simpa using hdn
    have HE : Hid (syncD d = (0, { d1 with safe := d1.seen, wait := [] })) := by show _ = _; rw [syncD, hdd, if_neg hdn]
    rw [hdn2]
    have fin : ∀ (v : Value) (w3 : World), Below w2.heap.size w2 w3 → Own2 w2.heap.size v d1.seen w3 → (∀ k, v.ownBlock = some k → w2.heap.size ≤ k) → Hid (RefPost w fb vs vn vw (syncD d) (.returned (.int .i64 0)) ((w3.setCell ⟨fb, 0, none⟩ v).setCell ⟨fb, 3, none⟩ (.slice none 0 0))) := fun v w3 hb ho hbk => by
      have h1 := HR2.out.newSafe hb ho hbk
      have h2 := h1.1.noWait
      exact ⟨v, vn, .slice none 0 0, by rw [HE.out], by rw [HE.out]; exact h2.1, HT2.out.trans (h1.2.1.trans h2.2.1 (fun i hi => h1.2.2 i hi)) (fun i hi => Or.inl hi), fun k hk => by
        rcases h2.2.2 k hk with h | h
        · exact (h1.2.2 k h).imp id (Nat.le_trans HT2.out.size)
        · exact Or.inr (Nat.le_trans HT2.out.size (Nat.le_trans h1.2.1.size h))⟩
    have HFIN : Hid (∀ (v : Value) (w3 : World), Below w2.heap.size w2 w3 → Own2 w2.heap.size v d1.seen w3 → (∀ k, v.ownBlock = some k → w2.heap.size ≤ k) → Hid (RefPost w fb vs vn vw (syncD d) (.returned (.int .i64 0)) ((w3.setCell ⟨fb, 0, none⟩ v).setCell ⟨fb, 3, none⟩ (.slice none 0 0)))) := fin
    have hfb2 := HR2.out.lt
    have HROW : Hid (∀ w3 : World, Below w2.heap.size w2 w3 → w3.cell? ⟨fb, 0, none⟩ = some vs ∧ w3.frozen? ⟨fb, 0, none⟩ = false ∧ w3.cell? ⟨fb, 3, none⟩ = some vw ∧ w3.frozen? ⟨fb, 3, none⟩ = false) := fun w3 hb => by
      have hr : w3.heap[fb]? = some (.cells (d1.row vs vn vw) 226 (0, 0)) := by rw [hb.block fb hfb2]; exact HR2.out.row
      exact ⟨by rw [cell_of_row _ _ _ _ _ _ hr]; rfl, frozen_of_row _ _ _ _ _ hr, by rw [cell_of_row _ _ _ _ _ _ hr]; rfl, frozen_of_row _ _ _ _ _ hr⟩
    clear fin
    obtain ⟨as0, cs0, hfs⟩ := HR2.out.safe.form
    obtain ⟨aw, cw, hfw⟩ := HR2.out.wait.form
    obtain ⟨an, cn, hform⟩ := HR2.out.seen.form
    subst hform hfs hfw
    have c1 : w2.cell? ⟨fb, 1, none⟩ = some (.slice an d1.seen.length cn) := by rw [cell_of_row _ _ _ _ _ _ HR2.out.row]; rfl
    have c1a : ∀ o, (w2.alloc o).cell? ⟨fb, 1, none⟩ = some (.slice an d1.seen.length cn) := fun o => by rw [World.cell?_alloc_lt _ _ ⟨fb, 1, none⟩ hfb2]; exact c1
    have HBA : Hid (Below w2.heap.size w2 (w2.alloc (.cells #[] 362))) := (Below.refl _ _).alloc (Nat.le_refl _) _
    obtain ⟨_, ⟨hnil, h0⟩ | ⟨g, cap', cur, hsl, _, hh, _, _, _, htk⟩⟩ := HR2.out.seen.own
    · have hl0 : d1.seen = [] := List.eq_nil_of_length_eq_zero h0
      injection hnil with q1 q2 q3
      subst q1 q3
      rw [h0] at c1 c1a
      have HX : Hid (RefPost w fb (.slice as0 d1.safe.length cs0) (.slice none d1.seen.length 0) (.slice aw d1.wait.length cw) (syncD d) (.returned (.int .i64 0)) (((w2.alloc (.cells #[] 362)).setCell ⟨fb, 0, none⟩ (.slice (some ⟨w2.heap.size, 0, none⟩) 0 0)).setCell ⟨fb, 3, none⟩ (.slice none 0 0))) := (HFIN.out (.slice (some ⟨w2.heap.size, 0, none⟩) 0 0) _ HBA.out ⟨by rw [hl0]; exact ⟨rfl, Or.inr ⟨w2.heap.size, 0, #[], rfl, Nat.le_refl _, heapA_new _ _ _ rfl, Nat.le_refl _, Nat.zero_le _, rfl, rfl⟩⟩⟩ (fun k hk => by have e : w2.heap.size = k := Option.some.inj hk; omega)).out
      have HOW : Hid ((w2.alloc (.cells #[] 362)).ownsRow w2.heap.size 362 2 (.slice (some ⟨w2.heap.size, 0, none⟩) 0 0) 0 []) := ⟨rfl, Or.inr ⟨w2.heap.size, 0, #[], rfl, Nat.le_refl _, heapA_new _ _ _ rfl, Nat.le_refl _, Nat.zero_le _, rfl, rfl⟩⟩
      obtain ⟨z1, z2, z3, z4⟩ := HROW.out _ HBA.out
      clear HFIN HROW HBA h0 hl0 q2
      go_wp2_with (refine wpList_append_own_none rfl (.tmp 9) (.tmp 13) 223 rfl w2.heap.size 362 ti 2 Tryz.underlying223 HTI.out.1 _ 0 [] rfl (by exact HOW.out) rfl ?_; refine Hid.out ?_)
      clear c1a HOW
      generalize w2.alloc (.cells #[] 362) = w5 at z1 z2 z3 z4 HX ⊢
      unfold Hid
      go_wp2
      go_ret
      exact HX.out
    · injection hsl with q1 q2 q3
      subst q1 q3
      have hml := HML.out
      have HNW : Hid (∀ (o : Obj) (j : Nat) u, (fcells d1.seen)[j]? = some u → (w2.alloc o).cell? ((⟨g, 0, none⟩ : Addr).add j) = some u) := by
        intro o j u hu
        have hadd : (⟨g, 0, none⟩ : Addr).add j = ⟨g, j, none⟩ := by unfold Addr.add; split <;> simp_all
        have hj : j < d1.seen.length * 2 := by rw [← fcells_length]; exact (List.getElem?_eq_some_iff.1 hu).1
        have hc : w2.cell? ⟨g, j, none⟩ = some u := by rw [cell_of_row _ _ _ _ _ _ hh, take_at htk j hj]; exact hu
        rw [hadd, World.cell?_alloc_lt _ _ ⟨g, j, none⟩ (block_lt_of_cell hc)]; exact hc
      have HONE : Hid (∀ u ∈ fcells d1.seen, u.oneCell' = true) := by
        intro u hu
        simp only [fcells, List.mem_flatMap] at hu
        obtain ⟨x, _, hx⟩ := hu
        simp at hx
        rcases hx with rfl | rfl <;> rfl
      clear hh htk
      go_wp2_with (refine wpList_append_own _ rfl (.tmp 9) (.tmp 13) 223 rfl w2.heap.size 362 ti (.agg #[.string ⟨#[]⟩, .string ⟨#[]⟩]) 2 32 Tryz.underlying223 HTI.out.1 HTI.out.2.2.2 HTI.out.2.1 HTI.out.2.2.1 rfl (by decide) _ 0 [] rfl (by exact ⟨rfl, Or.inr ⟨w2.heap.size, 0, #[], rfl, Nat.le_refl _, heapA_new _ _ _ rfl, Nat.le_refl _, Nat.zero_le _, rfl, rfl⟩⟩) ⟨g, 0, none⟩ d1.seen.length cn (fcells d1.seen) rfl (fcells_length _) (by exact HNW.out _) (by exact HONE.out) (by unfold maxLen; omega) (by omega) (by simp) ?_; intro v5 w5 hv5 hg5 hn5; refine Hid.out ?_)
      have HB5 : Hid (Below w2.heap.size w2 w5) := HBA.out.grown hg5 (by simp) (fun k hk => by have h : w2.heap.size = k := Option.some.inj hk; omega)
      have HO5 : Hid (Own2 w2.heap.size v5 d1.seen w5) := ⟨by have := hv5; rw [Nat.zero_add] at this; exact this⟩
      obtain ⟨a5, c5, hf5⟩ := HO5.out.form
      subst hf5
      have HX := HFIN.out _ _ HB5.out HO5.out (fun k hk => HO5.out.block k hk)
      obtain ⟨z1, z2, z3, z4⟩ := HROW.out _ HB5.out
      clear HFIN HROW HBA HNW HONE hv5 hg5 hn5 HB5 HO5 c1a
      unfold Hid
      go_wp2
      go_ret
      exact HX.out
end Go.Proofs.YthhbpebihgjpjaaGreatDoor
