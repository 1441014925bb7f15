import Derived.Test.YthhbpebihgjpjaaGreatDoorJ06
import Derived.Deep.RegionWith
import Derived.Deep.RegionLaw
namespace Go.Proofs.YthhbpebihgjpjaaGreatDoor
open Go.RowKit
set_option maxRecDepth 1000000

def doD (d : RefD) (o : WaitV) : Int × RefD := if (mayD d).down then (4, mayD d) else (0, { mayD d with seen := applyL (mayD d).seen o, wait := (mayD d).wait ++ [o] })
theorem RefAt.later {w w' : World} {fb : Nat} {d : RefD} {vs vn vw : Value} (h : RefAt w fb d vs vn vw) (hb : ∀ k, k < w.heap.size → w'.heap[k]? = w.heap[k]?) : RefAt w' fb d vs vn vw :=
  ⟨by rw [hb fb h.lt]; exact h.row, h.safe.later hb, h.seen.later hb, h.wait.keep (fun k hk => hb k (h.wait.lt k hk)), h.ne, h.apart⟩
theorem mayD_seen (d : RefD) : (mayD d).seen = d.seen := by unfold mayD; split <;> rfl
theorem mayD_wait (d : RefD) : (mayD d).wait = d.wait := by unfold mayD; split <;> rfl

set_option maxHeartbeats 4000000 in
theorem do_any (d : RefD) (o : WaitV) (fb : Nat) (vs vn vw : Value) (w : World) (h : RefAt w fb d vs vn vw) (hlo : d.lit = true → -4611686018427387904 ≤ d.left) (hhi : d.left ≤ 9223372036854775807)
    (hl : d.seen.length ≤ 1099511627776) (hwl : d.wait.length ≤ 1099511627776) (hk : 1 ≤ o.kind ∧ o.kind ≤ 4) (h3 : o.kind = 3 → posIn d.seen o.name ≠ -1) (hd : o.data.size ≤ 1099511627776) (hold : (dataOf d.seen o.name).size ≤ 1099511627776) :
    Calls Tryz.prog 228 #[.pointer (some ⟨fb, 0, none⟩), .agg #[.int .i64 o.kind, .string o.name, .string o.data]] w fun e w' => ∃ vn' vw', e = .returned (.int .i64 (doD d o).1) ∧ RefAt w' fb (doD d o).2 vs vn' vw' ∧ Turns (RefFoot fb vs vn vw) w w' ∧ ∀ k, RefFoot fb vs vn' vw' k → RefFoot fb vs vn vw k ∨ w.heap.size ≤ k := by
  obtain ⟨kd, nm, dt⟩ := o
  simp only at hk h3 hd hold
  have HR : Hid (RefAt w fb d vs vn vw) := h
  have hfb := h.lt
  have HFN : Hid (¬ RefFoot fb vs vn vw w.heap.size) := by
    rintro (e | e | e | e)
    · omega
    · have := h.safe.lt _ e; omega
    · have := h.seen.lt _ e; omega
    · have := h.wait.lt _ e; omega
  have HS : Hid ((mayD d).seen = d.seen ∧ (mayD d).wait = d.wait) := ⟨mayD_seen d, mayD_wait d⟩
  have HH : Hid ((kd = 3 → posIn d.seen nm ≠ -1) ∧ d.seen.length ≤ 1099511627776 ∧ d.wait.length ≤ 1099511627776 ∧ (dataOf d.seen nm).size ≤ 1099511627776) := ⟨h3, hl, hwl, hold⟩
  have hinf : (Tryz.prog.info? 365).map (fun i => (i.size, i.bytes, i.zero)) = some (3, 40, some (.agg #[.int .i64 0, .string ⟨#[]⟩, .string ⟨#[]⟩])) := by kernel_rfl
  obtain ⟨ti, hti, htj⟩ := Option.map_eq_some_iff.1 hinf
  simp only [Prod.mk.injEq] at htj
  have HTI : Hid (Tryz.prog.info? 365 = some ti ∧ ti.size = 3 ∧ ti.bytes = 40 ∧ ti.zero = some (.agg #[.int .i64 0, .string ⟨#[]⟩, .string ⟨#[]⟩])) := ⟨hti, htj.1, htj.2.1, htj.2.2⟩
  clear h h3 hl hwl hold hinf hti htj
  go_enter Tryz.func228, Tryz.ntmps228
  go_wp2_with fail
  have HB1 : Hid (Below w.heap.size w (w.alloc (.cells #[.int .i64 kd, .string nm, .string dt] 365))) := (Below.refl _ _).alloc (Nat.le_refl _) _
  have HR1 : Hid (RefAt (w.alloc (.cells #[.int .i64 kd, .string nm, .string dt] 365)) fb d vs vn vw) := HR.out.later (fun k hk => heapA_old w _ k hk)
  have HC : Hid ((w.alloc (.cells #[.int .i64 kd, .string nm, .string dt] 365)).heap[w.heap.size]? = some (.cells #[.int .i64 kd, .string nm, .string dt] 365 (0, 0))) := heapA_new _ _ _ rfl
  have hsz : (w.alloc (.cells #[.int .i64 kd, .string nm, .string dt] 365)).heap.size = w.heap.size + 1 := World.size_alloc _ _
  generalize w.alloc (.cells #[.int .i64 kd, .string nm, .string dt] 365) = W1 at *
  refine (may_any d fb vs vn vw W1 HR1.out hlo hhi).mono ?_
  rintro e w2 ⟨rfl, hr2, ht2⟩
  have HR2 : Hid (RefAt w2 fb (mayD d) vs vn vw) := hr2
  have HT2 : Hid (Turns (RefFoot fb vs vn vw) w w2) := (Turns.of_below _ HB1.out).trans ht2 (fun i hi => Or.inl (Or.inl hi))
  have HC2 : Hid (w2.heap[w.heap.size]? = some (.cells #[.int .i64 kd, .string nm, .string dt] 365 (0, 0))) := by show _ = _; rw [ht2.block _ (by omega) (by omega)]; exact HC.out
  clear hr2 ht2 HR HB1 HR1 HC
  generalize hdd : mayD d = d1 at *
  by_cases hdn : d1.down = true
  · have HE : Hid (doD d ⟨kd, nm, dt⟩ = (4, d1)) := by show _ = _; rw [doD, hdd, if_pos hdn]
    rw [hdn]
    go_wp2
    go_ret
    exact ⟨vn, vw, by rw [HE.out]; rfl, by rw [HE.out]; exact HR2.out, HT2.out, fun k hk => Or.inl hk⟩
  · have hdn2 : d1.down = false := by simpa using hdn
    have HE : Hid (doD d ⟨kd, nm, dt⟩ = (0, { d1 with seen := applyL d1.seen ⟨kd, nm, dt⟩, wait := d1.wait ++ [⟨kd, nm, dt⟩] })) := by show _ = _; rw [doD, hdd, if_neg hdn]
    rw [hdn2]
    obtain ⟨an, cn, hform⟩ := HR2.out.seen.form
    subst hform
    obtain ⟨aw, cw, hform⟩ := HR2.out.wait.form
    subst hform
    have c1 : w2.cell? ⟨fb, 1, none⟩ = some (.slice an d1.seen.length cn) := by rw [cell_of_row _ _ _ _ _ _ HR2.out.row]; rfl
    have f1 : w2.frozen? ⟨fb, 1, none⟩ = false := frozen_of_row _ _ _ _ _ HR2.out.row
    have o0 : w2.cell? ⟨w.heap.size, 0, none⟩ = some (.int .i64 kd) := by rw [cell_of_row _ _ _ _ _ _ HC2.out]; rfl
    have o1 : w2.cell? ⟨w.heap.size, 1, none⟩ = some (.string nm) := by rw [cell_of_row _ _ _ _ _ _ HC2.out]; rfl
    have o2 : w2.cell? ⟨w.heap.size, 2, none⟩ = some (.string dt) := by rw [cell_of_row _ _ _ _ _ _ HC2.out]; rfl
    have nfb : some fb ≠ (Value.slice an d1.seen.length cn).ownBlock := fun e => HR2.out.ne.2.1 e.symm
    have hfb2 : fb < w2.heap.size := HR2.out.lt
    go_wp2_with fail
    go_region_with (go_at_call 231; refine (apply_any d1.seen ⟨kd, nm, dt⟩ 0 an cn ?_ _ ?_ ?_ hk ?_ hd ?_).mono ?_; exact (by rw [HS.out.1]; exact HH.out.2.1); exact HR2.out.seen.later (fun _ _ => rfl); exact Nat.zero_le _; exact (by rw [HS.out.1]; exact HH.out.1); exact (by rw [HS.out.1]; exact HH.out.2.2.2); rintro e w3 ⟨v, rfl, ho3, hg3, hl3⟩; obtain ⟨a3, c3, hf3⟩ := ho3.form; subst hf3; have hrow3 : w3.heap[fb]? = w2.heap[fb]? := hg3.block fb hfb2 nfb; have c13 : w3.cell? ⟨fb, 1, none⟩ = some (.slice an d1.seen.length cn) := (World.cell?_of_block (w := w2) (a := ⟨fb, 1, none⟩) hrow3).trans c1; have f13 : w3.frozen? ⟨fb, 1, none⟩ = false := (World.frozen?_of_block (w := w2) (a := ⟨fb, 1, none⟩) hrow3).trans f1)
    all_goals
      have hns := HR2.out.newSeen (w3 := w3) ⟨hg3.os, hg3.tape, hg3.output, hg3.size, hg3.block⟩ ho3 hl3
      clear ho3 hg3 hl3 hrow3 c13 f13
      generalize applyL d1.seen ⟨kd, nm, dt⟩ = L5 at *
      have HC5 : Hid ((w3.setCell ⟨fb, 1, none⟩ (.slice a3 L5.length c3)).heap[w.heap.size]? = some (.cells #[.int .i64 kd, .string nm, .string dt] 365 (0, 0))) := by show _ = _; rw [hns.2.1.block _ (by have := HT2.out.size; exact block_lt_of_cell o0) HFN.out]; exact HC2.out
      have HR5 : Hid (RefAt (w3.setCell ⟨fb, 1, none⟩ (.slice a3 L5.length c3)) fb { d1 with seen := L5 } vs (.slice a3 L5.length c3) (.slice aw d1.wait.length cw)) := hns.1
      have HT5 : Hid (Turns (RefFoot fb vs (.slice an d1.seen.length cn) (.slice aw d1.wait.length cw)) w (w3.setCell ⟨fb, 1, none⟩ (.slice a3 L5.length c3))) := HT2.out.trans hns.2.1 (fun i hi => Or.inl hi)
      have HF5 : Hid (∀ k, RefFoot fb vs (.slice a3 L5.length c3) (.slice aw d1.wait.length cw) k → RefFoot fb vs (.slice an d1.seen.length cn) (.slice aw d1.wait.length cw) k ∨ w.heap.size ≤ k) := fun k hk => (hns.2.2 k hk).imp id (Nat.le_trans HT2.out.size)
      clear hns c1 f1 o0 o1 o2
      go_wp2_with fail
      generalize w3.setCell ⟨fb, 1, none⟩ (.slice a3 L5.length c3) = w5 at *
      have c3w : w5.cell? ⟨fb, 3, none⟩ = some (.slice aw d1.wait.length cw) := by rw [cell_of_row _ _ _ _ _ _ HR5.out.row]; rfl
      have f3w : w5.frozen? ⟨fb, 3, none⟩ = false := frozen_of_row _ _ _ _ _ HR5.out.row
      have p0 : w5.cell? ⟨w.heap.size, 0, none⟩ = some (.int .i64 kd) := by rw [cell_of_row _ _ _ _ _ _ HC5.out]; rfl
      have p1 : w5.cell? ⟨w.heap.size, 1, none⟩ = some (.string nm) := by rw [cell_of_row _ _ _ _ _ _ HC5.out]; rfl
      have p2 : w5.cell? ⟨w.heap.size, 2, none⟩ = some (.string dt) := by rw [cell_of_row _ _ _ _ _ _ HC5.out]; rfl
      have nfb5 : some fb ≠ (Value.slice aw d1.wait.length cw).ownBlock := fun e => HR5.out.ne.2.2 e.symm
      have hfb5 : fb < w5.heap.size := HR5.out.lt
      have hop5 : w.heap.size < w5.heap.size := block_lt_of_cell p0
      go_region_law (refine step_append_lies _ rfl (.tmp 23) (.tmp 25) 224 rfl 0 365 ti (.agg #[.int .i64 0, .string ⟨#[]⟩, .string ⟨#[]⟩]) 3 40 Tryz.underlying224 HTI.out.1 HTI.out.2.2.2 HTI.out.2.1 HTI.out.2.2.1 rfl (by decide) _ d1.wait.length (wcells d1.wait) rfl (by exact (HR5.out.wait.keep (fun k hk => heapA_old w5.drew _ k (HR5.out.wait.lt k hk))).own) ⟨w5.heap.size, 0, none⟩ 1 1 [.int .i64 kd, .string nm, .string dt] rfl rfl (by exact new_cells w5.drew _ _) (by intro u hu; simp at hu; rcases hu with rfl | rfl | rfl <;> rfl) (by decide) (by have := HH.out.2.2.1; rw [HS.out.2]; unfold maxLen; omega) (by have := HH.out.2.2.1; rw [HS.out.2]; omega) (Nat.zero_le _) _ rfl ?_; intro g6 cap6 w6 hv6 hg6 hat6 hlt6; have hrow6 : w6.heap[fb]? = w5.heap[fb]? := (hg6.block fb (by simp; omega) nfb5).trans (heapA_old w5.drew _ fb hfb5); have c36 : w6.cell? ⟨fb, 3, none⟩ = some (.slice aw d1.wait.length cw) := (World.cell?_of_block (w := w5) (a := ⟨fb, 3, none⟩) hrow6).trans c3w; have f36 : w6.frozen? ⟨fb, 3, none⟩ = false := (World.frozen?_of_block (w := w5) (a := ⟨fb, 3, none⟩) hrow6).trans f3w)
      all_goals
        have hnw := HR5.out.newWait (w3 := w6) (v := .slice (some ⟨g6, 0, none⟩) (d1.wait.length + 1) cap6) (l := d1.wait ++ [⟨kd, nm, dt⟩]) ⟨hg6.os, hg6.tape, hg6.output, by have := hg6.size; simp at this; omega, fun k hk hne => (hg6.block k (by simp; omega) hne).trans (heapA_old w5.drew _ k hk)⟩ ⟨by rw [List.length_append, wcells_append]; exact hv6⟩ (fun k hk => by
          have e : g6 = k := Option.some.inj hk
          subst e
          rcases hat6 with h | h
          · exact Or.inl h
          · right; rw [h]; simp)
        have HR7 : Hid (RefAt (w6.setCell ⟨fb, 3, none⟩ (.slice (some ⟨g6, 0, none⟩) (d1.wait.length + 1) cap6)) fb { d1 with seen := L5, wait := d1.wait ++ [⟨kd, nm, dt⟩] } vs (.slice a3 L5.length c3) (.slice (some ⟨g6, 0, none⟩) (d1.wait.length + 1) cap6)) := hnw.1
        have HT7 : Hid (Turns (RefFoot fb vs (.slice an d1.seen.length cn) (.slice aw d1.wait.length cw)) w (w6.setCell ⟨fb, 3, none⟩ (.slice (some ⟨g6, 0, none⟩) (d1.wait.length + 1) cap6))) := HT5.out.trans hnw.2.1 (fun i hi => HF5.out i hi)
        have HF7 : Hid (∀ k, RefFoot fb vs (.slice a3 L5.length c3) (.slice (some ⟨g6, 0, none⟩) (d1.wait.length + 1) cap6) k → RefFoot fb vs (.slice an d1.seen.length cn) (.slice aw d1.wait.length cw) k ∨ w.heap.size ≤ k) := fun k hk => by
          rcases hnw.2.2 k hk with h | h
          · exact HF5.out k h
          · exact Or.inr (Nat.le_trans HT5.out.size h)
        clear hnw hv6 hg6 hat6 hlt6 hrow6 c36 f36
        generalize w6.setCell ⟨fb, 3, none⟩ (.slice (some ⟨g6, 0, none⟩) (d1.wait.length + 1) cap6) = w7 at *
        go_wp2
        go_ret
        exact ⟨_, _, by rw [HE.out]; rfl, by rw [HE.out]; exact HR7.out, HT7.out, HF7.out⟩
end Go.Proofs.YthhbpebihgjpjaaGreatDoor

namespace Go.Proofs.YthhbpebihgjpjaaGreatDoor
open Go.RowKit
set_option maxRecDepth 1000000

/-- Nothing is too great. -/
structure RefOk (d : RefD) : Prop where
  seenL : d.seen.length ≤ 1048576
  waitL : d.wait.length ≤ 1048576
  sizes : ∀ i, (fileAt d.seen i).2.size ≤ 1099511627776
  lo : d.lit = true → -4611686018427387904 ≤ d.left
  hi : d.left ≤ 9223372036854775807
theorem RefOk.data {d : RefD} (h : RefOk d) (name : ByteArray) : (dataOf d.seen name).size ≤ 1099511627776 := by
  unfold dataOf
  split
  · decide
  · exact h.sizes _
/-- What a call on the document's files leaves. -/
def RefPost (w : World) (fb : Nat) (vs vn vw : Value) (r : Int × RefD) (e : Ending) (w' : World) : Prop :=
  ∃ vs' vn' vw', e = .returned (.int .i64 r.1) ∧ RefAt w' fb r.2 vs' vn' vw' ∧ Turns (RefFoot fb vs vn vw) w w' ∧ ∀ k, RefFoot fb vs' vn' vw' k → RefFoot fb vs vn vw k ∨ w.heap.size ≤ k

theorem do_post (d : RefD) (o : WaitV) (fb : Nat) (vs vn vw : Value) (w : World) (h : RefAt w fb d vs vn vw) (hok : RefOk d) (hk : 1 ≤ o.kind ∧ o.kind ≤ 4) (h3 : o.kind = 3 → posIn d.seen o.name ≠ -1) (hd : o.data.size ≤ 1099511627776) :
    Calls Tryz.prog 228 #[.pointer (some ⟨fb, 0, none⟩), .agg #[.int .i64 o.kind, .string o.name, .string o.data]] w (RefPost w fb vs vn vw (doD d o)) :=
  (do_any d o fb vs vn vw w h hok.lo hok.hi (by have := hok.seenL; omega) (by have := hok.waitL; omega) hk h3 hd (hok.data _)).mono (fun e w' ⟨vn', vw', h1, h2, h3, h4⟩ => ⟨vs, vn', vw', h1, h2, h3, h4⟩)

def refWrite (d : RefD) (name data : ByteArray) : Int × RefD :=
  if named name = false then (1, d)
  else if moreD d ((data.size : Int) - ((dataOf d.seen name).size : Int)) then (3, d)
  else doD d ⟨1, name, data⟩

set_option maxHeartbeats 4000000 in
theorem refWrite_any (d : RefD) (name data : ByteArray) (fb : Nat) (vs vn vw : Value) (w : World) (h : RefAt w fb d vs vn vw) (hok : RefOk d) (hn : name.size ≤ 140737488351232) (hd : data.size ≤ 140737488351232) (hfit : moreD d ((data.size : Int) - ((dataOf d.seen name).size : Int)) = false → data.size ≤ 1099511627776) :
    Calls Tryz.prog 143 #[.pointer (some ⟨fb, 0, none⟩), .string name, .string data] w (RefPost w fb vs vn vw (refWrite d name data)) := by
  have HR : Hid (RefAt w fb d vs vn vw) := h
  have HFIT : Hid (moreD d ((data.size : Int) - ((dataOf d.seen name).size : Int)) = false → data.size ≤ 1099511627776) := hfit
  clear hfit
  have HK : Hid (RefOk d) := hok
  obtain ⟨an, cn, hform⟩ := h.seen.form
  subst hform
  have c1 : w.cell? ⟨fb, 1, none⟩ = some (.slice an d.seen.length cn) := by rw [cell_of_row _ _ _ _ _ _ h.row]; rfl
  clear h hok
  go_enter Tryz.func143, Tryz.ntmps143
  go_wp2_with fail
  refine (named_any name hn w).mono ?_
  rintro e w' ⟨rfl, rfl⟩
  by_cases hnm : named name = true
  · rw [hnm]
    have d1 : (data.size : Int) ≤ 140737488351232 := by omega
    go_wp2_with fail
    refine (at_any d.seen name an cn (by have := HK.out.seenL; omega) w' HR.out.seen.at).mono ?_
    rintro e w'' ⟨rfl, rfl⟩
    have key : ∀ n : Int, n = (data.size : Int) - ((dataOf d.seen name).size : Int) → Hid (-1099511627776 ≤ n ∧ n ≤ 140737488351232 ∧ refWrite d name data = (if moreD d n then (3, d) else doD d ⟨1, name, data⟩) ∧ (moreD d n = false → data.size ≤ 1099511627776)) := fun n hn => by
      have := HK.out.data name
      refine ⟨by omega, by omega, ?_, fun hq => HFIT.out (by rw [← hn]; exact hq)⟩
      rw [refWrite, hnm, if_neg (by simp), hn]
    rcases posIn_cases d.seen name with ⟨j, x, hp, hx, hne⟩ | ⟨hp, hnone⟩
    · have hj : j < d.seen.length := (List.getElem?_eq_some_iff.1 hx).1
      obtain ⟨g, cur, rfl, _, hg, hh, _⟩ := HR.out.seen.row (by omega)
      have cd := (HR.out.seen.at.cell j x hx).2
      have HD : Hid (dataOf d.seen name = x.2) := by
        show _ = _
        rw [dataOf, if_neg (by rw [hp]; omega), hp]
        show (fileAt d.seen j).2 = _
        have := fileAt_eq d.seen j hj
        rw [hx] at this
        rw [← Option.some.inj this]
      have hz : x.2.size ≤ 1099511627776 := by rw [← HD.out]; exact HK.out.data name
      have k1 := key ((data.size : Int) - (x.2.size : Int)) (by rw [HD.out])
      obtain ⟨xn, xd⟩ := x
      simp only at cd hz k1
      have z1 : (xd.size : Int) ≤ 1099511627776 := by omega
      have i0 : (0 : Int) ≤ (j : Int) := by omega
      have i1 : (j : Int) < (d.seen.length : Int) := by omega
      have i2 : (d.seen.length : Int) ≤ 1048576 := by have := HK.out.seenL; omega
      rw [hp]
      clear hh hx hp key HD
      go_wp2_with fail
      refine (more_any d _ fb vs _ vw w'' HR.out ⟨k1.out.1, k1.out.2.1⟩ HK.out.seenL HK.out.sizes).mono ?_
      rintro e w3 ⟨rfl, rfl⟩
      have HE := k1.out.2.2.1
      have HBD : Hid (moreD d ((data.size : Int) - (xd.size : Int)) = false → data.size ≤ 1099511627776) := k1.out.2.2.2
      have HE2 : Hid (refWrite d name data = if moreD d ((data.size : Int) - (xd.size : Int)) then (3, d) else doD d ⟨1, name, data⟩) := HE
      clear HE k1
      generalize moreD d ((data.size : Int) - (xd.size : Int)) = mo at *
      cases mo
      · have HE2 : Hid (refWrite d name data = doD d ⟨1, name, data⟩) := HE2.out
        have hbd : data.size ≤ 1099511627776 := HBD.out rfl
        clear HBD
        go_wp2_with fail
        refine (do_post d ⟨1, name, data⟩ fb vs _ vw w3 HR.out HK.out (by simp) (by simp) hbd).mono ?_
        rintro e w4 ⟨vs', vn', vw', rfl, hr4, ht4, hf4⟩
        have HX : Hid (RefPost w3 fb vs (.slice (some ⟨g, 0, none⟩) d.seen.length cn) vw (refWrite d name data) (.returned (.int .i64 (doD d ⟨1, name, data⟩).1)) w4) := ⟨vs', vn', vw', by rw [HE2.out], by rw [HE2.out]; exact hr4, ht4, hf4⟩
        clear hr4 ht4 hf4
        generalize (doD d ⟨1, name, data⟩).1 = code at *
        go_wp2
        go_ret
        exact HX.out
      · go_wp2
        go_ret
        exact ⟨_, _, _, by rw [HE2.out]; rfl, by rw [HE2.out]; exact HR.out, Turns.refl _ _, fun k hk => Or.inl hk⟩
    · have k1 := key (data.size : Int) (by rw [dataOf, if_pos hp]; show (data.size : Int) = (data.size : Int) - ((0 : Nat) : Int); omega)
      rw [hp]
      clear hp key
      go_wp2_with fail
      refine (more_any d _ fb vs _ vw w'' HR.out ⟨k1.out.1, k1.out.2.1⟩ HK.out.seenL HK.out.sizes).mono ?_
      rintro e w3 ⟨rfl, rfl⟩
      have HE2 : Hid (refWrite d name data = if moreD d (data.size : Int) then (3, d) else doD d ⟨1, name, data⟩) := k1.out.2.2.1
      have HBD : Hid (moreD d (data.size : Int) = false → data.size ≤ 1099511627776) := k1.out.2.2.2
      clear k1
      generalize moreD d (data.size : Int) = mo at *
      cases mo
      · have HE2 : Hid (refWrite d name data = doD d ⟨1, name, data⟩) := HE2.out
        have hbd : data.size ≤ 1099511627776 := HBD.out rfl
        clear HBD
        go_wp2_with fail
        refine (do_post d ⟨1, name, data⟩ fb vs _ vw w3 HR.out HK.out (by simp) (by simp) hbd).mono ?_
        rintro e w4 ⟨vs', vn', vw', rfl, hr4, ht4, hf4⟩
        have HX : Hid (RefPost w3 fb vs (.slice an d.seen.length cn) vw (refWrite d name data) (.returned (.int .i64 (doD d ⟨1, name, data⟩).1)) w4) := ⟨vs', vn', vw', by rw [HE2.out], by rw [HE2.out]; exact hr4, ht4, hf4⟩
        clear hr4 ht4 hf4
        generalize (doD d ⟨1, name, data⟩).1 = code at *
        go_wp2
        go_ret
        exact HX.out
      · go_wp2
        go_ret
        exact ⟨_, _, _, by rw [HE2.out]; rfl, by rw [HE2.out]; exact HR.out, Turns.refl _ _, fun k hk => Or.inl hk⟩
  · have hnm2 : named name = false := by simpa using hnm
    have HE : Hid (refWrite d name data = (1, d)) := by show _ = _; rw [refWrite, if_pos hnm2]
    rw [hnm2]
    go_wp2
    go_ret
    exact ⟨_, _, _, by rw [HE.out]; rfl, by rw [HE.out]; exact HR.out, Turns.refl _ _, fun k hk => Or.inl hk⟩

def refAppend (d : RefD) (name data : ByteArray) : Int × RefD :=
  if named name = false then (1, d) else if moreD d (data.size : Int) then (3, d) else doD d ⟨2, name, data⟩

set_option maxHeartbeats 4000000 in
theorem refAppend_any (d : RefD) (name data : ByteArray) (fb : Nat) (vs vn vw : Value) (w : World) (h : RefAt w fb d vs vn vw) (hok : RefOk d) (hn : name.size ≤ 140737488351232) (hd : data.size ≤ 140737488351232) (hfit : moreD d (data.size : Int) = false → data.size ≤ 1099511627776) :
    Calls Tryz.prog 145 #[.pointer (some ⟨fb, 0, none⟩), .string name, .string data] w (RefPost w fb vs vn vw (refAppend d name data)) := by
  have HR : Hid (RefAt w fb d vs vn vw) := h
  have HBD : Hid (moreD d (data.size : Int) = false → data.size ≤ 1099511627776) := hfit
  clear hfit
  have HK : Hid (RefOk d) := hok
  have d1 : (data.size : Int) ≤ 140737488351232 := by omega
  clear h hok
  go_enter Tryz.func145, Tryz.ntmps145
  go_wp2_with fail
  refine (named_any name hn w).mono ?_
  rintro e w' ⟨rfl, rfl⟩
  by_cases hnm : named name = true
  · have HE : Hid (refAppend d name data = if moreD d (data.size : Int) then (3, d) else doD d ⟨2, name, data⟩) := by show _ = _; rw [refAppend, hnm, if_neg (by simp)]
    rw [hnm]
    go_wp2_with fail
    refine (more_any d _ fb vs _ vw w' HR.out ⟨by omega, by omega⟩ HK.out.seenL HK.out.sizes).mono ?_
    rintro e w3 ⟨rfl, rfl⟩
    generalize moreD d (data.size : Int) = mo at *
    cases mo
    · have HE2 : Hid (refAppend d name data = doD d ⟨2, name, data⟩) := HE.out
      have hbd : data.size ≤ 1099511627776 := HBD.out rfl
      clear HBD
      go_wp2_with fail
      refine (do_post d ⟨2, name, data⟩ fb vs _ vw w3 HR.out HK.out (by simp) (by simp) hbd).mono ?_
      rintro e w4 ⟨vs', vn', vw', rfl, hr4, ht4, hf4⟩
      have HX : Hid (RefPost w3 fb vs vn vw (refAppend d name data) (.returned (.int .i64 (doD d ⟨2, name, data⟩).1)) w4) := ⟨vs', vn', vw', by rw [HE2.out], by rw [HE2.out]; exact hr4, ht4, hf4⟩
      clear hr4 ht4 hf4
      generalize (doD d ⟨2, name, data⟩).1 = code at *
      go_wp2
      go_ret
      exact HX.out
    · go_wp2
      go_ret
      exact ⟨_, _, _, by rw [HE.out]; rfl, by rw [HE.out]; exact HR.out, Turns.refl _ _, fun k hk => Or.inl hk⟩
  · have hnm2 : named name = false := by simpa using hnm
    have HE : Hid (refAppend d name data = (1, d)) := by show _ = _; rw [refAppend, if_pos hnm2]
    rw [hnm2]
    go_wp2
    go_ret
    exact ⟨_, _, _, by rw [HE.out]; rfl, by rw [HE.out]; exact HR.out, Turns.refl _ _, fun k hk => Or.inl hk⟩

def refRemove (d : RefD) (name : ByteArray) : Int × RefD :=
  if named name = false then (1, d) else if posIn d.seen name = -1 then (2, d) else doD d ⟨4, name, ⟨#[]⟩⟩

set_option maxHeartbeats 4000000 in
theorem refRemove_any (d : RefD) (name : ByteArray) (fb : Nat) (vs vn vw : Value) (w : World) (h : RefAt w fb d vs vn vw) (hok : RefOk d) (hn : name.size ≤ 140737488351232) :
    Calls Tryz.prog 148 #[.pointer (some ⟨fb, 0, none⟩), .string name] w (RefPost w fb vs vn vw (refRemove d name)) := by
  have HR : Hid (RefAt w fb d vs vn vw) := h
  have HK : Hid (RefOk d) := hok
  obtain ⟨an, cn, hform⟩ := h.seen.form
  subst hform
  have c1 : w.cell? ⟨fb, 1, none⟩ = some (.slice an d.seen.length cn) := by rw [cell_of_row _ _ _ _ _ _ h.row]; rfl
  clear h hok
  go_enter Tryz.func148, Tryz.ntmps148
  go_wp2_with fail
  refine (named_any name hn w).mono ?_
  rintro e w' ⟨rfl, rfl⟩
  by_cases hnm : named name = true
  · have HE : Hid (refRemove d name = if posIn d.seen name = -1 then (2, d) else doD d ⟨4, name, ⟨#[]⟩⟩) := by show _ = _; rw [refRemove, hnm, if_neg (by simp)]
    rw [hnm]
    go_wp2_with fail
    refine (at_any d.seen name an cn (by have := HK.out.seenL; omega) w' HR.out.seen.at).mono ?_
    rintro e w3 ⟨rfl, rfl⟩
    rcases posIn_cases d.seen name with ⟨j, x, hp, hx, hne⟩ | ⟨hp, hnone⟩
    · have HE2 : Hid (refRemove d name = doD d ⟨4, name, ⟨#[]⟩⟩) := by show _ = _; rw [HE.out, if_neg (by rw [hp]; omega)]
      rw [hp]
      have i0 : ¬ (j : Int) < 0 := by omega
      clear hp
      go_wp2_with fail
      refine (do_post d ⟨4, name, ⟨#[]⟩⟩ fb vs _ vw w3 HR.out HK.out (by simp) (by simp) (Nat.zero_le _)).mono ?_
      rintro e w4 ⟨vs', vn', vw', rfl, hr4, ht4, hf4⟩
      have HX : Hid (RefPost w3 fb vs (.slice an d.seen.length cn) vw (refRemove d name) (.returned (.int .i64 (doD d ⟨4, name, ⟨#[]⟩⟩).1)) w4) := ⟨vs', vn', vw', by rw [HE2.out], by rw [HE2.out]; exact hr4, ht4, hf4⟩
      clear hr4 ht4 hf4
      generalize (doD d ⟨4, name, ⟨#[]⟩⟩).1 = code at *
      go_wp2
      go_ret
      exact HX.out
    · have HE2 : Hid (refRemove d name = (2, d)) := by show _ = _; rw [HE.out, if_pos hp]
      rw [hp]
      go_wp2
      go_ret
      exact ⟨_, _, _, by rw [HE2.out]; rfl, by rw [HE2.out]; exact HR.out, Turns.refl _ _, fun k hk => Or.inl hk⟩
  · have hnm2 : named name = false := by simpa using hnm
    have HE : Hid (refRemove d name = (1, d)) := by show _ = _; rw [refRemove, if_pos hnm2]
    rw [hnm2]
    go_wp2
    go_ret
    exact ⟨_, _, _, by rw [HE.out]; rfl, by rw [HE.out]; exact HR.out, Turns.refl _ _, fun k hk => Or.inl hk⟩
end Go.Proofs.YthhbpebihgjpjaaGreatDoor
