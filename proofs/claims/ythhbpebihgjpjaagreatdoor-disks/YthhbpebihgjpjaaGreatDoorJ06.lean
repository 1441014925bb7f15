import Derived.Test.YthhbpebihgjpjaaGreatDoorJ02
import Derived.Test.YthhbpebihgjpjaaGreatDoorJ05
import Derived.Laws.AppendOwnNone
import Derived.Deep.RegionWith
import Derived.Deep.RegionLaw
namespace Go.Proofs.YthhbpebihgjpjaaGreatDoor
open Go.RowKit
set_option maxRecDepth 1000000

/-- An owned row of texts is a list that is there. -/
theorem texts_of_row {w : World} {base : Nat} {v : Value} {l : List ByteArray} (h : w.ownsRow base 9 1 v l.length (l.map Value.string)) : TextsAt w v l := by
  obtain ⟨_, ⟨rfl, h0⟩ | ⟨g, cap, cur, rfl, _, hh, hc, _, _, htk⟩⟩ := h
  · have : l = [] := List.eq_nil_of_length_eq_zero h0
    subst this
    exact ⟨none, 0, rfl, Nat.le_refl _, Or.inl ⟨fun _ => rfl, rfl, trivial⟩⟩
  · refine ⟨_, cap, rfl, hc, Or.inr ⟨g, 0, rfl, fun k s hs => ?_⟩⟩
    have hk : k < l.length := (List.getElem?_eq_some_iff.1 hs).1
    rw [Nat.zero_add, cell_of_row _ _ _ _ _ _ hh, ← Array.getElem?_toList]
    have h2 : (l.map Value.string)[k]? = some (.string s) := by simp [hs]
    rw [← htk, List.getElem?_take, if_pos (by omega)] at h2
    exact h2

set_option maxHeartbeats 2000000 in
theorem texts_any (l : List ByteArray) (v : Value) (w : World) (h : TextsAt w v l) (hs : l.length ≤ 1048576) :
    Calls Tryz.prog 84 #[v] w fun e w' => ∃ v', e = .returned v' ∧ w'.ownsRow w.heap.size 9 1 v' l.length (l.map Value.string) ∧ Below w.heap.size w w' := by
  have hinf : (Tryz.prog.info? 9).map (fun i => (i.size, i.bytes, i.zero)) = some (1, 16, some (.string ⟨#[]⟩)) := by kernel_rfl
  obtain ⟨ti, hti, htj⟩ := Option.map_eq_some_iff.1 hinf
  simp only [Prod.mk.injEq] at htj
  have HTI : Hid (Tryz.prog.info? 9 = some ti ∧ ti.size = 1 ∧ ti.bytes = 16 ∧ ti.zero = some (.string ⟨#[]⟩)) := ⟨hti, htj.1, htj.2.1, htj.2.2⟩
  have HBA : Hid (Below w.heap.size w (w.alloc (.cells #[] 9))) := (Below.refl _ _).alloc (Nat.le_refl _) _
  have HOW : Hid ((w.alloc (.cells #[] 9)).ownsRow w.heap.size 9 1 (.slice (some ⟨w.heap.size, 0, none⟩) 0 0) 0 []) := ⟨rfl, Or.inr ⟨w.heap.size, 0, #[], rfl, Nat.le_refl _, heapA_new _ _ _ rfl, Nat.le_refl _, Nat.zero_le _, rfl, rfl⟩⟩
  clear hinf hti htj
  obtain ⟨ao, cap, rfl, hc, h⟩ := h
  rcases h with ⟨h0, rfl, _⟩ | ⟨b, o, rfl, h⟩
  · cases ao with
    | none =>
      obtain rfl := h0 rfl
      go_enter Tryz.func84, Tryz.ntmps84
      go_wp2_with (refine wpList_append_own_none rfl (.tmp 3) (.tmp 4) 32 rfl w.heap.size 9 ti 1 Tryz.underlying32 HTI.out.1 _ 0 [] rfl (by exact HOW.out) rfl ?_; refine Hid.out ?_)
      generalize w.alloc (.cells #[] 9) = w5 at *
      unfold Hid
      go_wp2
      go_ret
      exact ⟨_, rfl, HOW.out, HBA.out⟩
    | some a0 =>
      clear h0
      go_enter Tryz.func84, Tryz.ntmps84
      go_wp2_with (refine wpList_append_own _ rfl (.tmp 3) (.tmp 4) 32 rfl w.heap.size 9 ti (.string ⟨#[]⟩) 1 16 Tryz.underlying32 HTI.out.1 HTI.out.2.2.2 HTI.out.2.1 HTI.out.2.2.1 rfl (by decide) _ 0 [] rfl (by exact HOW.out) a0 0 cap [] rfl rfl (by intro j u hu; simp at hu) (by intro u hu; cases hu) (by unfold maxLen; omega) (by omega) (by simp) ?_; intro v5 w5 hv5 hg5 hn5; refine Hid.out ?_)
      have HB5 : Hid (Below w.heap.size w w5) := HBA.out.grown hg5 (by simp) (fun k hk => by have h : w.heap.size = k := Option.some.inj hk; omega)
      have HO5 : Hid (w5.ownsRow w.heap.size 9 1 v5 0 []) := hv5
      clear hv5 hg5 hn5
      unfold Hid
      go_wp2
      go_ret
      exact ⟨_, rfl, HO5.out, HB5.out⟩
  · have HNW : Hid (∀ (ob : Obj) (j : Nat) u, (l.map Value.string)[j]? = some u → (w.alloc ob).cell? ((⟨b, o, none⟩ : Addr).add j) = some u) := by
      intro ob j u hu
      have hadd : (⟨b, o, none⟩ : Addr).add j = ⟨b, o + j, none⟩ := by unfold Addr.add; split <;> simp_all
      obtain ⟨s, hs1, rfl⟩ : ∃ s, l[j]? = some s ∧ .string s = u := by simpa using hu
      have hcell := h j s hs1
      rw [hadd, World.cell?_alloc_lt _ _ ⟨b, o + j, none⟩ (block_lt_of_cell hcell)]; exact hcell
    have HONE : Hid (∀ u ∈ l.map Value.string, u.oneCell' = true) := by
      intro u hu
      obtain ⟨s, _, rfl⟩ := List.mem_map.1 hu
      rfl
    clear h
    go_enter Tryz.func84, Tryz.ntmps84
    go_wp2_with (refine wpList_append_own _ rfl (.tmp 3) (.tmp 4) 32 rfl w.heap.size 9 ti (.string ⟨#[]⟩) 1 16 Tryz.underlying32 HTI.out.1 HTI.out.2.2.2 HTI.out.2.1 HTI.out.2.2.1 rfl (by decide) _ 0 [] rfl (by exact HOW.out) ⟨b, o, none⟩ l.length cap (l.map Value.string) rfl (by simp) (by exact HNW.out _) (by exact HONE.out) (by unfold maxLen; omega) (by omega) (by simp) ?_; intro v5 w5 hv5 hg5 hn5; refine Hid.out ?_)
    have HB5 : Hid (Below w.heap.size w w5) := HBA.out.grown hg5 (by simp) (fun k hk => by have h : w.heap.size = k := Option.some.inj hk; omega)
    have HO5 : Hid (w5.ownsRow w.heap.size 9 1 v5 l.length (l.map Value.string)) := by have := hv5; rw [Nat.zero_add] at this; exact this
    clear hv5 hg5 hn5 HNW HONE
    unfold Hid
    go_wp2
    go_ret
    exact ⟨_, rfl, HO5.out, HB5.out⟩
end Go.Proofs.YthhbpebihgjpjaaGreatDoor

namespace Go.Proofs.YthhbpebihgjpjaaGreatDoor
open Go.RowKit
set_option maxRecDepth 1000000

def doD (d : RefD) (o : WaitV) : Int × RefD := if (mayD d).down then (4, mayD d) else (0, { mayD d with seen := applyL (mayD d).seen o, wait := (mayD d).wait ++ [o] })
theorem RefAt.later {w w' : World} {fb : Nat} {d : RefD} {vs vn vw : Value} (h : RefAt w fb d vs vn vw) (hb : ∀ k, k < w.heap.size → w'.heap[k]? = w.heap[k]?) : RefAt w' fb d vs vn vw :=
  ⟨by rw [hb fb h.lt]; exact h.row, h.safe.later hb, h.seen.later hb, h.wait.keep (fun k hk => hb k (h.wait.lt k hk)), h.ne, h.apart⟩
theorem mayD_seen (d : RefD) : (mayD d).seen = d.seen := by unfold mayD; split <;> rfl
theorem mayD_wait (d : RefD) : (mayD d).wait = d.wait := by unfold mayD; split <;> rfl

set_option maxHeartbeats 4000000 in
theorem do_any (d : RefD) (o : WaitV) (fb : Nat) (vs vn vw : Value) (w : World) (h : RefAt w fb d vs vn vw) (hlo : d.lit = true → -4611686018427387904 ≤ d.left) (hhi : d.left ≤ 9223372036854775807)
    (hl : d.seen.length ≤ 1099511627776) (hwl : d.wait.length ≤ 1099511627776) (hk : 1 ≤ o.kind ∧ o.kind ≤ 4) (h3 : o.kind = 3 → posIn d.seen o.name ≠ -1) (hd : o.data.size ≤ 1099511627776) (hold : (dataOf d.seen o.name).size ≤ 1099511627776) :
    Calls Tryz.prog 228 #[.pointer (some ⟨fb, 0, none⟩), .agg #[.int .i64 o.kind, .string o.name, .string o.data]] w fun e w' => ∃ vn' vw', e = .returned (.int .i64 (doD d o).1) ∧ RefAt w' fb (doD d o).2 vs vn' vw' ∧ Turns (RefFoot fb vs vn vw) w w' ∧ ∀ k, RefFoot fb vs vn' vw' k → RefFoot fb vs vn vw k ∨ w.heap.size ≤ k := by
  obtain ⟨kd, nm, dt⟩ := o
  simp only at hk h3 hd hold
  have HR : Hid (RefAt w fb d vs vn vw) := h
  have hfb := h.lt
  have HFN : Hid (¬ RefFoot fb vs vn vw w.heap.size) := by
    rintro (e | e | e | e)
    · omega
    · have := h.safe.lt _ e; omega
    · have := h.seen.lt _ e; omega
    · have := h.wait.lt _ e; omega
  have HS : Hid ((mayD d).seen = d.seen ∧ (mayD d).wait = d.wait) := ⟨mayD_seen d, mayD_wait d⟩
  have HH : Hid ((kd = 3 → posIn d.seen nm ≠ -1) ∧ d.seen.length ≤ 1099511627776 ∧ d.wait.length ≤ 1099511627776 ∧ (dataOf d.seen nm).size ≤ 1099511627776) := ⟨h3, hl, hwl, hold⟩
  have hinf : (Tryz.prog.info? 365).map (fun i => (i.size, i.bytes, i.zero)) = some (3, 40, some (.agg #[.int .i64 0, .string ⟨#[]⟩, .string ⟨#[]⟩])) := by kernel_rfl
  obtain ⟨ti, hti, htj⟩ := Option.map_eq_some_iff.1 hinf
  simp only [Prod.mk.injEq] at htj
  have HTI : Hid (Tryz.prog.info? 365 = some ti ∧ ti.size = 3 ∧ ti.bytes = 40 ∧ ti.zero = some (.agg #[.int .i64 0, .string ⟨#[]⟩, .string ⟨#[]⟩])) := ⟨hti, htj.1, htj.2.1, htj.2.2⟩
  clear h h3 hl hwl hold hinf hti htj
  go_enter Tryz.func228, Tryz.ntmps228
  go_wp2_with fail
  have HB1 : Hid (Below w.heap.size w (w.alloc (.cells #[.int .i64 kd, .string nm, .string dt] 365))) := (Below.refl _ _).alloc (Nat.le_refl _) _
  have HR1 : Hid (RefAt (w.alloc (.cells #[.int .i64 kd, .string nm, .string dt] 365)) fb d vs vn vw) := HR.out.later (fun k hk => heapA_old w _ k hk)
  have HC : Hid ((w.alloc (.cells #[.int .i64 kd, .string nm, .string dt] 365)).heap[w.heap.size]? = some (.cells #[.int .i64 kd, .string nm, .string dt] 365 (0, 0))) := heapA_new _ _ _ rfl
  have hsz : (w.alloc (.cells #[.int .i64 kd, .string nm, .string dt] 365)).heap.size = w.heap.size + 1 := World.size_alloc _ _
  generalize w.alloc (.cells #[.int .i64 kd, .string nm, .string dt] 365) = W1 at *
  refine (may_any d fb vs vn vw W1 HR1.out hlo hhi).mono ?_
  rintro e w2 ⟨rfl, hr2, ht2⟩
  have HR2 : Hid (RefAt w2 fb (mayD d) vs vn vw) := hr2
  have HT2 : Hid (Turns (RefFoot fb vs vn vw) w w2) := (Turns.of_below _ HB1.out).trans ht2 (fun i hi => Or.inl (Or.inl hi))
  have HC2 : Hid (w2.heap[w.heap.size]? = some (.cells #[.int .i64 kd, .string nm, .string dt] 365 (0, 0))) := by show _ = _; rw [ht2.block _ (by omega) (by omega)]; exact HC.out
  clear hr2 ht2 HR HB1 HR1 HC
  generalize hdd : mayD d = d1 at *
  by_cases hdn : d1.down = true
  · have HE : Hid (doD d ⟨kd, nm, dt⟩ = (4, d1)) := by show _ = _; rw [doD, hdd, if_pos hdn]
    rw [hdn]
    go_wp2
    go_ret
    exact ⟨vn, vw, by rw [HE.out]; rfl, by rw [HE.out]; exact HR2.out, HT2.out, fun k hk => Or.inl hk⟩
  · have hdn2 : d1.down = false := by simpa using hdn
    have HE : Hid (doD d ⟨kd, nm, dt⟩ = (0, { d1 with seen := applyL d1.seen ⟨kd, nm, dt⟩, wait := d1.wait ++ [⟨kd, nm, dt⟩] })) := by show _ = _; rw [doD, hdd, if_neg hdn]
    rw [hdn2]
    obtain ⟨an, cn, hform⟩ := HR2.out.seen.form
    subst hform
    obtain ⟨aw, cw, hform⟩ := HR2.out.wait.form
    subst hform
    have c1 : w2.cell? ⟨fb, 1, none⟩ = some (.slice an d1.seen.length cn) := by rw [cell_of_row _ _ _ _ _ _ HR2.out.row]; rfl
    have f1 : w2.frozen? ⟨fb, 1, none⟩ = false := frozen_of_row _ _ _ _ _ HR2.out.row
    have o0 : w2.cell? ⟨w.heap.size, 0, none⟩ = some (.int .i64 kd) := by rw [cell_of_row _ _ _ _ _ _ HC2.out]; rfl
    have o1 : w2.cell? ⟨w.heap.size, 1, none⟩ = some (.string nm) := by rw [cell_of_row _ _ _ _ _ _ HC2.out]; rfl
    have o2 : w2.cell? ⟨w.heap.size, 2, none⟩ = some (.string dt) := by rw [cell_of_row _ _ _ _ _ _ HC2.out]; rfl
    have nfb : some fb ≠ (Value.slice an d1.seen.length cn).ownBlock := fun e => HR2.out.ne.2.1 e.symm
    have hfb2 : fb < w2.heap.size := HR2.out.lt
    go_wp2_with fail
    go_region_with (go_at_call 231; refine (apply_any d1.seen ⟨kd, nm, dt⟩ 0 an cn ?_ _ ?_ ?_ hk ?_ hd ?_).mono ?_; exact (by rw [HS.out.1]; exact HH.out.2.1); exact HR2.out.seen.later (fun _ _ => rfl); exact Nat.zero_le _; exact (by rw [HS.out.1]; exact HH.out.1); exact (by rw [HS.out.1]; exact HH.out.2.2.2); rintro e w3 ⟨v, rfl, ho3, hg3, hl3⟩; obtain ⟨a3, c3, hf3⟩ := ho3.form; subst hf3; have hrow3 : w3.heap[fb]? = w2.heap[fb]? := hg3.block fb hfb2 nfb; have c13 : w3.cell? ⟨fb, 1, none⟩ = some (.slice an d1.seen.length cn) := (World.cell?_of_block (w := w2) (a := ⟨fb, 1, none⟩) hrow3).trans c1; have f13 : w3.frozen? ⟨fb, 1, none⟩ = false := (World.frozen?_of_block (w := w2) (a := ⟨fb, 1, none⟩) hrow3).trans f1)
    all_goals
      have hns := HR2.out.newSeen (w3 := w3) ⟨hg3.os, hg3.tape, hg3.output, hg3.size, hg3.block⟩ ho3 hl3
      clear ho3 hg3 hl3 hrow3 c13 f13
      generalize applyL d1.seen ⟨kd, nm, dt⟩ = L5 at *
      have HC5 : Hid ((w3.setCell ⟨fb, 1, none⟩ (.slice a3 L5.length c3)).heap[w.heap.size]? = some (.cells #[.int .i64 kd, .string nm, .string dt] 365 (0, 0))) := by show _ = _; rw [hns.2.1.block _ (by have := HT2.out.size; exact block_lt_of_cell o0) HFN.out]; exact HC2.out
      have HR5 : Hid (RefAt (w3.setCell ⟨fb, 1, none⟩ (.slice a3 L5.length c3)) fb { d1 with seen := L5 } vs (.slice a3 L5.length c3) (.slice aw d1.wait.length cw)) := hns.1
      have HT5 : Hid (Turns (RefFoot fb vs (.slice an d1.seen.length cn) (.slice aw d1.wait.length cw)) w (w3.setCell ⟨fb, 1, none⟩ (.slice a3 L5.length c3))) := HT2.out.trans hns.2.1 (fun i hi => Or.inl hi)
      have HF5 : Hid (∀ k, RefFoot fb vs (.slice a3 L5.length c3) (.slice aw d1.wait.length cw) k → RefFoot fb vs (.slice an d1.seen.length cn) (.slice aw d1.wait.length cw) k ∨ w.heap.size ≤ k) := fun k hk => (hns.2.2 k hk).imp id (Nat.le_trans HT2.out.size)
      clear hns c1 f1 o0 o1 o2
      go_wp2_with fail
      generalize w3.setCell ⟨fb, 1, none⟩ (.slice a3 L5.length c3) = w5 at *
      have c3w : w5.cell? ⟨fb, 3, none⟩ = some (.slice aw d1.wait.length cw) := by rw [cell_of_row _ _ _ _ _ _ HR5.out.row]; rfl
      have f3w : w5.frozen? ⟨fb, 3, none⟩ = false := frozen_of_row _ _ _ _ _ HR5.out.row
      have p0 : w5.cell? ⟨w.heap.size, 0, none⟩ = some (.int .i64 kd) := by rw [cell_of_row _ _ _ _ _ _ HC5.out]; rfl
      have p1 : w5.cell? ⟨w.heap.size, 1, none⟩ = some (.string nm) := by rw [cell_of_row _ _ _ _ _ _ HC5.out]; rfl
      have p2 : w5.cell? ⟨w.heap.size, 2, none⟩ = some (.string dt) := by rw [cell_of_row _ _ _ _ _ _ HC5.out]; rfl
      have nfb5 : some fb ≠ (Value.slice aw d1.wait.length cw).ownBlock := fun e => HR5.out.ne.2.2 e.symm
      have hfb5 : fb < w5.heap.size := HR5.out.lt
      have hop5 : w.heap.size < w5.heap.size := block_lt_of_cell p0
      go_region_law (refine step_append_lies _ rfl (.tmp 23) (.tmp 25) 224 rfl 0 365 ti (.agg #[.int .i64 0, .string ⟨#[]⟩, .string ⟨#[]⟩]) 3 40 Tryz.underlying224 HTI.out.1 HTI.out.2.2.2 HTI.out.2.1 HTI.out.2.2.1 rfl (by decide) _ d1.wait.length (wcells d1.wait) rfl (by exact (HR5.out.wait.keep (fun k hk => heapA_old w5.drew _ k (HR5.out.wait.lt k hk))).own) ⟨w5.heap.size, 0, none⟩ 1 1 [.int .i64 kd, .string nm, .string dt] rfl rfl (by exact new_cells w5.drew _ _) (by intro u hu; simp at hu; rcases hu with rfl | rfl | rfl <;> rfl) (by decide) (by have := HH.out.2.2.1; rw [HS.out.2]; unfold maxLen; omega) (by have := HH.out.2.2.1; rw [HS.out.2]; omega) (Nat.zero_le _) _ rfl ?_; intro g6 cap6 w6 hv6 hg6 hat6 hlt6; have hrow6 : w6.heap[fb]? = w5.heap[fb]? := (hg6.block fb (by simp; omega) nfb5).trans (heapA_old w5.drew _ fb hfb5); have c36 : w6.cell? ⟨fb, 3, none⟩ = some (.slice aw d1.wait.length cw) := (World.cell?_of_block (w := w5) (a := ⟨fb, 3, none⟩) hrow6).trans c3w; have f36 : w6.frozen? ⟨fb, 3, none⟩ = false := (World.frozen?_of_block (w := w5) (a := ⟨fb, 3, none⟩) hrow6).trans f3w)
      all_goals
        have hnw := HR5.out.newWait (w3 := w6) (v := .slice (some ⟨g6, 0, none⟩) (d1.wait.length + 1) cap6) (l := d1.wait ++ [⟨kd, nm, dt⟩]) ⟨hg6.os, hg6.tape, hg6.output, by have := hg6.size; simp at this; omega, fun k hk hne => (hg6.block k (by simp; omega) hne).trans (heapA_old w5.drew _ k hk)⟩ ⟨by rw [List.length_append, wcells_append]; exact hv6⟩ (fun k hk => by
          have e : g6 = k := Option.some.inj hk
          subst e
          rcases hat6 with h | h
          · exact Or.inl h
          · right; rw [h]; simp)
        have HR7 : Hid (RefAt (w6.setCell ⟨fb, 3, none⟩ (.slice (some ⟨g6, 0, none⟩) (d1.wait.length + 1) cap6)) fb { d1 with seen := L5, wait := d1.wait ++ [⟨kd, nm, dt⟩] } vs (.slice a3 L5.length c3) (.slice (some ⟨g6, 0, none⟩) (d1.wait.length + 1) cap6)) := hnw.1
        have HT7 : Hid (Turns (RefFoot fb vs (.slice an d1.seen.length cn) (.slice aw d1.wait.length cw)) w (w6.setCell ⟨fb, 3, none⟩ (.slice (some ⟨g6, 0, none⟩) (d1.wait.length + 1) cap6))) := HT5.out.trans hnw.2.1 (fun i hi => HF5.out i hi)
        have HF7 : Hid (∀ k, RefFoot fb vs (.slice a3 L5.length c3) (.slice (some ⟨g6, 0, none⟩) (d1.wait.length + 1) cap6) k → RefFoot fb vs (.slice an d1.seen.length cn) (.slice aw d1.wait.length cw) k ∨ w.heap.size ≤ k) := fun k hk => by
          rcases hnw.2.2 k hk with h | h
          · exact HF5.out k h
          · exact Or.inr (Nat.le_trans HT5.out.size h)
        clear hnw hv6 hg6 hat6 hlt6 hrow6 c36 f36
        generalize w6.setCell ⟨fb, 3, none⟩ (.slice (some ⟨g6, 0, none⟩) (d1.wait.length + 1) cap6) = w7 at *
        go_wp2
        go_ret
        exact ⟨_, _, by rw [HE.out]; rfl, by rw [HE.out]; exact HR7.out, HT7.out, HF7.out⟩
end Go.Proofs.YthhbpebihgjpjaaGreatDoor
