import Derived.Test.YthhbpebihgjpjaaGreatDoorK08
import Derived.Test.YthhbpebihgjpjaaGreatDoorK06
import Derived.Deep.LoopGhost
namespace Go.Proofs.YthhbpebihgjpjaaGreatDoor
open Go.RowKit
set_option maxRecDepth 1000000

def natsV (l : List Nat) : List Value := l.map fun n => Value.int .i64 ((n : Nat) : Int)
theorem natsV_append (l r : List Nat) : natsV (l ++ r) = natsV l ++ natsV r := by simp [natsV]
theorem natsV_length (l : List Nat) : (natsV l).length = l.length := by simp [natsV]
theorem natsV_at {l : List Nat} {i x : Nat} (h : l[i]? = some x) : (natsV l)[i]? = some (.int .i64 (x : Nat)) := by simp [natsV, h]
theorem natsV_set (l : List Nat) (i x : Nat) : natsV (l.set i x) = (natsV l).set i (.int .i64 (x : Nat)) := by simp [natsV, List.map_set]
/-- A list of numbers that is there. -/
def IntsAt (w : World) (v : Value) (l : List Nat) : Prop := ∃ ao cap, v = .slice ao l.length cap ∧ l.length ≤ cap ∧ (l = [] ∨ ∃ b o, ao = some ⟨b, o, none⟩ ∧ ∀ k x, l[k]? = some x → w.cell? ⟨b, o + k, none⟩ = some (.int .i64 (x : Nat)))
theorem IntsAt.keep {w w' : World} {v : Value} {l : List Nat} (h : IntsAt w v l) (hb : ∀ k, k < w.heap.size → w'.heap[k]? = w.heap[k]?) : IntsAt w' v l := by
  obtain ⟨ao, cap, rfl, hc, h | ⟨b, o, rfl, h⟩⟩ := h
  · exact ⟨ao, cap, rfl, hc, Or.inl h⟩
  · exact ⟨_, cap, rfl, hc, Or.inr ⟨b, o, rfl, fun k s hs => (World.cell?_of_block (w := w) (a := ⟨b, o + k, none⟩) (hb b (block_lt_of_cell (h k s hs)))).trans (h k s hs)⟩⟩
/-- What turned, at most. -/
structure Moves (F : Nat → Prop) (w w' : World) : Prop where
  os : w'.os = w.os
  tape : w'.tape = w.tape
  output : w'.output = w.output
  size : w.heap.size ≤ w'.heap.size
  block : ∀ k, k < w.heap.size → ¬ F k → w'.heap[k]? = w.heap[k]?
theorem Moves.refl (F : Nat → Prop) (w : World) : Moves F w w := ⟨rfl, rfl, rfl, Nat.le_refl _, fun _ _ _ => rfl⟩
theorem Moves.below {F : Nat → Prop} {B : Nat} {a w w' : World} (h : Below B a w) (hB : B ≤ w.heap.size) (hm : Moves F w w') (hF : ∀ k, F k → B ≤ k) : Below B a w' :=
  ⟨hm.os.trans h.os, hm.tape.trans h.tape, hm.output.trans h.output, Nat.le_trans h.size hm.size, fun k hk => (hm.block k (Nat.lt_of_lt_of_le hk hB) (fun q => by have := hF k q; omega)).trans (h.block k hk)⟩
/-- What the walk's stack holds: a place, what is left, and where that lies. -/
abbrev Items := List (Nat × List Nat × Value)
def ocells (I : Items) : List Value := I.flatMap fun x => [.int .i64 ((x.1 : Nat) : Int), x.2.2]
theorem ocells_append (I J : Items) : ocells (I ++ J) = ocells I ++ ocells J := by simp [ocells]
theorem ocells_length (I : Items) : (ocells I).length = I.length * 2 := two_length _ _ I
theorem ocells_at {I : Items} {i : Nat} {x : Nat × List Nat × Value} (h : I[i]? = some x) : (ocells I)[i * 2]? = some (.int .i64 ((x.1 : Nat) : Int)) ∧ (ocells I)[i * 2 + 1]? = some x.2.2 := two_cells _ _ I i x h
def SRow (w : World) (sb : Nat) (vi : Value) : Prop := w.heap[sb]? = some (.cells #[vi] 209 (0, 0))
theorem SRow.lt {w : World} {sb : Nat} {vi : Value} (h : SRow w sb vi) : sb < w.heap.size := heap_lt h
theorem SRow.other {w : World} {sb : Nat} {vi : Value} {B : Nat} {e : TypeId} {s : Nat} {v : Value} {n : Nat} {xs : List Value} (h : SRow w sb vi) (ho : w.ownsRow B e s v n xs) (he : e ≠ 209) : v.ownBlock ≠ some sb := by
  intro hk
  obtain ⟨h1, ⟨rfl, h0⟩ | ⟨g, cap, cur, rfl, hg, hh, r⟩⟩ := ho
  · cases hk
  · have e1 : g = sb := Option.some.inj hk
    subst e1
    unfold SRow at h
    rw [hh] at h
    injection h with h
    injection h with _ h _
    exact he h
set_option maxHeartbeats 4000000 in
theorem push_any {B : Nat} {w : World} {sb : Nat} {vi : Value} {I : Items} (p : Nat) (l : List Nat) (v : Value) (hr : SRow w sb vi) (ho : w.ownsRow B 212 2 vi I.length (ocells I)) (hB : B ≤ w.heap.size) (hl : I.length ≤ 1000000000000) (hv : IntsAt w v l) :
    Calls Tryz.prog 117 #[.pointer (some ⟨sb, 0, none⟩), .agg #[.int .i64 (p : Nat), v]] w fun e w' => e = .returned (.tuple #[]) ∧ ∃ vi', SRow w' sb vi' ∧ w'.ownsRow B 212 2 vi' (I.length + 1) (ocells (I ++ [(p, l, v)])) ∧ Moves (fun k => k = sb ∨ vi.ownBlock = some k) w w' := by
  have hinf : (Tryz.prog.info? 212).map (fun i => (i.size, i.bytes, i.zero)) = some (2, 32, some (.agg #[.int .i64 0, .slice none 0 0])) := by kernel_rfl
  obtain ⟨ti, hti, htj⟩ := Option.map_eq_some_iff.1 hinf
  simp only [Prod.mk.injEq] at htj
  have HTI : Hid (Tryz.prog.info? 212 = some ti ∧ ti.size = 2 ∧ ti.bytes = 32 ∧ ti.zero = some (.agg #[.int .i64 0, .slice none 0 0])) := ⟨hti, htj.1, htj.2.1, htj.2.2⟩
  clear hinf hti htj
  obtain ⟨aov, capv, rfl, _, _⟩ := hv
  obtain ⟨aoi, capi, hvi, _, _⟩ := row_form ho
  generalize hIL : I.length = IL at *
  subst hvi
  generalize l.length = LL at *
  have HR : Hid (SRow w sb (.slice aoi IL capi)) := hr
  have HO : Hid (w.ownsRow B 212 2 (.slice aoi IL capi) IL (ocells I)) := ho
  have HNE : Hid ((Value.slice aoi IL capi).ownBlock ≠ some sb) := hr.other ho (by decide)
  obtain ⟨W1, hW1⟩ : ∃ W1, W1 = w.alloc (.cells #[.int .i64 (p : Nat), .slice aov LL capv] 212) := ⟨_, rfl⟩
  have HB1 : Hid (Below w.heap.size w W1) := by rw [hW1]; exact (Below.refl _ _).alloc (Nat.le_refl _) _
  have c0 : W1.cell? ⟨w.heap.size, 0, none⟩ = some (.int .i64 (p : Nat)) := by rw [hW1]; exact cell_fresh _ _ _ _ _ rfl
  have c1 : W1.cell? ⟨w.heap.size, 1, none⟩ = some (.slice aov LL capv) := by rw [hW1]; exact cell_fresh _ _ _ _ _ rfl
  have cs : W1.cell? ⟨sb, 0, none⟩ = some (.slice aoi IL capi) := by rw [cell_of_row _ _ _ _ _ _ ((HB1.out.block sb hr.lt).trans hr)]; rfl
  have hsz1 : W1.heap.size = w.heap.size + 1 := by rw [hW1]; exact World.size_alloc _ _
  have HW1 : Hid (W1 = w.alloc (.cells #[.int .i64 (p : Nat), .slice aov LL capv] 212)) := hW1
  have csa : (W1.alloc (.cells #[.int .i64 (p : Nat), .slice aov LL capv] 212)).cell? ⟨sb, 0, none⟩ = some (.slice aoi IL capi) := (World.cell?_of_block (w := W1) (a := ⟨sb, 0, none⟩) (heapA_old _ _ sb (Nat.lt_of_lt_of_le hr.lt HB1.out.size))).trans cs
  clear hr ho
  go_enter Tryz.func117, Tryz.ntmps117
  go_wp2_with fail
  rw [← hW1]
  clear hW1
  refine wp_region_any (by kernel_rfl) ?_
  change wpAny _ _ _ _ _ _ _ (World.drew _)
  refine wpAny_take (i := 0) (v := .pointer (some ⟨sb, 0, none⟩)) rfl (by kernel_rfl) (by kernel_rfl) (by kernel_rfl) (fun _ _ _ h => h) (Or.inl ⟨by rfl, ?_⟩) ?_
  · intro w
    go_simp
  refine wpAny_take (i := 1) (v := .pointer (some ⟨sb, 0, none⟩)) rfl (by kernel_rfl) (by kernel_rfl) (by kernel_rfl) (fun _ _ _ h => h) (Or.inl ⟨by rfl, ?_⟩) ?_
  · intro w
    go_simp
  refine wpAny_take (i := 2) (v := .pointer (some ⟨sb, 0, none⟩)) rfl (by kernel_rfl) (by kernel_rfl) (by kernel_rfl) (fun _ _ _ h => h) (Or.inl ⟨by rfl, ?_⟩) ?_
  · intro w
    go_simp
  refine wpAny_take (i := 3) (v := .pointer (some ⟨sb, 0, none⟩)) rfl (by kernel_rfl) (by kernel_rfl) (by kernel_rfl) (fun _ _ _ h => h) (Or.inl ⟨by rfl, ?_⟩) ?_
  · intro w
    go_simp
  refine wpAny_ready (rs := [4, 5]) (by kernel_rfl) (by simp) ?_
  refine AllReady.cons rfl (fun K hK => ?ordA) (AllReady.cons rfl (fun K hK => ?ordB) AllReady.nil)
  case' ordA =>
    go_simp
    refine hK _ _ ?_
    clear hK K
    refine wpAny_ready (rs := [5]) (by kernel_rfl) (by simp) ?_
    refine AllReady.cons rfl (fun K hK => ?_) AllReady.nil
    go_simp
    refine hK _ _ ?_
    clear hK K
    refine wpAny_ready (rs := [6]) (by kernel_rfl) (by simp) ?_
    refine AllReady.cons rfl (fun K hK => ?_) AllReady.nil
    go_simp
  case' ordB =>
    go_simp
    refine hK _ _ ?_
    clear hK K
    refine wpAny_ready (rs := [4, 6]) (by kernel_rfl) (by simp) ?_
    refine AllReady.cons rfl (fun K hK => ?ordC) (AllReady.cons rfl (fun K hK => ?ordD) AllReady.nil)
    case' ordC =>
      go_simp
      refine hK _ _ ?_
      clear hK K
      refine wpAny_ready (rs := [6]) (by kernel_rfl) (by simp) ?_
      refine AllReady.cons rfl (fun K hK => ?_) AllReady.nil
      go_simp
    case' ordD =>
      go_simp
      refine hK _ _ ?_
      clear hK K
      refine wpAny_ready (rs := [4]) (by kernel_rfl) (by simp) ?_
      refine AllReady.cons rfl (fun K hK => ?_) AllReady.nil
      go_simp
  all_goals
    refine hK _ _ ?_
    clear hK K
    obtain ⟨W8, hW8⟩ : ∃ W8, W8 = (W1.alloc (.cells #[.int .i64 (p : Nat), .slice aov LL capv] 212)).drew := ⟨_, rfl⟩
    have HL8 : Hid (Below w.heap.size w W8) := by rw [hW8]; exact (HB1.out.alloc (Nat.le_of_lt (by omega)) _).drew
    have HN8 : Hid (∀ j u, ([.int .i64 (p : Nat), .slice aov LL capv] : List Value)[j]? = some u → W8.cell? ((⟨w.heap.size + 1, 0, none⟩ : Addr).add j) = some u) := by rw [hW8, ← hsz1]; exact newCells W1 _ _
    rw [← hW8]
    clear hW8 csa
    have HD8 : Hid (W8.ownsRow B 212 2 (.slice aoi IL capi) IL (ocells I)) := rkeep HO.out (fun k hk => HL8.out.block k (rblock HO.out k hk).2)
    have hB8 : B ≤ W8.heap.size := Nat.le_trans hB HL8.out.size
    refine wpAny_ready (rs := [7]) (by kernel_rfl) (by simp) ?_
    refine AllReady.cons rfl (fun K hK => ?_) AllReady.nil
    refine step_append_lies _ rfl (.tmp 8) (.tmp 10) 207 rfl B 212 ti (.agg #[.int .i64 0, .slice none 0 0]) 2 32 Tryz.underlying207 HTI.out.1 HTI.out.2.2.2 HTI.out.2.1 HTI.out.2.2.1 rfl (by decide) _ IL (ocells I) rfl HD8.out ⟨w.heap.size + 1, 0, none⟩ 1 1 [.int .i64 (p : Nat), .slice aov LL capv] rfl rfl HN8.out (by intro u hu; simp only [List.mem_cons, List.not_mem_nil, or_false] at hu; rcases hu with rfl | rfl <;> rfl) (by decide) (by unfold maxLen; omega) (by omega) hB8 _ rfl ?_
    intro g6 cap6 w6 hv6 hg6 hat6 hlt6
    have hrow6 : SRow w6 sb (.slice aoi IL capi) := (hg6.block sb (Nat.lt_of_lt_of_le HR.out.lt HL8.out.size) (fun e => HNE.out e.symm)).trans ((HL8.out.block sb HR.out.lt).trans HR.out)
    have d6 : w6.cell? ⟨sb, 0, none⟩ = some (.slice aoi IL capi) := by rw [cell_of_row _ _ _ _ _ _ hrow6]; rfl
    have f6 : w6.frozen? ⟨sb, 0, none⟩ = false := frozen_of_row _ _ _ _ _ hrow6
    have HFIN : Hid (∃ vi', SRow (w6.setCell ⟨sb, 0, none⟩ (.slice (some ⟨g6, 0, none⟩) (IL + 1) cap6)) sb vi' ∧ (w6.setCell ⟨sb, 0, none⟩ (.slice (some ⟨g6, 0, none⟩) (IL + 1) cap6)).ownsRow B 212 2 vi' (IL + 1) (ocells (I ++ [(p, l, .slice aov LL capv)])) ∧ Moves (fun k => k = sb ∨ (Value.slice aoi IL capi).ownBlock = some k) w (w6.setCell ⟨sb, 0, none⟩ (.slice (some ⟨g6, 0, none⟩) (IL + 1) cap6))) := by
      have hne : sb ≠ g6 := fun e => by
        rcases hat6 with q | q
        · exact HNE.out (by rw [e]; exact q)
        · have h1 := HR.out.lt
          have h2 := HL8.out.size
          omega
      refine ⟨_, by unfold SRow; rw [heap_setCell_same _ _ _ _ _ _ hrow6]; rfl, ?_, ?_⟩
      · rw [ocells_append]
        exact rkeep hv6 (fun k hk => heap_setCell_other _ _ _ _ (show k ≠ sb from fun e => hne (by rw [← e]; exact (Option.some.inj hk).symm)))
      · refine ⟨hg6.os.trans HL8.out.os, hg6.tape.trans HL8.out.tape, hg6.output.trans HL8.out.output, Nat.le_trans HL8.out.size (by simpa using hg6.size), fun k hk hn => ?_⟩
        rw [heap_setCell_other _ _ _ _ (show k ≠ sb from fun e => hn (Or.inl e))]
        exact (hg6.block k (Nat.lt_of_lt_of_le hk HL8.out.size) (fun e => hn (Or.inr e.symm))).trans (HL8.out.block k hk)
    clear hv6 hg6 hat6 hlt6 hrow6
    refine hK _ _ ?_
    clear hK K
    refine wpAny_take (i := 8) (v := .pointer (some ⟨sb, 0, none⟩)) rfl (by kernel_rfl) (by kernel_rfl) (by kernel_rfl) (fun _ _ _ h => h) (Or.inl ⟨by rfl, ?_⟩) ?_
    · intro w
      go_simp
    refine wpAny_take (i := 9) (v := .pointer (some ⟨sb, 0, none⟩)) rfl (by kernel_rfl) (by kernel_rfl) (by kernel_rfl) (fun _ _ _ h => h) (Or.inl ⟨by rfl, ?_⟩) ?_
    · intro w
      go_simp
    refine wpAny_ready (rs := [10]) (by kernel_rfl) (by simp) ?_
    refine AllReady.cons rfl (fun K hK => ?_) AllReady.nil
    go_simp
    refine hK _ _ ?_
    clear hK K
    refine wpAny_done (by kernel_rfl) ?_ _
    go_wp2_with fail
    first | go_end0 | refine bodyPost_ret (results_none rfl _ _ _) rfl ?_
    exact ⟨rfl, HFIN.out⟩
theorem empty_any {w : World} {sb : Nat} {vi : Value} {IL : Nat} (hr : SRow w sb vi) (hv : ∃ ao cap, vi = .slice ao IL cap) :
    Calls Tryz.prog 119 #[.pointer (some ⟨sb, 0, none⟩)] w fun e w' => e = .returned (.bool (((IL : Nat) : Int) == 0)) ∧ w' = w := by
  obtain ⟨ao, cap, rfl⟩ := hv
  have cs : w.cell? ⟨sb, 0, none⟩ = some (.slice ao IL cap) := by rw [cell_of_row _ _ _ _ _ _ hr]; rfl
  clear hr
  go_enter Tryz.func119, Tryz.ntmps119
  go_wp2
  go_ret
  exact ⟨rfl, rfl⟩
theorem top_any {w : World} {sb g n cap : Nat} (hr : SRow w sb (.slice (some ⟨g, 0, none⟩) (n + 1) cap)) (hn : n ≤ 1000000000000) :
    Calls Tryz.prog 120 #[.pointer (some ⟨sb, 0, none⟩)] w fun e w' => e = .returned (.pointer (some ⟨g, n * 2, none⟩)) ∧ Below w.heap.size w w' := by
  have cs : w.cell? ⟨sb, 0, none⟩ = some (.slice (some ⟨g, 0, none⟩) (n + 1) cap) := by rw [cell_of_row _ _ _ _ _ _ hr]; rfl
  have n0 : (0 : Int) ≤ (n : Int) := by omega
  have n1 : (n : Int) ≤ 1000000000000 := by omega
  have HB : Hid (Below w.heap.size w w) := Below.refl _ _
  clear hr
  go_enter Tryz.func120, Tryz.ntmps120
  go_wp2
  go_quiet (fail)
  have HB2 : Hid (Below w.heap.size w (w.drewN nq)) := ⟨rfl, rfl, rfl, Nat.le_refl _, fun _ _ => rfl⟩
  generalize w.drewN nq = w2 at *
  go_wp2
  go_ret
  exact ⟨rfl, HB2.out⟩
theorem pop_any {w : World} {sb g n cap : Nat} (hr : SRow w sb (.slice (some ⟨g, 0, none⟩) (n + 1) cap)) (hn : n ≤ 1000000000000) (hc : n + 1 ≤ cap) :
    Calls Tryz.prog 121 #[.pointer (some ⟨sb, 0, none⟩)] w fun e w' => e = .returned (.tuple #[]) ∧ SRow w' sb (.slice (some ⟨g, 0, none⟩) n cap) ∧ Moves (fun k => k = sb) w w' := by
  have cs : w.cell? ⟨sb, 0, none⟩ = some (.slice (some ⟨g, 0, none⟩) (n + 1) cap) := by rw [cell_of_row _ _ _ _ _ _ hr]; rfl
  have fs : w.frozen? ⟨sb, 0, none⟩ = false := frozen_of_row _ _ _ _ _ hr
  have n0 : (0 : Int) ≤ (n : Int) := by omega
  have n1 : (n : Int) ≤ 1000000000000 := by omega
  have n2 : (n : Int) ≤ (cap : Int) := by omega
  have HFIN : Hid (SRow (w.setCell ⟨sb, 0, none⟩ (.slice (some ⟨g, 0, none⟩) n cap)).drew sb (.slice (some ⟨g, 0, none⟩) n cap) ∧ Moves (fun k => k = sb) w (w.setCell ⟨sb, 0, none⟩ (.slice (some ⟨g, 0, none⟩) n cap)).drew) := by
    refine ⟨?_, rfl, rfl, rfl, ?_, fun k hk hn => ?_⟩
    · show (w.setCell ⟨sb, 0, none⟩ _).heap[sb]? = _
      rw [heap_setCell_same _ _ _ _ _ _ hr]; rfl
    · show _ ≤ (w.setCell ⟨sb, 0, none⟩ _).heap.size
      simp
    · show (w.setCell ⟨sb, 0, none⟩ _).heap[k]? = _
      exact heap_setCell_other _ _ _ _ hn
  clear hr
  go_enter Tryz.func121, Tryz.ntmps121
  go_region
  first | go_end0 | refine bodyPost_ret (results_none rfl _ _ _) rfl ?_
  exact ⟨rfl, HFIN.out⟩
/-- The walk, where it lies. -/
def WRow (w : World) (wb : Nat) (vn vs vo : Value) : Prop := w.heap[wb]? = some (.cells #[vn, vs, vo] 148 (0, 0))
theorem begin_any {w : World} {wb gN nN cN gs nS cS p x : Nat} {vo : Value} {av : Option Addr} {lv cv : Nat} (hr : WRow w wb (.slice (some ⟨gN, 0, none⟩) nN cN) (.slice (some ⟨gs, 0, none⟩) nS cS) vo) (hp : p < nN) (hps : p < nS) (hv : w.cell? ⟨gN, p, none⟩ = some (.slice av lv cv)) {cur : Array Value} (hgr : w.heap[gs]? = some (.cells cur 206 (0, 0))) (hcur : cur[p]? = some (.int .i64 (x : Nat))) (hne : gs ≠ wb) (hne2 : gs ≠ gN) :
    Calls Tryz.prog 118 #[.pointer (some ⟨wb, 0, none⟩), .int .i64 (p : Nat)] w fun e w' => e = .returned (.agg #[.int .i64 (p : Nat), .slice av lv cv]) ∧ Moves (fun k => k = gs) w w' ∧ w'.heap[gs]? = (w.setCell ⟨gs, p, none⟩ (.int .i64 1)).heap[gs]? := by
  have hs : w.cell? ⟨gs, p, none⟩ = some (.int .i64 (x : Nat)) := by rw [cell_of_row _ _ _ _ _ _ hgr]; exact hcur
  have hf : w.frozen? ⟨gs, p, none⟩ = false := frozen_of_row _ _ _ _ _ hgr
  have hwb := heap_lt hr
  have c1w : w.cell? ⟨wb, 1, none⟩ = some (.slice (some ⟨gs, 0, none⟩) nS cS) := by rw [cell_of_row _ _ _ _ _ _ hr]; rfl
  have c0w : w.cell? ⟨wb, 0, none⟩ = some (.slice (some ⟨gN, 0, none⟩) nN cN) := by rw [cell_of_row _ _ _ _ _ _ hr]; rfl
  have p0 : (0 : Int) ≤ (p : Int) := by omega
  have p1 : (p : Int) < (nN : Int) := by omega
  have p2 : (p : Int) < (nS : Int) := by omega
  obtain ⟨W1, hW1⟩ : ∃ W1, W1 = w.alloc (.cells #[.int .i64 0, .slice none 0 0] 212) := ⟨_, rfl⟩
  have hb1 : Below w.heap.size w W1 := by rw [hW1]; exact (Below.refl _ _).alloc (Nat.le_refl _) _
  have c1 : W1.cell? ⟨wb, 1, none⟩ = some (.slice (some ⟨gs, 0, none⟩) nS cS) := by rw [cell_of_row _ _ _ _ _ _ ((hb1.block wb hwb).trans hr)]; rfl
  have cs : W1.cell? ⟨gs, p, none⟩ = some (.int .i64 (x : Nat)) := (hb1.cell (p := ⟨gs, p, none⟩) (block_lt_of_cell hs)).trans hs
  have fs : W1.frozen? ⟨gs, p, none⟩ = false := (World.frozen?_of_block (w := w) (a := ⟨gs, p, none⟩) (hb1.block gs (block_lt_of_cell hs))).trans hf
  have cn : W1.cell? ⟨gN, p, none⟩ = some (.slice av lv cv) := (hb1.cell (p := ⟨gN, p, none⟩) (block_lt_of_cell hv)).trans hv
  have cb : W1.cell? ⟨wb, 0, none⟩ = some (.slice (some ⟨gN, 0, none⟩) nN cN) := by rw [cell_of_row _ _ _ _ _ _ ((hb1.block wb hwb).trans hr)]; rfl
  obtain ⟨W2, hW2⟩ : ∃ W2, W2 = W1.setCell ⟨gs, p, none⟩ (.int .i64 1) := ⟨_, rfl⟩
  have d0 : W2.cell? ⟨wb, 0, none⟩ = some (.slice (some ⟨gN, 0, none⟩) nN cN) := by rw [hW2, World.cell?_setCell_other _ _ _ _ (fun e => hne (Addr.mk.inj e).1)]; exact cb
  have dn : W2.cell? ⟨gN, p, none⟩ = some (.slice av lv cv) := by rw [hW2, World.cell?_setCell_other _ _ _ _ (fun e => hne2 (Addr.mk.inj e).1)]; exact cn
  have hrow : W2.heap[w.heap.size]? = some (.cells #[.int .i64 0, .slice none 0 0] 212 (0, 0)) := by
    rw [hW2, heap_setCell_other _ _ _ _ (show w.heap.size ≠ gs from fun e => by have := block_lt_of_cell hs; simp only at this; omega), hW1]; exact heapA_new _ _ _ rfl
  have r0 : W2.cell? ⟨w.heap.size, 0, none⟩ = some (.int .i64 0) := by rw [cell_of_row _ _ _ _ _ _ hrow]; rfl
  have r1 : W2.cell? ⟨w.heap.size, 1, none⟩ = some (.slice none 0 0) := by rw [cell_of_row _ _ _ _ _ _ hrow]; rfl
  have q0 : W2.frozen? ⟨w.heap.size, 0, none⟩ = false := frozen_of_row _ _ _ _ _ hrow
  have q1 : W2.frozen? ⟨w.heap.size, 1, none⟩ = false := frozen_of_row _ _ _ _ _ hrow
  have HMV : Hid (∀ W3 : World, Below w.heap.size W2 W3 → Moves (fun k => k = gs) w W3 ∧ W3.heap[gs]? = (w.setCell ⟨gs, p, none⟩ (.int .i64 1)).heap[gs]?) := fun W3 hb => by
    have hgs : gs < w.heap.size := block_lt_of_cell hs
    refine ⟨⟨?_, ?_, ?_, ?_, fun k hk hn => ?_⟩, ?_⟩
    · rw [hb.os, hW2]; exact hb1.os
    · rw [hb.tape, hW2]; exact hb1.tape
    · rw [hb.output, hW2]; exact hb1.output
    · refine Nat.le_trans hb1.size (Nat.le_trans ?_ hb.size); rw [hW2]; simp
    · rw [hb.block k hk, hW2, heap_setCell_other _ _ _ _ hn]; exact hb1.block k hk
    · rw [hb.block gs hgs, hW2]
      rw [heap_setCell_same _ _ _ _ _ _ ((hb1.block gs hgs).trans hgr), heap_setCell_same _ _ _ _ _ _ hgr]
  have HROW : Hid (W2.heap[w.heap.size]? = some (.cells #[.int .i64 0, .slice none 0 0] 212 (0, 0))) := hrow
  clear hr hgr hcur hb1 hrow c1 cn cb hv hs hf
  subst hW2 hW1
  go_enter Tryz.func118, Tryz.ntmps118
  go_wp2_with fail
  clear c1w c0w cs fs d0 dn q0 q1
  generalize (w.alloc (.cells #[.int .i64 0, .slice none 0 0] 212)).setCell ⟨gs, p, none⟩ (.int .i64 1) = W2 at *
  have hw1 : w.heap.size < W2.heap.size := block_lt_of_cell r0
  have HM3 := HMV.out ((W2.setCell ⟨w.heap.size, 0, none⟩ (.int .i64 (p : Nat))).setCell ⟨w.heap.size, 1, none⟩ (.slice av lv cv)) (((Below.refl _ _).setCell (p := ⟨w.heap.size, 0, none⟩) (Nat.le_refl _) _).setCell (p := ⟨w.heap.size, 1, none⟩) (Nat.le_refl _) _)
  have HR3 : Hid (((W2.setCell ⟨w.heap.size, 0, none⟩ (.int .i64 (p : Nat))).setCell ⟨w.heap.size, 1, none⟩ (.slice av lv cv)).heap[w.heap.size]? = some (.cells #[.int .i64 (p : Nat), .slice av lv cv] 212 (0, 0))) := by
    show _ = _
    rw [heap_setCell_same _ _ _ _ _ _ (heap_setCell_same _ _ _ _ _ _ HROW.out)]; rfl
  generalize (W2.setCell ⟨w.heap.size, 0, none⟩ (.int .i64 (p : Nat))).setCell ⟨w.heap.size, 1, none⟩ (.slice av lv cv) = W3 at *
  refine bodyPost_ret (results_cell_row Tryz.results118 _ _ w.heap.size 212 #[.int .i64 (p : Nat), .slice av lv cv] (0, 0) _ rfl HR3.out Tryz.underlying212 rfl (by kernel_rfl)) rfl ?_
  exact ⟨rfl, HM3⟩
end Go.Proofs.YthhbpebihgjpjaaGreatDoor
