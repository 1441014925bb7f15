import Derived.Test.YthhbpebihgjpjaaGreatDoorK36
import Derived.Test.YthhbpebihgjpjaaGreatDoorK31
namespace Go.Proofs.YthhbpebihgjpjaaGreatDoor
open Go.RowKit Go.Maps
set_option maxRecDepth 1000000

/-- A manifest's edges, in a row. -/
theorem ManAt.edges {W0 : Nat} {S : St} {cs : List ByteArray} {mb : Nat} {w : World} (h : ManAt W0 S cs mb w) : ∃ ev dv, w.heap[mb]? = some (.cells #[ev, dv] 101 (0, 0)) ∧ EdgeRowAt w ev S.edges cs ∧ TextsAt w dv S.defs ∧ cs.length = S.edges.length := by
  obtain ⟨ev, dv, ds, h1, hrow, hdl, hcl, hli, hd⟩ := h
  refine ⟨ev, dv, h1, ?_, hd, hcl⟩
  obtain ⟨ao, cap, rfl, hcap, hg⟩ := row_form hrow
  refine ⟨ao, cap, rfl, ?_⟩
  by_cases h0 : S.edges = []
  · exact Or.inl h0
  · obtain ⟨g, rfl⟩ := hg (List.length_pos_iff.2 h0)
    refine Or.inr ⟨g, 0, rfl, fun k e y he hy => ?_⟩
    have hlt : k < ds.length := by rw [hdl]; exact (List.getElem?_eq_some_iff.1 he).1
    obtain ⟨d, hd⟩ : ∃ d, ds[k]? = some d := ⟨ds[k], by simp⟩
    have hl := hli k d e hd he
    have cell : ∀ i u, i < 6 → (ecell d y)[i]? = some u → w.cell? ⟨g, k * 6 + i, none⟩ = some u := fun i u hi hu => (row_cell hrow (k * 6 + i) u (by rw [ecells_at ds cs k d y i hd hy hi]; exact hu)).1
    rw [Nat.zero_add]
    refine ⟨d.vo, d.vi, d.vm, d.vr, ⟨cell 0 _ (by omega) rfl, cell 1 _ (by omega) rfl, cell 2 _ (by omega) rfl, cell 3 _ (by omega) rfl, ?_, cell 5 _ (by omega) rfl⟩, hl.1, hl.2.1, hl.2.2.1, hl.2.2.2.1⟩
    rw [← hl.2.2.2.2]
    exact cell 4 _ (by omega) rfl
theorem EdgeRowAt.later {w w' : World} {v : Value} {es : List EdgeS} {cs : List ByteArray} (h : EdgeRowAt w v es cs) (hb : Below w.heap.size w w') : EdgeRowAt w' v es cs := by
  obtain ⟨ao, cap, rfl, q | ⟨g, o, rfl, q⟩⟩ := h
  · exact ⟨ao, cap, rfl, Or.inl q⟩
  · refine ⟨_, cap, rfl, Or.inr ⟨g, o, rfl, fun k e c he hc => ?_⟩⟩
    obtain ⟨vo, vi, vm, vr, ⟨d0, d1, d2, d3, d4, d5⟩, to', ti', tm', tr'⟩ := q k e c he hc
    have kc : ∀ (a : Addr) u, w.cell? a = some u → w'.cell? a = some u := fun a u h => (hb.cell (p := a) (block_lt_of_cell h)).trans h
    exact ⟨vo, vi, vm, vr, ⟨kc _ _ d0, kc _ _ d1, kc _ _ d2, kc _ _ d3, kc _ _ d4, kc _ _ d5⟩, to'.keepB hb, ti'.keepB hb, tm'.keepB hb, tr'.keepB hb⟩
/-- What Order asks of a manifest. -/
structure SGood (S : St) : Prop where
  few : S.edges.length ≤ 64
  edge : ∀ e ∈ S.edges, e.outs.length ≤ 10000 ∧ e.ins.length ≤ 10000 ∧ e.impl.length ≤ 10000 ∧ e.ord.length ≤ 10000 ∧ (∀ x ∈ e.outs, x.size ≤ 32) ∧ ∀ x ∈ depsS e, x.size ≤ 32
  once : (S.edges.flatMap (·.outs)).Nodup
  defs : S.defs.length ≤ 20000000 ∧ ∀ x ∈ S.defs, x.size ≤ 32
theorem makerS_lt {es : List EdgeS} {x : ByteArray} {p : Nat} (h : makerS es x = some p) : p < es.length := by
  unfold makerS at h
  rw [List.findIdx?_eq_some_iff_getElem] at h
  exact h.1
theorem needs_fit (es : List EdgeS) : (∀ i, ∀ n ∈ (needsS es).getD i [], n < (needsS es).length) := by
  intro i n hn
  have hl : (needsS es).length = es.length := by unfold needsS; simp
  rw [hl]
  unfold needsS at hn
  rw [List.getD_eq_getElem?_getD, List.getElem?_map] at hn
  cases he : es[i]? with
  | none => rw [he] at hn; simp at hn
  | some e =>
    rw [he] at hn
    simp only [Option.map_some, Option.getD_some] at hn
    unfold needS at hn
    obtain ⟨x, _, hx⟩ := List.mem_filterMap.1 hn
    exact makerS_lt hx
theorem needs_len {es : List EdgeS} (h : ∀ e ∈ es, e.ins.length ≤ 10000 ∧ e.impl.length ≤ 10000 ∧ e.ord.length ≤ 10000) (i : Nat) : ((needsS es).getD i []).length ≤ 30000 := by
  unfold needsS
  rw [List.getD_eq_getElem?_getD, List.getElem?_map]
  cases he : es[i]? with
  | none => simp
  | some e =>
    simp only [Option.map_some, Option.getD_some]
    have := h e (List.mem_of_getElem? he)
    refine Nat.le_trans (List.length_filterMap_le _ _) ?_
    unfold depsS
    rw [List.length_append, List.length_append]
    omega
theorem texts_ge {w : World} {v : Value} {l : List ByteArray} (h : TextsAt w v l) : ∃ ao cap, v = .slice ao l.length cap ∧ (0 < l.length → ∃ b o, ao = some ⟨b, o, none⟩ ∧ ∀ k s, l[k]? = some s → w.cell? ⟨b, o + k, none⟩ = some (.string s)) := by
  obtain ⟨ao, cap, rfl, _, ⟨_, q, _⟩ | ⟨b, o, rfl, q⟩⟩ := h
  · exact ⟨ao, cap, rfl, fun hp => by rw [q] at hp; simp at hp⟩
  · exact ⟨_, cap, rfl, fun _ => ⟨b, o, rfl, q⟩⟩
def orderEnd (a : Nat → Addr) (W0 : Nat) (r : Except NoOrder (List Nat)) (e : Ending) (w' : World) : Prop := match r with
  | .error false => e = .returned (.tuple #[.slice none 0 0, reasonV a 7])
  | .error true => e = .returned (.tuple #[.slice none 0 0, reasonV a 8])
  | .ok o => ∃ v, e = .returned (.tuple #[v, .nilIface]) ∧ w'.ownsRow W0 3 1 v o.length (natsV o)
theorem walksS_some {N : List (List Nat)} {mk : ByteArray → Option Nat} {x : ByteArray} {xs : List ByteArray} {s o : List Nat} {p : Nat} (h : mk x = some p) : walksS N mk (x :: xs) s o = walksS N mk xs (visitS N p s o).2.1 (visitS N p s o).2.2 := by
  rw [walksS, h]
theorem flat_len : ∀ (es : List EdgeS), (∀ e ∈ es, e.outs.length ≤ 10000) → (es.flatMap (·.outs)).length ≤ es.length * 10000
  | [], _ => Nat.zero_le _
  | e :: es, h => by
    have ih := flat_len es (fun x hx => h x (List.mem_cons_of_mem _ hx))
    have h1 := h e (List.mem_cons_self ..)
    rw [List.flatMap_cons, List.length_append, List.length_cons]
    omega
theorem NeedsAt.keep {w w' : World} {gN : Nat} {N : List (List Nat)} (h : NeedsAt w gN N) (hb : Below w.heap.size w w') : NeedsAt w' gN N := fun i l hi => by
  obtain ⟨v, hc, hv⟩ := h i l hi
  exact ⟨v, (hb.cell (p := ⟨gN, i, none⟩) (block_lt_of_cell hc)).trans hc, hv.keep (fun k hk => hb.block k hk)⟩
set_option maxHeartbeats 16000000 in
theorem order_any {W0 : Nat} {S : St} {cs : List ByteArray} {mb : Nat} {w : World} {a : Nat → Addr} (h : ManAt W0 S cs mb w) (hg : Gl a w) (hS : SGood S) {vt : Value} {ts : List ByteArray} (ht : TextsAt w vt ts) (htl : ts.length ≤ 1048576) (hts : ∀ x ∈ ts, x.size ≤ maxLen) :
    Calls Tryz.prog 47 #[.pointer (some ⟨mb, 0, none⟩), vt] w fun e w' => orderEnd a w.heap.size (orderS S ts) e w' ∧ Below w.heap.size w w' := by
  obtain ⟨ev, dv, hman, hrow, hdef, hcl⟩ := h.edges
  obtain ⟨aoe, cape, hev, _⟩ := id hrow
  obtain ⟨aod, capd, hdv, _⟩ := texts_ge hdef
  obtain ⟨aot, capt, hvt, _⟩ := texts_ge ht
  subst hev hdv hvt
  have c0 : w.cell? ⟨mb, 0, none⟩ = some (.slice aoe S.edges.length cape) := by rw [cell_of_row _ _ _ _ _ _ hman]; rfl
  have hmlt := heap_lt hman
  have HMAN : Hid (w.heap[mb]? = some (.cells #[.slice aoe S.edges.length cape, .slice aod S.defs.length capd] 101 (0, 0))) := hman
  have HROW : Hid (EdgeRowAt w (.slice aoe S.edges.length cape) S.edges cs ∧ cs.length = S.edges.length) := ⟨hrow, hcl⟩
  have HDEF : Hid (TextsAt w (.slice aod S.defs.length capd) S.defs) := hdef
  have HTS : Hid (TextsAt w (.slice aot ts.length capt) ts ∧ ts.length ≤ 1048576 ∧ ∀ x ∈ ts, x.size ≤ maxLen) := ⟨ht, htl, hts⟩
  have HG : Hid (Gl a w) := hg
  have HS : Hid (SGood S) := hS
  have HMK : Hid (Calls Tryz.prog 67 #[.slice aoe S.edges.length cape] w fun e w' => ∃ mb n, e = .returned (.map (some mb)) ∧ TMap intC (.int .i64 0) w' mb n (mkV (makerS S.edges)) ∧ w.heap.size ≤ mb ∧ n ≤ 1000000 ∧ Below w.heap.size w w') := makersOf_any hrow hS.few hcl (fun e he => ⟨(hS.edge e he).1, (hS.edge e he).2.2.2.2.1⟩) hS.once
  obtain ⟨R, hR⟩ : ∃ R, R = orderS S ts := ⟨_, rfl⟩
  rw [← hR]
  have HR : Hid (R = orderS S ts) := hR
  clear hR h hg hS ht htl hts hman hrow hdef hcl
  go_enter Tryz.func47, Tryz.ntmps47
  go_wp2_with fail
  refine HMK.out.mono ?_
  rintro e w1 ⟨mb1, n1, rfl, hmap1, hlow1, hn1, hb1⟩
  have HB1 : Hid (Below w.heap.size w w1) := hb1
  have HMP : Hid (TMap intC (.int .i64 0) w1 mb1 n1 (mkV (makerS S.edges))) := hmap1
  have d0 : w1.cell? ⟨mb, 0, none⟩ = some (.slice aoe S.edges.length cape) := (hb1.cell (p := ⟨mb, 0, none⟩) hmlt).trans c0
  have HND : Hid (Calls Tryz.prog 68 #[.slice aoe S.edges.length cape, .map (some mb1)] w1 fun e w' => ∃ gN, e = .returned (.slice (some ⟨gN, 0, none⟩) S.edges.length S.edges.length) ∧ NeedsAt w' gN (needsS S.edges) ∧ Below w1.heap.size w1 w') := needsOf_any (HROW.out.1.later hb1) hmap1 HS.out.few HROW.out.2 (fun e he => ⟨(HS.out.edge e he).2.1, (HS.out.edge e he).2.2.1, (HS.out.edge e he).2.2.2.1, (HS.out.edge e he).2.2.2.2.2⟩)
  clear hmap1 hlow1 hn1 hb1 HMK c0
  go_wp2_with fail
  refine HND.out.mono ?_
  rintro e w2 ⟨gN, rfl, hnd, hb2⟩
  have HNL : Hid ((needsS S.edges).length = S.edges.length) := by show _ = _; unfold needsS; simp
  have HNF : Hid ((∀ i, ∀ n ∈ (needsS S.edges).getD i [], n < (needsS S.edges).length) ∧ ∀ i, ((needsS S.edges).getD i []).length ≤ 30000) := ⟨needs_fit S.edges, needs_len (fun e he => ⟨(HS.out.edge e he).2.1, (HS.out.edge e he).2.2.1, (HS.out.edge e he).2.2.2.1⟩)⟩
  have HB2 : Hid (Below w.heap.size w w2 ∧ Below w1.heap.size w1 w2) := ⟨HB1.out.trans (hb2.mono HB1.out.size), hb2⟩
  have HN2 : Hid (NeedsAt w2 gN (needsS S.edges)) := hnd
  have HRU := runsOut_any (cN := S.edges.length) hnd (by rw [HNL.out]; have := HS.out.few; omega) HNF.out.1 HNF.out.2
  rw [HNL.out] at HRU
  have HRU : Hid (Calls Tryz.prog 69 #[.slice (some ⟨gN, 0, none⟩) S.edges.length S.edges.length] w2 fun e w' => e = .returned (.bool (runsS (needsS S.edges) (List.range S.edges.length) (zerosS S.edges.length) [])) ∧ Below w2.heap.size w2 w') := HRU
  clear hnd hb2 HND d0
  generalize hrb : runsS (needsS S.edges) (List.range S.edges.length) (zerosS S.edges.length) [] = rb at *
  have HRB : Hid (runsS (needsS S.edges) (List.range S.edges.length) (zerosS S.edges.length) [] = rb) := hrb
  clear hrb
  go_wp2_with fail
  refine HRU.out.mono ?_
  rintro e w3 ⟨rfl, hb3⟩
  have HB3 : Hid (Below w.heap.size w w3 ∧ Below w1.heap.size w1 w3 ∧ Below w2.heap.size w2 w3) := ⟨HB2.out.1.trans (hb3.mono HB2.out.1.size), HB2.out.2.trans (hb3.mono HB2.out.2.size), hb3⟩
  have HG3 : Hid (Gl a w3) := HG.out.below HB3.out.1 HG.out.size
  have g7 : w3.cell? ⟨7, 0, none⟩ = some (.iface 472 (.pointer (some (a 7)))) := HG3.out.errs 7 (by decide)
  clear hb3 HRU
  cases rb with
  | false =>
    have hRe : R = .error false := by rw [HR.out]; unfold orderS; rw [HRB.out]; rfl
    subst hRe
    clear HR
    go_wp2
    go_quiet (fail)
    have HB4 : Hid (Below w.heap.size w (w3.drewN nq)) := HB3.out.1.trans ⟨rfl, rfl, rfl, Nat.le_refl _, fun _ _ => rfl⟩
    generalize w3.drewN nq = w4 at *
    go_wp2
    go_ret2
    exact ⟨rfl, HB4.out⟩
  | true =>
    have hmlt3 : mb < w3.heap.size := Nat.lt_of_lt_of_le hmlt HB3.out.1.size
    have hman3 : w3.heap[mb]? = _ := (HB3.out.1.block mb hmlt).trans HMAN.out
    have m0 : w3.cell? ⟨mb, 0, none⟩ = some (.slice aoe S.edges.length cape) := by rw [cell_of_row _ _ _ _ _ _ hman3]; rfl
    have m1 : w3.cell? ⟨mb, 1, none⟩ = some (.slice aod S.defs.length capd) := by rw [cell_of_row _ _ _ _ _ _ hman3]; rfl
    have HRT : Hid (∀ T, T = goalsS S ts → R = match walksS (needsS S.edges) (makerS S.edges) T (zerosS S.edges.length) [] with
      | none => .error true
      | some o => .ok o) := fun T hT => by
      rw [HR.out, hT]
      unfold orderS
      rw [HRB.out]
      rfl
    have HLO : Hid (Calls Tryz.prog 70 #[.slice aoe S.edges.length cape] w3 fun e w' => ∃ v', e = .returned v' ∧ w'.ownsRow w3.heap.size 9 1 v' (lastS S.edges).length ((lastS S.edges).map Value.string) ∧ Below w3.heap.size w3 w') := lastOuts_any (HROW.out.1.later HB3.out.1) HS.out.few HROW.out.2 HS.out.edge
    clear hman3 HR HRB g7 HG3
    by_cases h0 : ts.length = 0
    case' neg =>
      have b0 : (((ts.length : Nat) : Int) == 0) = false := beq_eq_false_iff_ne.2 (by omega)
      have hgo : ts = goalsS S ts := by unfold goalsS; rw [if_pos (fun e => h0 (by rw [e]; rfl))]
      have HT4 : Hid (TextsAt w3 (.slice aot ts.length capt) ts ∧ ts.length ≤ 20000000 ∧ ∀ x ∈ ts, x.size ≤ maxLen) := ⟨HTS.out.1.keepB HB3.out.1, by have := HTS.out.2.1; omega, HTS.out.2.2⟩
      have HR4 : Hid (R = _) := HRT.out ts hgo
      clear HLO m0 m1 h0 hgo HRT
      go_wp2_with fail
      obtain ⟨T, hT⟩ : ∃ T, T = ts := ⟨_, rfl⟩
      obtain ⟨aT, haT⟩ : ∃ x, x = aot := ⟨_, rfl⟩
      obtain ⟨capT, hcT⟩ : ∃ x, x = capt := ⟨_, rfl⟩
      obtain ⟨w4, hw4⟩ : ∃ x, x = w3 := ⟨_, rfl⟩
      have HB4 : Hid (Below w.heap.size w w4 ∧ Below w1.heap.size w1 w4 ∧ Below w2.heap.size w2 w4) := by rw [hw4]; exact HB3.out
      rw [← hw4, ← hT, ← haT, ← hcT]
      rw [← hw4, ← hT, ← haT, ← hcT] at HT4
      rw [← hT] at HR4
      clear hw4 hT haT hcT b0 HB3
    case' pos =>
      have hts0 : ts = [] := List.eq_nil_of_length_eq_zero h0
      have b0 : (((ts.length : Nat) : Int) == 0) = true := by rw [h0]; rfl
      by_cases h1 : S.defs.length = 0
      case' neg =>
        have b1 : (((S.defs.length : Nat) : Int) == 0) = false := beq_eq_false_iff_ne.2 (by omega)
        have hgo : S.defs = goalsS S ts := by unfold goalsS; rw [if_neg (fun e => e hts0), if_pos (fun e => h1 (by rw [e]; rfl))]
        have HT4 : Hid (TextsAt w3 (.slice aod S.defs.length capd) S.defs ∧ S.defs.length ≤ 20000000 ∧ ∀ x ∈ S.defs, x.size ≤ maxLen) := ⟨HDEF.out.keepB HB3.out.1, HS.out.defs.1, fun x hx => by have := HS.out.defs.2 x hx; unfold maxLen; omega⟩
        have HR4 : Hid (R = _) := HRT.out S.defs hgo
        clear HLO m0 h1 hgo HRT hts0 h0
        go_wp2_with fail
        obtain ⟨T, hT⟩ : ∃ T, T = S.defs := ⟨_, rfl⟩
        obtain ⟨aT, haT⟩ : ∃ x, x = aod := ⟨_, rfl⟩
        obtain ⟨capT, hcT⟩ : ∃ x, x = capd := ⟨_, rfl⟩
        obtain ⟨w4, hw4⟩ : ∃ x, x = w3 := ⟨_, rfl⟩
        have HB4 : Hid (Below w.heap.size w w4 ∧ Below w1.heap.size w1 w4 ∧ Below w2.heap.size w2 w4) := by rw [hw4]; exact HB3.out
        rw [← hw4, ← hT, ← haT, ← hcT]
        rw [← hw4, ← hT, ← haT, ← hcT] at HT4
        rw [← hT] at HR4
        clear hw4 hT haT hcT b0 b1 m1 HB3
      case' pos =>
        have b1 : (((S.defs.length : Nat) : Int) == 0) = true := by rw [h1]; rfl
        have hgo : lastS S.edges = goalsS S ts := by unfold goalsS; rw [if_neg (fun e => e hts0), if_neg (fun e => e (List.eq_nil_of_length_eq_zero h1))]
        have HR4 : Hid (R = _) := HRT.out (lastS S.edges) hgo
        have HLL : Hid ((lastS S.edges).length ≤ 20000000 ∧ ∀ x ∈ lastS S.edges, x.size ≤ maxLen) := by
          refine ⟨Nat.le_trans (List.length_filter_le _ _) ?_, fun x hx => ?_⟩
          · refine Nat.le_trans (flat_len S.edges (fun e he => (HS.out.edge e he).1)) ?_
            have := HS.out.few
            omega
          · obtain ⟨e, he, hxe⟩ := List.mem_flatMap.1 (List.mem_filter.1 hx).1
            have := (HS.out.edge e he).2.2.2.2.1 x hxe
            unfold maxLen; omega
        clear h1 hgo HRT hts0 h0
        go_wp2_with fail
        refine HLO.out.mono ?_
        rintro e w4 ⟨v4, rfl, hv4, hb4⟩
        obtain ⟨aT, capT, hvT, _, _⟩ := row_form hv4
        have HT4 : Hid (TextsAt w4 v4 (lastS S.edges) ∧ (lastS S.edges).length ≤ 20000000 ∧ ∀ x ∈ lastS S.edges, x.size ≤ maxLen) := ⟨texts_of_row hv4, HLL.out⟩
        have HB4 : Hid (Below w.heap.size w w4 ∧ Below w1.heap.size w1 w4 ∧ Below w2.heap.size w2 w4) := ⟨HB3.out.1.trans (hb4.mono HB3.out.1.size), HB3.out.2.1.trans (hb4.mono HB3.out.2.1.size), HB3.out.2.2.trans (hb4.mono HB3.out.2.2.size)⟩
        obtain ⟨T, hT⟩ : ∃ T, T = lastS S.edges := ⟨_, rfl⟩
        subst hvT
        rw [← hT] at HT4 HR4
        rw [← hT]
        clear hT hv4 hb4 HLO HLL b0 b1 m0 m1 HB3
        go_wp2_with fail
    all_goals
      have HNW := newWalk_any (cN := S.edges.length) (HN2.out.keep HB4.out.2.2) (by rw [HNL.out]; have := HS.out.few; omega)
      have hfew := HS.out.few
      have HFZ : Hid (Fits (needsS S.edges) [] (zerosS S.edges.length) ∧ unseenW (needsS S.edges) (zerosS S.edges.length) 0 ≤ 1000 * 30002) := by
        have h1 := fits_zeros HNF.out.1
        rw [HNL.out] at h1
        have h2 := unseenW_le (needsS S.edges) HNF.out.2 (zerosS S.edges.length) 0
        refine ⟨h1, ?_⟩
        simp only [zerosS, List.length_replicate] at h2 ⊢
        omega
      rw [HNL.out] at HNW
      have HNW : Hid (Calls Tryz.prog 71 #[.slice (some ⟨gN, 0, none⟩) S.edges.length S.edges.length] w4 fun e w' => ∃ wb gs, e = .returned (.pointer (some ⟨wb, 0, none⟩)) ∧ WalkAt w4 wb gN S.edges.length gs S.edges.length (needsS S.edges) (.slice none 0 0) (zerosS S.edges.length) [] w') := HNW
      refine HNW.out.mono ?_
      rintro e w5 ⟨wb, gs, rfl, hwk⟩
      have HWK : Hid (WalkAt w4 wb gN S.edges.length gs S.edges.length (needsS S.edges) (.slice none 0 0) (zerosS S.edges.length) [] w5) := hwk
      clear hwk HNW
      generalize hTL : T.length = TL at *
      have HTL : Hid (T.length = TL) := hTL
      have t0 : (TL : Int) ≤ 20000000 := by have := HT4.out.2.1; omega
      clear hTL
      generalize hL : S.edges.length = L at *
      have HL : Hid (S.edges.length = L) := hL
      clear hL
      generalize hN : needsS S.edges = N at *
      clear hN
      go_wp2_with fail
      go_loopw [47] (fun i wr => ∃ (k : Nat) (vo : Value) (s o : List Nat), i = .int .i64 k ∧ k ≤ TL ∧ WalkAt w4 wb gN L gs L N vo s o wr ∧ Fits N [] s ∧ (R = match walksS N (makerS S.edges) (T.drop k) s o with
        | none => .error true
        | some o => .ok o) ∧ o.length + unseenW N s 0 ≤ 1000 * 30002 + k * 30001) (fun i _ => TL - (intOf i).toNat)
      case atStart => exact ⟨0, _, _, [], rfl, Nat.zero_le _, HWK.out, HFZ.out.1, HR4.out, by have := HFZ.out.2; simp only [List.length_nil]; omega⟩
      case round =>
        clear HWK HFZ HR4
        obtain ⟨k, vo, s, o, rfl, hk, hwk, hfi, hrun, hbd⟩ := hrel
        have HWK : Hid (WalkAt w4 wb gN L gs L N vo s o wr) := hwk
        have HJ : Hid (Fits N [] s ∧ (R = match walksS N (makerS S.edges) (T.drop k) s o with
          | none => .error true
          | some o => .ok o) ∧ o.length + unseenW N s 0 ≤ 1000 * 30002 + k * 30001) := ⟨hfi, hrun, hbd⟩
        have hbw : Below w.heap.size w wr := HB4.out.1.trans (hwk.bl.mono HB4.out.1.size)
        have HBW : Hid (Below w.heap.size w wr) := hbw
        have k0 : (0 : Int) ≤ (k : Int) := by omega
        by_cases hlt : k < TL
        · have k1 : (k : Int) < (TL : Int) := by omega
          obtain ⟨x, hx⟩ : ∃ x, T[k]? = some x := ⟨T[k]'(by have := HTL.out; omega), by simp⟩
          obtain ⟨aT', capT', hvT, hgT⟩ := texts_ge (HT4.out.1.keepB hwk.bl)
          injection hvT with e1 e2 e3
          subst e1 e3
          obtain ⟨b, o3, hab, hct⟩ := hgT (by have := HTL.out; omega)
          subst hab
          have cx : wr.cell? ⟨b, o3 + k, none⟩ = some (.string x) := hct k x hx
          have hxs : x.size ≤ maxLen := HT4.out.2.2 x (List.mem_of_getElem? hx)
          have hmw := (HMP.out.keep (w' := wr) ((hwk.bl.block mb1 (Nat.lt_of_lt_of_le HMP.out.lt HB4.out.2.1.size)).trans (HB4.out.2.1.block mb1 HMP.out.lt))).look_ok (t := 136) Tryz.underlying136 zero_int x hxs
          have hdr : T.drop k = x :: T.drop (k + 1) := by
            rw [List.drop_eq_getElem_cons (List.getElem?_eq_some_iff.1 hx).1, (List.getElem?_eq_some_iff.1 hx).2]
          have g8 : wr.cell? ⟨8, 0, none⟩ = some (.iface 472 (.pointer (some (a 8)))) := (HG.out.below hbw HG.out.size).errs 8 (by decide)
          cases hmx : makerS S.edges x with
          | none =>
            have hf : mkV (makerS S.edges) x = none := by unfold mkV; rw [hmx]; rfl
            rw [hf] at hmw
            simp only [Option.getD_none, Option.isSome_none] at hmw
            have hRe : R = .error true := by rw [hrun, hdr]; unfold walksS; rw [hmx]
            subst hRe
            clear hwk hfi hrun hbd hbw e2 hct hgT hf hdr hmx hx HJ
            go_wp2
            go_quiet (fail)
            have HB9 : Hid (Below w.heap.size w (wr.drewN nq)) := HBW.out.trans ⟨rfl, rfl, rfl, Nat.le_refl _, fun _ _ => rfl⟩
            generalize wr.drewN nq = w9 at *
            go_wp2
            go_ret2
            exact ⟨rfl, HB9.out⟩
          | some p =>
            have hf : mkV (makerS S.edges) x = some (.int .i64 (p : Nat)) := by unfold mkV; rw [hmx]; rfl
            rw [hf] at hmw
            simp only [Option.getD_some, Option.isSome_some] at hmw
            have hpN : p < N.length := by rw [HNL.out, ← HL.out]; exact makerS_lt hmx
            have HVI : Hid (Calls Tryz.prog 72 #[.pointer (some ⟨wb, 0, none⟩), .int .i64 (p : Nat)] wr fun e w' => e = .returned (.bool (visitS N p s o).1) ∧ ∃ vo', WalkAt w4 wb gN L gs L N vo' (visitS N p s o).2.1 (visitS N p s o).2.2 w') := visit_any (by have := hwk; rw [← HNL.out] at this ⊢; exact this) hfi hpN (by rw [HNL.out]; omega) (by have := HNF.out.2 p; omega)
            have hvb := visit_bound (o := o) hfi hpN
            have HVB : Hid ((visitS N p s o).2.2.length + unseenW N (visitS N p s o).2.1 0 ≤ 1000 * 30002 + (k + 1) * 30001 ∧ Fits N [] (visitS N p s o).2.1) := ⟨by have := HNF.out.2 p; have := hvb.1; omega, hvb.2⟩
            have HDR : Hid (R = match walksS N (makerS S.edges) (T.drop (k + 1)) (visitS N p s o).2.1 (visitS N p s o).2.2 with
              | none => .error true
              | some o => .ok o) := by
              show _ = _
              rw [hrun, hdr, walksS_some hmx]
            clear hvb hdr hwk hfi hrun hbd hbw e2 hct hgT hf hmx hx HJ
            generalize visitS N p s o = V at *
            obtain ⟨vb, vs, vo2⟩ := V
            simp only at HVI HVB HDR
            go_wp2_with fail
            refine HVI.out.mono ?_
            rintro e w6 ⟨rfl, vo3, hwk3⟩
            have HW3 : Hid (WalkAt w4 wb gN L gs L N vo3 vs vo2 w6) := hwk3
            clear hwk3 HVI
            go_wp2
            exact ⟨⟨k + 1, vo3, vs, vo2, by go_num, by omega, HW3.out, HVB.out.2, HDR.out, HVB.out.1⟩, by simp [intOf]; omega⟩
        · obtain rfl : k = TL := by omega
          have hRe : R = .ok o := by
            rw [hrun, List.drop_eq_nil_of_le (Nat.le_of_eq HTL.out)]; rfl
          subst hRe
          obtain ⟨aoo, capo, hvo, _, _⟩ := row_form hwk.order
          have c2 : wr.cell? ⟨wb, 2, none⟩ = some vo := by rw [cell_of_row _ _ _ _ _ _ hwk.row]; rfl
          subst hvo
          have HFIN : Hid (wr.ownsRow w.heap.size 3 1 (.slice aoo o.length capo) o.length (natsV o) ∧ Below w.heap.size w wr) := ⟨row_mono hwk.order HB4.out.1.size, hbw⟩
          clear hwk hfi hrun hbd hbw HJ HWK
          go_wp2
          go_ret2
          exact ⟨⟨_, rfl, HFIN.out.1⟩, HFIN.out.2⟩
end Go.Proofs.YthhbpebihgjpjaaGreatDoor
