import Derived.Test.YthhbpebihgjpjaaGreatDoorK34
namespace Go.Proofs.YthhbpebihgjpjaaGreatDoor
open Go.RowKit Go.Maps
set_option maxRecDepth 1000000

theorem made_nils (n : Nat) : (madeCells (Value.slice none 0 0).cells (n * 1)).toList = List.replicate n (Value.slice none 0 0) := by
  have h1 : (Value.slice none 0 0).cells = #[.slice none 0 0] := rfl
  rw [h1, Nat.mul_one]
  unfold madeCells
  refine List.ext_getElem (by simp) (fun i h1 h2 => ?_)
  simp [Nat.mod_one]
theorem ints_of_row {w : World} {B : Nat} {v : Value} {l : List Nat} (h : w.ownsRow B 3 1 v l.length (natsV l)) : IntsAt w v l := by
  obtain ⟨ao, cap, rfl, hc, hg⟩ := row_form h
  refine ⟨ao, cap, rfl, hc, ?_⟩
  by_cases h0 : l = []
  · exact Or.inl h0
  · obtain ⟨g, rfl⟩ := hg (List.length_pos_iff.2 h0)
    exact Or.inr ⟨g, 0, rfl, fun k x hx => by rw [Nat.zero_add]; exact (row_cell h k _ (natsV_at hx)).1⟩
/-- needs, as far as they are told: those of the first j edges. -/
structure NeedSt (w0 : World) (gN n : Nat) (es : List EdgeS) (j : Nat) (vs : List Value) (w : World) : Prop where
  row : w.ownsRow w0.heap.size 48 1 (.slice (some ⟨gN, 0, none⟩) n n) n vs
  len : vs.length = n
  told : ∀ i e, i < j → es[i]? = some e → ∃ v, vs[i]? = some v ∧ IntsAt w v (needS es e) ∧ ∀ b o m c, v = .slice (some ⟨b, o, none⟩) m c → 0 < m → b ≠ gN
  rest : ∀ i, j ≤ i → i < n → vs[i]? = some (.slice none 0 0)
  bl : Below w0.heap.size w0 w
theorem NeedSt.later {w0 : World} {gN n : Nat} {es : List EdgeS} {j : Nat} {vs : List Value} {w w' : World} (h : NeedSt w0 gN n es j vs w) (hb : Below w.heap.size w w') : NeedSt w0 gN n es j vs w' where
  row := rkeep h.row (fun k hk => hb.block k (rblock h.row k hk).2)
  len := h.len
  told := fun i e hi he => by
    obtain ⟨v, h1, h2, h3⟩ := h.told i e hi he
    exact ⟨v, h1, h2.keep (fun k hk => hb.block k hk), h3⟩
  rest := h.rest
  bl := h.bl.trans (hb.mono h.bl.size)
/-- One edge's needs more: v's row lies behind what was there. -/
theorem NeedSt.tell {w0 : World} {gN n : Nat} {es : List EdgeS} {j : Nat} {vs : List Value} {w w' : World} {v : Value} {e0 : EdgeS} (h : NeedSt w0 gN n es j vs w) (he : es[j]? = some e0) (hj : j < n) (hr : w'.ownsRow w0.heap.size 48 1 (.slice (some ⟨gN, 0, none⟩) n n) n (vs.set j v)) (hv : w'.ownsRow w.heap.size 3 1 v (needS es e0).length (natsV (needS es e0))) (hk : ∀ k, k < w.heap.size → k ≠ gN → w'.heap[k]? = w.heap[k]?) (hb : Below w0.heap.size w0 w') : NeedSt w0 gN n es (j + 1) (vs.set j v) w' where
  row := hr
  len := by rw [List.length_set]; exact h.len
  told := fun i e hi he' => by
    by_cases hij : i = j
    · subst hij
      obtain rfl : e0 = e := Option.some.inj (he.symm.trans he')
      refine ⟨v, by rw [List.getElem?_set_self (by rw [h.len]; exact hj)], ints_of_row hv, fun b o m c hq hm e => ?_⟩
      have h1 := (rblock h.row gN rfl).2
      subst hq
      obtain ⟨ao, cap, hf, _, hg⟩ := row_form hv
      injection hf with f1 f2 f3
      obtain ⟨g, hg⟩ := hg (by omega)
      rw [hg] at f1
      injection f1 with f1
      injection f1 with f1 f4 _
      have h2 := (rblock hv b (by rw [f4]; rfl)).1
      omega
    · obtain ⟨u, h1, h2, h3⟩ := h.told i e (by omega) he'
      refine ⟨u, by rw [List.getElem?_set_ne (fun q => hij q.symm)]; exact h1, ?_, h3⟩
      obtain ⟨ao, cap, rfl, hc, hl | ⟨b, o, rfl, hl⟩⟩ := h2
      · exact ⟨ao, cap, rfl, hc, Or.inl hl⟩
      · refine ⟨_, cap, rfl, hc, ?_⟩
        by_cases h0 : needS es e = []
        · exact Or.inl h0
        · refine Or.inr ⟨b, o, rfl, fun k x hx => ?_⟩
          have := hl k x hx
          exact (World.cell?_of_block (w := w) (a := ⟨b, o + k, none⟩) (hk b (block_lt_of_cell this) (h3 b o _ cap rfl (List.length_pos_iff.2 h0)))).trans this
  rest := fun i hi hn => by
    rw [List.getElem?_set_ne (by omega)]
    exact h.rest i (by omega) hn
  bl := hb
theorem zero_int (w : World) : (zeroValue 3).run Tryz.prog w = .ok (.int .i64 0) w := by
  kernel_rfl
set_option maxHeartbeats 8000000 in
theorem needsOf_any {w : World} {v : Value} {es : List EdgeS} {cs : List ByteArray} {mb nm : Nat} (h : EdgeRowAt w v es cs) (hmap : TMap intC (.int .i64 0) w mb nm (mkV (makerS es))) (hl : es.length ≤ 64) (hc : cs.length = es.length) (hok : ∀ e ∈ es, e.ins.length ≤ 10000 ∧ e.impl.length ≤ 10000 ∧ e.ord.length ≤ 10000 ∧ ∀ x ∈ depsS e, x.size ≤ 32) :
    Calls Tryz.prog 68 #[v, .map (some mb)] w fun e w' => ∃ gN, e = .returned (.slice (some ⟨gN, 0, none⟩) es.length es.length) ∧ NeedsAt w' gN (needsS es) ∧ Below w.heap.size w w' := by
  have hinf : (Tryz.prog.info? 48).map (fun i => (i.size, i.bytes, i.zero)) = some (1, 24, some (.slice none 0 0)) := by kernel_rfl
  obtain ⟨ti, hti, htj⟩ := Option.map_eq_some_iff.1 hinf
  simp only [Prod.mk.injEq] at htj
  obtain ⟨w2, hmk, ho, hg⟩ := run_makeSlice_full (P := Tryz.prog) w w.heap.size 138 48 ti (.slice none 0 0) 1 Tryz.underlying138 hti htj.2.2 htj.1 .i64 .i64 es.length (by omega) (by rw [htj.2.1]; omega) (by unfold maxLen; omega) (Nat.le_refl _)
  have hb2 : Below w.heap.size w w2 := ⟨hg.os, hg.tape, hg.output, hg.size, fun k hk => hg.block k hk (by simp)⟩
  rw [made_nils] at ho
  clear hinf hti htj
  have hinf : (Tryz.prog.info? 3).map (fun i => (i.size, i.bytes, i.zero)) = some (1, 8, some (.int .i64 0)) := by kernel_rfl
  obtain ⟨tj, hti, htj⟩ := Option.map_eq_some_iff.1 hinf
  simp only [Prod.mk.injEq] at htj
  have HTJ : Hid (Tryz.prog.info? 3 = some tj ∧ tj.size = 1 ∧ tj.bytes = 8 ∧ tj.zero = some (.int .i64 0)) := ⟨hti, htj.1, htj.2.1, htj.2.2⟩
  have HN0 : Hid (NeedSt w w.heap.size es.length es 0 (List.replicate es.length (.slice none 0 0)) w2) := ⟨ho, by simp, fun i e hi => by omega, fun i _ hi => by simp [hi], hb2⟩
  obtain ⟨ao, cap, rfl, hrow⟩ := h
  have HROW : Hid (es = [] ∨ ∃ g o, ao = some ⟨g, o, none⟩ ∧ ∀ (k : Nat) e c, es[k]? = some e → cs[k]? = some c → ∃ vo vi vm vr, (w.cell? ⟨g, o + k * 6, none⟩ = some vo ∧ w.cell? ⟨g, o + k * 6 + 1, none⟩ = some vi ∧ w.cell? ⟨g, o + k * 6 + 2, none⟩ = some vm ∧ w.cell? ⟨g, o + k * 6 + 3, none⟩ = some vr ∧ w.cell? ⟨g, o + k * 6 + 4, none⟩ = some (.string e.rule) ∧ w.cell? ⟨g, o + k * 6 + 5, none⟩ = some (.string c)) ∧ TextsAt w vo e.outs ∧ TextsAt w vi e.ins ∧ TextsAt w vm e.impl ∧ TextsAt w vr e.ord) := hrow
  have HOK : Hid ((∀ e ∈ es, e.ins.length ≤ 10000 ∧ e.impl.length ≤ 10000 ∧ e.ord.length ≤ 10000 ∧ ∀ x ∈ depsS e, x.size ≤ 32) ∧ cs.length = es.length) := ⟨hok, hc⟩
  have HMP : Hid (TMap intC (.int .i64 0) w mb nm (mkV (makerS es))) := hmap
  clear hinf hti htj ho hg hb2 hrow hok hc hmap
  generalize hL : es.length = L at *
  have HL : Hid (es.length = L) := hL
  clear hL
  generalize hgN : w.heap.size = gN at *
  have HGN : Hid (w.heap.size = gN) := hgN
  clear hgN
  have l0 : (L : Int) ≤ 64 := by omega
  go_enter Tryz.func68, Tryz.ntmps68
  go_wp2_with fail
  clear hmk
  go_loopw [17] (fun i wr => ∃ (j : Nat) (vs : List Value), i = .int .i64 j ∧ j ≤ L ∧ NeedSt w gN L es j vs wr) (fun i _ => L - (intOf i).toNat)
  case atStart => exact ⟨0, _, rfl, Nat.zero_le _, HN0.out⟩
  case round =>
    clear HN0
    obtain ⟨j, vs, rfl, hj, hns⟩ := hrel
    have HNS : Hid (NeedSt w gN L es j vs wr) := hns
    have j0 : (0 : Int) ≤ (j : Int) := by omega
    by_cases hlt : j < L
    · have j1 : (j : Int) < (L : Int) := by omega
      obtain ⟨e0, he0⟩ : ∃ e, es[j]? = some e := ⟨es[j]'(by have := HL.out; omega), by simp⟩
      obtain ⟨cm, hcm⟩ : ∃ c, cs[j]? = some c := ⟨cs[j]'(by have := HL.out; have := HOK.out.2; omega), by simp⟩
      obtain ⟨g, o, rfl, hcells⟩ : ∃ g o, ao = some ⟨g, o, none⟩ ∧ ∀ (k : Nat) e c, es[k]? = some e → cs[k]? = some c → ∃ vo vi vm vr, (w.cell? ⟨g, o + k * 6, none⟩ = some vo ∧ w.cell? ⟨g, o + k * 6 + 1, none⟩ = some vi ∧ w.cell? ⟨g, o + k * 6 + 2, none⟩ = some vm ∧ w.cell? ⟨g, o + k * 6 + 3, none⟩ = some vr ∧ w.cell? ⟨g, o + k * 6 + 4, none⟩ = some (.string e.rule) ∧ w.cell? ⟨g, o + k * 6 + 5, none⟩ = some (.string c)) ∧ TextsAt w vo e.outs ∧ TextsAt w vi e.ins ∧ TextsAt w vm e.impl ∧ TextsAt w vr e.ord := by
        rcases HROW.out with q | q
        · exfalso; have := HL.out; rw [q] at this; simp at this; omega
        · exact q
      obtain ⟨vo, vi, vm, vr, ⟨d0, d1, d2, d3, d4, d5⟩, to', ti', tm', tr'⟩ := hcells j e0 cm he0 hcm
      have hbl := hns.bl
      have kc : ∀ (a : Addr) u, w.cell? a = some u → wr.cell? a = some u := fun a u h => (hbl.cell (p := a) (block_lt_of_cell h)).trans h
      have c0 := kc _ _ d0
      have c1 := kc _ _ d1
      have c2 := kc _ _ d2
      have c3 := kc _ _ d3
      have c4 := kc _ _ d4
      have c5 := kc _ _ d5
      obtain ⟨aoo, nO, cO, hvo⟩ : ∃ ao n c, vo = .slice ao n c := by obtain ⟨ao, cap, e, _⟩ := to'; exact ⟨ao, _, cap, e⟩
      obtain ⟨aoi, nI, cI, hvi⟩ : ∃ ao n c, vi = .slice ao n c := by obtain ⟨ao, cap, e, _⟩ := ti'; exact ⟨ao, _, cap, e⟩
      obtain ⟨aom, nM, cM, hvm⟩ : ∃ ao n c, vm = .slice ao n c := by obtain ⟨ao, cap, e, _⟩ := tm'; exact ⟨ao, _, cap, e⟩
      obtain ⟨aor, nR, cR, hvr⟩ : ∃ ao n c, vr = .slice ao n c := by obtain ⟨ao, cap, e, _⟩ := tr'; exact ⟨ao, _, cap, e⟩
      subst hvo hvi hvm hvr
      have HE : Hid (es[j]? = some e0) := he0
      obtain ⟨hi1, hi2, hi3, hi4⟩ := HOK.out.1 e0 (List.mem_of_getElem? he0)
      have HDS : Hid ((∀ x ∈ depsS e0, x.size ≤ 32) ∧ (depsS e0).length ≤ 30000) := ⟨hi4, by unfold depsS; rw [List.length_append, List.length_append]; omega⟩
      obtain ⟨wa, hwa⟩ : ∃ wa, wa = wr.alloc (.cells #[.slice aoo nO cO, .slice aoi nI cI, .slice aom nM cM, .slice aor nR cR, .string e0.rule, .string cm] 63) := ⟨_, rfl⟩
      have hba : Below wr.heap.size wr wa := by rw [hwa]; exact (Below.refl _ _).alloc (Nat.le_refl _) _
      have hbwa : Below w.heap.size w wa := hbl.trans (hba.mono hbl.size)
      have HFN : Hid (Calls Tryz.prog 116 #[.agg #[.slice aoo nO cO, .slice aoi nI cI, .slice aom nM cM, .slice aor nR cR, .string e0.rule, .string cm]] wa fun e' w' => ∃ v, e' = .returned v ∧ w'.ownsRow wa.heap.size 9 1 v (depsS e0).length ((depsS e0).map Value.string) ∧ Below wa.heap.size wa w') := filesNeeded_any e0 ⟨_, _, _, rfl⟩ (ti'.keepB hbwa) (tm'.keepB hbwa) (tr'.keepB hbwa) hi1 hi2 hi3
      have HNA : Hid (NeedSt w gN L es j vs wa) := hns.later hba
      have HWA : Hid (wa = wr.alloc (.cells #[.slice aoo nO cO, .slice aoi nI cI, .slice aom nM cM, .slice aor nR cR, .string e0.rule, .string cm] 63)) := hwa
      have ca : ∀ i u, (#[.slice aoo nO cO, .slice aoi nI cI, .slice aom nM cM, .slice aor nR cR, .string e0.rule, .string cm] : Array Value)[i]? = some u → (wr.alloc (.cells #[.slice aoo nO cO, .slice aoi nI cI, .slice aom nM cM, .slice aor nR cR, .string e0.rule, .string cm] 63)).cell? ⟨wr.heap.size, i, none⟩ = some u := fun i u hu => by rw [cell_of_row _ _ _ _ _ _ (heapA_new wr _ _ rfl)]; exact hu
      have a0 := ca 0 _ rfl
      have a1 := ca 1 _ rfl
      have a2 := ca 2 _ rfl
      have a3 := ca 3 _ rfl
      have a4 := ca 4 _ rfl
      have a5 := ca 5 _ rfl
      clear kc d0 d1 d2 d3 d4 d5 to' ti' tm' tr' hcells hns hbl he0 hcm hi1 hi2 hi3 hi4 hwa hba hbwa ca
      go_wp2_with fail
      rw [← HWA.out]
      clear a0 a1 a2 a3 a4 a5 c0 c1 c2 c3 c4 c5
      refine HFN.out.mono ?_
      rintro e1 ws ⟨vf, rfl, hvf, hbs⟩
      have HNW : Hid (NeedSt w gN L es j vs ws) := HNA.out.later hbs
      obtain ⟨af, capf, hvf', _, hgf⟩ := row_form hvf
      have HVF : Hid (ws.ownsRow wa.heap.size 9 1 vf (depsS e0).length ((depsS e0).map Value.string)) := hvf
      have HGF : Hid (0 < (depsS e0).length → ∃ g, af = some ⟨g, 0, none⟩) := hgf
      generalize hFL : (depsS e0).length = FL at *
      have HFL : Hid ((depsS e0).length = FL) := hFL
      have f0 : (FL : Int) ≤ 30000 := by have := HDS.out.2; omega
      clear hFL hvf hbs hgf
      subst hvf'
      have hset : vs.set j (.slice none 0 0) = vs := by
        refine List.ext_getElem? (fun i => ?_)
        by_cases q : i = j
        · subst q; rw [List.getElem?_set_self (by rw [HNW.out.len]; exact hlt), HNW.out.rest i (Nat.le_refl _) hlt]
        · rw [List.getElem?_set_ne (fun e => q e.symm)]
      have HST : Hid (ws.ownsRow w.heap.size 48 1 (.slice (some ⟨gN, 0, none⟩) L L) L (vs.set j (.slice none 0 0))) := by rw [hset]; exact HNW.out.row
      clear hset HFN HNA HNS
      go_wp2_with fail
      go_loopw [25] (fun i wr => ∃ (k : Nat) (vj : Value) (l : List Nat), i = .int .i64 k ∧ k ≤ FL ∧ l = ((depsS e0).take k).filterMap (makerS es) ∧ wr.ownsRow w.heap.size 48 1 (.slice (some ⟨gN, 0, none⟩) L L) L (vs.set j vj) ∧ wr.ownsRow ws.heap.size 3 1 vj l.length (natsV l) ∧ (∀ k, k < ws.heap.size → k ≠ gN → wr.heap[k]? = ws.heap[k]?) ∧ Below w.heap.size w wr ∧ ws.heap.size ≤ wr.heap.size) (fun i _ => FL - (intOf i).toNat)
      case atStart => exact ⟨0, .slice none 0 0, [], rfl, Nat.zero_le _, rfl, HST.out, World.ownsRow_nil _ _ _ _, fun _ _ _ => rfl, HNW.out.bl, Nat.le_refl _⟩
      case round =>
        clear HST
        obtain ⟨k, vj, l, rfl, hk, hlk, hrw, hvj, hkp, hbl, hsz⟩ := hrel
        have HS : Hid (l = ((depsS e0).take k).filterMap (makerS es) ∧ wr.ownsRow w.heap.size 48 1 (.slice (some ⟨gN, 0, none⟩) L L) L (vs.set j vj) ∧ wr.ownsRow ws.heap.size 3 1 vj l.length (natsV l) ∧ (∀ k, k < ws.heap.size → k ≠ gN → wr.heap[k]? = ws.heap[k]?) ∧ Below w.heap.size w wr ∧ ws.heap.size ≤ wr.heap.size) := ⟨hlk, hrw, hvj, hkp, hbl, hsz⟩
        have k0 : (0 : Int) ≤ (k : Int) := by omega
        by_cases hkl : k < FL
        · have k1 : (k : Int) < (FL : Int) := by omega
          obtain ⟨x, hx⟩ : ∃ x, (depsS e0)[k]? = some x := ⟨(depsS e0)[k]'(by have := HFL.out; omega), by simp⟩
          obtain ⟨gf, rfl⟩ := HGF.out (by omega)
          have hgne : gf ≠ gN := fun e => rows_other HVF.out HNW.out.row (by decide) (k := gf) rfl (by rw [e]; rfl)
          have cx : wr.cell? ⟨gf, k, none⟩ = some (.string x) := (World.cell?_of_block (w := ws) (a := ⟨gf, k, none⟩) (hkp gf (rblock HVF.out gf rfl).2 hgne)).trans (row_cell HVF.out k _ (by simp [hx])).1
          have hxs : x.size ≤ 32 := HDS.out.1 x (List.mem_of_getElem? hx)
          have hmw := (HMP.out.keep (w' := wr) (hbl.block mb HMP.out.lt)).look_ok (t := 136) Tryz.underlying136 zero_int x (by unfold maxLen; omega)
          have htk : (depsS e0).take (k + 1) = (depsS e0).take k ++ [x] := by rw [List.take_add_one, hx]; rfl
          cases hmx : makerS es x with
          | none =>
            have hf : mkV (makerS es) x = none := by unfold mkV; rw [hmx]; rfl
            rw [hf] at hmw
            have HS2 : Hid (l = ((depsS e0).take (k + 1)).filterMap (makerS es)) := by
              show _ = _
              rw [htk, List.filterMap_append, ← hlk, show [x].filterMap (makerS es) = [] by simp [hmx], List.append_nil]
            simp only [Option.getD_none, Option.isSome_none] at hmw
            clear hlk hrw hvj hkp hbl hsz hx hf htk hmx
            go_wp2
            exact ⟨⟨k + 1, vj, l, by go_num, by omega, HS2.out, HS.out.2⟩, by simp [intOf]; omega⟩
          | some p =>
            have hf : mkV (makerS es) x = some (.int .i64 (p : Nat)) := by unfold mkV; rw [hmx]; rfl
            rw [hf] at hmw
            simp only [Option.getD_some, Option.isSome_some] at hmw
            have HS2 : Hid (l ++ [p] = ((depsS e0).take (k + 1)).filterMap (makerS es)) := by
              show _ = _
              rw [htk, List.filterMap_append, ← hlk, show [x].filterMap (makerS es) = [p] by simp [hmx]]
            obtain ⟨aoj, capj, hvje, _, _⟩ := row_form hvj
            have hll : l.length ≤ 30000 := by
              rw [hlk]
              refine Nat.le_trans (List.length_filterMap_le _ _) ?_
              rw [List.length_take]
              have := HDS.out.2
              omega
            generalize hLL : l.length = LL at *
            have HLL : Hid (l.length = LL) := hLL
            subst hvje
            have cj := (row_cell hrw j (.slice aoj LL capj) (by rw [List.getElem?_set_self (by rw [HNW.out.len]; exact hlt)])).1
            have HJA : Hid (wr.ownsRow ws.heap.size 3 1 (.slice aoj LL capj) LL (natsV l)) := hvj
            have HJB : Hid ((wr.alloc (.cells #[.int .i64 (p : Nat)] 3)).ownsRow ws.heap.size 3 1 (.slice aoj LL capj) LL (natsV l)) := rkeep hvj (fun k hk => heapA_old _ _ k (rblock hvj k hk).2)
            have hwsz : ws.heap.size ≤ wr.heap.size := hsz
            clear hlk hrw hvj hkp hbl hsz hx hf htk hmx hLL
            go_wp2_with (at_builtin; refine wpList_append_lies _ rfl (.tmp 41) (.tmp 43) 48 rfl ws.heap.size 3 tj (.int .i64 0) 1 8 Tryz.underlying48 HTJ.out.1 HTJ.out.2.2.2 HTJ.out.2.1 HTJ.out.2.2.1 rfl (by decide) _ LL (natsV l) rfl HJB.out ⟨wr.heap.size, 0, none⟩ 1 1 [.int .i64 (p : Nat)] rfl rfl (by exact newCells wr _ _) (by intro u hu; simp only [List.mem_cons, List.not_mem_nil, or_false] at hu; rcases hu with rfl; rfl) (by decide) (by unfold maxLen; omega) (by omega) (by simp; omega) _ rfl ?_; intro g7 cap7 w7 hv7 hg7 hat7 hlt7; refine Hid.out ?_)
            have hs := HS.out
            have hjn : ∀ q, (Value.slice aoj LL capj).ownBlock = some q → ws.heap.size ≤ q := fun q hq => (rblock HJA.out q hq).1
            have hgs : gN < ws.heap.size := (rblock HNW.out.row gN rfl).2
            have hrw1 : (wr.alloc (.cells #[.int .i64 (p : Nat)] 3)).ownsRow w.heap.size 48 1 (.slice (some ⟨gN, 0, none⟩) L L) L (vs.set j (.slice aoj LL capj)) := rkeep hs.2.1 (fun q hq => heapA_old _ _ q (rblock hs.2.1 q hq).2)
            have hrw7 : w7.ownsRow w.heap.size 48 1 (.slice (some ⟨gN, 0, none⟩) L L) L (vs.set j (.slice aoj LL capj)) := rkeep hrw1 (fun q hq => hg7.block q (rblock hrw1 q hq).2 (fun e => by have h1 : gN = q := Option.some.inj hq; have := hjn q e.symm; omega))
            have c7 := row_cell hrw7 j (.slice aoj LL capj) (by rw [List.getElem?_set_self (by rw [HNW.out.len]; exact hlt)])
            have d7 := c7.1
            have f7 := c7.2
            have hg7n : g7 ≠ gN := fun e => by
              rcases hat7 with q | q
              · have := hjn g7 q; omega
              · rw [q] at e; simp at e; omega
            have HNX : Hid ((w7.setCell ⟨gN, j, none⟩ (.slice (some ⟨g7, 0, none⟩) (LL + 1) cap7)).ownsRow w.heap.size 48 1 (.slice (some ⟨gN, 0, none⟩) L L) L (vs.set j (.slice (some ⟨g7, 0, none⟩) (LL + 1) cap7)) ∧ (w7.setCell ⟨gN, j, none⟩ (.slice (some ⟨g7, 0, none⟩) (LL + 1) cap7)).ownsRow ws.heap.size 3 1 (.slice (some ⟨g7, 0, none⟩) (LL + 1) cap7) (l ++ [p]).length (natsV (l ++ [p])) ∧ (∀ k, k < ws.heap.size → k ≠ gN → (w7.setCell ⟨gN, j, none⟩ (.slice (some ⟨g7, 0, none⟩) (LL + 1) cap7)).heap[k]? = ws.heap[k]?) ∧ Below w.heap.size w (w7.setCell ⟨gN, j, none⟩ (.slice (some ⟨g7, 0, none⟩) (LL + 1) cap7)) ∧ ws.heap.size ≤ (w7.setCell ⟨gN, j, none⟩ (.slice (some ⟨g7, 0, none⟩) (LL + 1) cap7)).heap.size) := by
              refine ⟨?_, ?_, fun q hq hn => ?_, ?_, ?_⟩
              · have := row_set hrw7 j (.slice (some ⟨g7, 0, none⟩) (LL + 1) cap7)
                rw [List.set_set] at this
                exact this
              · rw [List.length_append, natsV_append, HLL.out]
                exact rkeep hv7 (fun q hq => heap_setCell_other _ _ _ _ (show q ≠ gN from fun e => hg7n (by rw [← e]; exact Option.some.inj hq)))
              · rw [heap_setCell_other _ _ _ _ hn, hg7.block q (by simp; omega) (fun e => by have := hjn q e.symm; omega), heapA_old _ _ q (by omega)]
                exact hs.2.2.2.1 q hq hn
              · exact ((hs.2.2.2.2.1.alloc (Nat.le_trans HNW.out.bl.size hwsz) _).grown hg7 (by have := HNW.out.bl.size; simp; omega) (fun q hq => by have := hjn q hq; have := HNW.out.bl.size; omega)).setCell (p := ⟨gN, j, none⟩) (Nat.le_of_eq HGN.out) _
              · have h1 := hg7.size
                simp at h1 ⊢
                omega
            clear hv7 hg7 hat7 hlt7 hs hjn hrw1 hrw7 c7 cj
            unfold Hid
            go_wp2
            exact ⟨⟨k + 1, _, l ++ [p], by go_num, by omega, HS2.out, HNX.out⟩, by simp [intOf]; omega⟩
        · obtain rfl : k = FL := by omega
          have HNJ : Hid (NeedSt w gN L es (j + 1) (vs.set j vj) wr) := by
            have hln : l = needS es e0 := by rw [hlk, List.take_of_length_le (Nat.le_of_eq HFL.out)]; rfl
            subst hln
            exact HNW.out.tell HE.out hlt hrw hvj hkp hbl
          clear hlk hrw hvj hkp hbl hsz HS
          go_wp2
          exact ⟨⟨j + 1, _, by go_num, by omega, HNJ.out⟩, by simp [intOf]; omega⟩
    · obtain rfl : j = L := by omega
      have HFIN : Hid (NeedsAt wr gN (needsS es) ∧ Below w.heap.size w wr) := by
        refine ⟨fun i l hi => ?_, hns.bl⟩
        unfold needsS at hi
        rw [List.getElem?_map] at hi
        obtain ⟨e, he, rfl⟩ := Option.map_eq_some_iff.1 hi
        have hij : i < j := by rw [← HL.out]; exact (List.getElem?_eq_some_iff.1 he).1
        obtain ⟨v, h1, h2, _⟩ := hns.told i e hij he
        exact ⟨v, (row_cell hns.row i v h1).1, h2⟩
      clear hns HNS
      go_wp2
      go_ret
      exact ⟨gN, rfl, HFIN.out.1, by rw [← HGN.out]; exact HFIN.out.2⟩
end Go.Proofs.YthhbpebihgjpjaaGreatDoor
