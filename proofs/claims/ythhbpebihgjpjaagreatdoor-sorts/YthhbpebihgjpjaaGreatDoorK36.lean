import Derived.Test.YthhbpebihgjpjaaGreatDoorK35
import Derived.Test.YthhbpebihgjpjaaGreatDoorK18
namespace Go.Proofs.YthhbpebihgjpjaaGreatDoor
open Go.RowKit Go.Maps
set_option maxRecDepth 1000000

theorem UMap.snoc {w' : World} {b n : Nat} {l : List ByteArray} {x : ByteArray} (h : TMap unitC (.agg #[]) w' b n (fun y => if y = x then some (.agg #[]) else if memB y l = true then some (.agg #[]) else none)) : UMap w' b n (l ++ [x]) := by
  have e : (fun y => if y = x then some (Value.agg #[]) else if memB y l = true then some (Value.agg #[]) else none) = (fun y => if memB y (l ++ [x]) = true then some (Value.agg #[]) else none) := by
    funext y
    have hmm : memB y (l ++ [x]) = (memB y l || decide (x = y)) := by unfold memB; simp
    rw [hmm]
    by_cases q : y = x
    · subst q; simp
    · have q' : decide (x = y) = false := decide_eq_false (fun e => q e.symm)
      rw [if_neg q, q', Bool.or_false]
  unfold UMap
  rw [← e]
  exact h
theorem zero_unit (w : World) : (zeroValue 86).run Tryz.prog w = .ok (.agg #[]) w := by kernel_rfl
/-- Edges in a row, each taken out whole. -/
theorem edge_cells {w wr : World} {ao : Option Addr} {cap L j : Nat} {es : List EdgeS} {cs : List ByteArray} {e0 : EdgeS} (h : EdgeRowAt w (.slice ao L cap) es cs) (hL : es.length = L) (hc : cs.length = es.length) (he : es[j]? = some e0) (hb : Below w.heap.size w wr) : ∃ g o aoo nO cO aoi nI cI aom nM cM aor nR cR cm, ao = some ⟨g, o, none⟩ ∧ (wr.cell? ⟨g, o + j * 6, none⟩ = some (.slice aoo nO cO) ∧ wr.cell? ⟨g, o + j * 6 + 1, none⟩ = some (.slice aoi nI cI) ∧ wr.cell? ⟨g, o + j * 6 + 2, none⟩ = some (.slice aom nM cM) ∧ wr.cell? ⟨g, o + j * 6 + 3, none⟩ = some (.slice aor nR cR) ∧ wr.cell? ⟨g, o + j * 6 + 4, none⟩ = some (.string e0.rule) ∧ wr.cell? ⟨g, o + j * 6 + 5, none⟩ = some (.string cm)) ∧ TextsAt wr (.slice aoo nO cO) e0.outs ∧ TextsAt wr (.slice aoi nI cI) e0.ins ∧ TextsAt wr (.slice aom nM cM) e0.impl ∧ TextsAt wr (.slice aor nR cR) e0.ord ∧ TextsAt w (.slice aoo nO cO) e0.outs := by
  obtain ⟨ao', cap', hv, hrow⟩ := h
  injection hv with e1 e2 e3
  subst e1 e3
  have hj := (List.getElem?_eq_some_iff.1 he).1
  obtain ⟨cm, hcm⟩ : ∃ c, cs[j]? = some c := ⟨cs[j]'(by omega), by simp⟩
  rcases hrow with q | ⟨g, o, rfl, hcells⟩
  · rw [q] at hj; simp at hj
  · obtain ⟨vo, vi, vm, vr, ⟨d0, d1, d2, d3, d4, d5⟩, to', ti', tm', tr'⟩ := hcells j e0 cm he hcm
    have kc : ∀ (a : Addr) u, w.cell? a = some u → wr.cell? a = some u := fun a u h => (hb.cell (p := a) (block_lt_of_cell h)).trans h
    obtain ⟨aoo, nO, cO, hvo⟩ : ∃ ao n c, vo = .slice ao n c := by obtain ⟨ao, cap, e, _⟩ := to'; exact ⟨ao, _, cap, e⟩
    obtain ⟨aoi, nI, cI, hvi⟩ : ∃ ao n c, vi = .slice ao n c := by obtain ⟨ao, cap, e, _⟩ := ti'; exact ⟨ao, _, cap, e⟩
    obtain ⟨aom, nM, cM, hvm⟩ : ∃ ao n c, vm = .slice ao n c := by obtain ⟨ao, cap, e, _⟩ := tm'; exact ⟨ao, _, cap, e⟩
    obtain ⟨aor, nR, cR, hvr⟩ : ∃ ao n c, vr = .slice ao n c := by obtain ⟨ao, cap, e, _⟩ := tr'; exact ⟨ao, _, cap, e⟩
    subst hvo hvi hvm hvr
    exact ⟨g, o, aoo, nO, cO, aoi, nI, cI, aom, nM, cM, aor, nR, cR, cm, rfl, ⟨kc _ _ d0, kc _ _ d1, kc _ _ d2, kc _ _ d3, kc _ _ d4, kc _ _ d5⟩, to'.keepB hb, ti'.keepB hb, tm'.keepB hb, tr'.keepB hb, to'⟩
set_option maxHeartbeats 16000000 in
theorem lastOuts_any {w : World} {v : Value} {es : List EdgeS} {cs : List ByteArray} (h : EdgeRowAt w v es cs) (hl : es.length ≤ 64) (hc : cs.length = es.length) (hok : ∀ e ∈ es, e.outs.length ≤ 10000 ∧ e.ins.length ≤ 10000 ∧ e.impl.length ≤ 10000 ∧ e.ord.length ≤ 10000 ∧ (∀ x ∈ e.outs, x.size ≤ 32) ∧ ∀ x ∈ depsS e, x.size ≤ 32) :
    Calls Tryz.prog 70 #[v] w fun e w' => ∃ v', e = .returned v' ∧ w'.ownsRow w.heap.size 9 1 v' (lastS es).length ((lastS es).map Value.string) ∧ Below w.heap.size w w' := by
  have hinf : (Tryz.prog.info? 9).map (fun i => (i.size, i.bytes, i.zero)) = some (1, 16, some (.string ⟨#[]⟩)) := by kernel_rfl
  obtain ⟨tj, hti, htj⟩ := Option.map_eq_some_iff.1 hinf
  simp only [Prod.mk.injEq] at htj
  have HTJ : Hid (Tryz.prog.info? 9 = some tj ∧ tj.size = 1 ∧ tj.bytes = 16 ∧ tj.zero = some (.string ⟨#[]⟩)) := ⟨hti, htj.1, htj.2.1, htj.2.2⟩
  clear hinf hti htj
  obtain ⟨ao, cap, hv, _⟩ := id h
  subst hv
  have HROW : Hid (EdgeRowAt w (.slice ao es.length cap) es cs) := h
  have HOK : Hid ((∀ e ∈ es, e.outs.length ≤ 10000 ∧ e.ins.length ≤ 10000 ∧ e.impl.length ≤ 10000 ∧ e.ord.length ≤ 10000 ∧ (∀ x ∈ e.outs, x.size ≤ 32) ∧ ∀ x ∈ depsS e, x.size ≤ 32) ∧ cs.length = es.length) := ⟨hok, hc⟩
  have hmk : (Instr.makeMap 122 none).run Tryz.prog w = .ok (.map (some w.heap.size)) (w.alloc (.map #[] 0)) := by simp [Instr.makeMap, go_sem]
  have HM0 : Hid (UMap (w.alloc (.map #[] 0)) w.heap.size 0 []) := TMap.made unitC _ ⟨_, _, rfl⟩ w
  have HB0 : Hid (Below w.heap.size w (w.alloc (.map #[] 0))) := (Below.refl _ _).alloc (Nat.le_refl _) _
  clear h hok hc
  generalize hL : es.length = L at *
  have HL : Hid (es.length = L) := hL
  clear hL
  have l0 : (L : Int) ≤ 64 := by omega
  go_enter Tryz.func70, Tryz.ntmps70
  go_wp2_with fail
  clear hmk
  generalize w.alloc (.map #[] 0) = w1 at *
  generalize hmb : w.heap.size = mb at *
  have HMB : Hid (w.heap.size = mb) := hmb
  clear hmb
  go_loopw [18] (fun i wr => ∃ (j n : Nat), i = .int .i64 j ∧ j ≤ L ∧ UMap wr mb n ((es.take j).flatMap depsS) ∧ n ≤ j * 30000 ∧ Below mb w wr) (fun i _ => L - (intOf i).toNat)
  case atStart => exact ⟨0, 0, rfl, Nat.zero_le _, HM0.out, Nat.zero_le _, HB0.out⟩
  case round =>
    clear HM0 HB0
    obtain ⟨j, n, rfl, hj, hmap, hn, hbl⟩ := hrel
    have HM : Hid (UMap wr mb n ((es.take j).flatMap depsS) ∧ n ≤ j * 30000 ∧ Below mb w wr) := ⟨hmap, hn, hbl⟩
    have j0 : (0 : Int) ≤ (j : Int) := by omega
    by_cases hlt : j < L
    · have j1 : (j : Int) < (L : Int) := by omega
      obtain ⟨e0, he0⟩ : ∃ e, es[j]? = some e := ⟨es[j]'(by have := HL.out; omega), by simp⟩
      obtain ⟨g, o, aoo, nO, cO, aoi, nI, cI, aom, nM, cM, aor, nR, cR, cm, rfl, ⟨c0, c1, c2, c3, c4, c5⟩, to', ti', tm', tr', tw'⟩ := edge_cells HROW.out HL.out (HOK.out.2.trans HL.out.symm) he0 (show Below w.heap.size w wr by rw [HMB.out]; exact hbl)
      have HE : Hid (es[j]? = some e0) := he0
      obtain ⟨hi0, hi1, hi2, hi3, hi5, hi4⟩ := HOK.out.1 e0 (List.mem_of_getElem? he0)
      have HDS : Hid ((∀ x ∈ depsS e0, x.size ≤ 32) ∧ (depsS e0).length ≤ 30000) := ⟨hi4, by unfold depsS; rw [List.length_append, List.length_append]; omega⟩
      obtain ⟨wa, hwa⟩ : ∃ wa, wa = wr.alloc (.cells #[.slice aoo nO cO, .slice aoi nI cI, .slice aom nM cM, .slice aor nR cR, .string e0.rule, .string cm] 63) := ⟨_, rfl⟩
      have hba : Below wr.heap.size wr wa := by rw [hwa]; exact (Below.refl _ _).alloc (Nat.le_refl _) _
      have HFN : Hid (Calls Tryz.prog 116 #[.agg #[.slice aoo nO cO, .slice aoi nI cI, .slice aom nM cM, .slice aor nR cR, .string e0.rule, .string cm]] wa fun e' w' => ∃ v, e' = .returned v ∧ w'.ownsRow wa.heap.size 9 1 v (depsS e0).length ((depsS e0).map Value.string) ∧ Below wa.heap.size wa w') := filesNeeded_any e0 ⟨_, _, _, rfl⟩ (ti'.keepB hba) (tm'.keepB hba) (tr'.keepB hba) hi1 hi2 hi3
      have HWA : Hid (wa = wr.alloc (.cells #[.slice aoo nO cO, .slice aoi nI cI, .slice aom nM cM, .slice aor nR cR, .string e0.rule, .string cm] 63) ∧ Below wr.heap.size wr wa) := ⟨hwa, hba⟩
      have ca : ∀ i u, (#[.slice aoo nO cO, .slice aoi nI cI, .slice aom nM cM, .slice aor nR cR, .string e0.rule, .string cm] : Array Value)[i]? = some u → (wr.alloc (.cells #[.slice aoo nO cO, .slice aoi nI cI, .slice aom nM cM, .slice aor nR cR, .string e0.rule, .string cm] 63)).cell? ⟨wr.heap.size, i, none⟩ = some u := fun i u hu => by rw [cell_of_row _ _ _ _ _ _ (heapA_new wr _ _ rfl)]; exact hu
      have a0 := ca 0 _ rfl
      have a1 := ca 1 _ rfl
      have a2 := ca 2 _ rfl
      have a3 := ca 3 _ rfl
      have a4 := ca 4 _ rfl
      have a5 := ca 5 _ rfl
      clear to' ti' tm' tr' tw' hmap hn hbl he0 hi0 hi1 hi2 hi3 hi4 hi5 hwa hba ca
      go_wp2_with fail
      rw [← HWA.out.1]
      clear a0 a1 a2 a3 a4 a5 c0 c1 c2 c3 c4 c5
      refine HFN.out.mono ?_
      rintro e1 ws ⟨vf, rfl, hvf, hbs⟩
      have hbws : Below wr.heap.size wr ws := HWA.out.2.trans (hbs.mono HWA.out.2.size)
      have HMS : Hid (UMap ws mb n ((es.take j).flatMap depsS) ∧ n ≤ j * 30000 ∧ Below mb w ws) := ⟨TMap.keep HM.out.1 (hbws.block mb HM.out.1.lt), HM.out.2.1, HM.out.2.2.trans (hbws.mono (by have := HM.out.1.lt; omega))⟩
      obtain ⟨af, capf, hvf', _, hgf⟩ := row_form hvf
      have HVF : Hid (ws.ownsRow wa.heap.size 9 1 vf (depsS e0).length ((depsS e0).map Value.string) ∧ mb < wa.heap.size) := ⟨hvf, Nat.lt_of_lt_of_le HM.out.1.lt HWA.out.2.size⟩
      have HGF : Hid (0 < (depsS e0).length → ∃ g, af = some ⟨g, 0, none⟩) := hgf
      generalize hFL : (depsS e0).length = FL at *
      have HFL : Hid ((depsS e0).length = FL) := hFL
      have f0 : (FL : Int) ≤ 30000 := by have := HDS.out.2; omega
      clear hFL hvf hbs hgf hbws
      subst hvf'
      clear HFN HM
      go_wp2_with fail
      go_loopw [25] (fun i wr => ∃ (k m : Nat), i = .int .i64 k ∧ k ≤ FL ∧ UMap wr mb m ((es.take j).flatMap depsS ++ (depsS e0).take k) ∧ m ≤ j * 30000 + k ∧ Below mb w wr ∧ ws.grownBy wr (some mb)) (fun i _ => FL - (intOf i).toNat)
      case atStart => exact ⟨0, n, rfl, Nat.zero_le _, by rw [List.take_zero, List.append_nil]; exact HMS.out.1, HMS.out.2.1, HMS.out.2.2, ⟨rfl, rfl, rfl, Nat.le_refl _, fun _ _ _ => rfl⟩⟩
      case round =>
        clear HMS
        obtain ⟨k, m, rfl, hk, hmap, hm, hbl, hgr⟩ := hrel
        have k0 : (0 : Int) ≤ (k : Int) := by omega
        by_cases hkl : k < FL
        · have k1 : (k : Int) < (FL : Int) := by omega
          obtain ⟨x, hx⟩ : ∃ x, (depsS e0)[k]? = some x := ⟨(depsS e0)[k]'(by have := HFL.out; omega), by simp⟩
          obtain ⟨gf, rfl⟩ := HGF.out (by omega)
          have hgb := rblock HVF.out.1 gf rfl
          have cx : wr.cell? ⟨gf, k, none⟩ = some (.string x) := (World.cell?_of_block (w := ws) (a := ⟨gf, k, none⟩) (hgr.block gf hgb.2 (fun e => by have h1 : gf = mb := Option.some.inj e; have := HVF.out.2; omega))).trans (row_cell HVF.out.1 k _ (by simp [hx])).1
          have hxs : x.size ≤ 32 := HDS.out.1 x (List.mem_of_getElem? hx)
          obtain ⟨w9, hrun9, hst9, hg9⟩ := TMap.store hmap (t := 122) Tryz.underlying122 (by unfold maxLen; omega) x (by unfold maxLen; omega) (.agg #[]) ⟨_, _, rfl⟩
          have HM9 : Hid (UMap w9 mb (m + 1) ((es.take j).flatMap depsS ++ (depsS e0).take (k + 1)) ∧ m + 1 ≤ j * 30000 + (k + 1) ∧ Below mb w w9 ∧ ws.grownBy w9 (some mb)) := by
            refine ⟨?_, by omega, hbl.grown hg9 (by have := hmap.lt; omega) (fun k hk => Nat.le_of_eq (Option.some.inj hk)), hg9.os.trans hgr.os, hg9.tape.trans hgr.tape, hg9.output.trans hgr.output, Nat.le_trans hgr.size hg9.size, fun q hq hn => (hg9.block q (Nat.lt_of_lt_of_le hq hgr.size) hn).trans (hgr.block q hq hn)⟩
            rw [List.take_add_one, hx, Option.toList_some, ← List.append_assoc]
            exact UMap.snoc hst9
          clear hst9 hg9 hmap hm hbl hgr hgb
          go_wp2
          exact ⟨⟨k + 1, m + 1, by go_num, by omega, HM9.out⟩, by simp [intOf]; omega⟩
        · obtain rfl : k = FL := by omega
          have HMJ : Hid (UMap wr mb m ((es.take (j + 1)).flatMap depsS) ∧ m ≤ (j + 1) * 30000 ∧ Below mb w wr) := by
            refine ⟨?_, by have := HDS.out.2; have := HFL.out; omega, hbl⟩
            rw [List.take_add_one, HE.out, Option.toList_some, List.flatMap_append]
            have h := hmap
            rw [List.take_of_length_le (Nat.le_of_eq HFL.out)] at h
            simpa using h
          clear hmap hm hbl hgr
          go_wp2
          exact ⟨⟨j + 1, m, by go_num, by omega, HMJ.out⟩, by simp [intOf]; omega⟩
    · obtain rfl : j = L := by omega
      have HMA : Hid (UMap wr mb n (es.flatMap depsS) ∧ Below mb w wr) := ⟨by have h := hmap; rw [List.take_of_length_le (Nat.le_of_eq HL.out)] at h; exact h, hbl⟩
      clear hmap hn hbl HM
      go_wp2_with fail
      go_loopw [8, 36] (fun v i wr => ∃ (j' cap : Nat) (ao : Option Addr) (l : List ByteArray), i = .int .i64 j' ∧ v = .slice ao l.length cap ∧ j' ≤ j ∧ l = ((es.take j').flatMap (·.outs)).filter (fun o => !memB o (es.flatMap depsS)) ∧ wr.ownsRow (mb + 1) 9 1 (.slice ao l.length cap) l.length (l.map Value.string) ∧ l.length ≤ j' * 10000 ∧ UMap wr mb n (es.flatMap depsS) ∧ Below mb w wr) (fun _ i _ => j - (intOf i).toNat)
      case atStart => exact ⟨0, 0, none, [], rfl, rfl, Nat.zero_le _, rfl, World.ownsRow_nil _ _ _ _, Nat.zero_le _, HMA.out⟩
      case round =>
        clear HMA
        obtain ⟨i, cp, ap, l, rfl, rfl, hi, hl0, hown, hll, hmap, hbl⟩ := hrel
        have HS : Hid (l = ((es.take i).flatMap (·.outs)).filter (fun o => !memB o (es.flatMap depsS)) ∧ wr.ownsRow (mb + 1) 9 1 (.slice ap l.length cp) l.length (l.map Value.string) ∧ l.length ≤ i * 10000 ∧ UMap wr mb n (es.flatMap depsS) ∧ Below mb w wr) := ⟨hl0, hown, hll, hmap, hbl⟩
        have i0 : (0 : Int) ≤ (i : Int) := by omega
        by_cases hil : i < j
        · have i1 : (i : Int) < (j : Int) := by omega
          obtain ⟨e0, he0⟩ : ∃ e, es[i]? = some e := ⟨es[i]'(by have := HL.out; omega), by simp⟩
          obtain ⟨g, o, aoo, nO, cO, aoi, nI, cI, aom, nM, cM, aor, nR, cR, cm, rfl, ⟨c0, c1, c2, c3, c4, c5⟩, to', ti', tm', tr', tw'⟩ := edge_cells HROW.out HL.out (HOK.out.2.trans HL.out.symm) he0 (show Below w.heap.size w wr by rw [HMB.out]; exact hbl)
          have HE : Hid (es[i]? = some e0) := he0
          have HEO : Hid ((∀ x ∈ e0.outs, x.size ≤ 32) ∧ e0.outs.length ≤ 10000) := ⟨(HOK.out.1 e0 (List.mem_of_getElem? he0)).2.2.2.2.1, (HOK.out.1 e0 (List.mem_of_getElem? he0)).1⟩
          obtain ⟨aoo2, cO2, hvo2, hcO, htx⟩ := tw'
          injection hvo2 with f1 f2 f3
          subst f1 f3
          have HOL : Hid (e0.outs.length = nO) := f2.symm
          have HTX : Hid (((aoo = none → cO = 0) ∧ e0.outs = [] ∧ True) ∨ ∃ b o, aoo = some ⟨b, o, none⟩ ∧ ∀ k s, e0.outs[k]? = some s → w.cell? ⟨b, o + k, none⟩ = some (.string s)) := htx
          have o0 : (nO : Int) ≤ 10000 := by have := HEO.out.2; have := HOL.out; omega
          obtain ⟨wa, hwa⟩ : ∃ wa, wa = wr.alloc (.cells #[.slice aoo nO cO, .slice aoi nI cI, .slice aom nM cM, .slice aor nR cR, .string e0.rule, .string cm] 63) := ⟨_, rfl⟩
          have hba : Below wr.heap.size wr wa := by rw [hwa]; exact (Below.refl _ _).alloc (Nat.le_refl _) _
          have HSA : Hid (wa.ownsRow (mb + 1) 9 1 (.slice ap l.length cp) l.length (l.map Value.string) ∧ UMap wa mb n (es.flatMap depsS) ∧ Below mb w wa) := ⟨rkeep hown (fun q hq => hba.block q (rblock hown q hq).2), TMap.keep hmap (hba.block mb hmap.lt), hbl.trans (hba.mono (by have := hmap.lt; omega))⟩
          have HWA : Hid (wa = wr.alloc (.cells #[.slice aoo nO cO, .slice aoi nI cI, .slice aom nM cM, .slice aor nR cR, .string e0.rule, .string cm] 63)) := hwa
          have HLL : Hid (l.length ≤ i * 10000) := hll
          have HL0 : Hid (l = ((es.take i).flatMap (·.outs)).filter (fun o => !memB o (es.flatMap depsS))) := hl0
          clear f2 htx hcO to' ti' tm' tr' hl0 hown hll hmap hbl he0 hwa hba HS
          go_wp2_with fail
          rw [← HWA.out]
          clear c0 c1 c2 c3 c4 c5
          go_loopw [8, 43] (fun v z wr => ∃ (k cap : Nat) (ao : Option Addr) (l : List ByteArray), z = .int .i64 k ∧ v = .slice ao l.length cap ∧ k ≤ nO ∧ l = ((es.take i).flatMap (·.outs) ++ e0.outs.take k).filter (fun o => !memB o (es.flatMap depsS)) ∧ wr.ownsRow (mb + 1) 9 1 (.slice ao l.length cap) l.length (l.map Value.string) ∧ l.length ≤ i * 10000 + k ∧ UMap wr mb n (es.flatMap depsS) ∧ Below mb w wr) (fun _ z _ => nO - (intOf z).toNat)
          case atStart => exact ⟨0, cp, ap, l, rfl, rfl, Nat.zero_le _, by rw [List.take_zero, List.append_nil]; exact HL0.out, HSA.out.1, HLL.out, HSA.out.2⟩
          case round =>
            clear HSA HLL HL0 HWA
            clear wa
            obtain ⟨k, cq, aq, lq, rfl, rfl, hk, hlq, hown, hll, hmap, hbl⟩ := hrel
            have HS : Hid (lq = ((es.take i).flatMap (·.outs) ++ e0.outs.take k).filter (fun o => !memB o (es.flatMap depsS)) ∧ wr.ownsRow (mb + 1) 9 1 (.slice aq lq.length cq) lq.length (lq.map Value.string) ∧ lq.length ≤ i * 10000 + k ∧ UMap wr mb n (es.flatMap depsS) ∧ Below mb w wr) := ⟨hlq, hown, hll, hmap, hbl⟩
            have k0 : (0 : Int) ≤ (k : Int) := by omega
            by_cases hkl : k < nO
            · have k1 : (k : Int) < (nO : Int) := by omega
              obtain ⟨x, hx⟩ : ∃ x, e0.outs[k]? = some x := ⟨e0.outs[k]'(by have := HOL.out; omega), by simp⟩
              obtain ⟨b, o3, rfl, hct⟩ : ∃ b o, aoo = some ⟨b, o, none⟩ ∧ ∀ k s, e0.outs[k]? = some s → w.cell? ⟨b, o + k, none⟩ = some (.string s) := by
                rcases HTX.out with ⟨_, q, _⟩ | q
                · exfalso; rw [q] at hx; simp at hx
                · exact q
              have cx : wr.cell? ⟨b, o3 + k, none⟩ = some (.string x) := (hbl.cell (p := ⟨b, o3 + k, none⟩) (by have := block_lt_of_cell (hct k x hx); have := HMB.out; omega)).trans (hct k x hx)
              have hxs : x.size ≤ 32 := HEO.out.1 x (List.mem_of_getElem? hx)
              have hmw := TMap.look_ok hmap (t := 122) Tryz.underlying122 zero_unit x (by unfold maxLen; omega)
              have htk : (es.take i).flatMap (·.outs) ++ e0.outs.take (k + 1) = ((es.take i).flatMap (·.outs) ++ e0.outs.take k) ++ [x] := by rw [List.take_add_one, hx, Option.toList_some, List.append_assoc]
              cases hmx : memB x (es.flatMap depsS) with
              | true =>
                rw [hmx, if_pos rfl] at hmw
                simp only [Option.getD_some, Option.isSome_some] at hmw
                have HS2 : Hid (lq = ((es.take i).flatMap (·.outs) ++ e0.outs.take (k + 1)).filter (fun o => !memB o (es.flatMap depsS))) := by
                  show _ = _
                  rw [htk, List.filter_append, ← hlq]; simp [hmx]
                have HSB : Hid ((wr.alloc (.cells #[] 86)).ownsRow (mb + 1) 9 1 (.slice aq lq.length cq) lq.length (lq.map Value.string) ∧ lq.length ≤ i * 10000 + (k + 1) ∧ UMap (wr.alloc (.cells #[] 86)) mb n (es.flatMap depsS) ∧ Below mb w (wr.alloc (.cells #[] 86))) := ⟨rkeep hown (fun q hq => heapA_old _ _ q (rblock hown q hq).2), by omega, TMap.keep hmap (heapA_old _ _ mb hmap.lt), hbl.alloc (by have := hmap.lt; omega) _⟩
                clear hlq hown hll hmap hbl hx htk hmx hct
                go_wp2_with fail
                exact ⟨⟨k + 1, cq, aq, lq, by go_num, rfl, by omega, HS2.out, HSB.out⟩, by simp [intOf]; omega⟩
              | false =>
                rw [hmx, if_neg (by decide)] at hmw
                simp only [Option.getD_none, Option.isSome_none] at hmw
                have HS2 : Hid (lq ++ [x] = ((es.take i).flatMap (·.outs) ++ e0.outs.take (k + 1)).filter (fun o => !memB o (es.flatMap depsS))) := by
                  show _ = _
                  rw [htk, List.filter_append, ← hlq]; simp [hmx]
                have HX : Hid (((wr.alloc (.cells #[] 86)).alloc (.cells #[.string x] 9)).ownsRow (mb + 1) 9 1 (.slice aq lq.length cq) lq.length (lq.map Value.string) ∧ UMap ((wr.alloc (.cells #[] 86)).alloc (.cells #[.string x] 9)) mb n (es.flatMap depsS) ∧ Below mb w ((wr.alloc (.cells #[] 86)).alloc (.cells #[.string x] 9))) := by
                  have h1 : Below wr.heap.size wr ((wr.alloc (.cells #[] 86)).alloc (.cells #[.string x] 9)) := ((Below.refl _ _).alloc (Nat.le_refl _) _).alloc (by simp) _
                  exact ⟨rkeep hown (fun q hq => h1.block q (rblock hown q hq).2), TMap.keep hmap (h1.block mb hmap.lt), hbl.trans (h1.mono (by have := hmap.lt; omega))⟩
                have HNC : Hid (∀ j u, ([.string x] : List Value)[j]? = some u → ((wr.alloc (.cells #[] 86)).alloc (.cells #[.string x] 9)).cell? ((⟨wr.heap.size + 1, 0, none⟩ : Addr).add j) = some u) := by
                  have := newCells (wr.alloc (.cells #[] 86)) [.string x] 9
                  rw [World.size_alloc] at this
                  exact this
                have hmlt := hmap.lt
                generalize hLQ : lq.length = LQ at *
                have HLQ : Hid (lq.length = LQ) := hLQ
                clear hlq hown hmap hbl hx htk hmx hct hLQ
                go_wp2_with (at_builtin; refine wpList_append_lies _ rfl (.tmp 55) (.tmp 57) 32 rfl (mb + 1) 9 tj (.string ⟨#[]⟩) 1 16 Tryz.underlying32 HTJ.out.1 HTJ.out.2.2.2 HTJ.out.2.1 HTJ.out.2.2.1 rfl (by decide) _ LQ (lq.map Value.string) rfl HX.out.1 ⟨wr.heap.size + 1, 0, none⟩ 1 1 [.string x] rfl rfl HNC.out (by intro u hu; simp only [List.mem_cons, List.not_mem_nil, or_false] at hu; rcases hu with rfl; rfl) (by decide) (by unfold maxLen; omega) (by omega) (by simp; omega) _ rfl ?_; intro g7 cap7 w7 hv7 hg7 hat7 hlt7; refine Hid.out ?_)
                have hjn : ∀ q, (Value.slice aq LQ cq).ownBlock = some q → mb + 1 ≤ q := fun q hq => (rblock HX.out.1 q hq).1
                have HS7 : Hid (w7.ownsRow (mb + 1) 9 1 (.slice (some ⟨g7, 0, none⟩) (lq ++ [x]).length cap7) (lq ++ [x]).length ((lq ++ [x]).map Value.string) ∧ (lq ++ [x]).length ≤ i * 10000 + (k + 1) ∧ UMap w7 mb n (es.flatMap depsS) ∧ Below mb w w7) := by
                  rw [List.length_append, HLQ.out, List.map_append]
                  refine ⟨hv7, by simp only [List.length_cons, List.length_nil]; omega, TMap.keep HX.out.2.1 (hg7.block mb HX.out.2.1.lt (fun e => by have := hjn mb e.symm; omega)), HX.out.2.2.grown hg7 (by have := HX.out.2.1.lt; omega) (fun q hq => by have := hjn q hq; omega)⟩
                have HLX : Hid ((lq ++ [x]).length = LQ + 1) := by rw [List.length_append, HLQ.out]; rfl
                clear hv7 hg7 hat7 hlt7 hjn HX HNC
                unfold Hid
                go_wp2_with fail
                exact ⟨⟨k + 1, cap7, some ⟨g7, 0, none⟩, lq ++ [x], by go_num, by rw [HLX.out], by omega, HS2.out, HS7.out⟩, by simp [intOf]; omega⟩
            · obtain rfl : k = nO := by omega
              have HSJ : Hid (lq = ((es.take (i + 1)).flatMap (·.outs)).filter (fun o => !memB o (es.flatMap depsS)) ∧ wr.ownsRow (mb + 1) 9 1 (.slice aq lq.length cq) lq.length (lq.map Value.string) ∧ lq.length ≤ (i + 1) * 10000 ∧ UMap wr mb n (es.flatMap depsS) ∧ Below mb w wr) := by
                refine ⟨?_, hown, by have := HEO.out.2; have := HOL.out; omega, hmap, hbl⟩
                rw [hlq, List.take_of_length_le (Nat.le_of_eq HOL.out), List.take_add_one, HE.out, Option.toList_some, List.flatMap_append]
                simp
              clear hlq hown hll hmap hbl HS
              go_wp2_with fail
              exact ⟨⟨i + 1, cq, aq, lq, by go_num, rfl, by omega, HSJ.out⟩, by simp [intOf]; omega⟩
        · obtain rfl : i = j := by omega
          have HFIN : Hid (wr.ownsRow w.heap.size 9 1 (.slice ap l.length cp) (lastS es).length ((lastS es).map Value.string) ∧ Below w.heap.size w wr) := by
            have hle : l = lastS es := by rw [hl0, List.take_of_length_le (Nat.le_of_eq HL.out)]; rfl
            rw [← hle, HMB.out]
            exact ⟨row_mono hown (Nat.le_succ _), hbl⟩
          clear hl0 hown hll hmap hbl HS
          go_wp2
          go_ret
          exact ⟨_, rfl, by rw [← HMB.out]; exact HFIN.out⟩
end Go.Proofs.YthhbpebihgjpjaaGreatDoor
