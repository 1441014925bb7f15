import Derived.Test.YthhbpebihgjpjaaGreatDoorP18
import Derived.Test.YthhbpebihgjpjaaGreatDoorP11
import Derived.Test.YthhbpebihgjpjaaGreatDoorP07
import Derived.Defers
import Derived.Recover
namespace Go.Proofs.YthhbpebihgjpjaaGreatDoor
open Go.RowKit Go.Maps
set_option maxRecDepth 1000000

set_option maxHeartbeats 8000000 in
theorem finished_any {p : PV} {a : Nat → Addr} {B : Nat} {w : World} {rb : Nat} {n : Int} {ls : List Line} {S : St} {m : Nat} (h : PStB p a B w rb n ls S m) (hru : ∀ e ∈ S.edges, e.rule.size ≤ 4000) :
  Calls Tryz.prog 115 #[.pointer (some ⟨rb, 0, none⟩)] w fun e w' => finEnd a n w.heap.size p.ds S.edges.length (commandsS S S.edges) e w' ∧ Below w.heap.size w w' := by
 have hinf : (Tryz.prog.info? 63).map (fun i => (i.size, i.bytes, i.zero)) = some (6, 128, some (.agg #[.slice none 0 0, .slice none 0 0, .slice none 0 0, .slice none 0 0, .string ⟨#[]⟩, .string ⟨#[]⟩])) := by kernel_rfl
 obtain ⟨ti, hti, htj⟩ := Option.map_eq_some_iff.1 hinf
 simp only [Prod.mk.injEq] at htj
 have HTI : Hid (Tryz.prog.info? 63 = some ti ∧ ti.size = 6 ∧ ti.bytes = 128 ∧ ti.zero = some (.agg #[.slice none 0 0, .slice none 0 0, .slice none 0 0, .slice none 0 0, .string ⟨#[]⟩, .string ⟨#[]⟩])) := ⟨hti, htj.1, htj.2.1, htj.2.2⟩
 clear hinf hti htj
 have H : Hid (PStB p a B w rb n ls S m) := h
 have HRU : Hid (∀ e ∈ S.edges, e.rule.size ≤ 4000) := hru
 have HZ : Hid (∀ w, (zeroValue 316).run Tryz.prog w = .ok textZ w) := fun w => by kernel_rfl
 clear hru
 have hL := h.ok.edges
 have hdl := h.const.now.2.2.1
 obtain ⟨aod, capd, hvd, hcd, hgd⟩ := row_form h.drafts
 have c5 : w.cell? ⟨rb, 5, none⟩ = some (.slice aod S.edges.length capd) := by rw [cell_of_row _ _ _ _ _ _ h.row]; exact congrArg some hvd
 obtain ⟨w1, hmk, hown1, hgr1⟩ := run_make_own (P := Tryz.prog) w w.heap.size 60 63 ti _ 6 Tryz.underlying60 HTI.out.1 HTI.out.2.2.2 HTI.out.2.1 .i64 .i64 S.edges.length (by rw [HTI.out.2.2.1]; omega) (by unfold maxLen; omega) (Nat.le_refl _)
 have HB1 : Hid (Below w.heap.size w w1) := (Below.refl _ w).grown hgr1 (Nat.le_refl _) (fun k hk => by cases hk)
 have HO1 : Hid (w1.ownsRow w.heap.size 63 6 (.slice (some ⟨w.heap.size, 0, none⟩) 0 S.edges.length) 0 []) := hown1
 have d5 : w1.cell? ⟨rb, 5, none⟩ = some (.slice aod S.edges.length capd) := (HB1.out.cell (p := ⟨rb, 5, none⟩) h.rowlt).trans c5
 have HVD : Hid (p.vd = .slice aod S.edges.length capd) := hvd
 have HGD : Hid (0 < S.edges.length → ∃ g, aod = some ⟨g, 0, none⟩) := hgd
 have HDL : Hid (p.ds.length = S.edges.length) := hdl
 clear h hown1 hgr1 hvd hgd hcd hdl
 generalize hLE : S.edges.length = L at *
 have HLE : Hid (S.edges.length = L) := hLE
 have l0 : (L : Int) ≤ 64 := by omega
 clear hLE
 go_enter Tryz.func115, Tryz.ntmps115
 go_wp2_with fail
 go_loopw [3, 19] (fun v i wr => ∃ (j cap : Nat) (ao : Option Addr) (cs : List ByteArray), i = .int .i64 j ∧ v = .slice ao j cap ∧ j ≤ L ∧ cs.length = j ∧ (∀ (k : Nat) e c, k < j → S.edges[k]? = some e → cs[k]? = some c → commandS S e = some c) ∧ wr.ownsRow w.heap.size 63 6 (.slice ao j cap) j (ecells (p.ds.take j) cs) ∧ Below w.heap.size w wr) (fun _ i _ => L - (intOf i).toNat)
 case atStart =>
  exact ⟨0, L, _, [], rfl, rfl, Nat.zero_le _, rfl, fun k e c hk => by omega, HO1.out, HB1.out⟩
 case round =>
  obtain ⟨j, cap, ao, cs, rfl, rfl, hle, hcl, hag, hown, hbw⟩ := hrel
  have HCL : Hid (cs.length = j) := hcl
  have HAG : Hid (∀ (k : Nat) e c, k < j → S.edges[k]? = some e → cs[k]? = some c → commandS S e = some c) := hag
  have HOW : Hid (wr.ownsRow w.heap.size 63 6 (.slice ao j cap) j (ecells (p.ds.take j) cs)) := hown
  have HBW : Hid (Below w.heap.size w wr) := hbw
  clear hcl hag hown hbw
  have j0 : (0 : Int) ≤ (j : Int) := by omega
  by_cases hlt : j < L
  ·have j1 : (j : Int) < (L : Int) := by omega
   obtain ⟨e0, he0⟩ : ∃ e, S.edges[j]? = some e := ⟨S.edges[j]'(by have := HLE.out; omega), by simp⟩
   obtain ⟨d, hd⟩ : ∃ d, p.ds[j]? = some d := ⟨p.ds[j]'(by have := HDL.out; omega), by simp⟩
   have HST : Hid (PStB p a B wr rb n ls S m) := H.out.below HBW.out
   have hda := HST.out.const.now.2.2.2 j d e0 hd he0
   have HDA : Hid (DraftAt wr p.sb d e0) := hda
   have HED : Hid (S.edges[j]? = some e0 ∧ p.ds[j]? = some d) := ⟨he0, hd⟩
   obtain ⟨g, rfl⟩ := HGD.out (by omega)
   have hrow : wr.ownsRow B 311 7 (.slice (some ⟨g, 0, none⟩) L capd) L (dcells p.ds) := by
    have := HST.out.drafts
    rw [HVD.out, HLE.out] at this
    exact this
   have e0c : wr.cell? ⟨g, j * 7, none⟩ = some d.vo := (row_cell hrow (j * 7 + 0) _ (dcells_at p.ds j d 0 hd (by decide))).1
   have e1c : wr.cell? ⟨g, j * 7 + 1, none⟩ = some d.vi := (row_cell hrow _ _ (dcells_at p.ds j d 1 hd (by decide))).1
   have e2c : wr.cell? ⟨g, j * 7 + 2, none⟩ = some d.vm := (row_cell hrow _ _ (dcells_at p.ds j d 2 hd (by decide))).1
   have e3c : wr.cell? ⟨g, j * 7 + 3, none⟩ = some d.vr := (row_cell hrow _ _ (dcells_at p.ds j d 3 hd (by decide))).1
   have e4c : wr.cell? ⟨g, j * 7 + 4, none⟩ = some (.string d.rule) := (row_cell hrow _ _ (dcells_at p.ds j d 4 hd (by decide))).1
   have e5c : wr.cell? ⟨g, j * 7 + 5, none⟩ = some (.string ⟨#[]⟩) := (row_cell hrow _ _ (dcells_at p.ds j d 5 hd (by decide))).1
   have e6c : wr.cell? ⟨g, j * 7 + 6, none⟩ = some (.pointer (some ⟨d.ob, 0, none⟩)) := (row_cell hrow _ _ (dcells_at p.ds j d 6 hd (by decide))).1
   clear hrow he0 hd hda
   obtain ⟨vo, vi, vm, vr, rl, ob⟩ := d
   simp only at e0c e1c e2c e3c e4c e6c
   obtain ⟨aoo, no, co, hvo⟩ : ∃ ao n c, vo = .slice ao n c := by obtain ⟨ao, c, e, _⟩ := HDA.out.outs; exact ⟨ao, _, c, e⟩
   obtain ⟨aoi, ni, ci, hvi⟩ : ∃ ao n c, vi = .slice ao n c := by obtain ⟨ao, c, e, _⟩ := HDA.out.ins; exact ⟨ao, _, c, e⟩
   obtain ⟨aom, nm, cm, hvm⟩ : ∃ ao n c, vm = .slice ao n c := by obtain ⟨ao, c, e, _⟩ := HDA.out.impl; exact ⟨ao, _, c, e⟩
   obtain ⟨aor, nr, cr, hvr⟩ : ∃ ao n c, vr = .slice ao n c := by obtain ⟨ao, c, e, _⟩ := HDA.out.ord; exact ⟨ao, _, c, e⟩
   subst hvo hvi hvm hvr
   have hel := HED.out.1
   have HEK : Hid (BOk e0.own ∧ e0.own.length ≤ 5000 ∧ e0.outs.length ≤ 8000 ∧ e0.ins.length ≤ 4000 ∧ (∀ x ∈ e0.outs, x.size ≤ 32) ∧ (∀ x ∈ e0.ins, x.size ≤ 32) ∧ e0.impl.length ≤ 4000 ∧ e0.ord.length ≤ 4000) := H.out.ok.edge e0 (List.mem_of_getElem? hel)
   have hrl : e0.rule = rl := HDA.out.rule.symm
   have hrs : rl.size ≤ 4000 := by rw [← hrl]; exact HRU.out e0 (List.mem_of_getElem? hel)
   have HRL : Hid (e0.rule = rl) := hrl
   clear hel hrl
   go_wp2_with fail
   obtain ⟨W1, hW1⟩ : ∃ W1, W1 = (wr.alloc (.cells #[.slice aoo no co, .slice aoi ni ci, .slice aom nm cm, .slice aor nr cr, .string rl, .string ⟨#[]⟩, .pointer (some ⟨ob, 0, none⟩)] 311)).alloc (.cells #[.slice aoo no co, .slice aoi ni ci, .slice aom nm cm, .slice aor nr cr, .string rl, .string ⟨#[]⟩] 63) := ⟨_, rfl⟩
   have HW1s : Hid (W1.heap.size = wr.heap.size + 2) := by rw [hW1]; show _ = _; simp
   have HE1 : Hid (W1.heap[wr.heap.size + 1]? = some (.cells #[.slice aoo no co, .slice aoi ni ci, .slice aom nm cm, .slice aor nr cr, .string rl, .string ⟨#[]⟩] 63 (0, 0))) := by rw [hW1]; exact heapA_new _ _ _ (by simp)
   have HB1' : Hid (Below wr.heap.size wr W1) := by rw [hW1]; exact ((Below.refl _ _).alloc (Nat.le_refl _) _).alloc (by simp) _
   rw [← hW1]
   clear hW1
   refine (newScope_any (.pointer (some ⟨ob, 0, none⟩)) ⟨_, rfl⟩ W1).mono ?_
   rintro e w2 ⟨sb2, tb2, rfl, hs2, hm2, ht2, ht3, hb2⟩
   have hW1s := HW1s.out
   have HE2 : Hid (w2.heap[wr.heap.size + 1]? = some (.cells #[.slice aoo no co, .slice aoi ni ci, .slice aom nm cm, .slice aor nr cr, .string rl, .string ⟨#[]⟩] 63 (0, 0))) := (hb2.block _ (by omega)).trans HE1.out
   have HB2 : Hid (Below wr.heap.size wr w2) := HB1'.out.trans (hb2.mono (by omega))
   have HS2 : Hid (w2.heap[sb2]? = some (.cells #[.map (some tb2), .pointer (some ⟨ob, 0, none⟩)] 302 (0, 0))) := hs2
   have HM2 : Hid (BMap w2 tb2 0 []) := hm2
   have HTB : Hid (wr.heap.size + 2 ≤ tb2 ∧ tb2 < sb2) := ⟨by omega, ht3⟩
   have HJ2 := pjoin_any e0.ins (.slice aoi ni ci) w2 (HDA.out.ins.keepB HB2.out) (by have := HEK.out; omega) (fun y hy => by have := HEK.out.2.2.2.2.2.1 y hy; omega)
   have q1 : w2.cell? ⟨wr.heap.size + 1, 1, none⟩ = some (.slice aoi ni ci) := by rw [cell_of_row _ _ _ _ _ _ HE2.out]; rfl
   have hsb2 : sb2 < w2.heap.size := heap_lt hs2
   clear hs2 hm2 ht2 hb2 hW1s HE1 HB1'
   go_wp2_with fail
   refine HJ2.mono ?_
   rintro e w3 ⟨rfl, hb3⟩
   have HTB2 : Hid (tb2 < w2.heap.size) := HM2.out.lt
   have HE3 : Hid (w3.heap[wr.heap.size + 1]? = some (.cells #[.slice aoo no co, .slice aoi ni ci, .slice aom nm cm, .slice aor nr cr, .string rl, .string ⟨#[]⟩] 63 (0, 0))) := (hb3.block _ (heap_lt HE2.out)).trans HE2.out
   have HB3 : Hid (Below wr.heap.size wr w3) := HB2.out.trans (hb3.mono HB2.out.size)
   have HST3 := set_any (x := tIn) (v := joinP e0.ins) ((hb3.block _ hsb2).trans HS2.out) (TMap.keep HM2.out (hb3.block _ HM2.out.lt)) (by omega) (show tIn.size ≤ 1048576 by decide)
   have HS3 : Hid (w3.heap[sb2]? = some (.cells #[.map (some tb2), .pointer (some ⟨ob, 0, none⟩)] 302 (0, 0))) := (hb3.block _ hsb2).trans HS2.out
   clear hb3 HJ2 HE2 HB2 HS2 HM2 q1 hsb2 HTB2
   go_wp2_with fail
   refine HST3.mono ?_
   rintro e w4 ⟨rfl, hm4, hg4⟩
   have htb := HTB.out
   have HE4 : Hid (w4.heap[wr.heap.size + 1]? = some (.cells #[.slice aoo no co, .slice aoi ni ci, .slice aom nm cm, .slice aor nr cr, .string rl, .string ⟨#[]⟩] 63 (0, 0))) := (hg4.block _ (heap_lt HE3.out) (fun e => by have := Option.some.inj e; omega)).trans HE3.out
   have HB4 : Hid (Below wr.heap.size wr w4) := HB3.out.grown hg4 HB3.out.size (fun k hk => by have := Option.some.inj hk; omega)
   have HS4 : Hid (w4.heap[sb2]? = some (.cells #[.map (some tb2), .pointer (some ⟨ob, 0, none⟩)] 302 (0, 0))) := (hg4.block _ (heap_lt HS3.out) (fun e => by have := Option.some.inj e; omega)).trans HS3.out
   have HM4 : Hid (BMap w4 tb2 1 (setB [] tIn (joinP e0.ins))) := hm4
   have HJ4 := pjoin_any e0.outs (.slice aoo no co) w4 (HDA.out.outs.keepB HB4.out) (by have := HEK.out; omega) (fun y hy => by have := HEK.out.2.2.2.2.1 y hy; omega)
   have q0 : w4.cell? ⟨wr.heap.size + 1, 0, none⟩ = some (.slice aoo no co) := by rw [cell_of_row _ _ _ _ _ _ HE4.out]; rfl
   clear hm4 hg4 htb HE3 HB3 HS3 HST3
   go_wp2_with fail
   refine HJ4.mono ?_
   rintro e w5 ⟨rfl, hb5⟩
   have HE5 : Hid (w5.heap[wr.heap.size + 1]? = some (.cells #[.slice aoo no co, .slice aoi ni ci, .slice aom nm cm, .slice aor nr cr, .string rl, .string ⟨#[]⟩] 63 (0, 0))) := (hb5.block _ (heap_lt HE4.out)).trans HE4.out
   have HB5 : Hid (Below wr.heap.size wr w5) := HB4.out.trans (hb5.mono HB4.out.size)
   have HS5 : Hid (w5.heap[sb2]? = some (.cells #[.map (some tb2), .pointer (some ⟨ob, 0, none⟩)] 302 (0, 0))) := (hb5.block _ (heap_lt HS4.out)).trans HS4.out
   have HST5 := set_any (x := tOut) (v := joinP e0.outs) HS5.out (TMap.keep HM4.out (hb5.block _ HM4.out.lt)) (by omega) (show tOut.size ≤ 1048576 by decide)
   clear hb5 HJ4 HE4 HB4 HS4 HM4 q0
   go_wp2_with fail
   refine HST5.mono ?_
   rintro e w6 ⟨rfl, hm6, hg6⟩
   have htb := HTB.out
   have HE6 : Hid (w6.heap[wr.heap.size + 1]? = some (.cells #[.slice aoo no co, .slice aoi ni ci, .slice aom nm cm, .slice aor nr cr, .string rl, .string ⟨#[]⟩] 63 (0, 0))) := (hg6.block _ (heap_lt HE5.out) (fun e => by have := Option.some.inj e; omega)).trans HE5.out
   have HB6 : Hid (Below wr.heap.size wr w6) := HB5.out.grown hg6 HB5.out.size (fun k hk => by have := Option.some.inj hk; omega)
   have HSC : Hid (ScopesAt w6 (.pointer (some ⟨sb2, 0, none⟩)) [inOut e0, e0.own, S.top]) := by
    obtain ⟨tb0, n0, q1, q2, q3⟩ := HDA.out.own
    have hob : ob < wr.heap.size := heap_lt q2
    refine ⟨sb2, tb2, 1 + 1, .pointer (some ⟨ob, 0, none⟩), rfl, (by show ob + 1 ≤ sb2; omega), (hg6.block _ (heap_lt HS5.out) (fun e => by have := Option.some.inj e; omega)).trans HS5.out, hm6, ?_⟩
    have h1 : ScopesAt wr (.pointer (some ⟨ob, 0, none⟩)) [e0.own, S.top] := ⟨ob, tb0, n0, .pointer (some ⟨p.sb, 0, none⟩), rfl, q1, q2, q3, p.sb, p.tb, p.n1, .pointer none, rfl, Nat.zero_le _, HST.out.const.now.2.1, HST.out.top, rfl⟩
    exact h1.keep HB6.out.block
   have HP6 : Hid (PStB p a B w6 rb n ls S m) := HST.out.below HB6.out
   have q3 : w6.cell? ⟨rb, 3, none⟩ = some (.map (some p.rm)) := by rw [cell_of_row _ _ _ _ _ _ HP6.out.row]; rfl
   have q4 : w6.cell? ⟨wr.heap.size + 1, 4, none⟩ = some (.string rl) := by rw [cell_of_row _ _ _ _ _ _ HE6.out]; rfl
   have hlk : (Instr.lookup 197 (.map (some p.rm)) (.string rl) false).run Tryz.prog w6.drew = .ok (((bindOf S.rules rl).map textV).getD textZ) w6.drew := TMap.look (w := w6.drew) (TMap.keep (w' := w6.drew) HP6.out.rules rfl) Tryz.underlying197 HZ.out rl (by unfold maxLen; omega)
   have hlv : ((bindOf S.rules rl).map textV).getD textZ = .agg #[.string ((bindOf S.rules rl).getD ⟨#[]⟩)] := by
    cases bindOf S.rules rl <;> rfl
   rw [hlv] at hlk
   have HX := expand_any rb n ((bindOf S.rules rl).getD ⟨#[]⟩) [inOut e0, e0.own, S.top] (.pointer (some ⟨sb2, 0, none⟩)) a w6.drew HP6.out.at0 (HSC.out.keep (fun k _ => rfl)) (HP6.out.gl.keep (Nat.le_refl _) (fun _ _ => rfl)) (by have := ruleSize H.out.ok rl; omega) (fun x => by
    have hbi := inOut_le (e := e0) (by have := HEK.out; omega) (by have := HEK.out; omega) HEK.out.2.2.2.2.1 HEK.out.2.2.2.2.2.1
    have := envL_le (N := 1000000) (ls := [inOut e0, e0.own, S.top]) (fun l hl y hy => by
     rcases List.mem_cons.1 hl with rfl | hl
     ·exact (hbi y hy).1
     ·rcases List.mem_cons.1 hl with rfl | hl
      ·have := (HEK.out.1 y hy).1; omega
      ·obtain rfl := List.mem_singleton.1 hl
       have := (H.out.ok.top y hy).1; omega) x
    omega) (envL_nil2 (fun l hl y hy => by
     have hbi := inOut_le (e := e0) (by have := HEK.out; omega) (by have := HEK.out; omega) HEK.out.2.2.2.2.1 HEK.out.2.2.2.2.2.1
     rcases List.mem_cons.1 hl with rfl | hl
     ·exact (hbi y hy).2
     ·rcases List.mem_cons.1 hl with rfl | hl
      ·exact (HEK.out.1 y hy).2
      ·obtain rfl := List.mem_singleton.1 hl
       exact (H.out.ok.top y hy).2))
   have HCM : Hid (commandS S e0 = expandS (envL [inOut e0, e0.own, S.top]) ((bindOf S.rules rl).getD ⟨#[]⟩)) := by
    show _ = _
    rw [commandS_is, HRL.out]
   clear hlv hm6 hg6 htb HE5 HB5 HS5 HST5 HSC
   generalize (bindOf S.rules rl).getD ⟨#[]⟩ = CT at *
   have hfd : ∀ wx, (Instr.field 316 (.agg #[.string CT]) 0).run Tryz.prog wx = .ok (.string CT) wx := fun wx => by kernel_rfl
   generalize hEX : expandS (envL [inOut e0, e0.own, S.top]) CT = EX at *
   clear hEX
   cases EX with
   | none =>
    have HF : Hid (commandsS S S.edges = none) := commands_none S S.edges j e0 HED.out.1 HCM.out
    go_wp2_with fail
    go_region_with (go_at_call 201; refine HX.mono ?_; rintro e w8 ⟨hst, hb8⟩; obtain ⟨b, rfl, s0, s1⟩ := hst; refine dead_end ⟨rfl, (by rw [HF.out]; exact ⟨⟨b, rfl, s0, s1⟩, (HBW.out.trans (HB6.out.mono HBW.out.size)).drew.trans (hb8.mono (by have := HB6.out.size; have := HBW.out.size; show _ ≤ w6.heap.size; omega))⟩)⟩ w ?_)
    all_goals trivial
   | some y =>
    go_wp2_with fail
    go_region_with (go_at_call 201; refine HX.mono ?_; rintro e w8 ⟨rfl, hb8⟩; have HE8 : Hid (w8.heap[wr.heap.size + 1]? = some (.cells #[.slice aoo no co, .slice aoi ni ci, .slice aom nm cm, .slice aor nr cr, .string rl, .string ⟨#[]⟩] 63 (0, 0))) := (hb8.block _ (heap_lt HE6.out)).trans HE6.out; have q5 : w8.cell? ⟨wr.heap.size + 1, 5, none⟩ = some (.string ⟨#[]⟩) := (by rw [cell_of_row _ _ _ _ _ _ HE8.out]; rfl); have f5 : w8.frozen? ⟨wr.heap.size + 1, 5, none⟩ = false := frozen_of_row _ _ _ _ _ HE8.out)
    all_goals
     have HE9 : Hid ((w8.setCell ⟨wr.heap.size + 1, 5, none⟩ (.string y)).heap[wr.heap.size + 1]? = some (.cells #[.slice aoo no co, .slice aoi ni ci, .slice aom nm cm, .slice aor nr cr, .string rl, .string y] 63 (0, 0))) := by
      show _ = _
      rw [heap_setCell_same _ _ _ _ _ _ HE8.out]; rfl
     have HB9 : Hid (Below wr.heap.size wr (w8.setCell ⟨wr.heap.size + 1, 5, none⟩ (.string y))) := (HB6.out.drew.trans (hb8.mono HB6.out.size)).setCell (p := ⟨wr.heap.size + 1, 5, none⟩) (Nat.le_succ _) _
     clear hb8 q5 f5 HE8 HE6 HB6 HP6 q3 q4 hlk HX hfd
     generalize w8.setCell ⟨wr.heap.size + 1, 5, none⟩ (.string y) = W9 at *
     have z0 : W9.cell? ⟨wr.heap.size + 1, 0, none⟩ = some (.slice aoo no co) := by rw [cell_of_row _ _ _ _ _ _ HE9.out]; rfl
     have z1 : W9.cell? ⟨wr.heap.size + 1, 1, none⟩ = some (.slice aoi ni ci) := by rw [cell_of_row _ _ _ _ _ _ HE9.out]; rfl
     have z2 : W9.cell? ⟨wr.heap.size + 1, 2, none⟩ = some (.slice aom nm cm) := by rw [cell_of_row _ _ _ _ _ _ HE9.out]; rfl
     have z3 : W9.cell? ⟨wr.heap.size + 1, 3, none⟩ = some (.slice aor nr cr) := by rw [cell_of_row _ _ _ _ _ _ HE9.out]; rfl
     have z4 : W9.cell? ⟨wr.heap.size + 1, 4, none⟩ = some (.string rl) := by rw [cell_of_row _ _ _ _ _ _ HE9.out]; rfl
     have z5 : W9.cell? ⟨wr.heap.size + 1, 5, none⟩ = some (.string y) := by rw [cell_of_row _ _ _ _ _ _ HE9.out]; rfl
     have HOA : Hid ((W9.alloc (.cells #[.slice aoo no co, .slice aoi ni ci, .slice aom nm cm, .slice aor nr cr, .string rl, .string y] 63)).ownsRow w.heap.size 63 6 (.slice ao j cap) j (ecells (p.ds.take j) cs)) := rkeep HOW.out (fun k hk => (heapA_old W9 _ k (by have := (rblock HOW.out k hk).2; have := HB9.out.size; omega)).trans (HB9.out.block k (rblock HOW.out k hk).2))
     have hsz : w.heap.size ≤ W9.heap.size := Nat.le_trans HBW.out.size HB9.out.size
     have HBA : Hid (Below w.heap.size w (W9.alloc (.cells #[.slice aoo no co, .slice aoi ni ci, .slice aom nm cm, .slice aor nr cr, .string rl, .string y] 63))) := (HBW.out.trans (HB9.out.mono HBW.out.size)).alloc hsz _
     go_wp2_with (at_builtin; refine wpList_append_own _ rfl (.tmp 50) (.tmp 52) 60 rfl w.heap.size 63 ti (.agg #[.slice none 0 0, .slice none 0 0, .slice none 0 0, .slice none 0 0, .string ⟨#[]⟩, .string ⟨#[]⟩]) 6 128 Tryz.underlying60 HTI.out.1 HTI.out.2.2.2 HTI.out.2.1 HTI.out.2.2.1 rfl (by decide) _ j _ rfl (by exact HOA.out) ⟨W9.heap.size, 0, none⟩ 1 1 [.slice aoo no co, .slice aoi ni ci, .slice aom nm cm, .slice aor nr cr, .string rl, .string y] rfl rfl (by exact newCells W9 _ _) (by intro u hu; simp only [List.mem_cons, List.not_mem_nil, or_false] at hu; rcases hu with rfl | rfl | rfl | rfl | rfl | rfl <;> rfl) (by unfold maxLen; omega) (by omega) (by simp; omega) ?_; intro v5 w5 hv5 hg5 hn5; refine Hid.out ?_)
     have HO5 : Hid (w5.ownsRow w.heap.size 63 6 v5 (j + 1) (ecells (p.ds.take (j + 1)) (cs ++ [y]))) := by
      rw [take_snoc' _ _ _ HED.out.2, ecells_snoc _ _ _ _ (by rw [List.length_take, HDL.out, HCL.out]; omega)]
      exact hv5
     have HB5 : Hid (Below w.heap.size w w5) := HBA.out.grown hg5 (by simp; omega) (fun q hq => (rblock HOA.out q hq).1)
     obtain ⟨ao5, cap5, rfl, _, _⟩ := row_form HO5.out
     clear hv5 hg5 hn5
     unfold Hid
     go_wp2_with fail
     refine ⟨⟨j + 1, cap5, ao5, cs ++ [y], by go_num, rfl, hlt, by rw [List.length_append, HCL.out]; rfl, fun k e c hk he hc => ?_, HO5.out, HB5.out⟩, by simp [intOf]; omega⟩
     rcases Nat.lt_or_ge k j with q | q
     ·rw [List.getElem?_append_left (by rw [HCL.out]; exact q)] at hc
      exact HAG.out k e c q he hc
     ·obtain rfl : k = j := by omega
      rw [HED.out.1] at he
      obtain rfl := Option.some.inj he
      rw [List.getElem?_append_right (by rw [HCL.out]; exact Nat.le_refl _), HCL.out, Nat.sub_self] at hc
      obtain rfl := Option.some.inj hc
      exact HCM.out
  ·obtain rfl : j = L := by omega
   have j1 : ¬ (j : Int) < (j : Int) := by omega
   have HF : Hid (commandsS S S.edges = some cs) := commands_some S S.edges cs (by rw [HCL.out, HLE.out]) (fun k e c h1 h2 => HAG.out k e c (by have := (List.getElem?_eq_some_iff.1 h1).1; have := HLE.out; omega) h1 h2)
   go_wp2_with fail
   go_ret
   refine ⟨?_, HBW.out⟩
   rw [HF.out]
   refine ⟨_, rfl, ?_⟩
   have h1 := HOW.out
   rw [List.take_of_length_le (by rw [HDL.out]; exact Nat.le_refl _)] at h1
   exact h1
end Go.Proofs.YthhbpebihgjpjaaGreatDoor

namespace Go.Proofs.YthhbpebihgjpjaaGreatDoor
open Go.RowKit
set_option maxRecDepth 1000000

structure Held (Q : Exit → Act → World → Prop) (e : Exit) (a : Act) (w : World) : Prop where
 out : Q e a w
theorem wp_held {P : Program} {c : Code} {Q : Exit → Act → World → Prop} {a : Act} {w : World} (h : c.wp P (Held Q) a w) : c.wp P Q a w := wp_mono h (fun _ _ _ h => h.out)
theorem held_mk {Q : Exit → Act → World → Prop} {e : Exit} {a : Act} {w : World} (h : Q e a w) : Held Q e a w := ⟨h⟩
set_option maxHeartbeats 1000000 in
theorem catch_idle (p : Addr) (w : World) :
  CallsD Tryz.prog 110 #[.pointer (some p)] .returning w fun e u' w' => e = .returned (.tuple #[]) ∧ u' = .returning ∧ w' = w := by
 refine callsD_of_wpS Tryz.func110 rfl fun c₀ cs hu => ?_
 apply wpS_seq
 apply wpS_region
 simp [wpOpsS, go_sem, recoverD, hu, Tryz.ntmps110, Exit.thenS]
 have hT : #[Value.pointer (some p)] ++ ((Array.replicate 16 undef).setIfInBounds 3 Value.nilIface).setIfInBounds 0 Value.nilIface = #[.pointer (some p), .nilIface, undef, undef, .nilIface, undef, undef, undef, undef, undef, undef, undef, undef, undef, undef, undef, undef] := rfl
 rw [hT]
 refine wpS_of_wp (wp_held ?_)
 go_wp2
 refine held_mk ?_
 cases c₀
 simp_all [bodyPostS, results, Tryz.results110]
set_option maxHeartbeats 1000000 in
theorem catch_panicking (p : Addr) (b : Nat) (v0 : Value) (w : World) (hc : w.cell? p = some v0) (hz : w.frozen? p = false) :
  CallsD Tryz.prog 110 #[.pointer (some p)] (.panicking [{ v := .iface 129 (.pointer (some ⟨b, 0, none⟩)), recovered := false }]) w fun e u' w' => e = .returned (.tuple #[]) ∧ u' = .panicking [{ v := .iface 129 (.pointer (some ⟨b, 0, none⟩)), recovered := true }] ∧ w' = w.setCell p (.iface 129 (.pointer (some ⟨b, 0, none⟩))) := by
 have hta : ∀ w, (Instr.typeAssert (.iface 129 (.pointer (some ⟨b, 0, none⟩))) 20 129 true).run Tryz.prog w = .ok (.tuple #[.pointer (some ⟨b, 0, none⟩), .bool true]) w := fun w => by kernel_rfl
 refine callsD_of_wpS Tryz.func110 rfl fun c₀ cs hu => ?_
 apply wpS_seq
 apply wpS_region
 simp [wpOpsS, go_sem, recoverD, hu, Tryz.ntmps110, Exit.thenS]
 have hT : ∀ V : Value, #[Value.pointer (some p)] ++ ((Array.replicate 16 undef).setIfInBounds 3 V).setIfInBounds 0 V = #[.pointer (some p), V, undef, undef, V, undef, undef, undef, undef, undef, undef, undef, undef, undef, undef, undef, undef] := fun _ => rfl
 rw [hT]
 refine wpS_of_wp (wp_held ?_)
 go_wp2
 refine held_mk ?_
 cases c₀
 simp_all [bodyPostS, results, Tryz.results110]
end Go.Proofs.YthhbpebihgjpjaaGreatDoor
