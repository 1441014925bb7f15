import Derived.Test.YthhbpebihgjpjaaGreatDoorP40
import Derived.Test.YthhbpebihgjpjaaGreatDoorP43
import Derived.Deep.AppendLies
import Derived.OwnWalk
import Derived.Deep.CutRange
namespace Go.Proofs.YthhbpebihgjpjaaGreatDoor
open Go.RowKit
set_option maxRecDepth 1000000

def fewE (es : List EdgeS) : Prop := ∀ e ∈ es, e.outs.length ≤ 10000 ∧ e.ins.length ≤ 10000 ∧ e.impl.length ≤ 10000 ∧ e.ord.length ≤ 10000
set_option maxHeartbeats 4000000 in
theorem ownEdges_any {c : Nat → Nat} {w0 : World} {wb : Nat} {mv vp vq vl : Value} {ps qs : List Value} {E : List (Value × Value)} {left : Int} {w : World} (v : Value) (es : List EdgeS) (cs : List ByteArray) (h : ParSt c w0 wb mv vp vq vl ps qs E left w) (hv : Stable c w (fun w => EdgeRowAt w v es cs)) (hn : es.length ≤ 64) (hcl : cs.length = es.length) (hok : fewE es) (hE : E.length ≤ 262144) :
  Calls Tryz.prog 133 #[.pointer (some ⟨wb, 0, none⟩), v] w fun e w' => e = .returned (.tuple #[]) ∧ ∃ c' vl' E', ParSt c' w0 wb mv vp vq vl' ps qs E' left w' ∧ E'.length ≤ E.length + 1 := by
 have hinf : (Tryz.prog.info? 166).map (fun i => (i.size, i.bytes, i.zero)) = some (6, 144, some (.agg #[.slice none 0 0, .slice none 0 0, .slice none 0 0, .slice none 0 0, .slice none 0 0, .slice none 0 0])) := by kernel_rfl
 obtain ⟨ti, hti, htj⟩ := Option.map_eq_some_iff.1 hinf
 simp only [Prod.mk.injEq] at htj
 have HTI : Hid (Tryz.prog.info? 166 = some ti ∧ ti.size = 6 ∧ ti.bytes = 144 ∧ ti.zero = some (.agg #[.slice none 0 0, .slice none 0 0, .slice none 0 0, .slice none 0 0, .slice none 0 0, .slice none 0 0])) := ⟨hti, htj.1, htj.2.1, htj.2.2⟩
 clear hinf hti htj
 have H : Hid (ParSt c w0 wb mv vp vq vl ps qs E left w) := h
 have HV : Hid (Stable c w (fun w => EdgeRowAt w v es cs)) := hv
 have HOK : Hid (es.length ≤ 64 ∧ cs.length = es.length ∧ fewE es) := ⟨hn, hcl, hok⟩
 have HED := ledges_any es cs v w hv.now hn hcl hok
 obtain ⟨av, cpv, hvf, hjk⟩ := hv.now
 clear hjk
 obtain ⟨al, cl, hlf, _, _⟩ := row_form h.lists
 have HLF : Hid (vl = .slice al E.length cl) := hlf
 have HVF : Hid (v = .slice av es.length cpv) := hvf
 subst hvf
 clear h hv hlf hn hcl hok
 generalize hEN : es.length = EN at *
 have HEN : Hid (es.length = EN) := hEN
 clear hEN
 go_enter Tryz.func133, Tryz.ntmps133
 go_wp2_with fail
 refine HED.mono ?_
 rintro e w1 ⟨v2, c2, ds2, rfl, hed, hb1⟩
 obtain ⟨a2, cp2, hv2, _, _⟩ := row_form hed.row
 have HK2 : Hid (EdgeK w.heap.size w1 v2 es cs) := hed.stays
 have HB1 : Hid (Below w.heap.size w w1) := hb1
 have H1 : Hid (ParSt c w0 wb mv vp vq vl ps qs E left w1) := H.out.below hb1
 rw [HEN.out] at hv2
 subst hv2
 clear hed hb1 HED
 have c4 : w1.cell? ⟨wb, 4, none⟩ = some (.slice al E.length cl) := by rw [cell_of_row _ _ _ _ _ _ H1.out.row]; exact congrArg some HLF.out
 have HLN : Hid ((w1.alloc (.cells #[.slice none 0 0, .slice none 0 0, .slice none 0 0, .slice none 0 0, .slice av EN cpv, .slice a2 EN cp2] 166)).ownsRow w0.heap.size 166 6 (.slice al E.length cl) E.length (elcells E)) := by
  have h := H1.out.lists
  rw [HLF.out] at h
  exact rkeep h (fun k hk => heapA_old _ _ k (rblock h k hk).2)
 have hB9 : w0.heap.size ≤ (w1.alloc (.cells #[.slice none 0 0, .slice none 0 0, .slice none 0 0, .slice none 0 0, .slice av EN cpv, .slice a2 EN cp2] 166)).heap.size := by
  have := H1.out.bl.size
  simp; omega
 go_wp2_with (at_builtin; refine wpList_append_lies _ rfl (.tmp 11) (.tmp 15) 110 rfl w0.heap.size 166 ti (.agg #[.slice none 0 0, .slice none 0 0, .slice none 0 0, .slice none 0 0, .slice none 0 0, .slice none 0 0]) 6 144 Tryz.underlying110 HTI.out.1 HTI.out.2.2.2 HTI.out.2.1 HTI.out.2.2.1 rfl (by decide) _ E.length (elcells E) rfl HLN.out ⟨w1.heap.size, 0, none⟩ 1 1 [.slice none 0 0, .slice none 0 0, .slice none 0 0, .slice none 0 0, .slice av EN cpv, .slice a2 EN cp2] rfl rfl (by exact newCells w1 _ _) (by intro u hu; simp only [List.mem_cons, List.not_mem_nil, or_false] at hu; rcases hu with rfl | rfl | rfl | rfl | rfl | rfl <;> rfl) (by decide) (by unfold maxLen; omega) (by omega) hB9 _ rfl ?_; intro g6 cap6 w6 hv6 hg6 hat6 hlt6; refine Hid.out ?_)
 have HA : ParSt c w0 wb mv vp vq vl ps qs E left (w1.alloc (.cells #[.slice none 0 0, .slice none 0 0, .slice none 0 0, .slice none 0 0, .slice av EN cpv, .slice a2 EN cp2] 166)) := H1.out.below ((Below.refl _ _).alloc (Nat.le_refl _) _)
 have HX : Stable c (w1.alloc (.cells #[.slice none 0 0, .slice none 0 0, .slice none 0 0, .slice none 0 0, .slice av EN cpv, .slice a2 EN cp2] 166)) (EdgesGood (.slice av EN cpv, .slice a2 EN cp2)) := fun w'' hs hk => by
  have hs1 : w1.heap.size ≤ w''.heap.size := by have h1 := hs; simp at h1; omega
  have hk1 : ∀ k, k < w1.heap.size → c k = 0 → w''.heap[k]? = w1.heap[k]? := fun k h1 h2 => (hk k (by simp; omega) h2).trans (heapA_old _ _ k h1)
  have hsw := HB1.out.size
  refine ⟨es, cs, HV.out w'' (by omega) (fun k h1 h2 => (hk1 k (by omega) h2).trans (HB1.out.block k h1)), HK2.out w'' hs1 (fun k h1 h2 => hk1 k h2 (H.out.fresh k h1)), by rw [HEN.out]; exact HOK.out⟩
 have HFN := HA.addL (x := (.slice av EN cpv, .slice a2 EN cp2)) (v' := .slice (some ⟨g6, 0, none⟩) (E.length + 1) cap6) (w3 := w6) (by rw [HLF.out]; exact hg6) hv6 (fun k hk => by
  have e : g6 = k := Option.some.inj hk
  subst e
  rw [HLF.out]
  rcases hat6 with e2 | e2
  ·exact Or.inl e2
  ·right; rw [e2]; exact Nat.le_refl _) HX
 have hrow6 : PRow w6 wb mv vp vq vl left := (hg6.block wb HA.row.lt (fun e => by have h1 := HA.c4 wb (by rw [HLF.out]; exact e.symm); have h2 := HA.c1; omega)).trans HA.row
 have d6 : w6.cell? ⟨wb, 4, none⟩ = some (.slice al E.length cl) := by rw [cell_of_row _ _ _ _ _ _ hrow6]; exact congrArg some HLF.out
 have f6 : w6.frozen? ⟨wb, 4, none⟩ = false := frozen_of_row _ _ _ _ _ hrow6
 have HFIN : Hid (∃ c' vl' E', ParSt c' w0 wb mv vp vq vl' ps qs E' left (w6.setCell ⟨wb, 4, none⟩ (.slice (some ⟨g6, 0, none⟩) (E.length + 1) cap6)) ∧ E'.length ≤ E.length + 1) := ⟨_, _, _, HFN, by rw [List.length_append]; exact Nat.le_refl _⟩
 clear hv6 hg6 hat6 hlt6 hrow6 HA HX HFN
 unfold Hid
 go_wp2_with fail
 go_end0
 exact ⟨rfl, HFIN.out⟩
theorem recellsC_length : ∀ (ds : List REdgeV) (cs : List ByteArray), ds.length = cs.length → (recellsC ds cs).length = ds.length * 6
 | [], [], _ => rfl
 | _ :: ds, _ :: cs, h => by
  show (_ :: _ :: _ :: _ :: _ :: _ :: recellsC ds cs).length = _
  rw [List.length_cons, List.length_cons, List.length_cons, List.length_cons, List.length_cons, List.length_cons, recellsC_length ds cs (by simpa using h), List.length_cons]
  omega
theorem recellsC_take : ∀ (ds : List REdgeV) (cs : List ByteArray) (j : Nat) (d : REdgeV) (c : ByteArray), ds[j]? = some d → cs[j]? = some c → (recellsC ds cs).take ((j + 1) * 6) = (recellsC ds cs).take (j * 6) ++ [d.vo, d.vi, d.vm, d.vr, .string d.rule, .string c]
 | [], _, j, d, c, h, _ => by simp at h
 | _ :: _, [], j, d, c, _, h => by simp at h
 | x :: ds, y :: cs, 0, d, c, h, h2 => by
  obtain rfl := Option.some.inj h
  obtain rfl := Option.some.inj h2
  rfl
 | x :: ds, y :: cs, j + 1, d, c, h, h2 => by
  have ih := recellsC_take ds cs j d c (by simpa using h) (by simpa using h2)
  show (x.vo :: x.vi :: x.vm :: x.vr :: .string x.rule :: .string y :: recellsC ds cs).take ((j + 1 + 1) * 6) = (x.vo :: x.vi :: x.vm :: x.vr :: .string x.rule :: .string y :: recellsC ds cs).take ((j + 1) * 6) ++ _
  rw [show (j + 1 + 1) * 6 = (j + 1) * 6 + 1 + 1 + 1 + 1 + 1 + 1 by omega, show (j + 1) * 6 = j * 6 + 1 + 1 + 1 + 1 + 1 + 1 by omega]
  simp only [List.take_succ_cons, List.cons_append]
  rw [show j * 6 + 1 + 1 + 1 + 1 + 1 + 1 = (j + 1) * 6 by omega, ih]
theorem redges_at {W : Nat} {w : World} {v : Value} {ds : List REdgeV} {es : List EdgeS} {cs : List ByteArray} (h : w.ownsRow W 63 6 v es.length (recellsC ds cs)) (hl : RListsAt w ds es) : EdgeRowAt w v es cs := by
 obtain ⟨ao, cap, rfl, hcap, hg⟩ := row_form h
 refine ⟨ao, cap, rfl, ?_⟩
 by_cases h0 : es = []
 ·exact Or.inl h0
 ·obtain ⟨g, rfl⟩ := hg (List.length_pos_iff.2 h0)
  refine Or.inr ⟨g, 0, rfl, fun k e y he hy => ?_⟩
  have hlt : k < ds.length := by rw [hl.1]; exact (List.getElem?_eq_some_iff.1 he).1
  obtain ⟨d, hd⟩ : ∃ d, ds[k]? = some d := ⟨ds[k], by simp⟩
  have hll := hl.2 k d e hd he
  have cell : ∀ i u, i < 6 → [d.vo, d.vi, d.vm, d.vr, .string d.rule, .string y][i]? = some u → w.cell? ⟨g, k * 6 + i, none⟩ = some u := fun i u hi hu => (row_cell h (k * 6 + i) u (by rw [recellsC_at ds cs k d y i hd hy hi]; exact hu)).1
  rw [Nat.zero_add]
  refine ⟨d.vo, d.vi, d.vm, d.vr, ⟨cell 0 _ (by omega) rfl, cell 1 _ (by omega) rfl, cell 2 _ (by omega) rfl, cell 3 _ (by omega) rfl, ?_, cell 5 _ (by omega) rfl⟩, hll.1, hll.2.1, hll.2.2.1, hll.2.2.2.1⟩
  rw [← hll.2.2.2.2]
  exact cell 4 _ (by omega) rfl
theorem RListsAt.high {W0 : Nat} {w w' : World} {ds : List REdgeV} {es : List EdgeS} (h : RListsAt w ds es) (hh : ∀ d ∈ ds, d.high W0) (hb : ∀ k, W0 ≤ k → k < w.heap.size → w'.heap[k]? = w.heap[k]?) : RListsAt w' ds es :=
 ⟨h.1, fun k d e hd he => by
  have hq := hh d (List.mem_of_getElem? hd)
  have hl := h.2 k d e hd he
  exact ⟨(TextsF.same (W0 := W0) (w := w) ⟨hl.1, fun k hk => hq k (Or.inl hk)⟩ hb).1, (TextsF.same (W0 := W0) (w := w) ⟨hl.2.1, fun k hk => hq k (Or.inr (Or.inl hk))⟩ hb).1, (TextsF.same (W0 := W0) (w := w) ⟨hl.2.2.1, fun k hk => hq k (Or.inr (Or.inr (Or.inl hk)))⟩ hb).1, (TextsF.same (W0 := W0) (w := w) ⟨hl.2.2.2.1, fun k hk => hq k (Or.inr (Or.inr (Or.inr hk)))⟩ hb).1, hl.2.2.2.2⟩⟩
theorem RManAt.later {W0 : Nat} {S : St} {cs : List ByteArray} {rb : Nat} {w w' : World} (h : RManAt W0 S cs rb w) (hb : ∀ k, W0 ≤ k → k < w.heap.size → w'.heap[k]? = w.heap[k]?) : RManAt W0 S cs rb w' := by
 obtain ⟨ve, vf, ds, h1, h2, h3, h4, h5, h6, h6', h7⟩ := h
 have hrb := hb rb h3 (block_lt_of_cell h1)
 exact ⟨ve, vf, ds, (World.cell?_of_block (w := w) (a := ⟨rb, 5, none⟩) hrb).trans h1, (World.cell?_of_block (w := w) (a := ⟨rb, 6, none⟩) hrb).trans h2, h3, rkeep h4 (fun k hk => hb k (rblock h4 k hk).1 (rblock h4 k hk).2), h5, h6.high h6' hb, h6', rkeep h7 (fun k hk => hb k (rblock h7 k hk).1 (rblock h7 k hk).2)⟩
set_option maxHeartbeats 8000000 in
theorem parsed_any (t : ByteArray) (a : Nat → Addr) (tt : Nat → ByteArray) {c : Nat → Nat} {w0 : World} {wb : Nat} {mv vp vq vl : Value} {ps qs : List Value} {E : List (Value × Value)} {left : Int} {w : World} (h : ParSt c w0 wb mv vp vq vl ps qs E left w) (hg : Gl a w0) (hS : Sents a tt w0) (hng : 14 ≤ w0.heap.size) (ht : t.size ≤ 140737488351232) (hlf : -281474976710656 ≤ left ∧ left ≤ 262144) (hn : ps.length ≤ 262144 ∧ qs.length ≤ 262144 ∧ E.length ≤ 262144) :
  Calls Tryz.prog 82 #[.pointer (some ⟨wb, 0, none⟩), .string t] w fun e w' => e = .returned (.bool true) ∧ ∃ c' vp' vq' vl' ps' qs' E', ParSt c' w0 wb mv vp' vq' vl' ps' qs' E' (left - t.size) w' ∧ ps'.length ≤ ps.length + 1 ∧ qs'.length ≤ qs.length + 1 ∧ E'.length ≤ E.length + 1 := by
 have H : Hid (ParSt c w0 wb mv vp vq vl ps qs E left w) := h
 have tz : (t.size : Int) ≤ 140737488351232 := by omega
 have t0 : (0 : Int) ≤ (t.size : Int) := by omega
 have HH : Hid (Gl a w0 ∧ Sents a tt w0 ∧ 14 ≤ w0.heap.size) := ⟨hg, hS, hng⟩
 have HT : Hid (t.size ≤ 140737488351232) := ht
 have HN : Hid (ps.length ≤ 262144 ∧ qs.length ≤ 262144 ∧ E.length ≤ 262144) := hn
 have c6 : w.cell? ⟨wb, 6, none⟩ = some (.int .i64 left) := by rw [cell_of_row _ _ _ _ _ _ h.row]; rfl
 have f6 : w.frozen? ⟨wb, 6, none⟩ = false := frozen_of_row _ _ _ _ _ h.row
 have l0 := hlf.1
 have l1 := hlf.2
 have hinf : (Tryz.prog.info? 45).map (fun i => (i.size, i.bytes, i.zero)) = some (1, 8, some (.pointer none)) := by kernel_rfl
 obtain ⟨tp, htp, htf⟩ := Option.map_eq_some_iff.1 hinf
 simp only [Prod.mk.injEq] at htf
 have HTP : Hid (Tryz.prog.info? 45 = some tp ∧ tp.size = 1 ∧ tp.bytes = 8 ∧ tp.zero = some (.pointer none)) := ⟨htp, htf.1, htf.2.1, htf.2.2⟩
 clear hinf htp htf
 have hinf : (Tryz.prog.info? 227).map (fun i => (i.size, i.bytes, i.zero)) = some (1, 8, some (.pointer none)) := by kernel_rfl
 obtain ⟨tq, htq, htf⟩ := Option.map_eq_some_iff.1 hinf
 simp only [Prod.mk.injEq] at htf
 have HTQ : Hid (Tryz.prog.info? 227 = some tq ∧ tq.size = 1 ∧ tq.bytes = 8 ∧ tq.zero = some (.pointer none)) := ⟨htq, htf.1, htf.2.1, htf.2.2⟩
 clear hinf htq htf
 have hinf : (Tryz.prog.info? 63).map (fun i => (i.size, i.bytes, i.zero)) = some (6, 128, some (.agg #[.slice none 0 0, .slice none 0 0, .slice none 0 0, .slice none 0 0, .string ⟨#[]⟩, .string ⟨#[]⟩])) := by kernel_rfl
 obtain ⟨te, hte, htf⟩ := Option.map_eq_some_iff.1 hinf
 simp only [Prod.mk.injEq] at htf
 have HTE : Hid (Tryz.prog.info? 63 = some te ∧ te.size = 6 ∧ te.bytes = 128 ∧ te.zero = some (.agg #[.slice none 0 0, .slice none 0 0, .slice none 0 0, .slice none 0 0, .string ⟨#[]⟩, .string ⟨#[]⟩])) := ⟨hte, htf.1, htf.2.1, htf.2.2⟩
 clear hinf hte htf
 have H1 : Hid (ParSt c w0 wb mv vp vq vl ps qs E (left - t.size) (w.setCell ⟨wb, 6, none⟩ (.int .i64 (left - t.size)))) := h.spend _
 clear h hg hS hng ht hlf hn
 go_enter Tryz.func82, Tryz.ntmps82
 go_wp2_with fail
 clear c6 f6 H
 generalize w.setCell ⟨wb, 6, none⟩ (.int .i64 (left - t.size)) = w1 at *
 have HPP : Hid (Calls Tryz.prog 24 #[.string t] w1 fun e w' => plainEnd w1.heap.size (parseS t) e w' ∧ Below w1.heap.size w1 w') := plainParse_any t a tt w1 (HH.out.1.below H1.out.bl HH.out.2.2) (HH.out.2.1.below H1.out.bl) HT.out
 have HPR : Hid (∀ wx, Calls Tryz.prog 132 #[.string t] wx fun e w' => rparseEnd wx.heap.size (parseS t) e w' ∧ Below wx.heap.size wx w') := fun wx => rparse_any t wx HT.out
 cases hp : parseS t with
 | error bk =>
  have HPE : Hid (parseS t = .error bk) := hp
  clear hp
  go_wp2_with fail
  refine HPP.out.mono ?_
  rintro e w2 ⟨hend, hb2⟩
  rw [HPE.out] at hend
  subst hend
  have HB2 : Hid (Below w1.heap.size w1 w2) := hb2
  clear hb2
  go_wp2_with fail
  refine (HPR.out w2).mono ?_
  rintro e w3 ⟨hend, hb3⟩
  rw [HPE.out] at hend
  subst hend
  have HFIN : Hid (ParSt c w0 wb mv vp vq vl ps qs E (left - t.size) w3) := (H1.out.below HB2.out).below hb3
  clear hb3
  go_wp2_with fail
  go_ret
  exact ⟨rfl, c, vp, vq, vl, ps, qs, E, HFIN.out, Nat.le_succ _, Nat.le_succ _, Nat.le_succ _⟩
 | ok Sc =>
  have HPE : Hid (parseS t = .ok Sc) := hp
  clear hp
  obtain ⟨S, cs⟩ := Sc
  go_wp2_with fail
  refine HPP.out.mono ?_
  rintro e w2 ⟨hend, hb2⟩
  rw [HPE.out] at hend
  obtain ⟨mb, rfl, hmk, hso⟩ := hend
  have HMK : Hid (ManK w1.heap.size S cs mb w2) := hmk
  have HSO : Hid (SOk S 0 []) := hso
  have H2 : Hid (ParSt c w0 wb mv vp vq vl ps qs E (left - t.size) w2) := H1.out.below hb2
  have HB2 : Hid (Below w1.heap.size w1 w2) := hb2
  clear hmk hso hb2 HPP
  go_wp2_with fail
  refine (HPR.out w2).mono ?_
  rintro e w3 ⟨hend, hb3⟩
  rw [HPE.out] at hend
  obtain ⟨rb, rfl, hrm, hjk⟩ := hend
  have HRM : Hid (RManAt w2.heap.size S cs rb w3) := hrm
  have H3 : Hid (ParSt c w0 wb mv vp vq vl ps qs E (left - t.size) w3) := H2.out.below hb3
  have HB3 : Hid (Below w2.heap.size w2 w3) := hb3
  clear hrm hb3 hjk HPR
  obtain ⟨ap, cp, hvp, _, _⟩ := row_form H3.out.p
  obtain ⟨aq, cq, hvq, _, _⟩ := row_form H3.out.q
  have HVP : Hid (vp = .slice ap ps.length cp) := hvp
  have HVQ : Hid (vq = .slice aq qs.length cq) := hvq
  clear hvp hvq
  have hn1 := HN.out.1
  have hn2 := HN.out.2.1
  have HLW : Hid (∀ k, (k = wb ∨ vp.ownBlock = some k ∨ vq.ownBlock = some k) → k < w1.heap.size) := fun k hk => by
   rcases hk with q | q | q
   ·rw [q]; exact H1.out.row.lt
   ·exact (rblock H1.out.p k q).2
   ·exact (rblock H1.out.q k q).2
  have HZ3 : Hid (w1.heap.size ≤ w2.heap.size ∧ w2.heap.size ≤ w3.heap.size) := ⟨HB2.out.size, HB3.out.size⟩
  generalize hPN : ps.length = PN at *
  generalize hQN : qs.length = QN at *
  have HPN : Hid (ps.length = PN ∧ qs.length = QN) := ⟨hPN, hQN⟩
  clear hPN hQN
  have c2 : w3.cell? ⟨wb, 2, none⟩ = some (.slice ap PN cp) := by rw [cell_of_row _ _ _ _ _ _ H3.out.row]; exact congrArg some HVP.out
  have HD4 : Hid ((w3.alloc (.cells #[.pointer (some ⟨mb, 0, none⟩)] 45)).ownsRow w0.heap.size 45 1 (.slice ap PN cp) PN ps) := by
   have h := H3.out.p
   rw [HVP.out, HPN.out.1] at h
   exact rkeep h (fun k hk => heapA_old _ _ k (rblock h k hk).2)
  have hB4 : w0.heap.size ≤ (w3.alloc (.cells #[.pointer (some ⟨mb, 0, none⟩)] 45)).heap.size := by
   have := H3.out.bl.size
   simp; omega
  go_wp2_with (at_builtin; refine wpList_append_lies _ rfl (.tmp 57) (.tmp 59) 108 rfl w0.heap.size 45 tp (.pointer none) 1 8 Tryz.underlying108 HTP.out.1 HTP.out.2.2.2 HTP.out.2.1 HTP.out.2.2.1 rfl (by decide) _ PN ps rfl HD4.out ⟨w3.heap.size, 0, none⟩ 1 1 [.pointer (some ⟨mb, 0, none⟩)] rfl rfl (by exact newCells w3 _ _) (by intro u hu; simp only [List.mem_cons, List.not_mem_nil, or_false] at hu; subst hu; rfl) (by decide) (by unfold maxLen; omega) (by omega) hB4 _ rfl ?_; intro g4 cap4 w4 hv4 hg4 hat4 hlt4; refine Hid.out ?_)
  have HA4 : ParSt c w0 wb mv vp vq vl ps qs E (left - t.size) (w3.alloc (.cells #[.pointer (some ⟨mb, 0, none⟩)] 45)) := H3.out.below ((Below.refl _ _).alloc (Nat.le_refl _) _)
  have hrow4 : PRow w4 wb mv vp vq vl (left - t.size) := (hg4.block wb HA4.row.lt (fun e => by have h1 := HA4.c2 wb (by rw [HVP.out]; exact e.symm); have h2 := HA4.c1; omega)).trans HA4.row
  have d4 : w4.cell? ⟨wb, 2, none⟩ = some (.slice ap PN cp) := by rw [cell_of_row _ _ _ _ _ _ hrow4]; exact congrArg some HVP.out
  have f4 : w4.frozen? ⟨wb, 2, none⟩ = false := frozen_of_row _ _ _ _ _ hrow4
  have H5 : Hid (ParSt (fun k => if (Value.slice (some ⟨g4, 0, none⟩) (PN + 1) cap4).ownBlock = some k then 2 else c k) w0 wb mv (.slice (some ⟨g4, 0, none⟩) (PN + 1) cap4) vq vl (ps ++ [.pointer (some ⟨mb, 0, none⟩)]) qs E (left - t.size) (w4.setCell ⟨wb, 2, none⟩ (.slice (some ⟨g4, 0, none⟩) (PN + 1) cap4))) := HA4.addP (by rw [HVP.out]; exact hg4) (by rw [HPN.out.1]; exact hv4) (fun k hk => by
   have e : g4 = k := Option.some.inj hk
   subst e
   rw [HVP.out]
   rcases hat4 with e2 | e2
   ·exact Or.inl e2
   ·right; rw [e2]; exact Nat.le_refl _)
  have HK5 : Hid (w3.heap.size ≤ (w4.setCell ⟨wb, 2, none⟩ (.slice (some ⟨g4, 0, none⟩) (PN + 1) cap4)).heap.size ∧ ∀ k, w1.heap.size ≤ k → k < w3.heap.size → (w4.setCell ⟨wb, 2, none⟩ (.slice (some ⟨g4, 0, none⟩) (PN + 1) cap4)).heap[k]? = w3.heap[k]?) := by
   have s4 := hg4.size
   have sa : (w3.alloc (.cells #[.pointer (some ⟨mb, 0, none⟩)] 45)).heap.size = w3.heap.size + 1 := by simp
   refine ⟨by show _ ≤ (w4.setCell _ _).heap.size; simp; omega, fun k h1 h2 => ?_⟩
   rw [heap_setCell_other _ _ _ _ (show k ≠ wb from fun e => by have := HLW.out k (Or.inl e); omega)]
   exact (hg4.block k (by omega) (fun e => by have := HLW.out k (Or.inr (Or.inl (by rw [HVP.out]; exact e.symm))); omega)).trans (heapA_old _ _ k h2)
  clear hv4 hg4 hat4 hlt4 hrow4 HA4 c2
  unfold Hid
  generalize hc5 : (fun k => if (Value.slice (some ⟨g4, 0, none⟩) (PN + 1) cap4).ownBlock = some k then 2 else c k) = c5 at *
  clear hc5
  go_upto_region 9 with fail
  generalize w4.setCell ⟨wb, 2, none⟩ (.slice (some ⟨g4, 0, none⟩) (PN + 1) cap4) = w5 at *
  clear d4 f4
  have c3 : w5.cell? ⟨wb, 3, none⟩ = some (.slice aq QN cq) := by rw [cell_of_row _ _ _ _ _ _ H5.out.row]; exact congrArg some HVQ.out
  have HD6 : Hid ((w5.alloc (.cells #[.pointer (some ⟨rb, 5, none⟩)] 227)).ownsRow w0.heap.size 227 1 (.slice aq QN cq) QN qs) := by
   have h := H5.out.q
   rw [HVQ.out, HPN.out.2] at h
   exact rkeep h (fun k hk => heapA_old _ _ k (rblock h k hk).2)
  have hB6 : w0.heap.size ≤ (w5.alloc (.cells #[.pointer (some ⟨rb, 5, none⟩)] 227)).heap.size := by
   have := H5.out.bl.size
   simp; omega
  go_wp2_with (at_builtin; refine wpList_append_lies _ rfl (.tmp 67) (.tmp 69) 109 rfl w0.heap.size 227 tq (.pointer none) 1 8 Tryz.underlying109 HTQ.out.1 HTQ.out.2.2.2 HTQ.out.2.1 HTQ.out.2.2.1 rfl (by decide) _ QN qs rfl HD6.out ⟨w5.heap.size, 0, none⟩ 1 1 [.pointer (some ⟨rb, 5, none⟩)] rfl rfl (by exact newCells w5 _ _) (by intro u hu; simp only [List.mem_cons, List.not_mem_nil, or_false] at hu; subst hu; rfl) (by decide) (by unfold maxLen; omega) (by omega) hB6 _ rfl ?_; intro g6 cap6 w6 hv6 hg6 hat6 hlt6; refine Hid.out ?_)
  have HA6 := H5.out.below ((Below.refl _ w5).alloc (Nat.le_refl _) (.cells #[.pointer (some ⟨rb, 5, none⟩)] 227))
  have hrow6 := (hg6.block wb HA6.row.lt (fun e => by have h1 := HA6.c3 wb (by rw [HVQ.out]; exact e.symm); have h2 := HA6.c1; omega)).trans HA6.row
  have d6 : w6.cell? ⟨wb, 3, none⟩ = some (.slice aq QN cq) := by rw [cell_of_row _ _ _ _ _ _ hrow6]; exact congrArg some HVQ.out
  have f6 : w6.frozen? ⟨wb, 3, none⟩ = false := frozen_of_row _ _ _ _ _ hrow6
  have h7 := HA6.addQ (x := .pointer (some ⟨rb, 5, none⟩)) (v' := .slice (some ⟨g6, 0, none⟩) (QN + 1) cap6) (w3 := w6) (by rw [HVQ.out]; exact hg6) (by rw [HPN.out.2]; exact hv6) (fun k hk => by
   have e : g6 = k := Option.some.inj hk
   subst e
   rw [HVQ.out]
   rcases hat6 with e2 | e2
   ·exact Or.inl e2
   ·right; rw [e2]; exact Nat.le_refl _)
  obtain ⟨c7, hc7⟩ : ∃ c7, ParSt c7 w0 wb mv (.slice (some ⟨g4, 0, none⟩) (PN + 1) cap4) (.slice (some ⟨g6, 0, none⟩) (QN + 1) cap6) vl (ps ++ [.pointer (some ⟨mb, 0, none⟩)]) (qs ++ [.pointer (some ⟨rb, 5, none⟩)]) E (left - t.size) (w6.setCell ⟨wb, 3, none⟩ (.slice (some ⟨g6, 0, none⟩) (QN + 1) cap6)) := ⟨_, h7⟩
  have H7 : Hid (ParSt c7 w0 wb mv (.slice (some ⟨g4, 0, none⟩) (PN + 1) cap4) (.slice (some ⟨g6, 0, none⟩) (QN + 1) cap6) vl (ps ++ [.pointer (some ⟨mb, 0, none⟩)]) (qs ++ [.pointer (some ⟨rb, 5, none⟩)]) E (left - t.size) (w6.setCell ⟨wb, 3, none⟩ (.slice (some ⟨g6, 0, none⟩) (QN + 1) cap6))) := hc7
  have HK7 : Hid (w3.heap.size ≤ (w6.setCell ⟨wb, 3, none⟩ (.slice (some ⟨g6, 0, none⟩) (QN + 1) cap6)).heap.size ∧ ∀ k, w1.heap.size ≤ k → k < w3.heap.size → (w6.setCell ⟨wb, 3, none⟩ (.slice (some ⟨g6, 0, none⟩) (QN + 1) cap6)).heap[k]? = w3.heap[k]?) := by
   have s6 := hg6.size
   have sa : (w5.alloc (.cells #[.pointer (some ⟨rb, 5, none⟩)] 227)).heap.size = w5.heap.size + 1 := by simp
   have s5 := HK5.out.1
   refine ⟨by show _ ≤ (w6.setCell _ _).heap.size; simp; omega, fun k h1 h2 => ?_⟩
   rw [heap_setCell_other _ _ _ _ (show k ≠ wb from fun e => by have := HLW.out k (Or.inl e); omega)]
   exact ((hg6.block k (by omega) (fun e => by have := HLW.out k (Or.inr (Or.inr (by rw [HVQ.out]; exact e.symm))); omega)).trans (heapA_old _ _ k (by omega))).trans (HK5.out.2 k h1 h2)
  clear hv6 hg6 hat6 hlt6 hrow6 HA6 c3 h7 hc7 HD4 HD6
  unfold Hid
  go_upto_region 10 with fail
  generalize w6.setCell ⟨wb, 3, none⟩ (.slice (some ⟨g6, 0, none⟩) (QN + 1) cap6) = w7 at *
  clear d6 f6 H5 HK5
  have HMA : Hid (ManAt w1.heap.size S cs mb w7) := by
   have z := HZ3.out
   have s7 := HK7.out.1
   exact HMK.out w7 (by omega) (fun k h1 h2 => (HK7.out.2 k h1 (by omega)).trans (HB3.out.block k h2))
  have HRM7 : Hid (RManAt w2.heap.size S cs rb w7) := by
   have z := HZ3.out
   exact HRM.out.later (fun k h1 h2 => HK7.out.2 k (by omega) h2)
  have HFW : Hid (S.edges.length ≤ 64 ∧ fewE S.edges) := ⟨HSO.out.edges, fun e he => by
   have := HSO.out.edge e he
   exact ⟨by omega, by omega, by omega, by omega⟩⟩
  have HED : Hid (Calls Tryz.prog 34 #[.pointer (some ⟨mb, 0, none⟩)] w7 fun e w' => ∃ (v : Value) (c : Nat → Nat) (ds : List DraftV), e = .returned v ∧ EdgesAt w7.heap.size w' c v ds S.edges cs ∧ Below w7.heap.size w7 w') := pedges_any HMA.out HFW.out.1 HFW.out.2
  clear HMA HMK HRM HK7 HB2 HB3 HZ3 HLW
  go_wp2_with fail
  refine HED.out.mono ?_
  rintro e w10 ⟨lv, c2, ds2, rfl, hea, hb10⟩
  obtain ⟨avl, cpl, rfl, _, _⟩ := row_form hea.row
  have HEK : Hid (EdgeK w7.heap.size w10 (.slice avl S.edges.length cpl) S.edges cs) := hea.stays
  have H10 : Hid (ParSt c7 w0 wb mv (.slice (some ⟨g4, 0, none⟩) (PN + 1) cap4) (.slice (some ⟨g6, 0, none⟩) (QN + 1) cap6) vl (ps ++ [.pointer (some ⟨mb, 0, none⟩)]) (qs ++ [.pointer (some ⟨rb, 5, none⟩)]) E (left - t.size) w10) := H7.out.below hb10
  have HB10 : Hid (Below w7.heap.size w7 w10) := hb10
  have HFR : Hid (∀ k, w7.heap.size ≤ k → c7 k = 0) := H7.out.fresh
  have hrm := HRM7.out.later (w' := w10) (fun k _ h2 => hb10.block k h2)
  obtain ⟨ve, vf, ds, r1, r2, r3, r4, r5, r6, r7, r8⟩ := hrm
  obtain ⟨ae, ce, rfl, _, hge⟩ := row_form r4
  have HR4 : Hid (w10.ownsRow w2.heap.size 233 6 (.slice ae S.edges.length ce) S.edges.length (recellsC ds cs) ∧ cs.length = S.edges.length ∧ RListsAt w10 ds S.edges ∧ w10.cell? ⟨rb, 5, none⟩ = some (.slice ae S.edges.length ce)) := ⟨r4, r5, r6, r1⟩
  have HGE : Hid (0 < S.edges.length → ∃ g, ae = some ⟨g, 0, none⟩) := hge
  have el64 : S.edges.length ≤ 64 := HFW.out.1
  clear hea hb10 r1 r2 r3 r4 r5 r6 r7 r8 hge HED HRM7 H7
  generalize hEL : S.edges.length = EL at *
  have HEL : Hid (S.edges.length = EL) := hEL
  clear hEL
  go_wp2_with fail
  go_loopw [12, 13] (fun z12 z13 wr => ∃ (j cap : Nat) (ao : Option Addr), z12 = .slice ao j cap ∧ z13 = .int .i64 j ∧ j ≤ EL ∧ Below w10.heap.size w10 wr ∧ wr.ownsRow w10.heap.size 63 6 (.slice ao j cap) j ((recellsC ds cs).take (j * 6))) (fun _ z13 _ => EL - (intOf z13).toNat)
  case atStart => exact ⟨0, 0, none, rfl, rfl, Nat.zero_le _, Below.refl _ _, World.ownsRow_nil _ _ _ _⟩
  case round =>
   obtain ⟨j, cap, ao, rfl, rfl, hjE, hbr, hro⟩ := hrel
   have HBR : Hid (Below w10.heap.size w10 wr) := hbr
   have HRO : Hid (wr.ownsRow w10.heap.size 63 6 (.slice ao j cap) j ((recellsC ds cs).take (j * 6))) := hro
   have c5 : wr.cell? ⟨rb, 5, none⟩ = some (.slice ae EL ce) := (hbr.cell (p := ⟨rb, 5, none⟩) (block_lt_of_cell HR4.out.2.2.2)).trans HR4.out.2.2.2
   clear hbr hro
   have j0 : (0 : Int) ≤ (j : Int) := by omega
   by_cases hlt : j < EL
   ·have j1 : (j : Int) < (EL : Int) := by omega
    obtain ⟨d, hd⟩ : ∃ d, ds[j]? = some d := ⟨ds[j]'(by have := HR4.out.2.2.1.1; have := HEL.out; omega), by simp⟩
    obtain ⟨e, he⟩ : ∃ e, S.edges[j]? = some e := ⟨S.edges[j]'(by have := HEL.out; omega), by simp⟩
    obtain ⟨y, hy⟩ : ∃ y, cs[j]? = some y := ⟨cs[j]'(by have := HR4.out.2.1; omega), by simp⟩
    obtain ⟨g, rfl⟩ := HGE.out (by omega)
    have hrr := rkeep HR4.out.1 (w' := wr) (fun k hk => HBR.out.block k (rblock HR4.out.1 k hk).2)
    have hl := HR4.out.2.2.1.2 j d e hd he
    obtain ⟨a1, p1, e1, _, _⟩ := hl.1
    obtain ⟨a2, p2, e2, _, _⟩ := hl.2.1
    obtain ⟨a3, p3, e3, _, _⟩ := hl.2.2.1
    obtain ⟨a4, p4, e4, _, _⟩ := hl.2.2.2.1
    have cell : ∀ i u, i < 6 → [d.vo, d.vi, d.vm, d.vr, .string d.rule, .string y][i]? = some u → wr.cell? ⟨g, j * 6 + i, none⟩ = some u := fun i u hi hu => (row_cell hrr (j * 6 + i) u (by rw [recellsC_at ds cs j d y i hd hy hi]; exact hu)).1
    have z0 : wr.cell? ⟨g, j * 6, none⟩ = some (.slice a1 e.outs.length p1) := by rw [← e1]; exact cell 0 _ (by omega) rfl
    have z1 : wr.cell? ⟨g, j * 6 + 1, none⟩ = some (.slice a2 e.ins.length p2) := by rw [← e2]; exact cell 1 _ (by omega) rfl
    have z2 : wr.cell? ⟨g, j * 6 + 2, none⟩ = some (.slice a3 e.impl.length p3) := by rw [← e3]; exact cell 2 _ (by omega) rfl
    have z3 : wr.cell? ⟨g, j * 6 + 3, none⟩ = some (.slice a4 e.ord.length p4) := by rw [← e4]; exact cell 3 _ (by omega) rfl
    have z4 : wr.cell? ⟨g, j * 6 + 4, none⟩ = some (.string d.rule) := cell 4 _ (by omega) rfl
    have z5 : wr.cell? ⟨g, j * 6 + 5, none⟩ = some (.string y) := cell 5 _ (by omega) rfl
    have HTK : Hid ((recellsC ds cs).take ((j + 1) * 6) = (recellsC ds cs).take (j * 6) ++ [.slice a1 e.outs.length p1, .slice a2 e.ins.length p2, .slice a3 e.impl.length p3, .slice a4 e.ord.length p4, .string d.rule, .string y]) := by
     have := recellsC_take ds cs j d y hd hy
     rw [e1, e2, e3, e4] at this
     exact this
    clear hd he hy hrr hl e1 e2 e3 e4 cell
    generalize e.outs.length = L1 at *
    generalize e.ins.length = L2 at *
    generalize e.impl.length = L3 at *
    generalize e.ord.length = L4 at *
    generalize d.rule = RU at *
    have HX0 : Hid ((wr.alloc (.cells #[.slice a1 L1 p1, .slice a2 L2 p2, .slice a3 L3 p3, .slice a4 L4 p4, .string RU, .string y] 233)).heap[wr.heap.size]? = some (.cells #[.slice a1 L1 p1, .slice a2 L2 p2, .slice a3 L3 p3, .slice a4 L4 p4, .string RU, .string y] 233 (0, 0))) := heapA_new _ _ _ rfl
    have HBX : Hid (Below wr.heap.size wr (wr.alloc (.cells #[.slice a1 L1 p1, .slice a2 L2 p2, .slice a3 L3 p3, .slice a4 L4 p4, .string RU, .string y] 233))) := (Below.refl _ _).alloc (Nat.le_refl _) _
    go_upto_region 16 with fail
    clear z0 z1 z2 z3 z4 z5 c5
    generalize wr.alloc (.cells #[.slice a1 L1 p1, .slice a2 L2 p2, .slice a3 L3 p3, .slice a4 L4 p4, .string RU, .string y] 233) = wx at *
    obtain ⟨xb, hxb⟩ : ∃ xb, xb = wr.heap.size := ⟨_, rfl⟩
    rw [← hxb] at HX0
    rw [← hxb]
    have y0 : wx.cell? ⟨xb, 0, none⟩ = some (.slice a1 L1 p1) := by rw [cell_of_row _ _ _ _ _ _ HX0.out]; rfl
    have y1 : wx.cell? ⟨xb, 1, none⟩ = some (.slice a2 L2 p2) := by rw [cell_of_row _ _ _ _ _ _ HX0.out]; rfl
    have y2 : wx.cell? ⟨xb, 2, none⟩ = some (.slice a3 L3 p3) := by rw [cell_of_row _ _ _ _ _ _ HX0.out]; rfl
    have y3 : wx.cell? ⟨xb, 3, none⟩ = some (.slice a4 L4 p4) := by rw [cell_of_row _ _ _ _ _ _ HX0.out]; rfl
    have y4 : wx.cell? ⟨xb, 4, none⟩ = some (.string RU) := by rw [cell_of_row _ _ _ _ _ _ HX0.out]; rfl
    have y5 : wx.cell? ⟨xb, 5, none⟩ = some (.string y) := by rw [cell_of_row _ _ _ _ _ _ HX0.out]; rfl
    have HRX : Hid ((wx.alloc (.cells #[.slice a1 L1 p1, .slice a2 L2 p2, .slice a3 L3 p3, .slice a4 L4 p4, .string RU, .string y] 63)).ownsRow w10.heap.size 63 6 (.slice ao j cap) j ((recellsC ds cs).take (j * 6))) := by
     refine rkeep HRO.out (fun k hk => ?_)
     have hb := (rblock HRO.out k hk).2
     exact (heapA_old _ _ k (Nat.lt_of_lt_of_le hb HBX.out.size)).trans (HBX.out.block k hb)
    have hBX : w10.heap.size ≤ (wx.alloc (.cells #[.slice a1 L1 p1, .slice a2 L2 p2, .slice a3 L3 p3, .slice a4 L4 p4, .string RU, .string y] 63)).heap.size := by
     have s1 := HBR.out.size
     have s2 := HBX.out.size
     simp; omega
    clear hxb
    go_wp2_with (at_builtin; refine wpList_append_lies _ rfl (.tmp 91) (.tmp 105) 60 rfl w10.heap.size 63 te (.agg #[.slice none 0 0, .slice none 0 0, .slice none 0 0, .slice none 0 0, .string ⟨#[]⟩, .string ⟨#[]⟩]) 6 128 Tryz.underlying60 HTE.out.1 HTE.out.2.2.2 HTE.out.2.1 HTE.out.2.2.1 rfl (by decide) _ j ((recellsC ds cs).take (j * 6)) rfl HRX.out ⟨wx.heap.size, 0, none⟩ 1 1 [.slice a1 L1 p1, .slice a2 L2 p2, .slice a3 L3 p3, .slice a4 L4 p4, .string RU, .string y] rfl rfl (by exact newCells wx _ _) (by intro u hu; simp only [List.mem_cons, List.not_mem_nil, or_false] at hu; rcases hu with rfl | rfl | rfl | rfl | rfl | rfl <;> rfl) (by decide) (by unfold maxLen; omega) (by omega) hBX _ rfl ?_; intro g8 cap8 w8 hv8 hg8 hat8 hlt8; refine Hid.out ?_)
    have HNX : Hid (Below w10.heap.size w10 w8 ∧ w8.ownsRow w10.heap.size 63 6 (.slice (some ⟨g8, 0, none⟩) (j + 1) cap8) (j + 1) ((recellsC ds cs).take ((j + 1) * 6))) := by
     refine ⟨?_, by rw [HTK.out]; exact hv8⟩
     have q1 : Below w10.heap.size w10 wx := HBR.out.trans (HBX.out.mono HBR.out.size)
     have q2 := q1.alloc q1.size (.cells #[.slice a1 L1 p1, .slice a2 L2 p2, .slice a3 L3 p3, .slice a4 L4 p4, .string RU, .string y] 63)
     exact q2.grown hg8 hBX (fun k hk => (rblock HRX.out k hk).1)
    clear hv8 hg8 hat8 hlt8 HRX HX0 HBX
    unfold Hid
    go_wp2_with fail
    exact ⟨⟨j + 1, cap8, some ⟨g8, 0, none⟩, rfl, by go_num, by omega, HNX.out⟩, by simp [intOf]; omega⟩
   ·have j1 : ¬ (j : Int) < (EL : Int) := by omega
    obtain rfl : j = EL := by omega
    have hdl : ds.length = j := by have := HR4.out.2.2.1.1; have := HEL.out; omega
    have hrow : wr.ownsRow w10.heap.size 63 6 (.slice ao j cap) S.edges.length (recellsC ds cs) := by
     have h := HRO.out
     rw [List.take_of_length_le (by rw [recellsC_length ds cs (by have := HR4.out.2.1; omega), hdl]; exact Nat.le_refl _)] at h
     rw [HEL.out]
     exact h
    have HM : EdgeRowAt wr (.slice ao j cap) S.edges cs := redges_at hrow (HR4.out.2.2.1.high (W0 := 0) (fun d _ k _ => Nat.zero_le k) (fun k _ h2 => HBR.out.block k h2))
    have HL : EdgeRowAt wr (.slice avl j cpl) S.edges cs := HEK.out wr HBR.out.size (fun k _ h2 => HBR.out.block k h2)
    have HSE : Hid (Calls Tryz.prog 93 #[.slice avl j cpl, .slice ao j cap] wr fun e w' => e = .returned (.bool true) ∧ ∃ q, w' = wr.drewN q) := sameEdges_same S.edges cs _ _ wr HL HM (by have := HEL.out; omega) (by have := HR4.out.2.1; have := HEL.out; omega) HFW.out.2
    clear hrow HM HL hdl
    go_wp2_with fail
    refine HSE.out.mono ?_
    rintro e w11 ⟨rfl, q, rfl⟩
    have H11 : ParSt c7 w0 wb mv (.slice (some ⟨g4, 0, none⟩) (PN + 1) cap4) (.slice (some ⟨g6, 0, none⟩) (QN + 1) cap6) vl (ps ++ [.pointer (some ⟨mb, 0, none⟩)]) (qs ++ [.pointer (some ⟨rb, 5, none⟩)]) E (left - t.size) (wr.drewN q) := (H10.out.below HBR.out).below (below_drewN (Below.refl _ _) q)
    have HOE : Hid (Calls Tryz.prog 133 #[.pointer (some ⟨wb, 0, none⟩), .slice avl j cpl] (wr.drewN q) fun e w' => e = .returned (.tuple #[]) ∧ ∃ c' vl' E', ParSt c' w0 wb mv (.slice (some ⟨g4, 0, none⟩) (PN + 1) cap4) (.slice (some ⟨g6, 0, none⟩) (QN + 1) cap6) vl' (ps ++ [.pointer (some ⟨mb, 0, none⟩)]) (qs ++ [.pointer (some ⟨rb, 5, none⟩)]) E' (left - t.size) w' ∧ E'.length ≤ E.length + 1) := ownEdges_any (.slice avl j cpl) S.edges cs H11 (fun w'' hs hk => HEK.out w'' (Nat.le_trans HBR.out.size hs) (fun k h1 h2 => (hk k (Nat.lt_of_lt_of_le h2 HBR.out.size) (HFR.out k h1)).trans (HBR.out.block k h2))) (by have := HEL.out; omega) (by have := HR4.out.2.1; have := HEL.out; omega) HFW.out.2 HN.out.2.2
    clear H11
    generalize wr.drewN q = w11 at *
    go_wp2_with fail
    refine HOE.out.mono ?_
    rintro e w12 ⟨rfl, c', vl', E', hst, hle⟩
    have HFIN : Hid (∃ c' vp' vq' vl' ps' qs' E', ParSt c' w0 wb mv vp' vq' vl' ps' qs' E' (left - t.size) w12 ∧ ps'.length ≤ ps.length + 1 ∧ qs'.length ≤ qs.length + 1 ∧ E'.length ≤ E.length + 1) := ⟨c', _, _, vl', _, _, E', hst, by rw [List.length_append]; exact Nat.le_refl _, by rw [List.length_append]; exact Nat.le_refl _, hle⟩
    clear hst hle
    go_wp2_with fail
    go_ret
    exact ⟨rfl, HFIN.out⟩
end Go.Proofs.YthhbpebihgjpjaaGreatDoor
