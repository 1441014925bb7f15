import Derived.Test.YthhbpebihgjpjaaGreatDoorP22
namespace Go.Proofs.YthhbpebihgjpjaaGreatDoor
open Go.RowKit Go.Maps
set_option maxRecDepth 1000000

theorem ltexts_any (l : List ByteArray) (v : Value) (w : World) (h : TextsAt w v l) (hl : l.length ≤ 10000) :
  Calls Tryz.prog 84 #[v] w fun e w' => ∃ ao n c, e = .returned (.slice ao n c) ∧ TextsF w.heap.size w' (.slice ao n c) l ∧ (∀ k, (Value.slice ao n c).ownBlock = some k → k < w'.heap.size) ∧ Below w.heap.size w w' := by
 refine (texts_any l v w h (by omega)).mono ?_
 rintro e w' ⟨v', rfl, hr, hb⟩
 obtain ⟨ao, cap, rfl, _, _⟩ := row_form hr
 exact ⟨ao, _, cap, rfl, ⟨texts_own hr, fun k hk => (rblock hr k hk).1⟩, fun k hk => (rblock hr k hk).2, hb⟩
set_option maxHeartbeats 8000000 in
theorem ledges_any (es : List EdgeS) (cs : List ByteArray) (v : Value) (w : World) (h : EdgeRowAt w v es cs) (hn : es.length ≤ 64) (hcl : cs.length = es.length) (hok : ∀ e ∈ es, e.outs.length ≤ 10000 ∧ e.ins.length ≤ 10000 ∧ e.impl.length ≤ 10000 ∧ e.ord.length ≤ 10000) :
  Calls Tryz.prog 216 #[v] w fun e w' => ∃ (v : Value) (c : Nat → Nat) (ds : List DraftV), e = .returned v ∧ EdgesAt w.heap.size w' c v ds es cs ∧ Below w.heap.size w w' := by
 have hinf : (Tryz.prog.info? 63).map (fun i => (i.size, i.bytes, i.zero)) = some (6, 128, some (.agg #[.slice none 0 0, .slice none 0 0, .slice none 0 0, .slice none 0 0, .string ⟨#[]⟩, .string ⟨#[]⟩])) := by kernel_rfl
 obtain ⟨ti, hti, htj⟩ := Option.map_eq_some_iff.1 hinf
 simp only [Prod.mk.injEq] at htj
 have HTI : Hid (Tryz.prog.info? 63 = some ti ∧ ti.size = 6 ∧ ti.bytes = 128 ∧ ti.zero = some (.agg #[.slice none 0 0, .slice none 0 0, .slice none 0 0, .slice none 0 0, .string ⟨#[]⟩, .string ⟨#[]⟩])) := ⟨hti, htj.1, htj.2.1, htj.2.2⟩
 clear hinf hti htj
 have HOK : Hid (∀ e ∈ es, e.outs.length ≤ 10000 ∧ e.ins.length ≤ 10000 ∧ e.impl.length ≤ 10000 ∧ e.ord.length ≤ 10000) := hok
 have HDL : Hid (cs.length = es.length ∧ cs.length = es.length) := ⟨hcl, hcl⟩
 obtain ⟨aoe, cape, rfl, hsrc⟩ := h
 have HSR : Hid (es = [] ∨ ∃ g o, aoe = some ⟨g, o, none⟩ ∧ ∀ (k : Nat) e c, es[k]? = some e → cs[k]? = some c → ∃ vo vi vm vr, (w.cell? ⟨g, o + k * 6, none⟩ = some vo ∧ w.cell? ⟨g, o + k * 6 + 1, none⟩ = some vi ∧ w.cell? ⟨g, o + k * 6 + 2, none⟩ = some vm ∧ w.cell? ⟨g, o + k * 6 + 3, none⟩ = some vr ∧ w.cell? ⟨g, o + k * 6 + 4, none⟩ = some (.string e.rule) ∧ w.cell? ⟨g, o + k * 6 + 5, none⟩ = some (.string c)) ∧ TextsAt w vo e.outs ∧ TextsAt w vi e.ins ∧ TextsAt w vm e.impl ∧ TextsAt w vr e.ord) := hsrc
 clear hsrc hok hcl
 generalize hLE : es.length = L at *
 have HLE : Hid (es.length = L) := hLE
 have l0 : (L : Int) ≤ 64 := by omega
 clear hLE
 go_enter Tryz.func216, Tryz.ntmps216
 go_wp2_with fail
 go_loopw [3, 4] (fun v i wr => ∃ (j cap : Nat) (ao : Option Addr) (c : Nat → Nat) (ds' : List DraftV), i = .int .i64 j ∧ v = .slice ao j cap ∧ j ≤ L ∧ ds'.length = j ∧ EdgesAt w.heap.size wr c (.slice ao j cap) ds' (es.take j) (cs.take j) ∧ Below w.heap.size w wr) (fun _ i _ => L - (intOf i).toNat)
 case atStart =>
  exact ⟨0, 0, none, fun k => if k < w.heap.size then 9 else 0, [], rfl, rfl, Nat.zero_le _, rfl, ⟨World.ownsRow_nil _ _ _ _, fun _ _ _ => ⟨rfl, fun k d e hd => by simp at hd⟩, (fun k hk => by cases hk), (fun k hk => if_neg (by omega)), fun k hk => if_pos hk⟩, Below.refl _ _⟩
 case round =>
  obtain ⟨j, cap, ao, c, ds', rfl, rfl, hle, hdj, hea, hbw⟩ := hrel
  have HEA : Hid (EdgesAt w.heap.size wr c (.slice ao j cap) ds' (es.take j) (cs.take j)) := hea
  have HBW : Hid (Below w.heap.size w wr) := hbw
  have HDJ : Hid (ds'.length = j) := hdj
  clear hea hbw hdj
  have j0 : (0 : Int) ≤ (j : Int) := by omega
  by_cases hlt : j < L
  ·have j1 : (j : Int) < (L : Int) := by omega
   obtain ⟨e0, he0⟩ : ∃ e, es[j]? = some e := ⟨es[j]'(by have := HLE.out; omega), by simp⟩
   obtain ⟨cm, hcm⟩ : ∃ c, cs[j]? = some c := ⟨cs[j]'(by have := HDL.out.2; omega), by simp⟩
   have HEK : Hid (e0.outs.length ≤ 10000 ∧ e0.ins.length ≤ 10000 ∧ e0.impl.length ≤ 10000 ∧ e0.ord.length ≤ 10000) := HOK.out e0 (List.mem_of_getElem? he0)
   obtain ⟨g, o, rfl, hsr⟩ : ∃ g o, aoe = some ⟨g, o, none⟩ ∧ _ := by
    rcases HSR.out with q | q
    ·rw [q] at he0; simp at he0
    ·exact q
   obtain ⟨vo, vi, vm, vr, ⟨q0, q1, q2, q3, q4, q5⟩, htx⟩ := hsr j e0 cm he0 hcm
   have hgl : g < w.heap.size := block_lt_of_cell q0
   have hup : ∀ {a : Nat} {u : Value}, w.cell? ⟨g, a, none⟩ = some u → wr.cell? ⟨g, a, none⟩ = some u := fun {a u} hu => (HBW.out.cell (p := ⟨g, a, none⟩) hgl).trans hu
   have e0c := hup q0
   have e1c := hup q1
   have e2c := hup q2
   have e3c := hup q3
   have e4c := hup q4
   have e5c := hup q5
   have HGR : Hid (g < wr.heap.size) := Nat.lt_of_lt_of_le hgl HBW.out.size
   have HED : Hid (es[j]? = some e0 ∧ cs[j]? = some cm) := ⟨he0, hcm⟩
   obtain ⟨aoo, no, co, hvo⟩ : ∃ ao n c, vo = .slice ao n c := by obtain ⟨ao, c, e, _⟩ := htx.1; exact ⟨ao, _, c, e⟩
   obtain ⟨aoi, ni, ci, hvi⟩ : ∃ ao n c, vi = .slice ao n c := by obtain ⟨ao, c, e, _⟩ := htx.2.1; exact ⟨ao, _, c, e⟩
   obtain ⟨aom, nm, cm', hvm⟩ : ∃ ao n c, vm = .slice ao n c := by obtain ⟨ao, c, e, _⟩ := htx.2.2.1; exact ⟨ao, _, c, e⟩
   obtain ⟨aor, nr, cr, hvr⟩ : ∃ ao n c, vr = .slice ao n c := by obtain ⟨ao, c, e, _⟩ := htx.2.2.2; exact ⟨ao, _, c, e⟩
   subst hvo hvi hvm hvr
   obtain ⟨rl, hrl⟩ : ∃ rl, rl = e0.rule := ⟨_, rfl⟩
   rw [← hrl] at e4c
   have htw : ∀ {u : Value} {l : List ByteArray}, TextsAt w u l → TextsAt wr u l := fun {u l} hu => hu.keepB HBW.out
   have HTX : Hid (TextsAt wr (.slice aoo no co) e0.outs ∧ TextsAt wr (.slice aoi ni ci) e0.ins ∧ TextsAt wr (.slice aom nm cm') e0.impl ∧ TextsAt wr (.slice aor nr cr) e0.ord ∧ rl = e0.rule) := ⟨htw htx.1, htw htx.2.1, htw htx.2.2.1, htw htx.2.2.2, hrl⟩
   clear hsr he0 hcm q0 q1 q2 q3 q4 q5 hup hgl hrl
   clear htx htw
   have HE0' : Hid ((wr.alloc (.cells #[.slice aoo no co, .slice aoi ni ci, .slice aom nm cm', .slice aor nr cr, .string rl, .string cm] 63)).heap[wr.heap.size]? = some (.cells #[.slice aoo no co, .slice aoi ni ci, .slice aom nm cm', .slice aor nr cr, .string rl, .string cm] 63 (0, 0))) := heapA_new _ _ _ rfl
   have HB0' : Hid (Below wr.heap.size wr (wr.alloc (.cells #[.slice aoo no co, .slice aoi ni ci, .slice aom nm cm', .slice aor nr cr, .string rl, .string cm] 63))) := (Below.refl _ _).alloc (Nat.le_refl _) _
   have zz : (wr.alloc (.cells #[.slice aoo no co, .slice aoi ni ci, .slice aom nm cm', .slice aor nr cr, .string rl, .string cm] 63)).cell? ⟨g, o + j * 6, none⟩ = some (.slice aoo no co) := (HB0'.out.cell (p := ⟨g, o + j * 6, none⟩) HGR.out).trans e0c
   have HCE : Hid (wr.cell? ⟨g, o + j * 6 + 1, none⟩ = some (.slice aoi ni ci) ∧ wr.cell? ⟨g, o + j * 6 + 2, none⟩ = some (.slice aom nm cm') ∧ wr.cell? ⟨g, o + j * 6 + 3, none⟩ = some (.slice aor nr cr)) := ⟨e1c, e2c, e3c⟩
   go_wp2_with fail
   generalize wr.alloc (.cells #[.slice aoo no co, .slice aoi ni ci, .slice aom nm cm', .slice aor nr cr, .string rl, .string cm] 63) = W0 at *
   have HE0 : Hid (W0.heap[wr.heap.size]? = some (.cells #[.slice aoo no co, .slice aoi ni ci, .slice aom nm cm', .slice aor nr cr, .string rl, .string cm] 63 (0, 0))) := HE0'
   have HB0 : Hid (Below wr.heap.size wr W0) := HB0'
   clear HE0' HB0' e0c e1c e2c e3c e4c e5c zz
   have HC0 := ltexts_any e0.outs (.slice aoo no co) W0 (HTX.out.1.keepB HB0.out) (by have := HEK.out; omega)
   refine HC0.mono ?_
   rintro e w2 ⟨aoo', no', ko', rfl, hty, hlt, hbl⟩
   have hsz : wr.heap.size < W0.heap.size := heap_lt HE0.out
   have hrow : w2.heap[wr.heap.size]? = some (.cells #[.slice aoo no co, .slice aoi ni ci, .slice aom nm cm', .slice aor nr cr, .string rl, .string cm] 63 (0, 0)) := (hbl.block _ hsz).trans HE0.out
   have zc : w2.cell? ⟨wr.heap.size, 0, none⟩ = some (.slice aoo no co) := by rw [cell_of_row _ _ _ _ _ _ hrow]; rfl
   have zf : w2.frozen? ⟨wr.heap.size, 0, none⟩ = false := frozen_of_row _ _ _ _ _ hrow
   have HE1 : Hid ((w2.setCell ⟨wr.heap.size, 0, none⟩ (.slice aoo' no' ko')).heap[wr.heap.size]? = some (.cells #[.slice aoo' no' ko', .slice aoi ni ci, .slice aom nm cm', .slice aor nr cr, .string rl, .string cm] 63 (0, 0))) := by
    show _ = _
    rw [heap_setCell_same _ _ _ _ _ _ hrow]; rfl
   have HB1 : Hid (Below wr.heap.size wr (w2.setCell ⟨wr.heap.size, 0, none⟩ (.slice aoo' no' ko'))) := (HB0.out.trans (hbl.mono HB0.out.size)).setCell (p := ⟨wr.heap.size, 0, none⟩) (Nat.le_refl _) _
   have hst : ∀ q, wr.heap.size + 1 ≤ q → q < W0.heap.size → (w2.setCell ⟨wr.heap.size, 0, none⟩ (.slice aoo' no' ko')).heap[q]? = W0.heap[q]? := fun q h1 h2 => by
    rw [heap_setCell_other _ _ _ _ (show q ≠ wr.heap.size by omega)]; exact hbl.block q h2
   have HT0 : Hid (TextsF (wr.heap.size + 1) (w2.setCell ⟨wr.heap.size, 0, none⟩ (.slice aoo' no' ko')) (.slice aoo' no' ko') e0.outs) := TextsF.same (w := w2) ⟨hty.1, fun q hq => by have := hty.2 q hq; omega⟩ (fun q h1 _ => heap_setCell_other _ _ _ _ (show q ≠ wr.heap.size by omega))
   have zn : (w2.setCell ⟨wr.heap.size, 0, none⟩ (.slice aoo' no' ko')).cell? ⟨g, o + j * 6 + 1, none⟩ = some (.slice aoi ni ci) := (HB1.out.cell (p := ⟨g, o + j * 6 + 1, none⟩) HGR.out).trans HCE.out.1
   clear hty hlt hbl hrow hst hsz HC0 HE0 HB0
   go_wp2_with fail
   generalize w2.setCell ⟨wr.heap.size, 0, none⟩ (.slice aoo' no' ko') = W1 at *
   clear zc zf zn
   have HC1 := ltexts_any e0.ins (.slice aoi ni ci) W1 (HTX.out.2.1.keepB HB1.out) (by have := HEK.out; omega)
   refine HC1.mono ?_
   rintro e w3 ⟨aoi', ni', ki', rfl, hty, hlt, hbl⟩
   have hsz : wr.heap.size < W1.heap.size := heap_lt HE1.out
   have hrow : w3.heap[wr.heap.size]? = some (.cells #[.slice aoo' no' ko', .slice aoi ni ci, .slice aom nm cm', .slice aor nr cr, .string rl, .string cm] 63 (0, 0)) := (hbl.block _ hsz).trans HE1.out
   have zc : w3.cell? ⟨wr.heap.size, 1, none⟩ = some (.slice aoi ni ci) := by rw [cell_of_row _ _ _ _ _ _ hrow]; rfl
   have zf : w3.frozen? ⟨wr.heap.size, 1, none⟩ = false := frozen_of_row _ _ _ _ _ hrow
   have HE2 : Hid ((w3.setCell ⟨wr.heap.size, 1, none⟩ (.slice aoi' ni' ki')).heap[wr.heap.size]? = some (.cells #[.slice aoo' no' ko', .slice aoi' ni' ki', .slice aom nm cm', .slice aor nr cr, .string rl, .string cm] 63 (0, 0))) := by
    show _ = _
    rw [heap_setCell_same _ _ _ _ _ _ hrow]; rfl
   have HB2 : Hid (Below wr.heap.size wr (w3.setCell ⟨wr.heap.size, 1, none⟩ (.slice aoi' ni' ki'))) := (HB1.out.trans (hbl.mono HB1.out.size)).setCell (p := ⟨wr.heap.size, 1, none⟩) (Nat.le_refl _) _
   have hst : ∀ q, wr.heap.size + 1 ≤ q → q < W1.heap.size → (w3.setCell ⟨wr.heap.size, 1, none⟩ (.slice aoi' ni' ki')).heap[q]? = W1.heap[q]? := fun q h1 h2 => by
    rw [heap_setCell_other _ _ _ _ (show q ≠ wr.heap.size by omega)]; exact hbl.block q h2
   have HT1 : Hid (TextsF (wr.heap.size + 1) (w3.setCell ⟨wr.heap.size, 1, none⟩ (.slice aoi' ni' ki')) (.slice aoi' ni' ki') e0.ins) := TextsF.same (w := w3) ⟨hty.1, fun q hq => by have := hty.2 q hq; omega⟩ (fun q h1 _ => heap_setCell_other _ _ _ _ (show q ≠ wr.heap.size by omega))
   replace HT0 : Hid (TextsF (wr.heap.size + 1) (w3.setCell ⟨wr.heap.size, 1, none⟩ (.slice aoi' ni' ki')) (.slice aoo' no' ko') e0.outs) := HT0.out.same hst
   have zn : (w3.setCell ⟨wr.heap.size, 1, none⟩ (.slice aoi' ni' ki')).cell? ⟨g, o + j * 6 + 2, none⟩ = some (.slice aom nm cm') := (HB2.out.cell (p := ⟨g, o + j * 6 + 2, none⟩) HGR.out).trans HCE.out.2.1
   clear hty hlt hbl hrow hst hsz HC1 HE1 HB1
   go_wp2_with fail
   generalize w3.setCell ⟨wr.heap.size, 1, none⟩ (.slice aoi' ni' ki') = W2 at *
   clear zc zf zn
   have HC2 := ltexts_any e0.impl (.slice aom nm cm') W2 (HTX.out.2.2.1.keepB HB2.out) (by have := HEK.out; omega)
   refine HC2.mono ?_
   rintro e w4 ⟨aom', nm', km', rfl, hty, hlt, hbl⟩
   have hsz : wr.heap.size < W2.heap.size := heap_lt HE2.out
   have hrow : w4.heap[wr.heap.size]? = some (.cells #[.slice aoo' no' ko', .slice aoi' ni' ki', .slice aom nm cm', .slice aor nr cr, .string rl, .string cm] 63 (0, 0)) := (hbl.block _ hsz).trans HE2.out
   have zc : w4.cell? ⟨wr.heap.size, 2, none⟩ = some (.slice aom nm cm') := by rw [cell_of_row _ _ _ _ _ _ hrow]; rfl
   have zf : w4.frozen? ⟨wr.heap.size, 2, none⟩ = false := frozen_of_row _ _ _ _ _ hrow
   have HE3 : Hid ((w4.setCell ⟨wr.heap.size, 2, none⟩ (.slice aom' nm' km')).heap[wr.heap.size]? = some (.cells #[.slice aoo' no' ko', .slice aoi' ni' ki', .slice aom' nm' km', .slice aor nr cr, .string rl, .string cm] 63 (0, 0))) := by
    show _ = _
    rw [heap_setCell_same _ _ _ _ _ _ hrow]; rfl
   have HB3 : Hid (Below wr.heap.size wr (w4.setCell ⟨wr.heap.size, 2, none⟩ (.slice aom' nm' km'))) := (HB2.out.trans (hbl.mono HB2.out.size)).setCell (p := ⟨wr.heap.size, 2, none⟩) (Nat.le_refl _) _
   have hst : ∀ q, wr.heap.size + 1 ≤ q → q < W2.heap.size → (w4.setCell ⟨wr.heap.size, 2, none⟩ (.slice aom' nm' km')).heap[q]? = W2.heap[q]? := fun q h1 h2 => by
    rw [heap_setCell_other _ _ _ _ (show q ≠ wr.heap.size by omega)]; exact hbl.block q h2
   have HT2 : Hid (TextsF (wr.heap.size + 1) (w4.setCell ⟨wr.heap.size, 2, none⟩ (.slice aom' nm' km')) (.slice aom' nm' km') e0.impl) := TextsF.same (w := w4) ⟨hty.1, fun q hq => by have := hty.2 q hq; omega⟩ (fun q h1 _ => heap_setCell_other _ _ _ _ (show q ≠ wr.heap.size by omega))
   replace HT0 : Hid (TextsF (wr.heap.size + 1) (w4.setCell ⟨wr.heap.size, 2, none⟩ (.slice aom' nm' km')) (.slice aoo' no' ko') e0.outs) := HT0.out.same hst
   replace HT1 : Hid (TextsF (wr.heap.size + 1) (w4.setCell ⟨wr.heap.size, 2, none⟩ (.slice aom' nm' km')) (.slice aoi' ni' ki') e0.ins) := HT1.out.same hst
   have zn : (w4.setCell ⟨wr.heap.size, 2, none⟩ (.slice aom' nm' km')).cell? ⟨g, o + j * 6 + 3, none⟩ = some (.slice aor nr cr) := (HB3.out.cell (p := ⟨g, o + j * 6 + 3, none⟩) HGR.out).trans HCE.out.2.2
   clear hty hlt hbl hrow hst hsz HC2 HE2 HB2
   go_wp2_with fail
   generalize w4.setCell ⟨wr.heap.size, 2, none⟩ (.slice aom' nm' km') = W3 at *
   clear zc zf zn
   have HC3 := ltexts_any e0.ord (.slice aor nr cr) W3 (HTX.out.2.2.2.1.keepB HB3.out) (by have := HEK.out; omega)
   refine HC3.mono ?_
   rintro e w5 ⟨aor', nr', kr', rfl, hty, hlt, hbl⟩
   have hsz : wr.heap.size < W3.heap.size := heap_lt HE3.out
   have hrow : w5.heap[wr.heap.size]? = some (.cells #[.slice aoo' no' ko', .slice aoi' ni' ki', .slice aom' nm' km', .slice aor nr cr, .string rl, .string cm] 63 (0, 0)) := (hbl.block _ hsz).trans HE3.out
   have zc : w5.cell? ⟨wr.heap.size, 3, none⟩ = some (.slice aor nr cr) := by rw [cell_of_row _ _ _ _ _ _ hrow]; rfl
   have zf : w5.frozen? ⟨wr.heap.size, 3, none⟩ = false := frozen_of_row _ _ _ _ _ hrow
   have HE4 : Hid ((w5.setCell ⟨wr.heap.size, 3, none⟩ (.slice aor' nr' kr')).heap[wr.heap.size]? = some (.cells #[.slice aoo' no' ko', .slice aoi' ni' ki', .slice aom' nm' km', .slice aor' nr' kr', .string rl, .string cm] 63 (0, 0))) := by
    show _ = _
    rw [heap_setCell_same _ _ _ _ _ _ hrow]; rfl
   have HB4 : Hid (Below wr.heap.size wr (w5.setCell ⟨wr.heap.size, 3, none⟩ (.slice aor' nr' kr'))) := (HB3.out.trans (hbl.mono HB3.out.size)).setCell (p := ⟨wr.heap.size, 3, none⟩) (Nat.le_refl _) _
   have hst : ∀ q, wr.heap.size + 1 ≤ q → q < W3.heap.size → (w5.setCell ⟨wr.heap.size, 3, none⟩ (.slice aor' nr' kr')).heap[q]? = W3.heap[q]? := fun q h1 h2 => by
    rw [heap_setCell_other _ _ _ _ (show q ≠ wr.heap.size by omega)]; exact hbl.block q h2
   have HT3 : Hid (TextsF (wr.heap.size + 1) (w5.setCell ⟨wr.heap.size, 3, none⟩ (.slice aor' nr' kr')) (.slice aor' nr' kr') e0.ord) := TextsF.same (w := w5) ⟨hty.1, fun q hq => by have := hty.2 q hq; omega⟩ (fun q h1 _ => heap_setCell_other _ _ _ _ (show q ≠ wr.heap.size by omega))
   replace HT0 : Hid (TextsF (wr.heap.size + 1) (w5.setCell ⟨wr.heap.size, 3, none⟩ (.slice aor' nr' kr')) (.slice aoo' no' ko') e0.outs) := HT0.out.same hst
   replace HT1 : Hid (TextsF (wr.heap.size + 1) (w5.setCell ⟨wr.heap.size, 3, none⟩ (.slice aor' nr' kr')) (.slice aoi' ni' ki') e0.ins) := HT1.out.same hst
   replace HT2 : Hid (TextsF (wr.heap.size + 1) (w5.setCell ⟨wr.heap.size, 3, none⟩ (.slice aor' nr' kr')) (.slice aom' nm' km') e0.impl) := HT2.out.same hst
   have y0 : (w5.setCell ⟨wr.heap.size, 3, none⟩ (.slice aor' nr' kr')).cell? ⟨wr.heap.size, 0, none⟩ = some (.slice aoo' no' ko') := by rw [cell_of_row _ _ _ _ _ _ HE4.out]; rfl
   have y1 : (w5.setCell ⟨wr.heap.size, 3, none⟩ (.slice aor' nr' kr')).cell? ⟨wr.heap.size, 1, none⟩ = some (.slice aoi' ni' ki') := by rw [cell_of_row _ _ _ _ _ _ HE4.out]; rfl
   have y2 : (w5.setCell ⟨wr.heap.size, 3, none⟩ (.slice aor' nr' kr')).cell? ⟨wr.heap.size, 2, none⟩ = some (.slice aom' nm' km') := by rw [cell_of_row _ _ _ _ _ _ HE4.out]; rfl
   have y3 : (w5.setCell ⟨wr.heap.size, 3, none⟩ (.slice aor' nr' kr')).cell? ⟨wr.heap.size, 3, none⟩ = some (.slice aor' nr' kr') := by rw [cell_of_row _ _ _ _ _ _ HE4.out]; rfl
   have y4 : (w5.setCell ⟨wr.heap.size, 3, none⟩ (.slice aor' nr' kr')).cell? ⟨wr.heap.size, 4, none⟩ = some (.string rl) := by rw [cell_of_row _ _ _ _ _ _ HE4.out]; rfl
   have y5 : (w5.setCell ⟨wr.heap.size, 3, none⟩ (.slice aor' nr' kr')).cell? ⟨wr.heap.size, 5, none⟩ = some (.string cm) := by rw [cell_of_row _ _ _ _ _ _ HE4.out]; rfl
   have hwz : (w5.setCell ⟨wr.heap.size, 3, none⟩ (.slice aor' nr' kr')).heap.size = w5.heap.size := by simp
   have hw5 : w.heap.size ≤ w5.heap.size := by have h1 := HB4.out.size; have h2 := HBW.out.size; omega
   have HXA : Hid (EdgesAt w.heap.size ((w5.setCell ⟨wr.heap.size, 3, none⟩ (.slice aor' nr' kr')).alloc (.cells #[.slice aoo' no' ko', .slice aoi' ni' ki', .slice aom' nm' km', .slice aor' nr' kr', .string rl, .string cm] 63)) c (.slice ao j cap) ds' (es.take j) (cs.take j)) := (HEA.out.later HB4.out).later ((Below.refl _ _).alloc (Nat.le_refl _) _)
   have hrj : ((w5.setCell ⟨wr.heap.size, 3, none⟩ (.slice aor' nr' kr')).alloc (.cells #[.slice aoo' no' ko', .slice aoi' ni' ki', .slice aom' nm' km', .slice aor' nr' kr', .string rl, .string cm] 63)).ownsRow w.heap.size 63 6 (.slice ao j cap) j (ecells ds' (cs.take j)) := by
    have h := HXA.out.row
    rw [List.length_take, Nat.min_eq_left (by rw [HLE.out]; omega)] at h
    exact h
   have HRJ : Hid (((w5.setCell ⟨wr.heap.size, 3, none⟩ (.slice aor' nr' kr')).alloc (.cells #[.slice aoo' no' ko', .slice aoi' ni' ki', .slice aom' nm' km', .slice aor' nr' kr', .string rl, .string cm] 63)).ownsRow w.heap.size 63 6 (.slice ao j cap) j (ecells ds' (cs.take j))) := hrj
   have HNC : Hid (∀ jj u, ([.slice aoo' no' ko', .slice aoi' ni' ki', .slice aom' nm' km', .slice aor' nr' kr', .string rl, .string cm] : List Value)[jj]? = some u → ((w5.setCell ⟨wr.heap.size, 3, none⟩ (.slice aor' nr' kr')).alloc (.cells #[.slice aoo' no' ko', .slice aoi' ni' ki', .slice aom' nm' km', .slice aor' nr' kr', .string rl, .string cm] 63)).cell? ((⟨w5.heap.size, 0, none⟩ : Addr).add jj) = some u) := by
    have h := newCells (w5.setCell ⟨wr.heap.size, 3, none⟩ (.slice aor' nr' kr')) [.slice aoo' no' ko', .slice aoi' ni' ki', .slice aom' nm' km', .slice aor' nr' kr', .string rl, .string cm] 63
    rw [hwz] at h
    exact h
   clear hty hlt hbl hrow hst hsz HC3 HE3 HB3 hrj
   go_wp2_with (at_builtin; refine wpList_append_lies _ rfl (.tmp 44) (.tmp 46) 60 rfl w.heap.size 63 ti (.agg #[.slice none 0 0, .slice none 0 0, .slice none 0 0, .slice none 0 0, .string ⟨#[]⟩, .string ⟨#[]⟩]) 6 128 Tryz.underlying60 HTI.out.1 HTI.out.2.2.2 HTI.out.2.1 HTI.out.2.2.1 rfl (by decide) _ j (ecells ds' (cs.take j)) rfl HRJ.out ⟨w5.heap.size, 0, none⟩ 1 1 [.slice aoo' no' ko', .slice aoi' ni' ki', .slice aom' nm' km', .slice aor' nr' kr', .string rl, .string cm] rfl rfl HNC.out (by intro u hu; simp only [List.mem_cons, List.not_mem_nil, or_false] at hu; rcases hu with rfl | rfl | rfl | rfl | rfl | rfl <;> rfl) (by decide) (by unfold maxLen; omega) (by omega) (by simp; omega) _ rfl ?_; intro g7 cap7 w7 hv7 hg7 hat7 hlt7; refine Hid.out ?_)
   have HEN : Hid (∃ c', EdgesAt w.heap.size w7 c' (.slice (some ⟨g7, 0, none⟩) (j + 1) cap7) (ds' ++ [⟨.slice aoo' no' ko', .slice aoi' ni' ki', .slice aom' nm' km', .slice aor' nr' kr', rl, 0⟩]) (es.take (j + 1)) (cs.take (j + 1))) := by
    have hbx : Below wr.heap.size wr ((w5.setCell ⟨wr.heap.size, 3, none⟩ (.slice aor' nr' kr')).alloc (.cells #[.slice aoo' no' ko', .slice aoi' ni' ki', .slice aom' nm' km', .slice aor' nr' kr', .string rl, .string cm] 63)) := HB4.out.alloc HB4.out.size _
    have hup : ∀ {u : Value} {l : List ByteArray}, TextsF (wr.heap.size + 1) (w5.setCell ⟨wr.heap.size, 3, none⟩ (.slice aor' nr' kr')) u l → TextsF wr.heap.size ((w5.setCell ⟨wr.heap.size, 3, none⟩ (.slice aor' nr' kr')).alloc (.cells #[.slice aoo' no' ko', .slice aoi' ni' ki', .slice aom' nm' km', .slice aor' nr' kr', .string rl, .string cm] 63)) u l := fun {u l} hu => by
     have h := hu.keep (w' := (w5.setCell ⟨wr.heap.size, 3, none⟩ (.slice aor' nr' kr')).alloc (.cells #[.slice aoo' no' ko', .slice aoi' ni' ki', .slice aom' nm' km', .slice aor' nr' kr', .string rl, .string cm] 63)) (fun q hq => heapA_old _ _ q hq)
     exact ⟨h.1, fun q hq => by have := h.2 q hq; omega⟩
    rw [take_snoc' _ _ _ HED.out.1, take_snoc' _ _ _ HED.out.2]
    refine HEA.out.add (wx := (w5.setCell ⟨wr.heap.size, 3, none⟩ (.slice aor' nr' kr')).alloc (.cells #[.slice aoo' no' ko', .slice aoi' ni' ki', .slice aom' nm' km', .slice aor' nr' kr', .string rl, .string cm] 63)) (by rw [HDJ.out, List.length_take, Nat.min_eq_left (by have := HDL.out.2; have := HLE.out; omega)]) hbx hg7 ?_ (fun k hk => ?_) (hup HT0.out) (hup HT1.out) (hup HT2.out) (hup HT3.out) HTX.out.2.2.2.2
    ·rw [List.length_take, Nat.min_eq_left (by rw [HLE.out]; omega)]; exact hv7
    ·have e : g7 = k := Option.some.inj hk
     subst e
     rcases hat7 with e2 | e2
     ·exact Or.inl e2
     ·right; rw [e2]; exact Nat.le_refl _
   have HBN : Hid (Below w.heap.size w w7) := ((HBW.out.trans (HB4.out.mono HBW.out.size)).alloc (by simp; omega) _).grown hg7 (by simp; omega) (fun k hk => (rblock HRJ.out k hk).1)
   clear hv7 hg7 hat7 hlt7
   obtain ⟨c7, hc7⟩ := HEN.out
   unfold Hid
   go_wp2_with fail
   exact ⟨⟨j + 1, cap7, some ⟨g7, 0, none⟩, c7, _, by go_num, rfl, hlt, by rw [List.length_append, HDJ.out]; rfl, hc7, HBN.out⟩, by simp [intOf]; omega⟩
  ·obtain rfl : j = L := by omega
   have j1 : ¬ (j : Int) < (j : Int) := by omega
   go_wp2_with fail
   go_ret
   refine ⟨_, by rfl, ⟨c, ds', ?_⟩, HBW.out⟩
   have h1 := HEA.out
   rw [List.take_of_length_le (by rw [HLE.out]; exact Nat.le_refl _), List.take_of_length_le (by rw [HDL.out.2]; exact Nat.le_refl _)] at h1
   exact h1
end Go.Proofs.YthhbpebihgjpjaaGreatDoor
