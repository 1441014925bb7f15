import Derived.Test.YthhbpebihgjpjaaGreatDoorP20
import Derived.Test.YthhbpebihgjpjaaGreatDoorP16
namespace Go.Proofs.YthhbpebihgjpjaaGreatDoor
open Go.RowKit Go.Maps Go.Shelf
set_option maxRecDepth 1000000

theorem pclone_any (l : List ByteArray) (v : Value) (w : World) (h : TextsAt w v l) (hl : l.length ≤ 10000) :
  Calls Tryz.prog 54 #[v] w fun e w' => ∃ ao n c, e = .returned (.slice ao n c) ∧ TextsF w.heap.size w' (.slice ao n c) l ∧ (∀ k, (Value.slice ao n c).ownBlock = some k → k < w'.heap.size) ∧ Below w.heap.size w w' := by
 have fin : ∀ {e : Ending} {w' : World} {v' : Value} {l : List ByteArray}, e = .returned v' → w'.ownsRow w.heap.size 9 1 v' l.length (l.map Value.string) → Below w.heap.size w w' → ∃ ao n c, e = .returned (.slice ao n c) ∧ TextsF w.heap.size w' (.slice ao n c) l ∧ (∀ k, (Value.slice ao n c).ownBlock = some k → k < w'.heap.size) ∧ Below w.heap.size w w' := by
  intro e w' v' l he hr hb
  obtain ⟨ao, cap, rfl, _, _⟩ := row_form hr
  exact ⟨ao, _, cap, he, ⟨texts_own hr, fun k hk => (rblock hr k hk).1⟩, fun k hk => (rblock hr k hk).2, hb⟩
 obtain ⟨ao, cap, rfl, hc, ⟨h0, rfl, _⟩ | ⟨b, o, rfl, h⟩⟩ := h
 ·cases ao with
  | none =>
   refine (Any.slices_Clone_string_nil Tryz.laysNm216 0 cap w).mono ?_
   rintro e w' ⟨rfl, rfl⟩
   exact ⟨none, 0, 0, rfl, ⟨⟨none, 0, rfl, Nat.le_refl _, Or.inl ⟨fun _ => rfl, rfl, trivial⟩⟩, (fun k hk => by cases hk)⟩, (fun k hk => by cases hk), Below.refl _ _⟩
  | some a =>
   refine (Any.slices_Clone_string_zero Tryz.laysNm216 a cap w).mono ?_
   rintro e w' ⟨v', rfl, hr, _, hb⟩
   exact fin (l := []) rfl hr hb
 ·refine (Any.slices_Clone_string Tryz.laysNm216 b o l.length cap l w (Nat.le_refl _) (by omega) (fun j hj => ?_)).mono ?_
  ·rw [h j l[j] (by simp)]
   simp [List.getD, hj]
  ·rintro e w' ⟨v', rfl, hr, _, hb⟩
   rw [List.take_length] at hr
   exact fin rfl hr hb
structure EdgesAt (W0 : Nat) (w : World) (c : Nat → Nat) (v : Value) (ds : List DraftV) (es : List EdgeS) (cs : List ByteArray) : Prop where
 row : w.ownsRow W0 63 6 v es.length (ecells ds cs)
 const : Stable c w (fun w => ds.length = es.length ∧ ∀ (k : Nat) d e, ds[k]? = some d → es[k]? = some e → TextsAt w d.vo e.outs ∧ TextsAt w d.vi e.ins ∧ TextsAt w d.vm e.impl ∧ TextsAt w d.vr e.ord ∧ d.rule = e.rule)
 c1 : ∀ k, v.ownBlock = some k → c k = 1
 fresh : ∀ k, w.heap.size ≤ k → c k = 0
 low : ∀ k, k < W0 → c k = 9
theorem ecells_at : ∀ (ds : List DraftV) (cs : List ByteArray) (j : Nat) (d : DraftV) (c : ByteArray) (i : Nat), ds[j]? = some d → cs[j]? = some c → i < 6 → (ecells ds cs)[j * 6 + i]? = (ecell d c)[i]?
 | [], _, j, d, c, i, h, _, _ => by simp at h
 | _ :: _, [], j, d, c, i, _, h, _ => by simp at h
 | x :: ds, y :: cs, 0, d, c, i, h, h2, hi => by
  simp only [List.getElem?_cons_zero, Option.some.injEq] at h h2
  subst h h2
  show (ecell x y ++ ecells ds cs)[0 * 6 + i]? = _
  rw [Nat.zero_mul, Nat.zero_add, List.getElem?_append_left (by show i < 6; exact hi)]
 | x :: ds, y :: cs, j + 1, d, c, i, h, h2, hi => by
  show (ecell x y ++ ecells ds cs)[(j + 1) * 6 + i]? = _
  rw [List.getElem?_append_right (by show 6 ≤ _; omega), show (j + 1) * 6 + i - (ecell x y).length = j * 6 + i by show (j + 1) * 6 + i - 6 = _; omega]
  exact ecells_at ds cs j d c i (by simpa using h) (by simpa using h2) hi
theorem EdgesAt.later {W0 : Nat} {w w' : World} {c : Nat → Nat} {v : Value} {ds : List DraftV} {es : List EdgeS} {cs : List ByteArray} (h : EdgesAt W0 w c v ds es cs) (hb : Below w.heap.size w w') : EdgesAt W0 w' c v ds es cs where
 row := rkeep h.row (fun k hk => hb.block k (rblock h.row k hk).2)
 const := h.const.step hb.size (fun k hk h0 => ⟨hb.block k hk, h0⟩)
 c1 := h.c1
 fresh := fun k hk => h.fresh k (Nat.le_trans hb.size hk)
 low := h.low
theorem EdgesAt.add {W0 : Nat} {w wx w' : World} {c : Nat → Nat} {v v' : Value} {ds : List DraftV} {es : List EdgeS} {cs : List ByteArray} {d : DraftV} {e : EdgeS} {y : ByteArray} (h : EdgesAt W0 w c v ds es cs) (hlen : ds.length = cs.length) (hb : Below w.heap.size w wx) (hg : wx.grownBy w' v.ownBlock) (hr : w'.ownsRow W0 63 6 v' (es.length + 1) (ecells ds cs ++ ecell d y)) (hat : ∀ k, v'.ownBlock = some k → v.ownBlock = some k ∨ wx.heap.size ≤ k) (t1 : TextsF w.heap.size wx d.vo e.outs) (t2 : TextsF w.heap.size wx d.vi e.ins) (t3 : TextsF w.heap.size wx d.vm e.impl) (t4 : TextsF w.heap.size wx d.vr e.ord) (hru : d.rule = e.rule) : ∃ c', EdgesAt W0 w' c' v' (ds ++ [d]) (es ++ [e]) (cs ++ [y]) := by
 have hx := h.later hb
 have hoff : ∀ k, k < wx.heap.size → c k ≠ 1 → w'.heap[k]? = wx.heap[k]? := fun k hk hc => hg.block k hk (fun e => hc (h.c1 k e.symm))
 have hn : ∀ k, k < wx.heap.size → c k ≠ 1 → v'.ownBlock ≠ some k := fun k hk hc e => by
  rcases hat k e with q | q
  ·exact hc (h.c1 k q)
  ·omega
 refine ⟨fun k => if v'.ownBlock = some k then 1 else if c k = 1 then 2 else c k, ?_⟩
 exact {
  row := by rw [List.length_append, ecells_snoc _ _ _ _ hlen]; exact hr
  const := fun w'' hs hk => by
   have hk2 : ∀ k, k < wx.heap.size → c k = 0 → w''.heap[k]? = wx.heap[k]? := fun k h1 h2 => by
    refine (hk k (Nat.lt_of_lt_of_le h1 hg.size) ?_).trans (hoff k h1 (by omega))
    show (if v'.ownBlock = some k then 1 else if c k = 1 then 2 else c k) = 0
    rw [if_neg (hn k h1 (by omega)), if_neg (by omega)]; exact h2
   have hold := hx.const w'' (Nat.le_trans hg.size hs) hk2
   have hnew : ∀ {u : Value} {l : List ByteArray}, TextsF w.heap.size wx u l → TextsAt w'' u l := fun {u l} hu => by
    obtain ⟨ao, cap, rfl, hc, q | ⟨b, o, rfl, q⟩⟩ := hu.1
    ·exact ⟨ao, cap, rfl, hc, Or.inl q⟩
    ·exact ⟨_, cap, rfl, hc, Or.inr ⟨b, o, rfl, fun k s hs' => (World.cell?_of_block (w := wx) (a := ⟨b, o + k, none⟩) (hk2 b (block_lt_of_cell (q k s hs')) (h.fresh b (hu.2 b rfl)))).trans (q k s hs')⟩⟩
   refine ⟨by simp [hold.1], fun k x z hx' hz => ?_⟩
   rcases Nat.lt_or_ge k ds.length with q | q
   ·rw [List.getElem?_append_left q] at hx'
    rw [List.getElem?_append_left (by rw [← hold.1]; exact q)] at hz
    exact hold.2 k x z hx' hz
   ·have hkk : k = ds.length := by
     have := (List.getElem?_eq_some_iff.1 hx').1
     simp at this
     omega
    subst hkk
    rw [List.getElem?_append_right (Nat.le_refl _), Nat.sub_self] at hx'
    rw [hold.1, List.getElem?_append_right (Nat.le_refl _), Nat.sub_self] at hz
    obtain rfl := Option.some.inj hx'
    obtain rfl := Option.some.inj hz
    exact ⟨hnew t1, hnew t2, hnew t3, hnew t4, hru⟩
  c1 := fun k hk => if_pos hk
  fresh := fun k hk => by
   have h1 := hg.size
   have h0 := hx.fresh k (by omega)
   show (if v'.ownBlock = some k then 1 else if c k = 1 then 2 else c k) = 0
   rw [if_neg (fun e => by have := (rblock hr k e).2; omega), if_neg (by omega)]; exact h0
  low := fun k hk => by
   have h0 := h.low k hk
   show (if v'.ownBlock = some k then 1 else if c k = 1 then 2 else c k) = 9
   rw [if_neg (fun e => by have := (rblock hr k e).1; omega), if_neg (by omega)]; exact h0 }
end Go.Proofs.YthhbpebihgjpjaaGreatDoor

namespace Go.Proofs.YthhbpebihgjpjaaGreatDoor
open Go.RowKit Go.Maps
set_option maxRecDepth 1000000

theorem heap_own {w : World} {B : Nat} {t : TypeId} {s g n cap m : Nat} {xs : List Value} (h : w.ownsRow B t s (.slice (some ⟨g, 0, none⟩) n cap) m xs) : g < w.heap.size := (rblock h g rfl).2
set_option maxHeartbeats 8000000 in
theorem pedges_any {W0' : Nat} {S : St} {cs : List ByteArray} {mb : Nat} {w : World} (h : ManAt W0' S cs mb w) (hn : S.edges.length ≤ 64) (hok : ∀ e ∈ S.edges, e.outs.length ≤ 10000 ∧ e.ins.length ≤ 10000 ∧ e.impl.length ≤ 10000 ∧ e.ord.length ≤ 10000) :
  Calls Tryz.prog 34 #[.pointer (some ⟨mb, 0, none⟩)] w fun e w' => ∃ (v : Value) (c : Nat → Nat) (ds : List DraftV), e = .returned v ∧ EdgesAt w.heap.size w' c v ds S.edges cs ∧ Below w.heap.size w w' := by
 have hinf : (Tryz.prog.info? 63).map (fun i => (i.size, i.bytes, i.zero)) = some (6, 128, some (.agg #[.slice none 0 0, .slice none 0 0, .slice none 0 0, .slice none 0 0, .string ⟨#[]⟩, .string ⟨#[]⟩])) := by kernel_rfl
 obtain ⟨ti, hti, htj⟩ := Option.map_eq_some_iff.1 hinf
 simp only [Prod.mk.injEq] at htj
 have HTI : Hid (Tryz.prog.info? 63 = some ti ∧ ti.size = 6 ∧ ti.bytes = 128 ∧ ti.zero = some (.agg #[.slice none 0 0, .slice none 0 0, .slice none 0 0, .slice none 0 0, .string ⟨#[]⟩, .string ⟨#[]⟩])) := ⟨hti, htj.1, htj.2.1, htj.2.2⟩
 clear hinf hti htj
 obtain ⟨ev, dv, ds, hm, hrow, hdl, hcl, hlists, _⟩ := h
 have HOK : Hid (∀ e ∈ S.edges, e.outs.length ≤ 10000 ∧ e.ins.length ≤ 10000 ∧ e.impl.length ≤ 10000 ∧ e.ord.length ≤ 10000) := hok
 have HLI : Hid (∀ (k : Nat) d e, ds[k]? = some d → S.edges[k]? = some e → TextsAt w d.vo e.outs ∧ TextsAt w d.vi e.ins ∧ TextsAt w d.vm e.impl ∧ TextsAt w d.vr e.ord ∧ d.rule = e.rule) := hlists
 have HDL : Hid (ds.length = S.edges.length ∧ cs.length = S.edges.length) := ⟨hdl, hcl⟩
 obtain ⟨aoe, cape, hve, hce, hge⟩ := row_form hrow
 subst hve
 have HRO : Hid (w.ownsRow W0' 63 6 (.slice aoe S.edges.length cape) S.edges.length (ecells ds cs)) := hrow
 have HGE : Hid (0 < S.edges.length → ∃ g, aoe = some ⟨g, 0, none⟩) := hge
 have c0 : w.cell? ⟨mb, 0, none⟩ = some (.slice aoe S.edges.length cape) := by rw [cell_of_row _ _ _ _ _ _ hm]; rfl
 have hmb : mb < w.heap.size := heap_lt hm
 obtain ⟨w1, hmk, hown1, hgr1⟩ := run_make_own (P := Tryz.prog) w w.heap.size 60 63 ti _ 6 Tryz.underlying60 HTI.out.1 HTI.out.2.2.2 HTI.out.2.1 .i64 .i64 S.edges.length (by rw [HTI.out.2.2.1]; omega) (by unfold maxLen; omega) (Nat.le_refl _)
 have HB1 : Hid (Below w.heap.size w w1) := (Below.refl _ w).grown hgr1 (Nat.le_refl _) (fun k hk => by cases hk)
 have HO1 : Hid (w1.ownsRow w.heap.size 63 6 (.slice (some ⟨w.heap.size, 0, none⟩) 0 S.edges.length) 0 []) := hown1
 have c01 : w1.cell? ⟨mb, 0, none⟩ = some (.slice aoe S.edges.length cape) := (HB1.out.cell (p := ⟨mb, 0, none⟩) hmb).trans c0
 clear hm hrow hlists hge hce hown1 hgr1 hdl hcl hok
 generalize hLE : S.edges.length = L at *
 have HLE : Hid (S.edges.length = L) := hLE
 have l0 : (L : Int) ≤ 64 := by omega
 clear hLE
 go_enter Tryz.func34, Tryz.ntmps34
 go_wp2_with fail
 go_loopw [3, 17] (fun v i wr => ∃ (j cap : Nat) (ao : Option Addr) (c : Nat → Nat) (ds' : List DraftV), i = .int .i64 j ∧ v = .slice ao j cap ∧ j ≤ L ∧ ds'.length = j ∧ EdgesAt w.heap.size wr c (.slice ao j cap) ds' (S.edges.take j) (cs.take j) ∧ Below w.heap.size w wr) (fun _ i _ => L - (intOf i).toNat)
 case atStart =>
  refine ⟨0, L, _, fun k => if k = w.heap.size then 1 else if k < w.heap.size then 9 else 0, [], rfl, rfl, Nat.zero_le _, rfl, ⟨HO1.out, fun _ _ _ => ⟨rfl, fun k d e hd => by simp at hd⟩, fun k hk => ?_, fun k hk => ?_, fun k hk => ?_⟩, HB1.out⟩
  ·have e : w.heap.size = k := Option.some.inj hk
   exact if_pos e.symm
  ·have := heap_own HO1.out
   exact (if_neg (by omega)).trans (if_neg (by omega))
  ·exact (if_neg (by omega)).trans (if_pos hk)
 case round =>
  obtain ⟨j, cap, ao, c, ds', rfl, rfl, hle, hdj, hea, hbw⟩ := hrel
  have HEA : Hid (EdgesAt w.heap.size wr c (.slice ao j cap) ds' (S.edges.take j) (cs.take j)) := hea
  have HBW : Hid (Below w.heap.size w wr) := hbw
  have HDJ : Hid (ds'.length = j) := hdj
  clear hea hbw hdj
  have j0 : (0 : Int) ≤ (j : Int) := by omega
  by_cases hlt : j < L
  ·have j1 : (j : Int) < (L : Int) := by omega
   obtain ⟨e0, he0⟩ : ∃ e, S.edges[j]? = some e := ⟨S.edges[j]'(by have := HLE.out; omega), by simp⟩
   obtain ⟨d, hd⟩ : ∃ d, ds[j]? = some d := ⟨ds[j]'(by have := HDL.out.1; omega), by simp⟩
   obtain ⟨cm, hcm⟩ : ∃ c, cs[j]? = some c := ⟨cs[j]'(by have := HDL.out.2; omega), by simp⟩
   have htx := HLI.out j d e0 hd he0
   have HEK : Hid (e0.outs.length ≤ 10000 ∧ e0.ins.length ≤ 10000 ∧ e0.impl.length ≤ 10000 ∧ e0.ord.length ≤ 10000) := HOK.out e0 (List.mem_of_getElem? he0)
   obtain ⟨g, rfl⟩ := HGE.out (by omega)
   have hrw : wr.ownsRow W0' 63 6 (.slice (some ⟨g, 0, none⟩) L cape) L (ecells ds cs) := rkeep HRO.out (fun k hk => HBW.out.block k (rblock HRO.out k hk).2)
   have e0c : wr.cell? ⟨g, j * 6, none⟩ = some d.vo := (row_cell hrw (j * 6 + 0) _ (ecells_at ds cs j d cm 0 hd hcm (by decide))).1
   have e1c : wr.cell? ⟨g, j * 6 + 1, none⟩ = some d.vi := (row_cell hrw _ _ (ecells_at ds cs j d cm 1 hd hcm (by decide))).1
   have e2c : wr.cell? ⟨g, j * 6 + 2, none⟩ = some d.vm := (row_cell hrw _ _ (ecells_at ds cs j d cm 2 hd hcm (by decide))).1
   have e3c : wr.cell? ⟨g, j * 6 + 3, none⟩ = some d.vr := (row_cell hrw _ _ (ecells_at ds cs j d cm 3 hd hcm (by decide))).1
   have e4c : wr.cell? ⟨g, j * 6 + 4, none⟩ = some (.string d.rule) := (row_cell hrw _ _ (ecells_at ds cs j d cm 4 hd hcm (by decide))).1
   have e5c : wr.cell? ⟨g, j * 6 + 5, none⟩ = some (.string cm) := (row_cell hrw _ _ (ecells_at ds cs j d cm 5 hd hcm (by decide))).1
   have HED : Hid (S.edges[j]? = some e0 ∧ cs[j]? = some cm) := ⟨he0, hcm⟩
   clear hrw he0 hd hcm
   obtain ⟨vo, vi, vm, vr, rl, ob⟩ := d
   simp only at e0c e1c e2c e3c e4c htx
   obtain ⟨aoo, no, co, hvo⟩ : ∃ ao n c, vo = .slice ao n c := by obtain ⟨ao, c, e, _⟩ := htx.1; exact ⟨ao, _, c, e⟩
   obtain ⟨aoi, ni, ci, hvi⟩ : ∃ ao n c, vi = .slice ao n c := by obtain ⟨ao, c, e, _⟩ := htx.2.1; exact ⟨ao, _, c, e⟩
   obtain ⟨aom, nm, cm', hvm⟩ : ∃ ao n c, vm = .slice ao n c := by obtain ⟨ao, c, e, _⟩ := htx.2.2.1; exact ⟨ao, _, c, e⟩
   obtain ⟨aor, nr, cr, hvr⟩ : ∃ ao n c, vr = .slice ao n c := by obtain ⟨ao, c, e, _⟩ := htx.2.2.2.1; exact ⟨ao, _, c, e⟩
   subst hvo hvi hvm hvr
   have htw : ∀ {u : Value} {l : List ByteArray}, TextsAt w u l → TextsAt wr u l := fun {u l} hu => hu.keepB HBW.out
   have HTX : Hid (TextsAt wr (.slice aoo no co) e0.outs ∧ TextsAt wr (.slice aoi ni ci) e0.ins ∧ TextsAt wr (.slice aom nm cm') e0.impl ∧ TextsAt wr (.slice aor nr cr) e0.ord ∧ rl = e0.rule) := ⟨htw htx.1, htw htx.2.1, htw htx.2.2.1, htw htx.2.2.2.1, htx.2.2.2.2⟩
   clear htx htw
   have HE0' : Hid ((wr.alloc (.cells #[.slice aoo no co, .slice aoi ni ci, .slice aom nm cm', .slice aor nr cr, .string rl, .string cm] 63)).heap[wr.heap.size]? = some (.cells #[.slice aoo no co, .slice aoi ni ci, .slice aom nm cm', .slice aor nr cr, .string rl, .string cm] 63 (0, 0))) := heapA_new _ _ _ rfl
   have HB0' : Hid (Below wr.heap.size wr (wr.alloc (.cells #[.slice aoo no co, .slice aoi ni ci, .slice aom nm cm', .slice aor nr cr, .string rl, .string cm] 63))) := (Below.refl _ _).alloc (Nat.le_refl _) _
   go_wp2_with fail
   generalize wr.alloc (.cells #[.slice aoo no co, .slice aoi ni ci, .slice aom nm cm', .slice aor nr cr, .string rl, .string cm] 63) = W0 at *
   have HE0 : Hid (W0.heap[wr.heap.size]? = some (.cells #[.slice aoo no co, .slice aoi ni ci, .slice aom nm cm', .slice aor nr cr, .string rl, .string cm] 63 (0, 0))) := HE0'
   have HB0 : Hid (Below wr.heap.size wr W0) := HB0'
   clear HE0' HB0' e0c e1c e2c e3c e4c e5c
   have HC0 := pclone_any e0.outs (.slice aoo no co) W0 (HTX.out.1.keepB HB0.out) (by have := HEK.out; omega)
   refine HC0.mono ?_
   rintro e w2 ⟨aoo', no', ko', rfl, hty, hlt, hbl⟩
   have hsz : wr.heap.size < W0.heap.size := heap_lt HE0.out
   have hrow : w2.heap[wr.heap.size]? = some (.cells #[.slice aoo no co, .slice aoi ni ci, .slice aom nm cm', .slice aor nr cr, .string rl, .string cm] 63 (0, 0)) := (hbl.block _ hsz).trans HE0.out
   have zc : w2.cell? ⟨wr.heap.size, 0, none⟩ = some (.slice aoo no co) := by rw [cell_of_row _ _ _ _ _ _ hrow]; rfl
   have zf : w2.frozen? ⟨wr.heap.size, 0, none⟩ = false := frozen_of_row _ _ _ _ _ hrow
   have HE1 : Hid ((w2.setCell ⟨wr.heap.size, 0, none⟩ (.slice aoo' no' ko')).heap[wr.heap.size]? = some (.cells #[.slice aoo' no' ko', .slice aoi ni ci, .slice aom nm cm', .slice aor nr cr, .string rl, .string cm] 63 (0, 0))) := by
    show _ = _
    rw [heap_setCell_same _ _ _ _ _ _ hrow]; rfl
   have HB1 : Hid (Below wr.heap.size wr (w2.setCell ⟨wr.heap.size, 0, none⟩ (.slice aoo' no' ko'))) := (HB0.out.trans (hbl.mono HB0.out.size)).setCell (p := ⟨wr.heap.size, 0, none⟩) (Nat.le_refl _) _
   have hst : ∀ q, wr.heap.size + 1 ≤ q → q < W0.heap.size → (w2.setCell ⟨wr.heap.size, 0, none⟩ (.slice aoo' no' ko')).heap[q]? = W0.heap[q]? := fun q h1 h2 => by
    rw [heap_setCell_other _ _ _ _ (show q ≠ wr.heap.size by omega)]; exact hbl.block q h2
   have HT0 : Hid (TextsF (wr.heap.size + 1) (w2.setCell ⟨wr.heap.size, 0, none⟩ (.slice aoo' no' ko')) (.slice aoo' no' ko') e0.outs) := TextsF.same (w := w2) ⟨hty.1, fun q hq => by have := hty.2 q hq; omega⟩ (fun q h1 _ => heap_setCell_other _ _ _ _ (show q ≠ wr.heap.size by omega))
   have zn : (w2.setCell ⟨wr.heap.size, 0, none⟩ (.slice aoo' no' ko')).cell? ⟨wr.heap.size, 1, none⟩ = some (.slice aoi ni ci) := by rw [cell_of_row _ _ _ _ _ _ HE1.out]; rfl
   clear hty hlt hbl hrow hst hsz HC0 HE0 HB0
   go_wp2_with fail
   generalize w2.setCell ⟨wr.heap.size, 0, none⟩ (.slice aoo' no' ko') = W1 at *
   clear zc zf zn
   have HC1 := pclone_any e0.ins (.slice aoi ni ci) W1 (HTX.out.2.1.keepB HB1.out) (by have := HEK.out; omega)
   refine HC1.mono ?_
   rintro e w3 ⟨aoi', ni', ki', rfl, hty, hlt, hbl⟩
   have hsz : wr.heap.size < W1.heap.size := heap_lt HE1.out
   have hrow : w3.heap[wr.heap.size]? = some (.cells #[.slice aoo' no' ko', .slice aoi ni ci, .slice aom nm cm', .slice aor nr cr, .string rl, .string cm] 63 (0, 0)) := (hbl.block _ hsz).trans HE1.out
   have zc : w3.cell? ⟨wr.heap.size, 1, none⟩ = some (.slice aoi ni ci) := by rw [cell_of_row _ _ _ _ _ _ hrow]; rfl
   have zf : w3.frozen? ⟨wr.heap.size, 1, none⟩ = false := frozen_of_row _ _ _ _ _ hrow
   have HE2 : Hid ((w3.setCell ⟨wr.heap.size, 1, none⟩ (.slice aoi' ni' ki')).heap[wr.heap.size]? = some (.cells #[.slice aoo' no' ko', .slice aoi' ni' ki', .slice aom nm cm', .slice aor nr cr, .string rl, .string cm] 63 (0, 0))) := by
    show _ = _
    rw [heap_setCell_same _ _ _ _ _ _ hrow]; rfl
   have HB2 : Hid (Below wr.heap.size wr (w3.setCell ⟨wr.heap.size, 1, none⟩ (.slice aoi' ni' ki'))) := (HB1.out.trans (hbl.mono HB1.out.size)).setCell (p := ⟨wr.heap.size, 1, none⟩) (Nat.le_refl _) _
   have hst : ∀ q, wr.heap.size + 1 ≤ q → q < W1.heap.size → (w3.setCell ⟨wr.heap.size, 1, none⟩ (.slice aoi' ni' ki')).heap[q]? = W1.heap[q]? := fun q h1 h2 => by
    rw [heap_setCell_other _ _ _ _ (show q ≠ wr.heap.size by omega)]; exact hbl.block q h2
   have HT1 : Hid (TextsF (wr.heap.size + 1) (w3.setCell ⟨wr.heap.size, 1, none⟩ (.slice aoi' ni' ki')) (.slice aoi' ni' ki') e0.ins) := TextsF.same (w := w3) ⟨hty.1, fun q hq => by have := hty.2 q hq; omega⟩ (fun q h1 _ => heap_setCell_other _ _ _ _ (show q ≠ wr.heap.size by omega))
   replace HT0 : Hid (TextsF (wr.heap.size + 1) (w3.setCell ⟨wr.heap.size, 1, none⟩ (.slice aoi' ni' ki')) (.slice aoo' no' ko') e0.outs) := HT0.out.same hst
   have zn : (w3.setCell ⟨wr.heap.size, 1, none⟩ (.slice aoi' ni' ki')).cell? ⟨wr.heap.size, 2, none⟩ = some (.slice aom nm cm') := by rw [cell_of_row _ _ _ _ _ _ HE2.out]; rfl
   clear hty hlt hbl hrow hst hsz HC1 HE1 HB1
   go_wp2_with fail
   generalize w3.setCell ⟨wr.heap.size, 1, none⟩ (.slice aoi' ni' ki') = W2 at *
   clear zc zf zn
   have HC2 := pclone_any e0.impl (.slice aom nm cm') W2 (HTX.out.2.2.1.keepB HB2.out) (by have := HEK.out; omega)
   refine HC2.mono ?_
   rintro e w4 ⟨aom', nm', km', rfl, hty, hlt, hbl⟩
   have hsz : wr.heap.size < W2.heap.size := heap_lt HE2.out
   have hrow : w4.heap[wr.heap.size]? = some (.cells #[.slice aoo' no' ko', .slice aoi' ni' ki', .slice aom nm cm', .slice aor nr cr, .string rl, .string cm] 63 (0, 0)) := (hbl.block _ hsz).trans HE2.out
   have zc : w4.cell? ⟨wr.heap.size, 2, none⟩ = some (.slice aom nm cm') := by rw [cell_of_row _ _ _ _ _ _ hrow]; rfl
   have zf : w4.frozen? ⟨wr.heap.size, 2, none⟩ = false := frozen_of_row _ _ _ _ _ hrow
   have HE3 : Hid ((w4.setCell ⟨wr.heap.size, 2, none⟩ (.slice aom' nm' km')).heap[wr.heap.size]? = some (.cells #[.slice aoo' no' ko', .slice aoi' ni' ki', .slice aom' nm' km', .slice aor nr cr, .string rl, .string cm] 63 (0, 0))) := by
    show _ = _
    rw [heap_setCell_same _ _ _ _ _ _ hrow]; rfl
   have HB3 : Hid (Below wr.heap.size wr (w4.setCell ⟨wr.heap.size, 2, none⟩ (.slice aom' nm' km'))) := (HB2.out.trans (hbl.mono HB2.out.size)).setCell (p := ⟨wr.heap.size, 2, none⟩) (Nat.le_refl _) _
   have hst : ∀ q, wr.heap.size + 1 ≤ q → q < W2.heap.size → (w4.setCell ⟨wr.heap.size, 2, none⟩ (.slice aom' nm' km')).heap[q]? = W2.heap[q]? := fun q h1 h2 => by
    rw [heap_setCell_other _ _ _ _ (show q ≠ wr.heap.size by omega)]; exact hbl.block q h2
   have HT2 : Hid (TextsF (wr.heap.size + 1) (w4.setCell ⟨wr.heap.size, 2, none⟩ (.slice aom' nm' km')) (.slice aom' nm' km') e0.impl) := TextsF.same (w := w4) ⟨hty.1, fun q hq => by have := hty.2 q hq; omega⟩ (fun q h1 _ => heap_setCell_other _ _ _ _ (show q ≠ wr.heap.size by omega))
   replace HT0 : Hid (TextsF (wr.heap.size + 1) (w4.setCell ⟨wr.heap.size, 2, none⟩ (.slice aom' nm' km')) (.slice aoo' no' ko') e0.outs) := HT0.out.same hst
   replace HT1 : Hid (TextsF (wr.heap.size + 1) (w4.setCell ⟨wr.heap.size, 2, none⟩ (.slice aom' nm' km')) (.slice aoi' ni' ki') e0.ins) := HT1.out.same hst
   have zn : (w4.setCell ⟨wr.heap.size, 2, none⟩ (.slice aom' nm' km')).cell? ⟨wr.heap.size, 3, none⟩ = some (.slice aor nr cr) := by rw [cell_of_row _ _ _ _ _ _ HE3.out]; rfl
   clear hty hlt hbl hrow hst hsz HC2 HE2 HB2
   go_wp2_with fail
   generalize w4.setCell ⟨wr.heap.size, 2, none⟩ (.slice aom' nm' km') = W3 at *
   clear zc zf zn
   have HC3 := pclone_any e0.ord (.slice aor nr cr) W3 (HTX.out.2.2.2.1.keepB HB3.out) (by have := HEK.out; omega)
   refine HC3.mono ?_
   rintro e w5 ⟨aor', nr', kr', rfl, hty, hlt, hbl⟩
   have hsz : wr.heap.size < W3.heap.size := heap_lt HE3.out
   have hrow : w5.heap[wr.heap.size]? = some (.cells #[.slice aoo' no' ko', .slice aoi' ni' ki', .slice aom' nm' km', .slice aor nr cr, .string rl, .string cm] 63 (0, 0)) := (hbl.block _ hsz).trans HE3.out
   have zc : w5.cell? ⟨wr.heap.size, 3, none⟩ = some (.slice aor nr cr) := by rw [cell_of_row _ _ _ _ _ _ hrow]; rfl
   have zf : w5.frozen? ⟨wr.heap.size, 3, none⟩ = false := frozen_of_row _ _ _ _ _ hrow
   have HE4 : Hid ((w5.setCell ⟨wr.heap.size, 3, none⟩ (.slice aor' nr' kr')).heap[wr.heap.size]? = some (.cells #[.slice aoo' no' ko', .slice aoi' ni' ki', .slice aom' nm' km', .slice aor' nr' kr', .string rl, .string cm] 63 (0, 0))) := by
    show _ = _
    rw [heap_setCell_same _ _ _ _ _ _ hrow]; rfl
   have HB4 : Hid (Below wr.heap.size wr (w5.setCell ⟨wr.heap.size, 3, none⟩ (.slice aor' nr' kr'))) := (HB3.out.trans (hbl.mono HB3.out.size)).setCell (p := ⟨wr.heap.size, 3, none⟩) (Nat.le_refl _) _
   have hst : ∀ q, wr.heap.size + 1 ≤ q → q < W3.heap.size → (w5.setCell ⟨wr.heap.size, 3, none⟩ (.slice aor' nr' kr')).heap[q]? = W3.heap[q]? := fun q h1 h2 => by
    rw [heap_setCell_other _ _ _ _ (show q ≠ wr.heap.size by omega)]; exact hbl.block q h2
   have HT3 : Hid (TextsF (wr.heap.size + 1) (w5.setCell ⟨wr.heap.size, 3, none⟩ (.slice aor' nr' kr')) (.slice aor' nr' kr') e0.ord) := TextsF.same (w := w5) ⟨hty.1, fun q hq => by have := hty.2 q hq; omega⟩ (fun q h1 _ => heap_setCell_other _ _ _ _ (show q ≠ wr.heap.size by omega))
   replace HT0 : Hid (TextsF (wr.heap.size + 1) (w5.setCell ⟨wr.heap.size, 3, none⟩ (.slice aor' nr' kr')) (.slice aoo' no' ko') e0.outs) := HT0.out.same hst
   replace HT1 : Hid (TextsF (wr.heap.size + 1) (w5.setCell ⟨wr.heap.size, 3, none⟩ (.slice aor' nr' kr')) (.slice aoi' ni' ki') e0.ins) := HT1.out.same hst
   replace HT2 : Hid (TextsF (wr.heap.size + 1) (w5.setCell ⟨wr.heap.size, 3, none⟩ (.slice aor' nr' kr')) (.slice aom' nm' km') e0.impl) := HT2.out.same hst
   have y0 : (w5.setCell ⟨wr.heap.size, 3, none⟩ (.slice aor' nr' kr')).cell? ⟨wr.heap.size, 0, none⟩ = some (.slice aoo' no' ko') := by rw [cell_of_row _ _ _ _ _ _ HE4.out]; rfl
   have y1 : (w5.setCell ⟨wr.heap.size, 3, none⟩ (.slice aor' nr' kr')).cell? ⟨wr.heap.size, 1, none⟩ = some (.slice aoi' ni' ki') := by rw [cell_of_row _ _ _ _ _ _ HE4.out]; rfl
   have y2 : (w5.setCell ⟨wr.heap.size, 3, none⟩ (.slice aor' nr' kr')).cell? ⟨wr.heap.size, 2, none⟩ = some (.slice aom' nm' km') := by rw [cell_of_row _ _ _ _ _ _ HE4.out]; rfl
   have y3 : (w5.setCell ⟨wr.heap.size, 3, none⟩ (.slice aor' nr' kr')).cell? ⟨wr.heap.size, 3, none⟩ = some (.slice aor' nr' kr') := by rw [cell_of_row _ _ _ _ _ _ HE4.out]; rfl
   have y4 : (w5.setCell ⟨wr.heap.size, 3, none⟩ (.slice aor' nr' kr')).cell? ⟨wr.heap.size, 4, none⟩ = some (.string rl) := by rw [cell_of_row _ _ _ _ _ _ HE4.out]; rfl
   have y5 : (w5.setCell ⟨wr.heap.size, 3, none⟩ (.slice aor' nr' kr')).cell? ⟨wr.heap.size, 5, none⟩ = some (.string cm) := by rw [cell_of_row _ _ _ _ _ _ HE4.out]; rfl
   have hwz : (w5.setCell ⟨wr.heap.size, 3, none⟩ (.slice aor' nr' kr')).heap.size = w5.heap.size := by simp
   have hw5 : w.heap.size ≤ w5.heap.size := by have h1 := HB4.out.size; have h2 := HBW.out.size; omega
   have HXA : Hid (EdgesAt w.heap.size ((w5.setCell ⟨wr.heap.size, 3, none⟩ (.slice aor' nr' kr')).alloc (.cells #[.slice aoo' no' ko', .slice aoi' ni' ki', .slice aom' nm' km', .slice aor' nr' kr', .string rl, .string cm] 63)) c (.slice ao j cap) ds' (S.edges.take j) (cs.take j)) := (HEA.out.later HB4.out).later ((Below.refl _ _).alloc (Nat.le_refl _) _)
   have hrj : ((w5.setCell ⟨wr.heap.size, 3, none⟩ (.slice aor' nr' kr')).alloc (.cells #[.slice aoo' no' ko', .slice aoi' ni' ki', .slice aom' nm' km', .slice aor' nr' kr', .string rl, .string cm] 63)).ownsRow w.heap.size 63 6 (.slice ao j cap) j (ecells ds' (cs.take j)) := by
    have h := HXA.out.row
    rw [List.length_take, Nat.min_eq_left (by rw [HLE.out]; omega)] at h
    exact h
   have HRJ : Hid (((w5.setCell ⟨wr.heap.size, 3, none⟩ (.slice aor' nr' kr')).alloc (.cells #[.slice aoo' no' ko', .slice aoi' ni' ki', .slice aom' nm' km', .slice aor' nr' kr', .string rl, .string cm] 63)).ownsRow w.heap.size 63 6 (.slice ao j cap) j (ecells ds' (cs.take j))) := hrj
   have HNC : Hid (∀ jj u, ([.slice aoo' no' ko', .slice aoi' ni' ki', .slice aom' nm' km', .slice aor' nr' kr', .string rl, .string cm] : List Value)[jj]? = some u → ((w5.setCell ⟨wr.heap.size, 3, none⟩ (.slice aor' nr' kr')).alloc (.cells #[.slice aoo' no' ko', .slice aoi' ni' ki', .slice aom' nm' km', .slice aor' nr' kr', .string rl, .string cm] 63)).cell? ((⟨w5.heap.size, 0, none⟩ : Addr).add jj) = some u) := by
    have h := newCells (w5.setCell ⟨wr.heap.size, 3, none⟩ (.slice aor' nr' kr')) [.slice aoo' no' ko', .slice aoi' ni' ki', .slice aom' nm' km', .slice aor' nr' kr', .string rl, .string cm] 63
    rw [hwz] at h
    exact h
   clear hty hlt hbl hrow hst hsz HC3 HE3 HB3 hrj
   go_wp2_with (at_builtin; refine wpList_append_lies _ rfl (.tmp 37) (.tmp 39) 60 rfl w.heap.size 63 ti (.agg #[.slice none 0 0, .slice none 0 0, .slice none 0 0, .slice none 0 0, .string ⟨#[]⟩, .string ⟨#[]⟩]) 6 128 Tryz.underlying60 HTI.out.1 HTI.out.2.2.2 HTI.out.2.1 HTI.out.2.2.1 rfl (by decide) _ j (ecells ds' (cs.take j)) rfl HRJ.out ⟨w5.heap.size, 0, none⟩ 1 1 [.slice aoo' no' ko', .slice aoi' ni' ki', .slice aom' nm' km', .slice aor' nr' kr', .string rl, .string cm] rfl rfl HNC.out (by intro u hu; simp only [List.mem_cons, List.not_mem_nil, or_false] at hu; rcases hu with rfl | rfl | rfl | rfl | rfl | rfl <;> rfl) (by decide) (by unfold maxLen; omega) (by omega) (by simp; omega) _ rfl ?_; intro g7 cap7 w7 hv7 hg7 hat7 hlt7; refine Hid.out ?_)
   have HEN : Hid (∃ c', EdgesAt w.heap.size w7 c' (.slice (some ⟨g7, 0, none⟩) (j + 1) cap7) (ds' ++ [⟨.slice aoo' no' ko', .slice aoi' ni' ki', .slice aom' nm' km', .slice aor' nr' kr', rl, 0⟩]) (S.edges.take (j + 1)) (cs.take (j + 1))) := by
    have hbx : Below wr.heap.size wr ((w5.setCell ⟨wr.heap.size, 3, none⟩ (.slice aor' nr' kr')).alloc (.cells #[.slice aoo' no' ko', .slice aoi' ni' ki', .slice aom' nm' km', .slice aor' nr' kr', .string rl, .string cm] 63)) := HB4.out.alloc HB4.out.size _
    have hup : ∀ {u : Value} {l : List ByteArray}, TextsF (wr.heap.size + 1) (w5.setCell ⟨wr.heap.size, 3, none⟩ (.slice aor' nr' kr')) u l → TextsF wr.heap.size ((w5.setCell ⟨wr.heap.size, 3, none⟩ (.slice aor' nr' kr')).alloc (.cells #[.slice aoo' no' ko', .slice aoi' ni' ki', .slice aom' nm' km', .slice aor' nr' kr', .string rl, .string cm] 63)) u l := fun {u l} hu => by
     have h := hu.keep (w' := (w5.setCell ⟨wr.heap.size, 3, none⟩ (.slice aor' nr' kr')).alloc (.cells #[.slice aoo' no' ko', .slice aoi' ni' ki', .slice aom' nm' km', .slice aor' nr' kr', .string rl, .string cm] 63)) (fun q hq => heapA_old _ _ q hq)
     exact ⟨h.1, fun q hq => by have := h.2 q hq; omega⟩
    rw [take_snoc' _ _ _ HED.out.1, take_snoc' _ _ _ HED.out.2]
    refine HEA.out.add (wx := (w5.setCell ⟨wr.heap.size, 3, none⟩ (.slice aor' nr' kr')).alloc (.cells #[.slice aoo' no' ko', .slice aoi' ni' ki', .slice aom' nm' km', .slice aor' nr' kr', .string rl, .string cm] 63)) (by rw [HDJ.out, List.length_take, Nat.min_eq_left (by have := HDL.out.2; have := HLE.out; omega)]) hbx hg7 ?_ (fun k hk => ?_) (hup HT0.out) (hup HT1.out) (hup HT2.out) (hup HT3.out) HTX.out.2.2.2.2
    ·rw [List.length_take, Nat.min_eq_left (by rw [HLE.out]; omega)]; exact hv7
    ·have e : g7 = k := Option.some.inj hk
     subst e
     rcases hat7 with e2 | e2
     ·exact Or.inl e2
     ·right; rw [e2]; exact Nat.le_refl _
   have HBN : Hid (Below w.heap.size w w7) := ((HBW.out.trans (HB4.out.mono HBW.out.size)).alloc (by simp; omega) _).grown hg7 (by simp; omega) (fun k hk => (rblock HRJ.out k hk).1)
   clear hv7 hg7 hat7 hlt7
   obtain ⟨c7, hc7⟩ := HEN.out
   unfold Hid
   go_wp2_with fail
   exact ⟨⟨j + 1, cap7, some ⟨g7, 0, none⟩, c7, _, by go_num, rfl, hlt, by rw [List.length_append, HDJ.out]; rfl, hc7, HBN.out⟩, by simp [intOf]; omega⟩
  ·obtain rfl : j = L := by omega
   have j1 : ¬ (j : Int) < (j : Int) := by omega
   go_wp2_with fail
   go_ret
   refine ⟨_, by rfl, ⟨c, ds', ?_⟩, HBW.out⟩
   have h1 := HEA.out
   rw [List.take_of_length_le (by rw [HLE.out]; exact Nat.le_refl _), List.take_of_length_le (by rw [HDL.out.2]; exact Nat.le_refl _)] at h1
   exact h1
end Go.Proofs.YthhbpebihgjpjaaGreatDoor
