import Derived.Test.YthhbpebihgjpjaaGreatDoorP29
namespace Go.Proofs.YthhbpebihgjpjaaGreatDoor
open Go.RowKit
set_option maxRecDepth 1000000

theorem text_is {p : ByteArray} {l : List UInt8} (h : p = ⟨l.toArray⟩) : (p.toList == l) = true := by
 rw [h, ByteArray.toList_eq]
 simp
def BKept (W0 eb : Nat) (w3 wr : World) : Prop := ∀ k, W0 ≤ k → k < w3.heap.size → k ≠ eb → wr.heap[k]? = w3.heap[k]?
structure BSt (r : RV) (ds : List REdgeV) (c : Nat → Nat) (B : Nat) (w w3 : World) (rb eb : Nat) (L : List Line) (S : St) (m : Nat) (wr : World) : Prop where
 st : RSt r ds c B wr rb L S m
 bl : Below B w wr
 kept : BKept w.heap.size eb w3 wr
 sz : w3.heap.size ≤ wr.heap.size
theorem BSt.wrote {r : RV} {ds : List REdgeV} {c : Nat → Nat} {B : Nat} {w w3 : World} {rb eb : Nat} {L : List Line} {S : St} {m : Nat} {wr wr' : World} {b : Option Nat} (h : BSt r ds c B w w3 rb eb L S m wr) (hc : ∀ k, w.heap.size ≤ k → c k = 8) (hw : B ≤ w.heap.size ∧ w.heap.size ≤ w3.heap.size) (hg : wr.grownBy wr' b) (hb : ∀ k, b = some k → (k = eb ∧ w.heap.size ≤ eb) ∨ w3.heap.size ≤ k) : BSt r ds c B w w3 rb eb L S m wr' where
 st := h.st.wrote hg (fun k hk => Or.inl (hc k (by rcases hb k hk with q | q <;> omega)))
 bl := h.bl.grown hg h.st.bw (fun k hk => by rcases hb k hk with q | q <;> omega)
 kept := fun k h1 h2 h3 => (hg.block k (Nat.lt_of_lt_of_le h2 h.sz) (fun e => by
  rcases hb k e.symm with q | q
  ·exact h3 q.1
  ·omega)).trans (h.kept k h1 h2 h3)
 sz := Nat.le_trans h.sz hg.size
theorem BSt.below {r : RV} {ds : List REdgeV} {c : Nat → Nat} {B : Nat} {w w3 : World} {rb eb : Nat} {L : List Line} {S : St} {m : Nat} {wr wr' : World} (h : BSt r ds c B w w3 rb eb L S m wr) (hb : Below wr.heap.size wr wr') : BSt r ds c B w w3 rb eb L S m wr' where
 st := h.st.below hb
 bl := h.bl.trans (hb.mono h.st.bw)
 kept := fun k h1 h2 h3 => (hb.block k (Nat.lt_of_lt_of_le h2 h.sz)).trans (h.kept k h1 h2 h3)
 sz := Nat.le_trans h.sz hb.size
theorem BSt.moved {r : RV} {ds : List REdgeV} {c : Nat → Nat} {B : Nat} {w w3 : World} {rb eb : Nat} {L : List Line} {S : St} {m j : Nat} {wr wr' : World} (h : BSt r ds c B w w3 rb eb L S m wr) (hrb : rb < w.heap.size) (hg : wr.grownBy wr' (some rb)) (hr : RRow { r with at' := j } wr' rb) : BSt { r with at' := j } ds c B w w3 rb eb L S m wr' where
 st := h.st.moved hg hr
 bl := h.bl.trans (grown_below hg h.st.rlow h.st.bw)
 kept := fun k h1 h2 h3 => (hg.block k (Nat.lt_of_lt_of_le h2 h.sz) (fun e => by have := Option.some.inj e; omega)).trans (h.kept k h1 h2 h3)
 sz := Nat.le_trans h.sz hg.size
theorem grown_cell (w : World) (b o : Nat) (v : Value) : w.grownBy (w.setCell ⟨b, o, none⟩ v) (some b) :=
 ⟨rfl, rfl, rfl, by simp, fun k hk hn => heap_setCell_other _ _ _ _ (fun e => hn (by rw [e]))⟩
def ERow (eb : Nat) (vo vi vm vr : Value) (hd : ByteArray) (w : World) : Prop := w.heap[eb]? = some (.cells #[vo, vi, vm, vr, .string hd, .string ⟨#[]⟩] 233 (0, 0))
theorem ERow.lt {eb : Nat} {vo vi vm vr : Value} {hd : ByteArray} {w : World} (h : ERow eb vo vi vm vr hd w) : eb < w.heap.size := by
 rcases Nat.lt_or_ge eb w.heap.size with c | c
 ·exact c
 ·unfold ERow at h; rw [Array.getElem?_eq_none c] at h; cases h
theorem ERow.set0 {eb : Nat} {vo vi vm vr : Value} {hd : ByteArray} {w : World} (h : ERow eb vo vi vm vr hd w) (v : Value) : ERow eb v vi vm vr hd (w.setCell ⟨eb, 0, none⟩ v) := by
 unfold ERow; rw [heap_setCell_same _ _ _ _ _ _ h]; rfl
theorem ERow.set1 {eb : Nat} {vo vi vm vr : Value} {hd : ByteArray} {w : World} (h : ERow eb vo vi vm vr hd w) (v : Value) : ERow eb vo v vm vr hd (w.setCell ⟨eb, 1, none⟩ v) := by
 unfold ERow; rw [heap_setCell_same _ _ _ _ _ _ h]; rfl
theorem ERow.set2 {eb : Nat} {vo vi vm vr : Value} {hd : ByteArray} {w : World} (h : ERow eb vo vi vm vr hd w) (v : Value) : ERow eb vo vi v vr hd (w.setCell ⟨eb, 2, none⟩ v) := by
 unfold ERow; rw [heap_setCell_same _ _ _ _ _ _ h]; rfl
theorem ERow.set3 {eb : Nat} {vo vi vm vr : Value} {hd : ByteArray} {w : World} (h : ERow eb vo vi vm vr hd w) (v : Value) : ERow eb vo vi vm v hd (w.setCell ⟨eb, 3, none⟩ v) := by
 unfold ERow; rw [heap_setCell_same _ _ _ _ _ _ h]; rfl
theorem ERow.cell {eb : Nat} {vo vi vm vr : Value} {hd : ByteArray} {w : World} (h : ERow eb vo vi vm vr hd w) (o : Nat) : w.cell? ⟨eb, o, none⟩ = #[vo, vi, vm, vr, .string hd, .string ⟨#[]⟩][o]? := cell_of_row _ _ _ _ _ _ h
theorem ERow.frozen {eb : Nat} {vo vi vm vr : Value} {hd : ByteArray} {w : World} (h : ERow eb vo vi vm vr hd w) (o : Nat) : w.frozen? ⟨eb, o, none⟩ = false := frozen_of_row _ _ _ _ _ h
def TextsK (W0 eb : Nat) (w3 : World) (v : Value) (l : List ByteArray) : Prop := ∀ wr, BKept W0 eb w3 wr → TextsF W0 wr v l
theorem textsK_nil (W0 eb : Nat) (w3 : World) : TextsK W0 eb w3 (.slice none 0 0) [] := fun _ _ => ⟨⟨none, 0, rfl, Nat.le_refl _, Or.inl ⟨fun _ => rfl, rfl, trivial⟩⟩, fun k hk => by cases hk⟩
theorem lists_ahead {W0 : Nat} {w1 w3 : World} {g cap : Nat} {ll : List (List ByteArray)} (hs : W0 ≤ g) (hc : ∀ (i : Nat) y, ll[i]? = some y → ∃ pv, w1.cell? ⟨g, i, none⟩ = some pv ∧ TextsF W0 w1 pv y) (h3 : w1.heap.size ≤ w3.heap.size ∧ ∀ k, W0 ≤ k → k < w1.heap.size → w3.heap[k]? = w1.heap[k]?) (he : w1.heap.size ≤ cap) :
  ∃ PV : Nat → Value, ∀ (i : Nat) y, ll[i]? = some y → TextsK W0 cap w3 (PV i) y ∧ ∀ wr, BKept W0 cap w3 wr → wr.cell? ⟨g, i, none⟩ = some (PV i) := by
 refine ⟨fun i => (w1.cell? ⟨g, i, none⟩).getD undef, fun i y hy => ?_⟩
 obtain ⟨pv, hpv, htx⟩ := hc i y hy
 show TextsK W0 cap w3 ((w1.cell? ⟨g, i, none⟩).getD undef) y ∧ ∀ wr, BKept W0 cap w3 wr → wr.cell? ⟨g, i, none⟩ = some ((w1.cell? ⟨g, i, none⟩).getD undef)
 rw [hpv]
 have key : ∀ wr, BKept W0 cap w3 wr → ∀ k, W0 ≤ k → k < w1.heap.size → wr.heap[k]? = w1.heap[k]? := fun wr hk k h1 h2 => (hk k h1 (by omega) (by omega)).trans (h3.2 k h1 h2)
 exact ⟨fun wr hk => TextsF.same (W0 := W0) (w := w1) htx (key wr hk), fun wr hk => (World.cell?_of_block (w := w1) (a := ⟨g, i, none⟩) (key wr hk g hs (block_lt_of_cell hpv))).trans hpv⟩
theorem lists_behind {W0 W2 : Nat} {w3 : World} {g eb : Nat} {ll : List (List ByteArray)} (hs : W2 ≤ g) (hc : ∀ (i : Nat) y, ll[i]? = some y → ∃ pv, w3.cell? ⟨g, i, none⟩ = some pv ∧ TextsF W2 w3 pv y) (h0 : W0 ≤ W2) (he : eb < W2) :
  ∃ PV : Nat → Value, ∀ (i : Nat) y, ll[i]? = some y → TextsK W0 eb w3 (PV i) y ∧ ∀ wr, BKept W0 eb w3 wr → wr.cell? ⟨g, i, none⟩ = some (PV i) := by
 refine ⟨fun i => (w3.cell? ⟨g, i, none⟩).getD undef, fun i y hy => ?_⟩
 obtain ⟨pv, hpv, htx⟩ := hc i y hy
 show TextsK W0 eb w3 ((w3.cell? ⟨g, i, none⟩).getD undef) y ∧ ∀ wr, BKept W0 eb w3 wr → wr.cell? ⟨g, i, none⟩ = some ((w3.cell? ⟨g, i, none⟩).getD undef)
 rw [hpv]
 have key : ∀ wr, BKept W0 eb w3 wr → ∀ k, W2 ≤ k → k < w3.heap.size → wr.heap[k]? = w3.heap[k]? := fun wr hk k h1 h2 => hk k (by omega) h2 (by omega)
 refine ⟨fun wr hk => ?_, fun wr hk => (World.cell?_of_block (w := w3) (a := ⟨g, i, none⟩) (key wr hk g hs (block_lt_of_cell hpv))).trans hpv⟩
 have h := TextsF.same (W0 := W2) (w := w3) htx (key wr hk)
 exact ⟨h.1, fun k hk => Nat.le_trans h0 (h.2 k hk)⟩
theorem texts_behind {W0 W2 : Nat} {w3 : World} {eb : Nat} {v : Value} {l : List ByteArray} (ht : TextsF W2 w3 v l) (h0 : W0 ≤ W2) (he : eb < W2) : TextsK W0 eb w3 v l := fun wr hk => by
 have h := TextsF.same (W0 := W2) (w := w3) (w' := wr) ht (fun k h1 h2 => hk k (by omega) h2 (by omega))
 exact ⟨h.1, fun k hk => Nat.le_trans h0 (h.2 k hk)⟩
theorem behind_step {A : Secs} (hsh : (∃ a, A = [(⟨#[]⟩, a)]) ∨ (∃ a b m, A = [(⟨#[]⟩, a), (m, b)] ∧ (m = tBar ∨ m = tBars)) ∨ (∃ a b c, A = [(⟨#[]⟩, a), (tBar, b), (tBars, c)])) {i : Nat} {s : ByteArray} {l : List ByteArray} (hs : (A.tail.map (·.1))[i]? = some s) (hl : (A.map (·.2))[i + 1]? = some l) :
  (s = tBar → behindS (A.take (i + 2)) tBar = l ∧ behindS (A.take (i + 2)) tBars = behindS (A.take (i + 1)) tBars) ∧ (s ≠ tBar → behindS (A.take (i + 2)) tBars = l ∧ behindS (A.take (i + 2)) tBar = behindS (A.take (i + 1)) tBar) := by
 have hb := bars_ne
 have hb2 : tBar ≠ tBars := fun e => hb e.symm
 have h1 : ¬ ((⟨#[]⟩ : ByteArray) = tBar) := by intro e; exact absurd (congrArg ByteArray.size e) (by decide)
 have h2 : ¬ ((⟨#[]⟩ : ByteArray) = tBars) := by intro e; exact absurd (congrArg ByteArray.size e) (by decide)
 rcases hsh with ⟨a, rfl⟩ | ⟨a, b, m, rfl, hm⟩ | ⟨a, b, c, rfl⟩
 ·simp at hs
 ·cases i with
  | zero =>
   simp at hs hl
   subst hs hl
   rcases hm with rfl | rfl
   ·simp [behindS, h1, h2, hb2]
   ·simp [behindS, h1, h2, hb]
  | succ i => simp at hs
 ·cases i with
  | zero =>
   simp at hs hl
   subst hs hl
   simp [behindS, h1, h2, hb2]
  | succ i =>
   cases i with
   | zero =>
    simp at hs hl
    subst hs hl
    simp [behindS, h1, h2, hb, hb2]
   | succ i => simp at hs
theorem behind_first {A : Secs} {ms : List ByteArray} (h : SecsOk ms A) : behindS (A.take (0 + 1)) tBar = [] ∧ behindS (A.take (0 + 1)) tBars = [] := by
 have hf := h.first
 have h1 : ¬ ((⟨#[]⟩ : ByteArray) = tBar) := by intro e; exact absurd (congrArg ByteArray.size e) (by decide)
 have h2 : ¬ ((⟨#[]⟩ : ByteArray) = tBars) := by intro e; exact absurd (congrArg ByteArray.size e) (by decide)
 cases A with
 | nil => exact absurd rfl h.ne
 | cons x A =>
  obtain ⟨m0, a⟩ := x
  obtain rfl : m0 = ⟨#[]⟩ := Option.some.inj hf
  simp [behindS, h1, h2]
theorem flat_step {ll : List (List ByteArray)} {i : Nat} {l : List ByteArray} (h : ll[i]? = some l) : (ll.take (i + 1)).flatten = (ll.take i).flatten ++ l := by
 rw [List.take_add_one, h, List.flatten_append]
 simp
theorem flat_le {ll : List (List ByteArray)} {n : Nat} (h : ll.length ≤ 2) (hl : ∀ l ∈ ll, l.length ≤ n) (i : Nat) : (ll.take i).flatten.length ≤ 2 * n := by
 match ll, h with
 | [], _ => simp
 | [a], _ =>
  have := hl a (by simp)
  rcases i with _ | i <;> simp <;> omega
 | [a, b], _ =>
  have := hl a (by simp)
  have := hl b (by simp)
  rcases i with _ | _ | i <;> simp <;> omega
def badAt (M os : List ByteArray) (q : Nat) : Prop := ∃ o : ByteArray, os[q]? = some o ∧ (memB o M = true ∨ ∃ j : Nat, j < q ∧ os[j]? = some o)
theorem twice_bad (M os : List ByteArray) : twiceS M os = true ↔ ∃ q, badAt M os q := by
 rw [twice_iff]
 exact Iff.rfl
theorem recells_at : ∀ (ds : List REdgeV) (j : Nat) (d : REdgeV) (i : Nat), ds[j]? = some d → i < 6 → (recells ds)[j * 6 + i]? = d.cells[i]?
 | [], j, d, i, h, _ => by simp at h
 | x :: ds, 0, d, i, h, hi => by
  obtain rfl := Option.some.inj h
  show (x.cells ++ recells ds)[0 * 6 + i]? = _
  rw [List.getElem?_append_left (by show 0 * 6 + i < 6; omega), Nat.zero_mul, Nat.zero_add]
 | x :: ds, j + 1, d, i, h, hi => by
  have h2 : ds[j]? = some d := by simpa using h
  show (x.cells ++ recells ds)[(j + 1) * 6 + i]? = _
  rw [List.getElem?_append_right (by show 6 ≤ (j + 1) * 6 + i; omega), show (j + 1) * 6 + i - x.cells.length = j * 6 + i by show (j + 1) * 6 + i - 6 = _; omega]
  exact recells_at ds j d i h2 hi
theorem grown_of_below {w w' : World} {b : Option Nat} (hb : Below w.heap.size w w') : w.grownBy w' b := ⟨hb.os, hb.tape, hb.output, hb.size, fun k hk _ => hb.block k hk⟩
theorem RSt.made {r : RV} {ds : List REdgeV} {c : Nat → Nat} {B : Nat} {w wr : World} {rb : Nat} {L : List Line} {S : St} {m : Nat} (h : RSt r ds c B w rb L S m) (hg : w.grownBy wr (some rb)) {ao : Option Addr} {cap EL : Nat} (hve : r.ve = .slice ao EL cap) (hEL : S.edges.length = EL) (x : ByteArray) :
  Calls Tryz.prog 219 #[.slice ao EL cap, .string x] wr fun e w' => e = .returned (.int .i64 (idxI (madeIdx (S.edges.map (·.outs)) x))) ∧ w' = wr := by
 have h1 := made_any (S.edges.map (·.outs)) ao cap x wr ?_ ?_ ?_
 ·rw [List.length_map, hEL] at h1
  exact h1
 ·by_cases h0 : S.edges = []
  ·left; rw [h0]; rfl
  ·right
   have he := h.edges
   rw [hve, hEL] at he
   obtain ⟨ao2, cap2, e, _, hg2⟩ := row_form he
   injection e with e1 e2 e3
   subst e1 e3
   obtain ⟨g, rfl⟩ := hg2 (by rw [← hEL]; exact List.length_pos_iff.2 h0)
   refine ⟨g, 0, rfl, fun i l hl => ?_⟩
   rw [List.getElem?_map] at hl
   obtain ⟨e, he1, rfl⟩ := Option.map_eq_some_iff.1 hl
   have hcn := h.const wr hg.size (fun k hk h0 => hg.block k hk (fun e => by have h1 := h.c1; rw [Option.some.inj e] at h0; omega))
   have hlt : i < ds.length := by rw [hcn.2.1]; exact (List.getElem?_eq_some_iff.1 he1).1
   obtain ⟨d, hd⟩ : ∃ d, ds[i]? = some d := ⟨ds[i], by simp⟩
   have hc := recells_at ds i d 0 hd (by omega)
   rw [Nat.add_zero] at hc
   have hcell := (row_cell he (i * 6) d.vo (by rw [hc]; rfl)).1
   have hb : wr.heap[g]? = w.heap[g]? := hg.block g (rblock he g rfl).2 (fun e => by have h1 := h.c5 g (by rw [hve]; rfl); have h2 := h.c1; rw [Option.some.inj e] at h1; omega)
   rw [Nat.zero_add]
   exact ⟨d.vo, (World.cell?_of_block (w := w) (a := ⟨g, i * 6, none⟩) hb).trans hcell, (hcn.2.2 i d e hd he1).1⟩
 ·rw [List.length_map]; have := h.ok.edges; omega
 ·intro l hl
  obtain ⟨e, he, rfl⟩ := List.mem_map.1 hl
  have := (h.ok.edge e he).2.2.1
  omega
theorem made_said (S : St) (x : ByteArray) : (0 ≤ idxI (madeIdx (S.edges.map (·.outs)) x)) ↔ memB x (madeS S) = true := by
 unfold madeS
 rw [made_mem]
 cases madeIdx (S.edges.map (·.outs)) x with
 | none => exact ⟨fun q => absurd q (by decide), fun q => by cases q⟩
 | some k => exact ⟨fun _ => rfl, fun _ => Int.natCast_nonneg k⟩
def EdgeTail (r' : RV) (ds : List REdgeV) (B rb EL : Nat) (d : REdgeV) (wr wF : World) : Prop :=
 ∃ ve' vo', RRow { r' with ve := ve', vo := vo' } wF rb ∧ wr.heap.size ≤ wF.heap.size ∧ Below B wr wF ∧ (∀ k, k < wr.heap.size → k ≠ rb → r'.ve.ownBlock ≠ some k → r'.vo.ownBlock ≠ some k → wF.heap[k]? = wr.heap[k]?) ∧ wF.ownsRow B 233 6 ve' (EL + 1) (recells ds ++ d.cells) ∧ wF.ownsRow B 327 1 vo' (EL + 1) (ds.map (·.vb) ++ [d.vb]) ∧ (∀ k, ve'.ownBlock = some k → r'.ve.ownBlock = some k ∨ wr.heap.size ≤ k) ∧ (∀ k, vo'.ownBlock = some k → r'.vo.ownBlock = some k ∨ wr.heap.size ≤ k) ∧ (∀ k, ve'.ownBlock = some k → vo'.ownBlock ≠ some k)
theorem edge_tail_bad {r' : RV} {ds : List REdgeV} {B rb EL m : Nat} {L : List Line} {d : REdgeV} {w wr wF : World} {res : Res} {bk : Bad × Nat} (hb : Below B w wr) (hres : res = .error bk) (he : r'.e = ((badK bk.1 : Nat) : Int) + 1 ∧ r'.line = (bk.2 : Nat)) (hsl : SlV r'.vl) (h : EdgeTail r' ds B rb EL d wr wF) : rstmtEnd B rb m L w res (.returned (.tuple #[])) wF := by
 obtain ⟨ve', vo', h1, h2, h3, _⟩ := h
 refine ⟨rfl, hb.trans h3, ?_⟩
 rw [hres]
 exact ⟨_, h1, he.1, he.2, hsl⟩
theorem edge_tail_ok {r' : RV} {ds : List REdgeV} {c : Nat → Nat} {B : Nat} {w w8 : World} {rb : Nat} {L : List Line} {S : St} {m : Nat} {wr wF : World} {d : REdgeV} {e : EdgeS} {res : Res} {rest : List Line} (hb : BSt r' ds c B w w8 rb rb L S (m + 1) wr) (hrb : rb < w.heap.size) (hB0 : B ≤ w.heap.size) (hc : ∀ k, w.heap.size ≤ k → c k = 8) (hw8 : w.heap.size ≤ w8.heap.size) (hown : wr.ownsRow w8.heap.size 338 2 d.vb e.own.length (bcellsB e.own)) (ht : TextsK w.heap.size rb w8 d.vo e.outs ∧ TextsK w.heap.size rb w8 d.vi e.ins ∧ TextsK w.heap.size rb w8 d.vm e.impl ∧ TextsK w.heap.size rb w8 d.vr e.ord ∧ d.rule = e.rule) (he : BOk e.own ∧ e.own.length ≤ 5000 ∧ e.outs.length ≤ 8000 ∧ e.ins.length ≤ 4000 ∧ (∀ x ∈ e.outs, x.size ≤ 32) ∧ (∀ x ∈ e.ins, x.size ≤ 32) ∧ e.impl.length ≤ 4000 ∧ e.ord.length ≤ 4000) (h64 : S.edges.length < 64) (hres : res = .ok ({ S with edges := S.edges ++ [e] }, rest)) (hrest : said (L.drop r'.at') = rest) (h : EdgeTail r' ds B rb S.edges.length d wr wF) : rstmtEnd B rb m L w res (.returned (.tuple #[])) wF := by
 obtain ⟨ve', vo', h1, h2, h3, h4, h5, h6, h7, h8, h9⟩ := h
 have hob : ∀ k, d.vb.ownBlock = some k → w8.heap.size ≤ k ∧ k < wr.heap.size := fun k hk => rblock hown k hk
 have hwf : ∀ k, d.vb.ownBlock = some k → wF.heap[k]? = wr.heap[k]? := fun k hk => by
  have hq := hob k hk
  have h8 := hc k (by omega)
  refine h4 k hq.2 (by omega) (fun q => ?_) (fun q => ?_)
  ·have := hb.st.c5 k q; omega
  ·have := hb.st.c4 k q; omega
 obtain ⟨c', hst⟩ := hb.st.addEdge (w' := wF) (W0 := w.heap.size) (d := d) (e := e) (ve' := ve') (vo' := vo') hc h2 (fun k hk q1 q4 q5 => h4 k hk (fun e => q1 (by rw [e]; exact hb.st.c1)) (fun e => q5 (hb.st.c5 k e)) (fun e => q4 (hb.st.c4 k e))) h1 h5 h6 h7 h8 h9 (row_mono (rkeep hown hwf) (Nat.le_trans hB0 hw8)) (fun k hk => ⟨Nat.le_trans hw8 (hob k hk).1, (hob k hk).2⟩) (fun w'' hk => by
   have hB : BKept w.heap.size rb w8 w'' := fun k h1 h2 h3 => (hk k h1 (Nat.lt_of_lt_of_le h2 hb.sz) (fun e => by have := (hob k e).1; omega)).trans (hb.kept k h1 h2 h3)
   exact ⟨(ht.1 w'' hB).1, (ht.2.1 w'' hB).1, (ht.2.2.1 w'' hB).1, (ht.2.2.2.1 w'' hB).1, ht.2.2.2.2⟩) he h64 (fun k hk => by
   have q0 : BKept w.heap.size rb w8 w8 := fun _ _ _ _ => rfl
   rcases hk with q | q | q | q
   ·exact Nat.le_trans hB0 ((ht.1 w8 q0).2 k q)
   ·exact Nat.le_trans hB0 ((ht.2.1 w8 q0).2 k q)
   ·exact Nat.le_trans hB0 ((ht.2.2.1 w8 q0).2 k q)
   ·exact Nat.le_trans hB0 ((ht.2.2.2.1 w8 q0).2 k q))
 refine ⟨rfl, hb.bl.trans h3, ?_⟩
 rw [hres]
 exact ⟨_, _, _, hst, hrest⟩
theorem TextsK.later {W0 eb rb : Nat} {w3 w12 : World} {v : Value} {l : List ByteArray} (h : TextsK W0 eb w3 v l) (hrb : rb < W0) (hs : w3.heap.size ≤ w12.heap.size) (hk : ∀ k, W0 ≤ k → k < w3.heap.size → k ≠ eb → w12.heap[k]? = w3.heap[k]?) : TextsK W0 rb w12 v l :=
 fun wx hx => h wx (fun k h1 h2 h3 => (hx k h1 (by omega) (by omega)).trans (hk k h1 h2 h3))
theorem textsK_row {W0 W3 rb : Nat} {w9 w12 : World} {v : Value} {n : Nat} {l : List ByteArray} (h : w9.ownsRow W3 9 1 v n (l.map Value.string)) (hn : n = l.length) (hrb : rb < W0) (hW : W0 ≤ W3) (hs : w9.heap.size ≤ w12.heap.size) (hk : ∀ k, W0 ≤ k → k < w9.heap.size → w12.heap[k]? = w9.heap[k]?) : TextsK W0 rb w12 v l := fun wx hx => by
 subst hn
 have hb : ∀ k, v.ownBlock = some k → W3 ≤ k ∧ k < w9.heap.size := fun k hk => rblock h k hk
 refine ⟨texts_own (rkeep h (fun k hq => (hx k (by have := hb k hq; omega) (by have := hb k hq; omega) (by have := hb k hq; omega)).trans (hk k (by have := hb k hq; omega) (hb k hq).2))), fun k hq => by have := hb k hq; omega⟩
structure OwnSt (r r' : RV) (ds : List REdgeV) (B : Nat) (w w12 : World) (rb EL : Nat) (own : Binds) (vb : Value) (wr : World) : Prop where
 row : RRow r' wr rb
 ve : r'.ve = r.ve
 vo : r'.vo = r.vo
 vl : r'.vl = r.vl
 edges : wr.ownsRow B 233 6 r.ve EL (recells ds)
 owns : wr.ownsRow B 327 1 r.vo EL (ds.map (·.vb))
 bl : Below B w wr
 kept : ∀ k, w.heap.size ≤ k → k < w12.heap.size → wr.heap[k]? = w12.heap[k]?
 sz : w12.heap.size ≤ wr.heap.size
 own : wr.ownsRow w12.heap.size 338 2 vb own.length (bcellsB own)
structure TwoRows (r : RV) (B : Nat) (w w12 : World) (rb : Nat) : Prop where
 ve : ∀ k, r.ve.ownBlock = some k → k ≠ rb ∧ k < w.heap.size
 vo : ∀ k, r.vo.ownBlock = some k → k ≠ rb ∧ k < w.heap.size
 ne : ∀ k, r.ve.ownBlock = some k → r.vo.ownBlock ≠ some k
 rb : B ≤ rb ∧ rb < w.heap.size
 w12 : w.heap.size ≤ w12.heap.size
theorem RSt.two {r : RV} {ds : List REdgeV} {c : Nat → Nat} {B : Nat} {w w12 : World} {rb : Nat} {L : List Line} {S : St} {m : Nat} (h : RSt r ds c B w rb L S m) (hw : w.heap.size ≤ w12.heap.size) : TwoRows r B w w12 rb where
 ve := fun k hk => ⟨fun e => by have h1 := h.c5 k hk; have h2 := h.c1; rw [e] at h1; omega, (rblock h.edges k hk).2⟩
 vo := fun k hk => ⟨fun e => by have h1 := h.c4 k hk; have h2 := h.c1; rw [e] at h1; omega, (rblock h.owns k hk).2⟩
 ne := fun k h1 h2 => by have h3 := h.c5 k h1; have h4 := h.c4 k h2; omega
 rb := ⟨h.rlow, h.row.lt⟩
 w12 := hw
theorem OwnSt.again {r r' r'' : RV} {ds : List REdgeV} {B : Nat} {w w12 : World} {rb EL : Nat} {own : Binds} {vb : Value} {wr wr' : World} (h : OwnSt r r' ds B w w12 rb EL own vb wr) (ht : TwoRows r B w w12 rb) (hg : wr.grownBy wr' (some rb)) (hr : RRow r'' wr' rb) (h1 : r''.ve = r'.ve ∧ r''.vo = r'.vo ∧ r''.vl = r'.vl) : OwnSt r r'' ds B w w12 rb EL own vb wr' where
 row := hr
 ve := h1.1.trans h.ve
 vo := h1.2.1.trans h.vo
 vl := h1.2.2.trans h.vl
 edges := rkeep h.edges (fun k hk => hg.block k (rblock h.edges k hk).2 (fun e => (ht.ve k hk).1 (Option.some.inj e)))
 owns := rkeep h.owns (fun k hk => hg.block k (rblock h.owns k hk).2 (fun e => (ht.vo k hk).1 (Option.some.inj e)))
 bl := h.bl.trans (grown_below hg ht.rb.1 (Nat.le_trans (Nat.le_trans ht.rb.1 (Nat.le_of_lt ht.rb.2)) h.bl.size))
 kept := fun k h1 h2 => (hg.block k (Nat.lt_of_lt_of_le h2 h.sz) (fun e => by have := Option.some.inj e; have := ht.rb.2; omega)).trans (h.kept k h1 h2)
 sz := Nat.le_trans h.sz hg.size
 own := rkeep h.own (fun k hk => hg.block k (rblock h.own k hk).2 (fun e => by have := Option.some.inj e; have := ht.rb.2; have := ht.w12; have := (rblock h.own k hk).1; omega))
theorem OwnSt.set {r r' : RV} {ds : List REdgeV} {B : Nat} {w w12 : World} {rb EL : Nat} {own own' : Binds} {vb vb' : Value} {wr wr' : World} (h : OwnSt r r' ds B w w12 rb EL own vb wr) (ht : TwoRows r B w w12 rb) (hg : wr.grownBy wr' vb.ownBlock) (ho : wr'.ownsRow w12.heap.size 338 2 vb' own'.length (bcellsB own')) : OwnSt r r' ds B w w12 rb EL own' vb' wr' := by
 have hb : ∀ k, vb.ownBlock = some k → w12.heap.size ≤ k := fun k hk => (rblock h.own k hk).1
 exact {
  row := (hg.block rb h.row.lt (fun e => by have := hb rb e.symm; have := ht.rb.2; have := ht.w12; omega)).trans h.row
  ve := h.ve
  vo := h.vo
  vl := h.vl
  edges := rkeep h.edges (fun k hk => hg.block k (rblock h.edges k hk).2 (fun e => by have := hb k e.symm; have := (ht.ve k hk).2; have := ht.w12; omega))
  owns := rkeep h.owns (fun k hk => hg.block k (rblock h.owns k hk).2 (fun e => by have := hb k e.symm; have := (ht.vo k hk).2; have := ht.w12; omega))
  bl := h.bl.grown hg (Nat.le_trans (Nat.le_trans ht.rb.1 (Nat.le_of_lt ht.rb.2)) h.bl.size) (fun k hk => by have := hb k hk; have := ht.rb; have := ht.w12; omega)
  kept := fun k h1 h2 => (hg.block k (Nat.lt_of_lt_of_le h2 h.sz) (fun e => by have := hb k e.symm; omega)).trans (h.kept k h1 h2)
  sz := Nat.le_trans h.sz hg.size
  own := ho }
theorem OwnSt.below {r r' : RV} {ds : List REdgeV} {B : Nat} {w w12 : World} {rb EL : Nat} {own : Binds} {vb : Value} {wr wr' : World} (h : OwnSt r r' ds B w w12 rb EL own vb wr) (ht : TwoRows r B w w12 rb) (hb : Below wr.heap.size wr wr') : OwnSt r r' ds B w w12 rb EL own vb wr' := h.again ht (grown_of_below hb) ((hb.block rb h.row.lt).trans h.row) ⟨rfl, rfl, rfl⟩
theorem RRow.atOf {r : RV} {w : World} {rb : Nat} (h : RRow r w rb) : atOf w rb = r.at' := by
 have h1 : w.cell? ⟨rb, 1, none⟩ = some (.int .i64 (r.at' : Nat)) := by rw [cell_of_row _ _ _ _ _ _ h]; rfl
 unfold Go.Proofs.YthhbpebihgjpjaaGreatDoor.atOf
 rw [h1]
 exact Int.toNat_natCast _
theorem RV.failed_rows (r : RV) (k : Int) (n : Nat) : (r.failed k n).ve = r.ve ∧ (r.failed k n).vo = r.vo ∧ (r.failed k n).vl = r.vl := by
 unfold RV.failed
 split <;> exact ⟨rfl, rfl, rfl⟩
theorem ownS_none {top : Binds} {x : Line} {rest : List Line} {own : Binds} (h : begins x.2 32 = true) (hb : bindS x.2 = none) : ownS top (x :: rest) own = .error (.syn, x.1) := by
 rw [ownS, if_pos h, hb]
theorem ownS_bad {top : Binds} {x : Line} {rest : List Line} {own : Binds} {nv : ByteArray × ByteArray} (h : begins x.2 32 = true) (hb : bindS x.2 = some nv) (he : expandS (envOf own top) nv.2 = none) : ownS top (x :: rest) own = .error (.syn, x.1) := by
 rw [ownS, if_pos h, hb]
 simp only
 rw [he]
theorem ownS_more {top : Binds} {x : Line} {rest : List Line} {own : Binds} {nv : ByteArray × ByteArray} {y : ByteArray} (h : begins x.2 32 = true) (hb : bindS x.2 = some nv) (he : expandS (envOf own top) nv.2 = some y) : ownS top (x :: rest) own = ownS top rest (setB own nv.1 y) := by
 rw [ownS, if_pos h, hb]
 simp only
 rw [he]
theorem edge_tail {r r' : RV} {ds : List REdgeV} {B : Nat} {w w12 : World} {rb EL : Nat} {own : Binds} {w20 W8 w6 W9 w7 : World} {d : REdgeV} {g6 cap6 g7 cap7 : Nat} (h : OwnSt r r' ds B w w12 rb EL own d.vb w20) (ht : TwoRows r B w w12 rb) (hb8 : Below w20.heap.size w20 W8) (hg6 : W8.grownBy w6 r.ve.ownBlock) (hv6 : w6.ownsRow B 233 6 (.slice (some ⟨g6, 0, none⟩) (EL + 1) cap6) (EL + 1) (recells ds ++ d.cells)) (hat6 : r.ve.ownBlock = some g6 ∨ g6 = W8.heap.size) (hb9 : Below (w6.setCell ⟨rb, 5, none⟩ (.slice (some ⟨g6, 0, none⟩) (EL + 1) cap6)).heap.size (w6.setCell ⟨rb, 5, none⟩ (.slice (some ⟨g6, 0, none⟩) (EL + 1) cap6)) W9) (hg7 : W9.grownBy w7 r.vo.ownBlock) (hv7 : w7.ownsRow B 327 1 (.slice (some ⟨g7, 0, none⟩) (EL + 1) cap7) (EL + 1) (ds.map (·.vb) ++ [d.vb])) (hat7 : r.vo.ownBlock = some g7 ∨ g7 = W9.heap.size) : EdgeTail r' ds B rb EL d w20 (w7.setCell ⟨rb, 4, none⟩ (.slice (some ⟨g7, 0, none⟩) (EL + 1) cap7)) := by
 have hrb := ht.rb
 have hw12 := ht.w12
 have hsz := h.sz
 have s8 := hb8.size
 have s6 := hg6.size
 have s9 := hb9.size
 have s9' : w6.heap.size ≤ W9.heap.size := by simpa using s9
 have s7 := hg7.size
 have bve : ∀ k, r.ve.ownBlock = some k → B ≤ k := fun k hk => (rblock h.edges k hk).1
 have bvo : ∀ k, r.vo.ownBlock = some k → B ≤ k := fun k hk => (rblock h.owns k hk).1
 have r6 : RRow r' w6 rb := (hg6.block rb (by omega) (fun e => (ht.ve rb e.symm).1 rfl)).trans ((hb8.block rb (by omega)).trans h.row)
 have r6' : RRow { r' with ve := .slice (some ⟨g6, 0, none⟩) (EL + 1) cap6 } (w6.setCell ⟨rb, 5, none⟩ (.slice (some ⟨g6, 0, none⟩) (EL + 1) cap6)) rb := by
  unfold RRow; rw [heap_setCell_same _ _ _ _ _ _ r6]; rfl
 have r7 : RRow { r' with ve := .slice (some ⟨g6, 0, none⟩) (EL + 1) cap6 } w7 rb := (hg7.block rb (by omega) (fun e => (ht.vo rb e.symm).1 rfl)).trans ((hb9.block rb r6'.lt).trans r6')
 have oth : ∀ k, k < w20.heap.size → k ≠ rb → r.ve.ownBlock ≠ some k → r.vo.ownBlock ≠ some k → (w7.setCell ⟨rb, 4, none⟩ (.slice (some ⟨g7, 0, none⟩) (EL + 1) cap7)).heap[k]? = w20.heap[k]? := fun k hk h1 h2 h3 => by
  rw [heap_setCell_other _ _ _ _ (show k ≠ rb from h1)]
  refine (hg7.block k (by omega) (fun e => h3 e.symm)).trans ((hb9.block k (by simp; omega)).trans ?_)
  rw [heap_setCell_other _ _ _ _ (show k ≠ rb from h1)]
  exact (hg6.block k (by omega) (fun e => h2 e.symm)).trans (hb8.block k hk)
 have g6rb : g6 ≠ rb := by
  rcases hat6 with q | q
  ·exact (ht.ve g6 q).1
  ·omega
 have g7rb : g7 ≠ rb := by
  rcases hat7 with q | q
  ·exact (ht.vo g7 q).1
  ·omega
 have g6lt : g6 < w6.heap.size := (rblock hv6 g6 rfl).2
 have g6vo : r.vo.ownBlock ≠ some g6 := fun q => by
  rcases hat6 with p | p
  ·exact ht.ne g6 p q
  ·have := (ht.vo g6 q).2; omega
 refine ⟨.slice (some ⟨g6, 0, none⟩) (EL + 1) cap6, .slice (some ⟨g7, 0, none⟩) (EL + 1) cap7, ?_, ?_, ?_, ?_, ?_, ?_, ?_, ?_, ?_⟩
 ·unfold RRow; rw [heap_setCell_same _ _ _ _ _ _ r7]; rfl
 ·show _ ≤ (w7.setCell _ _).heap.size
  simp; omega
 ·have q1 : Below B w20 w6 := (hb8.mono (by omega)).grown hg6 (by omega) bve
  have q2 := q1.setCell (p := ⟨rb, 5, none⟩) hrb.1 (.slice (some ⟨g6, 0, none⟩) (EL + 1) cap6)
  have q3 := q2.trans (hb9.mono (by simp; omega))
  exact (q3.grown hg7 (by omega) bvo).setCell (p := ⟨rb, 4, none⟩) hrb.1 _
 ·intro k hk h1 h2 h3
  rw [h.ve] at h2
  rw [h.vo] at h3
  exact oth k hk h1 h2 h3
 ·refine rkeep hv6 (fun k hk => ?_)
  obtain rfl : g6 = k := Option.some.inj hk
  rw [heap_setCell_other _ _ _ _ (show g6 ≠ rb from g6rb)]
  refine (hg7.block g6 (by omega) (fun e => g6vo e.symm)).trans ((hb9.block g6 (by simp; omega)).trans ?_)
  exact heap_setCell_other _ _ _ _ (show g6 ≠ rb from g6rb)
 ·refine rkeep hv7 (fun k hk => ?_)
  obtain rfl : g7 = k := Option.some.inj hk
  exact heap_setCell_other _ _ _ _ (show g7 ≠ rb from g7rb)
 ·intro k hk
  obtain rfl : g6 = k := Option.some.inj hk
  rw [h.ve]
  rcases hat6 with q | q
  ·exact Or.inl q
  ·right; omega
 ·intro k hk
  obtain rfl : g7 = k := Option.some.inj hk
  rw [h.vo]
  rcases hat7 with q | q
  ·exact Or.inl q
  ·right; omega
 ·intro k hk hk2
  obtain rfl : g6 = k := Option.some.inj hk
  obtain rfl : g7 = g6 := Option.some.inj hk2
  rcases hat7 with q | q
  ·exact g6vo q
  ·omega
end Go.Proofs.YthhbpebihgjpjaaGreatDoor
