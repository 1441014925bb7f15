import Derived.Test.YthhbpebihgjpjaaGreatDoorK17
import Derived.Test.YthhbpebihgjpjaaGreatDoorK08
namespace Go.Proofs.YthhbpebihgjpjaaGreatDoor
open Go.RowKit Go.Maps
set_option maxRecDepth 1000000

/-- Lines that are there. -/
def LinesAt (w : World) (v : Value) (l : List Line) : Prop := ∃ ao cap, v = .slice ao l.length cap ∧ l.length ≤ cap ∧ (l = [] ∨ ∃ g o, ao = some ⟨g, o, none⟩ ∧ ∀ k x, l[k]? = some x → w.cell? ⟨g, o + k * 2, none⟩ = some (.int .i64 (x.1 : Nat)) ∧ w.cell? ⟨g, o + k * 2 + 1, none⟩ = some (.string x.2))
theorem LinesAt.keep {w w' : World} {v : Value} {l : List Line} (h : LinesAt w v l) (hb : ∀ k, k < w.heap.size → (∃ o n c, v = .slice (some ⟨k, o, none⟩) n c) → w'.heap[k]? = w.heap[k]?) : LinesAt w' v l := by
  obtain ⟨ao, cap, rfl, hc, h | ⟨g, o, rfl, h⟩⟩ := h
  · exact ⟨ao, cap, rfl, hc, Or.inl h⟩
  · refine ⟨_, cap, rfl, hc, Or.inr ⟨g, o, rfl, fun k x hx => ?_⟩⟩
    obtain ⟨h1, h2⟩ := h k x hx
    have hk := hb g (block_lt_of_cell h1) ⟨_, _, _, rfl⟩
    exact ⟨(World.cell?_of_block (w := w) (a := ⟨g, o + k * 2, none⟩) hk).trans h1, (World.cell?_of_block (w := w) (a := ⟨g, o + k * 2 + 1, none⟩) hk).trans h2⟩
theorem lines_of_row {w : World} {base : Nat} {v : Value} {l : List Line} (h : OwnLn w base v l) : LinesAt w v l := by
  obtain ⟨ao, cap, rfl, hc, hg⟩ := row_form h
  refine ⟨ao, cap, rfl, hc, ?_⟩
  by_cases h0 : l = []
  · exact Or.inl h0
  · obtain ⟨g, rfl⟩ := hg (List.length_pos_iff.2 h0)
    refine Or.inr ⟨g, 0, rfl, fun k x hx => ?_⟩
    have hc := lncells_at hx
    rw [Nat.zero_add]
    exact ⟨(row_cell h _ _ hc.1).1, (row_cell h _ _ hc.2).1⟩
/-- What nobody writes, c telling what may be written (0: nothing). -/
def Stable (c : Nat → Nat) (w : World) (P : World → Prop) : Prop := ∀ w', w.heap.size ≤ w'.heap.size → (∀ k, k < w.heap.size → c k = 0 → w'.heap[k]? = w.heap[k]?) → P w'
theorem Stable.now {c : Nat → Nat} {w : World} {P : World → Prop} (h : Stable c w P) : P w := h w (Nat.le_refl _) (fun _ _ _ => rfl)
theorem Stable.step {c c' : Nat → Nat} {w w' : World} {P : World → Prop} (h : Stable c w P) (hs : w.heap.size ≤ w'.heap.size) (hk : ∀ k, k < w.heap.size → c k = 0 → w'.heap[k]? = w.heap[k]? ∧ c' k = 0) : Stable c' w' P :=
  fun w'' hs' hk' => h w'' (Nat.le_trans hs hs') (fun k h1 h2 => (hk' k (Nat.lt_of_lt_of_le h1 hs) (hk k h1 h2).2).trans (hk k h1 h2).1)
/-- A draft's values. -/
structure DraftV where
  vo : Value
  vi : Value
  vm : Value
  vr : Value
  rule : ByteArray
  ob : Nat
def DraftV.cells (d : DraftV) : List Value := [d.vo, d.vi, d.vm, d.vr, .string d.rule, .string ⟨#[]⟩, .pointer (some ⟨d.ob, 0, none⟩)]
def dcells (l : List DraftV) : List Value := l.flatMap DraftV.cells
/-- .. and the edge that it is. -/
structure DraftAt (w : World) (sb : Nat) (d : DraftV) (e : EdgeS) : Prop where
  outs : TextsAt w d.vo e.outs
  ins : TextsAt w d.vi e.ins
  impl : TextsAt w d.vm e.impl
  ord : TextsAt w d.vr e.ord
  rule : d.rule = e.rule
  own : ∃ tb n, sb < d.ob ∧ w.heap[d.ob]? = some (.cells #[.map (some tb), .pointer (some ⟨sb, 0, none⟩)] 302 (0, 0)) ∧ BMap w tb n e.own
def DraftsAt (w : World) (sb : Nat) (ds : List DraftV) (es : List EdgeS) : Prop := ds.length = es.length ∧ ∀ (k : Nat) d e, ds[k]? = some d → es[k]? = some e → DraftAt w sb d e
/-- The files that edges make, as a set. -/
def unitR : Value → Option (DataW Unit × List MemPlace)
  | .agg cs => if cs.size = 0 then some (.lit (.int .i64 0), []) else none
  | _ => none
theorem unitR_inj {v v' : Value} {d : DataW Unit} {p p' : List MemPlace} (h : unitR v = some (d, p)) (h' : unitR v' = some (d, p')) : v = v' := by
  have hv : ∀ {v : Value} {d : DataW Unit} {p : List MemPlace}, unitR v = some (d, p) → v = .agg #[] := by
    intro v d p h
    unfold unitR at h
    split at h
    · rename_i cs
      split at h
      · rename_i e
        rw [show cs = #[] from Array.eq_empty_of_size_eq_zero e]
      · cases h
    · cases h
  rw [hv h, hv h']
def unitC : Coded := ⟨unitR, unitR_inj⟩
def UMap (w : World) (b n : Nat) (l : List ByteArray) : Prop := TMap unitC (.agg #[]) w b n (fun x => if memB x l = true then some (.agg #[]) else none)
/-- All that the reading has. -/
structure PV where
  c : Nat → Nat
  vl : Value
  vd : Value
  vf : Value
  sb : Nat
  tb : Nat
  rm : Nat
  mm : Nat
  n1 : Nat
  n2 : Nat
  n3 : Nat
  ds : List DraftV
def RdRow (p : PV) (w : World) (rb : Nat) (n : Int) : Prop := w.heap[rb]? = some (.cells #[.int .i64 n, p.vl, .pointer (some ⟨p.sb, 0, none⟩), .map (some p.rm), .map (some p.mm), p.vd, p.vf] 201 (0, 0))
def BOk (l : Binds) : Prop := ∀ x ∈ l, x.2.size ≤ 10000 ∧ 0 < x.1.size
structure SOk (S : St) (m : Nat) (ls : List Line) : Prop where
  top : BOk S.top
  tops : S.top.length + m ≤ 5000
  rules : ∀ x ∈ S.rules, x.2.size ≤ 4000
  rulen : S.rules.length + m ≤ 5000
  edges : S.edges.length ≤ 64
  edge : ∀ e ∈ S.edges, BOk e.own ∧ e.own.length ≤ 5000 ∧ e.outs.length ≤ 8000 ∧ e.ins.length ≤ 4000 ∧ (∀ x ∈ e.outs, x.size ≤ 32) ∧ (∀ x ∈ e.ins, x.size ≤ 32) ∧ e.impl.length ≤ 4000 ∧ e.ord.length ≤ 4000
  defs : S.defs.length + 4000 * m ≤ 20000000
  lines : ∀ x ∈ ls, x.2.size ≤ 4000
  count : ls.length ≤ 5000
/-- .. but for the files that are made. -/
structure PStB (p : PV) (a : Nat → Addr) (B : Nat) (w : World) (rb : Nat) (n : Int) (ls : List Line) (S : St) (m : Nat) : Prop where
  gl : Gl a w
  base : 14 ≤ B
  row : RdRow p w rb n
  const : Stable p.c w (fun w => LinesAt w p.vl ls ∧ w.heap[p.sb]? = some (.cells #[.map (some p.tb), .pointer none] 302 (0, 0)) ∧ DraftsAt w p.sb p.ds S.edges)
  top : BMap w p.tb p.n1 S.top
  rules : BMap w p.rm p.n2 S.rules
  mlt : p.mm < w.heap.size
  drafts : w.ownsRow B 311 7 p.vd S.edges.length (dcells p.ds)
  defs : w.ownsRow B 9 1 p.vf S.defs.length (S.defs.map Value.string)
  c1 : p.c rb = 1
  c2 : p.c p.tb = 2
  c3 : p.c p.rm = 3
  c4 : p.c p.mm = 4
  c5 : ∀ k, p.vd.ownBlock = some k → p.c k = 5
  c6 : ∀ k, p.vf.ownBlock = some k → p.c k = 6
  low : ∀ k, k < B → p.c k = 9
  few : p.n1 + m ≤ 5000 ∧ p.n2 + m ≤ 5000 ∧ p.n3 + 8000 * m ≤ 40000000
  ok : SOk S m ls
structure PStC (p : PV) (a : Nat → Addr) (B : Nat) (w : World) (rb : Nat) (n : Int) (ls : List Line) (S : St) (m : Nat) : Prop extends PStB p a B w rb n ls S m where
  made : UMap w p.mm p.n3 (madeS S)
theorem PStB.rowlt {p : PV} {a : Nat → Addr} {B : Nat} {w : World} {rb : Nat} {n : Int} {ls : List Line} {S : St} {m : Nat} (h : PStB p a B w rb n ls S m) : rb < w.heap.size := heap_lt h.row
/-- Where nothing old is written. -/
theorem PStB.below {p : PV} {a : Nat → Addr} {B : Nat} {w w' : World} {rb : Nat} {n : Int} {ls : List Line} {S : St} {m : Nat} (h : PStB p a B w rb n ls S m) (hb : Below w.heap.size w w') : PStB p a B w' rb n ls S m where
  gl := h.gl.keep hb.size (fun k hk => hb.block k (Nat.lt_of_lt_of_le hk h.gl.size))
  base := h.base
  row := (hb.block rb h.rowlt).trans h.row
  const := h.const.step hb.size (fun k hk h0 => ⟨hb.block k hk, h0⟩)
  top := TMap.keep h.top (hb.block _ h.top.lt)
  rules := TMap.keep h.rules (hb.block _ h.rules.lt)
  mlt := Nat.lt_of_lt_of_le h.mlt hb.size
  drafts := rkeep h.drafts (fun k hk => hb.block k (rblock h.drafts k hk).2)
  defs := rkeep h.defs (fun k hk => hb.block k (rblock h.defs k hk).2)
  c1 := h.c1
  c2 := h.c2
  c3 := h.c3
  c4 := h.c4
  c5 := h.c5
  c6 := h.c6
  low := h.low
  few := h.few
  ok := h.ok
theorem PStC.below {p : PV} {a : Nat → Addr} {B : Nat} {w w' : World} {rb : Nat} {n : Int} {ls : List Line} {S : St} {m : Nat} (h : PStC p a B w rb n ls S m) (hb : Below w.heap.size w w') : PStC p a B w' rb n ls S m := ⟨h.toPStB.below hb, TMap.keep h.made (hb.block _ h.made.lt)⟩
theorem PStB.at0 {p : PV} {a : Nat → Addr} {B : Nat} {w : World} {rb : Nat} {n : Int} {ls : List Line} {S : St} {m : Nat} (h : PStB p a B w rb n ls S m) : w.cell? ⟨rb, 0, none⟩ = some (.int .i64 n) := by rw [cell_of_row _ _ _ _ _ _ h.row]; rfl
theorem PStB.lowrb {p : PV} {a : Nat → Addr} {B : Nat} {w : World} {rb : Nat} {n : Int} {ls : List Line} {S : St} {m : Nat} (h : PStB p a B w rb n ls S m) : B ≤ rb := by
  rcases Nat.lt_or_ge rb B with c | c
  · have h1 := h.low rb c; have h2 := h.c1; omega
  · exact c
theorem bindOf_mem {l : Binds} {x y : ByteArray} (h : bindOf l x = some y) : ∃ z ∈ l, z.1 = x ∧ z.2 = y := by
  unfold bindOf at h
  obtain ⟨z, hz, rfl⟩ := Option.map_eq_some_iff.1 h
  exact ⟨z, List.mem_of_find?_eq_some hz, by have := List.find?_some hz; simpa using this, rfl⟩
theorem envL_size {ls : List Binds} (h : ∀ l ∈ ls, BOk l) (x : ByteArray) : (envL ls x).size ≤ 10000 := by
  induction ls with
  | nil => exact Nat.zero_le _
  | cons l ls ih =>
    rw [envL]
    cases hb : bindOf l x with
    | none => exact ih (fun l hl => h l (List.mem_cons_of_mem _ hl))
    | some y =>
      obtain ⟨z, hz, _, rfl⟩ := bindOf_mem hb
      exact (h l List.mem_cons_self z hz).1
theorem envL_nil {ls : List Binds} (h : ∀ l ∈ ls, BOk l) : envL ls ⟨#[]⟩ = ⟨#[]⟩ := by
  induction ls with
  | nil => rfl
  | cons l ls ih =>
    rw [envL]
    cases hb : bindOf l ⟨#[]⟩ with
    | none => exact ih (fun l hl => h l (List.mem_cons_of_mem _ hl))
    | some y =>
      obtain ⟨z, hz, e, _⟩ := bindOf_mem hb
      have := (h l List.mem_cons_self z hz).2
      rw [e] at this
      exact absurd this (by decide)
end Go.Proofs.YthhbpebihgjpjaaGreatDoor

namespace Go.Proofs.YthhbpebihgjpjaaGreatDoor
open Go.RowKit Go.Maps
set_option maxRecDepth 1000000

theorem grown_below {w w' : World} {B b : Nat} (hg : w.grownBy w' (some b)) (hb : B ≤ b) (hB : B ≤ w.heap.size) : Below B w w' := (Below.refl B w).grown hg hB (fun k hk => by rw [← Option.some.inj hk]; exact hb)
theorem PStB.turn {p p' : PV} {a : Nat → Addr} {B : Nat} {w w' : World} {rb : Nat} {n n' : Int} {ls ls' : List Line} {S : St} {m : Nat} {vl' : Value} (h : PStB p a B w rb n ls S m) (hg : w.grownBy w' (some rb)) (hp : p' = { p with vl := vl' }) (hrow : RdRow p' w' rb n') (hl : ∀ w, LinesAt w p.vl ls → LinesAt w vl' ls') (hok : SOk S m ls') : PStB p' a B w' rb n' ls' S m := by
  have hB : B ≤ w.heap.size := Nat.le_trans h.lowrb (Nat.le_of_lt h.rowlt)
  have hne : ∀ k, k < w.heap.size → p.c k ≠ 1 → w'.heap[k]? = w.heap[k]? := fun k hk hc => hg.block k hk (fun e => hc (by rw [Option.some.inj e]; exact h.c1))
  subst hp
  exact {
    gl := h.gl.keep hg.size (fun k hk => hne k (Nat.lt_of_lt_of_le hk h.gl.size) (by have := h.low k (Nat.lt_of_lt_of_le hk h.base); omega))
    base := h.base
    row := hrow
    const := fun w'' hs hk => by
      have := h.const w'' (Nat.le_trans hg.size hs) (fun k h1 h2 => (hk k (Nat.lt_of_lt_of_le h1 hg.size) h2).trans (hne k h1 (by have := (show p.c k = 0 from h2); omega)))
      exact ⟨hl _ this.1, this.2⟩
    top := TMap.keep h.top (hne p.tb h.top.lt (by rw [h.c2]; decide))
    rules := TMap.keep h.rules (hne p.rm h.rules.lt (by rw [h.c3]; decide))
    mlt := Nat.lt_of_lt_of_le h.mlt (hg.size)
    drafts := rkeep h.drafts (fun k hk => hne k (rblock h.drafts k hk).2 (by have := h.c5 k hk; omega))
    defs := rkeep h.defs (fun k hk => hne k (rblock h.defs k hk).2 (by have := h.c6 k hk; omega))
    c1 := h.c1, c2 := h.c2, c3 := h.c3, c4 := h.c4, c5 := h.c5, c6 := h.c6, low := h.low
    few := h.few
    ok := hok }
theorem SOk.less {S : St} {m : Nat} {ls ls' : List Line} (h : SOk S m ls) (hm : ∀ x ∈ ls', x ∈ ls) (hl : ls'.length ≤ ls.length) : SOk S m ls' :=
  { h with lines := fun x hx => h.lines x (hm x hx), count := Nat.le_trans hl h.count }
theorem slice_lines (b o L cap : Nat) (h : L + 1 ≤ cap) : ∃ o', (∀ k, k < L → o' + k * 2 = o + 2 + k * 2) ∧ ∀ wx, (Instr.slice 198 (.slice (some ⟨b, o, none⟩) (L + 1) cap) (some (.int .i64 1)) none none).run Tryz.prog wx = .ok (.slice (some ⟨b, o', none⟩) L (cap - 1)) wx := by
  by_cases hc : cap = 1
  · subst hc
    obtain rfl : L = 0 := by omega
    exact ⟨o, fun k hk => by omega, fun wx => by kernel_rfl⟩
  · refine ⟨o + 2, fun k _ => rfl, fun wx => ?_⟩
    simp [Instr.slice, run_underlying Tryz.underlying198, go_sem, hc]
    intro hh
    omega
theorem grown_two (w : World) (rb : Nat) (v0 v1 : Value) (o : Obj) : w.grownBy (((w.setCell ⟨rb, 1, none⟩ v1).setCell ⟨rb, 0, none⟩ v0).alloc o).drew (some rb) := by
  have hs : ((w.setCell ⟨rb, 1, none⟩ v1).setCell ⟨rb, 0, none⟩ v0).heap.size = w.heap.size := by simp
  refine ⟨rfl, rfl, rfl, ?_, fun k hk hn => ?_⟩
  · show w.heap.size ≤ (((w.setCell ⟨rb, 1, none⟩ v1).setCell ⟨rb, 0, none⟩ v0).alloc o).heap.size
    simp
  · show (((w.setCell ⟨rb, 1, none⟩ v1).setCell ⟨rb, 0, none⟩ v0).alloc o).heap[k]? = _
    have hne : k ≠ rb := fun e => hn (by rw [e])
    rw [heapA_old _ _ k (by omega), heap_setCell_other _ _ _ _ hne, heap_setCell_other _ _ _ _ hne]
set_option maxHeartbeats 4000000 in
theorem takeB_any {p : PV} {a : Nat → Addr} {B : Nat} {w : World} {rb : Nat} {n : Int} {x : Line} {rest : List Line} {S : St} {m : Nat} (h : PStB p a B w rb n (x :: rest) S m) :
    Calls Tryz.prog 192 #[.pointer (some ⟨rb, 0, none⟩)] w fun e w' => e = .returned (.string x.2) ∧ (∃ vl', PStB { p with vl := vl' } a B w' rb (x.1 : Nat) rest S m) ∧ w.grownBy w' (some rb) := by
  have H : Hid (PStB p a B w rb n (x :: rest) S m) := h
  obtain ⟨ao, cap, hvl, hc, hl⟩ := h.const.now.1
  obtain ⟨g, o, rfl, hl2⟩ : ∃ g o, ao = some ⟨g, o, none⟩ ∧ ∀ k y, (x :: rest)[k]? = some y → w.cell? ⟨g, o + k * 2, none⟩ = some (.int .i64 (y.1 : Nat)) ∧ w.cell? ⟨g, o + k * 2 + 1, none⟩ = some (.string y.2) := by
    rcases hl with e | e
    · cases e
    · exact e
  have h0 := hl2 0 x rfl
  simp only [Nat.zero_mul, Nat.add_zero] at h0
  have d0 := h0.1
  have d1 := h0.2
  have hgl : g < w.heap.size := block_lt_of_cell d0
  obtain ⟨o', ho', hsl⟩ := slice_lines g o rest.length cap (by simpa using hc)
  have c1 : w.cell? ⟨rb, 1, none⟩ = some (.slice (some ⟨g, o, none⟩) (rest.length + 1) cap) := by
    rw [cell_of_row _ _ _ _ _ _ h.row]; exact congrArg some hvl
  have c0 := h.at0
  have f0 : w.frozen? ⟨rb, 0, none⟩ = false := frozen_of_row _ _ _ _ _ h.row
  have f1 : w.frozen? ⟨rb, 1, none⟩ = false := frozen_of_row _ _ _ _ _ h.row
  have hrb := h.rowlt
  obtain ⟨xn, xt⟩ := x
  simp only at d0 d1
  clear h h0 hl
  have HL2 : Hid (∀ k y, ((xn, xt) :: rest)[k]? = some y → w.cell? ⟨g, o + k * 2, none⟩ = some (.int .i64 (y.1 : Nat)) ∧ w.cell? ⟨g, o + k * 2 + 1, none⟩ = some (.string y.2)) := hl2
  clear hl2
  go_enter Tryz.func192, Tryz.ntmps192
  go_wp2_with fail
  have HFIN : Hid (∃ vl', PStB { p with vl := vl' } a B (((w.setCell ⟨rb, 1, none⟩ (.slice (some ⟨g, o', none⟩) rest.length (cap - 1))).setCell ⟨rb, 0, none⟩ (.int .i64 (xn : Nat))).alloc (.cells #[.int .i64 (xn : Nat), .string xt] 305)).drew rb (xn : Nat) rest S m) := by
    refine ⟨.slice (some ⟨g, o', none⟩) rest.length (cap - 1), H.out.turn (grown_two w rb _ _ _) rfl ?_ ?_ (H.out.ok.less (fun x hx => List.mem_cons_of_mem _ hx) (Nat.le_succ _))⟩
    · show (((w.setCell ⟨rb, 1, none⟩ _).setCell ⟨rb, 0, none⟩ _).alloc _).heap[rb]? = _
      rw [heapA_old _ _ rb (by simpa using hrb), heap_setCell_same _ _ _ _ _ _ (heap_setCell_same _ _ _ _ _ _ H.out.row)]
      rfl
    · intro w' hw'
      obtain ⟨ao2, cap2, e2, hc2, h2⟩ := hw'
      rw [hvl] at e2
      injection e2 with e2 e3 e4
      subst e2 e4
      refine ⟨_, _, rfl, by have : rest.length + 1 ≤ cap := by simpa using hc
                            omega, ?_⟩
      rcases h2 with e | ⟨g2, o2, e, h2⟩
      · cases e
      · injection e with e
        injection e with e5 e6 _
        subst e5 e6
        by_cases hr : rest = []
        · exact Or.inl hr
        · refine Or.inr ⟨g, o', rfl, fun k y hy => ?_⟩
          have hk : k < rest.length := (List.getElem?_eq_some_iff.1 hy).1
          have := h2 (k + 1) y (by simpa using hy)
          rw [show o + (k + 1) * 2 = o' + k * 2 by rw [ho' k hk]; omega] at this
          exact this
  have HGR : Hid (w.grownBy (((w.setCell ⟨rb, 1, none⟩ (.slice (some ⟨g, o', none⟩) rest.length (cap - 1))).setCell ⟨rb, 0, none⟩ (.int .i64 (xn : Nat))).alloc (.cells #[.int .i64 (xn : Nat), .string xt] 305)).drew (some rb)) := grown_two w rb _ _ _
  go_region
  all_goals
    go_wp2_with fail
    go_ret
    exact ⟨rfl, HFIN.out, HGR.out⟩
theorem take_any {p : PV} {a : Nat → Addr} {B : Nat} {w : World} {rb : Nat} {n : Int} {x : Line} {rest : List Line} {S : St} {m : Nat} (h : PStC p a B w rb n (x :: rest) S m) :
    Calls Tryz.prog 192 #[.pointer (some ⟨rb, 0, none⟩)] w fun e w' => e = .returned (.string x.2) ∧ (∃ vl', PStC { p with vl := vl' } a B w' rb (x.1 : Nat) rest S m) ∧ w.grownBy w' (some rb) := by
  refine (takeB_any h.toPStB).mono ?_
  rintro e w' ⟨h1, ⟨vl', h2⟩, h3⟩
  exact ⟨h1, ⟨vl', h2, TMap.keep h.made (h3.block p.mm h.made.lt (fun e => by have h4 := h.c4; have h5 := h.c1; rw [Option.some.inj e] at h4; omega))⟩, h3⟩
set_option maxHeartbeats 2000000 in
theorem boundB_any {p : PV} {a : Nat → Addr} {B : Nat} {w : World} {rb : Nat} {n : Int} {ls : List Line} {S : St} {m : Nat} (h : PStB p a B w rb n ls S m) :
    Calls Tryz.prog 263 #[.pointer (some ⟨rb, 0, none⟩)] w fun e w' => e = .returned (.bool (indented ls).isSome) ∧ w' = w := by
  have c1 : w.cell? ⟨rb, 1, none⟩ = some p.vl := by rw [cell_of_row _ _ _ _ _ _ h.row]; rfl
  obtain ⟨ao, cap, hvl, hc, hl⟩ := h.const.now.1
  rw [hvl] at c1
  clear hvl
  cases ls with
  | nil =>
    simp only [List.length_nil] at c1
    clear h hl
    go_enter Tryz.func263, Tryz.ntmps263
    go_wp2_with fail
    go_ret
    exact ⟨rfl, rfl⟩
  | cons x rest =>
    obtain ⟨g, o, rfl, hl2⟩ : ∃ g o, ao = some ⟨g, o, none⟩ ∧ ∀ k y, (x :: rest)[k]? = some y → w.cell? ⟨g, o + k * 2, none⟩ = some (.int .i64 (y.1 : Nat)) ∧ w.cell? ⟨g, o + k * 2 + 1, none⟩ = some (.string y.2) := by
      rcases hl with e | e
      · cases e
      · exact e
    have d1 := (hl2 0 x rfl).2
    simp only [Nat.zero_mul, Nat.add_zero] at d1
    have HI : Hid ((indented (x :: rest)).isSome = begins x.2 32) := by
      show (if begins x.2 32 = true then some (x, rest) else none).isSome = _
      cases begins x.2 32 <;> rfl
    have HPRE : Hid (∀ wx, Calls Tryz.prog 193 #[.string x.2, .string ⟨#[32]⟩] wx fun e w' => e = .returned (.bool (begins x.2 32)) ∧ w' = wx) := fun wx => hasPrefix_any x.2 32 wx
    have hp : (0 : Int) < ((x :: rest).length : Int) := by simp
    clear h hl hl2
    generalize (x :: rest).length = N at *
    generalize begins x.2 32 = bb at *
    go_enter Tryz.func263, Tryz.ntmps263
    go_wp2_with fail
    refine (HPRE.out _).mono ?_
    rintro e w1 ⟨rfl, rfl⟩
    go_wp2_with fail
    go_ret
    exact ⟨by rw [HI.out]; rfl, rfl⟩
theorem boundAhead_any {p : PV} {a : Nat → Addr} {B : Nat} {w : World} {rb : Nat} {n : Int} {ls : List Line} {S : St} {m : Nat} (h : PStC p a B w rb n ls S m) :
    Calls Tryz.prog 263 #[.pointer (some ⟨rb, 0, none⟩)] w fun e w' => e = .returned (.bool (indented ls).isSome) ∧ w' = w := boundB_any h.toPStB
end Go.Proofs.YthhbpebihgjpjaaGreatDoor
