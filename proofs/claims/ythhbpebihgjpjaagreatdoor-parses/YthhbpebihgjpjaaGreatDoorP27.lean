import Derived.Test.YthhbpebihgjpjaaGreatDoorP26
import Derived.Test.YthhbpebihgjpjaaGreatDoorP15
namespace Go.Proofs.YthhbpebihgjpjaaGreatDoor
open Go.RowKit
set_option maxRecDepth 1000000

structure REdgeV where
 vo : Value
 vi : Value
 vm : Value
 vr : Value
 rule : ByteArray
 vb : Value
def REdgeV.cells (d : REdgeV) : List Value := [d.vo, d.vi, d.vm, d.vr, .string d.rule, .string ⟨#[]⟩]
def recells (l : List REdgeV) : List Value := l.flatMap REdgeV.cells
def REdgeV.high (B : Nat) (d : REdgeV) : Prop := ∀ k, (d.vo.ownBlock = some k ∨ d.vi.ownBlock = some k ∨ d.vm.ownBlock = some k ∨ d.vr.ownBlock = some k) → B ≤ k
def RListsAt (w : World) (ds : List REdgeV) (es : List EdgeS) : Prop := ds.length = es.length ∧ ∀ (k : Nat) d e, ds[k]? = some d → es[k]? = some e → TextsAt w d.vo e.outs ∧ TextsAt w d.vi e.ins ∧ TextsAt w d.vm e.impl ∧ TextsAt w d.vr e.ord ∧ d.rule = e.rule
structure RSt (r : RV) (ds : List REdgeV) (c : Nat → Nat) (B : Nat) (w : World) (rb : Nat) (L : List Line) (S : St) (m : Nat) : Prop where
 row : RRow r w rb
 const : Stable c w (fun w => RLinesAt w r.vl L ∧ RListsAt w ds S.edges)
 top : w.ownsRow B 338 2 r.vt S.top.length (bcellsB S.top)
 rules : w.ownsRow B 338 2 r.vr S.rules.length (bcellsB S.rules)
 owns : w.ownsRow B 327 1 r.vo S.edges.length (ds.map (·.vb))
 edges : w.ownsRow B 233 6 r.ve S.edges.length (recells ds)
 defs : w.ownsRow B 9 1 r.vf S.defs.length (S.defs.map Value.string)
 own7 : ∀ (i : Nat) d e, ds[i]? = some d → S.edges[i]? = some e → w.ownsRow B 338 2 d.vb e.own.length (bcellsB e.own) ∧ ∀ k, d.vb.ownBlock = some k → c k = 7
 dist : ∀ (i j : Nat) d d' k, ds[i]? = some d → ds[j]? = some d' → d.vb.ownBlock = some k → d'.vb.ownBlock = some k → i = j
 c1 : c rb = 1
 c2 : ∀ k, r.vt.ownBlock = some k → c k = 2
 c3 : ∀ k, r.vr.ownBlock = some k → c k = 3
 c4 : ∀ k, r.vo.ownBlock = some k → c k = 4
 c5 : ∀ k, r.ve.ownBlock = some k → c k = 5
 c6 : ∀ k, r.vf.ownBlock = some k → c k = 6
 low : ∀ k, k < B → c k = 0
 lne : ∀ g o n cp, r.vl = .slice (some ⟨g, o, none⟩) n cp → c g = 0 ∧ g < w.heap.size
 e0 : r.e = 0
 high : ∀ d ∈ ds, d.high B
 ok : SOk S m []
 len : L.length ≤ 5000 ∧ ∀ x ∈ L, x.2.size ≤ 4000
theorem RSt.rlow {r : RV} {ds : List REdgeV} {c : Nat → Nat} {B : Nat} {w : World} {rb : Nat} {L : List Line} {S : St} {m : Nat} (h : RSt r ds c B w rb L S m) : B ≤ rb := by
 rcases Nat.lt_or_ge rb B with q | q
 ·have h1 := h.low rb q; have h2 := h.c1; omega
 ·exact q
theorem RSt.bw {r : RV} {ds : List REdgeV} {c : Nat → Nat} {B : Nat} {w : World} {rb : Nat} {L : List Line} {S : St} {m : Nat} (h : RSt r ds c B w rb L S m) : B ≤ w.heap.size := Nat.le_trans h.rlow (Nat.le_of_lt h.row.lt)
theorem RSt.below {r : RV} {ds : List REdgeV} {c : Nat → Nat} {B : Nat} {w w' : World} {rb : Nat} {L : List Line} {S : St} {m : Nat} (h : RSt r ds c B w rb L S m) (hb : Below w.heap.size w w') : RSt r ds c B w' rb L S m where
 row := (hb.block rb h.row.lt).trans h.row
 const := h.const.step hb.size (fun k hk h0 => ⟨hb.block k hk, h0⟩)
 top := rkeep h.top (fun k hk => hb.block k (rblock h.top k hk).2)
 rules := rkeep h.rules (fun k hk => hb.block k (rblock h.rules k hk).2)
 owns := rkeep h.owns (fun k hk => hb.block k (rblock h.owns k hk).2)
 edges := rkeep h.edges (fun k hk => hb.block k (rblock h.edges k hk).2)
 defs := rkeep h.defs (fun k hk => hb.block k (rblock h.defs k hk).2)
 own7 := fun i d e hd he => ⟨rkeep (h.own7 i d e hd he).1 (fun k hk => hb.block k (rblock (h.own7 i d e hd he).1 k hk).2), (h.own7 i d e hd he).2⟩
 dist := h.dist
 c1 := h.c1
 c2 := h.c2
 c3 := h.c3
 c4 := h.c4
 c5 := h.c5
 c6 := h.c6
 low := h.low
 lne := fun g o n cp e => ⟨(h.lne g o n cp e).1, Nat.lt_of_lt_of_le (h.lne g o n cp e).2 hb.size⟩
 e0 := h.e0
 high := h.high
 ok := h.ok
 len := h.len
theorem RSt.at {r : RV} {ds : List REdgeV} {c : Nat → Nat} {B : Nat} {w : World} {rb : Nat} {L : List Line} {S : St} {m : Nat} {x : Line} (h : RSt r ds c B w rb L S m) (hx : L[r.at']? = some x) : RAt r w rb L x where
 row := h.row
 lines := h.const.now.1
 at' := hx
 ne := fun g o n cp e q => by have h1 := (h.lne g o n cp e).1; have h2 := h.c1; rw [q] at h1; omega
theorem RSt.binds {r : RV} {ds : List REdgeV} {c : Nat → Nat} {B : Nat} {w : World} {rb : Nat} {L : List Line} {S : St} {m : Nat} (h : RSt r ds c B w rb L S m) : BindsAt w r.vt S.top ∧ BindsAt w r.vr S.rules := ⟨binds_of_row h.top, binds_of_row h.rules⟩
theorem RSt.moved {r : RV} {ds : List REdgeV} {c : Nat → Nat} {B : Nat} {w w' : World} {rb : Nat} {L : List Line} {S : St} {m j : Nat} (h : RSt r ds c B w rb L S m) (hg : w.grownBy w' (some rb)) (hr : RRow { r with at' := j } w' rb) : RSt { r with at' := j } ds c B w' rb L S m := by
 have off : ∀ k, k < w.heap.size → c k ≠ 1 → w'.heap[k]? = w.heap[k]? := fun k hk hc => hg.block k hk (fun e => hc (by rw [Option.some.inj e]; exact h.c1))
 exact {
  row := hr
  const := h.const.step hg.size (fun k hk h0 => ⟨off k hk (by omega), h0⟩)
  top := rkeep h.top (fun k hk => off k (rblock h.top k hk).2 (by rw [h.c2 k hk]; decide))
  rules := rkeep h.rules (fun k hk => off k (rblock h.rules k hk).2 (by rw [h.c3 k hk]; decide))
  owns := rkeep h.owns (fun k hk => off k (rblock h.owns k hk).2 (by rw [h.c4 k hk]; decide))
  edges := rkeep h.edges (fun k hk => off k (rblock h.edges k hk).2 (by rw [h.c5 k hk]; decide))
  defs := rkeep h.defs (fun k hk => off k (rblock h.defs k hk).2 (by rw [h.c6 k hk]; decide))
  own7 := fun i d e hd he => ⟨rkeep (h.own7 i d e hd he).1 (fun k hk => off k (rblock (h.own7 i d e hd he).1 k hk).2 (by rw [(h.own7 i d e hd he).2 k hk]; decide)), (h.own7 i d e hd he).2⟩
  dist := h.dist
  c1 := h.c1, c2 := h.c2, c3 := h.c3, c4 := h.c4, c5 := h.c5, c6 := h.c6, low := h.low, lne := (fun g o n cp e => ⟨(h.lne g o n cp e).1, Nat.lt_of_lt_of_le (h.lne g o n cp e).2 hg.size⟩), e0 := h.e0, high := h.high, ok := h.ok, len := h.len }
def SlV (v : Value) : Prop := ∃ ao n cp, v = .slice ao n cp
theorem RLinesAt.sl {w : World} {v : Value} {l : List Line} (h : RLinesAt w v l) : SlV v := by
 obtain ⟨ao, cp, e, _⟩ := h
 exact ⟨ao, _, cp, e⟩
theorem RSt.sl {r : RV} {ds : List REdgeV} {c : Nat → Nat} {B : Nat} {w : World} {rb : Nat} {L : List Line} {S : St} {m : Nat} (h : RSt r ds c B w rb L S m) : SlV r.vl := h.const.now.1.sl
theorem RV.failed_sl {r : RV} {k : Int} {n : Nat} (h : SlV r.vl) : SlV (r.failed k n).vl := by rw [(RV.failed_vl r k n).1]; exact h
def rstmtEnd (B rb m : Nat) (L : List Line) (w : World) (res : Res) (e : Ending) (w' : World) : Prop := e = .returned (.tuple #[]) ∧ Below B w w' ∧ match res with
 | .error bk => ∃ r', RRow r' w' rb ∧ r'.e = ((badK bk.1 : Nat) : Int) + 1 ∧ r'.line = (bk.2 : Nat) ∧ SlV r'.vl
 | .ok Sr => ∃ r' ds c, RSt r' ds c B w' rb L Sr.1 m ∧ said (L.drop r'.at') = Sr.2
theorem RSt.addRule {r : RV} {ds : List REdgeV} {c : Nat → Nat} {B : Nat} {w w3 : World} {rb : Nat} {L : List Line} {S : St} {m : Nat} {x v : ByteArray} {vr' : Value} (h : RSt r ds c B w rb L S (m + 1)) (hg : w.grownBy w3 r.vr.ownBlock) (hr : w3.ownsRow B 338 2 vr' (S.rules.length + 1) (bcellsB S.rules ++ [.string x, .string v])) (hat : ∀ k, vr'.ownBlock = some k → r.vr.ownBlock = some k ∨ w.heap.size ≤ k) (hv : v.size ≤ 4000) : RSt { r with vr := vr' } ds (fun k => if vr'.ownBlock = some k then 3 else c k) B (w3.setCell ⟨rb, 3, none⟩ vr') rb L { S with rules := S.rules ++ [(x, v)] } m := by
 have hrb := h.row.lt
 have hnv : ∀ k, k < w.heap.size → c k ≠ 3 → vr'.ownBlock ≠ some k := fun k hk hc e => by
  rcases hat k e with q | q
  ·exact hc (h.c3 k q)
  ·omega
 have hc' : ∀ k, k < w.heap.size → c k ≠ 3 → (if vr'.ownBlock = some k then 3 else c k) = c k := fun k hk hc => if_neg (hnv k hk hc)
 have off3 : ∀ k, k < w.heap.size → c k ≠ 3 → w3.heap[k]? = w.heap[k]? := fun k hk hc => hg.block k hk (fun e => hc (h.c3 k e.symm))
 have off : ∀ k, k < w.heap.size → c k ≠ 3 → c k ≠ 1 → (w3.setCell ⟨rb, 3, none⟩ vr').heap[k]? = w.heap[k]? := fun k hk hc h1 => by
  rw [heap_setCell_other _ _ _ _ (show k ≠ rb from fun e => h1 (by rw [e]; exact h.c1))]
  exact off3 k hk hc
 have hsz : w.heap.size ≤ (w3.setCell ⟨rb, 3, none⟩ vr').heap.size := by simpa using hg.size
 exact {
  row := by
   have h1 : w3.heap[rb]? = _ := (off3 rb hrb (by rw [h.c1]; decide)).trans h.row
   show (w3.setCell ⟨rb, 3, none⟩ vr').heap[rb]? = _
   rw [heap_setCell_same _ _ _ _ _ _ h1]; rfl
  const := h.const.step hsz (fun k hk h0 => ⟨off k hk (by rw [h0]; decide) (by rw [h0]; decide), (hc' k hk (by rw [h0]; decide)).trans h0⟩)
  top := rkeep h.top (fun k hk => off k (rblock h.top k hk).2 (by rw [h.c2 k hk]; decide) (by rw [h.c2 k hk]; decide))
  rules := by
   show World.ownsRow _ _ _ _ _ (S.rules ++ [(x, v)]).length (bcellsB (S.rules ++ [(x, v)]))
   rw [List.length_append, show bcellsB (S.rules ++ [(x, v)]) = bcellsB S.rules ++ [.string x, .string v] by simp [bcellsB]]
   exact rkeep hr (fun k hk => heap_setCell_other _ _ _ _ (show k ≠ rb from fun e => hnv rb hrb (by rw [h.c1]; decide) (by rw [← e]; exact hk)))
  owns := rkeep h.owns (fun k hk => off k (rblock h.owns k hk).2 (by rw [h.c4 k hk]; decide) (by rw [h.c4 k hk]; decide))
  edges := rkeep h.edges (fun k hk => off k (rblock h.edges k hk).2 (by rw [h.c5 k hk]; decide) (by rw [h.c5 k hk]; decide))
  defs := rkeep h.defs (fun k hk => off k (rblock h.defs k hk).2 (by rw [h.c6 k hk]; decide) (by rw [h.c6 k hk]; decide))
  own7 := fun i d e hd he => ⟨rkeep (h.own7 i d e hd he).1 (fun k hk => off k (rblock (h.own7 i d e hd he).1 k hk).2 (by rw [(h.own7 i d e hd he).2 k hk]; decide) (by rw [(h.own7 i d e hd he).2 k hk]; decide)), fun k hk => (hc' k (rblock (h.own7 i d e hd he).1 k hk).2 (by rw [(h.own7 i d e hd he).2 k hk]; decide)).trans ((h.own7 i d e hd he).2 k hk)⟩
  dist := h.dist
  c1 := (hc' rb hrb (by rw [h.c1]; decide)).trans h.c1
  c2 := fun k hk => (hc' k (rblock h.top k hk).2 (by rw [h.c2 k hk]; decide)).trans (h.c2 k hk)
  c3 := fun k hk => if_pos hk
  c4 := fun k hk => (hc' k (rblock h.owns k hk).2 (by rw [h.c4 k hk]; decide)).trans (h.c4 k hk)
  c5 := fun k hk => (hc' k (rblock h.edges k hk).2 (by rw [h.c5 k hk]; decide)).trans (h.c5 k hk)
  c6 := fun k hk => (hc' k (rblock h.defs k hk).2 (by rw [h.c6 k hk]; decide)).trans (h.c6 k hk)
  low := fun k hk => (if_neg (fun e => by have := (rblock hr k e).1; omega)).trans (h.low k hk)
  lne := fun g o n cp e => by
   have h0 := h.lne g o n cp e
   exact ⟨(hc' g h0.2 (by rw [h0.1]; decide)).trans h0.1, Nat.lt_of_lt_of_le h0.2 hsz⟩
  e0 := h.e0
  high := h.high
  ok := { top := h.ok.top, tops := (by show S.top.length + m ≤ 5000; have := h.ok.tops; omega), rules := (fun y hy => by
       rcases List.mem_append.1 (show y ∈ S.rules ++ [(x, v)] from hy) with hy | hy
       ·exact h.ok.rules y hy
       ·obtain rfl := List.mem_singleton.1 hy
        exact hv), rulen := (by show (S.rules ++ [(x, v)]).length + m ≤ 5000; rw [List.length_append]; have := h.ok.rulen; show _ + 1 + m ≤ _; omega), edges := h.ok.edges, edge := h.ok.edge, defs := (by show S.defs.length + 4000 * m ≤ _; have := h.ok.defs; omega), lines := h.ok.lines, count := h.ok.count }
  len := h.len }
theorem RSt.setTop {r : RV} {ds : List REdgeV} {c : Nat → Nat} {B : Nat} {w w3 : World} {rb : Nat} {L : List Line} {S : St} {m : Nat} {x v : ByteArray} {vr' : Value} (h : RSt r ds c B w rb L S (m + 1)) (hg : w.grownBy w3 r.vt.ownBlock) (hr : w3.ownsRow B 338 2 vr' (setB S.top x v).length (bcellsB (setB S.top x v))) (hat : ∀ k, vr'.ownBlock = some k → r.vt.ownBlock = some k ∨ w.heap.size ≤ k) (hv : v.size ≤ 10000) (hx : 0 < x.size) : RSt { r with vt := vr' } ds (fun k => if vr'.ownBlock = some k then 2 else c k) B (w3.setCell ⟨rb, 2, none⟩ vr') rb L { S with top := setB S.top x v } m := by
 have hrb := h.row.lt
 have hnv : ∀ k, k < w.heap.size → c k ≠ 2 → vr'.ownBlock ≠ some k := fun k hk hc e => by
  rcases hat k e with q | q
  ·exact hc (h.c2 k q)
  ·omega
 have hc' : ∀ k, k < w.heap.size → c k ≠ 2 → (if vr'.ownBlock = some k then 2 else c k) = c k := fun k hk hc => if_neg (hnv k hk hc)
 have off3 : ∀ k, k < w.heap.size → c k ≠ 2 → w3.heap[k]? = w.heap[k]? := fun k hk hc => hg.block k hk (fun e => hc (h.c2 k e.symm))
 have off : ∀ k, k < w.heap.size → c k ≠ 2 → c k ≠ 1 → (w3.setCell ⟨rb, 2, none⟩ vr').heap[k]? = w.heap[k]? := fun k hk hc h1 => by
  rw [heap_setCell_other _ _ _ _ (show k ≠ rb from fun e => h1 (by rw [e]; exact h.c1))]
  exact off3 k hk hc
 have hsz : w.heap.size ≤ (w3.setCell ⟨rb, 2, none⟩ vr').heap.size := by simpa using hg.size
 exact {
  row := by
   have h1 : w3.heap[rb]? = _ := (off3 rb hrb (by rw [h.c1]; decide)).trans h.row
   show (w3.setCell ⟨rb, 2, none⟩ vr').heap[rb]? = _
   rw [heap_setCell_same _ _ _ _ _ _ h1]; rfl
  const := h.const.step hsz (fun k hk h0 => ⟨off k hk (by rw [h0]; decide) (by rw [h0]; decide), (hc' k hk (by rw [h0]; decide)).trans h0⟩)
  top := rkeep hr (fun k hk => heap_setCell_other _ _ _ _ (show k ≠ rb from fun e => hnv rb hrb (by rw [h.c1]; decide) (by rw [← e]; exact hk)))
  rules := rkeep h.rules (fun k hk => off k (rblock h.rules k hk).2 (by rw [h.c3 k hk]; decide) (by rw [h.c3 k hk]; decide))
  owns := rkeep h.owns (fun k hk => off k (rblock h.owns k hk).2 (by rw [h.c4 k hk]; decide) (by rw [h.c4 k hk]; decide))
  edges := rkeep h.edges (fun k hk => off k (rblock h.edges k hk).2 (by rw [h.c5 k hk]; decide) (by rw [h.c5 k hk]; decide))
  defs := rkeep h.defs (fun k hk => off k (rblock h.defs k hk).2 (by rw [h.c6 k hk]; decide) (by rw [h.c6 k hk]; decide))
  own7 := fun i d e hd he => ⟨rkeep (h.own7 i d e hd he).1 (fun k hk => off k (rblock (h.own7 i d e hd he).1 k hk).2 (by rw [(h.own7 i d e hd he).2 k hk]; decide) (by rw [(h.own7 i d e hd he).2 k hk]; decide)), fun k hk => (hc' k (rblock (h.own7 i d e hd he).1 k hk).2 (by rw [(h.own7 i d e hd he).2 k hk]; decide)).trans ((h.own7 i d e hd he).2 k hk)⟩
  dist := h.dist
  c1 := (hc' rb hrb (by rw [h.c1]; decide)).trans h.c1
  c2 := fun k hk => if_pos hk
  c3 := fun k hk => (hc' k (rblock h.rules k hk).2 (by rw [h.c3 k hk]; decide)).trans (h.c3 k hk)
  c4 := fun k hk => (hc' k (rblock h.owns k hk).2 (by rw [h.c4 k hk]; decide)).trans (h.c4 k hk)
  c5 := fun k hk => (hc' k (rblock h.edges k hk).2 (by rw [h.c5 k hk]; decide)).trans (h.c5 k hk)
  c6 := fun k hk => (hc' k (rblock h.defs k hk).2 (by rw [h.c6 k hk]; decide)).trans (h.c6 k hk)
  low := fun k hk => (if_neg (fun e => by have := (rblock hr k e).1; omega)).trans (h.low k hk)
  lne := fun g o n cp e => by
   have h0 := h.lne g o n cp e
   exact ⟨(hc' g h0.2 (by rw [h0.1]; decide)).trans h0.1, Nat.lt_of_lt_of_le h0.2 hsz⟩
  e0 := h.e0
  high := h.high
  ok := { top := setB_ok h.ok.top hv hx, tops := (by show (setB S.top x v).length + m ≤ 5000; have := h.ok.tops; have := setB_length x v S.top; omega), rules := h.ok.rules, rulen := (by show S.rules.length + m ≤ 5000; have := h.ok.rulen; omega), edges := h.ok.edges, edge := h.ok.edge, defs := (by show S.defs.length + 4000 * m ≤ _; have := h.ok.defs; omega), lines := h.ok.lines, count := h.ok.count }
  len := h.len }
theorem RSt.addDefs {r : RV} {ds : List REdgeV} {c : Nat → Nat} {B : Nat} {w w3 : World} {rb : Nat} {L : List Line} {S : St} {m : Nat} {l : List ByteArray} {vr' : Value} (h : RSt r ds c B w rb L S (m + 1)) (hg : w.grownBy w3 r.vf.ownBlock) (hr : w3.ownsRow B 9 1 vr' (S.defs.length + l.length) (S.defs.map Value.string ++ l.map Value.string)) (hat : ∀ k, vr'.ownBlock = some k → r.vf.ownBlock = some k ∨ w.heap.size ≤ k) (hv : l.length ≤ 4000) : RSt { r with vf := vr' } ds (fun k => if vr'.ownBlock = some k then 6 else c k) B (w3.setCell ⟨rb, 6, none⟩ vr') rb L { S with defs := S.defs ++ l } m := by
 have hrb := h.row.lt
 have hnv : ∀ k, k < w.heap.size → c k ≠ 6 → vr'.ownBlock ≠ some k := fun k hk hc e => by
  rcases hat k e with q | q
  ·exact hc (h.c6 k q)
  ·omega
 have hc' : ∀ k, k < w.heap.size → c k ≠ 6 → (if vr'.ownBlock = some k then 6 else c k) = c k := fun k hk hc => if_neg (hnv k hk hc)
 have off3 : ∀ k, k < w.heap.size → c k ≠ 6 → w3.heap[k]? = w.heap[k]? := fun k hk hc => hg.block k hk (fun e => hc (h.c6 k e.symm))
 have off : ∀ k, k < w.heap.size → c k ≠ 6 → c k ≠ 1 → (w3.setCell ⟨rb, 6, none⟩ vr').heap[k]? = w.heap[k]? := fun k hk hc h1 => by
  rw [heap_setCell_other _ _ _ _ (show k ≠ rb from fun e => h1 (by rw [e]; exact h.c1))]
  exact off3 k hk hc
 have hsz : w.heap.size ≤ (w3.setCell ⟨rb, 6, none⟩ vr').heap.size := by simpa using hg.size
 exact {
  row := by
   have h1 : w3.heap[rb]? = _ := (off3 rb hrb (by rw [h.c1]; decide)).trans h.row
   show (w3.setCell ⟨rb, 6, none⟩ vr').heap[rb]? = _
   rw [heap_setCell_same _ _ _ _ _ _ h1]; rfl
  const := h.const.step hsz (fun k hk h0 => ⟨off k hk (by rw [h0]; decide) (by rw [h0]; decide), (hc' k hk (by rw [h0]; decide)).trans h0⟩)
  top := rkeep h.top (fun k hk => off k (rblock h.top k hk).2 (by rw [h.c2 k hk]; decide) (by rw [h.c2 k hk]; decide))
  rules := rkeep h.rules (fun k hk => off k (rblock h.rules k hk).2 (by rw [h.c3 k hk]; decide) (by rw [h.c3 k hk]; decide))
  owns := rkeep h.owns (fun k hk => off k (rblock h.owns k hk).2 (by rw [h.c4 k hk]; decide) (by rw [h.c4 k hk]; decide))
  edges := rkeep h.edges (fun k hk => off k (rblock h.edges k hk).2 (by rw [h.c5 k hk]; decide) (by rw [h.c5 k hk]; decide))
  defs := by
   show World.ownsRow _ _ _ _ _ (S.defs ++ l).length ((S.defs ++ l).map Value.string)
   rw [List.length_append, List.map_append]
   exact rkeep hr (fun k hk => heap_setCell_other _ _ _ _ (show k ≠ rb from fun e => hnv rb hrb (by rw [h.c1]; decide) (by rw [← e]; exact hk)))
  own7 := fun i d e hd he => ⟨rkeep (h.own7 i d e hd he).1 (fun k hk => off k (rblock (h.own7 i d e hd he).1 k hk).2 (by rw [(h.own7 i d e hd he).2 k hk]; decide) (by rw [(h.own7 i d e hd he).2 k hk]; decide)), fun k hk => (hc' k (rblock (h.own7 i d e hd he).1 k hk).2 (by rw [(h.own7 i d e hd he).2 k hk]; decide)).trans ((h.own7 i d e hd he).2 k hk)⟩
  dist := h.dist
  c1 := (hc' rb hrb (by rw [h.c1]; decide)).trans h.c1
  c2 := fun k hk => (hc' k (rblock h.top k hk).2 (by rw [h.c2 k hk]; decide)).trans (h.c2 k hk)
  c3 := fun k hk => (hc' k (rblock h.rules k hk).2 (by rw [h.c3 k hk]; decide)).trans (h.c3 k hk)
  c4 := fun k hk => (hc' k (rblock h.owns k hk).2 (by rw [h.c4 k hk]; decide)).trans (h.c4 k hk)
  c5 := fun k hk => (hc' k (rblock h.edges k hk).2 (by rw [h.c5 k hk]; decide)).trans (h.c5 k hk)
  c6 := fun k hk => if_pos hk
  low := fun k hk => (if_neg (fun e => by have := (rblock hr k e).1; omega)).trans (h.low k hk)
  lne := fun g o n cp e => by
   have h0 := h.lne g o n cp e
   exact ⟨(hc' g h0.2 (by rw [h0.1]; decide)).trans h0.1, Nat.lt_of_lt_of_le h0.2 hsz⟩
  e0 := h.e0
  high := h.high
  ok := { top := h.ok.top, tops := (by show S.top.length + m ≤ 5000; have := h.ok.tops; omega), rules := h.ok.rules, rulen := (by show S.rules.length + m ≤ 5000; have := h.ok.rulen; omega), edges := h.ok.edges, edge := h.ok.edge, defs := (by show (S.defs ++ l).length + 4000 * m ≤ _; rw [List.length_append]; have := h.ok.defs; omega), lines := h.ok.lines, count := h.ok.count }
  len := h.len }
end Go.Proofs.YthhbpebihgjpjaaGreatDoor
