import Derived.Test.YthhbpebihgjpjaaGreatDoorP29
import Derived.Test.YthhbpebihgjpjaaGreatDoorP31
import Derived.Test.YthhbpebihgjpjaaGreatDoorP17
import Derived.Test.YthhbpebihgjpjaaGreatDoorP30
import Derived.Test.YthhbpebihgjpjaaGreatDoorP18
namespace Go.Proofs.YthhbpebihgjpjaaGreatDoor
open Go.RowKit
set_option maxRecDepth 1000000

theorem rlines_of_row {w : World} {base : Nat} {v : Value} {l : List Line} (h : w.ownsRow base 417 2 v l.length (rlcells l)) : RLinesAt w v l := by
 obtain ⟨ao, cap, rfl, hc, hg⟩ := row_form h
 refine ⟨ao, cap, rfl, hc, ?_⟩
 by_cases h0 : l = []
 ·exact Or.inl h0
 ·obtain ⟨g, rfl⟩ := hg (List.length_pos_iff.2 h0)
  refine Or.inr ⟨g, 0, rfl, fun k x hx => ?_⟩
  have hc := rlcells_at hx
  rw [Nat.zero_add]
  exact ⟨(row_cell h _ _ hc.1).1, (row_cell h _ _ hc.2).1⟩
theorem RLinesAt.keep {w w' : World} {v : Value} {l : List Line} (h : RLinesAt w v l) (hb : ∀ k, k < w.heap.size → (∃ o n c, v = .slice (some ⟨k, o, none⟩) n c) → w'.heap[k]? = w.heap[k]?) : RLinesAt w' v l := by
 obtain ⟨ao, cap, rfl, hc, h | ⟨g, o, rfl, h⟩⟩ := h
 ·exact ⟨ao, cap, rfl, hc, Or.inl h⟩
 ·refine ⟨_, cap, rfl, hc, Or.inr ⟨g, o, rfl, fun k x hx => ?_⟩⟩
  obtain ⟨h1, h2⟩ := h k x hx
  have hk := hb g (block_lt_of_cell h1) ⟨_, _, _, rfl⟩
  exact ⟨(World.cell?_of_block (w := w) (a := ⟨g, o + k * 2, none⟩) hk).trans h1, (World.cell?_of_block (w := w) (a := ⟨g, o + k * 2 + 1, none⟩) hk).trans h2⟩
def rvStart (v : Value) : RV := { vl := v, at' := 0, vt := .slice none 0 0, vr := .slice none 0 0, vo := .slice none 0 0, ve := .slice none 0 0, vf := .slice none 0 0, e := 0, line := 0 }
theorem rstate_start {w w4 : World} {v : Value} {L : List Line} (hl : w4.ownsRow (w.heap.size + 1) 417 2 v L.length (rlcells L)) (hb : Below (w.heap.size + 1) (w.alloc (.cells #[.slice none 0 0, .int .i64 0, .slice none 0 0, .slice none 0 0, .slice none 0 0, .slice none 0 0, .slice none 0 0, .int .i64 0, .int .i64 0] 330)) w4) (hls : ∀ x ∈ L, x.2.size ≤ 4000) (hlc : L.length ≤ 5000) :
  RSt (rvStart v) [] (fun k => if k = w.heap.size then 1 else 0) w.heap.size (w4.setCell ⟨w.heap.size, 0, none⟩ v) w.heap.size L St.none 5000 := by
 have hr : w4.heap[w.heap.size]? = some (.cells #[.slice none 0 0, .int .i64 0, .slice none 0 0, .slice none 0 0, .slice none 0 0, .slice none 0 0, .slice none 0 0, .int .i64 0, .int .i64 0] 330 (0, 0)) := (hb.block _ (Nat.lt_succ_self _)).trans (heapA_new _ _ _ rfl)
 have h5 : ∀ k, k ≠ w.heap.size → (w4.setCell ⟨w.heap.size, 0, none⟩ v).heap[k]? = w4.heap[k]? := fun k hk => heap_setCell_other _ _ _ _ hk
 have hs5 : (w4.setCell ⟨w.heap.size, 0, none⟩ v).heap.size = w4.heap.size := by simp
 have hvb : ∀ k, v.ownBlock = some k → w.heap.size + 1 ≤ k ∧ k < w4.heap.size := fun k hk => rblock hl k hk
 exact {
  row := by
   show (w4.setCell ⟨w.heap.size, 0, none⟩ v).heap[w.heap.size]? = _
   rw [heap_setCell_same _ _ _ _ _ _ hr]; rfl
  const := fun w'' hs hk => by
   refine ⟨(rlines_of_row hl).keep (fun k h1 h2 => ?_), rfl, fun k d e hd => by simp at hd⟩
   obtain ⟨o, n, c, e⟩ := h2
   have h3 := hvb k (by rw [e]; rfl)
   exact (hk k (by omega) (if_neg (by omega))).trans (h5 k (by omega))
  top := World.ownsRow_nil _ _ _ _
  rules := World.ownsRow_nil _ _ _ _
  owns := World.ownsRow_nil _ _ _ _
  edges := World.ownsRow_nil _ _ _ _
  defs := World.ownsRow_nil _ _ _ _
  own7 := fun i d e hd => by simp at hd
  dist := fun i j d d' k hd => by simp at hd
  c1 := if_pos rfl
  c2 := fun k hk => by cases hk
  c3 := fun k hk => by cases hk
  c4 := fun k hk => by cases hk
  c5 := fun k hk => by cases hk
  c6 := fun k hk => by cases hk
  low := fun k hk => if_neg (by omega)
  lne := fun g o n cp e => by
   have h3 := hvb g (by rw [show v = _ from e]; rfl)
   exact ⟨if_neg (by omega), by rw [hs5]; exact h3.2⟩
  e0 := rfl
  high := fun d hd => by cases hd
  ok := { top := (fun x hx => by cases hx), tops := Nat.le_refl _, rules := (fun x hx => by cases hx), rulen := Nat.le_refl _, edges := Nat.zero_le _, edge := (fun x hx => by cases hx), defs := (by show 0 + 4000 * 5000 ≤ 20000000; omega), lines := (fun x hx => by cases hx), count := Nat.zero_le _ }
  len := ⟨hlc, hls⟩ }
end Go.Proofs.YthhbpebihgjpjaaGreatDoor

namespace Go.Proofs.YthhbpebihgjpjaaGreatDoor
open Go.RowKit
set_option maxRecDepth 1000000

def Ruled (S : St) : Prop := ∀ e ∈ S.edges, (bindOf S.rules e.rule).isSome = true
theorem bindOf_more {l r : Binds} {x : ByteArray} (h : (bindOf l x).isSome = true) : (bindOf (l ++ r) x).isSome = true := by
 unfold bindOf at h ⊢
 rw [Option.isSome_map] at h ⊢
 rw [List.find?_append, Option.isSome_or, h, Bool.true_or]
theorem ruleS_ruled {S : St} {no : Nat} {t : ByteArray} {rest : List Line} {S' : St} {rest' : List Line} (h : ruleS S no t rest = .ok (S', rest')) (hr : Ruled S) : Ruled S' := by
 unfold ruleS at h
 split at h
 ·cases h
 ·split at h
  ·cases h
  ·split at h
   ·cases h
   ·split at h
    ·cases h
    ·split at h
     ·cases h
     ·split at h
      ·cases h
      ·injection h with h
       obtain ⟨rfl, _⟩ := Prod.mk.inj h
       exact fun e he => bindOf_more (hr e he)
theorem buildS_ruled {S : St} {no : Nat} {t : ByteArray} {rest : List Line} {S' : St} {rest' : List Line} (h : buildS S no t rest = .ok (S', rest')) (hr : Ruled S) : Ruled S' := by
 unfold buildS at h
 split at h
 ·cases h
 ·split at h
  ·cases h
  ·split at h
   ·cases h
   ·split at h
    ·cases h
    ·rename_i hb
     split at h
     ·cases h
     ·injection h with h
      obtain ⟨rfl, _⟩ := Prod.mk.inj h
      intro e he
      rcases List.mem_append.1 he with he | he
      ·exact hr e he
      ·obtain rfl := List.mem_singleton.1 he
       unfold edgeBad at hb
       split at hb
       ·cases hb
       ·split at hb
        ·cases hb
        ·split at hb
         ·cases hb
         ·split at hb
          ·cases hb
          ·rename_i q
           show (bindOf S.rules (headB _)).isSome = true
           exact (Bool.eq_false_or_eq_true _).resolve_right q
theorem stmtS_ruled {S : St} {no : Nat} {t : ByteArray} {rest : List Line} {S' : St} {rest' : List Line} (h : stmtS S no t rest = .ok (S', rest')) (hr : Ruled S) : Ruled S' := by
 unfold stmtS at h
 split at h
 ·cases h
 ·split at h
  ·exact ruleS_ruled h hr
  ·split at h
   ·exact buildS_ruled h hr
   ·split at h
    ·unfold defaultS at h
     split at h
     ·cases h
     ·split at h
      ·cases h
      ·injection h with h
       obtain ⟨rfl, _⟩ := Prod.mk.inj h
       exact hr
    ·unfold varS at h
     split at h
     ·cases h
     ·split at h
      ·cases h
      ·injection h with h
       obtain ⟨rfl, _⟩ := Prod.mk.inj h
       exact hr
def recellsC : List REdgeV → List ByteArray → List Value
 | d :: ds, c :: cs => [d.vo, d.vi, d.vm, d.vr, .string d.rule, .string c] ++ recellsC ds cs
 | _, _ => []
theorem recellsC_none : ∀ ds : List REdgeV, recells ds = recellsC ds (List.replicate ds.length ⟨#[]⟩)
 | [] => rfl
 | d :: ds => by
  show d.cells ++ recells ds = _
  rw [recellsC_none ds]
  rfl
theorem recellsC_at : ∀ (ds : List REdgeV) (cs : List ByteArray) (j : Nat) (d : REdgeV) (c : ByteArray) (i : Nat), ds[j]? = some d → cs[j]? = some c → i < 6 → (recellsC ds cs)[j * 6 + i]? = [d.vo, d.vi, d.vm, d.vr, .string d.rule, .string c][i]?
 | [], _, j, d, c, i, h, _, _ => by simp at h
 | _ :: _, [], j, d, c, i, _, h, _ => by simp at h
 | x :: ds, y :: cs, 0, d, c, i, h, h2, hi => by
  obtain rfl := Option.some.inj h
  obtain rfl := Option.some.inj h2
  show ([x.vo, x.vi, x.vm, x.vr, .string x.rule, .string y] ++ recellsC ds cs)[0 * 6 + i]? = _
  rw [List.getElem?_append_left (by show 0 * 6 + i < 6; omega), Nat.zero_mul, Nat.zero_add]
 | x :: ds, y :: cs, j + 1, d, c, i, h, h2, hi => by
  have h3 : ds[j]? = some d := by simpa using h
  have h4 : cs[j]? = some c := by simpa using h2
  show ([x.vo, x.vi, x.vm, x.vr, .string x.rule, .string y] ++ recellsC ds cs)[(j + 1) * 6 + i]? = _
  rw [List.getElem?_append_right (by show 6 ≤ (j + 1) * 6 + i; omega), show (j + 1) * 6 + i - [x.vo, x.vi, x.vm, x.vr, .string x.rule, .string y].length = j * 6 + i by show (j + 1) * 6 + i - 6 = _; omega]
  exact recellsC_at ds cs j d c i h3 h4 hi
theorem recellsC_set : ∀ (ds : List REdgeV) (cs : List ByteArray) (j : Nat) (c : ByteArray), j < ds.length → j < cs.length → (recellsC ds cs).set (j * 6 + 5) (.string c) = recellsC ds (cs.set j c)
 | [], _, j, c, h, _ => by simp at h
 | _ :: _, [], j, c, _, h => by simp at h
 | x :: ds, y :: cs, 0, c, _, _ => rfl
 | x :: ds, y :: cs, j + 1, c, h, h2 => by
  show (x.vo :: x.vi :: x.vm :: x.vr :: .string x.rule :: .string y :: recellsC ds cs).set ((j + 1) * 6 + 5) (.string c) = x.vo :: x.vi :: x.vm :: x.vr :: .string x.rule :: .string y :: recellsC ds (cs.set j c)
  rw [show (j + 1) * 6 + 5 = j * 6 + 5 + 1 + 1 + 1 + 1 + 1 + 1 by omega, ← recellsC_set ds cs j c (by simpa using h) (by simpa using h2)]
  rfl
def RManAt (W0 : Nat) (S : St) (cs : List ByteArray) (rb : Nat) (w : World) : Prop :=
 ∃ ve vf ds, w.cell? ⟨rb, 5, none⟩ = some ve ∧ w.cell? ⟨rb, 6, none⟩ = some vf ∧ W0 ≤ rb ∧ w.ownsRow W0 233 6 ve S.edges.length (recellsC ds cs) ∧ cs.length = S.edges.length ∧ RListsAt w ds S.edges ∧ (∀ d ∈ ds, d.high W0) ∧ w.ownsRow W0 9 1 vf S.defs.length (S.defs.map Value.string)
structure CmdSt (r : RV) (ds : List REdgeV) (c : Nat → Nat) (B : Nat) (w1 : World) (rb : Nat) (S : St) (i : Nat) (cs : List ByteArray) (wr : World) : Prop where
 sz : w1.heap.size ≤ wr.heap.size
 bl : Below B w1 wr
 kept : ∀ k, k < w1.heap.size → c k ≠ 5 → (∀ (j : Nat) d, ds[j]? = some d → d.vb.ownBlock = some k → i ≤ j) → wr.heap[k]? = w1.heap[k]?
 edges : wr.ownsRow B 233 6 r.ve S.edges.length (recellsC ds cs)
 len : cs.length = S.edges.length
theorem CmdSt.rest {r : RV} {ds : List REdgeV} {c : Nat → Nat} {B : Nat} {w1 : World} {rb : Nat} {L : List Line} {S : St} {m i : Nat} {cs : List ByteArray} {wr : World} (h : CmdSt r ds c B w1 rb S i cs wr) (hs : RSt r ds c B w1 rb L S m) : RRow r wr rb ∧ BindsAt wr r.vt S.top ∧ BindsAt wr r.vr S.rules ∧ wr.ownsRow B 327 1 r.vo S.edges.length (ds.map (·.vb)) ∧ RListsAt wr ds S.edges ∧ wr.ownsRow B 9 1 r.vf S.defs.length (S.defs.map Value.string) ∧ ∀ (j : Nat) d e, i ≤ j → ds[j]? = some d → S.edges[j]? = some e → wr.ownsRow B 338 2 d.vb e.own.length (bcellsB e.own) := by
 have hn7 : ∀ k, c k ≠ 7 → ∀ (j : Nat) d, ds[j]? = some d → d.vb.ownBlock = some k → i ≤ j := fun k hk j d hd hb => by
  have hl := hs.const.now.2.1
  have hj : j < S.edges.length := by rw [← hl]; exact (List.getElem?_eq_some_iff.1 hd).1
  exact absurd ((hs.own7 j d _ hd (List.getElem?_eq_getElem hj)).2 k hb) hk
 have hk : ∀ k, k < w1.heap.size → c k ≠ 5 → c k ≠ 7 → wr.heap[k]? = w1.heap[k]? := fun k h1 h2 h3 => h.kept k h1 h2 (hn7 k h3)
 refine ⟨(hk rb hs.row.lt (by rw [hs.c1]; decide) (by rw [hs.c1]; decide)).trans hs.row, binds_of_row (rkeep hs.top (fun k hq => hk k (rblock hs.top k hq).2 (by rw [hs.c2 k hq]; decide) (by rw [hs.c2 k hq]; decide))), binds_of_row (rkeep hs.rules (fun k hq => hk k (rblock hs.rules k hq).2 (by rw [hs.c3 k hq]; decide) (by rw [hs.c3 k hq]; decide))), rkeep hs.owns (fun k hq => hk k (rblock hs.owns k hq).2 (by rw [hs.c4 k hq]; decide) (by rw [hs.c4 k hq]; decide)), (hs.const wr h.sz (fun k h1 h2 => hk k h1 (by rw [h2]; decide) (by rw [h2]; decide))).2, rkeep hs.defs (fun k hq => hk k (rblock hs.defs k hq).2 (by rw [hs.c6 k hq]; decide) (by rw [hs.c6 k hq]; decide)), fun j d e hij hd he => ?_⟩
 have h7 := hs.own7 j d e hd he
 refine rkeep h7.1 (fun k hq => h.kept k (rblock h7.1 k hq).2 (by rw [h7.2 k hq]; decide) (fun j' d' hd' hb' => ?_))
 rw [hs.dist j' j d' d k hd' hd hb' hq]
 exact hij
theorem CmdSt.half {r : RV} {ds : List REdgeV} {c : Nat → Nat} {B : Nat} {w1 : World} {rb : Nat} {L : List Line} {S : St} {m i : Nat} {cs : List ByteArray} {wr w2 w3 : World} {d : REdgeV} {v1 : Value} (h : CmdSt r ds c B w1 rb S i cs wr) (hs : RSt r ds c B w1 rb L S m) (hd : ds[i]? = some d) (hg2 : wr.grownBy w2 d.vb.ownBlock) (h1 : ∀ k, v1.ownBlock = some k → d.vb.ownBlock = some k ∨ wr.heap.size ≤ k) (hg3 : w2.grownBy w3 v1.ownBlock) : CmdSt r ds c B w1 rb S (i + 1) cs w3 := by
 have hl := hs.const.now.2.1
 have hi : i < ds.length := (List.getElem?_eq_some_iff.1 hd).1
 have d7 : ∀ k, d.vb.ownBlock = some k → c k = 7 ∧ B ≤ k := fun k hk => by
  have h7 := hs.own7 i d _ hd (List.getElem?_eq_getElem (by omega))
  exact ⟨h7.2 k hk, (rblock h7.1 k hk).1⟩
 have s1 := h.sz
 have s2 := hg2.size
 have s3 := hg3.size
 have off : ∀ k, k < wr.heap.size → d.vb.ownBlock ≠ some k → w3.heap[k]? = wr.heap[k]? := fun k hk hn => (hg3.block k (by omega) (fun e => by
  rcases h1 k e.symm with q | q
  ·exact hn q
  ·omega)).trans (hg2.block k hk (fun e => hn e.symm))
 have hbw := hs.bw
 exact {
  sz := by omega
  bl := by
   have q1 : Below B w1 w2 := h.bl.grown hg2 (by omega) (fun k hk => (d7 k hk).2)
   exact q1.grown hg3 (by omega) (fun k hk => by
    rcases h1 k hk with q | q
    ·exact (d7 k q).2
    ·omega)
  kept := fun k hk h5 hj => (off k (by omega) (fun e => by have := hj i d hd e; omega)).trans (h.kept k hk h5 (fun j d' hd' hb' => by have := hj j d' hd' hb'; omega))
  edges := rkeep h.edges (fun k hk => off k (rblock h.edges k hk).2 (fun e => by have h2 := (d7 k e).1; have h3 := hs.c5 k hk; omega))
  len := h.len }
theorem CmdSt.below {r : RV} {ds : List REdgeV} {c : Nat → Nat} {B : Nat} {w1 : World} {rb : Nat} {S : St} {i : Nat} {cs : List ByteArray} {wr w' : World} (h : CmdSt r ds c B w1 rb S i cs wr) (hB : B ≤ w1.heap.size) (hb : Below wr.heap.size wr w') : CmdSt r ds c B w1 rb S i cs w' where
 sz := Nat.le_trans h.sz hb.size
 bl := h.bl.trans (hb.mono (Nat.le_trans hB h.sz))
 kept := fun k hk h5 hj => (hb.block k (Nat.lt_of_lt_of_le hk h.sz)).trans (h.kept k hk h5 hj)
 edges := rkeep h.edges (fun k hk => hb.block k (rblock h.edges k hk).2)
 len := h.len
theorem CmdSt.cmd {r : RV} {ds : List REdgeV} {c : Nat → Nat} {B : Nat} {w1 : World} {rb : Nat} {L : List Line} {S : St} {m i i' : Nat} {cs : List ByteArray} {w4 : World} {g cap : Nat} {y : ByteArray} (h : CmdSt r ds c B w1 rb S i' cs w4) (hs : RSt r ds c B w1 rb L S m) (hi : i < ds.length) (hve : r.ve = .slice (some ⟨g, 0, none⟩) S.edges.length cap) : CmdSt r ds c B w1 rb S i' (cs.set i y) (w4.setCell ⟨g, i * 6 + 5, none⟩ (.string y)) := by
 have hl := hs.const.now.2.1
 have hcg : c g = 5 := hs.c5 g (by rw [hve]; rfl)
 have he := h.edges
 have hB : B ≤ g := (rblock hs.edges g (by rw [hve]; rfl)).1
 have s1 := h.sz
 exact {
  sz := by show _ ≤ (w4.setCell _ _).heap.size; simp; omega
  bl := h.bl.setCell (p := ⟨g, i * 6 + 5, none⟩) hB _
  kept := fun k hk h5 hj => by
   rw [heap_setCell_other _ _ _ _ (show k ≠ g from fun e => h5 (by rw [e]; exact hcg))]
   exact h.kept k hk h5 hj
  edges := by
   rw [hve] at he ⊢
   rw [← recellsC_set ds cs i y hi (by rw [h.len, ← hl]; exact hi)]
   exact row_set he _ _
  len := by rw [List.length_set]; exact h.len }
theorem setB_le {N : Nat} {x v : ByteArray} (hv : v.size ≤ N) : ∀ {l : Binds}, (∀ y ∈ l, y.2.size ≤ N) → ∀ y ∈ setB l x v, y.2.size ≤ N
 | [], _, y, hy => by
  obtain rfl := List.mem_singleton.1 (show y ∈ [(x, v)] from hy)
  exact hv
 | z :: l, h, y, hy => by
  rw [setB] at hy
  split at hy
  ·rcases List.mem_cons.1 hy with rfl | hy
   ·exact hv
   ·exact h y (List.mem_cons_of_mem _ hy)
  ·rcases List.mem_cons.1 hy with rfl | hy
   ·exact h _ List.mem_cons_self
   ·exact setB_le hv (fun q hq => h q (List.mem_cons_of_mem _ hq)) y hy
theorem env_edge {S : St} {m : Nat} {e : EdgeS} (h : SOk S m []) (he : e ∈ S.edges) (x : ByteArray) : (envOf (ownAll e) S.top x).size ≤ 1048576 := by
 have hk := h.edge e he
 have h1 := joinP_size 32 e.ins hk.2.2.2.2.2.1
 have h2 := joinP_size 32 e.outs hk.2.2.2.2.1
 rw [envOf_two]
 refine envL_le (fun l hl => ?_) x
 rcases List.mem_cons.1 hl with rfl | hl
 ·refine setB_le (by omega) (setB_le (by omega) (fun y hy => ?_))
  have := (hk.1 y hy).1
  omega
 ·obtain rfl := List.mem_singleton.1 hl
  intro y hy
  have := (h.top y hy).1
  omega
theorem commands_step {S : St} {l : List EdgeS} {i : Nat} {e : EdgeS} (h : l[i]? = some e) : ∀ {done : List ByteArray}, commandsS S (l.take i) = some done → commandsS S (l.take (i + 1)) = (commandS S e).map (fun y => done ++ [y]) := by
 induction l generalizing i with
 | nil => simp at h
 | cons x l ih =>
  cases i with
  | zero =>
   intro done hd
   obtain rfl := Option.some.inj h
   have : done = [] := by simpa [commandsS] using hd.symm
   subst this
   show (match commandS S x with | none => none | some c => (commandsS S []).map (c :: ·)) = _
   cases commandS S x with
   | none => rfl
   | some c => rfl
  | succ i =>
   intro done hd
   have h2 : l[i]? = some e := by simpa using h
   have hd2 : (match commandS S x with | none => none | some c => (commandsS S (l.take i)).map (c :: ·)) = some done := hd
   show (match commandS S x with | none => none | some c => (commandsS S (l.take (i + 1))).map (c :: ·)) = _
   cases hx : commandS S x with
   | none => rw [hx] at hd2; cases hd2
   | some c =>
    rw [hx] at hd2
    simp only at hd2 ⊢
    cases hq : commandsS S (l.take i) with
    | none => rw [hq] at hd2; cases hd2
    | some ys =>
     rw [hq] at hd2
     have : done = c :: ys := by simpa using hd2.symm
     subst this
     rw [ih h2 hq]
     cases commandS S e <;> rfl
theorem commands_fail {S : St} {l : List EdgeS} {i : Nat} (h : commandsS S (l.take i) = none) : commandsS S l = none := by
 induction l generalizing i with
 | nil => simp [commandsS] at h
 | cons x l ih =>
  cases i with
  | zero => simp [commandsS] at h
  | succ i =>
   have h2 : (match commandS S x with | none => none | some c => (commandsS S (l.take i)).map (c :: ·)) = none := h
   show (match commandS S x with | none => none | some c => (commandsS S l).map (c :: ·)) = none
   cases hx : commandS S x with
   | none => rfl
   | some c =>
    rw [hx] at h2
    simp only at h2 ⊢
    cases hq : commandsS S (l.take i) with
    | none => rw [ih hq]; rfl
    | some ys => rw [hq] at h2; cases h2
theorem take_set : ∀ (cs : List ByteArray) (i : Nat) (y : ByteArray), i < cs.length → (cs.set i y).take (i + 1) = cs.take i ++ [y]
 | [], _, _, h => by simp at h
 | _ :: _, 0, _, _ => rfl
 | x :: cs, i + 1, y, h => by
  show x :: (cs.set i y).take (i + 1) = x :: (cs.take i ++ [y])
  rw [take_set cs i y (by simpa using h)]
def parseM (L : List Line) (rb : Nat) (w : World) : Nat := match w.cell? ⟨rb, 7, none⟩ with
 | some (.int _ k) => if k = 0 then 1 + (said (L.drop (atOf w rb))).length * (L.length + 1) + (L.length - atOf w rb) else 0
 | _ => 0
theorem RRow.parseM {r : RV} {w : World} {rb : Nat} {L : List Line} (h : RRow r w rb) : parseM L rb w = if r.e = 0 then 1 + (said (L.drop r.at')).length * (L.length + 1) + (L.length - r.at') else 0 := by
 have h1 : w.cell? ⟨rb, 7, none⟩ = some (.int .i64 r.e) := by rw [cell_of_row _ _ _ _ _ _ h]; rfl
 unfold Go.Proofs.YthhbpebihgjpjaaGreatDoor.parseM
 rw [h1, h.atOf]
end Go.Proofs.YthhbpebihgjpjaaGreatDoor
