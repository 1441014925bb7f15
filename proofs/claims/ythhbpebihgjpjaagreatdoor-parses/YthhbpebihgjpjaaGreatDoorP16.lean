import Derived.Test.YthhbpebihgjpjaaGreatDoorP15
namespace Go.Proofs.YthhbpebihgjpjaaGreatDoor
open Go.RowKit Go.Maps
set_option maxRecDepth 1000000

theorem PStC.fresh {p : PV} {a : Nat → Addr} {B : Nat} {w : World} {rb : Nat} {n : Int} {ls : List Line} {S : St} {m : Nat} (h : PStC p a B w rb n ls S m) : ∃ q : PV, (∀ k, w.heap.size ≤ k → q.c k = 7) ∧ PStC q a B w rb n ls S m := by
 refine ⟨{ p with c := fun k => if w.heap.size ≤ k then 7 else p.c k }, fun k hk => if_pos hk, ?_⟩
 have hc : ∀ k, k < w.heap.size → (if w.heap.size ≤ k then 7 else p.c k) = p.c k := fun k hk => if_neg (by omega)
 exact {
  gl := h.gl, base := h.base, row := h.row
  const := fun w'' hs hk => h.const w'' hs (fun k h1 h2 => hk k h1 ((hc k h1).trans h2))
  top := h.top, rules := h.rules, mlt := h.mlt, drafts := h.drafts, defs := h.defs
  c1 := (hc rb h.rowlt).trans h.c1
  c2 := (hc p.tb h.top.lt).trans h.c2
  c3 := (hc p.rm h.rules.lt).trans h.c3
  c4 := (hc p.mm h.mlt).trans h.c4
  c5 := fun k hk => (hc k (rblock h.drafts k hk).2).trans (h.c5 k hk)
  c6 := fun k hk => (hc k (rblock h.defs k hk).2).trans (h.c6 k hk)
  low := fun k hk => (hc k (Nat.lt_of_lt_of_le hk h.bw)).trans (h.low k hk)
  few := h.few, ok := h.ok, made := h.made }
theorem PStB.wrote {p : PV} {a : Nat → Addr} {B : Nat} {w w' : World} {rb : Nat} {n : Int} {ls : List Line} {S : St} {m b : Nat} (h : PStB p a B w rb n ls S m) (hg : w.grownBy w' (some b)) (hb : p.c b = 4 ∨ p.c b = 7) : PStB p a B w' rb n ls S m := by
 have off : ∀ {k : Nat}, k < w.heap.size → p.c k ≠ 4 → p.c k ≠ 7 → w'.heap[k]? = w.heap[k]? := fun {k} hk h4 h7 => hg.block k hk (fun e => by
  have e := Option.some.inj e
  subst e
  rcases hb with q | q
  ·exact h4 q
  ·exact h7 q)
 exact {
  gl := h.gl.keep hg.size (fun k hk => off (Nat.lt_of_lt_of_le hk h.gl.size) (by rw [h.low k (Nat.lt_of_lt_of_le hk h.base)]; decide) (by rw [h.low k (Nat.lt_of_lt_of_le hk h.base)]; decide))
  base := h.base
  row := (off h.rowlt (by rw [h.c1]; decide) (by rw [h.c1]; decide)).trans h.row
  const := h.const.step hg.size (fun k hk h0 => ⟨off hk (by rw [h0]; decide) (by rw [h0]; decide), h0⟩)
  top := TMap.keep h.top (off h.top.lt (by rw [h.c2]; decide) (by rw [h.c2]; decide))
  rules := TMap.keep h.rules (off h.rules.lt (by rw [h.c3]; decide) (by rw [h.c3]; decide))
  mlt := Nat.lt_of_lt_of_le h.mlt hg.size
  drafts := rkeep h.drafts (fun k hk => off (rblock h.drafts k hk).2 (by rw [h.c5 k hk]; decide) (by rw [h.c5 k hk]; decide))
  defs := rkeep h.defs (fun k hk => off (rblock h.defs k hk).2 (by rw [h.c6 k hk]; decide) (by rw [h.c6 k hk]; decide))
  c1 := h.c1, c2 := h.c2, c3 := h.c3, c4 := h.c4, c5 := h.c5, c6 := h.c6, low := h.low, few := h.few, ok := h.ok }
theorem dcells_append (l r : List DraftV) : dcells (l ++ r) = dcells l ++ dcells r := by unfold dcells; rw [List.flatMap_append]
theorem dcells_one (d : DraftV) : dcells [d] = d.cells := by unfold dcells; simp
theorem drafts_more {w : World} {sb : Nat} {ds : List DraftV} {es : List EdgeS} {d : DraftV} {e : EdgeS} (h : DraftsAt w sb ds es) (hd : DraftAt w sb d e) : DraftsAt w sb (ds ++ [d]) (es ++ [e]) := by
 refine ⟨by simp [h.1], fun k x y hx hy => ?_⟩
 rcases Nat.lt_or_ge k ds.length with q | q
 ·rw [List.getElem?_append_left q] at hx
  rw [List.getElem?_append_left (by rw [← h.1]; exact q)] at hy
  exact h.2 k x y hx hy
 ·have hk : k = ds.length := by
   have := (List.getElem?_eq_some_iff.1 hx).1
   simp at this
   omega
  subst hk
  rw [List.getElem?_append_right (Nat.le_refl _), Nat.sub_self] at hx
  rw [h.1, List.getElem?_append_right (Nat.le_refl _), Nat.sub_self] at hy
  obtain rfl := Option.some.inj hx
  obtain rfl := Option.some.inj hy
  exact hd
def EdgeOk (e : EdgeS) : Prop := BOk e.own ∧ e.own.length ≤ 5000 ∧ e.outs.length ≤ 8000 ∧ e.ins.length ≤ 4000 ∧ (∀ x ∈ e.outs, x.size ≤ 32) ∧ (∀ x ∈ e.ins, x.size ≤ 32) ∧ e.impl.length ≤ 4000 ∧ e.ord.length ≤ 4000
theorem PStB.addEdge {p : PV} {a : Nat → Addr} {B : Nat} {w w3 : World} {rb : Nat} {n : Int} {ls : List Line} {S : St} {m W0 : Nat} {vd' : Value} {d : DraftV} {e : EdgeS} (h : PStB p a B w rb n ls S (m + 1)) (hm : UMap w p.mm (p.n3 + e.outs.length) (e.outs.reverse ++ madeS S)) (hW : ∀ k, W0 ≤ k → p.c k = 7) (hd : ∀ w'' : World, (∀ k, W0 ≤ k → k < w.heap.size → w''.heap[k]? = w.heap[k]?) → DraftAt w'' p.sb d e) (hg : w.grownBy w3 p.vd.ownBlock) (hr : w3.ownsRow B 311 7 vd' (S.edges.length + 1) (dcells p.ds ++ d.cells)) (hat : ∀ k, vd'.ownBlock = some k → p.vd.ownBlock = some k ∨ w.heap.size ≤ k) (he : EdgeOk e) (h64 : S.edges.length < 64) : PStC { p with vd := vd', c := fun k => if vd'.ownBlock = some k then 5 else if p.c k = 7 then 0 else p.c k, n3 := p.n3 + e.outs.length, ds := p.ds ++ [d] } a B (w3.setCell ⟨rb, 5, none⟩ vd') rb n ls { S with edges := S.edges ++ [e] } m := by
 have hrb := h.rowlt
 have hnv : ∀ k, k < w.heap.size → p.c k ≠ 5 → vd'.ownBlock ≠ some k := fun k hk hc e => by
  rcases hat k e with q | q
  ·exact hc (h.c5 k q)
  ·omega
 have hc' : ∀ k, k < w.heap.size → p.c k ≠ 5 → p.c k ≠ 7 → (if vd'.ownBlock = some k then 5 else if p.c k = 7 then 0 else p.c k) = p.c k := fun k hk hc h7 => (if_neg (hnv k hk hc)).trans (if_neg h7)
 have off3 : ∀ k, k < w.heap.size → p.c k ≠ 5 → w3.heap[k]? = w.heap[k]? := fun k hk hc => hg.block k hk (fun e => hc (h.c5 k e.symm))
 have off : ∀ k, k < w.heap.size → p.c k ≠ 5 → p.c k ≠ 1 → (w3.setCell ⟨rb, 5, none⟩ vd').heap[k]? = w.heap[k]? := fun k hk hc h1 => by
  rw [heap_setCell_other _ _ _ _ (show k ≠ rb from fun e => h1 (by rw [e]; exact h.c1))]
  exact off3 k hk hc
 have hsz : w.heap.size ≤ (w3.setCell ⟨rb, 5, none⟩ vd').heap.size := by simpa using hg.size
 exact {
  gl := h.gl.keep hsz (fun k hk => off k (Nat.lt_of_lt_of_le hk h.gl.size) (by rw [h.low k (Nat.lt_of_lt_of_le hk h.base)]; decide) (by rw [h.low k (Nat.lt_of_lt_of_le hk h.base)]; decide))
  base := h.base
  row := by
   have h1 : w3.heap[rb]? = _ := (off3 rb hrb (by rw [h.c1]; decide)).trans h.row
   show (w3.setCell ⟨rb, 5, none⟩ vd').heap[rb]? = _
   rw [heap_setCell_same _ _ _ _ _ _ h1]; rfl
  const := fun w'' hs hk => by
   have hold := h.const w'' (Nat.le_trans hsz hs) (fun k h1 h2 => (hk k (Nat.lt_of_lt_of_le h1 hsz) ((hc' k h1 (by rw [h2]; decide) (by rw [h2]; decide)).trans h2)).trans (off k h1 (by rw [h2]; decide) (by rw [h2]; decide)))
   refine ⟨hold.1, hold.2.1, drafts_more hold.2.2 (hd w'' (fun k h1 h2 => ?_))⟩
   have h7 := hW k h1
   exact (hk k (Nat.lt_of_lt_of_le h2 hsz) (by
    show (if vd'.ownBlock = some k then 5 else if p.c k = 7 then 0 else p.c k) = 0
    rw [if_neg (hnv k h2 (by rw [h7]; decide)), if_pos h7])).trans (off k h2 (by rw [h7]; decide) (by rw [h7]; decide))
  top := TMap.keep h.top (off p.tb h.top.lt (by rw [h.c2]; decide) (by rw [h.c2]; decide))
  rules := TMap.keep h.rules (off p.rm h.rules.lt (by rw [h.c3]; decide) (by rw [h.c3]; decide))
  mlt := Nat.lt_of_lt_of_le h.mlt hsz
  made := by
   have hk := TMap.keep hm (off p.mm h.mlt (by rw [h.c4]; decide) (by rw [h.c4]; decide))
   refine UMap.same (l := e.outs.reverse ++ madeS S) hk (fun x => ?_)
   show memB x ((S.edges ++ [e]).flatMap (·.outs)) = _
   rw [List.flatMap_append, memB_append, memB_append, memB_reverse, Bool.or_comm]
   simp [madeS]
  drafts := by
   show World.ownsRow _ _ _ _ _ (S.edges ++ [e]).length (dcells (p.ds ++ [d]))
   rw [List.length_append, dcells_append, dcells_one]
   exact rkeep hr (fun k hk => heap_setCell_other _ _ _ _ (show k ≠ rb from fun e => hnv rb hrb (by rw [h.c1]; decide) (by rw [← e]; exact hk)))
  defs := rkeep h.defs (fun k hk => off k (rblock h.defs k hk).2 (by rw [h.c6 k hk]; decide) (by rw [h.c6 k hk]; decide))
  c1 := (hc' rb hrb (by rw [h.c1]; decide) (by rw [h.c1]; decide)).trans h.c1
  c2 := (hc' p.tb h.top.lt (by rw [h.c2]; decide) (by rw [h.c2]; decide)).trans h.c2
  c3 := (hc' p.rm h.rules.lt (by rw [h.c3]; decide) (by rw [h.c3]; decide)).trans h.c3
  c4 := (hc' p.mm h.mlt (by rw [h.c4]; decide) (by rw [h.c4]; decide)).trans h.c4
  c5 := fun k hk => if_pos hk
  c6 := fun k hk => (hc' k (rblock h.defs k hk).2 (by rw [h.c6 k hk]; decide) (by rw [h.c6 k hk]; decide)).trans (h.c6 k hk)
  low := fun k hk => by
   have h0 := h.low k hk
   show (if vd'.ownBlock = some k then 5 else if p.c k = 7 then 0 else p.c k) = 9
   rw [if_neg (fun e => by have := (rblock hr k e).1; omega), if_neg (by rw [h0]; decide)]
   exact h0
  few := by show p.n1 + m ≤ 5000 ∧ p.n2 + m ≤ 5000 ∧ p.n3 + e.outs.length + 8000 * m ≤ 40000000; have := h.few; have := he.2.2.1; omega
  ok := { top := h.ok.top, tops := (by show S.top.length + m ≤ 5000; have := h.ok.tops; omega), rules := h.ok.rules, rulen := (by show S.rules.length + m ≤ 5000; have := h.ok.rulen; omega), edges := (by show (S.edges ++ [e]).length ≤ 64; rw [List.length_append]; show _ + 1 ≤ _; omega), edge := (fun x hx => by
       rcases List.mem_append.1 (show x ∈ S.edges ++ [e] from hx) with hx | hx
       ·exact h.ok.edge x hx
       ·obtain rfl := List.mem_singleton.1 hx
        exact he), defs := (by show S.defs.length + 4000 * m ≤ _; have := h.ok.defs; omega), lines := h.ok.lines, count := h.ok.count } }
theorem TextsF.same {W0 : Nat} {w w' : World} {v : Value} {l : List ByteArray} (h : TextsF W0 w v l) (hb : ∀ k, W0 ≤ k → k < w.heap.size → w'.heap[k]? = w.heap[k]?) : TextsF W0 w' v l := by
 refine ⟨?_, h.2⟩
 obtain ⟨ao, cap, rfl, hc, q | ⟨b, o, rfl, q⟩⟩ := h.1
 ·exact ⟨ao, cap, rfl, hc, Or.inl q⟩
 ·exact ⟨_, cap, rfl, hc, Or.inr ⟨b, o, rfl, fun k s hs => (World.cell?_of_block (w := w) (a := ⟨b, o + k, none⟩) (hb b (h.2 b rfl) (block_lt_of_cell (q k s hs)))).trans (q k s hs)⟩⟩
end Go.Proofs.YthhbpebihgjpjaaGreatDoor

namespace Go.Proofs.YthhbpebihgjpjaaGreatDoor
open Go.RowKit Go.Maps
set_option maxRecDepth 1000000

def restS (S : St) (no : Nat) (ls : List Line) (u : ByteArray) (ro ri : Except Bad Secs) : Res := match ro with
 | .error e => .error (e, no)
 | .ok outs => match ri with
   | .error e => .error (e, no)
   | .ok ins => match edgeBad S outs ins u with
     | some e => .error (e, no)
     | none => match ownS S.top ls [] with
       | .error e => .error e
       | .ok ol => .ok ({ S with edges := S.edges ++ [edgeOf outs ins (headB u) ol.1] }, ol.2)
theorem buildS_is {S : St} {no : Nat} {t : ByteArray} {ls : List Line} (hk : ¬ t.size ≤ scanB isColon t) : buildS S no t ls = restS S no ls (leftB (t.extract (scanB isColon t + 1) t.size)) (pathsS (envL [S.top]) [tBar] (t.extract 0 (scanB isColon t))) (pathsS (envL [S.top]) [tBar, tBars] (tailB (leftB (t.extract (scanB isColon t + 1) t.size)))) := by
 unfold buildS restS
 rw [if_neg hk, envOf_one]
 split
 ·rename_i e h
  rw [h]
 ·rename_i outs h
  rw [h]
  simp only
  split
  ·rename_i e h2
   rw [h2]
  ·rename_i ins h2
   rw [h2]
   simp only
   split
   ·rename_i e h3
    rw [h3]
   ·rename_i h3
    rw [h3]
    simp only
    split
    ·rename_i e h4
     rw [h4]
    ·rename_i ol h4
     rw [h4]
theorem SecsAt.mono {W0 W1 : Nat} {w : World} {v : Value} {s : Secs} (h : SecsAt W1 w v s) (hW : W0 ≤ W1) : SecsAt W0 w v s := by
 obtain ⟨g, cap, hv, hc, vs, hs, hcell⟩ := h
 exact ⟨g, cap, hv, hc, vs, ⟨hs.1, fun k x y hx hy => ⟨(hs.2 k x y hx hy).1, (hs.2 k x y hx hy).2.1, fun b hb => Nat.le_trans hW ((hs.2 k x y hx hy).2.2 b hb)⟩⟩, hcell⟩
structure EdgeMid (p : PV) (a : Nat → Addr) (B : Nat) (w0 : World) (rb no : Nat) (ls : List Line) (S : St) (m : Nat) (v1 : Value) (outs : Secs) (v2 : Value) (ins : Secs) (w : World) : Prop where
 st : PStC p a B w rb (no : Nat) ls S m
 so : SecsAt w0.heap.size w v1 outs
 si : SecsAt w0.heap.size w v2 ins
 bl : Below w0.heap.size w0 w
theorem EdgeMid.later {p : PV} {a : Nat → Addr} {B : Nat} {w0 : World} {rb no : Nat} {ls : List Line} {S : St} {m : Nat} {v1 : Value} {outs : Secs} {v2 : Value} {ins : Secs} {w w' : World} (h : EdgeMid p a B w0 rb no ls S m v1 outs v2 ins w) (hb : Below w.heap.size w w') : EdgeMid p a B w0 rb no ls S m v1 outs v2 ins w' :=
 ⟨h.st.below hb, h.so.keep hb.block, h.si.keep hb.block, h.bl.trans (hb.mono h.bl.size)⟩
theorem PStC.paths {p : PV} {a : Nat → Addr} {B : Nat} {w : World} {rb no : Nat} {ls : List Line} {S : St} {m : Nat} {t : ByteArray} {ms : List ByteArray} {vm : Value} (h : PStC p a B w rb (no : Nat) ls S m) (ht : t.size ≤ 4000) (hm : TextsAt w vm ms) (hl : ms.length ≤ 2) :
  Calls Tryz.prog 266 #[.pointer (some ⟨rb, 0, none⟩), .string t, vm] w fun e w' => pathsEnd w.heap.size a (no : Nat) (pathsS (envL [S.top]) ms t) e w' ∧ Below w.heap.size w w' :=
 readPaths_any rb (no : Nat) t [S.top] (some ⟨p.sb, 0, none⟩) a ms vm w h.at0 (by rw [cell_of_row _ _ _ _ _ _ h.row]; rfl) h.scopes h.gl ht h.boks hm hl
theorem texts_lit (w : World) (ms : List ByteArray) (t : TypeId) : TextsAt (w.alloc (.cells (ms.map Value.string).toArray t)) (.slice (some ⟨w.heap.size, 0, none⟩) ms.length ms.length) ms := by
 refine ⟨_, _, rfl, Nat.le_refl _, Or.inr ⟨w.heap.size, 0, rfl, fun k s hs => ?_⟩⟩
 rw [cell_of_row _ _ _ _ _ _ (heapA_new w _ _ rfl)]
 show ((ms.map Value.string).toArray)[0 + k]? = _
 simp [hs]
theorem concat_two {w : World} {cb : Nat} {v0 v1 : Value} {l0 l1 : List ByteArray} (h0 : w.cell? ⟨cb, 0, none⟩ = some v0) (h1 : w.cell? ⟨cb, 1, none⟩ = some v1) (t0 : TextsAt w v0 l0) (t1 : TextsAt w v1 l1) (s0 : l0.length ≤ 10000) (s1 : l1.length ≤ 10000) :
  Calls Tryz.prog 202 #[.slice (some ⟨cb, 0, none⟩) 2 2] w fun e w' => ∃ v, e = .returned v ∧ TextsF w.heap.size w' v (l0 ++ l1) ∧ (∀ k, v.ownBlock = some k → k < w'.heap.size) ∧ Below w.heap.size w w' := by
 have := concat_any [(v0, l0), (v1, l1)] cb w (fun i x hx => by
  match i, hx with
  | 0, hx => obtain rfl := Option.some.inj hx; exact ⟨h0, t0⟩
  | 1, hx => obtain rfl := Option.some.inj hx; exact ⟨h1, t1⟩
  | i + 2, hx => cases hx) (show 2 ≤ 10 by decide) (fun x hx => by
  rcases List.mem_cons.1 hx with rfl | hx
  ·exact s0
  ·obtain rfl := List.mem_singleton.1 hx
   exact s1)
 refine this.mono ?_
 rintro e w' ⟨v, rfl, hr, hb⟩
 have e : flatL [(v0, l0), (v1, l1)] = l0 ++ l1 := by simp [flatL]
 rw [e] at hr
 exact ⟨v, rfl, ⟨texts_own hr, fun k hk => (rblock hr k hk).1⟩, fun k hk => (rblock hr k hk).2, hb⟩
theorem ownS_stop {top : Binds} {rest : List Line} {own : Binds} (h : (indented rest).isSome = false) : ownS top rest own = .ok (own, rest) := by
 cases rest with
 | nil => rfl
 | cons x r =>
  rw [show indented (x :: r) = if begins x.2 32 = true then some (x, r) else none from rfl] at h
  rw [ownS]
  split at h
  ·cases h
  ·rename_i q
   rw [if_neg q]
theorem ownS_step {top : Binds} {x : Line} {rest : List Line} {own : Binds} (h : (indented (x :: rest)).isSome = true) : ownS top (x :: rest) own = match varR (envL [own, top]) x.2 with
  | none => .error (.syn, x.1)
  | some xy => ownS top rest (setB own xy.1 xy.2) := by
 rw [show indented (x :: rest) = if begins x.2 32 = true then some (x, rest) else none from rfl] at h
 split at h
 ·rename_i q
  rw [ownS, if_pos q, envOf_two]
  unfold varR
  cases bindS x.2 with
  | none => rfl
  | some nv =>
   simp only
   cases expandS (envL [own, top]) nv.2 with
   | none => rfl
   | some y => rfl
 ·cases h
def lenVP : Option Value → Nat
 | some (.slice _ n _) => n
 | _ => 0
structure OwnMid (p : PV) (a : Nat → Addr) (B : Nat) (w0 w1 : World) (rb : Nat) (ls : List Line) (S : St) (m : Nat) (sb tb : Nat) (made : List ByteArray) (n3 : Nat) (w : World) (vl : Value) (n : Int) (rest : List Line) (own : Binds) (nn : Nat) : Prop where
 st : PStB { p with vl := vl } a B w rb n rest S m
 eqn : ownS S.top ls [] = ownS S.top rest own
 map : BMap w tb nn own
 row : w.heap[sb]? = some (.cells #[.map (some tb), .pointer (some ⟨p.sb, 0, none⟩)] 302 (0, 0))
 same : ∀ k, w0.heap.size ≤ k → k < w1.heap.size → w.heap[k]? = w1.heap[k]?
 umap : UMap w p.mm n3 made
 bl : Below B w0 w
 few : nn + rest.length ≤ ls.length ∧ own.length + rest.length ≤ ls.length
 bok : BOk own
 tb1 : w1.heap.size ≤ tb ∧ tb < sb ∧ sb < w.heap.size
 w01 : w0.heap.size ≤ w1.heap.size
theorem OwnMid.scopes {p : PV} {a : Nat → Addr} {B : Nat} {w0 w1 : World} {rb : Nat} {ls : List Line} {S : St} {m : Nat} {sb tb : Nat} {made : List ByteArray} {n3 : Nat} {w : World} {vl : Value} {n : Int} {rest : List Line} {own : Binds} {nn : Nat} (h : OwnMid p a B w0 w1 rb ls S m sb tb made n3 w vl n rest own nn) (hs : p.sb < w0.heap.size) : ScopesAt w (.pointer (some ⟨sb, 0, none⟩)) [own, S.top] :=
 ⟨sb, tb, nn, .pointer (some ⟨p.sb, 0, none⟩), rfl, (by show p.sb + 1 ≤ sb; have := h.tb1; have := h.w01; omega), h.row, h.map, p.sb, p.tb, p.n1, .pointer none, rfl, Nat.zero_le _, h.st.const.now.2.1, h.st.top, rfl⟩
theorem OwnMid.bound {p : PV} {a : Nat → Addr} {B : Nat} {w0 w1 : World} {rb : Nat} {ls : List Line} {S : St} {m : Nat} {sb tb : Nat} {made : List ByteArray} {n3 : Nat} {wr w13 w14 : World} {vl vl' : Value} {n : Int} {x : Line} {r : List Line} {own : Binds} {nn : Nat} {xy : ByteArray × ByteArray} (h : OwnMid p a B w0 w1 rb ls S m sb tb made n3 wr vl n (x :: r) own nn) (h13 : PStB { p with vl := vl' } a B w13 rb (x.1 : Nat) r S m) (hg13 : wr.grownBy w13 (some rb)) (hm : BMap w14 tb (nn + 1) (setB own xy.1 xy.2)) (hg14 : w13.grownBy w14 (some tb)) (hv : varR (envL [own, S.top]) x.2 = some xy) (hind : (indented (x :: r)).isSome = true) (hc7 : p.c tb = 7) (hrb : rb < w0.heap.size) (hB : B ≤ rb) (hmm : p.mm < w0.heap.size) (hmr : p.mm ≠ rb) (hx : x.2.size ≤ 4000) : OwnMid p a B w0 w1 rb ls S m sb tb made n3 w14 vl' (x.1 : Nat) r (setB own xy.1 xy.2) (nn + 1) := by
 have h1 := h.tb1
 have h2 := h.w01
 have s13 := hg13.size
 have s14 := hg14.size
 have hb0 := h.bl.size
 have o13 : ∀ k, k < wr.heap.size → k ≠ rb → w13.heap[k]? = wr.heap[k]? := fun k hk hn => hg13.block k hk (fun e => hn (Option.some.inj e))
 have o14 : ∀ k, k < w13.heap.size → k ≠ tb → w14.heap[k]? = w13.heap[k]? := fun k hk hn => hg14.block k hk (fun e => hn (Option.some.inj e))
 have hsz := varR_size hv
 exact {
  st := h13.wrote hg14 (Or.inr hc7)
  eqn := by rw [h.eqn, ownS_step hind, hv]
  map := hm
  row := (o14 sb (by omega) (by omega)).trans ((o13 sb (by omega) (by omega)).trans h.row)
  same := fun k hk1 hk2 => (o14 k (by omega) (by omega)).trans ((o13 k (by omega) (by omega)).trans (h.same k hk1 hk2))
  umap := TMap.keep h.umap ((o14 p.mm (by omega) (by omega)).trans (o13 p.mm (by omega) hmr))
  bl := (h.bl.grown hg13 (by omega) (fun k hk => by have := Option.some.inj hk; omega)).grown hg14 (by omega) (fun k hk => by have := Option.some.inj hk; omega)
  few := by have := h.few; have h3 := setB_length xy.1 xy.2 own; rw [List.length_cons] at this; omega
  bok := setB_ok h.bok (by omega) hsz.2
  tb1 := ⟨h1.1, h1.2.1, by omega⟩
  w01 := h2 }
theorem firstS_small {ms : List ByteArray} {s : Secs} (h : SecsOk ms s) : ∀ y ∈ firstS s, y.size ≤ 32 := by
 obtain ⟨x, _, hf, hx⟩ := h.firstS
 rw [hf]
 exact fun y hy => h.names x hx y hy
theorem behindS_small {ms : List ByteArray} {s : Secs} (h : SecsOk ms s) (m : ByteArray) : ∀ y ∈ behindS s m, y.size ≤ 32 := by
 unfold behindS
 cases hf : s.find? (fun x => decide (x.1 = m)) with
 | none => intro y hy; cases hy
 | some x => exact fun y hy => h.names x (List.mem_of_find?_eq_some hf) y hy
theorem behindS_len (s : Secs) (m : ByteArray) : (behindS s m).length ≤ countS s := by
 unfold behindS
 cases h : s.find? (fun x => decide (x.1 = m)) with
 | none => exact Nat.zero_le _
 | some x => exact countS_mem (List.mem_of_find?_eq_some h)
theorem firstS_len {ms : List ByteArray} {s : Secs} (h : SecsOk ms s) : (firstS s).length ≤ countS s := by
 obtain ⟨x, _, hf, hx⟩ := h.firstS
 rw [hf]
 exact countS_mem hx
theorem restS_good {S : St} {no : Nat} {ls : List Line} {u : ByteArray} {outs ins : Secs} (h : edgeBad S outs ins u = none) : restS S no ls u (.ok outs) (.ok ins) = match ownS S.top ls [] with
  | .error e => .error e
  | .ok ol => .ok ({ S with edges := S.edges ++ [edgeOf outs ins (headB u) ol.1] }, ol.2) := by
 unfold restS
 simp only [h]
end Go.Proofs.YthhbpebihgjpjaaGreatDoor
