import Derived.Test.YthhbpebihgjpjaaGreatDoorP27
import Derived.Test.YthhbpebihgjpjaaGreatDoorP18
import Derived.Test.YthhbpebihgjpjaaGreatDoorP28
import Derived.Test.YthhbpebihgjpjaaGreatDoorP16
namespace Go.Proofs.YthhbpebihgjpjaaGreatDoor
open Go.RowKit
set_option maxRecDepth 1000000

theorem RSt.fresh {r : RV} {ds : List REdgeV} {c : Nat → Nat} {B : Nat} {w : World} {rb : Nat} {L : List Line} {S : St} {m : Nat} (h : RSt r ds c B w rb L S m) : ∃ c', (∀ k, w.heap.size ≤ k → c' k = 8) ∧ RSt r ds c' B w rb L S m := by
 refine ⟨fun k => if w.heap.size ≤ k then 8 else c k, fun k hk => if_pos hk, ?_⟩
 have hc : ∀ k, k < w.heap.size → (if w.heap.size ≤ k then 8 else c k) = c k := fun k hk => if_neg (by omega)
 exact {
  row := h.row
  const := fun w'' hs hk => h.const w'' hs (fun k h1 h2 => hk k h1 ((hc k h1).trans h2))
  top := h.top, rules := h.rules, owns := h.owns, edges := h.edges, defs := h.defs
  own7 := fun i d e hd he => ⟨(h.own7 i d e hd he).1, fun k hk => (hc k (rblock (h.own7 i d e hd he).1 k hk).2).trans ((h.own7 i d e hd he).2 k hk)⟩
  dist := h.dist
  c1 := (hc rb h.row.lt).trans h.c1
  c2 := fun k hk => (hc k (rblock h.top k hk).2).trans (h.c2 k hk)
  c3 := fun k hk => (hc k (rblock h.rules k hk).2).trans (h.c3 k hk)
  c4 := fun k hk => (hc k (rblock h.owns k hk).2).trans (h.c4 k hk)
  c5 := fun k hk => (hc k (rblock h.edges k hk).2).trans (h.c5 k hk)
  c6 := fun k hk => (hc k (rblock h.defs k hk).2).trans (h.c6 k hk)
  low := fun k hk => (hc k (Nat.lt_of_lt_of_le hk h.bw)).trans (h.low k hk)
  lne := fun g o n cp e => ⟨(hc g (h.lne g o n cp e).2).trans (h.lne g o n cp e).1, (h.lne g o n cp e).2⟩
  e0 := h.e0, high := h.high, ok := h.ok, len := h.len }
theorem RSt.wrote {r : RV} {ds : List REdgeV} {c : Nat → Nat} {B : Nat} {w w' : World} {rb : Nat} {L : List Line} {S : St} {m : Nat} {b : Option Nat} (h : RSt r ds c B w rb L S m) (hg : w.grownBy w' b) (hb : ∀ k, b = some k → c k = 8 ∨ w.heap.size ≤ k) : RSt r ds c B w' rb L S m := by
 have off : ∀ k, k < w.heap.size → c k ≠ 8 → w'.heap[k]? = w.heap[k]? := fun k hk hc => hg.block k hk (fun e => by
  rcases hb k e.symm with q | q
  ·exact hc q
  ·omega)
 exact {
  row := (off rb h.row.lt (by rw [h.c1]; decide)).trans h.row
  const := h.const.step hg.size (fun k hk h0 => ⟨off k hk (by omega), h0⟩)
  top := rkeep h.top (fun k hk => off k (rblock h.top k hk).2 (by rw [h.c2 k hk]; decide))
  rules := rkeep h.rules (fun k hk => off k (rblock h.rules k hk).2 (by rw [h.c3 k hk]; decide))
  owns := rkeep h.owns (fun k hk => off k (rblock h.owns k hk).2 (by rw [h.c4 k hk]; decide))
  edges := rkeep h.edges (fun k hk => off k (rblock h.edges k hk).2 (by rw [h.c5 k hk]; decide))
  defs := rkeep h.defs (fun k hk => off k (rblock h.defs k hk).2 (by rw [h.c6 k hk]; decide))
  own7 := fun i d e hd he => ⟨rkeep (h.own7 i d e hd he).1 (fun k hk => off k (rblock (h.own7 i d e hd he).1 k hk).2 (by rw [(h.own7 i d e hd he).2 k hk]; decide)), (h.own7 i d e hd he).2⟩
  dist := h.dist
  c1 := h.c1, c2 := h.c2, c3 := h.c3, c4 := h.c4, c5 := h.c5, c6 := h.c6, low := h.low
  lne := (fun g o n cp e => ⟨(h.lne g o n cp e).1, Nat.lt_of_lt_of_le (h.lne g o n cp e).2 hg.size⟩)
  e0 := h.e0, high := h.high, ok := h.ok, len := h.len }
theorem rlists_more {w : World} {ds : List REdgeV} {es : List EdgeS} {d : REdgeV} {e : EdgeS} (h : RListsAt w ds es) (hd : TextsAt w d.vo e.outs ∧ TextsAt w d.vi e.ins ∧ TextsAt w d.vm e.impl ∧ TextsAt w d.vr e.ord ∧ d.rule = e.rule) : RListsAt w (ds ++ [d]) (es ++ [e]) := by
 refine ⟨by simp [h.1], fun k x y hx hy => ?_⟩
 rcases Nat.lt_or_ge k ds.length with q | q
 ·rw [List.getElem?_append_left q] at hx
  rw [List.getElem?_append_left (by rw [← h.1]; exact q)] at hy
  exact h.2 k x y hx hy
 ·have hk : k = ds.length := by
   have := (List.getElem?_eq_some_iff.1 hx).1
   simp at this
   omega
  subst hk
  rw [List.getElem?_append_right (Nat.le_refl _), Nat.sub_self] at hx
  rw [h.1, List.getElem?_append_right (Nat.le_refl _), Nat.sub_self] at hy
  obtain rfl := Option.some.inj hx
  obtain rfl := Option.some.inj hy
  exact hd
theorem recells_append (l r : List REdgeV) : recells (l ++ r) = recells l ++ recells r := by unfold recells; rw [List.flatMap_append]
theorem RSt.addEdge {r : RV} {ds : List REdgeV} {c : Nat → Nat} {B : Nat} {w w' : World} {rb : Nat} {L : List Line} {S : St} {m W0 : Nat} {d : REdgeV} {e : EdgeS} {ve' vo' : Value} (h : RSt r ds c B w rb L S (m + 1)) (hW : ∀ k, W0 ≤ k → c k = 8) (hsz : w.heap.size ≤ w'.heap.size) (hoth : ∀ k, k < w.heap.size → c k ≠ 1 → c k ≠ 4 → c k ≠ 5 → w'.heap[k]? = w.heap[k]?) (hrow : RRow { r with ve := ve', vo := vo' } w' rb) (hed : w'.ownsRow B 233 6 ve' (S.edges.length + 1) (recells ds ++ d.cells)) (how : w'.ownsRow B 327 1 vo' (S.edges.length + 1) (ds.map (·.vb) ++ [d.vb])) (hae : ∀ k, ve'.ownBlock = some k → r.ve.ownBlock = some k ∨ w.heap.size ≤ k) (hao : ∀ k, vo'.ownBlock = some k → r.vo.ownBlock = some k ∨ w.heap.size ≤ k) (hne : ∀ k, ve'.ownBlock = some k → vo'.ownBlock ≠ some k) (hown : w'.ownsRow B 338 2 d.vb e.own.length (bcellsB e.own)) (hob : ∀ k, d.vb.ownBlock = some k → W0 ≤ k ∧ k < w.heap.size) (hd : ∀ w'' : World, (∀ k, W0 ≤ k → k < w.heap.size → d.vb.ownBlock ≠ some k → w''.heap[k]? = w.heap[k]?) → TextsAt w'' d.vo e.outs ∧ TextsAt w'' d.vi e.ins ∧ TextsAt w'' d.vm e.impl ∧ TextsAt w'' d.vr e.ord ∧ d.rule = e.rule) (he : BOk e.own ∧ e.own.length ≤ 5000 ∧ e.outs.length ≤ 8000 ∧ e.ins.length ≤ 4000 ∧ (∀ x ∈ e.outs, x.size ≤ 32) ∧ (∀ x ∈ e.ins, x.size ≤ 32) ∧ e.impl.length ≤ 4000 ∧ e.ord.length ≤ 4000) (h64 : S.edges.length < 64) (hhd : d.high B) :
  ∃ c', RSt { r with ve := ve', vo := vo' } (ds ++ [d]) c' B w' rb L { S with edges := S.edges ++ [e] } m := by
 have hlen := h.const.now.2.1
 refine ⟨fun k => if ve'.ownBlock = some k then 5 else if vo'.ownBlock = some k then 4 else if d.vb.ownBlock = some k then 7 else if c k = 8 then 0 else c k, ?_⟩
 have hc : ∀ k, k < w.heap.size → c k ≠ 4 → c k ≠ 5 → c k ≠ 8 → (if ve'.ownBlock = some k then 5 else if vo'.ownBlock = some k then 4 else if d.vb.ownBlock = some k then 7 else if c k = 8 then 0 else c k) = c k := fun k hk h4 h5 h8 => by
  rw [if_neg (fun q => by rcases hae k q with q | q; exact h5 (h.c5 k q); omega), if_neg (fun q => by rcases hao k q with q | q; exact h4 (h.c4 k q); omega), if_neg (fun q => h8 (hW k (hob k q).1)), if_neg h8]
 exact {
  row := hrow
  const := fun w'' hs hk => by
   have hold := h.const w'' (Nat.le_trans hsz hs) (fun k h1 h2 => (hk k (Nat.lt_of_lt_of_le h1 hsz) ((hc k h1 (by omega) (by omega) (by omega)).trans h2)).trans (hoth k h1 (by omega) (by omega) (by omega)))
   refine ⟨hold.1, rlists_more hold.2 (hd w'' (fun k h1 h2 h3 => ?_))⟩
   have h8 := hW k h1
   refine (hk k (Nat.lt_of_lt_of_le h2 hsz) ?_).trans (hoth k h2 (by omega) (by omega) (by omega))
   show (if ve'.ownBlock = some k then 5 else if vo'.ownBlock = some k then 4 else if d.vb.ownBlock = some k then 7 else if c k = 8 then 0 else c k) = 0
   rw [if_neg (fun q => by rcases hae k q with q | q; have := h.c5 k q; omega; omega), if_neg (fun q => by rcases hao k q with q | q; have := h.c4 k q; omega; omega), if_neg h3, if_pos h8]
  top := rkeep h.top (fun k hk => hoth k (rblock h.top k hk).2 (by rw [h.c2 k hk]; decide) (by rw [h.c2 k hk]; decide) (by rw [h.c2 k hk]; decide))
  rules := rkeep h.rules (fun k hk => hoth k (rblock h.rules k hk).2 (by rw [h.c3 k hk]; decide) (by rw [h.c3 k hk]; decide) (by rw [h.c3 k hk]; decide))
  owns := by
   show World.ownsRow _ _ _ _ _ (S.edges ++ [e]).length ((ds ++ [d]).map (·.vb))
   rw [List.length_append, List.map_append]; exact how
  edges := by
   show World.ownsRow _ _ _ _ _ (S.edges ++ [e]).length (recells (ds ++ [d]))
   rw [List.length_append, recells_append, show recells [d] = d.cells by simp [recells]]; exact hed
  defs := rkeep h.defs (fun k hk => hoth k (rblock h.defs k hk).2 (by rw [h.c6 k hk]; decide) (by rw [h.c6 k hk]; decide) (by rw [h.c6 k hk]; decide))
  own7 := fun i d' e' hd' he' => by
   rcases Nat.lt_or_ge i ds.length with q | q
   ·rw [List.getElem?_append_left q] at hd'
    rw [List.getElem?_append_left (by rw [← hlen]; exact q)] at he'
    have h7 := h.own7 i d' e' hd' he'
    refine ⟨rkeep h7.1 (fun k hk => hoth k (rblock h7.1 k hk).2 (by rw [h7.2 k hk]; decide) (by rw [h7.2 k hk]; decide) (by rw [h7.2 k hk]; decide)), fun k hk => ?_⟩
    have hq := h7.2 k hk
    exact (hc k (rblock h7.1 k hk).2 (by omega) (by omega) (by omega)).trans hq
   ·have hk : i = ds.length := by
     have := (List.getElem?_eq_some_iff.1 hd').1
     simp at this
     omega
    subst hk
    rw [List.getElem?_append_right (Nat.le_refl _), Nat.sub_self] at hd'
    rw [hlen, List.getElem?_append_right (Nat.le_refl _), Nat.sub_self] at he'
    obtain rfl := Option.some.inj hd'
    obtain rfl := Option.some.inj he'
    refine ⟨hown, fun k hk => ?_⟩
    have hk2 := hob k hk
    have h8 := hW k hk2.1
    show (if ve'.ownBlock = some k then 5 else if vo'.ownBlock = some k then 4 else if d.vb.ownBlock = some k then 7 else if c k = 8 then 0 else c k) = 7
    rw [if_neg (fun q => by rcases hae k q with q | q; have := h.c5 k q; omega; omega), if_neg (fun q => by rcases hao k q with q | q; have := h.c4 k q; omega; omega), if_pos hk]
  dist := fun i j d1 d2 k h1 h2 b1 b2 => by
   have key : ∀ (i : Nat) d1, (ds ++ [d])[i]? = some d1 → d1.vb.ownBlock = some k → (i < ds.length ∧ ds[i]? = some d1 ∧ c k = 7) ∨ (i = ds.length ∧ c k = 8) := fun i d1 h1 b1 => by
    rcases Nat.lt_or_ge i ds.length with q | q
    ·rw [List.getElem?_append_left q] at h1
     obtain ⟨e1, he1⟩ : ∃ e1, S.edges[i]? = some e1 := ⟨S.edges[i]'(by omega), by simp⟩
     exact Or.inl ⟨q, h1, (h.own7 i d1 e1 h1 he1).2 k b1⟩
    ·have hk : i = ds.length := by
      have := (List.getElem?_eq_some_iff.1 h1).1
      simp at this
      omega
     subst hk
     rw [List.getElem?_append_right (Nat.le_refl _), Nat.sub_self] at h1
     obtain rfl := Option.some.inj h1
     exact Or.inr ⟨rfl, hW k (hob k b1).1⟩
   rcases key i d1 h1 b1 with ⟨q1, q2, q3⟩ | ⟨q1, q3⟩
   ·rcases key j d2 h2 b2 with ⟨p1, p2, p3⟩ | ⟨p1, p3⟩
    ·exact h.dist i j d1 d2 k q2 p2 b1 b2
    ·omega
   ·rcases key j d2 h2 b2 with ⟨p1, p2, p3⟩ | ⟨p1, p3⟩
    ·omega
    ·omega
  c1 := (hc rb h.row.lt (by rw [h.c1]; decide) (by rw [h.c1]; decide) (by rw [h.c1]; decide)).trans h.c1
  c2 := fun k hk => (hc k (rblock h.top k hk).2 (by rw [h.c2 k hk]; decide) (by rw [h.c2 k hk]; decide) (by rw [h.c2 k hk]; decide)).trans (h.c2 k hk)
  c3 := fun k hk => (hc k (rblock h.rules k hk).2 (by rw [h.c3 k hk]; decide) (by rw [h.c3 k hk]; decide) (by rw [h.c3 k hk]; decide)).trans (h.c3 k hk)
  c4 := fun k hk => (if_neg (fun q => hne k q hk)).trans (if_pos hk)
  c5 := fun k hk => if_pos hk
  c6 := fun k hk => (hc k (rblock h.defs k hk).2 (by rw [h.c6 k hk]; decide) (by rw [h.c6 k hk]; decide) (by rw [h.c6 k hk]; decide)).trans (h.c6 k hk)
  low := fun k hk => (hc k (Nat.lt_of_lt_of_le hk h.bw) (by rw [h.low k hk]; decide) (by rw [h.low k hk]; decide) (by rw [h.low k hk]; decide)).trans (h.low k hk)
  lne := fun g o n cp e => by
   have h0 := h.lne g o n cp e
   exact ⟨(hc g h0.2 (by rw [h0.1]; decide) (by rw [h0.1]; decide) (by rw [h0.1]; decide)).trans h0.1, Nat.lt_of_lt_of_le h0.2 hsz⟩
  e0 := h.e0
  high := fun x hx => by
   rcases List.mem_append.1 hx with hx | hx
   ·exact h.high x hx
   ·obtain rfl := List.mem_singleton.1 hx
    exact hhd
  ok := { top := h.ok.top, tops := (by show S.top.length + m ≤ 5000; have := h.ok.tops; omega), rules := h.ok.rules, rulen := (by show S.rules.length + m ≤ 5000; have := h.ok.rulen; omega), edges := (by show (S.edges ++ [e]).length ≤ 64; rw [List.length_append]; show _ + 1 ≤ _; omega), edge := (fun x hx => by
       rcases List.mem_append.1 (show x ∈ S.edges ++ [e] from hx) with hx | hx
       ·exact h.ok.edge x hx
       ·obtain rfl := List.mem_singleton.1 hx
        exact he), defs := (by show S.defs.length + 4000 * m ≤ _; have := h.ok.defs; omega), lines := h.ok.lines, count := h.ok.count }
  len := h.len }
end Go.Proofs.YthhbpebihgjpjaaGreatDoor

namespace Go.Proofs.YthhbpebihgjpjaaGreatDoor
open Go.RowKit
set_option maxRecDepth 1000000

def madeIdx (es : List (List ByteArray)) (x : ByteArray) : Option Nat := es.findIdx? fun l => memB x l
theorem memB_false {x : ByteArray} {l : List ByteArray} (h : ∀ (k : Nat) y, k < l.length → l[k]? = some y → y ≠ x) : memB x l = false := by
 unfold memB
 refine List.any_eq_false.2 fun y hy => ?_
 obtain ⟨k, hk, rfl⟩ := List.getElem_of_mem hy
 have := h k l[k] hk (by simp)
 simpa using this
theorem memB_true {x : ByteArray} {l : List ByteArray} {k : Nat} {y : ByteArray} (h : l[k]? = some y) (hy : y = x) : memB x l = true := by
 unfold memB
 exact List.any_eq_true.2 ⟨y, List.mem_of_getElem? h, decide_eq_true hy⟩
set_option maxHeartbeats 4000000 in
theorem made_any (es : List (List ByteArray)) (ao : Option Addr) (cap : Nat) (x : ByteArray) (w : World) (h : es = [] ∨ ∃ g o, ao = some ⟨g, o, none⟩ ∧ ∀ (i : Nat) l, es[i]? = some l → ∃ v, w.cell? ⟨g, o + i * 6, none⟩ = some v ∧ TextsAt w v l) (hl : es.length ≤ 1000) (hs : ∀ l ∈ es, l.length ≤ 10000) :
  Calls Tryz.prog 219 #[.slice ao es.length cap, .string x] w fun e w' => e = .returned (.int .i64 (idxI (madeIdx es x))) ∧ w' = w := by
 have H : Hid (es = [] ∨ ∃ g o, ao = some ⟨g, o, none⟩ ∧ ∀ (i : Nat) l, es[i]? = some l → ∃ v, w.cell? ⟨g, o + i * 6, none⟩ = some v ∧ TextsAt w v l) := h
 have HS : Hid (∀ l ∈ es, l.length ≤ 10000) := hs
 have n0 : (es.length : Int) ≤ 1000 := by omega
 clear h hs
 generalize hL : es.length = L at *
 have HL : Hid (es.length = L) := hL
 clear hL
 go_enter Tryz.func219, Tryz.ntmps219
 go_wp2_with fail
 go_loop [5] (fun i => ∃ j : Nat, i = .int .i64 j ∧ j ≤ L ∧ ∀ (k : Nat) l, k < j → es[k]? = some l → memB x l = false) (fun i => L - (intOf i).toNat)
 case atStart => exact ⟨0, rfl, Nat.zero_le _, fun k l hk => by omega⟩
 case round =>
  obtain ⟨j, rfl, hle, hag⟩ := hrel
  have HAG : Hid (∀ (k : Nat) l, k < j → es[k]? = some l → memB x l = false) := hag
  clear hag
  have j0 : (0 : Int) ≤ (j : Int) := by omega
  by_cases hlt : j < L
  ·have j1 : (j : Int) < (L : Int) := by omega
   obtain ⟨l, hl⟩ : ∃ l, es[j]? = some l := ⟨es[j]'(by have := HL.out; omega), by simp⟩
   obtain ⟨g, o, rfl, q⟩ : ∃ g o, ao = some ⟨g, o, none⟩ ∧ ∀ (i : Nat) l, es[i]? = some l → ∃ v, w.cell? ⟨g, o + i * 6, none⟩ = some v ∧ TextsAt w v l := by
    rcases H.out with e | e
    ·rw [e] at hl; simp at hl
    ·exact e
   obtain ⟨v, c1, ht⟩ := q j l hl
   obtain ⟨av, cv, rfl, _, ht⟩ := ht
   have HT : Hid (((av = none → cv = 0) ∧ l = [] ∧ True) ∨ ∃ b o, av = some ⟨b, o, none⟩ ∧ ∀ k s, l[k]? = some s → w.cell? ⟨b, o + k, none⟩ = some (.string s)) := ht
   have hll := HS.out l (List.mem_of_getElem? hl)
   have HLJ : Hid (es[j]? = some l) := hl
   clear q ht hl
   generalize hM : l.length = M at *
   have HM : Hid (l.length = M) := hM
   have m0 : (M : Int) ≤ 10000 := by omega
   clear hM
   go_wp2_with fail
   go_loop [6] (fun i => ∃ k : Nat, i = .int .i64 k ∧ k ≤ M ∧ ∀ (q : Nat) y, q < k → l[q]? = some y → y ≠ x) (fun i => M - (intOf i).toNat)
   case atStart => exact ⟨0, rfl, Nat.zero_le _, fun k l hk => by omega⟩
   case round =>
    obtain ⟨k, rfl, hke, hbg⟩ := hrel
    have HBG : Hid (∀ (q : Nat) y, q < k → l[q]? = some y → y ≠ x) := hbg
    clear hbg
    have k0 : (0 : Int) ≤ (k : Int) := by omega
    by_cases hlt2 : k < M
    ·have k1 : (k : Int) < (M : Int) := by omega
     obtain ⟨y, hy⟩ : ∃ y, l[k]? = some y := ⟨l[k]'(by have := HM.out; omega), by simp⟩
     obtain ⟨b, oo, rfl, q⟩ : ∃ b o, av = some ⟨b, o, none⟩ ∧ ∀ k s, l[k]? = some s → w.cell? ⟨b, o + k, none⟩ = some (.string s) := by
      rcases HT.out with e | e
      ·rw [e.2.1] at hy; simp at hy
      ·exact e
     have c2 := q k y hy
     have HY : Hid (l[k]? = some y) := hy
     clear q hy
     cases hq : (y.toList == x.toList) with
     | true =>
      have HR : Hid (madeIdx es x = some j) := by
       have hm := memB_true HY.out (text_same hq)
       obtain ⟨h1, h2⟩ := List.getElem?_eq_some_iff.1 HLJ.out
       refine List.findIdx?_eq_some_iff_getElem.2 ⟨h1, by rw [h2]; exact hm, fun i hi => ?_⟩
       have := HAG.out i es[i] hi (by simp)
       simpa using this
      go_wp2_with fail
      go_ret
      exact ⟨by rw [HR.out]; rfl, rfl⟩
     | false =>
      have HR : Hid (∀ (q : Nat) y, q < k + 1 → l[q]? = some y → y ≠ x) := fun q z hk hz => by
       rcases Nat.lt_or_ge q k with c | c
       ·exact HBG.out q z c hz
       ·obtain rfl : q = k := by omega
        rw [HY.out] at hz
        obtain rfl := Option.some.inj hz
        exact text_other hq
      go_wp2_with fail
      exact ⟨⟨k + 1, by go_num, hlt2, HR.out⟩, by simp [intOf]; omega⟩
    ·have HR : Hid (∀ (q : Nat) z, q < j + 1 → es[q]? = some z → memB x z = false) := fun q z hk hz => by
      rcases Nat.lt_or_ge q j with c | c
      ·exact HAG.out q z c hz
      ·obtain rfl : q = j := by omega
       rw [HLJ.out] at hz
       obtain rfl := Option.some.inj hz
       exact memB_false (fun k' y hk' hy => HBG.out k' y (by have := HM.out; omega) hy)
     have k1 : ¬ (k : Int) < (M : Int) := by omega
     go_wp2_with fail
     exact ⟨⟨j + 1, by go_num, hlt, HR.out⟩, by simp [intOf]; omega⟩
  ·have HR : Hid (madeIdx es x = none) := by
    refine List.findIdx?_eq_none_iff.2 fun l hl => ?_
    obtain ⟨k, hk, rfl⟩ := List.getElem_of_mem hl
    exact HAG.out k es[k] (by have := HL.out; omega) (by simp)
   have j1 : ¬ (j : Int) < (L : Int) := by omega
   go_wp2_with fail
   go_ret
   exact ⟨by rw [HR.out]; rfl, rfl⟩
end Go.Proofs.YthhbpebihgjpjaaGreatDoor

namespace Go.Proofs.YthhbpebihgjpjaaGreatDoor
open Go.RowKit
set_option maxRecDepth 1000000

def RV.like (r' r : RV) : Prop := r' = { r with e := r'.e, line := r'.line }
theorem RV.like_refl (r : RV) : r.like r := rfl
theorem RV.like_failed {r' r : RV} (h : r'.like r) (k : Int) (n : Nat) : (r'.failed k n).like r := by
 unfold RV.failed
 split
 ·unfold RV.like at h ⊢
  rw [h]
 ·exact h
def RPathsAny (E : ByteArray → ByteArray) (ms : List ByteArray) (t : ByteArray) (r : RV) (no rb : Nat) (w : World) (e : Ending) (w' : World) : Prop :=
 ∃ vl vq ll sl r', e = .returned (.tuple #[vl, vq]) ∧ ListsF w.heap.size w' vl ll ∧ TextsF w.heap.size w' vq sl ∧ ll.length = sl.length + 1 ∧ ll.length ≤ 10001 ∧ (∀ l ∈ ll, l.length ≤ 10000) ∧ RRow r' w' rb ∧ w.grownBy w' (some rb) ∧ ((r.e ≠ 0 ∧ r' = r) ∨ r.e = 0 ∧ ((r' = r ∧ ∃ A : Secs, A ≠ [] ∧ A.map (·.2) = ll ∧ A.tail.map (·.1) = sl ∧ pathsS E ms t = .ok A) ∨ ∃ b, r' = r.failed ((badK b : Nat) + 1) no ∧ pathsS E ms t = .error b))
theorem both_fate {S : St} {no : Nat} {t T1 T2 U : ByteArray} {ls : List Line} {r r1 r2 : RV} {ll1 ll2 : List (List ByteArray)} {sl1 sl2 : List ByteArray} (hk : buildS S no t ls = restS S no ls U (pathsS (envOf [] S.top) [tBar] T1) (pathsS (envOf [] S.top) [tBar, tBars] T2)) (e0 : r.e = 0)
  (h1 : (r.e ≠ 0 ∧ r1 = r) ∨ r.e = 0 ∧ ((r1 = r ∧ ∃ A : Secs, A ≠ [] ∧ A.map (·.2) = ll1 ∧ A.tail.map (·.1) = sl1 ∧ pathsS (envOf [] S.top) [tBar] T1 = .ok A) ∨ ∃ b, r1 = r.failed ((badK b : Nat) + 1) no ∧ pathsS (envOf [] S.top) [tBar] T1 = .error b))
  (h2 : (r1.e ≠ 0 ∧ r2 = r1) ∨ r1.e = 0 ∧ ((r2 = r1 ∧ ∃ A : Secs, A ≠ [] ∧ A.map (·.2) = ll2 ∧ A.tail.map (·.1) = sl2 ∧ pathsS (envOf [] S.top) [tBar, tBars] T2 = .ok A) ∨ ∃ b, r2 = r1.failed ((badK b : Nat) + 1) no ∧ pathsS (envOf [] S.top) [tBar, tBars] T2 = .error b)) :
  r2.like r ∧ ((r2 = r ∧ ∃ A1 A2 : Secs, A1.map (·.2) = ll1 ∧ A2.map (·.2) = ll2 ∧ A2.tail.map (·.1) = sl2 ∧ SecsOk [tBar] A1 ∧ countS A1 ≤ T1.size ∧ SecsOk [tBar, tBars] A2 ∧ countS A2 ≤ T2.size ∧ buildS S no t ls = restS S no ls U (.ok A1) (.ok A2)) ∨ ∃ b, r2.e = ((badK b : Nat) : Int) + 1 ∧ r2.line = (no : Nat) ∧ buildS S no t ls = .error (b, no)) := by
 rcases h1 with ⟨q, _⟩ | ⟨_, ⟨rfl, A1, hn1, a1, a2, a3⟩ | ⟨b, rfl, hb⟩⟩
 ·exact absurd e0 q
 ·rcases h2 with ⟨q, _⟩ | ⟨_, q⟩
  ·exact absurd e0 q
  ·rcases q with ⟨rfl, A2, hn2, b1, b2, b3⟩ | ⟨b, rfl, hb⟩
   ·exact ⟨rfl, Or.inl ⟨rfl, A1, A2, a1, b1, b2, (pathsS_ok a3).1, (pathsS_ok a3).2.1, (pathsS_ok b3).1, (pathsS_ok b3).2.1, by rw [hk, a3, b3]⟩⟩
   ·refine ⟨RV.like_failed (RV.like_refl _) _ _, Or.inr ⟨b, RV.failed_e e0, RV.failed_line e0, ?_⟩⟩
    rw [hk, a3, hb]
    rfl
 ·have hz : (r.failed ((badK b : Nat) + 1) no).e ≠ 0 := by rw [RV.failed_e e0]; omega
  rcases h2 with ⟨_, rfl⟩ | ⟨q, _⟩
  ·refine ⟨RV.like_failed (RV.like_refl _) _ _, Or.inr ⟨b, RV.failed_e e0, RV.failed_line e0, ?_⟩⟩
   rw [hk, hb]
   rfl
  ·exact absurd q hz
def T12 (n1 : Nat) (l0 : List ByteArray) (n : Nat) (sl : List ByteArray) (ne : Nat) : Prop := 2 < n1 ∨ l0 = [] ∨ n = 0 ∨ 2 < sl.length ∨ (∃ s0 s1, sl = [s0, s1] ∧ (s0 = tBars ∨ s1 = tBar)) ∨ ne = 64
theorem mark_two {y : ByteArray} (h : memB y [tBar, tBars] = true) : y = tBar ∨ y = tBars := by
 obtain ⟨z, hz, h2⟩ := List.any_eq_true.1 h
 have h3 := of_decide_eq_true h2
 rcases List.mem_cons.1 hz with rfl | hz
 ·exact Or.inl h3.symm
 ·exact Or.inr (by rw [← h3]; exact List.mem_singleton.1 hz)
theorem mark_one {y : ByteArray} (h : memB y [tBar] = true) : y = tBar := by
 obtain ⟨z, hz, h2⟩ := List.any_eq_true.1 h
 rw [← of_decide_eq_true h2]
 exact List.mem_singleton.1 hz
theorem ins_shape {A : Secs} (h : SecsOk [tBar, tBars] A) : (∃ a, A = [(⟨#[]⟩, a)]) ∨ (∃ a b m, A = [(⟨#[]⟩, a), (m, b)] ∧ (m = tBar ∨ m = tBars)) ∨ (∃ a b c m m2, A = [(⟨#[]⟩, a), (m, b), (m2, c)] ∧ (m = tBar ∨ m = tBars) ∧ (m2 = tBar ∨ m2 = tBars)) ∨ (2 < A.tail.length ∧ risingS A = false) := by
 have hf := h.first
 cases A with
 | nil => exact absurd rfl h.ne
 | cons x A =>
  obtain ⟨m0, a⟩ := x
  obtain rfl : m0 = ⟨#[]⟩ := Option.some.inj hf
  cases A with
  | nil => exact Or.inl ⟨a, rfl⟩
  | cons y A =>
   obtain ⟨m1, b⟩ := y
   have q1 := mark_two (h.marks (m1, b) (by simp))
   cases A with
   | nil => exact Or.inr (Or.inl ⟨a, b, m1, rfl, q1⟩)
   | cons z A =>
    obtain ⟨m2, c⟩ := z
    have q2 := mark_two (h.marks (m2, c) (by simp))
    cases A with
    | nil => exact Or.inr (Or.inr (Or.inl ⟨a, b, c, m1, m2, rfl, q1, q2⟩))
    | cons u A =>
     obtain ⟨m3, d⟩ := u
     have q3 := mark_two (h.marks (m3, d) (by simp))
     refine Or.inr (Or.inr (Or.inr ⟨by simp, ?_⟩))
     by_cases p : m1.size < m2.size
     ·by_cases p2 : m2.size < m3.size
      ·exfalso
       have e1 : tBar.size = 1 := rfl
       have e2 : tBars.size = 2 := rfl
       rcases q1 with rfl | rfl <;> rcases q2 with rfl | rfl <;> rcases q3 with rfl | rfl <;> omega
      ·exact rising_bad _ 2 (m2, c) (m3, d) rfl rfl p2
     ·exact rising_bad _ 1 (m1, b) (m2, c) rfl rfl p
theorem bars_ne : tBars ≠ tBar := by intro e; exact absurd (congrArg ByteArray.size e) (by decide)
theorem test_syn {S : St} {A1 A2 : Secs} {u : ByteArray} {l0 : List ByteArray} (h2 : SecsOk [tBar, tBars] A2) (hl : firstS A1 = l0) (h64 : S.edges.length ≤ 64) (h : T12 A1.length l0 (wordLenB u) (A2.tail.map (·.1)) S.edges.length) : edgeBad S A1 A2 u = some .syn := by
 unfold edgeBad
 by_cases q1 : firstS A1 = [] ∨ 2 < A1.length
 ·rw [if_pos q1]
 ·rw [if_neg q1]
  by_cases q2 : wordLenB u = 0 ∨ risingS A2 = false
  ·rw [if_pos q2]
  ·rw [if_neg q2]
   by_cases q3 : 64 ≤ S.edges.length
   ·rw [if_pos q3]
   ·exfalso
    have p1 : firstS A1 ≠ [] := fun e => q1 (Or.inl e)
    have p2 : ¬ 2 < A1.length := fun e => q1 (Or.inr e)
    have p3 : wordLenB u ≠ 0 := fun e => q2 (Or.inl e)
    have p4 : risingS A2 ≠ false := fun e => q2 (Or.inr e)
    rcases h with h | h | h | h | ⟨s0, s1, h, h'⟩ | h
    ·exact p2 h
    ·exact p1 (hl.trans h)
    ·exact p3 h
    ·rw [List.length_map] at h
     rcases ins_shape h2 with ⟨a, rfl⟩ | ⟨a, b, m, rfl, _⟩ | ⟨a, b, c, m, m2, rfl, _⟩ | ⟨_, q⟩
     ·simp at h
     ·simp at h
     ·simp at h
     ·exact p4 q
    ·rcases ins_shape h2 with ⟨a, rfl⟩ | ⟨a, b, m, rfl, _⟩ | ⟨a, b, c, m, m2, rfl, x1, x2⟩ | ⟨_, q⟩
     ·simp at h
     ·simp at h
     ·simp only [List.tail_cons, List.map_cons, List.map_nil, List.cons.injEq, and_true] at h
      obtain ⟨rfl, rfl⟩ := h
      refine p4 (rising_bad _ 1 (m, b) (m2, c) rfl rfl ?_)
      show ¬ m.size < m2.size
      have e1 : tBar.size = 1 := rfl
      have e2 : tBars.size = 2 := rfl
      rcases h' with rfl | rfl
      ·rcases x2 with rfl | rfl <;> omega
      ·rcases x1 with rfl | rfl <;> omega
     ·exact p4 q
    ·omega
theorem test_good {S : St} {A1 A2 : Secs} {u : ByteArray} {l0 : List ByteArray} (h2 : SecsOk [tBar, tBars] A2) (hl : firstS A1 = l0) (h64 : S.edges.length ≤ 64) (h : ¬ T12 A1.length l0 (wordLenB u) (A2.tail.map (·.1)) S.edges.length) : edgeBad S A1 A2 u = (if (bindOf S.rules (headB u)).isSome = false then some .rul else if twiceS (madeS S) (firstS A1 ++ behindS A1 tBar) = true then some .twi else none) ∧ S.edges.length < 64 ∧ A1.length ≤ 2 ∧ ((∃ a, A2 = [(⟨#[]⟩, a)]) ∨ (∃ a b m, A2 = [(⟨#[]⟩, a), (m, b)] ∧ (m = tBar ∨ m = tBars)) ∨ (∃ a b c, A2 = [(⟨#[]⟩, a), (tBar, b), (tBars, c)])) := by
 have p2 : ¬ 2 < A1.length := fun e => h (Or.inl e)
 have p1 : firstS A1 ≠ [] := fun e => h (Or.inr (Or.inl (hl.symm.trans e)))
 have p3 : wordLenB u ≠ 0 := fun e => h (Or.inr (Or.inr (Or.inl e)))
 have p4 : ¬ 2 < (A2.tail.map (·.1)).length := fun e => h (Or.inr (Or.inr (Or.inr (Or.inl e))))
 have p5 : ∀ s0 s1, A2.tail.map (·.1) = [s0, s1] → s0 ≠ tBars ∧ s1 ≠ tBar := fun s0 s1 e => ⟨fun q => h (Or.inr (Or.inr (Or.inr (Or.inr (Or.inl ⟨s0, s1, e, Or.inl q⟩))))), fun q => h (Or.inr (Or.inr (Or.inr (Or.inr (Or.inl ⟨s0, s1, e, Or.inr q⟩)))))⟩
 have p6 : S.edges.length ≠ 64 := fun e => h (Or.inr (Or.inr (Or.inr (Or.inr (Or.inr e)))))
 have hsh : (∃ a, A2 = [(⟨#[]⟩, a)]) ∨ (∃ a b m, A2 = [(⟨#[]⟩, a), (m, b)] ∧ (m = tBar ∨ m = tBars)) ∨ (∃ a b c, A2 = [(⟨#[]⟩, a), (tBar, b), (tBars, c)]) := by
  rcases ins_shape h2 with q | q | ⟨a, b, c, m, m2, rfl, x1, x2⟩ | ⟨q, _⟩
  ·exact Or.inl q
  ·exact Or.inr (Or.inl q)
  ·have := p5 m m2 rfl
   rcases x1 with rfl | rfl
   ·rcases x2 with rfl | rfl
    ·exact absurd rfl this.2
    ·exact Or.inr (Or.inr ⟨a, b, c, rfl⟩)
   ·exact absurd rfl this.1
  ·rw [List.length_map] at p4
   exact absurd q p4
 have hr : risingS A2 = true := by
  rcases hsh with ⟨a, rfl⟩ | ⟨a, b, m, rfl, rfl | rfl⟩ | ⟨a, b, c, rfl⟩ <;> rfl
 refine ⟨?_, by omega, by omega, hsh⟩
 unfold edgeBad
 rw [if_neg (fun e => e.elim p1 p2), if_neg (fun e => e.elim p3 (fun e => by rw [hr] at e; cases e)), if_neg (by omega)]
theorem restS_worse {S : St} {no : Nat} {ls : List Line} {u : ByteArray} {outs ins : Secs} {b : Bad} (h : edgeBad S outs ins u = some b) : restS S no ls u (.ok outs) (.ok ins) = .error (b, no) := by
 unfold restS
 simp only [h]
theorem outs_flat {A : Secs} {ll : List (List ByteArray)} (h : SecsOk [tBar] A) (hl : A.map (·.2) = ll) (h2 : A.length ≤ 2) : firstS A ++ behindS A tBar = ll.flatten := by
 have hf := h.first
 subst hl
 cases A with
 | nil => exact absurd rfl h.ne
 | cons x A =>
  obtain ⟨m0, a⟩ := x
  obtain rfl : m0 = ⟨#[]⟩ := Option.some.inj hf
  have hne : ¬ ((⟨#[]⟩ : ByteArray) = tBar) := by intro e; exact absurd (congrArg ByteArray.size e) (by decide)
  cases A with
  | nil => simp [firstS, behindS, hne]
  | cons y A =>
   obtain ⟨m1, b⟩ := y
   obtain rfl := mark_one (h.marks (m1, b) (by simp))
   cases A with
   | nil => simp [firstS, behindS, hne]
   | cons z A => simp at h2
theorem twice_iff : ∀ (os made : List ByteArray), twiceS made os = true ↔ ∃ (i : Nat) (o : ByteArray), os[i]? = some o ∧ (memB o made = true ∨ ∃ j : Nat, j < i ∧ os[j]? = some o)
 | [], made => by simp [twiceS]
 | o :: os, made => by
  show (memB o made || twiceS (o :: made) os) = true ↔ _
  rw [Bool.or_eq_true, twice_iff os (o :: made)]
  constructor
  ·rintro (h | ⟨i, p, hp, h⟩)
   ·exact ⟨0, o, rfl, Or.inl h⟩
   ·rcases h with h | ⟨j, hj, h⟩
    ·by_cases e : o = p
     ·exact ⟨i + 1, p, hp, Or.inr ⟨0, by omega, by rw [e]; rfl⟩⟩
     ·refine ⟨i + 1, p, hp, Or.inl ?_⟩
      have h' : (decide (o = p) || memB p made) = true := h
      rw [decide_eq_false e, Bool.false_or] at h'
      exact h'
    ·exact ⟨i + 1, p, hp, Or.inr ⟨j + 1, by omega, h⟩⟩
  ·rintro ⟨i, p, hp, h⟩
   cases i with
   | zero =>
    obtain rfl := Option.some.inj hp
    rcases h with h | ⟨j, hj, _⟩
    ·exact Or.inl h
    ·omega
   | succ i =>
    right
    refine ⟨i, p, hp, ?_⟩
    rcases h with h | ⟨j, hj, h⟩
    ·left
     show (decide (o = p) || memB p made) = true
     rw [h, Bool.or_true]
    ·cases j with
     | zero =>
      left
      show (decide (o = p) || memB p made) = true
      rw [decide_eq_true (Option.some.inj h), Bool.true_or]
     | succ j => exact Or.inr ⟨j, by omega, h⟩
theorem made_mem (es : List EdgeS) (o : ByteArray) : memB o (es.flatMap (·.outs)) = (madeIdx (es.map (·.outs)) o).isSome := by
 unfold memB madeIdx
 rw [List.findIdx?_isSome, List.any_flatMap, List.any_map]
 rfl
end Go.Proofs.YthhbpebihgjpjaaGreatDoor
