import Derived.Test.YthhbpebihgjpjaaGreatDoorP16
import Derived.Test.YthhbpebihgjpjaaGreatDoorP06
namespace Go.Proofs.YthhbpebihgjpjaaGreatDoor
open Go.RowKit Go.Maps
set_option maxRecDepth 1000000

def restS (S : St) (no : Nat) (ls : List Line) (u : ByteArray) (ro ri : Except Bad Secs) : Res := match ro with
 | .error e => .error (e, no)
 | .ok outs => match ri with
   | .error e => .error (e, no)
   | .ok ins => match edgeBad S outs ins u with
     | some e => .error (e, no)
     | none => match ownS S.top ls [] with
       | .error e => .error e
       | .ok ol => .ok ({ S with edges := S.edges ++ [edgeOf outs ins (headB u) ol.1] }, ol.2)
theorem buildS_is {S : St} {no : Nat} {t : ByteArray} {ls : List Line} (hk : ¬ t.size ≤ scanB isColon t) : buildS S no t ls = restS S no ls (leftB (t.extract (scanB isColon t + 1) t.size)) (pathsS (envL [S.top]) [tBar] (t.extract 0 (scanB isColon t))) (pathsS (envL [S.top]) [tBar, tBars] (tailB (leftB (t.extract (scanB isColon t + 1) t.size)))) := by
 unfold buildS restS
 rw [if_neg hk, envOf_one]
 split
 ·rename_i e h
  rw [h]
 ·rename_i outs h
  rw [h]
  simp only
  split
  ·rename_i e h2
   rw [h2]
  ·rename_i ins h2
   rw [h2]
   simp only
   split
   ·rename_i e h3
    rw [h3]
   ·rename_i h3
    rw [h3]
    simp only
    split
    ·rename_i e h4
     rw [h4]
    ·rename_i ol h4
     rw [h4]
theorem SecsAt.mono {W0 W1 : Nat} {w : World} {v : Value} {s : Secs} (h : SecsAt W1 w v s) (hW : W0 ≤ W1) : SecsAt W0 w v s := by
 obtain ⟨g, cap, hv, hc, vs, hs, hcell⟩ := h
 exact ⟨g, cap, hv, hc, vs, ⟨hs.1, fun k x y hx hy => ⟨(hs.2 k x y hx hy).1, (hs.2 k x y hx hy).2.1, fun b hb => Nat.le_trans hW ((hs.2 k x y hx hy).2.2 b hb)⟩⟩, hcell⟩
structure EdgeMid (p : PV) (a : Nat → Addr) (B : Nat) (w0 : World) (rb no : Nat) (ls : List Line) (S : St) (m : Nat) (v1 : Value) (outs : Secs) (v2 : Value) (ins : Secs) (w : World) : Prop where
 st : PStC p a B w rb (no : Nat) ls S m
 so : SecsAt w0.heap.size w v1 outs
 si : SecsAt w0.heap.size w v2 ins
 bl : Below w0.heap.size w0 w
theorem EdgeMid.later {p : PV} {a : Nat → Addr} {B : Nat} {w0 : World} {rb no : Nat} {ls : List Line} {S : St} {m : Nat} {v1 : Value} {outs : Secs} {v2 : Value} {ins : Secs} {w w' : World} (h : EdgeMid p a B w0 rb no ls S m v1 outs v2 ins w) (hb : Below w.heap.size w w') : EdgeMid p a B w0 rb no ls S m v1 outs v2 ins w' :=
 ⟨h.st.below hb, h.so.keep hb.block, h.si.keep hb.block, h.bl.trans (hb.mono h.bl.size)⟩
theorem PStC.paths {p : PV} {a : Nat → Addr} {B : Nat} {w : World} {rb no : Nat} {ls : List Line} {S : St} {m : Nat} {t : ByteArray} {ms : List ByteArray} {vm : Value} (h : PStC p a B w rb (no : Nat) ls S m) (ht : t.size ≤ 4000) (hm : TextsAt w vm ms) (hl : ms.length ≤ 2) :
  Calls Tryz.prog 266 #[.pointer (some ⟨rb, 0, none⟩), .string t, vm] w fun e w' => pathsEnd w.heap.size a (no : Nat) (pathsS (envL [S.top]) ms t) e w' ∧ Below w.heap.size w w' :=
 readPaths_any rb (no : Nat) t [S.top] (some ⟨p.sb, 0, none⟩) a ms vm w h.at0 (by rw [cell_of_row _ _ _ _ _ _ h.row]; rfl) h.scopes h.gl ht h.boks hm hl
theorem texts_lit (w : World) (ms : List ByteArray) (t : TypeId) : TextsAt (w.alloc (.cells (ms.map Value.string).toArray t)) (.slice (some ⟨w.heap.size, 0, none⟩) ms.length ms.length) ms := by
 refine ⟨_, _, rfl, Nat.le_refl _, Or.inr ⟨w.heap.size, 0, rfl, fun k s hs => ?_⟩⟩
 rw [cell_of_row _ _ _ _ _ _ (heapA_new w _ _ rfl)]
 show ((ms.map Value.string).toArray)[0 + k]? = _
 simp [hs]
theorem concat_two {w : World} {cb : Nat} {v0 v1 : Value} {l0 l1 : List ByteArray} (h0 : w.cell? ⟨cb, 0, none⟩ = some v0) (h1 : w.cell? ⟨cb, 1, none⟩ = some v1) (t0 : TextsAt w v0 l0) (t1 : TextsAt w v1 l1) (s0 : l0.length ≤ 10000) (s1 : l1.length ≤ 10000) :
  Calls Tryz.prog 202 #[.slice (some ⟨cb, 0, none⟩) 2 2] w fun e w' => ∃ v, e = .returned v ∧ TextsF w.heap.size w' v (l0 ++ l1) ∧ (∀ k, v.ownBlock = some k → k < w'.heap.size) ∧ Below w.heap.size w w' := by
 have := concat_any [(v0, l0), (v1, l1)] cb w (fun i x hx => by
  match i, hx with
  | 0, hx => obtain rfl := Option.some.inj hx; exact ⟨h0, t0⟩
  | 1, hx => obtain rfl := Option.some.inj hx; exact ⟨h1, t1⟩
  | i + 2, hx => cases hx) (show 2 ≤ 10 by decide) (fun x hx => by
  rcases List.mem_cons.1 hx with rfl | hx
  ·exact s0
  ·obtain rfl := List.mem_singleton.1 hx
   exact s1)
 refine this.mono ?_
 rintro e w' ⟨v, rfl, hr, hb⟩
 have e : flatL [(v0, l0), (v1, l1)] = l0 ++ l1 := by simp [flatL]
 rw [e] at hr
 exact ⟨v, rfl, ⟨texts_own hr, fun k hk => (rblock hr k hk).1⟩, fun k hk => (rblock hr k hk).2, hb⟩
theorem ownS_stop {top : Binds} {rest : List Line} {own : Binds} (h : (indented rest).isSome = false) : ownS top rest own = .ok (own, rest) := by
 cases rest with
 | nil => rfl
 | cons x r =>
  rw [show indented (x :: r) = if begins x.2 32 = true then some (x, r) else none from rfl] at h
  rw [ownS]
  split at h
  ·cases h
  ·rename_i q
   rw [if_neg q]
theorem ownS_step {top : Binds} {x : Line} {rest : List Line} {own : Binds} (h : (indented (x :: rest)).isSome = true) : ownS top (x :: rest) own = match varR (envL [own, top]) x.2 with
  | none => .error (.syn, x.1)
  | some xy => ownS top rest (setB own xy.1 xy.2) := by
 rw [show indented (x :: rest) = if begins x.2 32 = true then some (x, rest) else none from rfl] at h
 split at h
 ·rename_i q
  rw [ownS, if_pos q, envOf_two]
  unfold varR
  cases bindS x.2 with
  | none => rfl
  | some nv =>
   simp only
   cases expandS (envL [own, top]) nv.2 with
   | none => rfl
   | some y => rfl
 ·cases h
def lenVP : Option Value → Nat
 | some (.slice _ n _) => n
 | _ => 0
structure OwnMid (p : PV) (a : Nat → Addr) (B : Nat) (w0 w1 : World) (rb : Nat) (ls : List Line) (S : St) (m : Nat) (sb tb : Nat) (made : List ByteArray) (n3 : Nat) (w : World) (vl : Value) (n : Int) (rest : List Line) (own : Binds) (nn : Nat) : Prop where
 st : PStB { p with vl := vl } a B w rb n rest S m
 eqn : ownS S.top ls [] = ownS S.top rest own
 map : BMap w tb nn own
 row : w.heap[sb]? = some (.cells #[.map (some tb), .pointer (some ⟨p.sb, 0, none⟩)] 302 (0, 0))
 same : ∀ k, w0.heap.size ≤ k → k < w1.heap.size → w.heap[k]? = w1.heap[k]?
 umap : UMap w p.mm n3 made
 bl : Below B w0 w
 few : nn + rest.length ≤ ls.length ∧ own.length + rest.length ≤ ls.length
 bok : BOk own
 tb1 : w1.heap.size ≤ tb ∧ tb < sb ∧ sb < w.heap.size
 w01 : w0.heap.size ≤ w1.heap.size
theorem OwnMid.scopes {p : PV} {a : Nat → Addr} {B : Nat} {w0 w1 : World} {rb : Nat} {ls : List Line} {S : St} {m : Nat} {sb tb : Nat} {made : List ByteArray} {n3 : Nat} {w : World} {vl : Value} {n : Int} {rest : List Line} {own : Binds} {nn : Nat} (h : OwnMid p a B w0 w1 rb ls S m sb tb made n3 w vl n rest own nn) (hs : p.sb < w0.heap.size) : ScopesAt w (.pointer (some ⟨sb, 0, none⟩)) [own, S.top] :=
 ⟨sb, tb, nn, .pointer (some ⟨p.sb, 0, none⟩), rfl, (by show p.sb + 1 ≤ sb; have := h.tb1; have := h.w01; omega), h.row, h.map, p.sb, p.tb, p.n1, .pointer none, rfl, Nat.zero_le _, h.st.const.now.2.1, h.st.top, rfl⟩
theorem OwnMid.bound {p : PV} {a : Nat → Addr} {B : Nat} {w0 w1 : World} {rb : Nat} {ls : List Line} {S : St} {m : Nat} {sb tb : Nat} {made : List ByteArray} {n3 : Nat} {wr w13 w14 : World} {vl vl' : Value} {n : Int} {x : Line} {r : List Line} {own : Binds} {nn : Nat} {xy : ByteArray × ByteArray} (h : OwnMid p a B w0 w1 rb ls S m sb tb made n3 wr vl n (x :: r) own nn) (h13 : PStB { p with vl := vl' } a B w13 rb (x.1 : Nat) r S m) (hg13 : wr.grownBy w13 (some rb)) (hm : BMap w14 tb (nn + 1) (setB own xy.1 xy.2)) (hg14 : w13.grownBy w14 (some tb)) (hv : varR (envL [own, S.top]) x.2 = some xy) (hind : (indented (x :: r)).isSome = true) (hc7 : p.c tb = 7) (hrb : rb < w0.heap.size) (hB : B ≤ rb) (hmm : p.mm < w0.heap.size) (hmr : p.mm ≠ rb) (hx : x.2.size ≤ 4000) : OwnMid p a B w0 w1 rb ls S m sb tb made n3 w14 vl' (x.1 : Nat) r (setB own xy.1 xy.2) (nn + 1) := by
 have h1 := h.tb1
 have h2 := h.w01
 have s13 := hg13.size
 have s14 := hg14.size
 have hb0 := h.bl.size
 have o13 : ∀ k, k < wr.heap.size → k ≠ rb → w13.heap[k]? = wr.heap[k]? := fun k hk hn => hg13.block k hk (fun e => hn (Option.some.inj e))
 have o14 : ∀ k, k < w13.heap.size → k ≠ tb → w14.heap[k]? = w13.heap[k]? := fun k hk hn => hg14.block k hk (fun e => hn (Option.some.inj e))
 have hsz := varR_size hv
 exact {
  st := h13.wrote hg14 (Or.inr hc7)
  eqn := by rw [h.eqn, ownS_step hind, hv]
  map := hm
  row := (o14 sb (by omega) (by omega)).trans ((o13 sb (by omega) (by omega)).trans h.row)
  same := fun k hk1 hk2 => (o14 k (by omega) (by omega)).trans ((o13 k (by omega) (by omega)).trans (h.same k hk1 hk2))
  umap := TMap.keep h.umap ((o14 p.mm (by omega) (by omega)).trans (o13 p.mm (by omega) hmr))
  bl := (h.bl.grown hg13 (by omega) (fun k hk => by have := Option.some.inj hk; omega)).grown hg14 (by omega) (fun k hk => by have := Option.some.inj hk; omega)
  few := by have := h.few; have h3 := setB_length xy.1 xy.2 own; rw [List.length_cons] at this; omega
  bok := setB_ok h.bok (by omega) hsz.2
  tb1 := ⟨h1.1, h1.2.1, by omega⟩
  w01 := h2 }
theorem firstS_small {ms : List ByteArray} {s : Secs} (h : SecsOk ms s) : ∀ y ∈ firstS s, y.size ≤ 32 := by
 obtain ⟨x, _, hf, hx⟩ := h.firstS
 rw [hf]
 exact fun y hy => h.names x hx y hy
theorem behindS_small {ms : List ByteArray} {s : Secs} (h : SecsOk ms s) (m : ByteArray) : ∀ y ∈ behindS s m, y.size ≤ 32 := by
 unfold behindS
 cases hf : s.find? (fun x => decide (x.1 = m)) with
 | none => intro y hy; cases hy
 | some x => exact fun y hy => h.names x (List.mem_of_find?_eq_some hf) y hy
theorem behindS_len (s : Secs) (m : ByteArray) : (behindS s m).length ≤ countS s := by
 unfold behindS
 cases h : s.find? (fun x => decide (x.1 = m)) with
 | none => exact Nat.zero_le _
 | some x => exact countS_mem (List.mem_of_find?_eq_some h)
theorem firstS_len {ms : List ByteArray} {s : Secs} (h : SecsOk ms s) : (firstS s).length ≤ countS s := by
 obtain ⟨x, _, hf, hx⟩ := h.firstS
 rw [hf]
 exact countS_mem hx
theorem restS_good {S : St} {no : Nat} {ls : List Line} {u : ByteArray} {outs ins : Secs} (h : edgeBad S outs ins u = none) : restS S no ls u (.ok outs) (.ok ins) = match ownS S.top ls [] with
  | .error e => .error e
  | .ok ol => .ok ({ S with edges := S.edges ++ [edgeOf outs ins (headB u) ol.1] }, ol.2) := by
 unfold restS
 simp only [h]
end Go.Proofs.YthhbpebihgjpjaaGreatDoor

namespace Go.Proofs.YthhbpebihgjpjaaGreatDoor
set_option maxRecDepth 1000000

theorem spanL_append (p : Nat → Bool) : ∀ (l r : List UInt8), spanL p (l ++ r) = if spanL p l = l.length then l.length + spanL p r else spanL p l
 | [], r => by
  rw [List.nil_append, if_pos (show spanL p [] = ([] : List UInt8).length from rfl)]
  exact (Nat.zero_add _).symm
 | c :: l, r => by
  rw [List.cons_append, spanL, spanL]
  by_cases h : p c.toNat = true
  ·rw [if_pos h, if_pos h, spanL_append p l r, List.length_cons]
   by_cases h2 : spanL p l = l.length
   ·rw [if_pos h2, if_pos (by omega)]; omega
   ·rw [if_neg h2, if_neg (by omega)]
  ·rw [if_neg h, if_neg h, if_neg (by rw [List.length_cons]; omega)]
theorem dolL_append (a b : List UInt8) : dolL (a ++ b) = if dolL b = b.length then b.length + dolL a else dolL b := by
 unfold dolL
 rw [List.reverse_append, spanL_append, List.length_reverse]
theorem dolL_blanks : ∀ l : List UInt8, (∀ c ∈ l, c = 32) → dolL l = 0 := by
 intro l h
 unfold dolL
 cases hr : l.reverse with
 | nil => rfl
 | cons c r =>
  have hc : c ∈ l := by rw [← List.mem_reverse, hr]; exact List.mem_cons_self
  rw [spanL, h c hc]
  rfl
theorem leftB_list (t : ByteArray) : (leftB t).data.toList = t.data.toList.dropWhile fun c => isBl c.toNat := by
 unfold leftB blankLen spanLen
 rw [extract_list, spanL_drop]
theorem blanks_split : ∀ l : List UInt8, ∃ k, l = k ++ l.dropWhile (fun c => isBl c.toNat) ∧ ∀ c ∈ k, c = 32
 | [] => ⟨[], rfl, fun c hc => by cases hc⟩
 | d :: l => by
  by_cases hd : isBl d.toNat = true
  ·obtain ⟨k, hk, hb⟩ := blanks_split l
   refine ⟨d :: k, ?_, fun c hc => ?_⟩
   ·rw [List.dropWhile_cons, if_pos hd]
    conv => lhs; rw [hk]
    rfl
   ·rcases List.mem_cons.1 hc with rfl | hc
    ·unfold isBl at hd
     simp only [beq_iff_eq] at hd
     exact UInt8.toNat_inj.1 hd
    ·exact hb c hc
  ·exact ⟨[], by rw [List.dropWhile_cons, if_neg hd]; rfl, fun c hc => by cases hc⟩
theorem dol_left (x : ByteArray) : dolB (leftB x) = dolB x := by
 unfold dolB
 rw [leftB_list]
 obtain ⟨k, hk, hb⟩ := blanks_split x.data.toList
 conv => rhs; rw [hk]
 rw [dolL_append, dolL_blanks k hb]
 split <;> omega
theorem odd_left (x : ByteArray) : oddB (leftB x) = oddB x := by unfold oddB; rw [dol_left]
theorem dolB_append (a b : ByteArray) : dolB (a ++ b) = if dolB b = b.size then b.size + dolB a else dolB b := by
 unfold dolB
 rw [ByteArray.data_append, Array.toList_append, dolL_append, Array.length_toList]
 rfl
theorem odd_join (s x : ByteArray) (h : oddB s = false) : oddB (s ++ leftB x) = oddB x := by
 have hs := of_decide_eq_false h
 rw [← odd_left x]
 unfold oddB
 rw [dolB_append]
 by_cases hd : dolB (leftB x) = (leftB x).size
 ·rw [if_pos hd]
  exact decide_eq_decide.2 (by omega)
 ·rw [if_neg hd]
theorem odd_pos {x : ByteArray} (h : oddB x = true) : 0 < x.size := by
 have h1 := of_decide_eq_true h
 have h2 := dolB_le x
 omega
theorem extract_init (x : ByteArray) : (x.extract 0 (x.size - 1)).data.toList = x.data.toList.dropLast := by
 rw [ByteArray.data_extract, Array.toList_extract, List.dropLast_eq_take, Array.length_toList]
 rfl
theorem part_join (s x : ByteArray) (h : oddB s = false) : partB (s ++ leftB x) = s ++ leftB (partB x) := by
 unfold partB
 rw [odd_join s x h]
 by_cases ho : oddB x = true
 ·rw [if_pos ho, if_pos ho]
  have hl : 0 < (leftB x).size := odd_pos ((odd_left x).trans ho)
  apply ByteArray.ext
  apply Array.toList_inj.1
  rw [extract_init, ByteArray.data_append, ByteArray.data_append, Array.toList_append, Array.toList_append, leftB_list, leftB_list, extract_init]
  have hne : x.data.toList.dropWhile (fun c => isBl c.toNat) ≠ [] := by
   rw [← leftB_list]
   intro e
   have := congrArg List.length e
   rw [Array.length_toList] at this
   exact absurd this (by show ¬ (leftB x).size = 0; omega)
  rw [List.dropLast_append_of_ne_nil hne]
  congr 1
  obtain ⟨k, hk, hb⟩ := blanks_split x.data.toList
  generalize hD : x.data.toList.dropWhile (fun c => isBl c.toNat) = D at *
  rw [hk, List.dropLast_append_of_ne_nil hne]
  have hall : ∀ c ∈ k, isBl c.toNat = true := fun c hc => by rw [hb c hc]; rfl
  rw [List.dropWhile_append_of_pos hall]
  cases D with
  | nil => exact absurd rfl hne
  | cons d D =>
   have hd : isBl d.toNat = false := by
    have := List.head?_dropWhile_not (fun c : UInt8 => isBl c.toNat) x.data.toList
    rw [hD] at this
    simpa using this
   cases D with
   | nil => rfl
   | cons e D =>
    rw [show (d :: e :: D).dropLast = d :: (e :: D).dropLast from rfl, List.dropWhile_cons, hd]
    rfl
 ·rw [if_neg ho, if_neg ho]
theorem odd_part (x : ByteArray) (h : oddB x = true) : oddB (partB x) = false := by
 have hp := odd_pos h
 unfold partB
 rw [if_pos h]
 have h1 := of_decide_eq_true h
 unfold oddB
 refine decide_eq_false ?_
 have e : dolB x = dolB (x.extract 0 (x.size - 1)) + 1 := by
  unfold dolB dolL
  rw [extract_init]
  have hne : x.data.toList ≠ [] := by
   intro e
   have := congrArg List.length e
   rw [Array.length_toList] at this
   exact absurd this (by show ¬ x.size = 0; omega)
  have hlast := List.dropLast_concat_getLast hne
  have hodd : spanL (· == 36) x.data.toList.reverse ≠ 0 := by
   intro e
   have : dolB x = 0 := e
   omega
  rw [← hlast, List.reverse_append] at hodd ⊢
  rw [List.dropLast_concat]
  show spanL (· == 36) (x.data.toList.getLast hne :: x.data.toList.dropLast.reverse) = _
  have h36 : ((x.data.toList.getLast hne).toNat == 36) = true := by
   cases hq : ((x.data.toList.getLast hne).toNat == 36) with
   | true => rfl
   | false =>
    refine absurd ?_ hodd
    show spanL (· == 36) (x.data.toList.getLast hne :: x.data.toList.dropLast.reverse) = 0
    rw [spanL, if_neg (by rw [hq]; decide)]
  rw [spanL, if_pos h36]
 omega
end Go.Proofs.YthhbpebihgjpjaaGreatDoor
