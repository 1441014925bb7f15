import Derived.Test.YthhbpebihgjpjaaGreatDoorP07
import Derived.Test.YthhbpebihgjpjaaGreatDoorP05
import Derived.Test.YthhbpebihgjpjaaGreatDoorP11
import Derived.Test.YthhbpebihgjpjaaGreatDoorP15
import Derived.Laws.MakeOwn
import Derived.BigRegion
namespace Go.Proofs.YthhbpebihgjpjaaGreatDoor
open Go.RowKit
set_option maxRecDepth 1000000

theorem joinP_snoc : ∀ (l : List ByteArray) (y : ByteArray), joinP (l ++ [y]) = if l = [] then y else joinP l ++ ⟨#[32]⟩ ++ y
 | [], y => rfl
 | x :: l, y => by
  rw [if_neg (by simp)]
  show (l ++ [y]).foldl _ x = _
  rw [List.foldl_append]
  rfl
theorem joinP_fold (M : Nat) : ∀ (l : List ByteArray) (a : ByteArray), (∀ y ∈ l, y.size ≤ M) → (l.foldl (fun a y => a ++ ⟨#[32]⟩ ++ y) a).size ≤ a.size + l.length * (M + 1)
 | [], a, _ => Nat.le_add_right _ _
 | y :: l, a, h => by
  have h1 := joinP_fold M l (a ++ ⟨#[32]⟩ ++ y) (fun z hz => h z (List.mem_cons_of_mem _ hz))
  have h2 := h y List.mem_cons_self
  rw [ByteArray.size_append, ByteArray.size_append] at h1
  have : (⟨#[32]⟩ : ByteArray).size = 1 := rfl
  rw [List.foldl_cons, List.length_cons, Nat.add_mul]
  omega
theorem joinP_size (M : Nat) (l : List ByteArray) (h : ∀ y ∈ l, y.size ≤ M) : (joinP l).size ≤ l.length * (M + 1) := by
 cases l with
 | nil => exact Nat.zero_le _
 | cons x l =>
  have h1 := joinP_fold M l x (fun z hz => h z (List.mem_cons_of_mem _ hz))
  have h2 := h x List.mem_cons_self
  show (l.foldl _ x).size ≤ _
  rw [List.length_cons, Nat.add_mul]
  omega
set_option maxHeartbeats 2000000 in
theorem joined_any (l : List ByteArray) (v : Value) (w : World) (h : TextsAt w v l) (hl : l.length ≤ 10000) (hs : ∀ y ∈ l, y.size ≤ 10000) :
  Calls Tryz.prog 212 #[v] w fun e w' => e = .returned (.string (joinP l)) ∧ w' = w := by
 obtain ⟨ao, cap, rfl, hc, h⟩ := h
 have H : Hid (((ao = none → cap = 0) ∧ l = [] ∧ True) ∨ ∃ b o, ao = some ⟨b, o, none⟩ ∧ ∀ k s, l[k]? = some s → w.cell? ⟨b, o + k, none⟩ = some (.string s)) := h
 have HS : Hid (∀ y ∈ l, y.size ≤ 10000) := hs
 have n0 : (l.length : Int) ≤ 10000 := by omega
 clear h hs
 generalize hL : l.length = L at *
 have HL : Hid (l.length = L) := hL
 clear hL
 go_enter Tryz.func212, Tryz.ntmps212
 go_wp2
 go_loop [3, 4] (fun t i => ∃ j : Nat, i = .int .i64 j ∧ t = .string (joinP (l.take j)) ∧ j ≤ L) (fun _ i => L - (intOf i).toNat)
 case atStart => exact ⟨0, rfl, rfl, Nat.zero_le _⟩
 case round =>
  obtain ⟨j, rfl, rfl, hle⟩ := hrel
  have j0 : (0 : Int) ≤ (j : Int) := by omega
  by_cases hlt : j < L
  ·obtain ⟨y, hy⟩ : ∃ y, l[j]? = some y := ⟨l[j]'(by have := HL.out; omega), by simp⟩
   obtain ⟨g1, o1, rfl, q1⟩ : ∃ b o, ao = some ⟨b, o, none⟩ ∧ ∀ k s, l[k]? = some s → w.cell? ⟨b, o + k, none⟩ = some (.string s) := by
    rcases H.out with e | e
    ·rw [e.2.1] at hy; simp at hy
    ·exact e
   have r1 := q1 j y hy
   have j1 : (j : Int) < (L : Int) := by omega
   have hsz : (joinP (l.take j)).size ≤ 200000000 := by
    have h1 := joinP_size 10000 (l.take j) (fun z hz => HS.out z (List.mem_of_mem_take hz))
    have h2 : (l.take j).length ≤ 10000 := Nat.le_trans (List.length_take_le _ _) (by omega)
    have h3 := Nat.mul_le_mul_right (10000 + 1) h2
    omega
   have hys := HS.out y (List.mem_of_getElem? hy)
   have HNX : Hid (joinP (l.take (j + 1)) = if l.take j = [] then y else joinP (l.take j) ++ ⟨#[32]⟩ ++ y) := by
    show _ = _
    obtain ⟨h1, h2⟩ := List.getElem?_eq_some_iff.1 hy
    rw [List.take_succ_eq_append_getElem h1, h2, joinP_snoc]
   clear q1 hy
   by_cases h0 : j = 0
   ·subst h0
    rw [Nat.add_zero] at r1
    have HN : Hid (joinP (l.take (0 + 1)) = joinP (l.take 0) ++ y) := by
     rw [HNX.out]
     show (if ([] : List ByteArray) = [] then y else _) = (⟨#[]⟩ : ByteArray) ++ y
     rw [if_pos rfl]
     exact ByteArray.empty_append.symm
    generalize joinP (l.take 0) = J at *
    have hcs : ¬ 9223372036854775807 < J.size + y.size := by omega
    go_wp2
    exact ⟨⟨0 + 1, by go_num, by rw [HN.out], hlt⟩, by simp [intOf]; omega⟩
   ·have HN : Hid (joinP (l.take (j + 1)) = joinP (l.take j) ++ ⟨#[32]⟩ ++ y) := by
     rw [HNX.out, if_neg (by
      intro e
      have := congrArg List.length e
      rw [List.length_take, HL.out] at this
      simp at this
      omega)]; rfl
    have j2 : (0 : Int) < (j : Int) := by omega
    generalize joinP (l.take j) = J at *
    have hcs1 : ¬ 9223372036854775807 < J.size + (⟨#[32]⟩ : ByteArray).size := by have : (⟨#[32]⟩ : ByteArray).size = 1 := rfl; omega
    have hjs : (J ++ ⟨#[32]⟩).size = J.size + 1 := by rw [ByteArray.size_append]; rfl
    have hcs : ¬ 9223372036854775807 < (J ++ ⟨#[32]⟩).size + y.size := by omega
    have hcs2 : ¬ 9223372036854775807 < J.size + 1 := by omega
    have hcs3 : ¬ 9223372036854775807 < J.size + 1 + y.size := by omega
    go_wp2
    exact ⟨⟨j + 1, by go_num, by rw [HN.out], hlt⟩, by simp [intOf]; omega⟩
  ·obtain rfl : j = L := by omega
   have HE : Hid (joinP (l.take j) = joinP l) := by show _ = _; rw [← HL.out, List.take_length]
   go_wp2
   go_ret
   exact ⟨by rw [HE.out]; rfl, rfl⟩
theorem bcellsB_at {l : Binds} {i : Nat} {x : ByteArray × ByteArray} (h : l[i]? = some x) : (bcellsB l)[i * 2]? = some (.string x.1) ∧ (bcellsB l)[i * 2 + 1]? = some (.string x.2) := two_cells _ _ l i x h
theorem binds_of_row {w : World} {base : Nat} {v : Value} {l : Binds} (h : w.ownsRow base 338 2 v l.length (bcellsB l)) : BindsAt w v l := by
 obtain ⟨ao, cap, rfl, hc, hg⟩ := row_form h
 refine ⟨ao, cap, rfl, hc, ?_⟩
 by_cases h0 : l = []
 ·exact Or.inl ⟨h0, trivial⟩
 ·obtain ⟨g, rfl⟩ := hg (List.length_pos_iff.2 h0)
  refine Or.inr ⟨g, 0, rfl, fun k x hx => ?_⟩
  have hc := bcellsB_at hx
  rw [Nat.zero_add]
  exact ⟨(row_cell h _ _ hc.1).1, (row_cell h _ _ hc.2).1⟩
theorem setB_idx {x t : ByteArray} : ∀ {l : Binds} {k : Nat}, bindIdx l x = some k → setB l x t = l.set k (x, t)
 | [], k, h => by cases h
 | y :: l, k, h => by
  unfold bindIdx at h
  rw [List.findIdx?_cons] at h
  rw [setB]
  by_cases hy : y.1 = x
  ·rw [if_pos hy]
   rw [decide_eq_true hy] at h
   obtain rfl := Option.some.inj h
   rfl
  ·rw [if_neg hy]
   rw [decide_eq_false hy] at h
   obtain ⟨k', h', rfl⟩ := Option.map_eq_some_iff.1 h
   rw [setB_idx (l := l) h']; rfl
theorem bcellsB_set {x t : ByteArray} : ∀ {l : Binds} {k : Nat}, (∃ y, l[k]? = some y ∧ y.1 = x) → (bcellsB l).set (k * 2 + 1) (.string t) = bcellsB (l.set k (x, t))
 | [], k, h => by obtain ⟨y, h, _⟩ := h; simp at h
 | y :: l, 0, h => by
  obtain ⟨z, h, e⟩ := h
  simp only [List.getElem?_cons_zero, Option.some.injEq] at h
  subst h
  rw [← e]
  rfl
 | y :: l, k + 1, h => by
  have := bcellsB_set (x := x) (t := t) (l := l) (k := k) (by simpa using h)
  show (Value.string y.1 :: .string y.2 :: bcellsB l).set ((k + 1) * 2 + 1) _ = .string y.1 :: .string y.2 :: bcellsB (l.set k (x, t))
  rw [← this, show (k + 1) * 2 + 1 = k * 2 + 1 + 1 + 1 by omega]
  rfl
set_option maxHeartbeats 4000000 in
theorem rset_any (l : Binds) (v : Value) (x t : ByteArray) (B : Nat) (w : World) (h : w.ownsRow B 338 2 v l.length (bcellsB l)) (hl : l.length ≤ 10000) (hB : B ≤ w.heap.size) :
  Calls Tryz.prog 213 #[v, .string x, .string t] w fun e w' => ∃ v', e = .returned v' ∧ w'.ownsRow B 338 2 v' (setB l x t).length (bcellsB (setB l x t)) ∧ w.grownBy w' v.ownBlock ∧ (∀ k, v'.ownBlock = some k → v.ownBlock = some k ∨ w.heap.size ≤ k) := by
 have hinf : (Tryz.prog.info? 338).map (fun i => (i.size, i.bytes, i.zero)) = some (2, 32, some (.agg #[.string ⟨#[]⟩, .string ⟨#[]⟩])) := by kernel_rfl
 obtain ⟨ti, hti, htj⟩ := Option.map_eq_some_iff.1 hinf
 simp only [Prod.mk.injEq] at htj
 have HTI : Hid (Tryz.prog.info? 338 = some ti ∧ ti.size = 2 ∧ ti.bytes = 32 ∧ ti.zero = some (.agg #[.string ⟨#[]⟩, .string ⟨#[]⟩])) := ⟨hti, htj.1, htj.2.1, htj.2.2⟩
 clear hinf hti htj
 have HF : Hid (Calls Tryz.prog 214 #[v, .string x] w fun e w' => e = .returned (.int .i64 (idxI (bindIdx l x))) ∧ w' = w) := rfind_any l v x w (binds_of_row h) (by omega)
 have HO : Hid (w.ownsRow B 338 2 v l.length (bcellsB l)) := h
 obtain ⟨ao, cap, rfl, hc, hg⟩ := row_form h
 clear h
 generalize hL : l.length = L at *
 have HL : Hid (l.length = L) := hL
 clear hL
 cases hi : bindIdx l x with
 | some k =>
  obtain ⟨hk, hx, _⟩ := List.findIdx?_eq_some_iff_getElem.1 (show l.findIdx? (fun y => decide (y.1 = x)) = some k from hi)
  have hkL : k < L := by have := HL.out; omega
  obtain ⟨g, rfl⟩ := hg (by omega)
  have hy : ∃ y, l[k]? = some y ∧ y.1 = x := ⟨l[k], by simp, of_decide_eq_true hx⟩
  obtain ⟨y, hy1, hy2⟩ := hy
  have hcell := row_cell HO.out (k * 2 + 1) (.string y.2) (bcellsB_at hy1).2
  have c1 := hcell.1
  have f1 := hcell.2
  have k0 : (0 : Int) ≤ (k : Int) := by omega
  have k1 : (k : Int) < (L : Int) := by omega
  rw [hi] at HF
  have HFIN : Hid ((w.setCell ⟨g, k * 2 + 1, none⟩ (.string t)).ownsRow B 338 2 (.slice (some ⟨g, 0, none⟩) L cap) (setB l x t).length (bcellsB (setB l x t))) := by
   have h := row_set HO.out (k * 2 + 1) (.string t)
   rw [bcellsB_set ⟨y, hy1, hy2⟩] at h
   show World.ownsRow _ _ _ _ _ _ _
   rw [setB_idx hi, List.length_set, HL.out]
   exact h
  have HGR : Hid (w.grownBy (w.setCell ⟨g, k * 2 + 1, none⟩ (.string t)) (some g)) := ⟨rfl, rfl, rfl, by simp, fun j _ hn => heap_setCell_other _ _ _ _ (fun e => hn (by rw [e]))⟩
  clear hcell hx hy1 hy2
  go_enter Tryz.func213, Tryz.ntmps213
  go_wp2_with fail
  refine HF.out.mono ?_
  rintro e w1 ⟨rfl, rfl⟩
  simp only [idxI]
  go_wp2_with fail
  go_ret
  exact ⟨_, rfl, HFIN.out, HGR.out, fun j hj => Or.inl hj⟩
 | none =>
  rw [hi] at HF
  have HSB : Hid (setB l x t = l ++ [(x, t)]) := setB_new (bindOf_none hi)
  go_enter Tryz.func213, Tryz.ntmps213
  go_wp2_with fail
  refine HF.out.mono ?_
  rintro e w1 ⟨rfl, rfl⟩
  simp only [idxI]
  go_wp2_with (at_builtin; refine wpList_append_lies _ rfl (.tmp 19) (.tmp 23) 327 rfl B 338 ti (.agg #[.string ⟨#[]⟩, .string ⟨#[]⟩]) 2 32 Tryz.underlying327 HTI.out.1 HTI.out.2.2.2 HTI.out.2.1 HTI.out.2.2.1 rfl (by decide) _ L (bcellsB l) rfl (by exact rkeep HO.out (fun k hk => heapA_old w1 _ k (rblock HO.out k hk).2)) ⟨w1.heap.size, 0, none⟩ 1 1 [.string x, .string t] rfl rfl (by exact newCells w1 _ _) (by intro u hu; simp only [List.mem_cons, List.not_mem_nil, or_false] at hu; rcases hu with rfl | rfl <;> rfl) (by decide) (by unfold maxLen; omega) (by omega) (by simp; omega) _ rfl ?_; intro g6 cap6 w6 hv6 hg6 hat6 hlt6; refine Hid.out ?_)
  have HFIN : Hid (w6.ownsRow B 338 2 (.slice (some ⟨g6, 0, none⟩) (L + 1) cap6) (setB l x t).length (bcellsB (setB l x t))) := by
   show World.ownsRow _ _ _ _ _ _ _
   rw [HSB.out, List.length_append, HL.out]
   have e : bcellsB (l ++ [(x, t)]) = bcellsB l ++ [.string x, .string t] := by simp [bcellsB]
   rw [e]; exact hv6
  have HGR : Hid (w1.grownBy w6 (Value.slice ao L cap).ownBlock) := ⟨hg6.os, hg6.tape, hg6.output, by have := hg6.size; simp at this; omega, fun j hj hn => (hg6.block j (by simp; omega) hn).trans (heapA_old w1 _ j hj)⟩
  have HAT : Hid (∀ k, (Value.slice (some ⟨g6, 0, none⟩) (L + 1) cap6).ownBlock = some k → (Value.slice ao L cap).ownBlock = some k ∨ w1.heap.size ≤ k) := fun k hk => by
   have e : g6 = k := Option.some.inj hk
   subst e
   rcases hat6 with e2 | e2
   ·exact Or.inl e2
   ·right; rw [e2]; simp
  clear hv6 hg6 hat6 hlt6
  unfold Hid
  go_wp2_with fail
  go_ret
  exact ⟨_, rfl, HFIN.out, HGR.out, HAT.out⟩
end Go.Proofs.YthhbpebihgjpjaaGreatDoor

namespace Go.Proofs.YthhbpebihgjpjaaGreatDoor
open Go.RowKit Go.Shelf
set_option maxRecDepth 1000000

theorem joinP_list : ∀ (q : List ByteArray) (x : ByteArray), (q.foldl (fun a y => a ++ ⟨#[32]⟩ ++ y) x).data.toList = x.data.toList ++ Lib.joinTail [32] (q.map (·.data.toList))
 | [], x => by simp [Lib.joinTail]
 | y :: r, x => by
  rw [List.foldl_cons, joinP_list r]
  simp [Lib.joinTail, ByteArray.data_append]
theorem pjoin_any (l : List ByteArray) (v : Value) (w : World) (h : TextsAt w v l) (hl : l.length ≤ 10000) (hs : ∀ y ∈ l, y.size ≤ 10000) :
  Calls Tryz.prog 200 #[v, .string ⟨#[32]⟩] w fun e w' => e = .returned (.string (joinP l)) ∧ Below w.heap.size w w' := by
 obtain ⟨ao, cap, rfl, hcap, h⟩ := h
 cases l with
 | nil =>
  refine (Any.strings_Join_none Tryz.lays156 Tryz.Builder_Extra_156 ao cap ⟨#[32]⟩ w).mono ?_
  rintro e w' ⟨he, hw⟩
  exact ⟨he, by rw [hw]; exact Below.refl _ _⟩
 | cons x q =>
  obtain ⟨b, o, rfl, hc⟩ : ∃ b o, ao = some ⟨b, o, none⟩ ∧ ∀ k s, (x :: q)[k]? = some s → w.cell? ⟨b, o + k, none⟩ = some (.string s) := by
   rcases h with e | e
   ·cases e.2.1
   ·exact e
  have hj : Lib.join ((x :: q).map (·.data.toList)) (ByteArray.mk #[32]).data.toList = (joinP (x :: q)).data.toList := by
   rw [List.map_cons, Lib.join_cons]
   exact (joinP_list q x).symm
  have hz := joinP_size 10000 (x :: q) hs
  have hz2 : (joinP (x :: q)).size ≤ 10000 * 10001 := Nat.le_trans hz (Nat.mul_le_mul_right _ hl)
  refine (Any.strings_Join Tryz.lays156 Tryz.Builder_Extra_156 b o cap (x :: q) ⟨#[32]⟩ w hc (block_lt_of_cell (hc 0 x rfl)) (by omega) hcap ?_).mono ?_
  ·rw [hj]
   show (joinP (x :: q)).size ≤ _
   omega
  ·rintro e w' ⟨he, hw⟩
   refine ⟨?_, hw⟩
   rw [he, hj]
end Go.Proofs.YthhbpebihgjpjaaGreatDoor

namespace Go.Proofs.YthhbpebihgjpjaaGreatDoor
open Go.RowKit Go.Maps
set_option maxRecDepth 1000000

def ecell (d : DraftV) (c : ByteArray) : List Value := [d.vo, d.vi, d.vm, d.vr, .string d.rule, .string c]
def ecells : List DraftV → List ByteArray → List Value
 | d :: ds, c :: cs => ecell d c ++ ecells ds cs
 | _, _ => []
theorem ecells_snoc : ∀ (ds : List DraftV) (cs : List ByteArray) (d : DraftV) (c : ByteArray), ds.length = cs.length → ecells (ds ++ [d]) (cs ++ [c]) = ecells ds cs ++ ecell d c
 | [], [], d, c, _ => by simp [ecells]
 | x :: ds, y :: cs, d, c, h => by
  show ecell x y ++ ecells (ds ++ [d]) (cs ++ [c]) = (ecell x y ++ ecells ds cs) ++ _
  rw [ecells_snoc ds cs d c (by simpa using h), List.append_assoc]
 | [], _ :: _, _, _, h => by cases h
 | _ :: _, [], _, _, h => by cases h
theorem commands_some (S : St) : ∀ (es : List EdgeS) (cs : List ByteArray), cs.length = es.length → (∀ (k : Nat) e c, es[k]? = some e → cs[k]? = some c → commandS S e = some c) → commandsS S es = some cs
 | [], [], _, _ => rfl
 | e :: es, c :: cs, h, hk => by
  have h0 := hk 0 e c rfl rfl
  have h1 := commands_some S es cs (by simpa using h) (fun k e c h1 h2 => hk (k + 1) e c (by simpa using h1) (by simpa using h2))
  rw [commandsS, h0, h1]; rfl
 | [], _ :: _, h, _ => by cases h
 | _ :: _, [], h, _ => by cases h
theorem commands_none (S : St) : ∀ (es : List EdgeS) (k : Nat) (e : EdgeS), es[k]? = some e → commandS S e = none → commandsS S es = none
 | [], k, e, h, _ => by simp at h
 | x :: es, 0, e, h, hn => by
  simp only [List.getElem?_cons_zero, Option.some.injEq] at h
  subst h
  rw [commandsS, hn]
 | x :: es, k + 1, e, h, hn => by
  have h1 := commands_none S es k e (by simpa using h) hn
  rw [commandsS, h1]
  cases commandS S x <;> rfl
theorem dcells_at : ∀ (ds : List DraftV) (j : Nat) (d : DraftV) (i : Nat), ds[j]? = some d → i < 7 → (dcells ds)[j * 7 + i]? = d.cells[i]?
 | [], j, d, i, h, _ => by simp at h
 | x :: ds, 0, d, i, h, hi => by
  simp only [List.getElem?_cons_zero, Option.some.injEq] at h
  subst h
  show (x.cells ++ dcells ds)[0 * 7 + i]? = _
  rw [Nat.zero_mul, Nat.zero_add, List.getElem?_append_left (by show i < 7; exact hi)]
 | x :: ds, j + 1, d, i, h, hi => by
  show (x.cells ++ dcells ds)[(j + 1) * 7 + i]? = _
  rw [List.getElem?_append_right (by show 7 ≤ _; omega), show (j + 1) * 7 + i - x.cells.length = j * 7 + i by show (j + 1) * 7 + i - 7 = _; omega]
  exact dcells_at ds j d i (by simpa using h) hi
theorem joinP32 {l : List ByteArray} (h : ∀ x ∈ l, x.size ≤ 32) : (joinP l).size ≤ 33 * l.length := by
 have hf : ∀ (l : List ByteArray) (a : ByteArray), (∀ x ∈ l, x.size ≤ 32) → (l.foldl (fun a y => a ++ ⟨#[32]⟩ ++ y) a).size ≤ a.size + 33 * l.length := by
  intro l
  induction l with
  | nil => intro a _; exact Nat.le_refl _
  | cons y l ih =>
   intro a hl
   have h1 := ih (a ++ ⟨#[32]⟩ ++ y) (fun x hx => hl x (List.mem_cons_of_mem _ hx))
   have h2 := hl y List.mem_cons_self
   rw [ByteArray.size_append, ByteArray.size_append] at h1
   have h3 : (⟨#[32]⟩ : ByteArray).size = 1 := rfl
   rw [List.foldl_cons, List.length_cons]
   omega
 cases l with
 | nil => exact Nat.zero_le _
 | cons x l =>
  have h1 := hf l x (fun y hy => h y (List.mem_cons_of_mem _ hy))
  have h2 := h x List.mem_cons_self
  rw [List.length_cons]
  show (l.foldl _ x).size ≤ _
  omega
theorem envL_le {N : Nat} {ls : List Binds} (h : ∀ l ∈ ls, ∀ x ∈ l, x.2.size ≤ N) (x : ByteArray) : (envL ls x).size ≤ N := by
 induction ls with
 | nil => exact Nat.zero_le _
 | cons l ls ih =>
  rw [envL]
  cases hb : bindOf l x with
  | none => exact ih (fun l hl => h l (List.mem_cons_of_mem _ hl))
  | some y =>
   obtain ⟨z, hz, _, rfl⟩ := bindOf_mem hb
   exact h l List.mem_cons_self z hz
theorem envL_nil2 {ls : List Binds} (h : ∀ l ∈ ls, ∀ x ∈ l, 0 < x.1.size) : envL ls ⟨#[]⟩ = ⟨#[]⟩ := by
 induction ls with
 | nil => rfl
 | cons l ls ih =>
  rw [envL]
  cases hb : bindOf l ⟨#[]⟩ with
  | none => exact ih (fun l hl => h l (List.mem_cons_of_mem _ hl))
  | some y =>
   obtain ⟨z, hz, e, _⟩ := bindOf_mem hb
   have := h l List.mem_cons_self z hz
   rw [e] at this
   exact absurd this (by decide)
def inOut (e : EdgeS) : Binds := setB (setB [] tIn (joinP e.ins)) tOut (joinP e.outs)
theorem inOut_is (e : EdgeS) : inOut e = [(tIn, joinP e.ins), (tOut, joinP e.outs)] := by
 unfold inOut
 show setB [(tIn, joinP e.ins)] tOut _ = _
 rw [setB, if_neg (show ¬ tIn = tOut by decide), setB]
theorem commandS_is (S : St) (e : EdgeS) : commandS S e = expandS (envL [inOut e, e.own, S.top]) ((bindOf S.rules e.rule).getD ⟨#[]⟩) := by
 unfold commandS
 rw [env_three]; rfl
def finEnd (a : Nat → Addr) (n : Int) (W0 : Nat) (ds : List DraftV) (L : Nat) (r : Option (List ByteArray)) (e : Ending) (w' : World) : Prop := match r with
 | none => Stopped n (reasonV a 4) e w'
 | some cs => ∃ v, e = .returned v ∧ w'.ownsRow W0 63 6 v L (ecells ds cs)
theorem ruleSize {S : St} {m : Nat} {ls : List Line} (h : SOk S m ls) (x : ByteArray) : ((bindOf S.rules x).getD ⟨#[]⟩).size ≤ 4000 := by
 cases hb : bindOf S.rules x with
 | none => exact Nat.zero_le _
 | some y =>
  obtain ⟨z, hz, _, rfl⟩ := bindOf_mem hb
  exact h.rules z hz
theorem DraftsAt.keepB {w w' : World} {sb : Nat} {ds : List DraftV} {es : List EdgeS} (h : DraftsAt w sb ds es) (hb : ∀ k, k < w.heap.size → w'.heap[k]? = w.heap[k]?) : DraftsAt w' sb ds es := by
 refine ⟨h.1, fun k d e hd he => ?_⟩
 have q := h.2 k d e hd he
 have hk : ∀ {v : Value} {l : List ByteArray}, TextsAt w v l → TextsAt w' v l := by
  rintro v l ⟨ao, cap, rfl, hc, q | ⟨b, o, rfl, q⟩⟩
  ·exact ⟨ao, cap, rfl, hc, Or.inl q⟩
  ·exact ⟨_, cap, rfl, hc, Or.inr ⟨b, o, rfl, fun k s hs => (World.cell?_of_block (w := w) (a := ⟨b, o + k, none⟩) (hb b (block_lt_of_cell (q k s hs)))).trans (q k s hs)⟩⟩
 obtain ⟨tb, n, h1, h2, h3⟩ := q.own
 exact ⟨hk q.outs, hk q.ins, hk q.impl, hk q.ord, q.rule, tb, n, h1, (hb _ (heap_lt h2)).trans h2, TMap.keep h3 (hb _ h3.lt)⟩
theorem inOut_le {e : EdgeS} (h1 : e.ins.length ≤ 4000) (h2 : e.outs.length ≤ 8000) (h3 : ∀ x ∈ e.outs, x.size ≤ 32) (h4 : ∀ x ∈ e.ins, x.size ≤ 32) : ∀ x ∈ inOut e, x.2.size ≤ 1000000 ∧ 0 < x.1.size := by
 intro x hx
 rw [inOut_is] at hx
 rcases List.mem_cons.1 hx with rfl | hx
 ·have := joinP32 h4; exact ⟨by show (joinP e.ins).size ≤ _; omega, by show 0 < tIn.size; decide⟩
 ·obtain rfl := List.mem_singleton.1 hx
  have := joinP32 h3; exact ⟨by show (joinP e.outs).size ≤ _; omega, by show 0 < tOut.size; decide⟩
end Go.Proofs.YthhbpebihgjpjaaGreatDoor
