import Derived.Test.YthhbpebihgjpjaaGreatDoorP07
import Derived.Test.YthhbpebihgjpjaaGreatDoorP05
import Derived.Test.YthhbpebihgjpjaaGreatDoorP11
import Derived.Test.YthhbpebihgjpjaaGreatDoorP04
import Derived.BigRegion
import Derived.Test.YthhbpebihgjpjaaGreatDoorP17
import Derived.Test.YthhbpebihgjpjaaGreatDoorP09
namespace Go.Proofs.YthhbpebihgjpjaaGreatDoor
open Go.RowKit
set_option maxRecDepth 1000000

theorem joinP_snoc : ∀ (l : List ByteArray) (y : ByteArray), joinP (l ++ [y]) = if l = [] then y else joinP l ++ ⟨#[32]⟩ ++ y
 | [], y => rfl
 | x :: l, y => by
  rw [if_neg (by simp)]
  show (l ++ [y]).foldl _ x = _
  rw [List.foldl_append]
  rfl
theorem joinP_fold (M : Nat) : ∀ (l : List ByteArray) (a : ByteArray), (∀ y ∈ l, y.size ≤ M) → (l.foldl (fun a y => a ++ ⟨#[32]⟩ ++ y) a).size ≤ a.size + l.length * (M + 1)
 | [], a, _ => Nat.le_add_right _ _
 | y :: l, a, h => by
  have h1 := joinP_fold M l (a ++ ⟨#[32]⟩ ++ y) (fun z hz => h z (List.mem_cons_of_mem _ hz))
  have h2 := h y List.mem_cons_self
  rw [ByteArray.size_append, ByteArray.size_append] at h1
  have : (⟨#[32]⟩ : ByteArray).size = 1 := rfl
  rw [List.foldl_cons, List.length_cons, Nat.add_mul]
  omega
theorem joinP_size (M : Nat) (l : List ByteArray) (h : ∀ y ∈ l, y.size ≤ M) : (joinP l).size ≤ l.length * (M + 1) := by
 cases l with
 | nil => exact Nat.zero_le _
 | cons x l =>
  have h1 := joinP_fold M l x (fun z hz => h z (List.mem_cons_of_mem _ hz))
  have h2 := h x List.mem_cons_self
  show (l.foldl _ x).size ≤ _
  rw [List.length_cons, Nat.add_mul]
  omega
set_option maxHeartbeats 2000000 in
theorem joined_any (l : List ByteArray) (v : Value) (w : World) (h : TextsAt w v l) (hl : l.length ≤ 10000) (hs : ∀ y ∈ l, y.size ≤ 10000) :
  Calls Tryz.prog 212 #[v] w fun e w' => e = .returned (.string (joinP l)) ∧ w' = w := by
 obtain ⟨ao, cap, rfl, hc, h⟩ := h
 have H : Hid (((ao = none → cap = 0) ∧ l = [] ∧ True) ∨ ∃ b o, ao = some ⟨b, o, none⟩ ∧ ∀ k s, l[k]? = some s → w.cell? ⟨b, o + k, none⟩ = some (.string s)) := h
 have HS : Hid (∀ y ∈ l, y.size ≤ 10000) := hs
 have n0 : (l.length : Int) ≤ 10000 := by omega
 clear h hs
 generalize hL : l.length = L at *
 have HL : Hid (l.length = L) := hL
 clear hL
 go_enter Tryz.func212, Tryz.ntmps212
 go_wp2
 go_loop [3, 4] (fun t i => ∃ j : Nat, i = .int .i64 j ∧ t = .string (joinP (l.take j)) ∧ j ≤ L) (fun _ i => L - (intOf i).toNat)
 case atStart => exact ⟨0, rfl, rfl, Nat.zero_le _⟩
 case round =>
  obtain ⟨j, rfl, rfl, hle⟩ := hrel
  have j0 : (0 : Int) ≤ (j : Int) := by omega
  by_cases hlt : j < L
  ·obtain ⟨y, hy⟩ : ∃ y, l[j]? = some y := ⟨l[j]'(by have := HL.out; omega), by simp⟩
   obtain ⟨g1, o1, rfl, q1⟩ : ∃ b o, ao = some ⟨b, o, none⟩ ∧ ∀ k s, l[k]? = some s → w.cell? ⟨b, o + k, none⟩ = some (.string s) := by
    rcases H.out with e | e
    ·rw [e.2.1] at hy; simp at hy
    ·exact e
   have r1 := q1 j y hy
   have j1 : (j : Int) < (L : Int) := by omega
   have hsz : (joinP (l.take j)).size ≤ 200000000 := by
    have h1 := joinP_size 10000 (l.take j) (fun z hz => HS.out z (List.mem_of_mem_take hz))
    have h2 : (l.take j).length ≤ 10000 := Nat.le_trans (List.length_take_le _ _) (by omega)
    have h3 := Nat.mul_le_mul_right (10000 + 1) h2
    omega
   have hys := HS.out y (List.mem_of_getElem? hy)
   have HNX : Hid (joinP (l.take (j + 1)) = if l.take j = [] then y else joinP (l.take j) ++ ⟨#[32]⟩ ++ y) := by
    show _ = _
    obtain ⟨h1, h2⟩ := List.getElem?_eq_some_iff.1 hy
    rw [List.take_succ_eq_append_getElem h1, h2, joinP_snoc]
   clear q1 hy
   by_cases h0 : j = 0
   ·subst h0
    rw [Nat.add_zero] at r1
    have HN : Hid (joinP (l.take (0 + 1)) = joinP (l.take 0) ++ y) := by
     rw [HNX.out]
     show (if ([] : List ByteArray) = [] then y else _) = (⟨#[]⟩ : ByteArray) ++ y
     rw [if_pos rfl]
     exact ByteArray.empty_append.symm
    generalize joinP (l.take 0) = J at *
    have hcs : ¬ 9223372036854775807 < J.size + y.size := by omega
    go_wp2
    exact ⟨⟨0 + 1, by go_num, by rw [HN.out], hlt⟩, by simp [intOf]; omega⟩
   ·have HN : Hid (joinP (l.take (j + 1)) = joinP (l.take j) ++ ⟨#[32]⟩ ++ y) := by
     rw [HNX.out, if_neg (by
      intro e
      have := congrArg List.length e
      rw [List.length_take, HL.out] at this
      simp at this
      omega)]; rfl
    have j2 : (0 : Int) < (j : Int) := by omega
    generalize joinP (l.take j) = J at *
    have hcs1 : ¬ 9223372036854775807 < J.size + (⟨#[32]⟩ : ByteArray).size := by have : (⟨#[32]⟩ : ByteArray).size = 1 := rfl; omega
    have hjs : (J ++ ⟨#[32]⟩).size = J.size + 1 := by rw [ByteArray.size_append]; rfl
    have hcs : ¬ 9223372036854775807 < (J ++ ⟨#[32]⟩).size + y.size := by omega
    have hcs2 : ¬ 9223372036854775807 < J.size + 1 := by omega
    have hcs3 : ¬ 9223372036854775807 < J.size + 1 + y.size := by omega
    go_wp2
    exact ⟨⟨j + 1, by go_num, by rw [HN.out], hlt⟩, by simp [intOf]; omega⟩
  ·obtain rfl : j = L := by omega
   have HE : Hid (joinP (l.take j) = joinP l) := by show _ = _; rw [← HL.out, List.take_length]
   go_wp2
   go_ret
   exact ⟨by rw [HE.out]; rfl, rfl⟩
theorem bcellsB_at {l : Binds} {i : Nat} {x : ByteArray × ByteArray} (h : l[i]? = some x) : (bcellsB l)[i * 2]? = some (.string x.1) ∧ (bcellsB l)[i * 2 + 1]? = some (.string x.2) := two_cells _ _ l i x h
theorem binds_of_row {w : World} {base : Nat} {v : Value} {l : Binds} (h : w.ownsRow base 338 2 v l.length (bcellsB l)) : BindsAt w v l := by
 obtain ⟨ao, cap, rfl, hc, hg⟩ := row_form h
 refine ⟨ao, cap, rfl, hc, ?_⟩
 by_cases h0 : l = []
 ·exact Or.inl ⟨h0, trivial⟩
 ·obtain ⟨g, rfl⟩ := hg (List.length_pos_iff.2 h0)
  refine Or.inr ⟨g, 0, rfl, fun k x hx => ?_⟩
  have hc := bcellsB_at hx
  rw [Nat.zero_add]
  exact ⟨(row_cell h _ _ hc.1).1, (row_cell h _ _ hc.2).1⟩
theorem setB_idx {x t : ByteArray} : ∀ {l : Binds} {k : Nat}, bindIdx l x = some k → setB l x t = l.set k (x, t)
 | [], k, h => by cases h
 | y :: l, k, h => by
  unfold bindIdx at h
  rw [List.findIdx?_cons] at h
  rw [setB]
  by_cases hy : y.1 = x
  ·rw [if_pos hy]
   rw [decide_eq_true hy] at h
   obtain rfl := Option.some.inj h
   rfl
  ·rw [if_neg hy]
   rw [decide_eq_false hy] at h
   obtain ⟨k', h', rfl⟩ := Option.map_eq_some_iff.1 h
   rw [setB_idx (l := l) h']; rfl
theorem bcellsB_set {x t : ByteArray} : ∀ {l : Binds} {k : Nat}, (∃ y, l[k]? = some y ∧ y.1 = x) → (bcellsB l).set (k * 2 + 1) (.string t) = bcellsB (l.set k (x, t))
 | [], k, h => by obtain ⟨y, h, _⟩ := h; simp at h
 | y :: l, 0, h => by
  obtain ⟨z, h, e⟩ := h
  simp only [List.getElem?_cons_zero, Option.some.injEq] at h
  subst h
  rw [← e]
  rfl
 | y :: l, k + 1, h => by
  have := bcellsB_set (x := x) (t := t) (l := l) (k := k) (by simpa using h)
  show (Value.string y.1 :: .string y.2 :: bcellsB l).set ((k + 1) * 2 + 1) _ = .string y.1 :: .string y.2 :: bcellsB (l.set k (x, t))
  rw [← this, show (k + 1) * 2 + 1 = k * 2 + 1 + 1 + 1 by omega]
  rfl
set_option maxHeartbeats 4000000 in
theorem rset_any (l : Binds) (v : Value) (x t : ByteArray) (B : Nat) (w : World) (h : w.ownsRow B 338 2 v l.length (bcellsB l)) (hl : l.length ≤ 10000) (hB : B ≤ w.heap.size) :
  Calls Tryz.prog 213 #[v, .string x, .string t] w fun e w' => ∃ v', e = .returned v' ∧ w'.ownsRow B 338 2 v' (setB l x t).length (bcellsB (setB l x t)) ∧ w.grownBy w' v.ownBlock ∧ (∀ k, v'.ownBlock = some k → v.ownBlock = some k ∨ w.heap.size ≤ k) := by
 have hinf : (Tryz.prog.info? 338).map (fun i => (i.size, i.bytes, i.zero)) = some (2, 32, some (.agg #[.string ⟨#[]⟩, .string ⟨#[]⟩])) := by kernel_rfl
 obtain ⟨ti, hti, htj⟩ := Option.map_eq_some_iff.1 hinf
 simp only [Prod.mk.injEq] at htj
 have HTI : Hid (Tryz.prog.info? 338 = some ti ∧ ti.size = 2 ∧ ti.bytes = 32 ∧ ti.zero = some (.agg #[.string ⟨#[]⟩, .string ⟨#[]⟩])) := ⟨hti, htj.1, htj.2.1, htj.2.2⟩
 clear hinf hti htj
 have HF : Hid (Calls Tryz.prog 214 #[v, .string x] w fun e w' => e = .returned (.int .i64 (idxI (bindIdx l x))) ∧ w' = w) := rfind_any l v x w (binds_of_row h) (by omega)
 have HO : Hid (w.ownsRow B 338 2 v l.length (bcellsB l)) := h
 obtain ⟨ao, cap, rfl, hc, hg⟩ := row_form h
 clear h
 generalize hL : l.length = L at *
 have HL : Hid (l.length = L) := hL
 clear hL
 cases hi : bindIdx l x with
 | some k =>
  obtain ⟨hk, hx, _⟩ := List.findIdx?_eq_some_iff_getElem.1 (show l.findIdx? (fun y => decide (y.1 = x)) = some k from hi)
  have hkL : k < L := by have := HL.out; omega
  obtain ⟨g, rfl⟩ := hg (by omega)
  have hy : ∃ y, l[k]? = some y ∧ y.1 = x := ⟨l[k], by simp, of_decide_eq_true hx⟩
  obtain ⟨y, hy1, hy2⟩ := hy
  have hcell := row_cell HO.out (k * 2 + 1) (.string y.2) (bcellsB_at hy1).2
  have c1 := hcell.1
  have f1 := hcell.2
  have k0 : (0 : Int) ≤ (k : Int) := by omega
  have k1 : (k : Int) < (L : Int) := by omega
  rw [hi] at HF
  have HFIN : Hid ((w.setCell ⟨g, k * 2 + 1, none⟩ (.string t)).ownsRow B 338 2 (.slice (some ⟨g, 0, none⟩) L cap) (setB l x t).length (bcellsB (setB l x t))) := by
   have h := row_set HO.out (k * 2 + 1) (.string t)
   rw [bcellsB_set ⟨y, hy1, hy2⟩] at h
   show World.ownsRow _ _ _ _ _ _ _
   rw [setB_idx hi, List.length_set, HL.out]
   exact h
  have HGR : Hid (w.grownBy (w.setCell ⟨g, k * 2 + 1, none⟩ (.string t)) (some g)) := ⟨rfl, rfl, rfl, by simp, fun j _ hn => heap_setCell_other _ _ _ _ (fun e => hn (by rw [e]))⟩
  clear hcell hx hy1 hy2
  go_enter Tryz.func213, Tryz.ntmps213
  go_wp2_with fail
  refine HF.out.mono ?_
  rintro e w1 ⟨rfl, rfl⟩
  simp only [idxI]
  go_wp2_with fail
  go_ret
  exact ⟨_, rfl, HFIN.out, HGR.out, fun j hj => Or.inl hj⟩
 | none =>
  rw [hi] at HF
  have HSB : Hid (setB l x t = l ++ [(x, t)]) := setB_new (bindOf_none hi)
  go_enter Tryz.func213, Tryz.ntmps213
  go_wp2_with fail
  refine HF.out.mono ?_
  rintro e w1 ⟨rfl, rfl⟩
  simp only [idxI]
  go_wp2_with (at_builtin; refine wpList_append_lies _ rfl (.tmp 19) (.tmp 23) 327 rfl B 338 ti (.agg #[.string ⟨#[]⟩, .string ⟨#[]⟩]) 2 32 Tryz.underlying327 HTI.out.1 HTI.out.2.2.2 HTI.out.2.1 HTI.out.2.2.1 rfl (by decide) _ L (bcellsB l) rfl (by exact rkeep HO.out (fun k hk => heapA_old w1 _ k (rblock HO.out k hk).2)) ⟨w1.heap.size, 0, none⟩ 1 1 [.string x, .string t] rfl rfl (by exact newCells w1 _ _) (by intro u hu; simp only [List.mem_cons, List.not_mem_nil, or_false] at hu; rcases hu with rfl | rfl <;> rfl) (by decide) (by unfold maxLen; omega) (by omega) (by simp; omega) _ rfl ?_; intro g6 cap6 w6 hv6 hg6 hat6 hlt6; refine Hid.out ?_)
  have HFIN : Hid (w6.ownsRow B 338 2 (.slice (some ⟨g6, 0, none⟩) (L + 1) cap6) (setB l x t).length (bcellsB (setB l x t))) := by
   show World.ownsRow _ _ _ _ _ _ _
   rw [HSB.out, List.length_append, HL.out]
   have e : bcellsB (l ++ [(x, t)]) = bcellsB l ++ [.string x, .string t] := by simp [bcellsB]
   rw [e]; exact hv6
  have HGR : Hid (w1.grownBy w6 (Value.slice ao L cap).ownBlock) := ⟨hg6.os, hg6.tape, hg6.output, by have := hg6.size; simp at this; omega, fun j hj hn => (hg6.block j (by simp; omega) hn).trans (heapA_old w1 _ j hj)⟩
  have HAT : Hid (∀ k, (Value.slice (some ⟨g6, 0, none⟩) (L + 1) cap6).ownBlock = some k → (Value.slice ao L cap).ownBlock = some k ∨ w1.heap.size ≤ k) := fun k hk => by
   have e : g6 = k := Option.some.inj hk
   subst e
   rcases hat6 with e2 | e2
   ·exact Or.inl e2
   ·right; rw [e2]; simp
  clear hv6 hg6 hat6 hlt6
  unfold Hid
  go_wp2_with fail
  go_ret
  exact ⟨_, rfl, HFIN.out, HGR.out, HAT.out⟩
end Go.Proofs.YthhbpebihgjpjaaGreatDoor

namespace Go.Proofs.YthhbpebihgjpjaaGreatDoor
open Go.RowKit
set_option maxRecDepth 1000000

def rlcells (l : List Line) : List Value := l.flatMap fun x => [.string x.2, .int .i64 (x.1 : Nat)]
def RLinesAt (w : World) (v : Value) (l : List Line) : Prop := ∃ ao cap, v = .slice ao l.length cap ∧ l.length ≤ cap ∧ (l = [] ∨ ∃ g o, ao = some ⟨g, o, none⟩ ∧ ∀ (k : Nat) x, l[k]? = some x → w.cell? ⟨g, o + k * 2, none⟩ = some (.string x.2) ∧ w.cell? ⟨g, o + k * 2 + 1, none⟩ = some (.int .i64 (x.1 : Nat)))
structure RV where
 vl : Value
 at' : Nat
 vt : Value
 vr : Value
 vo : Value
 ve : Value
 vf : Value
 e : Int
 line : Int
def RRow (r : RV) (w : World) (rb : Nat) : Prop := w.heap[rb]? = some (.cells #[r.vl, .int .i64 (r.at' : Nat), r.vt, r.vr, r.vo, r.ve, r.vf, .int .i64 r.e, .int .i64 r.line] 330 (0, 0))
theorem RRow.lt {r : RV} {w : World} {rb : Nat} (h : RRow r w rb) : rb < w.heap.size := by
 rcases Nat.lt_or_ge rb w.heap.size with c | c
 ·exact c
 ·unfold RRow at h; rw [Array.getElem?_eq_none c] at h; cases h
def RV.failed (r : RV) (k : Int) (no : Nat) : RV := if r.e = 0 then { r with e := k, line := no } else r
set_option maxHeartbeats 2000000 in
theorem rfail_any {r : RV} {w : World} {rb : Nat} {L : List Line} {x : Line} (k : Int) (h : RRow r w rb) (hl : RLinesAt w r.vl L) (hx : L[r.at']? = some x) (hne : ∀ g o n c, r.vl = .slice (some ⟨g, o, none⟩) n c → ¬ g = rb) :
  Calls Tryz.prog 283 #[.pointer (some ⟨rb, 0, none⟩), .int .i64 k] w fun e w' => e = .returned (.tuple #[]) ∧ RRow (r.failed k x.1) w' rb ∧ w.grownBy w' (some rb) := by
 have c7 : w.cell? ⟨rb, 7, none⟩ = some (.int .i64 r.e) := by rw [cell_of_row _ _ _ _ _ _ h]; rfl
 have f7 : w.frozen? ⟨rb, 7, none⟩ = false := frozen_of_row _ _ _ _ _ h
 by_cases h0 : r.e = 0
 ·obtain ⟨ao, cap, hv, hc, hl⟩ := hl
  obtain ⟨g, o, rfl, hl2⟩ : ∃ g o, ao = some ⟨g, o, none⟩ ∧ ∀ (k : Nat) x, L[k]? = some x → w.cell? ⟨g, o + k * 2, none⟩ = some (.string x.2) ∧ w.cell? ⟨g, o + k * 2 + 1, none⟩ = some (.int .i64 (x.1 : Nat)) := by
   rcases hl with e | e
   ·rw [e] at hx; simp at hx
   ·exact e
  have d1 := (hl2 r.at' x hx).2
  have hat : r.at' < L.length := (List.getElem?_eq_some_iff.1 hx).1
  have c0 : w.cell? ⟨rb, 0, none⟩ = some (.slice (some ⟨g, o, none⟩) L.length cap) := by rw [cell_of_row _ _ _ _ _ _ h]; exact congrArg some hv
  have c1 : w.cell? ⟨rb, 1, none⟩ = some (.int .i64 (r.at' : Nat)) := by rw [cell_of_row _ _ _ _ _ _ h]; rfl
  have c8 : w.cell? ⟨rb, 8, none⟩ = some (.int .i64 r.line) := by rw [cell_of_row _ _ _ _ _ _ h]; rfl
  have f8 : w.frozen? ⟨rb, 8, none⟩ = false := frozen_of_row _ _ _ _ _ h
  have HFIN : Hid (RRow (r.failed k x.1) ((w.setCell ⟨rb, 7, none⟩ (.int .i64 k)).setCell ⟨rb, 8, none⟩ (.int .i64 (x.1 : Nat))).drew rb ∧ w.grownBy ((w.setCell ⟨rb, 7, none⟩ (.int .i64 k)).setCell ⟨rb, 8, none⟩ (.int .i64 (x.1 : Nat))).drew (some rb)) := by
   refine ⟨?_, ⟨rfl, rfl, rfl, ?_, fun j hj hn => ?_⟩⟩
   ·unfold RV.failed
    rw [if_pos h0]
    show ((w.setCell ⟨rb, 7, none⟩ _).setCell ⟨rb, 8, none⟩ _).heap[rb]? = _
    rw [heap_setCell_same _ _ _ _ _ _ (heap_setCell_same _ _ _ _ _ _ h)]
    rfl
   ·show w.heap.size ≤ ((w.setCell ⟨rb, 7, none⟩ _).setCell ⟨rb, 8, none⟩ _).heap.size
    simp
   ·have hne : j ≠ rb := fun e => hn (by rw [e])
    show ((w.setCell ⟨rb, 7, none⟩ _).setCell ⟨rb, 8, none⟩ _).heap[j]? = _
    rw [heap_setCell_other _ _ _ _ hne, heap_setCell_other _ _ _ _ hne]
  rw [h0] at c7
  have i0 : (0 : Int) ≤ (r.at' : Int) := by omega
  have i1 : (r.at' : Int) < (L.length : Int) := by omega
  have hgr : ¬ g = rb := hne _ _ _ _ hv
  obtain ⟨xn, xt⟩ := x
  simp only at d1 HFIN
  clear h hl hl2 hx hv h0 hne hat
  generalize L.length = LL at *
  generalize r.at' = AT at *
  go_enter Tryz.func283, Tryz.ntmps283
  go_wp2_with fail
  go_region
  all_goals
   go_wp2_with fail
   go_end0
   exact ⟨rfl, HFIN.out⟩
 ·have HF : Hid (r.failed k x.1 = r) := if_neg h0
  have e1 : (r.e == 0) = false := by simpa using h0
  have HR : Hid (RRow r w rb) := h
  clear h hl hx h0 hne
  go_enter Tryz.func283, Tryz.ntmps283
  go_wp2_with fail
  go_end0
  exact ⟨rfl, by rw [HF.out]; exact HR.out, ⟨rfl, rfl, rfl, Nat.le_refl _, fun _ _ _ => rfl⟩⟩
end Go.Proofs.YthhbpebihgjpjaaGreatDoor

namespace Go.Proofs.YthhbpebihgjpjaaGreatDoor
open Go.RowKit
set_option maxRecDepth 1000000

theorem index_nl (u : ByteArray) (n : Nat) (hn : n < u.size) (h : byteOf u n = 10) (hb : ∀ k, k < n → byteOf u k ≠ 10) : Lib.indexB u nl = n := by
 have h1 : Lib.indexB u nl = Lib.indexByte u.data.toList 10 := Lib.one u nl rfl
 have hbb : ∀ k, k < u.size → u.data.toList[k]? = some 10 → byteOf u k = 10 := fun k _ e => by rw [byteOf_get e]; rfl
 have hn2 : u.data.toList[n]? = some 10 := by rw [Array.getElem?_toList, byteOf_at u n hn, h]; rfl
 rcases Lib.indexB_cases u nl with e | ⟨i, e, hi⟩
 ·rw [h1] at e
  exact absurd hn2 (Lib.indexByte_none e n)
 ·rw [h1] at e ⊢
  have := Lib.indexByte_some e
  have hs : nl.size = 1 := rfl
  rcases Nat.lt_trichotomy i n with c | c | c
  ·exact absurd (hbb i (by omega) this.1) (hb i c)
  ·rw [e, c]
  ·exact absurd hn2 (this.2 n c)
theorem raw_hit (t : ByteArray) (f i : Nat) (hf : f ≤ i) (hi : i < t.size) (h : byteOf t i = 10) (hb : ∀ k, f ≤ k → k < i → byteOf t k ≠ 10) : rawB (t.extract f t.size) = t.extract f i :: rawB (t.extract (i + 1) t.size) := by
 have hsz : (t.extract f t.size).size = t.size - f := by rw [ByteArray.size_extract]; omega
 have hx := index_nl (t.extract f t.size) (i - f) (by omega) (by rw [byteOf_extract _ _ _ _ (by omega) (Nat.le_refl _), show f + (i - f) = i by omega]; exact h) (fun k hk => by rw [byteOf_extract _ _ _ _ (by omega) (Nat.le_refl _)]; exact hb (f + k) (by omega) (by omega))
 have hc := Lib.countB_hit (t.extract f t.size) nl (i - f) (by decide) hx
 unfold rawB
 have e1 : (t.extract f t.size).extract (i - f + nl.size) (t.extract f t.size).size = t.extract (i + 1) t.size := by
  have hs : nl.size = 1 := rfl
  rw [hs, hsz, extract_of _ _ _ _ _ (by omega), show f + (i - f + 1) = i + 1 by omega, show f + (t.size - f) = t.size by omega]
 rw [e1] at hc
 rw [hc, Nat.add_comm, Lib.splitB_hit _ _ _ _ _ hx, e1, Nat.add_zero, extract_of _ _ _ _ _ (by omega), show f + (i - f) = i by omega, Nat.add_zero]
theorem raw_last (t : ByteArray) (f : Nat) (hb : ∀ k, f ≤ k → k < t.size → byteOf t k ≠ 10) : rawB (t.extract f t.size) = [t.extract f t.size] := by
 unfold rawB
 refine Lib.splitB_miss _ _ _ _ ?_
 rcases Lib.indexB_cases (t.extract f t.size) nl with e | ⟨i, e, hi⟩
 ·exact e
 ·exfalso
  have h1 : Lib.indexB (t.extract f t.size) nl = Lib.indexByte (t.extract f t.size).data.toList 10 := Lib.one _ nl rfl
  rw [h1] at e
  have := byteOf_get (Lib.indexByte_some e).1
  have hs : nl.size = 1 := rfl
  rw [ByteArray.size_extract] at hi
  rw [byteOf_extract _ _ _ _ (by omega) (Nat.le_refl _)] at this
  exact hb (f + i) (by omega) (by omega) this
theorem dolB_eq (s : ByteArray) (q : Nat) (hq : q ≤ s.size) (h1 : ∀ r, r < q → byteOf s (s.size - 1 - r) = 36) (h2 : q < s.size → byteOf s (s.size - 1 - q) ≠ 36) : dolB s = q := by
 unfold dolB dolL
 have hl : s.data.toList.length = s.size := by rw [Array.length_toList]; rfl
 refine spanL_eq _ _ q (by rw [List.length_reverse, hl]; exact hq) (fun i c hi hc => ?_) (fun c hc => ?_)
 ·rw [List.getElem?_reverse (by omega), hl] at hc
  have := h1 i hi
  rw [byteOf_get hc] at this
  simpa using this
 ·have hlt : q < s.data.toList.length := by
   have := (List.getElem?_eq_some_iff.1 hc).1
   rwa [List.length_reverse] at this
  rw [List.getElem?_reverse hlt, hl] at hc
  have := h2 (by omega)
  rw [byteOf_get hc] at this
  simpa using this
theorem rlcells_append (l r : List Line) : rlcells (l ++ r) = rlcells l ++ rlcells r := by simp [rlcells]
theorem rlcells_at {l : List Line} {i : Nat} {x : Line} (h : l[i]? = some x) : (rlcells l)[i * 2]? = some (.string x.2) ∧ (rlcells l)[i * 2 + 1]? = some (.int .i64 (x.1 : Nat)) := two_cells (fun x : Line => .string x.2) (fun x => .int .i64 (x.1 : Nat)) l i x h
theorem rlcells_set (l : List Line) (k : Nat) (s s' : ByteArray) : (rlcells (l ++ [(k, s)])).set (l.length * 2) (.string s') = rlcells (l ++ [(k, s')]) := by
 rw [rlcells_append, rlcells_append, List.set_append_right _ _ (by unfold rlcells; rw [two_length]; omega)]
 unfold rlcells
 rw [two_length, show l.length * 2 - l.length * 2 = 0 by omega]
 rfl
end Go.Proofs.YthhbpebihgjpjaaGreatDoor

namespace Go.Proofs.YthhbpebihgjpjaaGreatDoor
set_option maxRecDepth 1000000

def totB (l : List ByteArray) : Nat := (l.map fun x => x.size + 1).sum
def totL (l : List Line) : Nat := (l.map fun x => x.2.size + 1).sum
theorem totL_append (l r : List Line) : totL (l ++ r) = totL l + totL r := by unfold totL; rw [List.map_append, List.sum_append]
theorem totL_mem {l : List Line} {x : Line} (h : x ∈ l) : x.2.size + 1 ≤ totL l := by
 induction l with
 | nil => cases h
 | cons y l ih =>
  show _ ≤ y.2.size + 1 + totL l
  rcases List.mem_cons.1 h with rfl | h
  ·omega
  ·have := ih h; omega
theorem totL_length (l : List Line) : l.length ≤ totL l := by
 induction l with
 | nil => exact Nat.le_refl _
 | cons y l ih =>
  show l.length + 1 ≤ y.2.size + 1 + totL l
  omega
theorem raw_tot (t : ByteArray) : ∀ (d f : Nat), t.size - f = d → f ≤ t.size → totB (rawB (t.extract f t.size)) ≤ t.size - f + 1 := by
 intro d
 induction d using Nat.strongRecOn with
 | _ d ih =>
  intro f hd hf
  by_cases hx : ∃ i, f ≤ i ∧ i < t.size ∧ byteOf t i = 10
  ·have hmin : ∃ i, (f ≤ i ∧ i < t.size ∧ byteOf t i = 10) ∧ ∀ k, f ≤ k → k < i → byteOf t k ≠ 10 := by
    obtain ⟨i, hi⟩ := hx
    induction i using Nat.strongRecOn with
    | _ i ih2 =>
     by_cases hk : ∃ k, f ≤ k ∧ k < i ∧ byteOf t k = 10
     ·obtain ⟨k, h1, h2, h3⟩ := hk
      exact ih2 k h2 ⟨h1, by omega, h3⟩
     ·exact ⟨i, hi, fun k h1 h2 h3 => hk ⟨k, h1, h2, h3⟩⟩
   obtain ⟨i, ⟨h1, h2, h3⟩, h4⟩ := hmin
   rw [raw_hit t f i h1 h2 h3 h4]
   have h5 := ih (t.size - (i + 1)) (by omega) (i + 1) rfl (by omega)
   show (t.extract f i).size + 1 + totB _ ≤ _
   rw [ByteArray.size_extract]
   omega
  ·rw [raw_last t f (fun k h1 h2 h3 => hx ⟨k, h1, h2, h3⟩)]
   show (t.extract f t.size).size + 1 + 0 ≤ _
   rw [ByteArray.size_extract]
   omega
theorem addLast_tot (a : List Line) (s : ByteArray) : totL (addLast a s) ≤ totL a + s.size := by
 unfold addLast
 cases h : a.getLast? with
 | none => exact Nat.le_add_right _ _
 | some x =>
  have hne : a ≠ [] := fun e => by rw [e] at h; cases h
  have hx : a.getLast hne = x := by rw [List.getLast?_eq_some_getLast hne] at h; exact Option.some.inj h
  have ha : a = a.dropLast ++ [x] := by rw [← hx]; exact (List.dropLast_concat_getLast hne).symm
  show totL (a.dropLast ++ [(x.1, x.2 ++ s)]) ≤ _
  have e : totL a = totL (a.dropLast ++ [x]) := by rw [← ha]
  rw [e, totL_append, totL_append]
  show _ + ((x.2 ++ s).size + 1 + 0) ≤ _ + (x.2.size + 1 + 0) + _
  rw [ByteArray.size_append]
  omega
theorem join_tot : ∀ (rs : List ByteArray) (no : Nat) (a : List Line) (on : Bool), totL (joinFrom no rs a on) ≤ totL a + totB rs
 | [], no, a, on => by rw [joinFrom]; exact Nat.le_add_right _ _
 | r :: rs, no, a, on => by
  rw [joinFrom]
  have h1 := join_tot rs (no + 1) (joinStep a on no r) (oddB r)
  have h2 : totL (joinStep a on no r) ≤ totL a + (r.size + 1) := by
   unfold joinStep
   have hp := partB_le r
   split
   ·have h3 := addLast_tot a (leftB (partB r))
    have h4 := leftB_le (partB r)
    omega
   ·rw [totL_append]
    show _ + ((partB r).size + 1 + 0) ≤ _
    omega
  show _ ≤ totL a + (r.size + 1 + totB rs)
  omega
theorem lines_tot (t : ByteArray) : totL (linesS t) ≤ t.size + 1 := by
 unfold linesS
 have h1 := join_tot (rawB t) 1 [] false
 have h2 := raw_tot t (t.size - 0) 0 rfl (Nat.zero_le _)
 rw [ByteArray.extract_zero_size] at h2
 have h3 : totL [] = 0 := rfl
 omega
theorem lines_ok (t : ByteArray) : (linesS t).length ≤ t.size + 1 ∧ ∀ x ∈ linesS t, x.2.size ≤ t.size := by
 have h := lines_tot t
 refine ⟨Nat.le_trans (totL_length _) h, fun x hx => ?_⟩
 have := totL_mem hx
 omega
theorem said_ok (t : ByteArray) : (saidS t).length ≤ t.size + 1 ∧ ∀ x ∈ saidS t, x.2.size ≤ t.size := by
 have h := lines_ok t
 exact ⟨Nat.le_trans (List.length_filter_le _ _) h.1, fun x hx => h.2 x (List.mem_filter.1 hx).1⟩
end Go.Proofs.YthhbpebihgjpjaaGreatDoor
