import Derived.Test.YthhbpebihgjpjaaGreatDoorP25
import Derived.Test.YthhbpebihgjpjaaGreatDoorP17
import Derived.Test.YthhbpebihgjpjaaGreatDoorP02
import Derived.BigRegion
import Derived.Deep.RegionHeld3
namespace Go.Proofs.YthhbpebihgjpjaaGreatDoor
open Go.RowKit
set_option maxRecDepth 1000000

theorem bytes_same {a b : ByteArray} (h : a.data.toList = b.data.toList) : a = b := ByteArray.ext (Array.toList_inj.1 h)
theorem left_self {u : ByteArray} (h : 0 < u.size → byteOf u 0 ≠ 32) : leftB u = u := by
 refine bytes_same ?_
 rw [leftB_list]
 cases hl : u.data.toList with
 | nil => rfl
 | cons c l =>
  have hs : 0 < u.size := by
   show 0 < u.data.size
   rw [← Array.length_toList, hl]; simp
  have hc : byteOf u 0 = c.toNat := byteOf_get (by rw [hl]; rfl)
  have := h hs
  rw [hc] at this
  rw [List.dropWhile_cons_of_neg]
  unfold isBl
  simpa using this
theorem left_skip {t : ByteArray} {i : Nat} (hi : i < t.size) (h : byteOf t i = 32) : leftB (t.extract i t.size) = leftB (t.extract (i + 1) t.size) := by
 refine bytes_same ?_
 rw [leftB_list, leftB_list, extract_list, extract_list]
 have hl : i < t.data.toList.length := by rw [Array.length_toList]; exact hi
 rw [List.drop_eq_getElem_cons hl, List.dropWhile_cons_of_pos]
 have hc : byteOf t i = (t.data.toList[i]).toNat := byteOf_get (List.getElem?_eq_getElem hl)
 rw [h] at hc
 unfold isBl
 rw [← hc]; rfl
theorem pathsAt_left (E : ByteArray → ByteArray) (ms : List ByteArray) {u u' : ByteArray} (a : Secs) (h : leftB u = leftB u') : pathsAt E ms u a = pathsAt E ms u' a := by
 by_cases h0 : (leftB u).size = 0
 ·rw [pathsAt_end _ _ _ _ h0, pathsAt_end _ _ _ _ (by rw [← h]; exact h0)]
 ·by_cases hm : markB (leftB u) = ⟨#[]⟩
  ·rw [pathsAt_path E ms u a h0 hm, pathsAt_path E ms u' a (by rw [← h]; exact h0) (by rw [← h]; exact hm), h]
  ·have e1 := pathsAt_mark E ms u a h0 hm
   have e2 := pathsAt_mark E ms u' a (by rw [← h]; exact h0) (by rw [← h]; exact hm)
   rw [h] at e1
   exact e1.trans e2.symm
theorem rp_end (E : ByteArray → ByteArray) (ms : List ByteArray) (t : ByteArray) (i : Nat) (a : Secs) (hi : t.size ≤ i) : pathsAt E ms (t.extract i t.size) a = .ok a := by
 refine pathsAt_end _ _ _ _ ?_
 have := leftB_le (t.extract i t.size)
 rw [ByteArray.size_extract] at this
 omega
theorem rp_blank (E : ByteArray → ByteArray) (ms : List ByteArray) (t : ByteArray) (i : Nat) (a : Secs) (hi : i < t.size) (h : byteOf t i = 32) : pathsAt E ms (t.extract i t.size) a = pathsAt E ms (t.extract (i + 1) t.size) a := pathsAt_left E ms a (left_skip hi h)
theorem extract_tail (t : ByteArray) (i k : Nat) : (t.extract i t.size).extract k (t.extract i t.size).size = t.extract (i + k) t.size := by
 refine bytes_same ?_
 rw [extract_list, extract_list, extract_list, List.drop_drop]
theorem rp_left {t : ByteArray} {i : Nat} (hi : i < t.size) (h : byteOf t i ≠ 32) : leftB (t.extract i t.size) = t.extract i t.size := left_self (fun _ => by
 rw [byteOf_extract _ _ _ _ (by omega) (Nat.le_refl _), Nat.add_zero]; exact h)
theorem rp_mark (E : ByteArray → ByteArray) (ms : List ByteArray) (t : ByteArray) (i : Nat) (a : Secs) (m : ByteArray) (hi : i < t.size) (h : byteOf t i ≠ 32) (hm : markB (t.extract i t.size) = m) (hne : m ≠ ⟨#[]⟩) : pathsAt E ms (t.extract i t.size) a = if memB m ms = true then pathsAt E ms (t.extract (i + m.size) t.size) (a ++ [(m, [])]) else .error .syn := by
 have hl := rp_left hi h
 rw [pathsAt_mark _ _ _ _ (by rw [hl, ByteArray.size_extract]; omega) (by rw [hl, hm]; exact hne), hl, hm, extract_tail]
theorem scan_shift (p : Nat → Bool) (t : ByteArray) (i : Nat) (hi : i ≤ t.size) : ∀ (d k : Nat), t.size - (i + k) ≤ d → scanAt p t (i + k) = i + scanAt p (t.extract i t.size) k := by
 intro d
 induction d using Nat.strongRecOn with
 | _ d ih =>
  intro k hd
  have hs : (t.extract i t.size).size = t.size - i := by rw [ByteArray.size_extract]; omega
  by_cases h : t.size ≤ i + k
  ·rw [scanAt_end p t _ h, scanAt_end p _ _ (by rw [hs]; omega)]
  ·have hk : k < (t.extract i t.size).size := by rw [hs]; omega
   have hb : byteOf (t.extract i t.size) k = byteOf t (i + k) := byteOf_extract _ _ _ _ (by omega) (Nat.le_refl _)
   by_cases hd36 : byteOf t (i + k) = 36
   ·rw [scanAt_dol p t _ (by omega) hd36, scanAt_dol p _ _ hk (by rw [hb]; exact hd36), Nat.add_assoc]
    rcases Nat.lt_or_ge (t.size - (i + (k + 2))) d with q | q
    ·exact ih _ q (k + 2) (Nat.le_refl _)
    ·omega
   ·by_cases hp : p (byteOf t (i + k)) = true
    ·rw [scanAt_hit p t _ (by omega) hd36 hp, scanAt_hit p _ _ hk (by rw [hb]; exact hd36) (by rw [hb]; exact hp)]
    ·have hp := Bool.eq_false_iff.2 hp
     rw [scanAt_step p t _ (by omega) hd36 hp, scanAt_step p _ _ hk (by rw [hb]; exact hd36) (by rw [hb]; exact hp), Nat.add_assoc]
     rcases Nat.lt_or_ge (t.size - (i + (k + 1))) d with q | q
     ·exact ih _ q (k + 1) (Nat.le_refl _)
     ·omega
theorem rp_path (E : ByteArray → ByteArray) (ms : List ByteArray) (t : ByteArray) (i : Nat) (a : Secs) (hi : i < t.size) (h : byteOf t i ≠ 32) (h1 : byteOf t i ≠ 58) (h2 : byteOf t i ≠ 124) : pathsAt E ms (t.extract i t.size) a = if scanAt isSep t i ≤ t.size then (match pathS E (t.extract i (scanAt isSep t i)) with
  | .error e => .error e
  | .ok p => pathsAt E ms (t.extract (scanAt isSep t i) t.size) (addPath a p)) else .error .syn := by
 have hl := rp_left hi h
 have hs : (t.extract i t.size).size = t.size - i := by rw [ByteArray.size_extract]; omega
 have hb0 : byteOf (t.extract i t.size) 0 = byteOf t i := by rw [byteOf_extract _ _ _ _ (by omega) (Nat.le_refl _), Nat.add_zero]
 have hm : markB (t.extract i t.size) = ⟨#[]⟩ := by
  unfold markB begins
  rw [hb0, if_neg (by simp [h2]), if_neg (by simp [h1])]
 have hsh := scan_shift isSep t i (by omega) (t.size - (i + 0)) 0 (Nat.le_refl _)
 rw [Nat.add_zero] at hsh
 have hle : scanAt isSep (t.extract i t.size) 0 ≤ (t.extract i t.size).size + 1 := scanB_le isSep _
 rw [pathsAt_path _ _ _ _ (by rw [hl, hs]; omega) (by rw [hl]; exact hm), hl]
 by_cases hp : scanAt isSep t i ≤ t.size
 ·have hpe : pathEnd (t.extract i t.size) = scanAt isSep (t.extract i t.size) 0 := by
   unfold pathEnd scanB
   rw [Nat.min_eq_left (by rw [hs]; omega)]
  rw [if_pos hp, hpe]
  have e1 : (t.extract i t.size).extract 0 (scanAt isSep (t.extract i t.size) 0) = t.extract i (scanAt isSep t i) := by
   rw [extract_of _ _ _ _ _ (by omega), Nat.add_zero, ← hsh]
  rw [e1, extract_tail, ← hsh]
  cases pathS E (t.extract i (scanAt isSep t i)) <;> rfl
 ·rw [if_neg hp]
  have hbig : scanAt isSep (t.extract i t.size) 0 = (t.extract i t.size).size + 1 := by rw [hs] at hle ⊢; omega
  have hpe : pathEnd (t.extract i t.size) = (t.extract i t.size).size := by
   unfold pathEnd scanB
   rw [hbig]
   omega
  have hx : expandS E (t.extract i t.size) = none := scan_past E isSep _ _ 0 (Nat.le_refl _) (by rw [hs]; omega) hbig _
  rw [hpe, ByteArray.extract_zero_size]
  unfold pathS
  rw [hx]
end Go.Proofs.YthhbpebihgjpjaaGreatDoor

namespace Go.Proofs.YthhbpebihgjpjaaGreatDoor
open Go.RowKit Go.Shelf
set_option maxRecDepth 1000000

theorem RV.failed_e {r : RV} {k : Int} {n : Nat} (h : r.e = 0) : (r.failed k n).e = k := by unfold RV.failed; rw [if_pos h]
theorem RV.failed_twice {r : RV} {k k2 : Int} {n m : Nat} (h : r.e = 0) (hk : k ≠ 0) : (r.failed k n).failed k2 m = r.failed k n := by
 show (if (r.failed k n).e = 0 then _ else r.failed k n) = _
 rw [RV.failed_e h, if_neg hk]
theorem RV.failed_vl (r : RV) (k : Int) (n : Nat) : (r.failed k n).vl = r.vl ∧ (r.failed k n).at' = r.at' ∧ (r.failed k n).vt = r.vt := by
 unfold RV.failed
 split <;> exact ⟨rfl, rfl, rfl⟩
def marksOf (bar bars : Bool) : List ByteArray := (if bar = true then [tBar] else []) ++ (if bars = true then [tBars] else [])
def RTold (E : ByteArray → ByteArray) (ms : List ByteArray) (t : ByteArray) (r : RV) (no i : Nat) (I : List (List ByteArray)) (l q : List ByteArray) (r' : RV) : Prop :=
 (r' = r ∧ ∃ A : Secs, A ≠ [] ∧ A.map (·.2) = I ++ [l] ∧ A.tail.map (·.1) = q ∧ pathsAt E ms (t.extract i t.size) A = pathsS E ms t) ∨ ∃ b, r' = r.failed ((badK b : Nat) + 1) no ∧ pathsS E ms t = .error b
theorem RTold.mark {E : ByteArray → ByteArray} {ms : List ByteArray} {t : ByteArray} {r : RV} {no i : Nat} {I : List (List ByteArray)} {l q : List ByteArray} {A : Secs} {m : ByteArray} (hne : A ≠ []) (h1 : A.map (·.2) = I ++ [l]) (h2 : A.tail.map (·.1) = q) (h3 : pathsAt E ms (t.extract (i + m.size) t.size) (A ++ [(m, [])]) = pathsS E ms t) : RTold E ms t r no (i + m.size) (I ++ [l]) [] (q ++ [m]) r := by
 refine Or.inl ⟨rfl, A ++ [(m, [])], by simp, by rw [List.map_append, h1]; rfl, ?_, h3⟩
 cases A with
 | nil => exact absurd rfl hne
 | cons x A => rw [List.cons_append, List.tail_cons, List.map_append, ← h2]; rfl
theorem RTold.path {E : ByteArray → ByteArray} {ms : List ByteArray} {t : ByteArray} {r : RV} {no i : Nat} {I : List (List ByteArray)} {l q : List ByteArray} {A : Secs} {p : ByteArray} (hne : A ≠ []) (h1 : A.map (·.2) = I ++ [l]) (h2 : A.tail.map (·.1) = q) (h3 : pathsAt E ms (t.extract i t.size) (addPath A p) = pathsS E ms t) : RTold E ms t r no i I (l ++ [p]) q r := by
 rcases List.eq_nil_or_concat A with h0 | ⟨J, x, rfl⟩
 ·exact absurd h0 hne
 ·obtain ⟨mk, l0⟩ := x
  rw [List.concat_eq_append] at *
  rw [addPath_snoc] at h3
  rw [List.map_append] at h1
  have hlen : (J.map (·.2)).length = I.length := by
   have := congrArg List.length h1
   simp at this
   simp; omega
  obtain ⟨e1, e2⟩ := List.append_inj h1 hlen
  have e3 : l0 = l := by simpa using e2
  subst e3
  refine Or.inl ⟨rfl, J ++ [(mk, l0 ++ [p])], by simp, by rw [List.map_append, e1]; rfl, ?_, h3⟩
  rw [← h2]
  cases J with
  | nil => rfl
  | cons y J => simp
def RPathsEnd (E : ByteArray → ByteArray) (ms : List ByteArray) (t : ByteArray) (r : RV) (no rb : Nat) (w : World) (e : Ending) (w' : World) : Prop :=
 ∃ vl vq ll sl r', e = .returned (.tuple #[vl, vq]) ∧ ListsF w.heap.size w' vl ll ∧ TextsF w.heap.size w' vq sl ∧ ll.length = sl.length + 1 ∧ ll.length ≤ 10001 ∧ (∀ l ∈ ll, l.length ≤ 10000) ∧ RRow r' w' rb ∧ w.grownBy w' (some rb) ∧ ((r' = r ∧ ∃ A : Secs, A ≠ [] ∧ A.map (·.2) = ll ∧ A.tail.map (·.1) = sl ∧ pathsS E ms t = .ok A) ∨ ∃ b, r' = r.failed ((badK b : Nat) + 1) no ∧ pathsS E ms t = .error b)
theorem RAt.grown {r r' : RV} {w w' : World} {rb : Nat} {L : List Line} {x : Line} (h : RAt r w rb L x) (hg : w.grownBy w' (some rb)) (hr : RRow r' w' rb) (h1 : r'.vl = r.vl ∧ r'.at' = r.at') : RAt r' w' rb L x where
 row := hr
 lines := by
  rw [h1.1]
  have hn := h.ne
  obtain ⟨ao, cap, hv, hc, q | ⟨g, o, rfl, q⟩⟩ := h.lines
  ·exact ⟨ao, cap, hv, hc, Or.inl q⟩
  ·have hne := hn g o _ _ hv
   refine ⟨_, cap, hv, hc, Or.inr ⟨g, o, rfl, fun k y hy => ?_⟩⟩
   obtain ⟨q1, q2⟩ := q k y hy
   have hk := hg.block g (block_lt_of_cell q1) (fun e => hne (Option.some.inj e))
   exact ⟨(World.cell?_of_block (w := w) (a := ⟨g, o + k * 2, none⟩) hk).trans q1, (World.cell?_of_block (w := w) (a := ⟨g, o + k * 2 + 1, none⟩) hk).trans q2⟩
 at' := by rw [h1.2]; exact h.at'
 ne := by rw [h1.1]; exact h.ne
end Go.Proofs.YthhbpebihgjpjaaGreatDoor

namespace Go.Proofs.YthhbpebihgjpjaaGreatDoor
open Go.RowKit
set_option maxRecDepth 1000000

def atOf (w : World) (rb : Nat) : Nat := match w.cell? ⟨rb, 1, none⟩ with
 | some (.int _ k) => k.toNat
 | _ => 0
def said (L : List Line) : List Line := L.filter fun x => !emptyB x.2
theorem said_skip {L : List Line} {j : Nat} {x : Line} (h : L[j]? = some x) (he : emptyB x.2 = true) : said (L.drop (j + 1)) = said (L.drop j) := by
 obtain ⟨h1, h2⟩ := List.getElem?_eq_some_iff.1 h
 rw [List.drop_eq_getElem_cons h1, h2]
 unfold said
 rw [List.filter_cons, he]; rfl
theorem said_head {L : List Line} {j : Nat} {x : Line} (h : L[j]? = some x) (he : emptyB x.2 = false) : said (L.drop j) = x :: said (L.drop (j + 1)) := by
 obtain ⟨h1, h2⟩ := List.getElem?_eq_some_iff.1 h
 rw [List.drop_eq_getElem_cons h1, h2]
 unfold said
 rw [List.filter_cons, he]; rfl
theorem RRow.setAt {r : RV} {w : World} {rb : Nat} (h : RRow r w rb) (k : Nat) (z : Int) (hz : z = (k : Int)) : RRow { r with at' := k } (w.setCell ⟨rb, 1, none⟩ (.int .i64 z)) rb := by
 subst hz
 unfold RRow
 rw [heap_setCell_same _ _ _ _ _ _ h]; rfl
theorem grown_set {w w1 : World} {rb : Nat} (h : w.grownBy w1 (some rb)) (o : Nat) (v : Value) : w.grownBy (w1.setCell ⟨rb, o, none⟩ v) (some rb) :=
 ⟨h.os, h.tape, h.output, by simpa using h.size, fun k hk hn => (heap_setCell_other _ _ _ _ (show k ≠ rb from fun e => hn (by rw [e]))).trans (h.block k hk hn)⟩
def nextEnd (r : RV) (rb : Nat) (L : List Line) (w : World) (e : Ending) (w' : World) : Prop := ∃ j, RRow { r with at' := j } w' rb ∧ r.at' + 1 ≤ j ∧ j ≤ L.length ∧ said (L.drop j) = said (L.drop (r.at' + 1)) ∧ (∀ x, L[j]? = some x → emptyB x.2 = false) ∧ e = .returned (.bool (indented (said (L.drop (r.at' + 1)))).isSome) ∧ w.grownBy w' (some rb)
set_option maxHeartbeats 8000000 in
theorem rnext_any {r : RV} {w : World} {rb : Nat} {L : List Line} {x : Line} (h : RAt r w rb L x) (hL : L.length ≤ 10000) (hs : ∀ y ∈ L, y.2.size ≤ 10000) :
  Calls Tryz.prog 326 #[.pointer (some ⟨rb, 0, none⟩)] w (nextEnd r rb L w) := by
 have H : Hid (RAt r w rb L x) := h
 have HS : Hid (∀ y ∈ L, y.2.size ≤ 10000) := hs
 obtain ⟨ao, cap, hv, hc, hl⟩ := h.lines
 have hat : r.at' < L.length := (List.getElem?_eq_some_iff.1 h.at').1
 obtain ⟨g, o, rfl, hl2⟩ : ∃ g o, ao = some ⟨g, o, none⟩ ∧ ∀ (k : Nat) x, L[k]? = some x → w.cell? ⟨g, o + k * 2, none⟩ = some (.string x.2) ∧ w.cell? ⟨g, o + k * 2 + 1, none⟩ = some (.int .i64 (x.1 : Nat)) := by
  rcases hl with e | e
  ·rw [e] at hat; simp at hat
  ·exact e
 have hgr : ¬ g = rb := h.ne _ _ _ _ hv
 have HLN : Hid (∀ (k : Nat) x, L[k]? = some x → w.cell? ⟨g, o + k * 2, none⟩ = some (.string x.2)) := fun k x hx => (hl2 k x hx).1
 have HV : Hid (r.vl = .slice (some ⟨g, o, none⟩) L.length cap) := hv
 have b1 : w.cell? ⟨rb, 1, none⟩ = some (.int .i64 (r.at' : Nat)) := by rw [cell_of_row _ _ _ _ _ _ h.row]; rfl
 have g1 : w.frozen? ⟨rb, 1, none⟩ = false := frozen_of_row _ _ _ _ _ h.row
 have HAT : Hid (r.at' < L.length) := hat
 have a0 : (0 : Int) ≤ (r.at' : Int) := by omega
 have a1 : (r.at' : Int) ≤ 10000 := by omega
 have n0 : (L.length : Int) ≤ 10000 := by omega
 clear h hs hv hl hl2 hc hat
 go_enter Tryz.func326, Tryz.ntmps326
 go_wp2_with fail
 go_loopw [] (fun wr => ∃ j, RRow { r with at' := j } wr rb ∧ r.at' + 1 ≤ j ∧ j ≤ L.length ∧ said (L.drop j) = said (L.drop (r.at' + 1)) ∧ w.grownBy wr (some rb)) (fun wr => L.length - atOf wr rb)
 case atStart =>
  exact ⟨r.at' + 1, H.out.row.setAt _ _ (by omega), Nat.le_refl _, HAT.out, rfl, grown_set ⟨rfl, rfl, rfl, Nat.le_refl _, fun _ _ _ => rfl⟩ 1 _⟩
 case round =>
  obtain ⟨j, hr, hj1, hj2, hsd, hgw⟩ := hrel
  have HR : Hid (RRow { r with at' := j } wr rb) := hr
  have HSD : Hid (said (L.drop j) = said (L.drop (r.at' + 1))) := hsd
  have HGW : Hid (w.grownBy wr (some rb)) := hgw
  have d0 : wr.cell? ⟨rb, 0, none⟩ = some (.slice (some ⟨g, o, none⟩) L.length cap) := by rw [cell_of_row _ _ _ _ _ _ hr]; exact congrArg some HV.out
  have d1 : wr.cell? ⟨rb, 1, none⟩ = some (.int .i64 (j : Nat)) := by rw [cell_of_row _ _ _ _ _ _ hr]; rfl
  have e1 : wr.frozen? ⟨rb, 1, none⟩ = false := frozen_of_row _ _ _ _ _ hr
  have HME : Hid (atOf wr rb = j) := by show _ = _; unfold atOf; rw [d1]; exact Int.toNat_natCast j
  have j0 : (0 : Int) ≤ (j : Int) := by omega
  clear hr hsd hgw b1 g1
  by_cases hlt : j < L.length
  ·obtain ⟨y, hy⟩ : ∃ y, L[j]? = some y := ⟨L[j]'hlt, by simp⟩
   have hc := HLN.out j y hy
   have d2 : wr.cell? ⟨g, o + j * 2, none⟩ = some (.string y.2) := (World.cell?_of_block (w := w) (a := ⟨g, o + j * 2, none⟩) (HGW.out.block g (block_lt_of_cell hc) (fun e => hgr (Option.some.inj e)))).trans hc
   have j1 : (j : Int) < (L.length : Int) := by omega
   have hys := HS.out y (List.mem_of_getElem? hy)
   have HY : Hid (L[j]? = some y) := hy
   have HEM : Hid (∀ wx, Calls Tryz.prog 281 #[.string y.2] wx fun e w' => e = .returned (.bool (emptyB y.2)) ∧ w' = wx) := fun wx => rempty_any y.2 (by omega) wx
   have HDF : Hid (emptyB y.2 = decide ((leftB y.2).size = 0 ∨ byteOf (leftB y.2) 0 = 35)) := rfl
   clear hc hy
   obtain ⟨yn, yt⟩ := y
   simp only at d2 HEM hys HDF
   generalize hLL : L.length = LL at *
   have HLL : Hid (L.length = LL) := hLL
   clear hLL
   go_wp2_with fail
   go_region
   all_goals
    go_wp2_with fail
    go_region_held3 (fun w' => w' = wr.drew.drew ∧ w'.cell? ⟨rb, 0, none⟩ = some (.slice (some ⟨g, o, none⟩) LL cap) ∧ w'.cell? ⟨rb, 1, none⟩ = some (.int .i64 (j : Nat)) ∧ w'.cell? ⟨g, o + j * 2, none⟩ = some (.string yt)) (first | exact ⟨rfl, d0, d1, d2⟩) (first | (go_at_call 281; refine (HEM.out _).mono ?_; rintro e w8 ⟨rfl, rfl⟩))
    all_goals
     obtain ⟨w2, hw2⟩ : ∃ w2, w2 = wr.drew.drew := ⟨_, rfl⟩
     rw [← hw2]
     have HR2 : Hid (RRow { r with at' := j } w2 rb) := by rw [hw2]; exact HR.out
     have HG2 : Hid (w.grownBy w2 (some rb)) := by rw [hw2]; exact ⟨HGW.out.os, HGW.out.tape, HGW.out.output, HGW.out.size, HGW.out.block⟩
     have k0 : w2.cell? ⟨rb, 0, none⟩ = some (.slice (some ⟨g, o, none⟩) LL cap) := by rw [hw2]; exact d0
     have k1 : w2.cell? ⟨rb, 1, none⟩ = some (.int .i64 (j : Nat)) := by rw [hw2]; exact d1
     have k2 : w2.cell? ⟨g, o + j * 2, none⟩ = some (.string yt) := by rw [hw2]; exact d2
     have kf : w2.frozen? ⟨rb, 1, none⟩ = false := by rw [hw2]; exact e1
     clear hw2 d0 d1 d2 e1 HEM
     cases hem : emptyB yt with
     | true =>
      have HN : Hid (said (L.drop (j + 1)) = said (L.drop (r.at' + 1))) := (said_skip HY.out hem).trans HSD.out
      have HFIN : Hid (RRow { r with at' := j + 1 } (w2.setCell ⟨rb, 1, none⟩ (.int .i64 ((j : Int) + 1))) rb ∧ w.grownBy (w2.setCell ⟨rb, 1, none⟩ (.int .i64 ((j : Int) + 1))) (some rb)) := ⟨HR2.out.setAt (j + 1) _ (by omega), grown_set HG2.out 1 _⟩
      have HME2 : Hid (atOf (w2.setCell ⟨rb, 1, none⟩ (.int .i64 ((j : Int) + 1))) rb = j + 1) := by
       show _ = _
       unfold atOf
       rw [cell_of_row _ _ _ _ _ _ HFIN.out.1]
       exact Int.toNat_natCast (j + 1)
      have j9 : (j : Int) ≤ 10000 := by omega
      clear hem
      go_wp2_with fail
      exact ⟨⟨j + 1, HFIN.out.1, by omega, by omega, HN.out, HFIN.out.2⟩, by rw [HME2.out, HME.out]; omega⟩
     | false =>
      have hor := of_decide_eq_false (HDF.out.symm.trans hem)
      have hy0 : 0 < yt.size := by have := leftB_le yt; omega
      have hi : ∀ wx, (Instr.index 9 (.string yt) (.int .i64 0)).run Tryz.prog wx = .ok (.int .u8 (byteOf yt 0)) wx := fun wx => run_index_text yt 0 hy0 wx
      have y0 : (0 : Int) < (yt.size : Int) := by omega
      have HIN : Hid ((indented (said (L.drop (r.at' + 1)))).isSome = decide ((byteOf yt 0 : Int) = 32)) := by
       show _ = _
       rw [← HSD.out, said_head HY.out hem]
       show (if begins yt 32 = true then some ((yn, yt), said (L.drop (j + 1))) else none).isSome = _
       unfold begins
       by_cases h32 : byteOf yt 0 = 32
       ·rw [decide_eq_true (show 0 < yt.size ∧ byteOf yt 0 = 32 from ⟨hy0, h32⟩), decide_eq_true (by omega)]; rfl
       ·rw [decide_eq_false (fun h => h32 h.2), decide_eq_false (by omega)]; rfl
      have HNE : Hid (∀ z, L[j]? = some z → emptyB z.2 = false) := fun z hz => by
       rw [HY.out] at hz
       obtain rfl := Option.some.inj hz
       exact hem
      clear hor hem HDF
      generalize byteOf yt 0 = bb at *
      go_wp2_with fail
      go_region
      all_goals
       go_wp2_with fail
       go_ret
       exact ⟨j, HR2.out, hj1, by rw [HLL.out]; omega, HSD.out, HNE.out, by rw [HIN.out]; rfl, ⟨HG2.out.os, HG2.out.tape, HG2.out.output, HG2.out.size, HG2.out.block⟩⟩
  ·obtain rfl : j = L.length := by omega
   have HIN : Hid ((indented (said (L.drop (r.at' + 1)))).isSome = false) := by
    show _ = _
    rw [← HSD.out, List.drop_length]; rfl
   have HNE : Hid (∀ z, L[L.length]? = some z → emptyB z.2 = false) := fun z hz => by simp at hz
   have j1 : ¬ (L.length : Int) < (L.length : Int) := by omega
   go_wp2_with fail
   go_region
   all_goals
    go_wp2_with fail
    go_ret
    exact ⟨L.length, HR.out, hj1, Nat.le_refl _, HSD.out, HNE.out, by rw [HIN.out]; rfl, ⟨HGW.out.os, HGW.out.tape, HGW.out.output, HGW.out.size, HGW.out.block⟩⟩
end Go.Proofs.YthhbpebihgjpjaaGreatDoor
