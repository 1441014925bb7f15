import Derived.Test.YthhbpebihgjpjaaGreatDoorP11
import Derived.Test.YthhbpebihgjpjaaGreatDoorP12
import Derived.BigRegion
import Derived.Test.YthhbpebihgjpjaaGreatDoorP13
namespace Go.Proofs.YthhbpebihgjpjaaGreatDoor
set_option maxRecDepth 1000000

def countS (s : Secs) : Nat := (s.map fun x => x.2.length).sum
theorem countS_append (a b : Secs) : countS (a ++ b) = countS a + countS b := by unfold countS; rw [List.map_append, List.sum_append]
theorem countS_mem : ∀ {s : Secs} {x : ByteArray × List ByteArray}, x ∈ s → x.2.length ≤ countS s
 | y :: s, x, h => by
  have e : countS (y :: s) = y.2.length + countS s := by unfold countS; simp
  rcases List.mem_cons.1 h with rfl | h
  ·omega
  ·have := countS_mem h; omega
structure SecsOk (ms : List ByteArray) (s : Secs) : Prop where
 ne : s ≠ []
 names : ∀ x ∈ s, ∀ y ∈ x.2, y.size ≤ 32
 first : (s.head?.map (·.1)) = some ⟨#[]⟩
 marks : ∀ x ∈ s.tail, memB x.1 ms = true
theorem SecsOk.addPath {ms : List ByteArray} {s : Secs} (h : SecsOk ms s) {p : ByteArray} (hp : p.size ≤ 32) : SecsOk ms (addPath s p) ∧ countS (addPath s p) = countS s + 1 ∧ (addPath s p).length = s.length := by
 rcases List.eq_nil_or_concat s with h0 | ⟨I, x, rfl⟩
 ·exact absurd h0 h.ne
 ·obtain ⟨mk, l⟩ := x
  rw [List.concat_eq_append] at *
  rw [addPath_snoc]
  refine ⟨⟨by simp, fun x hx y hy => ?_, ?_, fun x hx => ?_⟩, ?_, by simp⟩
  ·rcases List.mem_append.1 hx with hx | hx
   ·exact h.names x (List.mem_append_left _ hx) y hy
   ·obtain rfl := List.mem_singleton.1 hx
    rcases List.mem_append.1 hy with hy | hy
    ·exact h.names (mk, l) (by simp) y hy
    ·obtain rfl := List.mem_singleton.1 hy
     exact hp
  ·have := h.first
   cases I with
   | nil => exact this
   | cons z I => exact this
  ·cases I with
   | nil => cases hx
   | cons z I =>
    rcases List.mem_append.1 (show x ∈ I ++ [(mk, l ++ [p])] from hx) with hx | hx
    ·exact h.marks x (show x ∈ I ++ [(mk, l)] from List.mem_append_left _ hx)
    ·obtain rfl := List.mem_singleton.1 hx
     exact h.marks (mk, l) (show (mk, l) ∈ I ++ [(mk, l)] by simp)
  ·rw [countS_append, countS_append]
   unfold countS
   simp
   omega
theorem SecsOk.addMark {ms : List ByteArray} {s : Secs} (h : SecsOk ms s) {m : ByteArray} (hm : memB m ms = true) : SecsOk ms (s ++ [(m, [])]) ∧ countS (s ++ [(m, [])]) = countS s := by
 refine ⟨⟨by simp, fun x hx y hy => ?_, ?_, fun x hx => ?_⟩, ?_⟩
 ·rcases List.mem_append.1 hx with hx | hx
  ·exact h.names x hx y hy
  ·obtain rfl := List.mem_singleton.1 hx
   cases hy
 ·have := h.first
  cases s with
  | nil => exact absurd rfl h.ne
  | cons z I => exact this
 ·cases s with
  | nil => exact absurd rfl h.ne
  | cons z I =>
   rcases List.mem_append.1 (show x ∈ I ++ [(m, [])] from hx) with hx | hx
   ·exact h.marks x hx
   ·obtain rfl := List.mem_singleton.1 hx
    exact hm
 ·rw [countS_append]; rfl
theorem pathS_size {E : ByteArray → ByteArray} {t p : ByteArray} (h : pathS E t = .ok p) : p.size ≤ 32 := by
 unfold pathS at h
 split at h
 ·cases h
 ·split at h
  ·rename_i hk
   injection h with h
   subst h
   unfold okName at hk
   simp only [Bool.and_eq_true] at hk
   have := of_decide_eq_true (show named _ = true from hk.1.1)
   exact this.2.1
  ·cases h
theorem pathsFrom_ok (E : ByteArray → ByteArray) (ms : List ByteArray) : ∀ (g : Nat) (u : ByteArray) (a s : Secs), pathsFrom E ms g u a = .ok s → SecsOk ms a → SecsOk ms s ∧ countS s ≤ countS a + u.size ∧ s.length ≤ a.length + u.size
 | 0, u, a, s, h, ha => by
  rw [pathsFrom] at h
  injection h with h
  subst h
  exact ⟨ha, by omega, by omega⟩
 | g + 1, u, a, s, h, ha => by
  have hle := leftB_le u
  rw [pathsFrom] at h
  by_cases h0 : (leftB u).size = 0
  ·rw [if_pos h0] at h
   injection h with h
   subst h
   exact ⟨ha, by omega, by omega⟩
  ·rw [if_neg h0] at h
   by_cases hm : markB (leftB u) = ⟨#[]⟩
   ·rw [if_pos hm] at h
    have hp := pathEnd_pos u h0 hm
    cases hq : pathS E ((leftB u).extract 0 (pathEnd (leftB u))) with
    | error e => rw [hq] at h; cases h
    | ok p =>
     rw [hq] at h
     obtain ⟨h1, h2, h3⟩ := ha.addPath (pathS_size hq)
     obtain ⟨h4, h5, h6⟩ := pathsFrom_ok E ms g _ _ s h h1
     rw [ByteArray.size_extract] at h5 h6
     exact ⟨h4, by omega, by omega⟩
   ·rw [if_neg hm] at h
    have hz := mark_size hm
    by_cases hb : memB (markB (leftB u)) ms = true
    ·rw [if_pos hb] at h
     obtain ⟨h1, h2⟩ := ha.addMark hb
     obtain ⟨h4, h5, h6⟩ := pathsFrom_ok E ms g _ _ s h h1
     rw [ByteArray.size_extract] at h5 h6
     rw [List.length_append] at h6
     refine ⟨h4, by omega, ?_⟩
     have : ([(markB (leftB u), ([] : List ByteArray))] : Secs).length = 1 := rfl
     omega
    ·rw [if_neg hb] at h
     cases h
theorem pathsS_ok {E : ByteArray → ByteArray} {ms : List ByteArray} {t : ByteArray} {s : Secs} (h : pathsS E ms t = .ok s) : SecsOk ms s ∧ countS s ≤ t.size ∧ s.length ≤ 1 + t.size := by
 have ha : SecsOk ms [(⟨#[]⟩, [])] := ⟨by simp, (fun x hx y hy => by obtain rfl := List.mem_singleton.1 hx; cases hy), rfl, (fun x hx => by cases hx)⟩
 obtain ⟨h1, h2, h3⟩ := pathsFrom_ok E ms _ t _ s h ha
 have e : countS [(⟨#[]⟩, [])] = 0 := rfl
 exact ⟨h1, by omega, by simpa using h3⟩
theorem SecsOk.firstS {ms : List ByteArray} {s : Secs} (h : SecsOk ms s) : ∃ x, s[0]? = some x ∧ firstS s = x.2 ∧ x ∈ s := by
 cases s with
 | nil => exact absurd rfl h.ne
 | cons x s => exact ⟨x, rfl, rfl, List.mem_cons_self⟩
end Go.Proofs.YthhbpebihgjpjaaGreatDoor

namespace Go.Proofs.YthhbpebihgjpjaaGreatDoor
open Go.RowKit Go.Shelf
set_option maxRecDepth 1000000

theorem rising_bad : ∀ (s : Secs) (k : Nat) (x y : ByteArray × List ByteArray), s[k]? = some x → s[k + 1]? = some y → ¬ x.1.size < y.1.size → risingS s = false
 | [], k, x, y, h, _, _ => by simp at h
 | [z], k, x, y, _, h, _ => by simp at h
 | z :: z2 :: l, 0, x, y, h1, h2, h3 => by
  simp only [List.getElem?_cons_zero, Option.some.injEq] at h1
  simp only [List.getElem?_cons_succ, List.getElem?_cons_zero, Option.some.injEq] at h2
  subst h1 h2
  rw [risingS, decide_eq_false h3]; rfl
 | z :: z2 :: l, k + 1, x, y, h1, h2, h3 => by
  rw [risingS, rising_bad (z2 :: l) k x y (by simpa using h1) (by simpa using h2) h3, Bool.and_false]
theorem rising_all : ∀ (s : Secs), (∀ (k : Nat) x y, s[k]? = some x → s[k + 1]? = some y → x.1.size < y.1.size) → risingS s = true
 | [], _ => rfl
 | [z], _ => rfl
 | z :: z2 :: l, h => by
  rw [risingS, decide_eq_true (h 0 z z2 rfl rfl), rising_all (z2 :: l) (fun k x y h1 h2 => h (k + 1) x y (by simpa using h1) (by simpa using h2))]; rfl
theorem SecsAt.cell {W0 : Nat} {w : World} {v : Value} {s : Secs} (h : SecsAt W0 w v s) : ∃ g cap, v = .slice (some ⟨g, 0, none⟩) s.length cap ∧ s.length ≤ cap ∧ ∀ (i : Nat) y, s[i]? = some y → ∃ pv, w.cell? ⟨g, i * 2, none⟩ = some (.string y.1) ∧ w.cell? ⟨g, i * 2 + 1, none⟩ = some pv ∧ TextsF W0 w pv y.2 := by
 obtain ⟨g, cap, rfl, hc, vs, hs, hcell⟩ := h
 refine ⟨g, cap, rfl, hc, fun i y hy => ?_⟩
 have hi : i < vs.length := by rw [hs.1]; exact (List.getElem?_eq_some_iff.1 hy).1
 have hx : vs[i]? = some vs[i] := List.getElem?_eq_getElem hi
 obtain ⟨e, ht⟩ := hs.2 i _ y hx hy
 have := hcell i _ hx
 exact ⟨_, by rw [← e]; exact this.1, this.2, ht⟩
theorem TextsF.keep {W0 : Nat} {w w' : World} {v : Value} {l : List ByteArray} (h : TextsF W0 w v l) (hb : ∀ k, k < w.heap.size → w'.heap[k]? = w.heap[k]?) : TextsF W0 w' v l := by
 refine ⟨?_, h.2⟩
 obtain ⟨ao, cap, rfl, hc, q | ⟨b, o, rfl, q⟩⟩ := h.1
 ·exact ⟨ao, cap, rfl, hc, Or.inl q⟩
 ·exact ⟨_, cap, rfl, hc, Or.inr ⟨b, o, rfl, fun k s hs => (World.cell?_of_block (w := w) (a := ⟨b, o + k, none⟩) (hb b (block_lt_of_cell (q k s hs)))).trans (q k s hs)⟩⟩
theorem SecsAt.keep {W0 : Nat} {w w' : World} {v : Value} {s : Secs} (h : SecsAt W0 w v s) (hb : ∀ k, k < w.heap.size → w'.heap[k]? = w.heap[k]?) : SecsAt W0 w' v s := by
 obtain ⟨g, cap, rfl, hc, vs, hs, hcell⟩ := h
 refine ⟨g, cap, rfl, hc, vs, ⟨hs.1, fun k x y hx hy => ⟨(hs.2 k x y hx hy).1, (hs.2 k x y hx hy).2.keep hb⟩⟩, fun i x hx => ?_⟩
 obtain ⟨h1, h2⟩ := hcell i x hx
 exact ⟨(World.cell?_of_block (w := w) (a := ⟨g, i * 2, none⟩) (hb g (block_lt_of_cell h1))).trans h1, (World.cell?_of_block (w := w) (a := ⟨g, i * 2 + 1, none⟩) (hb g (block_lt_of_cell h2))).trans h2⟩
set_option maxHeartbeats 4000000 in
theorem rising_any (W0 : Nat) (s : Secs) (v : Value) (w : World) (h : SecsAt W0 w v s) (hs : s.length ≤ 5000) (hm : ∀ x ∈ s, x.1.size ≤ 5000) :
  Calls Tryz.prog 267 #[v] w fun e w' => e = .returned (.bool (risingS s)) ∧ ∃ q, w' = w.drewN q := by
 obtain ⟨g, cap, rfl, hc, hcell⟩ := h.cell
 have HC : Hid (∀ (i : Nat) y, s[i]? = some y → ∃ pv, w.cell? ⟨g, i * 2, none⟩ = some (.string y.1) ∧ w.cell? ⟨g, i * 2 + 1, none⟩ = some pv ∧ TextsF W0 w pv y.2) := hcell
 have HM : Hid (∀ x ∈ s, x.1.size ≤ 5000) := hm
 have n0 : (s.length : Int) ≤ 5000 := by omega
 clear h hcell hm
 generalize hL : s.length = L at *
 have HL : Hid (s.length = L) := hL
 clear hL
 go_enter Tryz.func267, Tryz.ntmps267
 go_wp2_with fail
 go_loopw [3] (fun i wr => ∃ j : Nat, i = .int .i64 ((j : Int) + 1) ∧ (j ≤ L) ∧ (∀ (k : Nat) x y, k < j → s[k]? = some x → s[k + 1]? = some y → x.1.size < y.1.size) ∧ ∃ q, wr = w.drewN q) (fun i _ => L + 1 - (intOf i).toNat)
 case atStart => exact ⟨0, rfl, Nat.zero_le _, fun k x y hk => by omega, 0, rfl⟩
 case round =>
  obtain ⟨j, rfl, hle, hag, hbq⟩ := hrel
  have HBQ : Hid (∃ q, wr = w.drewN q) := hbq
  have hbw : Below w.heap.size w wr := by obtain ⟨q, rfl⟩ := hbq; exact below_drewN (Below.refl _ _) q
  have HBD : Hid (∃ q, wr.drew = w.drewN q) := by obtain ⟨q, hq⟩ := hbq; exact ⟨q + 1, by rw [hq]; rfl⟩
  clear hbq
  have HAG : Hid (∀ (k : Nat) x y, k < j → s[k]? = some x → s[k + 1]? = some y → x.1.size < y.1.size) := hag
  have HBW : Hid (Below w.heap.size w wr) := hbw
  clear hag hbw
  by_cases hlt : j + 1 < L
  ·obtain ⟨x, hx⟩ : ∃ x, s[j]? = some x := ⟨s[j]'(by have := HL.out; omega), by simp⟩
   obtain ⟨y, hy⟩ : ∃ y, s[j + 1]? = some y := ⟨s[j + 1]'(by have := HL.out; omega), by simp⟩
   obtain ⟨_, cx, _, _⟩ := HC.out j x hx
   obtain ⟨_, cy, _, _⟩ := HC.out (j + 1) y hy
   have c1 : wr.cell? ⟨g, j * 2, none⟩ = some (.string x.1) := (HBW.out.cell (p := ⟨g, j * 2, none⟩) (block_lt_of_cell cx)).trans cx
   have c2 : wr.cell? ⟨g, (j + 1) * 2, none⟩ = some (.string y.1) := (HBW.out.cell (p := ⟨g, (j + 1) * 2, none⟩) (block_lt_of_cell cy)).trans cy
   have hxs := HM.out x (List.mem_of_getElem? hx)
   have hys := HM.out y (List.mem_of_getElem? hy)
   have HXY : Hid (s[j]? = some x ∧ s[j + 1]? = some y) := ⟨hx, hy⟩
   clear cx cy hx hy
   obtain ⟨J, hJ⟩ : ∃ J, J = j + 1 := ⟨_, rfl⟩
   rw [← hJ] at c2
   have e1 : (j : Int) + 1 = (J : Int) := by omega
   rw [e1]
   have hw0 : IntKind.i64.wrap ((J : Int) - 1) = (j : Int) := by rw [IntKind.wrap_i64]; omega
   have i0 : (0 : Int) ≤ (J : Int) := by omega
   have i1 : (J : Int) < (L : Int) := by omega
   have i2 : (0 : Int) ≤ (j : Int) := by omega
   have i3 : (j : Int) < (L : Int) := by omega
   have HJ : Hid (J = j + 1) := hJ
   clear hJ e1
   obtain ⟨x1, x2⟩ := x
   obtain ⟨y1, y2⟩ := y
   simp only at c1 c2 hxs hys
   by_cases hxy : x1.size < y1.size
   ·have HR : Hid (∀ (k : Nat) x y, k < j + 1 → s[k]? = some x → s[k + 1]? = some y → x.1.size < y.1.size) := fun k x y hk h1 h2 => by
     rcases Nat.lt_or_ge k j with q | q
     ·exact HAG.out k x y q h1 h2
     ·obtain rfl : k = j := by omega
      rw [HXY.out.1] at h1
      rw [HXY.out.2] at h2
      obtain rfl := Option.some.inj h1
      obtain rfl := Option.some.inj h2
      exact hxy
    have t1 : ¬ (y1.size : Int) ≤ (x1.size : Int) := by omega
    go_wp2_with fail
    go_region
    all_goals
     go_wp2_with fail
     exact ⟨⟨j + 1, by rw [HJ.out], by omega, HR.out, HBD.out⟩, by simp [intOf]; omega⟩
   ·have HR : Hid (risingS s = false) := rising_bad s j _ _ HXY.out.1 HXY.out.2 hxy
    have t1 : (y1.size : Int) ≤ (x1.size : Int) := by omega
    go_wp2_with fail
    go_region
    all_goals
     go_wp2_with fail
     go_ret
     exact ⟨by rw [HR.out]; rfl, HBD.out⟩
  ·have HR : Hid (risingS s = true) := rising_all s (fun k x y h1 h2 => HAG.out k x y (by have := (List.getElem?_eq_some_iff.1 h2).1; have := HL.out; omega) h1 h2)
   have i1 : ¬ (j : Int) + 1 < (L : Int) := by omega
   go_wp2_with fail
   go_ret
   exact ⟨by rw [HR.out]; rfl, HBQ.out⟩
set_option maxHeartbeats 4000000 in
theorem pathsBehind_any (W0 : Nat) (s : Secs) (v : Value) (m : ByteArray) (w0 w : World) (h : SecsAt W0 w0 v s) (hb0 : Below w0.heap.size w0 w) (hs : s.length ≤ 5000) :
  Calls Tryz.prog 268 #[v, .string m] w fun e w' => ∃ pv, e = .returned pv ∧ TextsF W0 w0 pv (behindS s m) ∧ Below w.heap.size w w' := by
 obtain ⟨g, cap, rfl, hc, hcell⟩ := h.cell
 have HC : Hid (∀ (i : Nat) y, s[i]? = some y → ∃ pv, w.cell? ⟨g, i * 2, none⟩ = some (.string y.1) ∧ w.cell? ⟨g, i * 2 + 1, none⟩ = some pv ∧ TextsF W0 w0 pv y.2) := fun i y hy => by
  obtain ⟨pv, q1, q2, q3⟩ := hcell i y hy
  exact ⟨pv, (hb0.cell (p := ⟨g, i * 2, none⟩) (block_lt_of_cell q1)).trans q1, (hb0.cell (p := ⟨g, i * 2 + 1, none⟩) (block_lt_of_cell q2)).trans q2, q3⟩
 have n0 : (s.length : Int) ≤ 5000 := by omega
 clear h hcell hb0
 generalize hL : s.length = L at *
 have HL : Hid (s.length = L) := hL
 clear hL
 go_enter Tryz.func268, Tryz.ntmps268
 go_wp2_with fail
 go_loopw [9] (fun i wr => ∃ j : Nat, i = .int .i64 j ∧ j ≤ L ∧ (∀ (k : Nat) x, k < j → s[k]? = some x → x.1 ≠ m) ∧ Below w.heap.size w wr) (fun i _ => L - (intOf i).toNat)
 case atStart => exact ⟨0, rfl, Nat.zero_le _, fun k x hk => by omega, Below.refl _ _⟩
 case round =>
  obtain ⟨j, rfl, hle, hag, hbw⟩ := hrel
  have HAG : Hid (∀ (k : Nat) x, k < j → s[k]? = some x → x.1 ≠ m) := hag
  have HBW : Hid (Below w.heap.size w wr) := hbw
  clear hag hbw
  have j0 : (0 : Int) ≤ (j : Int) := by omega
  by_cases hlt : j < L
  ·have j1 : (j : Int) < (L : Int) := by omega
   obtain ⟨x, hx⟩ : ∃ x, s[j]? = some x := ⟨s[j]'(by have := HL.out; omega), by simp⟩
   obtain ⟨pv, cx, cp, ht⟩ := HC.out j x hx
   have c1 : wr.cell? ⟨g, j * 2, none⟩ = some (.string x.1) := (HBW.out.cell (p := ⟨g, j * 2, none⟩) (block_lt_of_cell cx)).trans cx
   have c2 : wr.cell? ⟨g, j * 2 + 1, none⟩ = some pv := (HBW.out.cell (p := ⟨g, j * 2 + 1, none⟩) (block_lt_of_cell cp)).trans cp
   have HTX : Hid (TextsF W0 w0 pv x.2) := ht
   have HX : Hid (s[j]? = some x) := hx
   obtain ⟨ao, pn, pc, rfl⟩ : ∃ ao n c, pv = .slice ao n c := by obtain ⟨ao, c, e, _⟩ := ht.1; exact ⟨ao, _, c, e⟩
   clear cx cp ht hx
   obtain ⟨x1, x2⟩ := x
   simp only at c1 c2 HTX
   cases hq : (x1.toList == m.toList) with
   | true =>
    have HR : Hid (behindS s m = x2) := by
     have e1 := text_same hq
     obtain ⟨hk, he⟩ := List.getElem?_eq_some_iff.1 HX.out
     have : s.find? (fun x => decide (x.1 = m)) = some (x1, x2) := List.find?_eq_some_iff_getElem.2 ⟨decide_eq_true e1, j, hk, he, fun i hi => by
      have := HAG.out i s[i] hi (by simp)
      simpa using this⟩
     show _ = _
     unfold behindS
     rw [this]; rfl
    go_wp2_with fail
    go_ret
    exact ⟨_, rfl, by rw [HR.out]; exact HTX.out, HBW.out.alloc HBW.out.size _⟩
   | false =>
    have HR : Hid (∀ (k : Nat) x, k < j + 1 → s[k]? = some x → x.1 ≠ m) := fun k z hk hz => by
     rcases Nat.lt_or_ge k j with q | q
     ·exact HAG.out k z q hz
     ·obtain rfl : k = j := by omega
      rw [HX.out] at hz
      obtain rfl := Option.some.inj hz
      exact text_other hq
    go_wp2_with fail
    exact ⟨⟨j + 1, by go_num, hlt, HR.out, HBW.out.alloc HBW.out.size _⟩, by simp [intOf]; omega⟩
  ·have HR : Hid (behindS s m = []) := by
    have : s.find? (fun x => decide (x.1 = m)) = none := List.find?_eq_none.2 (fun z hz => by
     obtain ⟨k, hk, rfl⟩ := List.getElem_of_mem hz
     have := HAG.out k s[k] (by have := HL.out; omega) (by simp)
     simpa using this)
    show _ = _
    unfold behindS
    rw [this]; rfl
   have j1 : ¬ (j : Int) < (L : Int) := by omega
   go_wp2_with fail
   go_ret
   exact ⟨_, rfl, by rw [HR.out]; exact ⟨⟨none, 0, rfl, Nat.le_refl _, Or.inl ⟨fun _ => rfl, rfl, trivial⟩⟩, fun k hk => by cases hk⟩, HBW.out⟩
end Go.Proofs.YthhbpebihgjpjaaGreatDoor

namespace Go.Proofs.YthhbpebihgjpjaaGreatDoor
open Go.RowKit Go.Maps
set_option maxRecDepth 1000000

theorem PStC.addDefs {p : PV} {a : Nat → Addr} {B : Nat} {w w3 : World} {rb : Nat} {n : Int} {ls : List Line} {S : St} {m : Nat} {vf' : Value} {l : List ByteArray} (h : PStC p a B w rb n ls S (m + 1)) (hg : w.grownBy w3 p.vf.ownBlock) (hr : w3.ownsRow B 9 1 vf' (S.defs.length + l.length) (S.defs.map Value.string ++ l.map Value.string)) (hat : ∀ k, vf'.ownBlock = some k → p.vf.ownBlock = some k ∨ w.heap.size ≤ k) (hl : l.length ≤ 4000) : PStC { p with vf := vf', c := fun k => if vf'.ownBlock = some k then 6 else p.c k } a B (w3.setCell ⟨rb, 6, none⟩ vf') rb n ls { S with defs := S.defs ++ l } m := by
 have hrb := h.rowlt
 have hnv : ∀ k, k < w.heap.size → p.c k ≠ 6 → vf'.ownBlock ≠ some k := fun k hk hc e => by
  rcases hat k e with q | q
  ·exact hc (h.c6 k q)
  ·omega
 have hc' : ∀ k, k < w.heap.size → p.c k ≠ 6 → (if vf'.ownBlock = some k then 6 else p.c k) = p.c k := fun k hk hc => if_neg (hnv k hk hc)
 have off3 : ∀ k, k < w.heap.size → p.c k ≠ 6 → w3.heap[k]? = w.heap[k]? := fun k hk hc => hg.block k hk (fun e => hc (h.c6 k e.symm))
 have off : ∀ k, k < w.heap.size → p.c k ≠ 6 → p.c k ≠ 1 → (w3.setCell ⟨rb, 6, none⟩ vf').heap[k]? = w.heap[k]? := fun k hk hc h1 => by
  rw [heap_setCell_other _ _ _ _ (show k ≠ rb from fun e => h1 (by rw [e]; exact h.c1))]
  exact off3 k hk hc
 have hsz : w.heap.size ≤ (w3.setCell ⟨rb, 6, none⟩ vf').heap.size := by simpa using hg.size
 exact {
  gl := h.gl.keep hsz (fun k hk => off k (Nat.lt_of_lt_of_le hk h.gl.size) (by rw [h.low k (Nat.lt_of_lt_of_le hk h.base)]; decide) (by rw [h.low k (Nat.lt_of_lt_of_le hk h.base)]; decide))
  base := h.base
  row := by
   have h1 : w3.heap[rb]? = _ := (off3 rb hrb (by rw [h.c1]; decide)).trans h.row
   show (w3.setCell ⟨rb, 6, none⟩ vf').heap[rb]? = _
   rw [heap_setCell_same _ _ _ _ _ _ h1]; rfl
  const := h.const.step hsz (fun k hk h0 => ⟨off k hk (by rw [h0]; decide) (by rw [h0]; decide), (hc' k hk (by rw [h0]; decide)).trans h0⟩)
  top := TMap.keep h.top (off p.tb h.top.lt (by rw [h.c2]; decide) (by rw [h.c2]; decide))
  rules := TMap.keep h.rules (off p.rm h.rules.lt (by rw [h.c3]; decide) (by rw [h.c3]; decide))
  mlt := Nat.lt_of_lt_of_le h.mlt (hsz)
  made := TMap.keep h.made (off p.mm h.made.lt (by rw [h.c4]; decide) (by rw [h.c4]; decide))
  drafts := rkeep h.drafts (fun k hk => off k (rblock h.drafts k hk).2 (by rw [h.c5 k hk]; decide) (by rw [h.c5 k hk]; decide))
  defs := by
   show World.ownsRow _ _ _ _ _ (S.defs ++ l).length ((S.defs ++ l).map Value.string)
   rw [List.length_append, List.map_append]
   exact rkeep hr (fun k hk => heap_setCell_other _ _ _ _ (show k ≠ rb from fun e => hnv rb hrb (by rw [h.c1]; decide) (by rw [← e]; exact hk)))
  c1 := (hc' rb hrb (by rw [h.c1]; decide)).trans h.c1
  c2 := (hc' p.tb h.top.lt (by rw [h.c2]; decide)).trans h.c2
  c3 := (hc' p.rm h.rules.lt (by rw [h.c3]; decide)).trans h.c3
  c4 := (hc' p.mm h.made.lt (by rw [h.c4]; decide)).trans h.c4
  c5 := fun k hk => (hc' k (rblock h.drafts k hk).2 (by rw [h.c5 k hk]; decide)).trans (h.c5 k hk)
  c6 := fun k hk => if_pos hk
  low := fun k hk => by
   show (if vf'.ownBlock = some k then 6 else p.c k) = 9
   rw [if_neg (fun e => by have := (rblock hr k e).1; omega)]
   exact h.low k hk
  few := by show p.n1 + m ≤ 5000 ∧ p.n2 + m ≤ 5000 ∧ p.n3 + 8000 * m ≤ 40000000; have := h.few; omega
  ok := { top := h.ok.top, tops := (by show S.top.length + m ≤ 5000; have := h.ok.tops; omega), rules := h.ok.rules, rulen := (by show S.rules.length + m ≤ 5000; have := h.ok.rulen; omega), edges := h.ok.edges, edge := h.ok.edge, defs := (by show (S.defs ++ l).length + 4000 * m ≤ _; rw [List.length_append]; have := h.ok.defs; omega), lines := h.ok.lines, count := h.ok.count } }
theorem PStB.scopes {p : PV} {a : Nat → Addr} {B : Nat} {w : World} {rb : Nat} {n : Int} {ls : List Line} {S : St} {m : Nat} (h : PStB p a B w rb n ls S m) : ScopesAt w (.pointer (some ⟨p.sb, 0, none⟩)) [S.top] := ⟨p.sb, p.tb, p.n1, .pointer none, rfl, Nat.zero_le _, h.const.now.2.1, h.top, rfl⟩
theorem PStB.boks {p : PV} {a : Nat → Addr} {B : Nat} {w : World} {rb : Nat} {n : Int} {ls : List Line} {S : St} {m : Nat} (h : PStB p a B w rb n ls S m) : ∀ l ∈ [S.top], BOk l := fun l hl => by
 obtain rfl := List.mem_singleton.1 hl
 exact h.ok.top
theorem textsAt_nil (w : World) : TextsAt w (.slice none 0 0) [] := ⟨none, 0, rfl, Nat.le_refl _, Or.inl ⟨fun _ => rfl, rfl, trivial⟩⟩
set_option maxHeartbeats 4000000 in
theorem readDefaults_any {p : PV} {a : Nat → Addr} {B : Nat} {w : World} {rb no : Nat} {ls : List Line} {S : St} {m : Nat} {t : ByteArray} (h : PStC p a B w rb (no : Nat) ls S (m + 1)) (ht : t.size ≤ 4000) :
  Calls Tryz.prog 197 #[.pointer (some ⟨rb, 0, none⟩), .string t] w (stmtEnd a B rb m w (defaultS S no t ls)) := by
 have hinf : (Tryz.prog.info? 9).map (fun i => (i.size, i.bytes, i.zero)) = some (1, 16, some (.string ⟨#[]⟩)) := by kernel_rfl
 obtain ⟨tj, hti, htj⟩ := Option.map_eq_some_iff.1 hinf
 simp only [Prod.mk.injEq] at htj
 have HTJ : Hid (Tryz.prog.info? 9 = some tj ∧ tj.size = 1 ∧ tj.bytes = 16 ∧ tj.zero = some (.string ⟨#[]⟩)) := ⟨hti, htj.1, htj.2.1, htj.2.2⟩
 clear hinf hti htj
 have H : Hid (PStC p a B w rb (no : Nat) ls S (m + 1)) := h
 have HRP := readPaths_any rb (no : Nat) t [S.top] (some ⟨p.sb, 0, none⟩) a [] (.slice none 0 0) w h.at0 (by rw [cell_of_row _ _ _ _ _ _ h.row]; rfl) h.scopes h.gl ht h.boks (textsAt_nil w) (by decide)
 have HD : Hid (defaultS S no t ls = match pathsS (envL [S.top]) [] t with
  | .error e => .error (e, no)
  | .ok a => if firstS a = [] then .error (.syn, no) else .ok ({ S with defs := S.defs ++ firstS a }, ls)) := by
  show defaultS S no t ls = _
  unfold defaultS
  rw [envOf_one]
  cases pathsS (envL [S.top]) [] t with
  | error e => rfl
  | ok a => simp only
 clear h
 cases hp : pathsS (envL [S.top]) [] t with
 | error b =>
  have HF : Hid (defaultS S no t ls = .error (b, no)) := by rw [HD.out, hp]; rfl
  rw [hp] at HRP
  go_enter Tryz.func197, Tryz.ntmps197
  go_wp2_with fail
  refine HRP.mono ?_
  rintro e w1 ⟨⟨b', rfl, s0, s1⟩, hb1⟩
  exact ⟨rfl, (by rw [HF.out]; exact ⟨⟨b', rfl, s0, s1⟩, hb1.mono H.out.bw⟩)⟩
 | ok s =>
  obtain ⟨hok, hcnt, hlen⟩ := pathsS_ok hp
  obtain ⟨x, hx0, hfs, hxm⟩ := hok.firstS
  have hxl : x.2.length ≤ 4000 := by have := countS_mem hxm; omega
  rw [hp] at HRP
  have HD2 : Hid (defaultS S no t ls = if x.2 = [] then .error (.syn, no) else .ok ({ S with defs := S.defs ++ x.2 }, ls)) := by rw [HD.out, hp, ← hfs]; rfl
  have HX0 : Hid (s[0]? = some x) := hx0
  have hs0 : 0 < s.length := (List.getElem?_eq_some_iff.1 hx0).1
  clear hp hok hcnt hfs hxm hx0 HD
  obtain ⟨x1, x2⟩ := x
  simp only at hxl HD2
  go_enter Tryz.func197, Tryz.ntmps197
  go_wp2_with fail
  refine HRP.mono ?_
  rintro e w1 ⟨⟨v1, rfl, hsec⟩, hb1⟩
  obtain ⟨g, cap, rfl, hc, hcell⟩ := hsec.cell
  obtain ⟨pv, _, cp, htx⟩ := hcell 0 (x1, x2) HX0.out
  rw [Nat.zero_mul, Nat.zero_add] at cp
  obtain ⟨ao, pcap, hpv, hpc, htx2⟩ := htx.1
  simp only at hpv
  subst hpv
  have HP1 : Hid (PStC p a B w1 rb (no : Nat) ls S (m + 1)) := H.out.below hb1
  have HB1 : Hid (Below B w w1) := hb1.mono H.out.bw
  have c4 : w1.cell? ⟨4, 0, none⟩ = some (.iface 472 (.pointer (some (a 4)))) := HP1.out.gl.errs 4 (by decide)
  have sl : (0 : Int) < (s.length : Int) := by omega
  generalize s.length = SL at *
  clear hsec hcell hb1
  by_cases h0 : x2 = []
  ·subst h0
   have HF : Hid (defaultS S no t ls = .error (.syn, no)) := HD2.out.trans (if_pos rfl)
   have HNO := need_no rb (no : Nat) 472 (.pointer (some (a 4))) w1 HP1.out.at0
   simp only [List.length_nil] at cp
   go_wp2_with fail
   refine HNO.mono ?_
   rintro e w8 ⟨⟨b', rfl, s0, s1⟩, hb8⟩
   exact ⟨rfl, (by rw [HF.out]; exact ⟨⟨b', rfl, s0, s1⟩, HB1.out.trans (hb8.mono HP1.out.bw)⟩)⟩
  ·have HF : Hid (defaultS S no t ls = .ok ({ S with defs := S.defs ++ x2 }, ls)) := HD2.out.trans (if_neg h0)
   obtain ⟨b, o, rfl, hbc⟩ : ∃ b o, ao = some ⟨b, o, none⟩ ∧ ∀ k s, x2[k]? = some s → w1.cell? ⟨b, o + k, none⟩ = some (.string s) := by
    rcases htx2 with e | e
    ·exact absurd e.2.1 h0
    ·exact e
   have hpos : 0 < x2.length := List.length_pos_iff.2 h0
   have xl : (0 : Int) < (x2.length : Int) := by omega
   have HBC : Hid (∀ j u, (x2.map Value.string)[j]? = some u → w1.cell? ((⟨b, o, none⟩ : Addr).add j) = some u) := fun j u hu => by
    have hadd : (⟨b, o, none⟩ : Addr).add j = ⟨b, o + j, none⟩ := by unfold Addr.add; split <;> simp_all
    rw [List.getElem?_map] at hu
    obtain ⟨y, hy, rfl⟩ := Option.map_eq_some_iff.1 hu
    rw [hadd]; exact hbc j y hy
   have d6 : w1.cell? ⟨rb, 6, none⟩ = some p.vf := by rw [cell_of_row _ _ _ _ _ _ HP1.out.row]; rfl
   have f6 : w1.frozen? ⟨rb, 6, none⟩ = false := frozen_of_row _ _ _ _ _ HP1.out.row
   have hdl : S.defs.length ≤ 20000000 := by have := HP1.out.ok.defs; omega
   obtain ⟨aof, capf, hvf, _, _⟩ := row_form HP1.out.defs
   have HDF : Hid (w1.ownsRow B 9 1 (.slice aof S.defs.length capf) S.defs.length (S.defs.map Value.string)) := by rw [← hvf]; exact HP1.out.defs
   rw [hvf] at d6
   have HVF : Hid (p.vf = .slice aof S.defs.length capf) := hvf
   clear hvf htx htx2 hbc
   generalize hDL : S.defs.length = DL at *
   have HDL : Hid (S.defs.length = DL) := hDL
   generalize hXL : x2.length = XL at *
   have HXL : Hid (x2.length = XL) := hXL
   clear hDL hXL
   go_wp2_with fail
   refine (need_yes _ _ _).mono ?_
   rintro e w2 ⟨rfl, rfl⟩
   go_wp2_with (at_builtin; refine wpList_append_lies _ rfl (.tmp 21) (.tmp 22) 32 rfl B 9 tj (.string ⟨#[]⟩) 1 16 Tryz.underlying32 HTJ.out.1 HTJ.out.2.2.2 HTJ.out.2.1 HTJ.out.2.2.1 rfl (by decide) _ DL (S.defs.map Value.string) rfl HDF.out ⟨b, o, none⟩ XL pcap (x2.map Value.string) rfl (by rw [List.length_map, HXL.out]; omega) HBC.out (by intro u hu; obtain ⟨y, _, rfl⟩ := List.mem_map.1 hu; rfl) hpos (by unfold maxLen; omega) (by omega) HP1.out.bw _ rfl ?_; intro g7 cap7 w7 hv7 hg7 hat7 hlt7; refine Hid.out ?_)
   have HM : Hid (PStC { p with vf := .slice (some ⟨g7, 0, none⟩) (DL + XL) cap7, c := fun k => if (Value.slice (some ⟨g7, 0, none⟩) (DL + XL) cap7).ownBlock = some k then 6 else p.c k } a B (w7.setCell ⟨rb, 6, none⟩ (.slice (some ⟨g7, 0, none⟩) (DL + XL) cap7)) rb (no : Nat) ls { S with defs := S.defs ++ x2 } m) := by
    refine HP1.out.addDefs (by rw [HVF.out]; exact hg7) (by rw [HDL.out, HXL.out]; exact hv7) ?_ (by rw [HXL.out]; exact hxl)
    intro k hk
    have e : g7 = k := Option.some.inj hk
    subst e
    rw [HVF.out]
    rcases hat7 with e2 | e2
    ·exact Or.inl e2
    ·right; rw [e2]; exact Nat.le_refl _
   have HB7 : Hid (Below B w (w7.setCell ⟨rb, 6, none⟩ (.slice (some ⟨g7, 0, none⟩) (DL + XL) cap7))) := (HB1.out.grown hg7 HP1.out.bw (fun k hk => (rblock HDF.out k hk).1)).setCell (p := ⟨rb, 6, none⟩) H.out.lowrb _
   have hrow7 : w7.heap[rb]? = w2.heap[rb]? := hg7.block rb HP1.out.rowlt (fun e => by
    have h1 := HP1.out.c6 rb (by rw [HVF.out]; exact e.symm)
    have h2 := HP1.out.c1
    omega)
   have d7 : w7.cell? ⟨rb, 6, none⟩ = some (.slice aof DL capf) := (World.cell?_of_block (w := w2) (a := ⟨rb, 6, none⟩) hrow7).trans d6
   have f7 : w7.frozen? ⟨rb, 6, none⟩ = false := frozen_of_row _ _ _ _ _ (hrow7.trans HP1.out.row)
   clear hv7 hg7 hat7 hlt7 hrow7 d6 f6 HBC HDF
   unfold Hid
   go_wp2_with fail
   go_end0
   rw [HF.out]
   exact ⟨rfl, ⟨_, _, HM.out⟩, HB7.out⟩
end Go.Proofs.YthhbpebihgjpjaaGreatDoor
