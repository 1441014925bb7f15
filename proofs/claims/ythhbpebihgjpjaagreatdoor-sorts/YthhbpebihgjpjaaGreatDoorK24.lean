import Derived.Test.YthhbpebihgjpjaaGreatDoorK20
import Derived.Test.YthhbpebihgjpjaaGreatDoorK22
import Derived.BigRegion
namespace Go.Proofs.YthhbpebihgjpjaaGreatDoor
set_option maxRecDepth 1000000

/-- How many paths there are. -/
def countS (s : Secs) : Nat := (s.map fun x => x.2.length).sum
theorem countS_append (a b : Secs) : countS (a ++ b) = countS a + countS b := by unfold countS; rw [List.map_append, List.sum_append]
theorem countS_mem : ∀ {s : Secs} {x : ByteArray × List ByteArray}, x ∈ s → x.2.length ≤ countS s
  | y :: s, x, h => by
    have e : countS (y :: s) = y.2.length + countS s := by unfold countS; simp
    rcases List.mem_cons.1 h with rfl | h
    · omega
    · have := countS_mem h; omega
structure SecsOk (ms : List ByteArray) (s : Secs) : Prop where
  ne : s ≠ []
  names : ∀ x ∈ s, ∀ y ∈ x.2, y.size ≤ 32
  first : (s.head?.map (·.1)) = some ⟨#[]⟩
  marks : ∀ x ∈ s.tail, memB x.1 ms = true
theorem SecsOk.addPath {ms : List ByteArray} {s : Secs} (h : SecsOk ms s) {p : ByteArray} (hp : p.size ≤ 32) : SecsOk ms (addPath s p) ∧ countS (addPath s p) = countS s + 1 ∧ (addPath s p).length = s.length := by
  rcases List.eq_nil_or_concat s with h0 | ⟨I, x, rfl⟩
  · exact absurd h0 h.ne
  · obtain ⟨mk, l⟩ := x
    rw [List.concat_eq_append] at *
    rw [addPath_snoc]
    refine ⟨⟨by simp, fun x hx y hy => ?_, ?_, fun x hx => ?_⟩, ?_, by simp⟩
    · rcases List.mem_append.1 hx with hx | hx
      · exact h.names x (List.mem_append_left _ hx) y hy
      · obtain rfl := List.mem_singleton.1 hx
        rcases List.mem_append.1 hy with hy | hy
        · exact h.names (mk, l) (by simp) y hy
        · obtain rfl := List.mem_singleton.1 hy
          exact hp
    · have := h.first
      cases I with
      | nil => exact this
      | cons z I => exact this
    · cases I with
      | nil => cases hx
      | cons z I =>
        rcases List.mem_append.1 (show x ∈ I ++ [(mk, l ++ [p])] from hx) with hx | hx
        · exact h.marks x (show x ∈ I ++ [(mk, l)] from List.mem_append_left _ hx)
        · obtain rfl := List.mem_singleton.1 hx
          exact h.marks (mk, l) (show (mk, l) ∈ I ++ [(mk, l)] by simp)
    · rw [countS_append, countS_append]
      unfold countS
      simp
      omega
theorem SecsOk.addMark {ms : List ByteArray} {s : Secs} (h : SecsOk ms s) {m : ByteArray} (hm : memB m ms = true) : SecsOk ms (s ++ [(m, [])]) ∧ countS (s ++ [(m, [])]) = countS s := by
  refine ⟨⟨by simp, fun x hx y hy => ?_, ?_, fun x hx => ?_⟩, ?_⟩
  · rcases List.mem_append.1 hx with hx | hx
    · exact h.names x hx y hy
    · obtain rfl := List.mem_singleton.1 hx
      cases hy
  · have := h.first
    cases s with
    | nil => exact absurd rfl h.ne
    | cons z I => exact this
  · cases s with
    | nil => exact absurd rfl h.ne
    | cons z I =>
      rcases List.mem_append.1 (show x ∈ I ++ [(m, [])] from hx) with hx | hx
      · exact h.marks x hx
      · obtain rfl := List.mem_singleton.1 hx
        exact hm
  · rw [countS_append]; rfl
theorem pathS_size {E : ByteArray → ByteArray} {t p : ByteArray} (h : pathS E t = .ok p) : p.size ≤ 32 := by
  unfold pathS at h
  split at h
  · cases h
  · split at h
    · rename_i hk
      injection h with h
      subst h
      unfold okName at hk
      simp only [Bool.and_eq_true] at hk
      have := of_decide_eq_true (show named _ = true from hk.1.1)
      exact this.2.1
    · cases h
theorem pathsFrom_ok (E : ByteArray → ByteArray) (ms : List ByteArray) : ∀ (g : Nat) (u : ByteArray) (a s : Secs), pathsFrom E ms g u a = .ok s → SecsOk ms a → SecsOk ms s ∧ countS s ≤ countS a + u.size ∧ s.length ≤ a.length + u.size
  | 0, u, a, s, h, ha => by
    rw [pathsFrom] at h
    injection h with h
    subst h
    exact ⟨ha, by omega, by omega⟩
  | g + 1, u, a, s, h, ha => by
    have hle := leftB_le u
    rw [pathsFrom] at h
    by_cases h0 : (leftB u).size = 0
    · rw [if_pos h0] at h
      injection h with h
      subst h
      exact ⟨ha, by omega, by omega⟩
    · rw [if_neg h0] at h
      by_cases hm : markB (leftB u) = ⟨#[]⟩
      · rw [if_pos hm] at h
        have hp := pathEnd_pos u h0 hm
        cases hq : pathS E ((leftB u).extract 0 (pathEnd (leftB u))) with
        | error e => rw [hq] at h; cases h
        | ok p =>
          rw [hq] at h
          obtain ⟨h1, h2, h3⟩ := ha.addPath (pathS_size hq)
          obtain ⟨h4, h5, h6⟩ := pathsFrom_ok E ms g _ _ s h h1
          rw [ByteArray.size_extract] at h5 h6
          exact ⟨h4, by omega, by omega⟩
      · rw [if_neg hm] at h
        have hz := mark_size hm
        by_cases hb : memB (markB (leftB u)) ms = true
        · rw [if_pos hb] at h
          obtain ⟨h1, h2⟩ := ha.addMark hb
          obtain ⟨h4, h5, h6⟩ := pathsFrom_ok E ms g _ _ s h h1
          rw [ByteArray.size_extract] at h5 h6
          rw [List.length_append] at h6
          refine ⟨h4, by omega, ?_⟩
          have : ([(markB (leftB u), ([] : List ByteArray))] : Secs).length = 1 := rfl
          omega
        · rw [if_neg hb] at h
          cases h
theorem pathsS_ok {E : ByteArray → ByteArray} {ms : List ByteArray} {t : ByteArray} {s : Secs} (h : pathsS E ms t = .ok s) : SecsOk ms s ∧ countS s ≤ t.size ∧ s.length ≤ 1 + t.size := by
  have ha : SecsOk ms [(⟨#[]⟩, [])] := ⟨by simp, (fun x hx y hy => by obtain rfl := List.mem_singleton.1 hx; cases hy), rfl, (fun x hx => by cases hx)⟩
  obtain ⟨h1, h2, h3⟩ := pathsFrom_ok E ms _ t _ s h ha
  have e : countS [(⟨#[]⟩, [])] = 0 := rfl
  exact ⟨h1, by omega, by simpa using h3⟩
theorem SecsOk.firstS {ms : List ByteArray} {s : Secs} (h : SecsOk ms s) : ∃ x, s[0]? = some x ∧ firstS s = x.2 ∧ x ∈ s := by
  cases s with
  | nil => exact absurd rfl h.ne
  | cons x s => exact ⟨x, rfl, rfl, List.mem_cons_self⟩
end Go.Proofs.YthhbpebihgjpjaaGreatDoor

namespace Go.Proofs.YthhbpebihgjpjaaGreatDoor
open Go.RowKit Go.Shelf
set_option maxRecDepth 1000000

theorem rising_bad : ∀ (s : Secs) (k : Nat) (x y : ByteArray × List ByteArray), s[k]? = some x → s[k + 1]? = some y → ¬ x.1.size < y.1.size → risingS s = false
  | [], k, x, y, h, _, _ => by simp at h
  | [z], k, x, y, _, h, _ => by simp at h
  | z :: z2 :: l, 0, x, y, h1, h2, h3 => by
    simp only [List.getElem?_cons_zero, Option.some.injEq] at h1
    simp only [List.getElem?_cons_succ, List.getElem?_cons_zero, Option.some.injEq] at h2
    subst h1 h2
    rw [risingS, decide_eq_false h3]; rfl
  | z :: z2 :: l, k + 1, x, y, h1, h2, h3 => by
    rw [risingS, rising_bad (z2 :: l) k x y (by simpa using h1) (by simpa using h2) h3, Bool.and_false]
theorem rising_all : ∀ (s : Secs), (∀ (k : Nat) x y, s[k]? = some x → s[k + 1]? = some y → x.1.size < y.1.size) → risingS s = true
  | [], _ => rfl
  | [z], _ => rfl
  | z :: z2 :: l, h => by
    rw [risingS, decide_eq_true (h 0 z z2 rfl rfl), rising_all (z2 :: l) (fun k x y h1 h2 => h (k + 1) x y (by simpa using h1) (by simpa using h2))]; rfl
theorem SecsAt.cell {W0 : Nat} {w : World} {v : Value} {s : Secs} (h : SecsAt W0 w v s) : ∃ g cap, v = .slice (some ⟨g, 0, none⟩) s.length cap ∧ s.length ≤ cap ∧ ∀ (i : Nat) y, s[i]? = some y → ∃ pv, w.cell? ⟨g, i * 2, none⟩ = some (.string y.1) ∧ w.cell? ⟨g, i * 2 + 1, none⟩ = some pv ∧ TextsF W0 w pv y.2 := by
  obtain ⟨g, cap, rfl, hc, vs, hs, hcell⟩ := h
  refine ⟨g, cap, rfl, hc, fun i y hy => ?_⟩
  have hi : i < vs.length := by rw [hs.1]; exact (List.getElem?_eq_some_iff.1 hy).1
  have hx : vs[i]? = some vs[i] := List.getElem?_eq_getElem hi
  obtain ⟨e, ht⟩ := hs.2 i _ y hx hy
  have := hcell i _ hx
  exact ⟨_, by rw [← e]; exact this.1, this.2, ht⟩
theorem TextsF.keep {W0 : Nat} {w w' : World} {v : Value} {l : List ByteArray} (h : TextsF W0 w v l) (hb : ∀ k, k < w.heap.size → w'.heap[k]? = w.heap[k]?) : TextsF W0 w' v l := by
  refine ⟨?_, h.2⟩
  obtain ⟨ao, cap, rfl, hc, q | ⟨b, o, rfl, q⟩⟩ := h.1
  · exact ⟨ao, cap, rfl, hc, Or.inl q⟩
  · exact ⟨_, cap, rfl, hc, Or.inr ⟨b, o, rfl, fun k s hs => (World.cell?_of_block (w := w) (a := ⟨b, o + k, none⟩) (hb b (block_lt_of_cell (q k s hs)))).trans (q k s hs)⟩⟩
theorem SecsAt.keep {W0 : Nat} {w w' : World} {v : Value} {s : Secs} (h : SecsAt W0 w v s) (hb : ∀ k, k < w.heap.size → w'.heap[k]? = w.heap[k]?) : SecsAt W0 w' v s := by
  obtain ⟨g, cap, rfl, hc, vs, hs, hcell⟩ := h
  refine ⟨g, cap, rfl, hc, vs, ⟨hs.1, fun k x y hx hy => ⟨(hs.2 k x y hx hy).1, (hs.2 k x y hx hy).2.keep hb⟩⟩, fun i x hx => ?_⟩
  obtain ⟨h1, h2⟩ := hcell i x hx
  exact ⟨(World.cell?_of_block (w := w) (a := ⟨g, i * 2, none⟩) (hb g (block_lt_of_cell h1))).trans h1, (World.cell?_of_block (w := w) (a := ⟨g, i * 2 + 1, none⟩) (hb g (block_lt_of_cell h2))).trans h2⟩
set_option maxHeartbeats 4000000 in
theorem rising_any (W0 : Nat) (s : Secs) (v : Value) (w : World) (h : SecsAt W0 w v s) (hs : s.length ≤ 5000) (hm : ∀ x ∈ s, x.1.size ≤ 5000) :
    Calls Tryz.prog 267 #[v] w fun e w' => e = .returned (.bool (risingS s)) ∧ ∃ q, w' = w.drewN q := by
  obtain ⟨g, cap, rfl, hc, hcell⟩ := h.cell
  have HC : Hid (∀ (i : Nat) y, s[i]? = some y → ∃ pv, w.cell? ⟨g, i * 2, none⟩ = some (.string y.1) ∧ w.cell? ⟨g, i * 2 + 1, none⟩ = some pv ∧ TextsF W0 w pv y.2) := hcell
  have HM : Hid (∀ x ∈ s, x.1.size ≤ 5000) := hm
  have n0 : (s.length : Int) ≤ 5000 := by omega
  clear h hcell hm
  generalize hL : s.length = L at *
  have HL : Hid (s.length = L) := hL
  clear hL
  go_enter Tryz.func267, Tryz.ntmps267
  go_wp2_with fail
  go_loopw [3] (fun i wr => ∃ j : Nat, i = .int .i64 ((j : Int) + 1) ∧ (j ≤ L) ∧ (∀ (k : Nat) x y, k < j → s[k]? = some x → s[k + 1]? = some y → x.1.size < y.1.size) ∧ ∃ q, wr = w.drewN q) (fun i _ => L + 1 - (intOf i).toNat)
  case atStart => exact ⟨0, rfl, Nat.zero_le _, fun k x y hk => by omega, 0, rfl⟩
  case round =>
    obtain ⟨j, rfl, hle, hag, hbq⟩ := hrel
    have HBQ : Hid (∃ q, wr = w.drewN q) := hbq
    have hbw : Below w.heap.size w wr := by obtain ⟨q, rfl⟩ := hbq; exact below_drewN (Below.refl _ _) q
    have HBD : Hid (∃ q, wr.drew = w.drewN q) := by obtain ⟨q, hq⟩ := hbq; exact ⟨q + 1, by rw [hq]; rfl⟩
    clear hbq
    have HAG : Hid (∀ (k : Nat) x y, k < j → s[k]? = some x → s[k + 1]? = some y → x.1.size < y.1.size) := hag
    have HBW : Hid (Below w.heap.size w wr) := hbw
    clear hag hbw
    by_cases hlt : j + 1 < L
    · obtain ⟨x, hx⟩ : ∃ x, s[j]? = some x := ⟨s[j]'(by have := HL.out; omega), by simp⟩
      obtain ⟨y, hy⟩ : ∃ y, s[j + 1]? = some y := ⟨s[j + 1]'(by have := HL.out; omega), by simp⟩
      obtain ⟨_, cx, _, _⟩ := HC.out j x hx
      obtain ⟨_, cy, _, _⟩ := HC.out (j + 1) y hy
      have c1 : wr.cell? ⟨g, j * 2, none⟩ = some (.string x.1) := (HBW.out.cell (p := ⟨g, j * 2, none⟩) (block_lt_of_cell cx)).trans cx
      have c2 : wr.cell? ⟨g, (j + 1) * 2, none⟩ = some (.string y.1) := (HBW.out.cell (p := ⟨g, (j + 1) * 2, none⟩) (block_lt_of_cell cy)).trans cy
      have hxs := HM.out x (List.mem_of_getElem? hx)
      have hys := HM.out y (List.mem_of_getElem? hy)
      have HXY : Hid (s[j]? = some x ∧ s[j + 1]? = some y) := ⟨hx, hy⟩
      clear cx cy hx hy
      obtain ⟨J, hJ⟩ : ∃ J, J = j + 1 := ⟨_, rfl⟩
      rw [← hJ] at c2
      have e1 : (j : Int) + 1 = (J : Int) := by omega
      rw [e1]
      have hw0 : IntKind.i64.wrap ((J : Int) - 1) = (j : Int) := by rw [IntKind.wrap_i64]; omega
      have i0 : (0 : Int) ≤ (J : Int) := by omega
      have i1 : (J : Int) < (L : Int) := by omega
      have i2 : (0 : Int) ≤ (j : Int) := by omega
      have i3 : (j : Int) < (L : Int) := by omega
      have HJ : Hid (J = j + 1) := hJ
      clear hJ e1
      obtain ⟨x1, x2⟩ := x
      obtain ⟨y1, y2⟩ := y
      simp only at c1 c2 hxs hys
      by_cases hxy : x1.size < y1.size
      · have HR : Hid (∀ (k : Nat) x y, k < j + 1 → s[k]? = some x → s[k + 1]? = some y → x.1.size < y.1.size) := fun k x y hk h1 h2 => by
          rcases Nat.lt_or_ge k j with q | q
          · exact HAG.out k x y q h1 h2
          · obtain rfl : k = j := by omega
            rw [HXY.out.1] at h1
            rw [HXY.out.2] at h2
            obtain rfl := Option.some.inj h1
            obtain rfl := Option.some.inj h2
            exact hxy
        have t1 : ¬ (y1.size : Int) ≤ (x1.size : Int) := by omega
        go_wp2_with fail
        go_region
        all_goals
          go_wp2_with fail
          exact ⟨⟨j + 1, by rw [HJ.out], by omega, HR.out, HBD.out⟩, by simp [intOf]; omega⟩
      · have HR : Hid (risingS s = false) := rising_bad s j _ _ HXY.out.1 HXY.out.2 hxy
        have t1 : (y1.size : Int) ≤ (x1.size : Int) := by omega
        go_wp2_with fail
        go_region
        all_goals
          go_wp2_with fail
          go_ret
          exact ⟨by rw [HR.out]; rfl, HBD.out⟩
    · have HR : Hid (risingS s = true) := rising_all s (fun k x y h1 h2 => HAG.out k x y (by have := (List.getElem?_eq_some_iff.1 h2).1; have := HL.out; omega) h1 h2)
      have i1 : ¬ (j : Int) + 1 < (L : Int) := by omega
      go_wp2_with fail
      go_ret
      exact ⟨by rw [HR.out]; rfl, HBQ.out⟩
set_option maxHeartbeats 4000000 in
theorem pathsBehind_any (W0 : Nat) (s : Secs) (v : Value) (m : ByteArray) (w0 w : World) (h : SecsAt W0 w0 v s) (hb0 : Below w0.heap.size w0 w) (hs : s.length ≤ 5000) :
    Calls Tryz.prog 268 #[v, .string m] w fun e w' => ∃ pv, e = .returned pv ∧ TextsF W0 w0 pv (behindS s m) ∧ Below w.heap.size w w' := by
  obtain ⟨g, cap, rfl, hc, hcell⟩ := h.cell
  have HC : Hid (∀ (i : Nat) y, s[i]? = some y → ∃ pv, w.cell? ⟨g, i * 2, none⟩ = some (.string y.1) ∧ w.cell? ⟨g, i * 2 + 1, none⟩ = some pv ∧ TextsF W0 w0 pv y.2) := fun i y hy => by
    obtain ⟨pv, q1, q2, q3⟩ := hcell i y hy
    exact ⟨pv, (hb0.cell (p := ⟨g, i * 2, none⟩) (block_lt_of_cell q1)).trans q1, (hb0.cell (p := ⟨g, i * 2 + 1, none⟩) (block_lt_of_cell q2)).trans q2, q3⟩
  have n0 : (s.length : Int) ≤ 5000 := by omega
  clear h hcell hb0
  generalize hL : s.length = L at *
  have HL : Hid (s.length = L) := hL
  clear hL
  go_enter Tryz.func268, Tryz.ntmps268
  go_wp2_with fail
  go_loopw [9] (fun i wr => ∃ j : Nat, i = .int .i64 j ∧ j ≤ L ∧ (∀ (k : Nat) x, k < j → s[k]? = some x → x.1 ≠ m) ∧ Below w.heap.size w wr) (fun i _ => L - (intOf i).toNat)
  case atStart => exact ⟨0, rfl, Nat.zero_le _, fun k x hk => by omega, Below.refl _ _⟩
  case round =>
    obtain ⟨j, rfl, hle, hag, hbw⟩ := hrel
    have HAG : Hid (∀ (k : Nat) x, k < j → s[k]? = some x → x.1 ≠ m) := hag
    have HBW : Hid (Below w.heap.size w wr) := hbw
    clear hag hbw
    have j0 : (0 : Int) ≤ (j : Int) := by omega
    by_cases hlt : j < L
    · have j1 : (j : Int) < (L : Int) := by omega
      obtain ⟨x, hx⟩ : ∃ x, s[j]? = some x := ⟨s[j]'(by have := HL.out; omega), by simp⟩
      obtain ⟨pv, cx, cp, ht⟩ := HC.out j x hx
      have c1 : wr.cell? ⟨g, j * 2, none⟩ = some (.string x.1) := (HBW.out.cell (p := ⟨g, j * 2, none⟩) (block_lt_of_cell cx)).trans cx
      have c2 : wr.cell? ⟨g, j * 2 + 1, none⟩ = some pv := (HBW.out.cell (p := ⟨g, j * 2 + 1, none⟩) (block_lt_of_cell cp)).trans cp
      have HTX : Hid (TextsF W0 w0 pv x.2) := ht
      have HX : Hid (s[j]? = some x) := hx
      obtain ⟨ao, pn, pc, rfl⟩ : ∃ ao n c, pv = .slice ao n c := by obtain ⟨ao, c, e, _⟩ := ht.1; exact ⟨ao, _, c, e⟩
      clear cx cp ht hx
      obtain ⟨x1, x2⟩ := x
      simp only at c1 c2 HTX
      cases hq : (x1.toList == m.toList) with
      | true =>
        have HR : Hid (behindS s m = x2) := by
          have e1 := text_same hq
          obtain ⟨hk, he⟩ := List.getElem?_eq_some_iff.1 HX.out
          have : s.find? (fun x => decide (x.1 = m)) = some (x1, x2) := List.find?_eq_some_iff_getElem.2 ⟨decide_eq_true e1, j, hk, he, fun i hi => by
            have := HAG.out i s[i] hi (by simp)
            simpa using this⟩
          show _ = _
          unfold behindS
          rw [this]; rfl
        go_wp2_with fail
        go_ret
        exact ⟨_, rfl, by rw [HR.out]; exact HTX.out, HBW.out.alloc HBW.out.size _⟩
      | false =>
        have HR : Hid (∀ (k : Nat) x, k < j + 1 → s[k]? = some x → x.1 ≠ m) := fun k z hk hz => by
          rcases Nat.lt_or_ge k j with q | q
          · exact HAG.out k z q hz
          · obtain rfl : k = j := by omega
            rw [HX.out] at hz
            obtain rfl := Option.some.inj hz
            exact text_other hq
        go_wp2_with fail
        exact ⟨⟨j + 1, by go_num, hlt, HR.out, HBW.out.alloc HBW.out.size _⟩, by simp [intOf]; omega⟩
    · have HR : Hid (behindS s m = []) := by
        have : s.find? (fun x => decide (x.1 = m)) = none := List.find?_eq_none.2 (fun z hz => by
          obtain ⟨k, hk, rfl⟩ := List.getElem_of_mem hz
          have := HAG.out k s[k] (by have := HL.out; omega) (by simp)
          simpa using this)
        show _ = _
        unfold behindS
        rw [this]; rfl
      have j1 : ¬ (j : Int) < (L : Int) := by omega
      go_wp2_with fail
      go_ret
      exact ⟨_, rfl, by rw [HR.out]; exact ⟨⟨none, 0, rfl, Nat.le_refl _, Or.inl ⟨fun _ => rfl, rfl, trivial⟩⟩, fun k hk => by cases hk⟩, HBW.out⟩
end Go.Proofs.YthhbpebihgjpjaaGreatDoor
