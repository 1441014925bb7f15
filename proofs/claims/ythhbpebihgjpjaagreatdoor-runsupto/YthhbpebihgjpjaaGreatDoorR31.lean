import Derived.Test.YthhbpebihgjpjaaGreatDoorR21
import Derived.Test.YthhbpebihgjpjaaGreatDoorR30
import Derived.Deep.RegionHeld3
namespace Go.Proofs.YthhbpebihgjpjaaGreatDoor
open Go.RowKit
set_option maxRecDepth 1000000

/-- A list of these texts is there. -/
def TextsAt (w : World) (v : Value) (l : List ByteArray) : Prop := ∃ ao cap, v = .slice ao l.length cap ∧ l.length ≤ cap ∧ (((ao = none → cap = 0) ∧ l = [] ∧ True) ∨ ∃ b o, ao = some ⟨b, o, none⟩ ∧ ∀ k s, l[k]? = some s → w.cell? ⟨b, o + k, none⟩ = some (.string s))
theorem TextsAt.keep {w w' : World} {v : Value} {l : List ByteArray} (h : TextsAt w v l) (hb : ∀ k, (∃ o c n, v = .slice (some ⟨k, o, none⟩) n c) → w'.heap[k]? = w.heap[k]?) : TextsAt w' v l := by
  obtain ⟨ao, cap, rfl, hc, h | ⟨b, o, rfl, h⟩⟩ := h
  · exact ⟨ao, cap, rfl, hc, Or.inl h⟩
  · exact ⟨_, cap, rfl, hc, Or.inr ⟨b, o, rfl, fun k s hs => (World.cell?_of_block (w := w) (a := ⟨b, o + k, none⟩) (hb b ⟨_, _, _, rfl⟩)).trans (h k s hs)⟩⟩
theorem agree_all {l1 l2 : List ByteArray} (hn : l1.length = l2.length) (h : ∀ k, k < l1.length → l1[k]? = l2[k]?) : l1 = l2 := by
  apply List.ext_getElem? 
  intro k
  rcases Nat.lt_or_ge k l1.length with c | c
  · exact h k c
  · rw [List.getElem?_eq_none c, List.getElem?_eq_none (by omega)]

set_option maxHeartbeats 2000000 in
theorem sameTexts_any (l1 l2 : List ByteArray) (v1 v2 : Value) (w : World) (h1 : TextsAt w v1 l1) (h2 : TextsAt w v2 l2) (hs : l1.length ≤ 1099511627776) :
    Calls Tryz.prog 91 #[v1, v2] w fun e w' => e = .returned (.bool (decide (l1 = l2))) ∧ ∃ m, w' = w.drewN m := by
  obtain ⟨a1, c1, rfl, hc1, h1⟩ := h1
  obtain ⟨a2, c2, rfl, hc2, h2⟩ := h2
  by_cases hn : l1.length = l2.length
  · have H1 : Hid (((a1 = none → c1 = 0) ∧ l1 = [] ∧ True) ∨ ∃ b o, a1 = some ⟨b, o, none⟩ ∧ ∀ k s, l1[k]? = some s → w.cell? ⟨b, o + k, none⟩ = some (.string s)) := h1
    have H2 : Hid (((a2 = none → c2 = 0) ∧ l2 = [] ∧ True) ∨ ∃ b o, a2 = some ⟨b, o, none⟩ ∧ ∀ k s, l2[k]? = some s → w.cell? ⟨b, o + k, none⟩ = some (.string s)) := h2
    have HN : Hid (l1.length = l2.length) := hn
    have n0 : (l1.length : Int) ≤ 1099511627776 := by omega
    rw [← hn]
    clear h1 h2 hn hc2
    generalize hL : l1.length = L at *
    go_enter Tryz.func91, Tryz.ntmps91
    go_wp2
    go_loopw [5] (fun i wr => ∃ j : Nat, i = .int .i64 j ∧ j ≤ L ∧ (∀ k, k < j → l1[k]? = l2[k]?) ∧ ∃ m, wr = w.drewN m) (fun i _ => L - (intOf i).toNat)
    case atStart => exact ⟨0, rfl, Nat.zero_le _, fun k hk => by omega, 0, rfl⟩
    case round =>
      obtain ⟨j, rfl, hle, hag, m, rfl⟩ := hrel
      by_cases hlt : j < L
      · obtain ⟨x, hx⟩ : ∃ x, l1[j]? = some x := ⟨l1[j]'(by omega), by simp⟩
        obtain ⟨y, hy⟩ : ∃ y, l2[j]? = some y := ⟨l2[j]'(by have := HN.out; omega), by simp⟩
        obtain ⟨g1, o1, rfl, q1⟩ : ∃ b o, a1 = some ⟨b, o, none⟩ ∧ ∀ k s, l1[k]? = some s → w.cell? ⟨b, o + k, none⟩ = some (.string s) := by
          rcases H1.out with e | e
          · rw [e.2.1] at hx; simp at hx
          · exact e
        obtain ⟨g2, o2, rfl, q2⟩ : ∃ b o, a2 = some ⟨b, o, none⟩ ∧ ∀ k s, l2[k]? = some s → w.cell? ⟨b, o + k, none⟩ = some (.string s) := by
          rcases H2.out with e | e
          · rw [e.2.1] at hy; simp at hy
          · exact e
        have r1 : (w.drewN m).cell? ⟨g1, o1 + j, none⟩ = some (.string x) := q1 j x hx
        have r2 : (w.drewN m).cell? ⟨g2, o2 + j, none⟩ = some (.string y) := q2 j y hy
        have i0 : (0 : Int) ≤ (j : Int) := by omega
        have i1 : (j : Int) < (L : Int) := by omega
        have HAG : Hid (∀ k, k < j → l1[k]? = l2[k]?) := hag
        have HXY : Hid (l1[j]? = some x ∧ l2[j]? = some y) := ⟨hx, hy⟩
        clear q1 q2 hag hx hy
        go_wp2_with fail
        go_region_held3 (fun w' => w'.cell? ⟨g1, o1 + j, none⟩ = some (.string x) ∧ w'.cell? ⟨g2, o2 + j, none⟩ = some (.string y)) (exact ⟨r1, r2⟩) (fail)
        all_goals
          clear r1 r2
          have hdw : (w.drewN m).drew = w.drewN (m + 1) := rfl
          rw [hdw]
          clear hdw
          by_cases hq : (x.toList == y.toList) = true
          · have HST : Hid (∀ k, k < j + 1 → l1[k]? = l2[k]?) := fun k hk => by
              rcases Nat.lt_or_ge k j with c | c
              · exact HAG.out k c
              · obtain rfl : k = j := by omega
                rw [HXY.out.1, HXY.out.2, text_same hq]
            rw [hq]
            clear hq
            go_wp2
            refine ⟨⟨j + 1, by go_num, hlt, HST.out, m + 1, rfl⟩, by simp [intOf]; omega⟩
          · have hq2 : (x.toList == y.toList) = false := by simpa using hq
            have HNE : Hid (decide (l1 = l2) = false) := by
              show _ = _
              refine decide_eq_false (fun e => text_other hq2 ?_)
              have e1 := HXY.out.1
              have e2 := HXY.out.2
              rw [e, e2] at e1
              exact (Option.some.inj e1).symm
            rw [hq2]
            clear hq hq2
            go_wp2
            go_ret
            exact ⟨by rw [HNE.out]; rfl, m + 1, rfl⟩
      · obtain rfl : j = L := by omega
        have HE : Hid (decide (l1 = l2) = true) := by
          show _ = _
          exact decide_eq_true (agree_all (hL.trans HN.out) (fun k hk => hag k (by omega)))
        clear hag
        go_wp2
        go_ret
        exact ⟨by rw [HE.out]; rfl, _, rfl⟩
  · have HE : Hid (decide (l1 = l2) = false) := by
      show _ = _
      exact decide_eq_false (fun e => hn (by rw [e]))
    have hn1 : ¬ (l1.length : Int) = (l2.length : Int) := by omega
    clear h1 h2
    go_enter Tryz.func91, Tryz.ntmps91
    go_wp2
    go_ret
    exact ⟨by rw [HE.out]; rfl, 0, rfl⟩
end Go.Proofs.YthhbpebihgjpjaaGreatDoor
