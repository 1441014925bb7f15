import Derived.Test.YthhbpebihgjpjaaGreatDoorJ01
import Derived.Laws.AppendOwn
import Derived.Maps.AppendAt
import Derived.Deep.RegionHeld3
import Derived.BigRegion
import Derived.Deep.AppendLies
import Derived.Laws.AppendOwnNone
namespace Go.Proofs.YthhbpebihgjpjaaGreatDoor
open Go.RowKit
set_option maxRecDepth 1000000

set_option maxHeartbeats 4000000 in
theorem named_any (t : ByteArray) (ht : t.size ≤ 140737488351232) (w : World) :
    Calls Tryz.prog 226 #[.string t] w fun e w' => e = .returned (.bool (named t)) ∧ w' = w := by
  have z0 : (t.size : Int) ≤ 140737488351232 := by omega
  go_enter Tryz.func226, Tryz.ntmps226
  go_wp2
  go_loop [3] (fun c => ∃ j : Nat, j ≤ t.size ∧ c = .int .i64 j ∧ Hid (∀ i, i < j → nameByte (byteOf t i) = true)) (fun c => t.size - (intOf c).toNat)
  case atStart => exact ⟨0, by omega, rfl, fun i hi => by omega⟩
  case round =>
    obtain ⟨j, hj, rfl, HG⟩ := hrel
    by_cases hlt : j < t.size
    · have i0 : (0 : Int) ≤ (j : Int) := by omega
      have i1 : (j : Int) < (t.size : Int) := by omega
      have hb := byteOf_lt t j
      have hidx : ∀ wx, (Instr.index 9 (.string t) (.int .i64 j)).run Tryz.prog wx = .ok (.int .u8 (byteOf t j)) wx := fun wx => run_index_text t j hlt wx
      obtain ⟨x, hx⟩ : ∃ x, x = byteOf t j := ⟨_, rfl⟩
      rw [← hx] at hidx hb
      have HX : Hid (x = byteOf t j) := hx
      clear hx
      have x1 : (x : Int) < 256 := by omega
      have HB : Hid (nameByte x = false → named t = false) := fun h => named_bad t j hlt (by rw [← HX.out]; exact h)
      have HG2 : Hid (nameByte x = true → ∀ i, i < j + 1 → nameByte (byteOf t i) = true) := fun h i hi => by
        by_cases e : i = j
        · subst e; rw [← HX.out]; exact h
        · exact HG.out i (by omega)
      clear HG HX
      by_cases p0 : (97 : Int) ≤ (x : Int)
      all_goals try (exfalso; omega)
      all_goals by_cases p1 : (x : Int) ≤ 122
      all_goals try (exfalso; omega)
      all_goals by_cases p2 : (65 : Int) ≤ (x : Int)
      all_goals try (exfalso; omega)
      all_goals by_cases p3 : (x : Int) ≤ 90
      all_goals try (exfalso; omega)
      all_goals by_cases p4 : (48 : Int) ≤ (x : Int)
      all_goals try (exfalso; omega)
      all_goals by_cases p5 : (x : Int) ≤ 57
      all_goals try (exfalso; omega)
      all_goals by_cases p6 : (x : Int) = 46
      all_goals try (exfalso; omega)
      all_goals by_cases p7 : (x : Int) = 95
      all_goals try (exfalso; omega)
      all_goals by_cases p8 : (x : Int) = 47
      all_goals try (exfalso; omega)
      all_goals by_cases p9 : (x : Int) = 45
      all_goals try (exfalso; omega)
      all_goals go_wp2
      all_goals first
        | (have hx : nameByte x = true := by simp only [nameByte, wordByte, Bool.or_eq_true, decide_eq_true_eq]; omega
           have h2 := HG2.out hx
           exact ⟨⟨j + 1, by omega, by go_num, h2⟩, by simp [intOf]; omega⟩)
        | (have hx : nameByte x = false := by simp only [nameByte, wordByte, Bool.or_eq_false_iff, decide_eq_false_iff_not]; omega
           have h2 := HB.out hx
           go_ret
           exact ⟨by rw [h2]; rfl, rfl⟩)
        | (exfalso; simp_all; done)
    · have hjs : j = t.size := by omega
      subst hjs
      by_cases hs : 1 ≤ t.size ∧ t.size ≤ 32
      · have HN : Hid (named t = true) := named_good t hs.1 hs.2 HG.out
        obtain ⟨h1, h2⟩ := hs
        have z1 : (1 : Int) ≤ (t.size : Int) := by omega
        have z2 : (t.size : Int) ≤ 32 := by omega
        go_wp2
        go_ret
        exact ⟨by rw [HN.out]; simp, rfl⟩
      · have HN : Hid (named t = false) := named_short t hs
        by_cases h1 : 1 ≤ t.size
        · have z1 : (1 : Int) ≤ (t.size : Int) := by omega
          have z2 : ¬ (t.size : Int) ≤ 32 := by omega
          go_wp2
          go_ret
          exact ⟨by rw [HN.out]; simp, rfl⟩
        · have z1 : ¬ (1 : Int) ≤ (t.size : Int) := by omega
          go_wp2
          go_ret
          exact ⟨by rw [HN.out]; simp, rfl⟩
end Go.Proofs.YthhbpebihgjpjaaGreatDoor

namespace Go.Proofs.YthhbpebihgjpjaaGreatDoor
open Go.RowKit
set_option maxRecDepth 1000000

/-- A file of the answer's: a name, and bytes. -/
abbrev FileV := ByteArray × ByteArray
def fcells (l : List FileV) : List Value := l.flatMap fun x => [.string x.1, .string x.2]
theorem fcells_length (l : List FileV) : (fcells l).length = l.length * 2 := by
  induction l with
  | nil => rfl
  | cons x r ih => simp only [fcells, List.flatMap_cons, List.length_append] at *; rw [ih]; simp; omega
theorem fcells_append (l r : List FileV) : fcells (l ++ r) = fcells l ++ fcells r := by simp [fcells]
theorem fcells_name (l : List FileV) : ∀ i x, l[i]? = some x → (fcells l)[i * 2]? = some (.string x.1) ∧ (fcells l)[i * 2 + 1]? = some (.string x.2) := by
  induction l with
  | nil => intro i x h; simp at h
  | cons y r ih =>
    intro i x h
    cases i with
    | zero => simp at h; subst h; exact ⟨rfl, rfl⟩
    | succ i =>
      have := ih i x (by simpa using h)
      have e : fcells (y :: r) = .string y.1 :: .string y.2 :: fcells r := rfl
      rw [e, show (i + 1) * 2 = (i * 2 + 1) + 1 by omega, show i * 2 + 1 + 1 + 1 = (i * 2 + 1 + 1) + 1 by omega]
      simpa using this

/-- Such a list, where it lies. -/
def FilesAt (w : World) (ao : Option Addr) (l : List FileV) : Prop :=
  l = [] ∨ ∃ b o, ao = some ⟨b, o, none⟩ ∧ ∀ i x, l[i]? = some x → w.cell? ⟨b, o + i * 2, none⟩ = some (.string x.1) ∧ w.cell? ⟨b, o + i * 2 + 1, none⟩ = some (.string x.2)

theorem text_same {a b : ByteArray} (h : (a.toList == b.toList) = true) : a = b := by
  rw [ByteArray.toList_eq, ByteArray.toList_eq] at h
  have h2 : a.data.toList = b.data.toList := by simpa using h
  cases a; cases b
  simp at h2
  rw [h2]
theorem text_other {a b : ByteArray} (h : (a.toList == b.toList) = false) : a ≠ b := by
  rintro rfl
  simp at h
/-- The place of a name: -1, if there is none. -/
def posFrom (name : ByteArray) : List FileV → Nat → Int
  | [], _ => -1
  | x :: r, k => if x.1 = name then (k : Int) else posFrom name r (k + 1)
def posIn (l : List FileV) (name : ByteArray) : Int := posFrom name l 0
theorem posFrom_hit (name : ByteArray) : ∀ (l : List FileV) (j k : Nat) (x : FileV), (∀ i y, i < j → l[i]? = some y → y.1 ≠ name) → l[j]? = some x → x.1 = name → posFrom name l k = ((k + j : Nat) : Int) := by
  intro l
  induction l with
  | nil => intro j k x _ h; simp at h
  | cons y r ih =>
    intro j k x hb hx hn
    cases j with
    | zero =>
      simp at hx
      subst hx
      rw [posFrom, if_pos hn]; rfl
    | succ j =>
      rw [posFrom, if_neg (hb 0 y (by omega) rfl), ih j (k + 1) x (fun i z hi hz => hb (i + 1) z (by omega) (by simpa using hz)) (by simpa using hx) hn]
      congr 1; omega
theorem posFrom_none (name : ByteArray) : ∀ (l : List FileV) (k : Nat), (∀ i y, i < l.length → l[i]? = some y → y.1 ≠ name) → posFrom name l k = -1 := by
  intro l
  induction l with
  | nil => intro k _; rfl
  | cons y r ih =>
    intro k hb
    rw [posFrom, if_neg (hb 0 y (by simp) rfl), ih (k + 1) (fun i z hi hz => hb (i + 1) z (by simp; omega) (by simpa using hz))]

set_option maxHeartbeats 2000000 in
theorem at_any (l : List FileV) (name : ByteArray) (ao : Option Addr) (cap : Nat) (hl : l.length ≤ 140737488351232) (w : World) (h : FilesAt w ao l) :
    Calls Tryz.prog 225 #[.slice ao l.length cap, .string name] w fun e w' => e = .returned (.int .i64 (posIn l name)) ∧ w' = w := by
  have HF : Hid (FilesAt w ao l) := h
  have n0 : (l.length : Int) ≤ 140737488351232 := by omega
  clear h
  go_enter Tryz.func225, Tryz.ntmps225
  go_wp2
  go_loop [5] (fun c => ∃ j : Nat, j ≤ l.length ∧ c = .int .i64 j ∧ Hid (∀ i x, i < j → l[i]? = some x → x.1 ≠ name)) (fun c => l.length - (intOf c).toNat)
  case atStart => exact ⟨0, by omega, rfl, fun i x hi => by omega⟩
  case round =>
    obtain ⟨j, hj, rfl, HG⟩ := hrel
    by_cases hlt : j < l.length
    · obtain ⟨x, hx⟩ : ∃ x, l[j]? = some x := ⟨_, List.getElem?_eq_getElem hlt⟩
      obtain ⟨b, o, rfl, hc⟩ : ∃ b o, ao = some ⟨b, o, none⟩ ∧ w.cell? ⟨b, o + j * 2, none⟩ = some (.string x.1) := by
        rcases HF.out with h | ⟨b, o, e, h⟩
        · subst h; simp at hlt
        · exact ⟨b, o, e, (h j x hx).1⟩
      have i0 : (0 : Int) ≤ (j : Int) := by omega
      have i1 : (j : Int) < (l.length : Int) := by omega
      have HX : Hid (l[j]? = some x) := hx
      obtain ⟨xn, xd⟩ := x
      clear hx
      simp only at hc
      go_wp2
      · rename_i hq _
        have HP : Hid (posIn l name = ((0 + j : Nat) : Int)) := posFrom_hit name l j 0 _ HG.out HX.out (text_same hq)
        go_ret
        exact ⟨by rw [HP.out, Nat.zero_add]; rfl, rfl⟩
      · rename_i hq
        refine ⟨⟨j + 1, by omega, by go_num, fun i y hi hy => ?_⟩, by simp [intOf]; omega⟩
        by_cases e : i = j
        · subst e
          have hx := HX.out
          rw [hx] at hy
          cases hy
          exact text_other hq
        · exact HG.out i y (by omega) hy
    · have hjs : j = l.length := by omega
      have HN : Hid (posIn l name = -1) := posFrom_none name l 0 (fun i y hi hy => HG.out i y (by omega) hy)
      have i1 : ¬ (j : Int) < (l.length : Int) := by omega
      go_wp2
      go_ret
      exact ⟨by rw [HN.out]; rfl, rfl⟩
end Go.Proofs.YthhbpebihgjpjaaGreatDoor

namespace Go.Proofs.YthhbpebihgjpjaaGreatDoor
open Go.RowKit
set_option maxRecDepth 1000000

/-- A list of these texts is there. -/
def TextsAt (w : World) (v : Value) (l : List ByteArray) : Prop := ∃ ao cap, v = .slice ao l.length cap ∧ l.length ≤ cap ∧ (((ao = none → cap = 0) ∧ l = [] ∧ True) ∨ ∃ b o, ao = some ⟨b, o, none⟩ ∧ ∀ k s, l[k]? = some s → w.cell? ⟨b, o + k, none⟩ = some (.string s))
theorem TextsAt.keep {w w' : World} {v : Value} {l : List ByteArray} (h : TextsAt w v l) (hb : ∀ k, (∃ o c n, v = .slice (some ⟨k, o, none⟩) n c) → w'.heap[k]? = w.heap[k]?) : TextsAt w' v l := by
  obtain ⟨ao, cap, rfl, hc, h | ⟨b, o, rfl, h⟩⟩ := h
  · exact ⟨ao, cap, rfl, hc, Or.inl h⟩
  · exact ⟨_, cap, rfl, hc, Or.inr ⟨b, o, rfl, fun k s hs => (World.cell?_of_block (w := w) (a := ⟨b, o + k, none⟩) (hb b ⟨_, _, _, rfl⟩)).trans (h k s hs)⟩⟩
theorem agree_all {l1 l2 : List ByteArray} (hn : l1.length = l2.length) (h : ∀ k, k < l1.length → l1[k]? = l2[k]?) : l1 = l2 := by
  apply List.ext_getElem? 
  intro k
  rcases Nat.lt_or_ge k l1.length with c | c
  · exact h k c
  · rw [List.getElem?_eq_none c, List.getElem?_eq_none (by omega)]

set_option maxHeartbeats 2000000 in
theorem sameTexts_any (l1 l2 : List ByteArray) (v1 v2 : Value) (w : World) (h1 : TextsAt w v1 l1) (h2 : TextsAt w v2 l2) (hs : l1.length ≤ 1099511627776) :
    Calls Tryz.prog 91 #[v1, v2] w fun e w' => e = .returned (.bool (decide (l1 = l2))) ∧ ∃ m, w' = w.drewN m := by
  obtain ⟨a1, c1, rfl, hc1, h1⟩ := h1
  obtain ⟨a2, c2, rfl, hc2, h2⟩ := h2
  by_cases hn : l1.length = l2.length
  · have H1 : Hid (((a1 = none → c1 = 0) ∧ l1 = [] ∧ True) ∨ ∃ b o, a1 = some ⟨b, o, none⟩ ∧ ∀ k s, l1[k]? = some s → w.cell? ⟨b, o + k, none⟩ = some (.string s)) := h1
    have H2 : Hid (((a2 = none → c2 = 0) ∧ l2 = [] ∧ True) ∨ ∃ b o, a2 = some ⟨b, o, none⟩ ∧ ∀ k s, l2[k]? = some s → w.cell? ⟨b, o + k, none⟩ = some (.string s)) := h2
    have HN : Hid (l1.length = l2.length) := hn
    have n0 : (l1.length : Int) ≤ 1099511627776 := by omega
    rw [← hn]
    clear h1 h2 hn hc2
    generalize hL : l1.length = L at *
    go_enter Tryz.func91, Tryz.ntmps91
    go_wp2
    go_loopw [5] (fun i wr => ∃ j : Nat, i = .int .i64 j ∧ j ≤ L ∧ (∀ k, k < j → l1[k]? = l2[k]?) ∧ ∃ m, wr = w.drewN m) (fun i _ => L - (intOf i).toNat)
    case atStart => exact ⟨0, rfl, Nat.zero_le _, fun k hk => by omega, 0, rfl⟩
    case round =>
      obtain ⟨j, rfl, hle, hag, m, rfl⟩ := hrel
      by_cases hlt : j < L
      · obtain ⟨x, hx⟩ : ∃ x, l1[j]? = some x := ⟨l1[j]'(by omega), by simp⟩
        obtain ⟨y, hy⟩ : ∃ y, l2[j]? = some y := ⟨l2[j]'(by have := HN.out; omega), by simp⟩
        obtain ⟨g1, o1, rfl, q1⟩ : ∃ b o, a1 = some ⟨b, o, none⟩ ∧ ∀ k s, l1[k]? = some s → w.cell? ⟨b, o + k, none⟩ = some (.string s) := by
          rcases H1.out with e | e
          · rw [e.2.1] at hx; simp at hx
          · exact e
        obtain ⟨g2, o2, rfl, q2⟩ : ∃ b o, a2 = some ⟨b, o, none⟩ ∧ ∀ k s, l2[k]? = some s → w.cell? ⟨b, o + k, none⟩ = some (.string s) := by
          rcases H2.out with e | e
          · rw [e.2.1] at hy; simp at hy
          · exact e
        have r1 : (w.drewN m).cell? ⟨g1, o1 + j, none⟩ = some (.string x) := q1 j x hx
        have r2 : (w.drewN m).cell? ⟨g2, o2 + j, none⟩ = some (.string y) := q2 j y hy
        have i0 : (0 : Int) ≤ (j : Int) := by omega
        have i1 : (j : Int) < (L : Int) := by omega
        have HAG : Hid (∀ k, k < j → l1[k]? = l2[k]?) := hag
        have HXY : Hid (l1[j]? = some x ∧ l2[j]? = some y) := ⟨hx, hy⟩
        clear q1 q2 hag hx hy
        go_wp2_with fail
        go_region_held3 (fun w' => w'.cell? ⟨g1, o1 + j, none⟩ = some (.string x) ∧ w'.cell? ⟨g2, o2 + j, none⟩ = some (.string y)) (exact ⟨r1, r2⟩) (fail)
        all_goals
          clear r1 r2
          have hdw : (w.drewN m).drew = w.drewN (m + 1) := rfl
          rw [hdw]
          clear hdw
          by_cases hq : (x.toList == y.toList) = true
          · have HST : Hid (∀ k, k < j + 1 → l1[k]? = l2[k]?) := fun k hk => by
              rcases Nat.lt_or_ge k j with c | c
              · exact HAG.out k c
              · obtain rfl : k = j := by omega
                rw [HXY.out.1, HXY.out.2, text_same hq]
            rw [hq]
            clear hq
            go_wp2
            refine ⟨⟨j + 1, by go_num, hlt, HST.out, m + 1, rfl⟩, by simp [intOf]; omega⟩
          · have hq2 : (x.toList == y.toList) = false := by simpa using hq
            have HNE : Hid (decide (l1 = l2) = false) := by
              show _ = _
              refine decide_eq_false (fun e => text_other hq2 ?_)
              have e1 := HXY.out.1
              have e2 := HXY.out.2
              rw [e, e2] at e1
              exact (Option.some.inj e1).symm
            rw [hq2]
            clear hq hq2
            go_wp2
            go_ret
            exact ⟨by rw [HNE.out]; rfl, m + 1, rfl⟩
      · obtain rfl : j = L := by omega
        have HE : Hid (decide (l1 = l2) = true) := by
          show _ = _
          exact decide_eq_true (agree_all (hL.trans HN.out) (fun k hk => hag k (by omega)))
        clear hag
        go_wp2
        go_ret
        exact ⟨by rw [HE.out]; rfl, _, rfl⟩
  · have HE : Hid (decide (l1 = l2) = false) := by
      show _ = _
      exact decide_eq_false (fun e => hn (by rw [e]))
    have hn1 : ¬ (l1.length : Int) = (l2.length : Int) := by omega
    clear h1 h2
    go_enter Tryz.func91, Tryz.ntmps91
    go_wp2
    go_ret
    exact ⟨by rw [HE.out]; rfl, 0, rfl⟩
end Go.Proofs.YthhbpebihgjpjaaGreatDoor

namespace Go.Proofs.YthhbpebihgjpjaaGreatDoor
open Go.RowKit
set_option maxRecDepth 1000000

/-- An owned row of texts is a list that is there. -/
theorem texts_of_row {w : World} {base : Nat} {v : Value} {l : List ByteArray} (h : w.ownsRow base 9 1 v l.length (l.map Value.string)) : TextsAt w v l := by
  obtain ⟨_, ⟨rfl, h0⟩ | ⟨g, cap, cur, rfl, _, hh, hc, _, _, htk⟩⟩ := h
  · have : l = [] := List.eq_nil_of_length_eq_zero h0
    subst this
    exact ⟨none, 0, rfl, Nat.le_refl _, Or.inl ⟨fun _ => rfl, rfl, trivial⟩⟩
  · refine ⟨_, cap, rfl, hc, Or.inr ⟨g, 0, rfl, fun k s hs => ?_⟩⟩
    have hk : k < l.length := (List.getElem?_eq_some_iff.1 hs).1
    rw [Nat.zero_add, cell_of_row _ _ _ _ _ _ hh, ← Array.getElem?_toList]
    have h2 : (l.map Value.string)[k]? = some (.string s) := by simp [hs]
    rw [← htk, List.getElem?_take, if_pos (by omega)] at h2
    exact h2

set_option maxHeartbeats 2000000 in
theorem texts_any (l : List ByteArray) (v : Value) (w : World) (h : TextsAt w v l) (hs : l.length ≤ 1048576) :
    Calls Tryz.prog 84 #[v] w fun e w' => ∃ v', e = .returned v' ∧ w'.ownsRow w.heap.size 9 1 v' l.length (l.map Value.string) ∧ Below w.heap.size w w' := by
  have hinf : (Tryz.prog.info? 9).map (fun i => (i.size, i.bytes, i.zero)) = some (1, 16, some (.string ⟨#[]⟩)) := by kernel_rfl
  obtain ⟨ti, hti, htj⟩ := Option.map_eq_some_iff.1 hinf
  simp only [Prod.mk.injEq] at htj
  have HTI : Hid (Tryz.prog.info? 9 = some ti ∧ ti.size = 1 ∧ ti.bytes = 16 ∧ ti.zero = some (.string ⟨#[]⟩)) := ⟨hti, htj.1, htj.2.1, htj.2.2⟩
  have HBA : Hid (Below w.heap.size w (w.alloc (.cells #[] 9))) := (Below.refl _ _).alloc (Nat.le_refl _) _
  have HOW : Hid ((w.alloc (.cells #[] 9)).ownsRow w.heap.size 9 1 (.slice (some ⟨w.heap.size, 0, none⟩) 0 0) 0 []) := ⟨rfl, Or.inr ⟨w.heap.size, 0, #[], rfl, Nat.le_refl _, heapA_new _ _ _ rfl, Nat.le_refl _, Nat.zero_le _, rfl, rfl⟩⟩
  clear hinf hti htj
  obtain ⟨ao, cap, rfl, hc, h⟩ := h
  rcases h with ⟨h0, rfl, _⟩ | ⟨b, o, rfl, h⟩
  · cases ao with
    | none =>
      obtain rfl := h0 rfl
      go_enter Tryz.func84, Tryz.ntmps84
      go_wp2_with (refine wpList_append_own_none rfl (.tmp 3) (.tmp 4) 32 rfl w.heap.size 9 ti 1 Tryz.underlying32 HTI.out.1 _ 0 [] rfl (by exact HOW.out) rfl ?_; refine Hid.out ?_)
      generalize w.alloc (.cells #[] 9) = w5 at *
      unfold Hid
      go_wp2
      go_ret
      exact ⟨_, rfl, HOW.out, HBA.out⟩
    | some a0 =>
      clear h0
      go_enter Tryz.func84, Tryz.ntmps84
      go_wp2_with (refine wpList_append_own _ rfl (.tmp 3) (.tmp 4) 32 rfl w.heap.size 9 ti (.string ⟨#[]⟩) 1 16 Tryz.underlying32 HTI.out.1 HTI.out.2.2.2 HTI.out.2.1 HTI.out.2.2.1 rfl (by decide) _ 0 [] rfl (by exact HOW.out) a0 0 cap [] rfl rfl (by intro j u hu; simp at hu) (by intro u hu; cases hu) (by unfold maxLen; omega) (by omega) (by simp) ?_; intro v5 w5 hv5 hg5 hn5; refine Hid.out ?_)
      have HB5 : Hid (Below w.heap.size w w5) := HBA.out.grown hg5 (by simp) (fun k hk => by have h : w.heap.size = k := Option.some.inj hk; omega)
      have HO5 : Hid (w5.ownsRow w.heap.size 9 1 v5 0 []) := hv5
      clear hv5 hg5 hn5
      unfold Hid
      go_wp2
      go_ret
      exact ⟨_, rfl, HO5.out, HB5.out⟩
  · have HNW : Hid (∀ (ob : Obj) (j : Nat) u, (l.map Value.string)[j]? = some u → (w.alloc ob).cell? ((⟨b, o, none⟩ : Addr).add j) = some u) := by
      intro ob j u hu
      have hadd : (⟨b, o, none⟩ : Addr).add j = ⟨b, o + j, none⟩ := by unfold Addr.add; split <;> simp_all
      obtain ⟨s, hs1, rfl⟩ : ∃ s, l[j]? = some s ∧ .string s = u := by simpa using hu
      have hcell := h j s hs1
      rw [hadd, World.cell?_alloc_lt _ _ ⟨b, o + j, none⟩ (block_lt_of_cell hcell)]; exact hcell
    have HONE : Hid (∀ u ∈ l.map Value.string, u.oneCell' = true) := by
      intro u hu
      obtain ⟨s, _, rfl⟩ := List.mem_map.1 hu
      rfl
    clear h
    go_enter Tryz.func84, Tryz.ntmps84
    go_wp2_with (refine wpList_append_own _ rfl (.tmp 3) (.tmp 4) 32 rfl w.heap.size 9 ti (.string ⟨#[]⟩) 1 16 Tryz.underlying32 HTI.out.1 HTI.out.2.2.2 HTI.out.2.1 HTI.out.2.2.1 rfl (by decide) _ 0 [] rfl (by exact HOW.out) ⟨b, o, none⟩ l.length cap (l.map Value.string) rfl (by simp) (by exact HNW.out _) (by exact HONE.out) (by unfold maxLen; omega) (by omega) (by simp) ?_; intro v5 w5 hv5 hg5 hn5; refine Hid.out ?_)
    have HB5 : Hid (Below w.heap.size w w5) := HBA.out.grown hg5 (by simp) (fun k hk => by have h : w.heap.size = k := Option.some.inj hk; omega)
    have HO5 : Hid (w5.ownsRow w.heap.size 9 1 v5 l.length (l.map Value.string)) := by have := hv5; rw [Nat.zero_add] at this; exact this
    clear hv5 hg5 hn5 HNW HONE
    unfold Hid
    go_wp2
    go_ret
    exact ⟨_, rfl, HO5.out, HB5.out⟩
end Go.Proofs.YthhbpebihgjpjaaGreatDoor
