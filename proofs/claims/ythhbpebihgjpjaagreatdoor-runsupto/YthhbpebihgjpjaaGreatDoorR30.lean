import Derived.Test.YthhbpebihgjpjaaGreatDoorR29
import Derived.Test.YthhbpebihgjpjaaGreatDoorR03
import Derived.Laws.AppendOwn
import Derived.Maps.AppendAt
namespace Go.Proofs.YthhbpebihgjpjaaGreatDoor
open Go.RowKit
set_option maxRecDepth 1000000

set_option maxHeartbeats 4000000 in
theorem named_any (t : ByteArray) (ht : t.size ≤ 140737488351232) (w : World) :
    Calls Tryz.prog 226 #[.string t] w fun e w' => e = .returned (.bool (named t)) ∧ w' = w := by
  have z0 : (t.size : Int) ≤ 140737488351232 := by omega
  go_enter Tryz.func226, Tryz.ntmps226
  go_wp2
  go_loop [3] (fun c => ∃ j : Nat, j ≤ t.size ∧ c = .int .i64 j ∧ Hid (∀ i, i < j → nameByte (byteOf t i) = true)) (fun c => t.size - (intOf c).toNat)
  case atStart => exact ⟨0, by omega, rfl, fun i hi => by omega⟩
  case round =>
    obtain ⟨j, hj, rfl, HG⟩ := hrel
    by_cases hlt : j < t.size
    · have i0 : (0 : Int) ≤ (j : Int) := by omega
      have i1 : (j : Int) < (t.size : Int) := by omega
      have hb := byteOf_lt t j
      have hidx : ∀ wx, (Instr.index 9 (.string t) (.int .i64 j)).run Tryz.prog wx = .ok (.int .u8 (byteOf t j)) wx := fun wx => run_index_text t j hlt wx
      obtain ⟨x, hx⟩ : ∃ x, x = byteOf t j := ⟨_, rfl⟩
      rw [← hx] at hidx hb
      have HX : Hid (x = byteOf t j) := hx
      clear hx
      have x1 : (x : Int) < 256 := by omega
      have HB : Hid (nameByte x = false → named t = false) := fun h => named_bad t j hlt (by rw [← HX.out]; exact h)
      have HG2 : Hid (nameByte x = true → ∀ i, i < j + 1 → nameByte (byteOf t i) = true) := fun h i hi => by
        by_cases e : i = j
        · subst e; rw [← HX.out]; exact h
        · exact HG.out i (by omega)
      clear HG HX
      by_cases p0 : (97 : Int) ≤ (x : Int)
      all_goals try (exfalso; omega)
      all_goals by_cases p1 : (x : Int) ≤ 122
      all_goals try (exfalso; omega)
      all_goals by_cases p2 : (65 : Int) ≤ (x : Int)
      all_goals try (exfalso; omega)
      all_goals by_cases p3 : (x : Int) ≤ 90
      all_goals try (exfalso; omega)
      all_goals by_cases p4 : (48 : Int) ≤ (x : Int)
      all_goals try (exfalso; omega)
      all_goals by_cases p5 : (x : Int) ≤ 57
      all_goals try (exfalso; omega)
      all_goals by_cases p6 : (x : Int) = 46
      all_goals try (exfalso; omega)
      all_goals by_cases p7 : (x : Int) = 95
      all_goals try (exfalso; omega)
      all_goals by_cases p8 : (x : Int) = 47
      all_goals try (exfalso; omega)
      all_goals by_cases p9 : (x : Int) = 45
      all_goals try (exfalso; omega)
      all_goals go_wp2
      all_goals first
        | (have hx : nameByte x = true := by simp only [nameByte, wordByte, Bool.or_eq_true, decide_eq_true_eq]; omega
           have h2 := HG2.out hx
           exact ⟨⟨j + 1, by omega, by go_num, h2⟩, by simp [intOf]; omega⟩)
        | (have hx : nameByte x = false := by simp only [nameByte, wordByte, Bool.or_eq_false_iff, decide_eq_false_iff_not]; omega
           have h2 := HB.out hx
           go_ret
           exact ⟨by rw [h2]; rfl, rfl⟩)
        | (exfalso; simp_all; done)
    · have hjs : j = t.size := by omega
      subst hjs
      by_cases hs : 1 ≤ t.size ∧ t.size ≤ 32
      · have HN : Hid (named t = true) := named_good t hs.1 hs.2 HG.out
        obtain ⟨h1, h2⟩ := hs
        have z1 : (1 : Int) ≤ (t.size : Int) := by omega
        have z2 : (t.size : Int) ≤ 32 := by omega
        go_wp2
        go_ret
        exact ⟨by rw [HN.out]; simp, rfl⟩
      · have HN : Hid (named t = false) := named_short t hs
        by_cases h1 : 1 ≤ t.size
        · have z1 : (1 : Int) ≤ (t.size : Int) := by omega
          have z2 : ¬ (t.size : Int) ≤ 32 := by omega
          go_wp2
          go_ret
          exact ⟨by rw [HN.out]; simp, rfl⟩
        · have z1 : ¬ (1 : Int) ≤ (t.size : Int) := by omega
          go_wp2
          go_ret
          exact ⟨by rw [HN.out]; simp, rfl⟩
end Go.Proofs.YthhbpebihgjpjaaGreatDoor

namespace Go.Proofs.YthhbpebihgjpjaaGreatDoor
open Go.RowKit
set_option maxRecDepth 1000000

/-- A file of the answer's: a name, and bytes. -/
abbrev FileV := ByteArray × ByteArray
def fcells (l : List FileV) : List Value := l.flatMap fun x => [.string x.1, .string x.2]
theorem fcells_length (l : List FileV) : (fcells l).length = l.length * 2 := by
  induction l with
  | nil => rfl
  | cons x r ih => simp only [fcells, List.flatMap_cons, List.length_append] at *; rw [ih]; simp; omega
theorem fcells_append (l r : List FileV) : fcells (l ++ r) = fcells l ++ fcells r := by simp [fcells]
theorem fcells_name (l : List FileV) : ∀ i x, l[i]? = some x → (fcells l)[i * 2]? = some (.string x.1) ∧ (fcells l)[i * 2 + 1]? = some (.string x.2) := by
  induction l with
  | nil => intro i x h; simp at h
  | cons y r ih =>
    intro i x h
    cases i with
    | zero => simp at h; subst h; exact ⟨rfl, rfl⟩
    | succ i =>
      have := ih i x (by simpa using h)
      have e : fcells (y :: r) = .string y.1 :: .string y.2 :: fcells r := rfl
      rw [e, show (i + 1) * 2 = (i * 2 + 1) + 1 by omega, show i * 2 + 1 + 1 + 1 = (i * 2 + 1 + 1) + 1 by omega]
      simpa using this

/-- Such a list, where it lies. -/
def FilesAt (w : World) (ao : Option Addr) (l : List FileV) : Prop :=
  l = [] ∨ ∃ b o, ao = some ⟨b, o, none⟩ ∧ ∀ i x, l[i]? = some x → w.cell? ⟨b, o + i * 2, none⟩ = some (.string x.1) ∧ w.cell? ⟨b, o + i * 2 + 1, none⟩ = some (.string x.2)

theorem text_same {a b : ByteArray} (h : (a.toList == b.toList) = true) : a = b := by
  rw [ByteArray.toList_eq, ByteArray.toList_eq] at h
  have h2 : a.data.toList = b.data.toList := by simpa using h
  cases a; cases b
  simp at h2
  rw [h2]
theorem text_other {a b : ByteArray} (h : (a.toList == b.toList) = false) : a ≠ b := by
  rintro rfl
  simp at h
/-- The place of a name: -1, if there is none. -/
def posFrom (name : ByteArray) : List FileV → Nat → Int
  | [], _ => -1
  | x :: r, k => if x.1 = name then (k : Int) else posFrom name r (k + 1)
def posIn (l : List FileV) (name : ByteArray) : Int := posFrom name l 0
theorem posFrom_hit (name : ByteArray) : ∀ (l : List FileV) (j k : Nat) (x : FileV), (∀ i y, i < j → l[i]? = some y → y.1 ≠ name) → l[j]? = some x → x.1 = name → posFrom name l k = ((k + j : Nat) : Int) := by
  intro l
  induction l with
  | nil => intro j k x _ h; simp at h
  | cons y r ih =>
    intro j k x hb hx hn
    cases j with
    | zero =>
      simp at hx
      subst hx
      rw [posFrom, if_pos hn]; rfl
    | succ j =>
      rw [posFrom, if_neg (hb 0 y (by omega) rfl), ih j (k + 1) x (fun i z hi hz => hb (i + 1) z (by omega) (by simpa using hz)) (by simpa using hx) hn]
      congr 1; omega
theorem posFrom_none (name : ByteArray) : ∀ (l : List FileV) (k : Nat), (∀ i y, i < l.length → l[i]? = some y → y.1 ≠ name) → posFrom name l k = -1 := by
  intro l
  induction l with
  | nil => intro k _; rfl
  | cons y r ih =>
    intro k hb
    rw [posFrom, if_neg (hb 0 y (by simp) rfl), ih (k + 1) (fun i z hi hz => hb (i + 1) z (by simp; omega) (by simpa using hz))]

set_option maxHeartbeats 2000000 in
theorem at_any (l : List FileV) (name : ByteArray) (ao : Option Addr) (cap : Nat) (hl : l.length ≤ 140737488351232) (w : World) (h : FilesAt w ao l) :
    Calls Tryz.prog 225 #[.slice ao l.length cap, .string name] w fun e w' => e = .returned (.int .i64 (posIn l name)) ∧ w' = w := by
  have HF : Hid (FilesAt w ao l) := h
  have n0 : (l.length : Int) ≤ 140737488351232 := by omega
  clear h
  go_enter Tryz.func225, Tryz.ntmps225
  go_wp2
  go_loop [5] (fun c => ∃ j : Nat, j ≤ l.length ∧ c = .int .i64 j ∧ Hid (∀ i x, i < j → l[i]? = some x → x.1 ≠ name)) (fun c => l.length - (intOf c).toNat)
  case atStart => exact ⟨0, by omega, rfl, fun i x hi => by omega⟩
  case round =>
    obtain ⟨j, hj, rfl, HG⟩ := hrel
    by_cases hlt : j < l.length
    · obtain ⟨x, hx⟩ : ∃ x, l[j]? = some x := ⟨_, List.getElem?_eq_getElem hlt⟩
      obtain ⟨b, o, rfl, hc⟩ : ∃ b o, ao = some ⟨b, o, none⟩ ∧ w.cell? ⟨b, o + j * 2, none⟩ = some (.string x.1) := by
        rcases HF.out with h | ⟨b, o, e, h⟩
        · subst h; simp at hlt
        · exact ⟨b, o, e, (h j x hx).1⟩
      have i0 : (0 : Int) ≤ (j : Int) := by omega
      have i1 : (j : Int) < (l.length : Int) := by omega
      have HX : Hid (l[j]? = some x) := hx
      obtain ⟨xn, xd⟩ := x
      clear hx
      simp only at hc
      go_wp2
      · rename_i hq _
        have HP : Hid (posIn l name = ((0 + j : Nat) : Int)) := posFrom_hit name l j 0 _ HG.out HX.out (text_same hq)
        go_ret
        exact ⟨by rw [HP.out, Nat.zero_add]; rfl, rfl⟩
      · rename_i hq
        refine ⟨⟨j + 1, by omega, by go_num, fun i y hi hy => ?_⟩, by simp [intOf]; omega⟩
        by_cases e : i = j
        · subst e
          have hx := HX.out
          rw [hx] at hy
          cases hy
          exact text_other hq
        · exact HG.out i y (by omega) hy
    · have hjs : j = l.length := by omega
      have HN : Hid (posIn l name = -1) := posFrom_none name l 0 (fun i y hi hy => HG.out i y (by omega) hy)
      have i1 : ¬ (j : Int) < (l.length : Int) := by omega
      go_wp2
      go_ret
      exact ⟨by rw [HN.out]; rfl, rfl⟩
end Go.Proofs.YthhbpebihgjpjaaGreatDoor
