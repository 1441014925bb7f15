import Derived.Test.YthhbpebihgjpjaaGreatDoorK01
import Derived.WalkKit
import Derived.WalkLawsBesides
import Derived.Laws.Rows
import Derived.Deep.MidRow
import Derived.Laws.AppendOwn
import Derived.Maps.AppendAt
namespace Go.Proofs.YthhbpebihgjpjaaGreatDoor
open Go.RowKit
set_option maxRecDepth 1000000

set_option maxHeartbeats 2000000 in
/-- The answer's: how many blanks. -/
theorem rblanks_any (t : ByteArray) (ht : t.size ≤ 1099511627776) (w : World) :
    Calls Tryz.prog 325 #[.string t] w fun e w' => e = .returned (.int .i64 (blankLen t)) ∧ w' = w := by
  have t0 : (t.size : Int) ≤ 1099511627776 := by omega
  go_enter Tryz.func325, Tryz.ntmps325
  go_wp2_with fail
  go_loop [3] (fun i => ∃ j : Nat, i = .int .i64 j ∧ j ≤ t.size ∧ (∀ k, k < j → isBl (byteOf t k) = true)) (fun i => t.size - (intOf i).toNat)
  case atStart => exact ⟨0, rfl, Nat.zero_le _, fun k hk => by omega⟩
  case round =>
    obtain ⟨j, rfl, hle, hag⟩ := hrel
    have HAG : Hid (∀ k, k < j → isBl (byteOf t k) = true) := hag
    clear hag
    have j0 : (0 : Int) ≤ (j : Int) := by omega
    by_cases hlt : j < t.size
    · have j1 : (j : Int) < (t.size : Int) := by omega
      have hidx : ∀ wx, (Instr.index 9 (.string t) (.int .i64 j)).run Tryz.prog wx = .ok (.int .u8 (byteOf t j)) wx := fun wx => run_index_text t j hlt wx
      obtain ⟨x, hx⟩ : ∃ x, x = byteOf t j := ⟨_, rfl⟩
      have HX : Hid (x = byteOf t j) := hx
      rw [← hx] at hidx
      clear hx
      by_cases hb : x = 32
      · subst hb
        have HR : Hid (∀ k, k < j + 1 → isBl (byteOf t k) = true) := fun k hk => by
          rcases Nat.lt_or_ge k j with c | c
          · exact HAG.out k c
          · obtain rfl : k = j := by omega
            rw [← HX.out]; rfl
        go_wp2_with fail
        exact ⟨⟨j + 1, by go_num, hlt, HR.out⟩, by simp [intOf]; omega⟩
      · have HW : Hid (blankLen t = j) := spanLen_eq _ _ _ hle HAG.out (fun _ => by rw [← HX.out]; simp [isBl, hb])
        have hb2 : ¬ (x : Int) = 32 := by omega
        go_wp2_with fail
        go_ret
        exact ⟨by rw [HW.out]; rfl, rfl⟩
    · obtain rfl : j = t.size := by omega
      have HW : Hid (blankLen t = t.size) := spanLen_eq _ _ _ hle HAG.out (fun h => absurd h (Nat.lt_irrefl _))
      go_wp2_with fail
      go_ret
      exact ⟨by rw [HW.out]; rfl, rfl⟩

theorem rleft_any (t : ByteArray) (ht : t.size ≤ 1099511627776) (w : World) :
    Calls Tryz.prog 280 #[.string t] w fun e w' => e = .returned (.string (leftB t)) ∧ w' = w := by
  have HT : Hid (t.size ≤ 1099511627776) := ht
  have hs2 : ∀ wx, (Instr.slice 9 (.string t) (some (.int .i64 (blankLen t))) none none).run Tryz.prog wx = .ok (.string (leftB t)) wx := fun wx => slice_from t _ (spanLen_le _ _) wx
  clear ht
  generalize hL : leftB t = L at *
  clear hL
  go_enter Tryz.func280, Tryz.ntmps280
  go_wp2_with fail
  refine (rblanks_any t HT.out _).mono ?_
  rintro e w' ⟨rfl, rfl⟩
  go_wp2
  go_ret
  exact ⟨rfl, rfl⟩

set_option maxHeartbeats 2000000 in
theorem rwordLen_any (t : ByteArray) (ht : t.size ≤ 1099511627776) (w : World) :
    Calls Tryz.prog 289 #[.string t] w fun e w' => e = .returned (.int .i64 (wordLenB t)) ∧ w' = w := by
  have t0 : (t.size : Int) ≤ 1099511627776 := by omega
  go_enter Tryz.func289, Tryz.ntmps289
  go_wp2_with fail
  go_loop [3] (fun i => ∃ j : Nat, i = .int .i64 j ∧ j ≤ t.size ∧ (∀ k, k < j → wordByte (byteOf t k) = true)) (fun i => t.size - (intOf i).toNat)
  case atStart => exact ⟨0, rfl, Nat.zero_le _, fun k hk => by omega⟩
  case round =>
    obtain ⟨j, rfl, hle, hag⟩ := hrel
    have HAG : Hid (∀ k, k < j → wordByte (byteOf t k) = true) := hag
    clear hag
    have j0 : (0 : Int) ≤ (j : Int) := by omega
    by_cases hlt : j < t.size
    · have j1 : (j : Int) < (t.size : Int) := by omega
      have hidx : ∀ wx, (Instr.index 9 (.string t) (.int .i64 j)).run Tryz.prog wx = .ok (.int .u8 (byteOf t j)) wx := fun wx => run_index_text t j hlt wx
      obtain ⟨x, hx⟩ : ∃ x, x = byteOf t j := ⟨_, rfl⟩
      have HX : Hid (x = byteOf t j) := hx
      rw [← hx] at hidx
      clear hx
      have HGO : Hid (wordByte x = true → ∀ k, k < j + 1 → wordByte (byteOf t k) = true) := fun hw k hk => by
        rcases Nat.lt_or_ge k j with c | c
        · exact HAG.out k c
        · obtain rfl : k = j := by omega
          rw [← HX.out]; exact hw
      have HNO : Hid (wordByte x = false → wordLenB t = j) := fun hw => spanLen_eq _ _ _ hle HAG.out (fun _ => by rw [← HX.out]; exact hw)
      have x0 : (x : Int) < 256 := by have := byteOf_lt t j; have := HX.out; omega
      clear HAG HX
      by_cases p0 : (97 : Int) ≤ (x : Int)
      all_goals try (exfalso; omega)
      all_goals by_cases p1 : (x : Int) ≤ 122
      all_goals try (exfalso; omega)
      all_goals by_cases p2 : (65 : Int) ≤ (x : Int)
      all_goals try (exfalso; omega)
      all_goals by_cases p3 : (x : Int) ≤ 90
      all_goals try (exfalso; omega)
      all_goals by_cases p4 : (48 : Int) ≤ (x : Int)
      all_goals try (exfalso; omega)
      all_goals by_cases p5 : (x : Int) ≤ 57
      all_goals try (exfalso; omega)
      all_goals by_cases p7 : (x : Int) = 95
      all_goals try (exfalso; omega)
      all_goals by_cases p9 : (x : Int) = 45
      all_goals try (exfalso; omega)
      all_goals go_wp2
      all_goals first
        | (have h2 := HGO.out (by simp only [wordByte, decide_eq_true_eq]; omega)
           exact ⟨⟨j + 1, by go_num, hlt, h2⟩, by simp [intOf]; omega⟩)
        | (have h2 := HNO.out (by simp only [wordByte, decide_eq_false_iff_not]; omega)
           go_ret
           exact ⟨by rw [h2]; rfl, rfl⟩)
        | (exfalso; simp_all; done)
    · obtain rfl : j = t.size := by omega
      have HW : Hid (wordLenB t = t.size) := spanLen_eq _ _ _ hle HAG.out (fun h => absurd h (Nat.lt_irrefl _))
      go_wp2_with fail
      go_ret
      exact ⟨by rw [HW.out]; rfl, rfl⟩

/-- Is a line nothing? -/
def emptyB (t : ByteArray) : Bool := decide ((leftB t).size = 0 ∨ byteOf (leftB t) 0 = 35)
theorem nil_iff (t : ByteArray) : t.toList.isEmpty = decide (t.size = 0) := by
  rw [ByteArray.toList_eq]
  show t.data.toList.isEmpty = decide (t.data.size = 0)
  rw [← Array.length_toList]
  cases t.data.toList with
  | nil => rfl
  | cons c r => simp
theorem rempty_any (t : ByteArray) (ht : t.size ≤ 1099511627776) (w : World) :
    Calls Tryz.prog 281 #[.string t] w fun e w' => e = .returned (.bool (emptyB t)) ∧ w' = w := by
  have HT : Hid (t.size ≤ 1099511627776) := ht
  have hE : emptyB t = decide ((leftB t).size = 0 ∨ byteOf (leftB t) 0 = 35) := rfl
  have HE : Hid (emptyB t = decide ((leftB t).size = 0 ∨ byteOf (leftB t) 0 = 35)) := hE
  clear ht hE
  generalize hL : leftB t = L at *
  have HL : Hid (leftB t = L) := hL
  clear hL
  have hn := nil_iff L
  by_cases h0 : L.size = 0
  · rw [decide_eq_true h0] at hn
    have HE2 : Hid (emptyB t = true) := by rw [HE.out]; exact decide_eq_true (Or.inl h0)
    go_enter Tryz.func281, Tryz.ntmps281
    go_wp2_with fail
    refine (rleft_any t HT.out _).mono ?_
    rintro e w' ⟨rfl, rfl⟩
    rw [HL.out]
    go_wp2
    go_ret
    exact ⟨by rw [HE2.out]; rfl, rfl⟩
  · rw [decide_eq_false h0] at hn
    have l0 : (0 : Int) < (L.size : Int) := by omega
    have hidx : ∀ wx, (Instr.index 9 (.string L) (.int .i64 0)).run Tryz.prog wx = .ok (.int .u8 (byteOf L 0)) wx := fun wx => run_index_text L 0 (by omega) wx
    obtain ⟨x, hx⟩ : ∃ x, x = byteOf L 0 := ⟨_, rfl⟩
    have HE2 : Hid (emptyB t = decide ((x : Int) = 35)) := by
      show _ = _
      rw [HE.out, ← hx]
      exact decide_eq_decide.2 ⟨fun h => by rcases h with h | h <;> omega, fun h => Or.inr (by omega)⟩
    rw [← hx] at hidx
    clear hx HE
    by_cases h35 : (x : Int) = 35
    · have HE3 : Hid (emptyB t = true) := by rw [HE2.out]; exact decide_eq_true h35
      go_enter Tryz.func281, Tryz.ntmps281
      go_wp2_with fail
      refine (rleft_any t HT.out _).mono ?_
      rintro e w' ⟨rfl, rfl⟩
      rw [HL.out]
      go_wp2
      go_ret
      exact ⟨by rw [HE3.out]; rfl, rfl⟩
    · have HE3 : Hid (emptyB t = false) := by rw [HE2.out]; exact decide_eq_false h35
      have hb35 : ((x : Int) == 35) = false := by simpa using h35
      go_enter Tryz.func281, Tryz.ntmps281
      go_wp2_with fail
      refine (rleft_any t HT.out _).mono ?_
      rintro e w' ⟨rfl, rfl⟩
      rw [HL.out]
      go_wp2
      go_ret
      exact ⟨by rw [HE3.out]; rfl, rfl⟩
end Go.Proofs.YthhbpebihgjpjaaGreatDoor

namespace Go.Proofs.YthhbpebihgjpjaaGreatDoor
open Go.RowKit
set_option maxRecDepth 1000000

set_option maxHeartbeats 4000000 in
theorem named_any (t : ByteArray) (ht : t.size ≤ 140737488351232) (w : World) :
    Calls Tryz.prog 226 #[.string t] w fun e w' => e = .returned (.bool (named t)) ∧ w' = w := by
  have z0 : (t.size : Int) ≤ 140737488351232 := by omega
  go_enter Tryz.func226, Tryz.ntmps226
  go_wp2
  go_loop [3] (fun c => ∃ j : Nat, j ≤ t.size ∧ c = .int .i64 j ∧ Hid (∀ i, i < j → nameByte (byteOf t i) = true)) (fun c => t.size - (intOf c).toNat)
  case atStart => exact ⟨0, by omega, rfl, fun i hi => by omega⟩
  case round =>
    obtain ⟨j, hj, rfl, HG⟩ := hrel
    by_cases hlt : j < t.size
    · have i0 : (0 : Int) ≤ (j : Int) := by omega
      have i1 : (j : Int) < (t.size : Int) := by omega
      have hb := byteOf_lt t j
      have hidx : ∀ wx, (Instr.index 9 (.string t) (.int .i64 j)).run Tryz.prog wx = .ok (.int .u8 (byteOf t j)) wx := fun wx => run_index_text t j hlt wx
      obtain ⟨x, hx⟩ : ∃ x, x = byteOf t j := ⟨_, rfl⟩
      rw [← hx] at hidx hb
      have HX : Hid (x = byteOf t j) := hx
      clear hx
      have x1 : (x : Int) < 256 := by omega
      have HB : Hid (nameByte x = false → named t = false) := fun h => named_bad t j hlt (by rw [← HX.out]; exact h)
      have HG2 : Hid (nameByte x = true → ∀ i, i < j + 1 → nameByte (byteOf t i) = true) := fun h i hi => by
        by_cases e : i = j
        · subst e; rw [← HX.out]; exact h
        · exact HG.out i (by omega)
      clear HG HX
      by_cases p0 : (97 : Int) ≤ (x : Int)
      all_goals try (exfalso; omega)
      all_goals by_cases p1 : (x : Int) ≤ 122
      all_goals try (exfalso; omega)
      all_goals by_cases p2 : (65 : Int) ≤ (x : Int)
      all_goals try (exfalso; omega)
      all_goals by_cases p3 : (x : Int) ≤ 90
      all_goals try (exfalso; omega)
      all_goals by_cases p4 : (48 : Int) ≤ (x : Int)
      all_goals try (exfalso; omega)
      all_goals by_cases p5 : (x : Int) ≤ 57
      all_goals try (exfalso; omega)
      all_goals by_cases p6 : (x : Int) = 46
      all_goals try (exfalso; omega)
      all_goals by_cases p7 : (x : Int) = 95
      all_goals try (exfalso; omega)
      all_goals by_cases p8 : (x : Int) = 47
      all_goals try (exfalso; omega)
      all_goals by_cases p9 : (x : Int) = 45
      all_goals try (exfalso; omega)
      all_goals go_wp2
      all_goals first
        | (have hx : nameByte x = true := by simp only [nameByte, wordByte, Bool.or_eq_true, decide_eq_true_eq]; omega
           have h2 := HG2.out hx
           exact ⟨⟨j + 1, by omega, by go_num, h2⟩, by simp [intOf]; omega⟩)
        | (have hx : nameByte x = false := by simp only [nameByte, wordByte, Bool.or_eq_false_iff, decide_eq_false_iff_not]; omega
           have h2 := HB.out hx
           go_ret
           exact ⟨by rw [h2]; rfl, rfl⟩)
        | (exfalso; simp_all; done)
    · have hjs : j = t.size := by omega
      subst hjs
      by_cases hs : 1 ≤ t.size ∧ t.size ≤ 32
      · have HN : Hid (named t = true) := named_good t hs.1 hs.2 HG.out
        obtain ⟨h1, h2⟩ := hs
        have z1 : (1 : Int) ≤ (t.size : Int) := by omega
        have z2 : (t.size : Int) ≤ 32 := by omega
        go_wp2
        go_ret
        exact ⟨by rw [HN.out]; simp, rfl⟩
      · have HN : Hid (named t = false) := named_short t hs
        by_cases h1 : 1 ≤ t.size
        · have z1 : (1 : Int) ≤ (t.size : Int) := by omega
          have z2 : ¬ (t.size : Int) ≤ 32 := by omega
          go_wp2
          go_ret
          exact ⟨by rw [HN.out]; simp, rfl⟩
        · have z1 : ¬ (1 : Int) ≤ (t.size : Int) := by omega
          go_wp2
          go_ret
          exact ⟨by rw [HN.out]; simp, rfl⟩
end Go.Proofs.YthhbpebihgjpjaaGreatDoor

namespace Go.Proofs.YthhbpebihgjpjaaGreatDoor
open Go.RowKit

/-! Whole arrays in memory. -/
theorem heapA_old (w : World) (o : Obj) (i : Nat) (h : i < w.heap.size) : (w.alloc o).heap[i]? = w.heap[i]? := Below.heap_alloc w o i h
theorem heapA_new (w : World) (o : Obj) (i : Nat) (h : i = w.heap.size) : (w.alloc o).heap[i]? = some o := by
  subst h
  show (w.heap.push o)[w.heap.size]? = _
  simp
theorem heapC_other (g : Nat) (vs : List Value) : ∀ (o : Nat) (w : World) (k : Nat), k ≠ g → (w.setCells g o vs).heap[k]? = w.heap[k]? := by
  induction vs with
  | nil => intro o w k h; rfl
  | cons v r ih =>
    intro o w k h
    show ((w.setCell ⟨g, o, none⟩ v).setCells g (o + 1) r).heap[k]? = _
    rw [ih _ _ k h, heap_setCell_other _ _ _ _ h]
theorem sizeC (g : Nat) (vs : List Value) : ∀ (o : Nat) (w : World), (w.setCells g o vs).heap.size = w.heap.size := by
  induction vs with
  | nil => intro o w; rfl
  | cons v r ih =>
    intro o w
    show ((w.setCell ⟨g, o, none⟩ v).setCells g (o + 1) r).heap.size = _
    rw [ih]; simp [World.setCell]
theorem belowC {B g : Nat} (vs : List Value) : ∀ (o : Nat) {w0 w : World}, Below B w0 w → B ≤ g → Below B w0 (w.setCells g o vs) := by
  induction vs with
  | nil => intro o w0 w h _; exact h
  | cons v r ih =>
    intro o w0 w h hB
    exact ih (o + 1) (h.setCell (p := ⟨g, o, none⟩) hB v) hB
theorem heapC_at (g : Nat) (t : TypeId) (vs : List Value) : ∀ (o : Nat) (cs : Array Value) (w : World), w.heap[g]? = some (.cells cs t (0, 0)) → o + vs.length ≤ cs.size →
    ∃ cs', (w.setCells g o vs).heap[g]? = some (.cells cs' t (0, 0)) ∧ cs'.size = cs.size ∧ (∀ j, cs'[j]? = if o ≤ j ∧ j < o + vs.length then vs[j - o]? else cs[j]?) := by
  induction vs with
  | nil =>
    intro o cs w hg _
    exact ⟨cs, hg, rfl, fun j => by rw [if_neg (by intro h; simp at h; omega)]⟩
  | cons v r ih =>
    intro o cs w hg hl
    simp only [List.length_cons] at hl
    obtain ⟨cs', h1, h2, h3⟩ := ih (o + 1) (cs.setIfInBounds o v) (w.setCell ⟨g, o, none⟩ v) (heap_setCell_same w g o cs t v hg) (by simp; omega)
    refine ⟨cs', h1, by simpa using h2, fun j => ?_⟩
    rw [h3 j]
    simp only [List.length_cons]
    by_cases e : j = o
    · subst e
      rw [if_neg (by omega), if_pos (by omega), Array.getElem?_setIfInBounds]
      simp; omega
    · by_cases e2 : o + 1 ≤ j ∧ j < o + 1 + r.length
      · rw [if_pos e2, if_pos (by omega)]
        have : j - o = (j - (o + 1)) + 1 := by omega
        rw [this, List.getElem?_cons_succ]
      · rw [if_neg e2, if_neg (by omega), Array.getElem?_setIfInBounds, if_neg (fun h => e h.symm)]
theorem heapC_row (g : Nat) (t : TypeId) (xs cs : Array Value) (w : World) (hg : w.heap[g]? = some (.cells cs t (0, 0))) (hl : xs.size = cs.size) :
    (w.setCells g 0 xs.toList).heap[g]? = some (.cells xs t (0, 0)) := by
  obtain ⟨cs', h1, h2, h3⟩ := heapC_at g t xs.toList 0 cs w hg (by simp; omega)
  have e : cs' = xs := by
    apply Array.ext_getElem?
    intro j
    rw [h3 j]
    by_cases h : j < xs.size
    · rw [if_pos (by simp; omega)]; simp
    · rw [if_neg (by simp; omega), Array.getElem?_eq_none (by omega), Array.getElem?_eq_none (by omega)]
  rw [h1, e]
theorem there_of_row {w : World} {g : Nat} {t : TypeId} {cs : Array Value} (hg : w.heap[g]? = some (.cells cs t (0, 0))) (o n : Nat) (h : o + n ≤ cs.size) : w.there g o n := by
  intro j hj
  rw [cell_of_row _ _ _ _ _ _ hg]
  exact ⟨by rw [Array.getElem?_eq_getElem (by omega)]; rfl, frozen_of_row _ _ _ _ _ hg⟩
end Go.Proofs.YthhbpebihgjpjaaGreatDoor

namespace Go.Proofs.YthhbpebihgjpjaaGreatDoor
open Go.RowKit
set_option maxRecDepth 1000000

/-- A file of the answer's: a name, and bytes. -/
abbrev FileV := ByteArray × ByteArray
def fcells (l : List FileV) : List Value := l.flatMap fun x => [.string x.1, .string x.2]
theorem fcells_length (l : List FileV) : (fcells l).length = l.length * 2 := by
  induction l with
  | nil => rfl
  | cons x r ih => simp only [fcells, List.flatMap_cons, List.length_append] at *; rw [ih]; simp; omega
theorem fcells_append (l r : List FileV) : fcells (l ++ r) = fcells l ++ fcells r := by simp [fcells]
theorem fcells_name (l : List FileV) : ∀ i x, l[i]? = some x → (fcells l)[i * 2]? = some (.string x.1) ∧ (fcells l)[i * 2 + 1]? = some (.string x.2) := by
  induction l with
  | nil => intro i x h; simp at h
  | cons y r ih =>
    intro i x h
    cases i with
    | zero => simp at h; subst h; exact ⟨rfl, rfl⟩
    | succ i =>
      have := ih i x (by simpa using h)
      have e : fcells (y :: r) = .string y.1 :: .string y.2 :: fcells r := rfl
      rw [e, show (i + 1) * 2 = (i * 2 + 1) + 1 by omega, show i * 2 + 1 + 1 + 1 = (i * 2 + 1 + 1) + 1 by omega]
      simpa using this

/-- Such a list, where it lies. -/
def FilesAt (w : World) (ao : Option Addr) (l : List FileV) : Prop :=
  l = [] ∨ ∃ b o, ao = some ⟨b, o, none⟩ ∧ ∀ i x, l[i]? = some x → w.cell? ⟨b, o + i * 2, none⟩ = some (.string x.1) ∧ w.cell? ⟨b, o + i * 2 + 1, none⟩ = some (.string x.2)

theorem text_same {a b : ByteArray} (h : (a.toList == b.toList) = true) : a = b := by
  rw [ByteArray.toList_eq, ByteArray.toList_eq] at h
  have h2 : a.data.toList = b.data.toList := by simpa using h
  cases a; cases b
  simp at h2
  rw [h2]
theorem text_other {a b : ByteArray} (h : (a.toList == b.toList) = false) : a ≠ b := by
  rintro rfl
  simp at h
/-- The place of a name: -1, if there is none. -/
def posFrom (name : ByteArray) : List FileV → Nat → Int
  | [], _ => -1
  | x :: r, k => if x.1 = name then (k : Int) else posFrom name r (k + 1)
def posIn (l : List FileV) (name : ByteArray) : Int := posFrom name l 0
theorem posFrom_hit (name : ByteArray) : ∀ (l : List FileV) (j k : Nat) (x : FileV), (∀ i y, i < j → l[i]? = some y → y.1 ≠ name) → l[j]? = some x → x.1 = name → posFrom name l k = ((k + j : Nat) : Int) := by
  intro l
  induction l with
  | nil => intro j k x _ h; simp at h
  | cons y r ih =>
    intro j k x hb hx hn
    cases j with
    | zero =>
      simp at hx
      subst hx
      rw [posFrom, if_pos hn]; rfl
    | succ j =>
      rw [posFrom, if_neg (hb 0 y (by omega) rfl), ih j (k + 1) x (fun i z hi hz => hb (i + 1) z (by omega) (by simpa using hz)) (by simpa using hx) hn]
      congr 1; omega
theorem posFrom_none (name : ByteArray) : ∀ (l : List FileV) (k : Nat), (∀ i y, i < l.length → l[i]? = some y → y.1 ≠ name) → posFrom name l k = -1 := by
  intro l
  induction l with
  | nil => intro k _; rfl
  | cons y r ih =>
    intro k hb
    rw [posFrom, if_neg (hb 0 y (by simp) rfl), ih (k + 1) (fun i z hi hz => hb (i + 1) z (by simp; omega) (by simpa using hz))]

set_option maxHeartbeats 2000000 in
theorem at_any (l : List FileV) (name : ByteArray) (ao : Option Addr) (cap : Nat) (hl : l.length ≤ 140737488351232) (w : World) (h : FilesAt w ao l) :
    Calls Tryz.prog 225 #[.slice ao l.length cap, .string name] w fun e w' => e = .returned (.int .i64 (posIn l name)) ∧ w' = w := by
  have HF : Hid (FilesAt w ao l) := h
  have n0 : (l.length : Int) ≤ 140737488351232 := by omega
  clear h
  go_enter Tryz.func225, Tryz.ntmps225
  go_wp2
  go_loop [5] (fun c => ∃ j : Nat, j ≤ l.length ∧ c = .int .i64 j ∧ Hid (∀ i x, i < j → l[i]? = some x → x.1 ≠ name)) (fun c => l.length - (intOf c).toNat)
  case atStart => exact ⟨0, by omega, rfl, fun i x hi => by omega⟩
  case round =>
    obtain ⟨j, hj, rfl, HG⟩ := hrel
    by_cases hlt : j < l.length
    · obtain ⟨x, hx⟩ : ∃ x, l[j]? = some x := ⟨_, List.getElem?_eq_getElem hlt⟩
      obtain ⟨b, o, rfl, hc⟩ : ∃ b o, ao = some ⟨b, o, none⟩ ∧ w.cell? ⟨b, o + j * 2, none⟩ = some (.string x.1) := by
        rcases HF.out with h | ⟨b, o, e, h⟩
        · subst h; simp at hlt
        · exact ⟨b, o, e, (h j x hx).1⟩
      have i0 : (0 : Int) ≤ (j : Int) := by omega
      have i1 : (j : Int) < (l.length : Int) := by omega
      have HX : Hid (l[j]? = some x) := hx
      obtain ⟨xn, xd⟩ := x
      clear hx
      simp only at hc
      go_wp2
      · rename_i hq _
        have HP : Hid (posIn l name = ((0 + j : Nat) : Int)) := posFrom_hit name l j 0 _ HG.out HX.out (text_same hq)
        go_ret
        exact ⟨by rw [HP.out, Nat.zero_add]; rfl, rfl⟩
      · rename_i hq
        refine ⟨⟨j + 1, by omega, by go_num, fun i y hi hy => ?_⟩, by simp [intOf]; omega⟩
        by_cases e : i = j
        · subst e
          have hx := HX.out
          rw [hx] at hy
          cases hy
          exact text_other hq
        · exact HG.out i y (by omega) hy
    · have hjs : j = l.length := by omega
      have HN : Hid (posIn l name = -1) := posFrom_none name l 0 (fun i y hi hy => HG.out i y (by omega) hy)
      have i1 : ¬ (j : Int) < (l.length : Int) := by omega
      go_wp2
      go_ret
      exact ⟨by rw [HN.out]; rfl, rfl⟩
end Go.Proofs.YthhbpebihgjpjaaGreatDoor
