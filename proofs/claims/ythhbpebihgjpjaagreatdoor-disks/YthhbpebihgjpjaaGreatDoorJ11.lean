import Derived.Test.YthhbpebihgjpjaaGreatDoorJ09
import Derived.Test.YthhbpebihgjpjaaGreatDoorJ10
import Derived.Maps.OwnOps
import Derived.Maps.OwnSet
import Derived.Maps.Views
namespace Go.Proofs.YthhbpebihgjpjaaGreatDoor
set_option maxRecDepth 1000000

/-- The bytes under a name, if there are any. -/
def findL : List FileV → ByteArray → Option ByteArray
  | [], _ => none
  | x :: r, name => if x.1 = name then some x.2 else findL r name
theorem findL_pos (name : ByteArray) : ∀ (l : List FileV) (k : Nat), (posFrom name l k = -1 ∧ findL l name = none) ∨ (∃ j : Nat, posFrom name l k = ((k + j : Nat) : Int) ∧ (l[j]?).map (·.2) = findL l name ∧ (findL l name).isSome ∧ ∀ x, l[j]? = some x → x.1 = name) := by
  intro l
  induction l with
  | nil => intro k; exact Or.inl ⟨rfl, rfl⟩
  | cons y r ih =>
    intro k
    by_cases e : y.1 = name
    · refine Or.inr ⟨0, by rw [posFrom, if_pos e]; rfl, by simp [findL, e], by simp [findL, e], fun x hx => ?_⟩
      simp at hx; subst hx; exact e
    · rcases ih (k + 1) with ⟨h1, h2⟩ | ⟨j, h1, h2, h3, h4⟩
      · exact Or.inl ⟨by rw [posFrom, if_neg e]; exact h1, by rw [findL, if_neg e]; exact h2⟩
      · refine Or.inr ⟨j + 1, ?_, ?_, ?_, ?_⟩
        · rw [posFrom, if_neg e, h1]; congr 1; omega
        · rw [findL, if_neg e, ← h2]; simp
        · rw [findL, if_neg e]; exact h3
        · intro x hx; exact h4 x (by simpa using hx)
theorem posIn_find (l : List FileV) (name : ByteArray) : decide (posIn l name ≠ -1) = (findL l name).isSome := by
  rcases findL_pos name l 0 with ⟨h1, h2⟩ | ⟨j, h1, _, h3, _⟩
  · rw [posIn, h1, h2]; rfl
  · rw [posIn, h1, h3]; simp
theorem dataOf_find (l : List FileV) (name : ByteArray) : dataOf l name = (findL l name).getD ⟨#[]⟩ := by
  rcases findL_pos name l 0 with ⟨h1, h2⟩ | ⟨j, h1, h2, h3, _⟩
  · rw [dataOf, posIn, if_pos h1, h2]; rfl
  · rw [dataOf, posIn, if_neg (by rw [h1]; omega), h1, ← h2]
    have hj : j < l.length := by
      rcases Nat.lt_or_ge j l.length with c | c
      · exact c
      · rw [List.getElem?_eq_none c] at h2
        rw [← h2] at h3
        simp at h3
    show (fileAt l (0 + j)).2 = _
    rw [Nat.zero_add, fileAt_eq l j hj]; rfl
theorem findL_append (l r : List FileV) (name : ByteArray) : findL (l ++ r) name = (findL l name).or (findL r name) := by
  induction l with
  | nil => simp [findL]
  | cons x l ih =>
    by_cases e : x.1 = name
    · simp [findL, e]
    · simp [findL, e, ih]
theorem findL_without (l : List FileV) (a name : ByteArray) : findL (withoutL l a) name = if name = a then none else findL l name := by
  induction l with
  | nil => simp [withoutL, findL]
  | cons x l ih =>
    unfold withoutL at ih ⊢
    by_cases e : x.1 = a
    · rw [List.filter_cons_of_neg (by simp [e]), ih]
      by_cases n : name = a
      · simp [n]
      · rw [if_neg n, if_neg n, findL, if_neg (by rw [e]; exact fun h => n h.symm)]
    · rw [List.filter_cons_of_pos (by simp [e])]
      by_cases n : name = a
      · rw [if_pos n, findL, if_neg (by rw [n]; exact e), ih, if_pos n]
      · rw [if_neg n] at ih ⊢
        rw [findL, findL, ih]
/-- Two neighbours with different names change places: nothing is found otherwise. -/
theorem findL_swap (name : ByteArray) : ∀ (l : List FileV) (k : Nat), k + 1 < l.length → (fileAt l (k + 1)).1 ≠ (fileAt l k).1 → findL ((l.set (k + 1) (fileAt l k)).set k (fileAt l (k + 1))) name = findL l name := by
  intro l
  induction l with
  | nil => intro k h; simp at h
  | cons x r ih =>
    intro k hk hne
    cases k with
    | zero =>
      cases r with
      | nil => simp at hk
      | cons y r =>
        have e0 : fileAt (x :: y :: r) 0 = x := rfl
        have e1 : fileAt (x :: y :: r) (0 + 1) = y := rfl
        rw [e0, e1] at hne ⊢
        show findL (y :: x :: r) name = findL (x :: y :: r) name
        simp only [findL]
        by_cases a : y.1 = name
        · have b : ¬ x.1 = name := fun h => hne (a.trans h.symm)
          simp [a, b]
        · simp [a]
    | succ k =>
      have h2 : ∀ i, fileAt (x :: r) (i + 1) = fileAt r i := fun i => rfl
      have := ih k (by simpa using hk) (by rw [h2, h2] at hne; exact hne)
      rw [h2, h2]
      simp only [List.set_cons_succ, findL]
      rw [this]
theorem lessT_ne {a b : ByteArray} (h : lessT a b = true) : a ≠ b := by
  rintro rfl
  unfold lessT at h
  have irr : ∀ l : List UInt8, Op.bytesLess l l = false := by
    intro l
    induction l with
    | nil => rfl
    | cons x r ih => simp [Op.bytesLess, ih]
  rw [irr] at h
  cases h
theorem findL_bubble (name : ByteArray) : ∀ (k : Nat) (l : List FileV), k < l.length → findL (bubble l k) name = findL l name := by
  intro k
  induction k with
  | zero => intro l _; rfl
  | succ k ih =>
    intro l hk
    rw [bubble]
    by_cases h : lessT (fileAt l (k + 1)).1 (fileAt l k).1 = true
    · rw [if_pos h, ih _ (by simp; omega)]
      exact findL_swap name l k hk (lessT_ne h)
    · rw [if_neg h]
theorem findL_set (name : ByteArray) : ∀ (l : List FileV) (j : Nat) (x : FileV) (data : ByteArray), (l[j]?) = some x → (∀ i y, i < j → l[i]? = some y → y.1 ≠ x.1) → findL (l.set j (x.1, data)) name = if name = x.1 then some data else findL l name := by
  intro l
  induction l with
  | nil => intro j x data h; simp at h
  | cons y r ih =>
    intro j x data h hb
    cases j with
    | zero =>
      simp at h; subst h
      by_cases n : name = y.1
      · subst n; simp [findL]
      · have n2 : ¬ y.1 = name := fun h => n h.symm
        simp [findL, n, n2]
    | succ j =>
      have hy : y.1 ≠ x.1 := hb 0 y (by omega) rfl
      have h2 := ih j x data (by simpa using h) (fun i z hi hz => hb (i + 1) z (by omega) (by simpa using hz))
      simp only [List.set_cons_succ, findL]
      rw [h2]
      by_cases n : name = x.1
      · subst n; simp [hy]
      · simp [n]
theorem posFrom_before (name : ByteArray) : ∀ (l : List FileV) (k j : Nat), posFrom name l k = ((k + j : Nat) : Int) → ∀ i y, i < j → l[i]? = some y → y.1 ≠ name := by
  intro l
  induction l with
  | nil => intro k j _ i y _ h; simp at h
  | cons x r ih =>
    intro k j hp i y hi hy
    by_cases e : x.1 = name
    · rw [posFrom, if_pos e] at hp; omega
    · rw [posFrom, if_neg e] at hp
      cases i with
      | zero => simp at hy; subst hy; exact e
      | succ i => exact ih (k + 1) (j - 1) (by rw [hp]; congr 1; omega) i y (by omega) (by simpa using hy)
theorem findL_put (l : List FileV) (a data name : ByteArray) : findL (putL l a data) name = if name = a then some data else findL l name := by
  unfold putL
  rcases findL_pos a l 0 with ⟨h1, h2⟩ | ⟨j, h1, h2, h3, h4⟩
  · rw [if_pos (show posIn l a = -1 from h1), findL_bubble name l.length _ (by simp), findL_append]
    by_cases n : name = a
    · subst n; simp [h2, findL]
    · have n2 : ¬ a = name := fun h => n h.symm
      simp [findL, n, n2]
  · have hp : posIn l a = ((0 + j : Nat) : Int) := h1
    rw [if_neg (by rw [hp]; omega), hp]
    have hj : j < l.length := by
      rcases Nat.lt_or_ge j l.length with c | c
      · exact c
      · rw [List.getElem?_eq_none c] at h2
        rw [← h2] at h3
        simp at h3
    have hx := h4 _ (fileAt_eq l j hj)
    have h5 := findL_set name l j (fileAt l j) data (fileAt_eq l j hj) (fun i y hi hy => by rw [hx]; exact posFrom_before a l 0 j h1 i y hi hy)
    rw [hx] at h5
    show findL (l.set (0 + j) (a, data)) name = _
    rw [Nat.zero_add]
    exact h5
end Go.Proofs.YthhbpebihgjpjaaGreatDoor

namespace Go.Proofs.YthhbpebihgjpjaaGreatDoor
open Go.RowKit Go.MuLone Go.Maps
set_option maxRecDepth 1000000

/-- How a file of the program's map reads. -/
def fileElem : Value → Option (DataW Unit × List MemPlace)
  | .agg cs => match cs.toList with
    | [.string s] => some (.lit (.string s.data.toList), [])
    | _ => none
  | _ => none
theorem fileElem_mk (s : ByteArray) : fileElem (.agg #[.string s]) = some (.lit (.string s.data.toList), []) := rfl
theorem fileElem_inv {v : Value} {z : DataW Unit × List MemPlace} (h : fileElem v = some z) : ∃ s : ByteArray, v = .agg #[.string s] ∧ z = (.lit (.string s.data.toList), []) := by
  unfold fileElem at h
  split at h
  · rename_i cs
    split at h
    · rename_i s hs
      refine ⟨s, ?_, (Option.some.inj h).symm⟩
      congr 1
      apply Array.toList_inj.1
      rw [hs]
    · cases h
  · cases h
theorem lawS : Keyed Tryz.prog 9 := string_keyed Tryz.underlying9
theorem zeroF (w : World) : (zeroValue 117).run Tryz.prog w = .ok (.agg #[.string ⟨#[]⟩]) w := Tryz.zeroValue117 w
def keyLit (name : ByteArray) : Lit := .string name.data.toList
theorem keyLit_inj {a b : ByteArray} (h : keyLit a = keyLit b) : a = b := by
  unfold keyLit at h
  injection h with h
  exact ByteArray.ext (Array.toList_inj.1 h)
theorem keyOf_name (name : ByteArray) (h : name.size ≤ maxLen) : keyOf Tryz.prog 9 (.string name) = some (keyLit name) := WideMaps.keyOf_string_mk Tryz.underlying9 h
/-- The map and the document's list hold the same. -/
structure MapHolds (D : DataW Unit) (l : List FileV) : Prop where
  has : ∀ name, Maps.has D (keyLit name) = (findL l name).isSome
  at' : ∀ name, D.atKey (keyLit name) (.lit (.string [])) = .lit (.string ((findL l name).getD ⟨#[]⟩).data.toList)
theorem keyLit_ok (name : ByteArray) : WideAt.IsKeyLit (keyLit name) := trivial
theorem MapHolds.put {D : DataW Unit} {l : List FileV} (h : MapHolds D l) (hD : IsMap D) (a data : ByteArray) : MapHolds (D.put (keyLit a) (.lit (.string data.data.toList))) (putL l a data) := by
  refine ⟨fun name => ?_, fun name => ?_⟩
  · rw [findL_put]
    by_cases n : name = a
    · subst n; rw [if_pos rfl, has_put_same hD (keyLit_ok _)]; rfl
    · rw [if_neg n, has_put_other (fun e => n (keyLit_inj e))]; exact h.has name
  · rw [findL_put]
    by_cases n : name = a
    · subst n; rw [if_pos rfl, atKey_put_same hD (keyLit_ok _)]; rfl
    · rw [if_neg n, atKey_put_other (fun e => n (keyLit_inj e))]; exact h.at' name
theorem MapHolds.del {D : DataW Unit} {l : List FileV} (h : MapHolds D l) (a : ByteArray) : MapHolds (D.del (keyLit a)) (withoutL l a) := by
  refine ⟨fun name => ?_, fun name => ?_⟩
  · rw [findL_without]
    by_cases n : name = a
    · subst n; rw [if_pos rfl, has_del_same]; rfl
    · rw [if_neg n, has_del_other (fun e => n (keyLit_inj e))]; exact h.has name
  · rw [findL_without]
    by_cases n : name = a
    · subst n; rw [if_pos rfl, atKey_del_same]; rfl
    · rw [if_neg n, atKey_del_other (fun e => n (keyLit_inj e))]; exact h.at' name
theorem MapHolds.empty : MapHolds (.map []) [] := ⟨fun _ => rfl, fun _ => rfl⟩
def MapAt (w : World) (b : Nat) (n : Nat) (l : List FileV) : Prop := ∃ D, w.ownsMap Tryz.prog 9 fileElem b n D ∧ MapHolds D l
theorem MapAt.lt {w : World} {b n : Nat} {l : List FileV} (h : MapAt w b n l) : b < w.heap.size := let ⟨_, ho, _⟩ := h; ho.lt
theorem MapAt.keep {w w' : World} {b n : Nat} {l : List FileV} (h : MapAt w b n l) (e : w'.heap[b]? = w.heap[b]?) : MapAt w' b n l := by
  obtain ⟨D, ⟨es, clock, hb, r⟩, hh⟩ := h
  exact ⟨D, ⟨es, clock, e.trans hb, r⟩, hh⟩
theorem MapAt.look {w : World} {b n : Nat} {l : List FileV} (h : MapAt w b n l) (name : ByteArray) (hn : name.size ≤ maxLen) : (Instr.lookup 85 (.map (some b)) (.string name) false).run Tryz.prog w = .ok (.agg #[.string (dataOf l name)]) w := by
  obtain ⟨D, ho, hh⟩ := h
  obtain ⟨v, ps, hrun, hv⟩ := ho.lookup lawS Tryz.underlying85 (zeroF w) (fileElem_mk ⟨#[]⟩) (keyOf_name name hn)
  obtain ⟨s, rfl, hz⟩ := fileElem_inv hv
  have e := hh.at' name
  have e2 : DataW.atKey D (keyLit name) (.lit (.string [])) = .lit (.string s.data.toList) := congrArg Prod.fst hz
  rw [e2] at e
  have e3 : s = dataOf l name := by
    injection e with e
    injection e with e
    rw [dataOf_find]
    exact ByteArray.ext (Array.toList_inj.1 e)
  rw [hrun, e3]
theorem MapAt.look_ok {w : World} {b n : Nat} {l : List FileV} (h : MapAt w b n l) (name : ByteArray) (hn : name.size ≤ maxLen) : (Instr.lookup 85 (.map (some b)) (.string name) true).run Tryz.prog w = .ok (.tuple #[.agg #[.string (dataOf l name)], .bool (decide (posIn l name ≠ -1))]) w := by
  obtain ⟨D, ho, hh⟩ := h
  obtain ⟨v, ps, hrun, hv⟩ := ho.look_ok lawS Tryz.underlying85 (zeroF w) (fileElem_mk ⟨#[]⟩) (keyOf_name name hn)
  obtain ⟨s, rfl, hz⟩ := fileElem_inv hv
  have e := hh.at' name
  have e2 : DataW.atKey D (keyLit name) (.lit (.string [])) = .lit (.string s.data.toList) := congrArg Prod.fst hz
  rw [e2] at e
  have e3 : s = dataOf l name := by
    injection e with e
    injection e with e
    rw [dataOf_find]
    exact ByteArray.ext (Array.toList_inj.1 e)
  rw [hrun, e3, hh.has name, posIn_find]

/-- A store: some world in which the map holds one file more, or another. -/
theorem MapAt.store {w : World} {b n : Nat} {l : List FileV} (h : MapAt w b n l) (hn : n < maxLen) (name data : ByteArray) (hk : name.size ≤ maxLen) :
    ∃ w', (Instr.mapUpdate 85 (.map (some b)) (.string name) (.agg #[.string data])).run Tryz.prog w = .ok () w' ∧ MapAt w' b (n + 1) (putL l name data) ∧ w.grownBy w' (some b) := by
  obtain ⟨D, ho, hh⟩ := h
  obtain ⟨w', hrun, ho', hg⟩ := ho.update lawS Tryz.underlying85 hn (keyOf_name name hk) (fileElem_mk data)
  exact ⟨w', hrun, ⟨_, ho', hh.put ho.isMap name data⟩, hg⟩
theorem MapAt.drop {w : World} {b n : Nat} {l : List FileV} (h : MapAt w b n l) (name : ByteArray) (hk : name.size ≤ maxLen) (ty : TypeId) :
    ∃ w', (Builtin.delete_ #[85, 9] ty #[.map (some b), .string name]).run Tryz.prog w = .ok (.tuple #[]) w' ∧ MapAt w' b n (withoutL l name) ∧ w.grownBy w' (some b) := by
  obtain ⟨D, ho, hh⟩ := h
  obtain ⟨w', hrun, ho', hg⟩ := ho.drop lawS Tryz.underlying85 (keyOf_name name hk) ty
  exact ⟨w', hrun, ⟨_, ho', hh.del name⟩, hg.grown⟩
theorem MapAt.made (w : World) : MapAt (w.alloc (.map #[] 0)) w.heap.size 0 [] := ⟨_, World.ownsMap_made w _ _ _, MapHolds.empty⟩

set_option maxHeartbeats 2000000 in
theorem has_any (name : ByteArray) (hn : name.size ≤ maxLen) (l : List FileV) (d : ProgD) (fb : Nat) (lk : Int) (nb sb n : Nat) (sv : Value) (w : World) (h : ProgRow w fb d lk nb sb sv) (hm : MapAt w nb n l) :
    Calls Tryz.prog 125 #[.pointer (some ⟨fb, 0, none⟩), .string name] w fun e w' => e = .returned (.bool (decide (posIn l name ≠ -1))) ∧ Below w.heap.size w w' := by
  have c3 : w.cell? ⟨fb, 3, none⟩ = some (.map (some nb)) := by rw [cell_of_row _ _ _ _ _ _ h]; rfl
  have hl := hm.look_ok name hn
  clear h hm
  generalize decide (posIn l name ≠ -1) = ok at *
  generalize dataOf l name = dt at *
  go_enter Tryz.func125, Tryz.ntmps125
  go_wp2
  go_ret
  exact ⟨rfl, (Below.refl _ _).alloc (Nat.le_refl _) _⟩
end Go.Proofs.YthhbpebihgjpjaaGreatDoor
