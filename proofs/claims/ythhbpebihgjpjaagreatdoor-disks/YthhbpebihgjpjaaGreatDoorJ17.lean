import Derived.Test.YthhbpebihgjpjaaGreatDoorJ12
import Derived.Test.YthhbpebihgjpjaaGreatDoorJ09
namespace Go.Proofs.YthhbpebihgjpjaaGreatDoor
open Go.RowKit Go.MuLone Go.Maps
set_option maxRecDepth 1000000

theorem less_lex : ∀ (x y : List UInt8), Op.bytesLess x y = decide (x < y) := by
  intro x
  induction x with
  | nil => intro y; cases y <;> simp [Op.bytesLess]
  | cons a x ih =>
    intro y
    cases y with
    | nil => simp [Op.bytesLess]
    | cons b y =>
      rw [Op.bytesLess, ih y]
      simp only [List.cons_lt_cons_iff, Bool.decide_or, Bool.decide_and]
      rfl
theorem lessT_iff (a b : ByteArray) : lessT a b = true ↔ a.data.toList < b.data.toList := by
  rw [lessT, less_lex, ByteArray.toList_eq, ByteArray.toList_eq, decide_eq_true_eq]
theorem bytes_ext {a b : ByteArray} (h : a.data.toList = b.data.toList) : a = b := by
  cases a; cases b; congr; exact Array.ext' h
theorem lessT_trans {a b c : ByteArray} (h : lessT a b = true) (h2 : lessT b c = true) : lessT a c = true := by
  rw [lessT_iff] at *; exact List.lt_trans h h2
theorem lessT_total {a b : ByteArray} (h : ¬ lessT a b = true) (hne : a ≠ b) : lessT b a = true := by
  rw [lessT_iff] at *
  rcases List.le_iff_lt_or_eq.1 (List.not_lt.1 h) with h2 | h2
  · exact h2
  · exact absurd (bytes_ext h2.symm) hne

/-- The names rise. -/
def SortL (l : List FileV) : Prop := l.Pairwise (fun x y => lessT x.1 y.1 = true)
theorem SortL.distinct {l : List FileV} (h : SortL l) : DistinctL l := h.imp (fun h => lessT_ne h)

theorem fileAt_mid (p : List FileV) (x : FileV) (r : List FileV) : fileAt (p ++ x :: r) p.length = x := by simp [fileAt]
theorem bubble_at (x : FileV) : ∀ (n : Nat) (p r : List FileV), p.length = n → ∃ a b, p = a ++ b ∧ bubble (p ++ x :: r) p.length = a ++ x :: (b ++ r) ∧ (∀ y ∈ b, lessT x.1 y.1 = true) ∧ (∀ y q, a = q ++ [y] → ¬ lessT x.1 y.1 = true) := by
  intro n
  induction n with
  | zero =>
    intro p r hp
    obtain rfl : p = [] := List.eq_nil_of_length_eq_zero hp
    exact ⟨[], [], rfl, rfl, fun y hy => (by cases hy), fun y q e => absurd e (by simp)⟩
  | succ n ih =>
    intro p r hp
    obtain ⟨q, y, rfl⟩ : ∃ q y, p = q ++ [y] := ⟨p.dropLast, p.getLast (by intro e; subst e; cases hp), (List.dropLast_concat_getLast _).symm⟩
    have hq : q.length = n := by simpa using hp
    have e1 : fileAt (q ++ [y] ++ x :: r) (q.length + 1) = x := by
      have := fileAt_mid (q ++ [y]) x r
      simpa using this
    have e2 : fileAt (q ++ [y] ++ x :: r) q.length = y := by
      have := fileAt_mid q y (x :: r)
      simpa using this
    have e3 : (q ++ [y]).length = q.length + 1 := by simp
    rw [e3, bubble, e1, e2]
    by_cases h : lessT x.1 y.1 = true
    · rw [if_pos h]
      have e4 : ((q ++ [y] ++ x :: r).set (q.length + 1) y).set q.length x = q ++ x :: (y :: r) := by
        apply List.ext_getElem?
        intro i
        simp only [List.getElem?_set, List.getElem?_append, List.length_append, List.length_cons, List.length_set, List.length_nil]
        rcases Nat.lt_trichotomy i q.length with c | c | c
        · simp [c, show ¬ q.length = i by omega, show ¬ q.length + 1 = i by omega, show i < q.length + 1 by omega]
        · subst c; simp; omega
        · obtain ⟨j, rfl⟩ : ∃ j, i = q.length + (j + 1) := ⟨i - q.length - 1, by omega⟩
          cases j with
          | zero => simp
          | succ j => simp [show ¬ q.length + (j + 1 + 1) < q.length by omega, show ¬ q.length + (j + 1 + 1) < q.length + 1 by omega, show q.length + (j + 1 + 1) - (q.length + 1) = j + 1 by omega, show q.length + (j + 1 + 1) - q.length = j + 2 by omega]
      rw [e4]
      obtain ⟨a, b, h1, h2, h3, h4⟩ := ih q (y :: r) hq
      refine ⟨a, b ++ [y], by rw [h1, List.append_assoc], by rw [h2]; simp, fun z hz => ?_, h4⟩
      rcases List.mem_append.1 hz with hz | hz
      · exact h3 z hz
      · rw [List.mem_singleton.1 hz]; exact h
    · rw [if_neg h]
      refine ⟨q ++ [y], [], by simp, by simp, fun z hz => (by cases hz), fun z q' e => ?_⟩
      have := (List.append_inj' e rfl).2
      simp at this
      rw [← this]; exact h
/-- A new file comes to stand somewhere. -/
theorem put_new (l : List FileV) (name data : ByteArray) (h : posIn l name = -1) : ∃ a b, l = a ++ b ∧ putL l name data = a ++ (name, data) :: b ∧ (∀ y ∈ b, lessT name y.1 = true) ∧ (∀ y q, a = q ++ [y] → ¬ lessT name y.1 = true) := by
  obtain ⟨a, b, h1, h2, h3, h4⟩ := bubble_at (name, data) l.length l [] rfl
  exact ⟨a, b, h1, by rw [putL, if_pos h, h2]; simp, h3, h4⟩
theorem put_old (l : List FileV) (name data : ByteArray) (h : posIn l name ≠ -1) : ∃ a b old, l = a ++ (name, old) :: b ∧ putL l name data = a ++ (name, data) :: b := by
  rcases posIn_cases l name with ⟨j, x, h1, h2, h3⟩ | ⟨h1, _⟩
  · obtain ⟨hj, hx⟩ := List.getElem?_eq_some_iff.1 h2
    refine ⟨l.take j, l.drop (j + 1), x.2, ?_, ?_⟩
    · have : x = (name, x.2) := by rw [← h3]
      rw [← this, ← hx, ← List.drop_eq_getElem_cons hj, List.take_append_drop]
    · rw [putL, if_neg h, h1, Int.toNat_natCast, List.set_eq_take_append_cons_drop, if_pos hj]
  · exact absurd h1 h
theorem posIn_none (l : List FileV) (name : ByteArray) (h : posIn l name = -1) : ∀ x ∈ l, x.1 ≠ name := by
  rcases posIn_cases l name with ⟨j, x, h1, _, _⟩ | ⟨_, h2⟩
  · rw [h1] at h; omega
  · exact h2
theorem SortL.put {l : List FileV} (h : SortL l) (name data : ByteArray) : SortL (putL l name data) := by
  by_cases hp : posIn l name = -1
  · obtain ⟨a, b, rfl, h2, h3, h4⟩ := put_new l name data hp
    have hn := posIn_none _ _ hp
    rw [h2]
    obtain ⟨ha, hb, hab⟩ := List.pairwise_append.1 h
    have hax : ∀ y ∈ a, lessT y.1 name = true := by
      intro y hy
      have hane : a ≠ [] := by rintro rfl; cases hy
      have e : a = a.dropLast ++ [a.getLast hane] := (List.dropLast_concat_getLast hane).symm
      have hl : lessT (a.getLast hane).1 name = true := lessT_total (h4 _ _ e) (fun q => hn _ (by simp) q.symm)
      rw [e] at hy
      rcases List.mem_append.1 hy with hy | hy
      · rw [e] at ha
        exact lessT_trans ((List.pairwise_append.1 ha).2.2 y hy _ (by simp)) hl
      · rw [List.mem_singleton.1 hy]; exact hl
    refine List.pairwise_append.2 ⟨ha, List.pairwise_cons.2 ⟨h3, hb⟩, fun y hy z hz => ?_⟩
    rcases List.mem_cons.1 hz with rfl | hz
    · exact hax y hy
    · exact hab y hy z hz
  · obtain ⟨a, b, old, rfl, h2⟩ := put_old l name data hp
    rw [h2]
    obtain ⟨ha, hb, hab⟩ := List.pairwise_append.1 h
    refine List.pairwise_append.2 ⟨ha, List.pairwise_cons.2 ⟨(List.pairwise_cons.1 hb).1, (List.pairwise_cons.1 hb).2⟩, fun y hy z hz => ?_⟩
    rcases List.mem_cons.1 hz with rfl | hz
    · exact hab y hy (name, old) (List.mem_cons_self ..)
    · exact hab y hy z (List.mem_cons_of_mem _ hz)
theorem SortL.without {l : List FileV} (h : SortL l) (name : ByteArray) : SortL (withoutL l name) := h.sublist List.filter_sublist
theorem SortL.apply {l : List FileV} (h : SortL l) (o : WaitV) : SortL (applyL l o) := by
  unfold applyL
  split
  · exact h.put _ _
  · split
    · exact h.put _ _
    · split
      · exact (h.without _).put _ _
      · exact h.without _

theorem total_cons (x : FileV) (l : List FileV) : totalBytes (x :: l) = x.2.size + totalBytes l := by simp [totalBytes, goneBytes]
theorem dataOf_mid (a b : List FileV) (name old : ByteArray) (h : DistinctL (a ++ (name, old) :: b)) : dataOf (a ++ (name, old) :: b) name = old := by
  rw [dataOf_find, findL_append, findL_absent a name (fun x hx => (List.pairwise_append.1 h).2.2 x hx _ (List.mem_cons_self ..))]
  simp [findL]
theorem dataOf_none (l : List FileV) (name : ByteArray) (h : posIn l name = -1) : dataOf l name = ⟨#[]⟩ := by
  rw [dataOf_find, findL_absent l name (posIn_none l name h)]; rfl
theorem total_put (l : List FileV) (h : DistinctL l) (name data : ByteArray) : totalBytes (putL l name data) + (dataOf l name).size = totalBytes l + data.size := by
  by_cases hp : posIn l name = -1
  · rw [dataOf_none l name hp]
    obtain ⟨a, b, rfl, h2, _, _⟩ := put_new l name data hp
    rw [h2, total_append, total_append, total_cons]
    have : (⟨#[]⟩ : ByteArray).size = 0 := rfl
    simp only
    omega
  · obtain ⟨a, b, old, rfl, h2⟩ := put_old l name data hp
    rw [dataOf_mid a b name old h, h2, total_append, total_append, total_cons, total_cons]
    simp only
    omega
theorem without_none (l : List FileV) (name : ByteArray) (h : ∀ x ∈ l, x.1 ≠ name) : withoutL l name = l := by
  unfold withoutL
  rw [List.filter_eq_self]
  intro x hx
  simpa using h x hx
theorem total_without (l : List FileV) (h : DistinctL l) (name : ByteArray) : totalBytes (withoutL l name) + (dataOf l name).size = totalBytes l := by
  by_cases hp : posIn l name = -1
  · rw [dataOf_none l name hp, without_none l name (posIn_none l name hp)]
    rfl
  · obtain ⟨a, b, old, rfl, _⟩ := put_old l name name hp
    obtain ⟨ha, hb, hab⟩ := List.pairwise_append.1 h
    rw [dataOf_mid a b name old h]
    have e : withoutL (a ++ (name, old) :: b) name = a ++ b := by
      unfold withoutL
      rw [List.filter_append, List.filter_cons, if_neg (by simp)]
      have h1 := without_none a name (fun x hx => hab x hx _ (List.mem_cons_self ..))
      have h2 := without_none b name (fun x hx e => (List.pairwise_cons.1 hb).1 x hx e.symm)
      unfold withoutL at h1 h2
      rw [h1, h2]
    rw [e, total_append, total_append, total_cons]
    simp only
    omega
theorem data_le (l : List FileV) : ∀ x ∈ l, x.2.size ≤ totalBytes l := by
  induction l with
  | nil => intro x hx; cases hx
  | cons y r ih =>
    intro x hx
    rw [total_cons]
    rcases List.mem_cons.1 hx with rfl | hx
    · omega
    · have := ih x hx; omega
theorem fileAt_le (l : List FileV) (i : Nat) : (fileAt l i).2.size ≤ totalBytes l := by
  unfold fileAt
  rw [List.getD_eq_getElem?_getD]
  cases h : l[i]? with
  | none => exact Nat.zero_le _
  | some x => exact data_le l x (List.mem_of_getElem? h)
theorem dataOf_le (l : List FileV) (name : ByteArray) : (dataOf l name).size ≤ totalBytes l := by
  unfold dataOf
  split
  · exact Nat.zero_le _
  · exact fileAt_le l _
theorem putL_len (l : List FileV) (name data : ByteArray) : (putL l name data).length ≤ l.length + 1 := by
  by_cases hp : posIn l name = -1
  · obtain ⟨a, b, rfl, h2, _, _⟩ := put_new l name data hp
    rw [h2]; simp; omega
  · obtain ⟨a, b, old, rfl, h2⟩ := put_old l name data hp
    rw [h2]; simp
theorem applyL_len (l : List FileV) (o : WaitV) : (applyL l o).length ≤ l.length + 1 := by
  unfold applyL
  split
  · exact putL_len _ _ _
  · split
    · exact putL_len _ _ _
    · split
      · exact Nat.le_trans (putL_len _ _ _) (Nat.succ_le_succ (withoutL_le _ _))
      · exact Nat.le_succ_of_le (withoutL_le _ _)
end Go.Proofs.YthhbpebihgjpjaaGreatDoor
