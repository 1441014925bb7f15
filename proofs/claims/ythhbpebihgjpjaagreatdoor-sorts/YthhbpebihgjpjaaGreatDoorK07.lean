import Derived.Test.YthhbpebihgjpjaaGreatDoorK06
namespace Go.Proofs.YthhbpebihgjpjaaGreatDoor
set_option maxRecDepth 1000000

/-- Each that was begun hangs on what is ahead of it on the stack; c: what is being walked for the uppermost. -/
def Chain (N : List (List Nat)) (o : List Nat) : Stk → Option Nat → Prop
  | [], _ => True
  | (p, l) :: k, c => (∃ d, N.getD p [] = d ++ (c.toList ++ l) ∧ ∀ n ∈ d, n ∈ o) ∧ Chain N o k (some p)
theorem Chain.more {N : List (List Nat)} {o o' : List Nat} (ho : ∀ n ∈ o, n ∈ o') : ∀ {k : Stk} {c : Option Nat}, Chain N o k c → Chain N o' k c
  | [], _, _ => trivial
  | (p, l) :: k, c, h => ⟨by obtain ⟨d, h1, h2⟩ := h.1; exact ⟨d, h1, fun n hn => ho n (h2 n hn)⟩, Chain.more ho h.2⟩
structure WInv (N : List (List Nat)) (G : Nat → Prop) (k : Stk) (s o : List Nat) : Prop where
  fits : Fits N k s
  two : ∀ p, s.getD p 0 = 2 ↔ p ∈ o
  one : ∀ p, s.getD p 0 = 1 ↔ p ∈ k.map (·.1)
  nd : o.Nodup
  ahead : ∀ i p, o[i]? = some p → ∀ n ∈ N.getD p [], n ∈ o.take i
  chain : Chain N o k none
  want : ∀ p, p ∈ o ∨ p ∈ k.map (·.1) → G p ∨ ∃ q, (q ∈ o ∨ q ∈ k.map (·.1)) ∧ p ∈ N.getD q []
theorem getD_set2 {N : List (List Nat)} {k : Stk} {s : List Nat} (h : Fits N k s) {p v i : Nat} (hp : p < N.length) : (s.set p v).getD i 0 = if i = p then v else s.getD i 0 := getD_set (by rw [h.len]; exact hp)
theorem ahead_snoc {N : List (List Nat)} {o : List Nat} {p : Nat} (h : ∀ i p, o[i]? = some p → ∀ n ∈ N.getD p [], n ∈ o.take i) (hp : ∀ n ∈ N.getD p [], n ∈ o) : ∀ i q, (o ++ [p])[i]? = some q → ∀ n ∈ N.getD q [], n ∈ (o ++ [p]).take i := by
  intro i q hq n hn
  rcases Nat.lt_or_ge i o.length with c | c
  · rw [List.getElem?_append_left c] at hq
    rw [List.take_append_of_le_length (Nat.le_of_lt c)]
    exact h i q hq n hn
  · rw [List.getElem?_append_right c] at hq
    have hi : i = o.length := by
      have := (List.getElem?_eq_some_iff.1 hq).1
      simp at this
      omega
    subst hi
    rw [Nat.sub_self] at hq
    obtain rfl : p = q := by simpa using hq
    rw [List.take_left]
    exact hp n hn
theorem WInv.pop {N : List (List Nat)} {G : Nat → Prop} {p : Nat} {k : Stk} {s o : List Nat} (h : WInv N G ((p, []) :: k) s o) (hk : p ∉ k.map (·.1)) : WInv N G k (s.set p 2) (o ++ [p]) := by
  have hp := (h.fits.stk (p, []) (List.mem_cons_self ..)).1
  have h1 : s.getD p 0 = 1 := (h.one p).2 (by simp)
  have hpo : p ∉ o := fun q => by have := (h.two p).2 q; omega
  obtain ⟨⟨d, hd, hdo⟩, hch⟩ := h.chain
  have hN : ∀ n ∈ N.getD p [], n ∈ o := fun n hn => hdo n (by rw [hd] at hn; simpa using hn)
  refine ⟨h.fits.pop.set hp (by decide), fun q => ?_, fun q => ?_, ?_, ahead_snoc h.ahead hN, ?_, fun q hq => ?_⟩
  · rw [getD_set2 h.fits hp]
    by_cases e : q = p
    · subst e; simp
    · rw [if_neg e, h.two q]; simp [e]
  · rw [getD_set2 h.fits hp]
    by_cases e : q = p
    · subst e; simp only [if_true]; exact ⟨fun e => absurd e (by decide), fun q => absurd q hk⟩
    · rw [if_neg e, h.one q]; simp [e]
  · exact List.nodup_append.2 ⟨h.nd, by simp, fun x hx y hy e => by obtain rfl := List.mem_singleton.1 hy; subst e; exact hpo hx⟩
  · have hmo : ∀ n ∈ o, n ∈ o ++ [p] := fun n hn => List.mem_append_left _ hn
    match k, hch with
    | [], _ => trivial
    | (q, l) :: k', hch =>
      obtain ⟨⟨d', hd', hdo'⟩, hch'⟩ := hch
      refine ⟨⟨d' ++ [p], by rw [hd']; simp, fun n hn => ?_⟩, Chain.more hmo hch'⟩
      rcases List.mem_append.1 hn with hn | hn
      · exact hmo n (hdo' n hn)
      · exact List.mem_append_right _ hn
  · have hor : ∀ q, (q ∈ o ++ [p] ∨ q ∈ k.map (·.1)) ↔ (q ∈ o ∨ q ∈ ((p, ([] : List Nat)) :: k).map (·.1)) := fun q => by
      rw [List.mem_append, List.mem_singleton, List.map_cons, List.mem_cons]
      exact ⟨fun h => h.elim (fun h => h.elim Or.inl (fun h => Or.inr (Or.inl h))) (fun h => Or.inr (Or.inr h)), fun h => h.elim (fun h => Or.inl (Or.inl h)) (fun h => h.elim (fun h => Or.inl (Or.inr h)) Or.inr)⟩
    rcases h.want q ((hor q).1 hq) with g | ⟨r, hr, hq2⟩
    · exact Or.inl g
    · exact Or.inr ⟨r, (hor r).2 hr, hq2⟩
theorem WInv.skip {N : List (List Nat)} {G : Nat → Prop} {p n : Nat} {l : List Nat} {k : Stk} {s o : List Nat} (h : WInv N G ((p, n :: l) :: k) s o) (h2 : s.getD n 0 = 2) : WInv N G ((p, l) :: k) s o := by
  obtain ⟨⟨d, hd, hdo⟩, hch⟩ := h.chain
  refine ⟨h.fits.skip, h.two, h.one, h.nd, h.ahead, ⟨⟨d ++ [n], by rw [hd]; simp, fun m hm => ?_⟩, hch⟩, h.want⟩
  rcases List.mem_append.1 hm with hm | hm
  · exact hdo m hm
  · obtain rfl := List.mem_singleton.1 hm; exact (h.two m).1 h2
theorem WInv.push {N : List (List Nat)} {G : Nat → Prop} {p n : Nat} {l : List Nat} {k : Stk} {s o : List Nat} (h : WInv N G ((p, n :: l) :: k) s o) (h0 : s.getD n 0 = 0) : WInv N G ((n, N.getD n []) :: (p, l) :: k) (s.set n 1) o := by
  have hn := (h.fits.stk (p, n :: l) (List.mem_cons_self ..)).2 n (List.mem_cons_self ..)
  obtain ⟨⟨d, hd, hdo⟩, hch⟩ := h.chain
  have hno : n ∉ o := fun q => by have := (h.two n).2 q; omega
  have hnk : n ∉ ((p, n :: l) :: k).map (·.1) := fun q => by have := (h.one n).2 q; omega
  refine ⟨(h.fits.skip.push hn).set hn (by decide), fun q => ?_, fun q => ?_, h.nd, h.ahead, ⟨⟨[], by simp, fun m hm => by cases hm⟩, ⟨d, by rw [hd]; simp, hdo⟩, hch⟩, fun q hq => ?_⟩
  · rw [getD_set2 h.fits hn]
    by_cases e : q = n
    · subst e; simp [hno]
    · rw [if_neg e, h.two q]
  · rw [getD_set2 h.fits hn]
    by_cases e : q = n
    · subst e; simp
    · rw [if_neg e, h.one q]; simp [e]
  · have hor : ∀ q, q ∈ o ∨ q ∈ ((p, n :: l) :: k).map (·.1) → q ∈ o ∨ q ∈ ((n, N.getD n []) :: (p, l) :: k).map (·.1) := fun q h => by simp at h ⊢; rcases h with h | h | h <;> simp [h]
    by_cases e : q = n
    · subst e
      exact Or.inr ⟨p, Or.inr (by simp), by rw [hd]; simp⟩
    · have hq' : q ∈ o ∨ q ∈ ((p, n :: l) :: k).map (·.1) := by simp at hq ⊢; rcases hq with h | h | h | h <;> simp_all
      rcases h.want q hq' with g | ⟨r, hr, hq2⟩
      · exact Or.inl g
      · exact Or.inr ⟨r, hor r hr, hq2⟩
/-- Whatever the walk tells, the order keeps; it loses none. -/
theorem walkM_keeps (N : List (List Nat)) (G : Nat → Prop) : ∀ (f : Nat) (k : Stk) (s o : List Nat), WInv N G k s o → (k.map (·.1)).Nodup → workM N k s < f → (∀ p ∈ o, p ∈ (walkM N f k s o).2.2) ∧ ((walkM N f k s o).1 = true → WInv N G [] (walkM N f k s o).2.1 (walkM N f k s o).2.2 ∧ ∀ p ∈ k.map (·.1), p ∈ (walkM N f k s o).2.2)
  | 0, _, _, _, _, _, h => absurd h (Nat.not_lt_zero _)
  | _ + 1, [], s, o, hi, _, _ => ⟨fun p hp => hp, fun _ => ⟨hi, fun p hp => by cases hp⟩⟩
  | f + 1, (p, []) :: k, s, o, hi, hk, hf => by
    have hw := work_pop N p k s
    have hk' := List.nodup_cons.1 hk
    have ih := walkM_keeps N G f k (s.set p 2) (o ++ [p]) (hi.pop hk'.1) hk'.2 (by omega)
    refine ⟨fun q hq => ih.1 q (List.mem_append_left _ hq), fun ht => ⟨(ih.2 ht).1, fun q hq => ?_⟩⟩
    rcases List.mem_cons.1 hq with e | hq
    · exact ih.1 q (List.mem_append_right _ (by rw [e]; simp))
    · exact (ih.2 ht).2 q hq
  | f + 1, (p, n :: l) :: k, s, o, hi, hk, hf => by
    have hn := (hi.fits.stk (p, n :: l) (List.mem_cons_self ..)).2 n (List.mem_cons_self ..)
    have hun : walkM N (f + 1) ((p, n :: l) :: k) s o = if s.getD n 0 = 1 then (false, s, o) else if s.getD n 0 = 2 then walkM N f ((p, l) :: k) s o else walkM N f ((n, N.getD n []) :: (p, l) :: k) (s.set n 1) o := rfl
    rw [hun]
    by_cases a : s.getD n 0 = 1
    · rw [if_pos a]
      exact ⟨fun q hq => hq, fun ht => by cases ht⟩
    · rw [if_neg a]
      by_cases b : s.getD n 0 = 2
      · rw [if_pos b]
        have hw := work_skip N p n l k s
        exact walkM_keeps N G f _ s o (hi.skip b) hk (by omega)
      · rw [if_neg b]
        have h0 : s.getD n 0 = 0 := by have := hi.fits.three n; omega
        have hw := work_push N p n l k s (by rw [hi.fits.len]; exact hn) h0
        have hnk : n ∉ ((p, n :: l) :: k).map (·.1) := fun q => by have := (hi.one n).2 q; omega
        have ih := walkM_keeps N G f _ (s.set n 1) o (hi.push h0) (List.nodup_cons.2 ⟨hnk, hk⟩) (by omega)
        exact ⟨ih.1, fun ht => ⟨(ih.2 ht).1, fun q hq => (ih.2 ht).2 q (List.mem_cons_of_mem _ hq)⟩⟩
theorem WInv.start {N : List (List Nat)} {G : Nat → Prop} {p : Nat} {s o : List Nat} (h : WInv N G [] s o) (hp : p < N.length) (h2 : s.getD p 0 ≠ 2) (hG : G p) : WInv N G [(p, N.getD p [])] (s.set p 1) o := by
  have h0 : s.getD p 0 = 0 := by
    have h1 : s.getD p 0 ≠ 1 := fun e => by have := (h.one p).1 e; simp at this
    have := h.fits.three p
    omega
  have hpo : p ∉ o := fun q => h2 ((h.two p).2 q)
  refine ⟨(h.fits.push hp).set hp (by decide), fun q => ?_, fun q => ?_, h.nd, h.ahead, ⟨⟨[], by simp, fun m hm => by cases hm⟩, trivial⟩, fun q hq => ?_⟩
  · rw [getD_set2 h.fits hp]
    by_cases e : q = p
    · subst e; simp [hpo]
    · rw [if_neg e, h.two q]
  · rw [getD_set2 h.fits hp]
    by_cases e : q = p
    · subst e; simp
    · rw [if_neg e, h.one q]; simp [e]
  · rcases hq with hq | hq
    · rcases h.want q (Or.inl hq) with g | ⟨r, hr, hq2⟩
      · exact Or.inl g
      · rcases hr with hr | hr
        · exact Or.inr ⟨r, Or.inl hr, hq2⟩
        · simp at hr
    · have e : q = p := by simpa using hq
      rw [e]; exact Or.inl hG
/-- A visit. -/
theorem visit_keeps {N : List (List Nat)} {G : Nat → Prop} {p : Nat} {s o : List Nat} (h : WInv N G [] s o) (hp : p < N.length) (hG : G p) : (∀ q ∈ o, q ∈ (visitS N p s o).2.2) ∧ ((visitS N p s o).1 = true → WInv N G [] (visitS N p s o).2.1 (visitS N p s o).2.2 ∧ p ∈ (visitS N p s o).2.2) := by
  unfold visitS
  by_cases h2 : s.getD p 0 = 2
  · rw [if_pos h2]
    exact ⟨fun q hq => hq, fun _ => ⟨h, (h.two p).1 h2⟩⟩
  · rw [if_neg h2]
    have hk := walkM_keeps N G _ _ _ o (h.start hp h2 hG) (by simp) (Nat.lt_succ_self (workM N [(p, N.getD p [])] (s.set p 1)))
    exact ⟨hk.1, fun ht => ⟨(hk.2 ht).1, (hk.2 ht).2 p (by simp)⟩⟩
/-- What each hangs on is less. -/
def Ranked (N : List (List Nat)) (r : Nat → Nat) : Prop := ∀ p, ∀ n ∈ N.getD p [], r n < r p
theorem Chain.less {N : List (List Nat)} {o : List Nat} {r : Nat → Nat} (hr : Ranked N r) : ∀ {k : Stk} {c : Nat}, Chain N o k (some c) → ∀ q ∈ k.map (·.1), r c < r q
  | [], _, _, q, hq => by cases hq
  | (p, l) :: k, c, h, q, hq => by
    obtain ⟨⟨d, hd, _⟩, hch⟩ := h
    have h1 : r c < r p := hr p c (by rw [hd]; simp)
    rcases List.mem_cons.1 hq with e | hq
    · rw [e]; exact h1
    · exact Nat.lt_trans h1 (Chain.less hr hch q hq)
theorem walkM_true (N : List (List Nat)) (G : Nat → Prop) {r : Nat → Nat} (hr : Ranked N r) : ∀ (f : Nat) (k : Stk) (s o : List Nat), WInv N G k s o → (k.map (·.1)).Nodup → workM N k s < f → (walkM N f k s o).1 = true
  | 0, _, _, _, _, _, h => absurd h (Nat.not_lt_zero _)
  | _ + 1, [], s, o, _, _, _ => rfl
  | f + 1, (p, []) :: k, s, o, hi, hk, hf => by
    have hw := work_pop N p k s
    have hk' := List.nodup_cons.1 hk
    exact walkM_true N G hr f k (s.set p 2) (o ++ [p]) (hi.pop hk'.1) hk'.2 (by omega)
  | f + 1, (p, n :: l) :: k, s, o, hi, hk, hf => by
    have hn := (hi.fits.stk (p, n :: l) (List.mem_cons_self ..)).2 n (List.mem_cons_self ..)
    have hun : walkM N (f + 1) ((p, n :: l) :: k) s o = if s.getD n 0 = 1 then (false, s, o) else if s.getD n 0 = 2 then walkM N f ((p, l) :: k) s o else walkM N f ((n, N.getD n []) :: (p, l) :: k) (s.set n 1) o := rfl
    rw [hun]
    have a : ¬ s.getD n 0 = 1 := fun a => by
      have hm := (hi.one n).1 a
      obtain ⟨⟨d, hd, _⟩, hch⟩ := hi.chain
      have h1 : r n < r p := hr p n (by rw [hd]; simp)
      rcases List.mem_cons.1 hm with e | hm
      · have e : n = p := e
        rw [e] at h1; exact Nat.lt_irrefl _ h1
      · have := Chain.less hr hch n hm
        omega
    rw [if_neg a]
    by_cases b : s.getD n 0 = 2
    · rw [if_pos b]
      have hw := work_skip N p n l k s
      exact walkM_true N G hr f _ s o (hi.skip b) hk (by omega)
    · rw [if_neg b]
      have h0 : s.getD n 0 = 0 := by have := hi.fits.three n; omega
      have hw := work_push N p n l k s (by rw [hi.fits.len]; exact hn) h0
      have hnk : n ∉ ((p, n :: l) :: k).map (·.1) := fun q => by have := (hi.one n).2 q; omega
      exact walkM_true N G hr f _ (s.set n 1) o (hi.push h0) (List.nodup_cons.2 ⟨hnk, hk⟩) (by omega)
theorem visit_true {N : List (List Nat)} {G : Nat → Prop} {r : Nat → Nat} (hr : Ranked N r) {p : Nat} {s o : List Nat} (h : WInv N G [] s o) (hp : p < N.length) (hG : G p) : (visitS N p s o).1 = true := by
  unfold visitS
  by_cases h2 : s.getD p 0 = 2
  · rw [if_pos h2]
  · rw [if_neg h2]
    exact walkM_true N G hr _ _ _ o (h.start hp h2 hG) (by simp) (Nat.lt_succ_self _)
theorem winv_zeros {N : List (List Nat)} (G : Nat → Prop) (hN : ∀ i, ∀ n ∈ N.getD i [], n < N.length) : WInv N G [] (zerosS N.length) [] := by
  have hz : ∀ p, (zerosS N.length).getD p 0 = 0 := fun p => by
    unfold zerosS
    rw [List.getD_eq_getElem?_getD, List.getElem?_replicate]
    split <;> rfl
  refine ⟨⟨by simp [zerosS], fun i => by rw [hz]; decide, fun x hx => (by cases hx), hN⟩, fun p => ?_, fun p => ?_, List.nodup_nil, fun i p h => by simp at h, trivial, fun p hp => ?_⟩
  · rw [hz]; simp
  · rw [hz]; simp
  · simp at hp
theorem runs_all {N : List (List Nat)} : ∀ (ps s o : List Nat), WInv N (fun _ => True) [] s o → (∀ p ∈ ps, p < N.length) → runsS N ps s o = true → ∃ s' o', WInv N (fun _ => True) [] s' o' ∧ (∀ p ∈ ps, p ∈ o') ∧ ∀ p ∈ o, p ∈ o'
  | [], s, o, h, _, _ => ⟨s, o, h, fun p hp => (by cases hp), fun p hp => hp⟩
  | p :: ps, s, o, h, hp, hr => by
    have hpl := hp p (List.mem_cons_self ..)
    have hv := visit_keeps h hpl trivial
    unfold runsS at hr
    split at hr
    · rename_i ht
      obtain ⟨s', o', h1, h2, h3⟩ := runs_all ps _ _ (hv.2 ht).1 (fun q hq => hp q (List.mem_cons_of_mem _ hq)) hr
      refine ⟨s', o', h1, fun q hq => ?_, fun q hq => h3 q (hv.1 q hq)⟩
      rcases List.mem_cons.1 hq with rfl | hq
      · exact h3 q (hv.2 ht).2
      · exact h2 q hq
    · cases hr
theorem idxOf_le : ∀ (l : List Nat) (j n : Nat), l[j]? = some n → l.idxOf n ≤ j
  | [], j, n, h => by simp at h
  | x :: l, 0, n, h => by
    have e : x = n := by simpa using h
    subst e
    simp
  | x :: l, j + 1, n, h => by
    have := idxOf_le l j n (by simpa using h)
    rw [List.idxOf_cons]
    by_cases e : (x == n) = true
    · rw [e]; simp
    · rw [Bool.eq_false_iff.2 e]; simp only [cond_false]; omega
/-- No edge hangs on itself: there is a rank. -/
theorem ranked_of_runs {N : List (List Nat)} (hN : ∀ i, ∀ n ∈ N.getD i [], n < N.length) (h : runsS N (List.range N.length) (zerosS N.length) [] = true) : ∃ r, Ranked N r := by
  obtain ⟨s', o', h1, h2, _⟩ := runs_all _ _ _ (winv_zeros _ hN) (fun p hp => List.mem_range.1 hp) h
  refine ⟨fun p => o'.idxOf p, fun p n hn => ?_⟩
  have hp : p < N.length := by
    rcases Nat.lt_or_ge p N.length with c | c
    · exact c
    · rw [List.getD_eq_getElem?_getD, List.getElem?_eq_none c] at hn; cases hn
  have hpo := h2 p (List.mem_range.2 hp)
  have hi : o'.idxOf p < o'.length := List.idxOf_lt_length_of_mem hpo
  have hat : o'[o'.idxOf p]? = some p := by
    rw [List.getElem?_eq_getElem hi, List.getElem_idxOf hi]
  have hm := h1.ahead _ p hat n hn
  obtain ⟨j, hj, he⟩ := List.mem_take_iff_getElem.1 hm
  have hjl : j < o'.idxOf p := by omega
  have hle : o'.idxOf n ≤ j := idxOf_le o' j n (by rw [List.getElem?_eq_getElem (by omega), he])
  show o'.idxOf n < o'.idxOf p
  omega
theorem walks_keeps {N : List (List Nat)} {G : Nat → Prop} {r : Nat → Nat} (hr : Ranked N r) {mk : ByteArray → Option Nat} : ∀ (xs : List ByteArray) (s o o' : List Nat), WInv N G [] s o → (∀ x ∈ xs, ∀ p, mk x = some p → p < N.length ∧ G p) → walksS N mk xs s o = some o' → ∃ s', WInv N G [] s' o' ∧ (∀ x ∈ xs, ∃ p, mk x = some p ∧ p ∈ o') ∧ ∀ p ∈ o, p ∈ o'
  | [], s, o, o', h, _, hw => by
    injection hw with hw
    subst hw
    exact ⟨s, h, fun x hx => (by cases hx), fun p hp => hp⟩
  | x :: xs, s, o, o', h, hx, hw => by
    unfold walksS at hw
    split at hw
    · cases hw
    · rename_i p hmk
      obtain ⟨hpl, hG⟩ := hx x (List.mem_cons_self ..) p hmk
      have hv := visit_keeps h hpl hG
      have hv2 := hv.2 (visit_true hr h hpl hG)
      obtain ⟨s', h1, h2, h3⟩ := walks_keeps hr xs _ _ o' hv2.1 (fun y hy => hx y (List.mem_cons_of_mem _ hy)) hw
      refine ⟨s', h1, fun y hy => ?_, fun q hq => h3 q (hv.1 q hq)⟩
      rcases List.mem_cons.1 hy with rfl | hy
      · exact ⟨p, hmk, h3 p hv2.2⟩
      · exact h2 y hy
end Go.Proofs.YthhbpebihgjpjaaGreatDoor
