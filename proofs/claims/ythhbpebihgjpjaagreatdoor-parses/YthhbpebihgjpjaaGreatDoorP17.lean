import Derived.Test.YthhbpebihgjpjaaGreatDoorP06
import Derived.Test.YthhbpebihgjpjaaGreatDoorP09
import Derived.Test.YthhbpebihgjpjaaGreatDoorP16
namespace Go.Proofs.YthhbpebihgjpjaaGreatDoor
set_option maxRecDepth 1000000

theorem spanL_append (p : Nat → Bool) : ∀ (l r : List UInt8), spanL p (l ++ r) = if spanL p l = l.length then l.length + spanL p r else spanL p l
 | [], r => by
  rw [List.nil_append, if_pos (show spanL p [] = ([] : List UInt8).length from rfl)]
  exact (Nat.zero_add _).symm
 | c :: l, r => by
  rw [List.cons_append, spanL, spanL]
  by_cases h : p c.toNat = true
  ·rw [if_pos h, if_pos h, spanL_append p l r, List.length_cons]
   by_cases h2 : spanL p l = l.length
   ·rw [if_pos h2, if_pos (by omega)]; omega
   ·rw [if_neg h2, if_neg (by omega)]
  ·rw [if_neg h, if_neg h, if_neg (by rw [List.length_cons]; omega)]
theorem dolL_append (a b : List UInt8) : dolL (a ++ b) = if dolL b = b.length then b.length + dolL a else dolL b := by
 unfold dolL
 rw [List.reverse_append, spanL_append, List.length_reverse]
theorem dolL_blanks : ∀ l : List UInt8, (∀ c ∈ l, c = 32) → dolL l = 0 := by
 intro l h
 unfold dolL
 cases hr : l.reverse with
 | nil => rfl
 | cons c r =>
  have hc : c ∈ l := by rw [← List.mem_reverse, hr]; exact List.mem_cons_self
  rw [spanL, h c hc]
  rfl
theorem leftB_list (t : ByteArray) : (leftB t).data.toList = t.data.toList.dropWhile fun c => isBl c.toNat := by
 unfold leftB blankLen spanLen
 rw [extract_list, spanL_drop]
theorem blanks_split : ∀ l : List UInt8, ∃ k, l = k ++ l.dropWhile (fun c => isBl c.toNat) ∧ ∀ c ∈ k, c = 32
 | [] => ⟨[], rfl, fun c hc => by cases hc⟩
 | d :: l => by
  by_cases hd : isBl d.toNat = true
  ·obtain ⟨k, hk, hb⟩ := blanks_split l
   refine ⟨d :: k, ?_, fun c hc => ?_⟩
   ·rw [List.dropWhile_cons, if_pos hd]
    conv => lhs; rw [hk]
    rfl
   ·rcases List.mem_cons.1 hc with rfl | hc
    ·unfold isBl at hd
     simp only [beq_iff_eq] at hd
     exact UInt8.toNat_inj.1 hd
    ·exact hb c hc
  ·exact ⟨[], by rw [List.dropWhile_cons, if_neg hd]; rfl, fun c hc => by cases hc⟩
theorem dol_left (x : ByteArray) : dolB (leftB x) = dolB x := by
 unfold dolB
 rw [leftB_list]
 obtain ⟨k, hk, hb⟩ := blanks_split x.data.toList
 conv => rhs; rw [hk]
 rw [dolL_append, dolL_blanks k hb]
 split <;> omega
theorem odd_left (x : ByteArray) : oddB (leftB x) = oddB x := by unfold oddB; rw [dol_left]
theorem dolB_append (a b : ByteArray) : dolB (a ++ b) = if dolB b = b.size then b.size + dolB a else dolB b := by
 unfold dolB
 rw [ByteArray.data_append, Array.toList_append, dolL_append, Array.length_toList]
 rfl
theorem odd_join (s x : ByteArray) (h : oddB s = false) : oddB (s ++ leftB x) = oddB x := by
 have hs := of_decide_eq_false h
 rw [← odd_left x]
 unfold oddB
 rw [dolB_append]
 by_cases hd : dolB (leftB x) = (leftB x).size
 ·rw [if_pos hd]
  exact decide_eq_decide.2 (by omega)
 ·rw [if_neg hd]
theorem odd_pos {x : ByteArray} (h : oddB x = true) : 0 < x.size := by
 have h1 := of_decide_eq_true h
 have h2 := dolB_le x
 omega
theorem extract_init (x : ByteArray) : (x.extract 0 (x.size - 1)).data.toList = x.data.toList.dropLast := by
 rw [ByteArray.data_extract, Array.toList_extract, List.dropLast_eq_take, Array.length_toList]
 rfl
theorem part_join (s x : ByteArray) (h : oddB s = false) : partB (s ++ leftB x) = s ++ leftB (partB x) := by
 unfold partB
 rw [odd_join s x h]
 by_cases ho : oddB x = true
 ·rw [if_pos ho, if_pos ho]
  have hl : 0 < (leftB x).size := odd_pos ((odd_left x).trans ho)
  apply ByteArray.ext
  apply Array.toList_inj.1
  rw [extract_init, ByteArray.data_append, ByteArray.data_append, Array.toList_append, Array.toList_append, leftB_list, leftB_list, extract_init]
  have hne : x.data.toList.dropWhile (fun c => isBl c.toNat) ≠ [] := by
   rw [← leftB_list]
   intro e
   have := congrArg List.length e
   rw [Array.length_toList] at this
   exact absurd this (by show ¬ (leftB x).size = 0; omega)
  rw [List.dropLast_append_of_ne_nil hne]
  congr 1
  obtain ⟨k, hk, hb⟩ := blanks_split x.data.toList
  generalize hD : x.data.toList.dropWhile (fun c => isBl c.toNat) = D at *
  rw [hk, List.dropLast_append_of_ne_nil hne]
  have hall : ∀ c ∈ k, isBl c.toNat = true := fun c hc => by rw [hb c hc]; rfl
  rw [List.dropWhile_append_of_pos hall]
  cases D with
  | nil => exact absurd rfl hne
  | cons d D =>
   have hd : isBl d.toNat = false := by
    have := List.head?_dropWhile_not (fun c : UInt8 => isBl c.toNat) x.data.toList
    rw [hD] at this
    simpa using this
   cases D with
   | nil => rfl
   | cons e D =>
    rw [show (d :: e :: D).dropLast = d :: (e :: D).dropLast from rfl, List.dropWhile_cons, hd]
    rfl
 ·rw [if_neg ho, if_neg ho]
theorem odd_part (x : ByteArray) (h : oddB x = true) : oddB (partB x) = false := by
 have hp := odd_pos h
 unfold partB
 rw [if_pos h]
 have h1 := of_decide_eq_true h
 unfold oddB
 refine decide_eq_false ?_
 have e : dolB x = dolB (x.extract 0 (x.size - 1)) + 1 := by
  unfold dolB dolL
  rw [extract_init]
  have hne : x.data.toList ≠ [] := by
   intro e
   have := congrArg List.length e
   rw [Array.length_toList] at this
   exact absurd this (by show ¬ x.size = 0; omega)
  have hlast := List.dropLast_concat_getLast hne
  have hodd : spanL (· == 36) x.data.toList.reverse ≠ 0 := by
   intro e
   have : dolB x = 0 := e
   omega
  rw [← hlast, List.reverse_append] at hodd ⊢
  rw [List.dropLast_concat]
  show spanL (· == 36) (x.data.toList.getLast hne :: x.data.toList.dropLast.reverse) = _
  have h36 : ((x.data.toList.getLast hne).toNat == 36) = true := by
   cases hq : ((x.data.toList.getLast hne).toNat == 36) with
   | true => rfl
   | false =>
    refine absurd ?_ hodd
    show spanL (· == 36) (x.data.toList.getLast hne :: x.data.toList.dropLast.reverse) = 0
    rw [spanL, if_neg (by rw [hq]; decide)]
  rw [spanL, if_pos h36]
 omega
end Go.Proofs.YthhbpebihgjpjaaGreatDoor

namespace Go.Proofs.YthhbpebihgjpjaaGreatDoor
open Go.RowKit
set_option maxRecDepth 1000000

theorem index_nl (u : ByteArray) (n : Nat) (hn : n < u.size) (h : byteOf u n = 10) (hb : ∀ k, k < n → byteOf u k ≠ 10) : Lib.indexB u nl = n := by
 have h1 : Lib.indexB u nl = Lib.indexByte u.data.toList 10 := Lib.one u nl rfl
 have hbb : ∀ k, k < u.size → u.data.toList[k]? = some 10 → byteOf u k = 10 := fun k _ e => by rw [byteOf_get e]; rfl
 have hn2 : u.data.toList[n]? = some 10 := by rw [Array.getElem?_toList, byteOf_at u n hn, h]; rfl
 rcases Lib.indexB_cases u nl with e | ⟨i, e, hi⟩
 ·rw [h1] at e
  exact absurd hn2 (Lib.indexByte_none e n)
 ·rw [h1] at e ⊢
  have := Lib.indexByte_some e
  have hs : nl.size = 1 := rfl
  rcases Nat.lt_trichotomy i n with c | c | c
  ·exact absurd (hbb i (by omega) this.1) (hb i c)
  ·rw [e, c]
  ·exact absurd hn2 (this.2 n c)
theorem raw_hit (t : ByteArray) (f i : Nat) (hf : f ≤ i) (hi : i < t.size) (h : byteOf t i = 10) (hb : ∀ k, f ≤ k → k < i → byteOf t k ≠ 10) : rawB (t.extract f t.size) = t.extract f i :: rawB (t.extract (i + 1) t.size) := by
 have hsz : (t.extract f t.size).size = t.size - f := by rw [ByteArray.size_extract]; omega
 have hx := index_nl (t.extract f t.size) (i - f) (by omega) (by rw [byteOf_extract _ _ _ _ (by omega) (Nat.le_refl _), show f + (i - f) = i by omega]; exact h) (fun k hk => by rw [byteOf_extract _ _ _ _ (by omega) (Nat.le_refl _)]; exact hb (f + k) (by omega) (by omega))
 have hc := Lib.countB_hit (t.extract f t.size) nl (i - f) (by decide) hx
 unfold rawB
 have e1 : (t.extract f t.size).extract (i - f + nl.size) (t.extract f t.size).size = t.extract (i + 1) t.size := by
  have hs : nl.size = 1 := rfl
  rw [hs, hsz, extract_of _ _ _ _ _ (by omega), show f + (i - f + 1) = i + 1 by omega, show f + (t.size - f) = t.size by omega]
 rw [e1] at hc
 rw [hc, Nat.add_comm, Lib.splitB_hit _ _ _ _ _ hx, e1, Nat.add_zero, extract_of _ _ _ _ _ (by omega), show f + (i - f) = i by omega, Nat.add_zero]
theorem raw_last (t : ByteArray) (f : Nat) (hb : ∀ k, f ≤ k → k < t.size → byteOf t k ≠ 10) : rawB (t.extract f t.size) = [t.extract f t.size] := by
 unfold rawB
 refine Lib.splitB_miss _ _ _ _ ?_
 rcases Lib.indexB_cases (t.extract f t.size) nl with e | ⟨i, e, hi⟩
 ·exact e
 ·exfalso
  have h1 : Lib.indexB (t.extract f t.size) nl = Lib.indexByte (t.extract f t.size).data.toList 10 := Lib.one _ nl rfl
  rw [h1] at e
  have := byteOf_get (Lib.indexByte_some e).1
  have hs : nl.size = 1 := rfl
  rw [ByteArray.size_extract] at hi
  rw [byteOf_extract _ _ _ _ (by omega) (Nat.le_refl _)] at this
  exact hb (f + i) (by omega) (by omega) this
theorem dolB_eq (s : ByteArray) (q : Nat) (hq : q ≤ s.size) (h1 : ∀ r, r < q → byteOf s (s.size - 1 - r) = 36) (h2 : q < s.size → byteOf s (s.size - 1 - q) ≠ 36) : dolB s = q := by
 unfold dolB dolL
 have hl : s.data.toList.length = s.size := by rw [Array.length_toList]; rfl
 refine spanL_eq _ _ q (by rw [List.length_reverse, hl]; exact hq) (fun i c hi hc => ?_) (fun c hc => ?_)
 ·rw [List.getElem?_reverse (by omega), hl] at hc
  have := h1 i hi
  rw [byteOf_get hc] at this
  simpa using this
 ·have hlt : q < s.data.toList.length := by
   have := (List.getElem?_eq_some_iff.1 hc).1
   rwa [List.length_reverse] at this
  rw [List.getElem?_reverse hlt, hl] at hc
  have := h2 (by omega)
  rw [byteOf_get hc] at this
  simpa using this
end Go.Proofs.YthhbpebihgjpjaaGreatDoor

namespace Go.Proofs.YthhbpebihgjpjaaGreatDoor
set_option maxRecDepth 1000000

def totB (l : List ByteArray) : Nat := (l.map fun x => x.size + 1).sum
def totL (l : List Line) : Nat := (l.map fun x => x.2.size + 1).sum
theorem totL_append (l r : List Line) : totL (l ++ r) = totL l + totL r := by unfold totL; rw [List.map_append, List.sum_append]
theorem totL_mem {l : List Line} {x : Line} (h : x ∈ l) : x.2.size + 1 ≤ totL l := by
 induction l with
 | nil => cases h
 | cons y l ih =>
  show _ ≤ y.2.size + 1 + totL l
  rcases List.mem_cons.1 h with rfl | h
  ·omega
  ·have := ih h; omega
theorem totL_length (l : List Line) : l.length ≤ totL l := by
 induction l with
 | nil => exact Nat.le_refl _
 | cons y l ih =>
  show l.length + 1 ≤ y.2.size + 1 + totL l
  omega
theorem raw_tot (t : ByteArray) : ∀ (d f : Nat), t.size - f = d → f ≤ t.size → totB (rawB (t.extract f t.size)) ≤ t.size - f + 1 := by
 intro d
 induction d using Nat.strongRecOn with
 | _ d ih =>
  intro f hd hf
  by_cases hx : ∃ i, f ≤ i ∧ i < t.size ∧ byteOf t i = 10
  ·have hmin : ∃ i, (f ≤ i ∧ i < t.size ∧ byteOf t i = 10) ∧ ∀ k, f ≤ k → k < i → byteOf t k ≠ 10 := by
    obtain ⟨i, hi⟩ := hx
    induction i using Nat.strongRecOn with
    | _ i ih2 =>
     by_cases hk : ∃ k, f ≤ k ∧ k < i ∧ byteOf t k = 10
     ·obtain ⟨k, h1, h2, h3⟩ := hk
      exact ih2 k h2 ⟨h1, by omega, h3⟩
     ·exact ⟨i, hi, fun k h1 h2 h3 => hk ⟨k, h1, h2, h3⟩⟩
   obtain ⟨i, ⟨h1, h2, h3⟩, h4⟩ := hmin
   rw [raw_hit t f i h1 h2 h3 h4]
   have h5 := ih (t.size - (i + 1)) (by omega) (i + 1) rfl (by omega)
   show (t.extract f i).size + 1 + totB _ ≤ _
   rw [ByteArray.size_extract]
   omega
  ·rw [raw_last t f (fun k h1 h2 h3 => hx ⟨k, h1, h2, h3⟩)]
   show (t.extract f t.size).size + 1 + 0 ≤ _
   rw [ByteArray.size_extract]
   omega
theorem addLast_tot (a : List Line) (s : ByteArray) : totL (addLast a s) ≤ totL a + s.size := by
 unfold addLast
 cases h : a.getLast? with
 | none => exact Nat.le_add_right _ _
 | some x =>
  have hne : a ≠ [] := fun e => by rw [e] at h; cases h
  have hx : a.getLast hne = x := by rw [List.getLast?_eq_some_getLast hne] at h; exact Option.some.inj h
  have ha : a = a.dropLast ++ [x] := by rw [← hx]; exact (List.dropLast_concat_getLast hne).symm
  show totL (a.dropLast ++ [(x.1, x.2 ++ s)]) ≤ _
  have e : totL a = totL (a.dropLast ++ [x]) := by rw [← ha]
  rw [e, totL_append, totL_append]
  show _ + ((x.2 ++ s).size + 1 + 0) ≤ _ + (x.2.size + 1 + 0) + _
  rw [ByteArray.size_append]
  omega
theorem join_tot : ∀ (rs : List ByteArray) (no : Nat) (a : List Line) (on : Bool), totL (joinFrom no rs a on) ≤ totL a + totB rs
 | [], no, a, on => by rw [joinFrom]; exact Nat.le_add_right _ _
 | r :: rs, no, a, on => by
  rw [joinFrom]
  have h1 := join_tot rs (no + 1) (joinStep a on no r) (oddB r)
  have h2 : totL (joinStep a on no r) ≤ totL a + (r.size + 1) := by
   unfold joinStep
   have hp := partB_le r
   split
   ·have h3 := addLast_tot a (leftB (partB r))
    have h4 := leftB_le (partB r)
    omega
   ·rw [totL_append]
    show _ + ((partB r).size + 1 + 0) ≤ _
    omega
  show _ ≤ totL a + (r.size + 1 + totB rs)
  omega
theorem lines_tot (t : ByteArray) : totL (linesS t) ≤ t.size + 1 := by
 unfold linesS
 have h1 := join_tot (rawB t) 1 [] false
 have h2 := raw_tot t (t.size - 0) 0 rfl (Nat.zero_le _)
 rw [ByteArray.extract_zero_size] at h2
 have h3 : totL [] = 0 := rfl
 omega
theorem lines_ok (t : ByteArray) : (linesS t).length ≤ t.size + 1 ∧ ∀ x ∈ linesS t, x.2.size ≤ t.size := by
 have h := lines_tot t
 refine ⟨Nat.le_trans (totL_length _) h, fun x hx => ?_⟩
 have := totL_mem hx
 omega
theorem said_ok (t : ByteArray) : (saidS t).length ≤ t.size + 1 ∧ ∀ x ∈ saidS t, x.2.size ≤ t.size := by
 have h := lines_ok t
 exact ⟨Nat.le_trans (List.length_filter_le _ _) h.1, fun x hx => h.2 x (List.mem_filter.1 hx).1⟩
end Go.Proofs.YthhbpebihgjpjaaGreatDoor

namespace Go.Proofs.YthhbpebihgjpjaaGreatDoor
open Go.RowKit Go.Maps
set_option maxRecDepth 1000000

theorem ownS_rest {top : Binds} : ∀ {rest : List Line} {own own' : Binds} {rest' : List Line}, ownS top rest own = .ok (own', rest') → rest'.length ≤ rest.length
 | [], own, own', rest', h => by
  rw [ownS] at h
  injection h with h
  obtain ⟨rfl, rfl⟩ := Prod.mk.inj h
  exact Nat.le_refl _
 | y :: rest, own, own', rest', h => by
  rw [ownS] at h
  by_cases hb : begins y.2 32 = true
  ·rw [if_pos hb] at h
   cases hbs : bindS y.2 with
   | none => rw [hbs] at h; cases h
   | some nv =>
    rw [hbs] at h
    simp only at h
    cases hx : expandS (envOf own top) nv.2 with
    | none => rw [hx] at h; cases h
    | some z =>
     rw [hx] at h
     have := ownS_rest h
     rw [List.length_cons]; omega
  ·rw [if_neg hb] at h
   injection h with h
   obtain ⟨rfl, rfl⟩ := Prod.mk.inj h
   exact Nat.le_refl _
theorem indented_rest {ls : List Line} {xr : Line × List Line} (h : indented ls = some xr) : xr.2.length ≤ ls.length := by
 cases ls with
 | nil => cases h
 | cons x r =>
  rw [show indented (x :: r) = if begins x.2 32 = true then some (x, r) else none from rfl] at h
  split at h
  ·obtain rfl := Option.some.inj h
   exact Nat.le_succ _
  ·cases h
theorem ruleS_rest {S : St} {no : Nat} {t : ByteArray} {rest : List Line} {S' : St} {rest' : List Line} (h : ruleS S no t rest = .ok (S', rest')) : rest'.length ≤ rest.length := by
 unfold ruleS at h
 split at h
 ·cases h
 ·split at h
  ·cases h
  ·split at h
   ·cases h
   ·rename_i xr hx
    split at h
    ·cases h
    ·split at h
     ·cases h
     ·split at h
      ·cases h
      ·injection h with h
       obtain ⟨_, rfl⟩ := Prod.mk.inj h
       exact indented_rest hx
theorem buildS_rest {S : St} {no : Nat} {t : ByteArray} {rest : List Line} {S' : St} {rest' : List Line} (h : buildS S no t rest = .ok (S', rest')) : rest'.length ≤ rest.length := by
 unfold buildS at h
 split at h
 ·cases h
 ·split at h
  ·cases h
  ·split at h
   ·cases h
   ·split at h
    ·cases h
    ·split at h
     ·cases h
     ·rename_i ol ho
      injection h with h
      obtain ⟨_, rfl⟩ := Prod.mk.inj h
      exact ownS_rest (own' := ol.1) ho
theorem stmtS_rest {S : St} {no : Nat} {t : ByteArray} {rest : List Line} {S' : St} {rest' : List Line} (h : stmtS S no t rest = .ok (S', rest')) : rest'.length ≤ rest.length := by
 unfold stmtS at h
 split at h
 ·cases h
 ·split at h
  ·exact ruleS_rest h
  ·split at h
   ·exact buildS_rest h
   ·split at h
    ·unfold defaultS at h
     split at h
     ·cases h
     ·split at h
      ·cases h
      ·injection h with h
       obtain ⟨_, rfl⟩ := Prod.mk.inj h
       exact Nat.le_refl _
    ·unfold varS at h
     split at h
     ·cases h
     ·split at h
      ·cases h
      ·injection h with h
       obtain ⟨_, rfl⟩ := Prod.mk.inj h
       exact Nat.le_refl _
theorem runS_fuel : ∀ (g g' : Nat) (S : St) (ls : List Line), ls.length ≤ g → ls.length ≤ g' → runS g S ls = runS g' S ls
 | 0, 0, _, _, _, _ => rfl
 | 0, g' + 1, S, [], _, _ => by rw [runS, runS]
 | 0, _ + 1, _, _ :: _, h, _ => by simp at h
 | g + 1, 0, S, [], _, _ => by rw [runS, runS]
 | _ + 1, 0, _, _ :: _, _, h => by simp at h
 | g + 1, g' + 1, S, [], _, _ => by rw [runS, runS]
 | g + 1, g' + 1, S, x :: rest, h1, h2 => by
  rw [runS, runS]
  rw [List.length_cons] at h1 h2
  cases hs : stmtS S x.1 x.2 rest with
  | error e => rfl
  | ok Sr =>
   have := stmtS_rest (S' := Sr.1) (rest' := Sr.2) hs
   exact runS_fuel g g' Sr.1 Sr.2 (by omega) (by omega)
def runAll (S : St) (ls : List Line) : Except (Bad × Nat) St := runS ls.length S ls
theorem runAll_nil (S : St) : runAll S [] = .ok S := rfl
theorem runAll_cons (S : St) (x : Line) (rest : List Line) : runAll S (x :: rest) = match stmtS S x.1 x.2 rest with
  | .error e => .error e
  | .ok Sr => runAll Sr.1 Sr.2 := by
 unfold runAll
 rw [List.length_cons, runS]
 cases hs : stmtS S x.1 x.2 rest with
 | error e => rfl
 | ok Sr => exact runS_fuel _ _ _ _ (stmtS_rest (S' := Sr.1) (rest' := Sr.2) hs) (Nat.le_refl _)
theorem state_start {a : Nat → Addr} {B : Nat} {w w2 w4 : World} {sb tb : Nat} {v : Value} {ls : List Line} (hg : Gl a w) (hB : 14 ≤ B) (hBw : B ≤ w.heap.size) (hrow : w2.heap[sb]? = some (.cells #[.map (some tb), .pointer none] 302 (0, 0))) (hmap : BMap w2 tb 0 []) (htb : w.heap.size ≤ tb ∧ tb < sb) (hb2 : Below w.heap.size w w2) (hl : OwnLn w4 (((w2.alloc (.map #[] 0)).alloc (.map #[] 0)).alloc (.cells #[.int .i64 0, .slice none 0 0, .pointer (some ⟨sb, 0, none⟩), .map (some w2.heap.size), .map (some (w2.heap.size + 1)), .slice none 0 0, .slice none 0 0] 201)).heap.size v ls) (hb4 : Below (((w2.alloc (.map #[] 0)).alloc (.map #[] 0)).alloc (.cells #[.int .i64 0, .slice none 0 0, .pointer (some ⟨sb, 0, none⟩), .map (some w2.heap.size), .map (some (w2.heap.size + 1)), .slice none 0 0, .slice none 0 0] 201)).heap.size (((w2.alloc (.map #[] 0)).alloc (.map #[] 0)).alloc (.cells #[.int .i64 0, .slice none 0 0, .pointer (some ⟨sb, 0, none⟩), .map (some w2.heap.size), .map (some (w2.heap.size + 1)), .slice none 0 0, .slice none 0 0] 201)) w4) (hls : ∀ x ∈ ls, x.2.size ≤ 4000) (hlc : ls.length ≤ 5000) :
  ∃ p, PStC p a B (w4.setCell ⟨w2.heap.size + 2, 1, none⟩ v) (w2.heap.size + 2) (0 : Nat) ls St.none 5000 := by
 have hsb := heap_lt hrow
 generalize hw3 : ((w2.alloc (.map #[] 0)).alloc (.map #[] 0)).alloc (.cells #[.int .i64 0, .slice none 0 0, .pointer (some ⟨sb, 0, none⟩), .map (some w2.heap.size), .map (some (w2.heap.size + 1)), .slice none 0 0, .slice none 0 0] 201) = w3 at *
 have h3s : w3.heap.size = w2.heap.size + 3 := by rw [← hw3]; simp
 have h3o : ∀ k, k < w2.heap.size → w3.heap[k]? = w2.heap[k]? := fun k hk => by
  rw [← hw3, heapA_old _ _ k (by simp; omega), heapA_old _ _ k (by simp; omega), heapA_old _ _ k hk]
 have h3r : w3.heap[w2.heap.size + 2]? = some (.cells #[.int .i64 0, .slice none 0 0, .pointer (some ⟨sb, 0, none⟩), .map (some w2.heap.size), .map (some (w2.heap.size + 1)), .slice none 0 0, .slice none 0 0] 201 (0, 0)) := by
  rw [← hw3]; exact heapA_new _ _ _ (by simp)
 have hm1 : BMap w3 w2.heap.size 0 [] := by
  have h1 : BMap (w2.alloc (.map #[] 0)) w2.heap.size 0 [] := TMap.made textC textZ ⟨_, _, rfl⟩ w2
  refine TMap.keep h1 ?_
  rw [← hw3, heapA_old _ _ _ (by simp; omega), heapA_old _ _ _ (by simp)]
 have hm2 : UMap w3 (w2.heap.size + 1) 0 [] := by
  have h1 : UMap ((w2.alloc (.map #[] 0)).alloc (.map #[] 0)) (w2.alloc (.map #[] 0)).heap.size 0 [] := TMap.made unitC (.agg #[]) ⟨_, _, rfl⟩ (w2.alloc (.map #[] 0))
  have e : (w2.alloc (.map #[] 0)).heap.size = w2.heap.size + 1 := by simp
  rw [e] at h1
  refine TMap.keep h1 ?_
  rw [← hw3, heapA_old _ _ _ (by simp)]
 clear hw3
 have h5 : ∀ k, k ≠ w2.heap.size + 2 → (w4.setCell ⟨w2.heap.size + 2, 1, none⟩ v).heap[k]? = w4.heap[k]? := fun k hk => heap_setCell_other _ _ _ _ hk
 have h53 : ∀ k, k < w3.heap.size → k ≠ w2.heap.size + 2 → (w4.setCell ⟨w2.heap.size + 2, 1, none⟩ v).heap[k]? = w3.heap[k]? := fun k h1 h2 => (h5 k h2).trans (hb4.block k h1)
 have hs5 : (w4.setCell ⟨w2.heap.size + 2, 1, none⟩ v).heap.size = w4.heap.size := by simp
 have h4s := hb4.size
 have hvb : ∀ k, v.ownBlock = some k → w3.heap.size ≤ k ∧ k < w4.heap.size := fun k hk => rblock hl k hk
 refine ⟨{ c := fun k => if k = w2.heap.size + 2 then 1 else if k = tb then 2 else if k = w2.heap.size then 3 else if k = w2.heap.size + 1 then 4 else if k < B then 9 else 0, vl := v, vd := .slice none 0 0, vf := .slice none 0 0, sb := sb, tb := tb, rm := w2.heap.size, mm := w2.heap.size + 1, n1 := 0, n2 := 0, n3 := 0, ds := [] }, ?_⟩
 have hc0 : ∀ k, k ≠ w2.heap.size + 2 → k ≠ tb → k ≠ w2.heap.size → k ≠ w2.heap.size + 1 → B ≤ k → (if k = w2.heap.size + 2 then 1 else if k = tb then 2 else if k = w2.heap.size then 3 else if k = w2.heap.size + 1 then 4 else if k < B then 9 else 0) = 0 := fun k h1 h2 h3 h4 h5 => by
  rw [if_neg h1, if_neg h2, if_neg h3, if_neg h4, if_neg (by omega)]
 have hb2s := hb2.size
 exact {
  gl := hg.keep (by omega) (fun k hk => ((h53 k (by have := hg.size; omega) (by have := hg.size; omega)).trans (h3o k (by have := hg.size; omega))).trans (hb2.block k (by have := hg.size; omega)))
  base := hB
  row := by
   show (w4.setCell ⟨w2.heap.size + 2, 1, none⟩ v).heap[w2.heap.size + 2]? = _
   rw [heap_setCell_same _ _ _ _ _ _ ((hb4.block _ (by omega)).trans h3r)]; rfl
  const := fun w'' hs hk => by
   refine ⟨(lines_of_row hl).keep (fun k h1 h2 => ?_), ?_, rfl, fun k d e hd => by simp at hd⟩
   ·obtain ⟨o, n, c, e⟩ := h2
    have h3 := hvb k (by rw [e]; rfl)
    exact (hk k (by omega) (hc0 k (by omega) (by omega) (by omega) (by omega) (by omega))).trans (h5 k (by omega))
   ·exact ((hk sb (by omega) (hc0 sb (by omega) (by omega) (by omega) (by omega) (by omega))).trans ((h53 sb (by omega) (by omega)).trans (h3o sb hsb))).trans hrow
  top := TMap.keep hmap ((h53 tb (by omega) (by omega)).trans (h3o tb (by omega)))
  rules := TMap.keep hm1 (h53 w2.heap.size (by omega) (by omega))
  mlt := by show w2.heap.size + 1 < _; omega
  made := TMap.keep hm2 (h53 (w2.heap.size + 1) (by omega) (by omega))
  drafts := World.ownsRow_nil _ _ _ _
  defs := World.ownsRow_nil _ _ _ _
  c1 := if_pos rfl
  c2 := by show (if tb = w2.heap.size + 2 then 1 else if tb = tb then 2 else _) = 2; rw [if_neg (by omega), if_pos rfl]
  c3 := by show (if w2.heap.size = w2.heap.size + 2 then 1 else if w2.heap.size = tb then 2 else if w2.heap.size = w2.heap.size then 3 else _) = 3; rw [if_neg (by omega), if_neg (by omega), if_pos rfl]
  c4 := by show (if w2.heap.size + 1 = w2.heap.size + 2 then 1 else if w2.heap.size + 1 = tb then 2 else if w2.heap.size + 1 = w2.heap.size then 3 else if w2.heap.size + 1 = w2.heap.size + 1 then 4 else _) = 4; rw [if_neg (by omega), if_neg (by omega), if_neg (by omega), if_pos rfl]
  c5 := fun k hk => by cases hk
  c6 := fun k hk => by cases hk
  low := fun k hk => by
   show (if k = w2.heap.size + 2 then 1 else if k = tb then 2 else if k = w2.heap.size then 3 else if k = w2.heap.size + 1 then 4 else if k < B then 9 else 0) = 9
   rw [if_neg (by omega), if_neg (by omega), if_neg (by omega), if_neg (by omega), if_pos hk]
  few := by show 0 + 5000 ≤ 5000 ∧ 0 + 5000 ≤ 5000 ∧ 0 + 8000 * 5000 ≤ 40000000; omega
  ok := { top := (fun x hx => by cases hx), tops := Nat.le_refl _, rules := (fun x hx => by cases hx), rulen := Nat.le_refl _, edges := Nat.zero_le _, edge := (fun x hx => by cases hx), defs := (by show 0 + 4000 * 5000 ≤ 20000000; omega), lines := hls, count := hlc } }
end Go.Proofs.YthhbpebihgjpjaaGreatDoor
