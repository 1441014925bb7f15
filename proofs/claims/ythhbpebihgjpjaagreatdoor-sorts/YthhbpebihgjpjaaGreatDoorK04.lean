import Derived.Test.YthhbpebihgjpjaaGreatDoorK03
namespace Go.Proofs.YthhbpebihgjpjaaGreatDoor
open Go.RowKit
set_option maxRecDepth 1000000

/-- Bindings in memory: a name and a text each. -/
abbrev Binds := List (ByteArray × ByteArray)
def bcellsB (l : Binds) : List Value := l.flatMap fun x => [.string x.1, .string x.2]
/-- A list of them that is there. -/
def BindsAt (w : World) (v : Value) (l : Binds) : Prop := ∃ ao cap, v = .slice ao l.length cap ∧ l.length ≤ cap ∧ ((l = [] ∧ True) ∨ ∃ b o, ao = some ⟨b, o, none⟩ ∧ ∀ k x, l[k]? = some x → w.cell? ⟨b, o + k * 2, none⟩ = some (.string x.1) ∧ w.cell? ⟨b, o + k * 2 + 1, none⟩ = some (.string x.2))
theorem BindsAt.keep {w w' : World} {v : Value} {l : Binds} (h : BindsAt w v l) (hb : ∀ k, k < w.heap.size → w'.heap[k]? = w.heap[k]?) : BindsAt w' v l := by
  obtain ⟨ao, cap, rfl, hc, h | ⟨b, o, rfl, h⟩⟩ := h
  · exact ⟨ao, cap, rfl, hc, Or.inl h⟩
  · refine ⟨_, cap, rfl, hc, Or.inr ⟨b, o, rfl, fun k x hx => ?_⟩⟩
    obtain ⟨h1, h2⟩ := h k x hx
    exact ⟨(World.cell?_of_block (w := w) (a := ⟨b, o + k * 2, none⟩) (hb b (block_lt_of_cell h1))).trans h1, (World.cell?_of_block (w := w) (a := ⟨b, o + k * 2 + 1, none⟩) (hb b (block_lt_of_cell h2))).trans h2⟩
/-- The place of a name; what it is bound to. -/
def bindIdx (l : Binds) (x : ByteArray) : Option Nat := l.findIdx? fun y => decide (y.1 = x)
def bindOf (l : Binds) (x : ByteArray) : Option ByteArray := (l.find? fun y => decide (y.1 = x)).map (·.2)
theorem bindIdx_hit {x : ByteArray} {l : Binds} {j : Nat} {y : ByteArray × ByteArray} (h : ∀ k z, k < j → l[k]? = some z → z.1 ≠ x) (hj : l[j]? = some y) (hy : y.1 = x) : bindIdx l x = some j := by
  obtain ⟨hl, e⟩ := List.getElem?_eq_some_iff.1 hj
  refine List.findIdx?_eq_some_iff_getElem.2 ⟨hl, decide_eq_true (by rw [e]; exact hy), fun k hk => ?_⟩
  have := h k (l[k]'(by omega)) hk (by simp)
  simpa using this
theorem bindIdx_miss {x : ByteArray} {l : Binds} (h : ∀ k z, k < l.length → l[k]? = some z → z.1 ≠ x) : bindIdx l x = none := by
  refine List.findIdx?_eq_none_iff.2 fun y hy => ?_
  obtain ⟨k, hk, rfl⟩ := List.getElem_of_mem hy
  have := h k (l[k]'hk) hk (by simp)
  simpa using this
def idxI : Option Nat → Int
  | some k => k
  | none => -1

set_option maxHeartbeats 2000000 in
theorem rfind_any (l : Binds) (v : Value) (x : ByteArray) (w : World) (h : BindsAt w v l) (hs : l.length ≤ 1099511627776) :
    Calls Tryz.prog 214 #[v, .string x] w fun e w' => e = .returned (.int .i64 (idxI (bindIdx l x))) ∧ w' = w := by
  obtain ⟨ao, c, rfl, hc, h⟩ := h
  have H : Hid ((l = [] ∧ True) ∨ ∃ b o, ao = some ⟨b, o, none⟩ ∧ ∀ k x, l[k]? = some x → w.cell? ⟨b, o + k * 2, none⟩ = some (.string x.1) ∧ w.cell? ⟨b, o + k * 2 + 1, none⟩ = some (.string x.2)) := h
  have n0 : (l.length : Int) ≤ 1099511627776 := by omega
  clear h
  generalize hL : l.length = L at *
  have HL : Hid (l.length = L) := hL
  clear hL
  go_enter Tryz.func214, Tryz.ntmps214
  go_wp2
  go_loop [5] (fun i => ∃ j : Nat, i = .int .i64 j ∧ j ≤ L ∧ (∀ k z, k < j → l[k]? = some z → z.1 ≠ x)) (fun i => L - (intOf i).toNat)
  case atStart => exact ⟨0, rfl, Nat.zero_le _, fun k z hk => by omega⟩
  case round =>
    obtain ⟨j, rfl, hle, hag⟩ := hrel
    have HAG : Hid (∀ k z, k < j → l[k]? = some z → z.1 ≠ x) := hag
    clear hag
    by_cases hlt : j < L
    · obtain ⟨y, hy⟩ : ∃ y, l[j]? = some y := ⟨l[j]'(by have := HL.out; omega), by simp⟩
      obtain ⟨g1, o1, rfl, q1⟩ : ∃ b o, ao = some ⟨b, o, none⟩ ∧ ∀ k x, l[k]? = some x → w.cell? ⟨b, o + k * 2, none⟩ = some (.string x.1) ∧ w.cell? ⟨b, o + k * 2 + 1, none⟩ = some (.string x.2) := by
        rcases H.out with e | e
        · rw [e.1] at hy; simp at hy
        · exact e
      have r1 := (q1 j y hy).1
      have i0 : (0 : Int) ≤ (j : Int) := by omega
      have i1 : (j : Int) < (L : Int) := by omega
      have HY : Hid (l[j]? = some y) := hy
      clear q1 hy
      obtain ⟨y1, y2⟩ := y
      simp only at r1
      cases hq : (y1.toList == x.toList) with
      | true =>
        have HR : Hid (bindIdx l x = some j) := bindIdx_hit HAG.out HY.out (text_same hq)
        go_wp2
        go_ret
        exact ⟨by rw [HR.out]; rfl, rfl⟩
      | false =>
        have HR : Hid (∀ k z, k < j + 1 → l[k]? = some z → z.1 ≠ x) := fun k z hk hz => by
          rcases Nat.lt_or_ge k j with c | c
          · exact HAG.out k z c hz
          · obtain rfl : k = j := by omega
            rw [HY.out] at hz
            obtain rfl := Option.some.inj hz
            exact text_other hq
        go_wp2
        exact ⟨⟨j + 1, by go_num, hlt, HR.out⟩, by simp [intOf]; omega⟩
    · obtain rfl : j = L := by omega
      have HE : Hid (bindIdx l x = none) := bindIdx_miss (fun k z hk hz => HAG.out k z (by have := HL.out; omega) hz)
      go_wp2
      go_ret
      exact ⟨by rw [HE.out]; rfl, rfl⟩

theorem bindOf_idx {l : Binds} {x : ByteArray} {k : Nat} (h : bindIdx l x = some k) : ∃ y, l[k]? = some y ∧ bindOf l x = some y.2 := by
  unfold bindIdx at h
  unfold bindOf
  obtain ⟨hk, hx, hn⟩ := List.findIdx?_eq_some_iff_getElem.1 h
  refine ⟨l[k], by simp, ?_⟩
  have e : l.find? (fun y => decide (y.1 = x)) = some l[k] := List.find?_eq_some_iff_getElem.2 ⟨hx, k, hk, rfl, fun j hj => by simpa using hn j hj⟩
  rw [e]
  rfl
theorem bindOf_none {l : Binds} {x : ByteArray} (h : bindIdx l x = none) : bindOf l x = none := by
  unfold bindIdx at h
  unfold bindOf
  rw [List.find?_eq_none.2 (fun y hy => by have := List.findIdx?_eq_none_iff.1 h y hy; simpa using this)]
  rfl

set_option maxHeartbeats 2000000 in
theorem rget_any (l r : Binds) (v u : Value) (x : ByteArray) (w : World) (h : BindsAt w v l) (h2 : BindsAt w u r) (hs : l.length ≤ 1099511627776) (hs2 : r.length ≤ 1099511627776) :
    Calls Tryz.prog 290 #[v, u, .string x] w fun e w' => e = .returned (.string (((bindOf l x).or (bindOf r x)).getD ⟨#[]⟩)) ∧ w' = w := by
  have HF : Hid (Calls Tryz.prog 214 #[v, .string x] w fun e w' => e = .returned (.int .i64 (idxI (bindIdx l x))) ∧ w' = w) := rfind_any l v x w h hs
  have HF2 : Hid (Calls Tryz.prog 214 #[u, .string x] w fun e w' => e = .returned (.int .i64 (idxI (bindIdx r x))) ∧ w' = w) := rfind_any r u x w h2 hs2
  cases hi : bindIdx l x with
  | some k =>
    obtain ⟨y, hy, hb⟩ := bindOf_idx hi
    have HR : Hid (((bindOf l x).or (bindOf r x)).getD ⟨#[]⟩ = y.2) := by rw [hb]; rfl
    obtain ⟨ao, c, rfl, hc, e | ⟨b, o, rfl, hce⟩⟩ := h
    · rw [e.1] at hy; simp at hy
    · have r1 := (hce k y hy).2
      have hk : k < l.length := (List.getElem?_eq_some_iff.1 hy).1
      rw [hi] at HF
      have k0 : (0 : Int) ≤ (k : Int) := by omega
      have k1 : (k : Int) < (l.length : Int) := by omega
      generalize l.length = L at *
      obtain ⟨y1, y2⟩ := y
      simp only at r1 HR
      clear hce hy hb hi h2 HF2
      go_enter Tryz.func290, Tryz.ntmps290
      go_wp2_with fail
      refine HF.out.mono ?_
      rintro e w' ⟨rfl, rfl⟩
      simp only [idxI]
      go_wp2
      go_ret
      exact ⟨by rw [HR.out]; rfl, rfl⟩
  | none =>
    have hb := bindOf_none hi
    rw [hi] at HF
    obtain ⟨al, cl, rfl, _, _⟩ := h
    generalize l.length = LL at *
    cases hj : bindIdx r x with
    | some k =>
      obtain ⟨y, hy, hb2⟩ := bindOf_idx hj
      have HR : Hid (((bindOf l x).or (bindOf r x)).getD ⟨#[]⟩ = y.2) := by rw [hb, hb2]; rfl
      obtain ⟨ao, c, rfl, hc, e | ⟨b, o, rfl, hce⟩⟩ := h2
      · rw [e.1] at hy; simp at hy
      · have r1 := (hce k y hy).2
        have hk : k < r.length := (List.getElem?_eq_some_iff.1 hy).1
        rw [hj] at HF2
        have k0 : (0 : Int) ≤ (k : Int) := by omega
        have k1 : (k : Int) < (r.length : Int) := by omega
        generalize r.length = L at *
        obtain ⟨y1, y2⟩ := y
        simp only at r1 HR
        clear hce hy hb hi hj hb2
        go_enter Tryz.func290, Tryz.ntmps290
        go_wp2_with fail
        refine HF.out.mono ?_
        rintro e w' ⟨rfl, rfl⟩
        simp only [idxI]
        go_wp2_with fail
        refine HF2.out.mono ?_
        rintro e w' ⟨rfl, rfl⟩
        simp only [idxI]
        go_wp2
        go_ret
        exact ⟨by rw [HR.out]; rfl, rfl⟩
    | none =>
      have HR : Hid (((bindOf l x).or (bindOf r x)).getD ⟨#[]⟩ = ⟨#[]⟩) := by rw [hb, bindOf_none hj]; rfl
      rw [hj] at HF2
      obtain ⟨ao, c, rfl, _, _⟩ := h2
      generalize r.length = L at *
      clear hb hi hj
      go_enter Tryz.func290, Tryz.ntmps290
      go_wp2_with fail
      refine HF.out.mono ?_
      rintro e w' ⟨rfl, rfl⟩
      simp only [idxI]
      go_wp2_with fail
      refine HF2.out.mono ?_
      rintro e w' ⟨rfl, rfl⟩
      simp only [idxI]
      go_wp2
      go_ret
      exact ⟨by rw [HR.out]; rfl, rfl⟩
end Go.Proofs.YthhbpebihgjpjaaGreatDoor

namespace Go.Proofs.YthhbpebihgjpjaaGreatDoor
open Go.RowKit
set_option maxRecDepth 1000000

/-- What a `$` begins: a byte that stands for itself, or a variable. -/
abbrev Form := ByteArray ⊕ ByteArray
def Form.val (E : ByteArray → ByteArray) : Form → ByteArray
  | .inl b => b
  | .inr x => E x
/-- .. at place i, and where it ends. -/
def formAt (t : ByteArray) (i : Nat) : Option (Form × Nat) :=
  if t.size ≤ i + 1 then none
  else if byteOf t (i + 1) = 36 ∨ byteOf t (i + 1) = 32 ∨ byteOf t (i + 1) = 58 ∨ byteOf t (i + 1) = 124 then some (.inl (t.extract (i + 1) (i + 2)), i + 2)
  else if byteOf t (i + 1) = 123 then
    (if wordLenB (t.extract (i + 2) t.size) = 0 ∨ t.size ≤ i + 2 + wordLenB (t.extract (i + 2) t.size) ∨ byteOf t (i + 2 + wordLenB (t.extract (i + 2) t.size)) ≠ 125 then none
     else some (.inr (t.extract (i + 2) (i + 2 + wordLenB (t.extract (i + 2) t.size))), i + wordLenB (t.extract (i + 2) t.size) + 3))
  else if wordLenB (t.extract (i + 1) t.size) = 0 then none
  else some (.inr (t.extract (i + 1) (i + 1 + wordLenB (t.extract (i + 1) t.size))), i + 1 + wordLenB (t.extract (i + 1) t.size))
theorem formAt_le {t : ByteArray} {i k : Nat} {f : Form} (h : formAt t i = some (f, k)) : i + 1 < k ∧ k ≤ t.size := by
  unfold formAt at h
  split at h
  · cases h
  split at h
  · have := (Prod.mk.inj (Option.some.inj h)).2; omega
  split at h
  · split at h
    · cases h
    · have := (Prod.mk.inj (Option.some.inj h)).2; omega
  split at h
  · cases h
  · rename_i h1 h2 h3 h4
    have hk := (Prod.mk.inj (Option.some.inj h)).2
    have hl : wordLenB (t.extract (i + 1) t.size) ≤ (t.extract (i + 1) t.size).size := spanLen_le _ _
    rw [ByteArray.size_extract] at hl
    omega
/-- What comes of a text from place i on, behind out. -/
def expandFrom (E : ByteArray → ByteArray) (t : ByteArray) : Nat → Nat → ByteArray → Option ByteArray
  | 0, i, out => if t.size ≤ i then some out else none
  | g + 1, i, out =>
    if t.size ≤ i then some out
    else if byteOf t i ≠ 36 then expandFrom E t g (i + 1) (out ++ t.extract i (i + 1))
    else match formAt t i with
      | none => none
      | some (f, k) => if 4000 < (out ++ f.val E).size then none else expandFrom E t g k (out ++ f.val E)
def expandS (E : ByteArray → ByteArray) (t : ByteArray) : Option ByteArray := expandFrom E t t.size 0 ⟨#[]⟩
theorem expandFrom_fuel (E : ByteArray → ByteArray) (t : ByteArray) : ∀ (g g' i : Nat) (out : ByteArray), t.size ≤ i + g → t.size ≤ i + g' → expandFrom E t g i out = expandFrom E t g' i out
  | 0, 0, _, _, _, _ => rfl
  | 0, g' + 1, i, out, h, _ => by rw [expandFrom, expandFrom, if_pos (by omega), if_pos (by omega)]
  | g + 1, 0, i, out, _, h => by rw [expandFrom, expandFrom, if_pos (by omega), if_pos (by omega)]
  | g + 1, g' + 1, i, out, h, h' => by
    rw [expandFrom, expandFrom]
    by_cases c : t.size ≤ i
    · rw [if_pos c, if_pos c]
    · rw [if_neg c, if_neg c]
      by_cases d : byteOf t i ≠ 36
      · rw [if_pos d, if_pos d]
        exact expandFrom_fuel E t g g' _ _ (by omega) (by omega)
      · rw [if_neg d, if_neg d]
        cases hf : formAt t i with
        | none => rfl
        | some p =>
          obtain ⟨f, k⟩ := p
          have hk := formAt_le hf
          simp only
          by_cases q : 4000 < (out ++ f.val E).size
          · rw [if_pos q, if_pos q]
          · rw [if_neg q, if_neg q]
            exact expandFrom_fuel E t g g' _ _ (by omega) (by omega)
/-- The same without the count. -/
def expandAt (E : ByteArray → ByteArray) (t : ByteArray) (i : Nat) (out : ByteArray) : Option ByteArray := expandFrom E t (t.size - i) i out
theorem expandAt_end (E : ByteArray → ByteArray) (t : ByteArray) (i : Nat) (out : ByteArray) (h : t.size ≤ i) : expandAt E t i out = some out := by
  unfold expandAt
  rw [show t.size - i = 0 by omega, expandFrom, if_pos h]
theorem expandAt_plain (E : ByteArray → ByteArray) (t : ByteArray) (i : Nat) (out : ByteArray) (h : i < t.size) (hc : byteOf t i ≠ 36) : expandAt E t i out = expandAt E t (i + 1) (out ++ t.extract i (i + 1)) := by
  unfold expandAt
  rw [show t.size - i = (t.size - (i + 1)) + 1 by omega, expandFrom, if_neg (by omega), if_pos hc]
theorem expandAt_none (E : ByteArray → ByteArray) (t : ByteArray) (i : Nat) (out : ByteArray) (h : i < t.size) (hc : byteOf t i = 36) (hf : formAt t i = none) : expandAt E t i out = none := by
  unfold expandAt
  rw [show t.size - i = (t.size - (i + 1)) + 1 by omega, expandFrom, if_neg (by omega), if_neg (by simpa using hc), hf]
theorem expandAt_form (E : ByteArray → ByteArray) (t : ByteArray) (i k : Nat) (f : Form) (out : ByteArray) (h : i < t.size) (hc : byteOf t i = 36) (hf : formAt t i = some (f, k)) : expandAt E t i out = if 4000 < (out ++ f.val E).size then none else expandAt E t k (out ++ f.val E) := by
  have hk := formAt_le hf
  unfold expandAt
  rw [show t.size - i = (t.size - (i + 1)) + 1 by omega, expandFrom, if_neg (by omega), if_neg (by simpa using hc), hf]
  simp only
  rw [expandFrom_fuel E t (t.size - (i + 1)) (t.size - k) k _ (by omega) (by omega)]
end Go.Proofs.YthhbpebihgjpjaaGreatDoor

namespace Go.Proofs.YthhbpebihgjpjaaGreatDoor
open Go.RowKit
set_option maxRecDepth 1000000

def expPost (o : Option ByteArray) : Value := .tuple #[.string (o.getD ⟨#[]⟩), .bool o.isSome]
/-- What variables tell, one's own first. -/
def envOf (own top : Binds) (x : ByteArray) : ByteArray := ((bindOf own x).or (bindOf top x)).getD ⟨#[]⟩
theorem index_next (t : ByteArray) (j k : Nat) (z : Int) (hz : z = ((j + k : Nat) : Int)) (h : j + k < t.size) (wx : World) : (Instr.index 9 (.string t) (.int .i64 z)).run Tryz.prog wx = .ok (.int .u8 (byteOf t (j + k))) wx := by
  subst hz; exact run_index_text t (j + k) h wx
theorem slice_next (t : ByteArray) (n : Nat) (z : Int) (hz : z = (n : Int)) (h : n ≤ t.size) (wx : World) : (Instr.slice 9 (.string t) (some (.int .i64 z)) none none).run Tryz.prog wx = .ok (.string (t.extract n t.size)) wx := by
  subst hz; exact slice_from t n h wx
theorem slice_mid (t : ByteArray) (a b : Nat) (y z : Int) (hy : y = (a : Int)) (hz : z = (b : Int)) (h : a ≤ b) (h2 : b ≤ t.size) (wx : World) : (Instr.slice 9 (.string t) (some (.int .i64 y)) (some (.int .i64 z)) none).run Tryz.prog wx = .ok (.string (t.extract a b)) wx := by
  subst hy hz
  simp [Instr.slice, run_underlying Tryz.underlying9, go_sem, h, h2]
end Go.Proofs.YthhbpebihgjpjaaGreatDoor
