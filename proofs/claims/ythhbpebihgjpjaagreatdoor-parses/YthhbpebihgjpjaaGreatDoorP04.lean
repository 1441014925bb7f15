import Derived.Test.YthhbpebihgjpjaaGreatDoorP03
import Derived.BigRegion
namespace Go.Proofs.YthhbpebihgjpjaaGreatDoor
open Go.RowKit
set_option maxRecDepth 1000000

abbrev Binds := List (ByteArray × ByteArray)
def bcellsB (l : Binds) : List Value := l.flatMap fun x => [.string x.1, .string x.2]
def BindsAt (w : World) (v : Value) (l : Binds) : Prop := ∃ ao cap, v = .slice ao l.length cap ∧ l.length ≤ cap ∧ ((l = [] ∧ True) ∨ ∃ b o, ao = some ⟨b, o, none⟩ ∧ ∀ k x, l[k]? = some x → w.cell? ⟨b, o + k * 2, none⟩ = some (.string x.1) ∧ w.cell? ⟨b, o + k * 2 + 1, none⟩ = some (.string x.2))
theorem BindsAt.keep {w w' : World} {v : Value} {l : Binds} (h : BindsAt w v l) (hb : ∀ k, k < w.heap.size → w'.heap[k]? = w.heap[k]?) : BindsAt w' v l := by
 obtain ⟨ao, cap, rfl, hc, h | ⟨b, o, rfl, h⟩⟩ := h
 ·exact ⟨ao, cap, rfl, hc, Or.inl h⟩
 ·refine ⟨_, cap, rfl, hc, Or.inr ⟨b, o, rfl, fun k x hx => ?_⟩⟩
  obtain ⟨h1, h2⟩ := h k x hx
  exact ⟨(World.cell?_of_block (w := w) (a := ⟨b, o + k * 2, none⟩) (hb b (block_lt_of_cell h1))).trans h1, (World.cell?_of_block (w := w) (a := ⟨b, o + k * 2 + 1, none⟩) (hb b (block_lt_of_cell h2))).trans h2⟩
def bindIdx (l : Binds) (x : ByteArray) : Option Nat := l.findIdx? fun y => decide (y.1 = x)
def bindOf (l : Binds) (x : ByteArray) : Option ByteArray := (l.find? fun y => decide (y.1 = x)).map (·.2)
theorem bindIdx_hit {x : ByteArray} {l : Binds} {j : Nat} {y : ByteArray × ByteArray} (h : ∀ k z, k < j → l[k]? = some z → z.1 ≠ x) (hj : l[j]? = some y) (hy : y.1 = x) : bindIdx l x = some j := by
 obtain ⟨hl, e⟩ := List.getElem?_eq_some_iff.1 hj
 refine List.findIdx?_eq_some_iff_getElem.2 ⟨hl, decide_eq_true (by rw [e]; exact hy), fun k hk => ?_⟩
 have := h k (l[k]'(by omega)) hk (by simp)
 simpa using this
theorem bindIdx_miss {x : ByteArray} {l : Binds} (h : ∀ k z, k < l.length → l[k]? = some z → z.1 ≠ x) : bindIdx l x = none := by
 refine List.findIdx?_eq_none_iff.2 fun y hy => ?_
 obtain ⟨k, hk, rfl⟩ := List.getElem_of_mem hy
 have := h k (l[k]'hk) hk (by simp)
 simpa using this
def idxI : Option Nat → Int
 | some k => k
 | none => -1

set_option maxHeartbeats 2000000 in
theorem rfind_any (l : Binds) (v : Value) (x : ByteArray) (w : World) (h : BindsAt w v l) (hs : l.length ≤ 1099511627776) :
  Calls Tryz.prog 214 #[v, .string x] w fun e w' => e = .returned (.int .i64 (idxI (bindIdx l x))) ∧ w' = w := by
 obtain ⟨ao, c, rfl, hc, h⟩ := h
 have H : Hid ((l = [] ∧ True) ∨ ∃ b o, ao = some ⟨b, o, none⟩ ∧ ∀ k x, l[k]? = some x → w.cell? ⟨b, o + k * 2, none⟩ = some (.string x.1) ∧ w.cell? ⟨b, o + k * 2 + 1, none⟩ = some (.string x.2)) := h
 have n0 : (l.length : Int) ≤ 1099511627776 := by omega
 clear h
 generalize hL : l.length = L at *
 have HL : Hid (l.length = L) := hL
 clear hL
 go_enter Tryz.func214, Tryz.ntmps214
 go_wp2
 go_loop [5] (fun i => ∃ j : Nat, i = .int .i64 j ∧ j ≤ L ∧ (∀ k z, k < j → l[k]? = some z → z.1 ≠ x)) (fun i => L - (intOf i).toNat)
 case atStart => exact ⟨0, rfl, Nat.zero_le _, fun k z hk => by omega⟩
 case round =>
  obtain ⟨j, rfl, hle, hag⟩ := hrel
  have HAG : Hid (∀ k z, k < j → l[k]? = some z → z.1 ≠ x) := hag
  clear hag
  by_cases hlt : j < L
  ·obtain ⟨y, hy⟩ : ∃ y, l[j]? = some y := ⟨l[j]'(by have := HL.out; omega), by simp⟩
   obtain ⟨g1, o1, rfl, q1⟩ : ∃ b o, ao = some ⟨b, o, none⟩ ∧ ∀ k x, l[k]? = some x → w.cell? ⟨b, o + k * 2, none⟩ = some (.string x.1) ∧ w.cell? ⟨b, o + k * 2 + 1, none⟩ = some (.string x.2) := by
    rcases H.out with e | e
    ·rw [e.1] at hy; simp at hy
    ·exact e
   have r1 := (q1 j y hy).1
   have i0 : (0 : Int) ≤ (j : Int) := by omega
   have i1 : (j : Int) < (L : Int) := by omega
   have HY : Hid (l[j]? = some y) := hy
   clear q1 hy
   obtain ⟨y1, y2⟩ := y
   simp only at r1
   cases hq : (y1.toList == x.toList) with
   | true =>
    have HR : Hid (bindIdx l x = some j) := bindIdx_hit HAG.out HY.out (text_same hq)
    go_wp2
    go_ret
    exact ⟨by rw [HR.out]; rfl, rfl⟩
   | false =>
    have HR : Hid (∀ k z, k < j + 1 → l[k]? = some z → z.1 ≠ x) := fun k z hk hz => by
     rcases Nat.lt_or_ge k j with c | c
     ·exact HAG.out k z c hz
     ·obtain rfl : k = j := by omega
      rw [HY.out] at hz
      obtain rfl := Option.some.inj hz
      exact text_other hq
    go_wp2
    exact ⟨⟨j + 1, by go_num, hlt, HR.out⟩, by simp [intOf]; omega⟩
  ·obtain rfl : j = L := by omega
   have HE : Hid (bindIdx l x = none) := bindIdx_miss (fun k z hk hz => HAG.out k z (by have := HL.out; omega) hz)
   go_wp2
   go_ret
   exact ⟨by rw [HE.out]; rfl, rfl⟩

theorem bindOf_idx {l : Binds} {x : ByteArray} {k : Nat} (h : bindIdx l x = some k) : ∃ y, l[k]? = some y ∧ bindOf l x = some y.2 := by
 unfold bindIdx at h
 unfold bindOf
 obtain ⟨hk, hx, hn⟩ := List.findIdx?_eq_some_iff_getElem.1 h
 refine ⟨l[k], by simp, ?_⟩
 have e : l.find? (fun y => decide (y.1 = x)) = some l[k] := List.find?_eq_some_iff_getElem.2 ⟨hx, k, hk, rfl, fun j hj => by simpa using hn j hj⟩
 rw [e]
 rfl
theorem bindOf_none {l : Binds} {x : ByteArray} (h : bindIdx l x = none) : bindOf l x = none := by
 unfold bindIdx at h
 unfold bindOf
 rw [List.find?_eq_none.2 (fun y hy => by have := List.findIdx?_eq_none_iff.1 h y hy; simpa using this)]
 rfl

set_option maxHeartbeats 2000000 in
theorem rget_any (l r : Binds) (v u : Value) (x : ByteArray) (w : World) (h : BindsAt w v l) (h2 : BindsAt w u r) (hs : l.length ≤ 1099511627776) (hs2 : r.length ≤ 1099511627776) :
  Calls Tryz.prog 290 #[v, u, .string x] w fun e w' => e = .returned (.string (((bindOf l x).or (bindOf r x)).getD ⟨#[]⟩)) ∧ w' = w := by
 have HF : Hid (Calls Tryz.prog 214 #[v, .string x] w fun e w' => e = .returned (.int .i64 (idxI (bindIdx l x))) ∧ w' = w) := rfind_any l v x w h hs
 have HF2 : Hid (Calls Tryz.prog 214 #[u, .string x] w fun e w' => e = .returned (.int .i64 (idxI (bindIdx r x))) ∧ w' = w) := rfind_any r u x w h2 hs2
 cases hi : bindIdx l x with
 | some k =>
  obtain ⟨y, hy, hb⟩ := bindOf_idx hi
  have HR : Hid (((bindOf l x).or (bindOf r x)).getD ⟨#[]⟩ = y.2) := by rw [hb]; rfl
  obtain ⟨ao, c, rfl, hc, e | ⟨b, o, rfl, hce⟩⟩ := h
  ·rw [e.1] at hy; simp at hy
  ·have r1 := (hce k y hy).2
   have hk : k < l.length := (List.getElem?_eq_some_iff.1 hy).1
   rw [hi] at HF
   have k0 : (0 : Int) ≤ (k : Int) := by omega
   have k1 : (k : Int) < (l.length : Int) := by omega
   generalize l.length = L at *
   obtain ⟨y1, y2⟩ := y
   simp only at r1 HR
   clear hce hy hb hi h2 HF2
   go_enter Tryz.func290, Tryz.ntmps290
   go_wp2_with fail
   refine HF.out.mono ?_
   rintro e w' ⟨rfl, rfl⟩
   simp only [idxI]
   go_wp2
   go_ret
   exact ⟨by rw [HR.out]; rfl, rfl⟩
 | none =>
  have hb := bindOf_none hi
  rw [hi] at HF
  obtain ⟨al, cl, rfl, _, _⟩ := h
  generalize l.length = LL at *
  cases hj : bindIdx r x with
  | some k =>
   obtain ⟨y, hy, hb2⟩ := bindOf_idx hj
   have HR : Hid (((bindOf l x).or (bindOf r x)).getD ⟨#[]⟩ = y.2) := by rw [hb, hb2]; rfl
   obtain ⟨ao, c, rfl, hc, e | ⟨b, o, rfl, hce⟩⟩ := h2
   ·rw [e.1] at hy; simp at hy
   ·have r1 := (hce k y hy).2
    have hk : k < r.length := (List.getElem?_eq_some_iff.1 hy).1
    rw [hj] at HF2
    have k0 : (0 : Int) ≤ (k : Int) := by omega
    have k1 : (k : Int) < (r.length : Int) := by omega
    generalize r.length = L at *
    obtain ⟨y1, y2⟩ := y
    simp only at r1 HR
    clear hce hy hb hi hj hb2
    go_enter Tryz.func290, Tryz.ntmps290
    go_wp2_with fail
    refine HF.out.mono ?_
    rintro e w' ⟨rfl, rfl⟩
    simp only [idxI]
    go_wp2_with fail
    refine HF2.out.mono ?_
    rintro e w' ⟨rfl, rfl⟩
    simp only [idxI]
    go_wp2
    go_ret
    exact ⟨by rw [HR.out]; rfl, rfl⟩
  | none =>
   have HR : Hid (((bindOf l x).or (bindOf r x)).getD ⟨#[]⟩ = ⟨#[]⟩) := by rw [hb, bindOf_none hj]; rfl
   rw [hj] at HF2
   obtain ⟨ao, c, rfl, _, _⟩ := h2
   generalize r.length = L at *
   clear hb hi hj
   go_enter Tryz.func290, Tryz.ntmps290
   go_wp2_with fail
   refine HF.out.mono ?_
   rintro e w' ⟨rfl, rfl⟩
   simp only [idxI]
   go_wp2_with fail
   refine HF2.out.mono ?_
   rintro e w' ⟨rfl, rfl⟩
   simp only [idxI]
   go_wp2
   go_ret
   exact ⟨by rw [HR.out]; rfl, rfl⟩
end Go.Proofs.YthhbpebihgjpjaaGreatDoor

namespace Go.Proofs.YthhbpebihgjpjaaGreatDoor
open Go.RowKit
set_option maxRecDepth 1000000

abbrev Form := ByteArray ⊕ ByteArray
def Form.val (E : ByteArray → ByteArray) : Form → ByteArray
 | .inl b => b
 | .inr x => E x
def formAt (t : ByteArray) (i : Nat) : Option (Form × Nat) :=
 if t.size ≤ i + 1 then none
 else if byteOf t (i + 1) = 36 ∨ byteOf t (i + 1) = 32 ∨ byteOf t (i + 1) = 58 ∨ byteOf t (i + 1) = 124 then some (.inl (t.extract (i + 1) (i + 2)), i + 2)
 else if byteOf t (i + 1) = 123 then
  (if wordLenB (t.extract (i + 2) t.size) = 0 ∨ t.size ≤ i + 2 + wordLenB (t.extract (i + 2) t.size) ∨ byteOf t (i + 2 + wordLenB (t.extract (i + 2) t.size)) ≠ 125 then none
   else some (.inr (t.extract (i + 2) (i + 2 + wordLenB (t.extract (i + 2) t.size))), i + wordLenB (t.extract (i + 2) t.size) + 3))
 else if wordLenB (t.extract (i + 1) t.size) = 0 then none
 else some (.inr (t.extract (i + 1) (i + 1 + wordLenB (t.extract (i + 1) t.size))), i + 1 + wordLenB (t.extract (i + 1) t.size))
theorem formAt_le {t : ByteArray} {i k : Nat} {f : Form} (h : formAt t i = some (f, k)) : i + 1 < k ∧ k ≤ t.size := by
 unfold formAt at h
 split at h
 ·cases h
 split at h
 ·have := (Prod.mk.inj (Option.some.inj h)).2; omega
 split at h
 ·split at h
  ·cases h
  ·have := (Prod.mk.inj (Option.some.inj h)).2; omega
 split at h
 ·cases h
 ·rename_i h1 h2 h3 h4
  have hk := (Prod.mk.inj (Option.some.inj h)).2
  have hl : wordLenB (t.extract (i + 1) t.size) ≤ (t.extract (i + 1) t.size).size := spanLen_le _ _
  rw [ByteArray.size_extract] at hl
  omega
def expandFrom (E : ByteArray → ByteArray) (t : ByteArray) : Nat → Nat → ByteArray → Option ByteArray
 | 0, i, out => if t.size ≤ i then some out else none
 | g + 1, i, out =>
  if t.size ≤ i then some out
  else if byteOf t i ≠ 36 then expandFrom E t g (i + 1) (out ++ t.extract i (i + 1))
  else match formAt t i with
   | none => none
   | some (f, k) => if 4000 < (out ++ f.val E).size then none else expandFrom E t g k (out ++ f.val E)
def expandS (E : ByteArray → ByteArray) (t : ByteArray) : Option ByteArray := expandFrom E t t.size 0 ⟨#[]⟩
theorem expandFrom_fuel (E : ByteArray → ByteArray) (t : ByteArray) : ∀ (g g' i : Nat) (out : ByteArray), t.size ≤ i + g → t.size ≤ i + g' → expandFrom E t g i out = expandFrom E t g' i out
 | 0, 0, _, _, _, _ => rfl
 | 0, g' + 1, i, out, h, _ => by rw [expandFrom, expandFrom, if_pos (by omega), if_pos (by omega)]
 | g + 1, 0, i, out, _, h => by rw [expandFrom, expandFrom, if_pos (by omega), if_pos (by omega)]
 | g + 1, g' + 1, i, out, h, h' => by
  rw [expandFrom, expandFrom]
  by_cases c : t.size ≤ i
  ·rw [if_pos c, if_pos c]
  ·rw [if_neg c, if_neg c]
   by_cases d : byteOf t i ≠ 36
   ·rw [if_pos d, if_pos d]
    exact expandFrom_fuel E t g g' _ _ (by omega) (by omega)
   ·rw [if_neg d, if_neg d]
    cases hf : formAt t i with
    | none => rfl
    | some p =>
     obtain ⟨f, k⟩ := p
     have hk := formAt_le hf
     simp only
     by_cases q : 4000 < (out ++ f.val E).size
     ·rw [if_pos q, if_pos q]
     ·rw [if_neg q, if_neg q]
      exact expandFrom_fuel E t g g' _ _ (by omega) (by omega)
def expandAt (E : ByteArray → ByteArray) (t : ByteArray) (i : Nat) (out : ByteArray) : Option ByteArray := expandFrom E t (t.size - i) i out
theorem expandAt_end (E : ByteArray → ByteArray) (t : ByteArray) (i : Nat) (out : ByteArray) (h : t.size ≤ i) : expandAt E t i out = some out := by
 unfold expandAt
 rw [show t.size - i = 0 by omega, expandFrom, if_pos h]
theorem expandAt_plain (E : ByteArray → ByteArray) (t : ByteArray) (i : Nat) (out : ByteArray) (h : i < t.size) (hc : byteOf t i ≠ 36) : expandAt E t i out = expandAt E t (i + 1) (out ++ t.extract i (i + 1)) := by
 unfold expandAt
 rw [show t.size - i = (t.size - (i + 1)) + 1 by omega, expandFrom, if_neg (by omega), if_pos hc]
theorem expandAt_none (E : ByteArray → ByteArray) (t : ByteArray) (i : Nat) (out : ByteArray) (h : i < t.size) (hc : byteOf t i = 36) (hf : formAt t i = none) : expandAt E t i out = none := by
 unfold expandAt
 rw [show t.size - i = (t.size - (i + 1)) + 1 by omega, expandFrom, if_neg (by omega), if_neg (by simpa using hc), hf]
theorem expandAt_form (E : ByteArray → ByteArray) (t : ByteArray) (i k : Nat) (f : Form) (out : ByteArray) (h : i < t.size) (hc : byteOf t i = 36) (hf : formAt t i = some (f, k)) : expandAt E t i out = if 4000 < (out ++ f.val E).size then none else expandAt E t k (out ++ f.val E) := by
 have hk := formAt_le hf
 unfold expandAt
 rw [show t.size - i = (t.size - (i + 1)) + 1 by omega, expandFrom, if_neg (by omega), if_neg (by simpa using hc), hf]
 simp only
 rw [expandFrom_fuel E t (t.size - (i + 1)) (t.size - k) k _ (by omega) (by omega)]
end Go.Proofs.YthhbpebihgjpjaaGreatDoor

namespace Go.Proofs.YthhbpebihgjpjaaGreatDoor
open Go.RowKit
set_option maxRecDepth 1000000

def expPost (o : Option ByteArray) : Value := .tuple #[.string (o.getD ⟨#[]⟩), .bool o.isSome]
def envOf (own top : Binds) (x : ByteArray) : ByteArray := ((bindOf own x).or (bindOf top x)).getD ⟨#[]⟩
theorem index_next (t : ByteArray) (j k : Nat) (z : Int) (hz : z = ((j + k : Nat) : Int)) (h : j + k < t.size) (wx : World) : (Instr.index 9 (.string t) (.int .i64 z)).run Tryz.prog wx = .ok (.int .u8 (byteOf t (j + k))) wx := by
 subst hz; exact run_index_text t (j + k) h wx
theorem slice_next (t : ByteArray) (n : Nat) (z : Int) (hz : z = (n : Int)) (h : n ≤ t.size) (wx : World) : (Instr.slice 9 (.string t) (some (.int .i64 z)) none none).run Tryz.prog wx = .ok (.string (t.extract n t.size)) wx := by
 subst hz; exact slice_from t n h wx
theorem slice_mid (t : ByteArray) (a b : Nat) (y z : Int) (hy : y = (a : Int)) (hz : z = (b : Int)) (h : a ≤ b) (h2 : b ≤ t.size) (wx : World) : (Instr.slice 9 (.string t) (some (.int .i64 y)) (some (.int .i64 z)) none).run Tryz.prog wx = .ok (.string (t.extract a b)) wx := by
 subst hy hz
 simp [Instr.slice, run_underlying Tryz.underlying9, go_sem, h, h2]
end Go.Proofs.YthhbpebihgjpjaaGreatDoor

namespace Go.Proofs.YthhbpebihgjpjaaGreatDoor
open Go.RowKit Go.Shelf
set_option maxRecDepth 1000000

theorem byteOf_extract (t : ByteArray) (a b k : Nat) (h : a + k < b) (hb : b ≤ t.size) : byteOf (t.extract a b) k = byteOf t (a + k) := by
 unfold byteOf
 rw [ByteArray.data_extract, Array.getElem?_extract, if_pos (by show k < min b t.data.size - a; have : t.data.size = t.size := rfl; omega)]
theorem extract_of (t : ByteArray) (a b c d : Nat) (h : a + d ≤ b) : (t.extract a b).extract c d = t.extract (a + c) (a + d) := by
 rw [ByteArray.extract_extract, Nat.min_eq_left h]
theorem below_drewN {B : Nat} {a w : World} (h : Below B a w) (n : Nat) : Below B a (w.drewN n) := ⟨h.os, h.tape, h.output, h.size, h.block⟩
theorem below_store3 (w : World) (o : Obj) (n : Nat) (x y z : Value) : Below w.heap.size w (((((w.alloc o).drewN n).setCell ⟨w.heap.size, 0, none⟩ x).setCell ⟨w.heap.size, 1, none⟩ y).setCell ⟨w.heap.size, 2, none⟩ z) :=
 (((below_drewN ((Below.refl _ _).alloc (Nat.le_refl _) _) n).setCell (p := ⟨w.heap.size, 0, none⟩) (Nat.le_refl _) x).setCell (p := ⟨w.heap.size, 1, none⟩) (Nat.le_refl _) y).setCell (p := ⟨w.heap.size, 2, none⟩) (Nat.le_refl _) z
def begins (t : ByteArray) (c : Nat) : Bool := decide (0 < t.size ∧ byteOf t 0 = c)
theorem begins_prefix (t : ByteArray) (c : UInt8) : Lib.hasPrefix t.data.toList [c] = begins t c.toNat := by
 unfold Lib.hasPrefix begins byteOf
 rw [← Array.getElem?_toList]
 have hs : t.size = t.data.toList.length := by rw [Array.length_toList]; rfl
 rw [hs]
 cases t.data.toList with
 | nil => rfl
 | cons d l =>
  show (c == d && ([] : List UInt8).isPrefixOf l) = _
  rw [Bool.eq_iff_iff]
  simp
  exact ⟨fun e => by rw [e], fun e => (UInt8.toNat_inj.1 e).symm⟩
def formU (u : ByteArray) : Option (Form × Nat) :=
 if u.size = 0 then none
 else if byteOf u 0 = 36 ∨ byteOf u 0 = 32 ∨ byteOf u 0 = 58 ∨ byteOf u 0 = 124 then some (.inl (u.extract 0 1), 1)
 else if byteOf u 0 = 123 then
  (if wordLenB (u.extract 1 u.size) = 0 ∨ begins (tailB (u.extract 1 u.size)) 125 = false then none else some (.inr (headB (u.extract 1 u.size)), wordLenB (u.extract 1 u.size) + 2))
 else if wordLenB u = 0 then none
 else some (.inr (headB u), wordLenB u)
theorem formAt_u (t : ByteArray) (i : Nat) (h : i < t.size) : formAt t i = (formU (t.extract (i + 1) t.size)).map fun p => (p.1, i + 1 + p.2) := by
 have hsz : (t.extract (i + 1) t.size).size = t.size - (i + 1) := by rw [ByteArray.size_extract]; omega
 unfold formAt formU
 rw [hsz]
 by_cases h0 : t.size ≤ i + 1
 ·rw [if_pos h0, if_pos (show t.size - (i + 1) = 0 by omega)]; rfl
 ·rw [if_neg h0, if_neg (show ¬ t.size - (i + 1) = 0 by omega)]
  have hb0 : byteOf (t.extract (i + 1) t.size) 0 = byteOf t (i + 1) := by rw [byteOf_extract _ _ _ _ (by omega) (Nat.le_refl _)]
  rw [hb0]
  by_cases h1 : byteOf t (i + 1) = 36 ∨ byteOf t (i + 1) = 32 ∨ byteOf t (i + 1) = 58 ∨ byteOf t (i + 1) = 124
  ·rw [if_pos h1, if_pos h1, extract_of _ _ _ _ _ (by omega)]; rfl
  ·rw [if_neg h1, if_neg h1]
   have hx1 : (t.extract (i + 1) t.size).extract 1 (t.size - (i + 1)) = t.extract (i + 2) t.size := by
    rw [extract_of _ _ _ _ _ (by omega), show i + 1 + (t.size - (i + 1)) = t.size by omega]
   by_cases h2 : byteOf t (i + 1) = 123
   ·rw [if_pos h2, if_pos h2, hx1]
    have hl : wordLenB (t.extract (i + 2) t.size) ≤ (t.extract (i + 2) t.size).size := spanLen_le _ _
    have hsz2 : (t.extract (i + 2) t.size).size = t.size - (i + 2) := by rw [ByteArray.size_extract]; omega
    have htl : tailB (t.extract (i + 2) t.size) = t.extract (i + 2 + wordLenB (t.extract (i + 2) t.size)) t.size := by
     unfold tailB
     rw [hsz2, extract_of _ _ _ _ _ (by omega), show i + 2 + (t.size - (i + 2)) = t.size by omega]
    have hhd : headB (t.extract (i + 2) t.size) = t.extract (i + 2) (i + 2 + wordLenB (t.extract (i + 2) t.size)) := by
     unfold headB
     rw [extract_of _ _ _ _ _ (by omega), Nat.add_zero]
    rw [htl, hhd]
    generalize wordLenB (t.extract (i + 2) t.size) = N at *
    have hbg : begins (t.extract (i + 2 + N) t.size) 125 = false ↔ (t.size ≤ i + 2 + N ∨ byteOf t (i + 2 + N) ≠ 125) := by
     unfold begins
     rw [decide_eq_false_iff_not, ByteArray.size_extract]
     by_cases hq : t.size ≤ i + 2 + N
     ·exact ⟨fun _ => Or.inl hq, fun _ hc => by omega⟩
     ·rw [byteOf_extract _ _ _ _ (by omega) (Nat.le_refl _)]
      show ¬ (_ ∧ byteOf t (i + 2 + N) = 125) ↔ _
      omega
    by_cases h3 : N = 0 ∨ t.size ≤ i + 2 + N ∨ byteOf t (i + 2 + N) ≠ 125
    ·rw [if_pos h3, if_pos (h3.imp id hbg.2)]; rfl
    ·rw [if_neg h3, if_neg (fun c => h3 (c.imp id hbg.1))]
     show some (_, _) = some (_, i + 1 + (N + 2))
     rw [show i + 1 + (N + 2) = i + N + 3 by omega]
   ·rw [if_neg h2, if_neg h2]
    have hl : wordLenB (t.extract (i + 1) t.size) ≤ (t.extract (i + 1) t.size).size := spanLen_le _ _
    have hhd : headB (t.extract (i + 1) t.size) = t.extract (i + 1) (i + 1 + wordLenB (t.extract (i + 1) t.size)) := by
     unfold headB
     rw [extract_of _ _ _ _ _ (by omega), Nat.add_zero]
    rw [hhd]
    generalize wordLenB (t.extract (i + 1) t.size) = N at *
    by_cases h3 : N = 0
    ·rw [if_pos h3, if_pos h3]; rfl
    ·rw [if_neg h3, if_neg h3]; rfl
def FormIs : Option (Form × Nat) → ByteArray → ByteArray → Int → Prop
 | none, _, _, _ => True
 | some (.inl b, n), lit, var, k => lit = b ∧ var = ⟨#[]⟩ ∧ k = n
 | some (.inr x, n), lit, var, k => lit = ⟨#[]⟩ ∧ var = x ∧ k = n
def formPost (o : Option (Form × Nat)) (e : Ending) : Prop := ∃ lit var k, e = .returned (.tuple #[.agg #[.string lit, .string var, .int .i64 k], .bool o.isSome]) ∧ FormIs o lit var k
set_option maxHeartbeats 4000000 in
theorem formOf_any (u : ByteArray) (hu : u.size ≤ 1048576) (w : World) :
  Calls Tryz.prog 273 #[.string u] w fun e w' => formPost (formU u) e ∧ Below w.heap.size w w' := by
 have hn := nil_iff u
 have HU : Hid (u.size ≤ 1048576) := hu
 by_cases h0 : u.size = 0
 ·have HF : Hid (formU u = none) := by show _ = _; unfold formU; rw [if_pos h0]
  rw [decide_eq_true h0] at hn
  go_enter Tryz.func273, Tryz.ntmps273
  go_wp2
  refine bodyPost_ret (v := .tuple #[.agg #[.string ⟨#[]⟩, .string ⟨#[]⟩, .int .i64 0], .bool false]) (by simp [results, Tryz.results273, go_sem]) rfl ⟨?_, ?_⟩
  ·rw [HF.out]; exact ⟨_, _, _, rfl, trivial⟩
  ·exact (Below.refl _ _).alloc (Nat.le_refl _) _
 ·rw [decide_eq_false h0] at hn
  have u0 : (0 : Int) < (u.size : Int) := by omega
  have hidx : ∀ wx, (Instr.index 9 (.string u) (.int .i64 0)).run Tryz.prog wx = .ok (.int .u8 (byteOf u 0)) wx := fun wx => run_index_text u 0 (by omega) wx
  have HFU : Hid (formU u = (if byteOf u 0 = 36 ∨ byteOf u 0 = 32 ∨ byteOf u 0 = 58 ∨ byteOf u 0 = 124 then some (.inl (u.extract 0 1), 1)
    else if byteOf u 0 = 123 then
     (if wordLenB (u.extract 1 u.size) = 0 ∨ begins (tailB (u.extract 1 u.size)) 125 = false then none else some (.inr (headB (u.extract 1 u.size)), wordLenB (u.extract 1 u.size) + 2))
    else if wordLenB u = 0 then none
    else some (.inr (headB u), wordLenB u))) := by
   show _ = _
   conv => lhs; unfold formU
   rw [if_neg h0]
  by_cases h4 : byteOf u 0 = 36 ∨ byteOf u 0 = 32 ∨ byteOf u 0 = 58 ∨ byteOf u 0 = 124
  ·have HF : Hid (formU u = some (.inl (u.extract 0 1), 1)) := by rw [HFU.out, if_pos h4]; rfl
   have hsl : ∀ wx, (Instr.slice 9 (.string u) none (some (.int .i64 1)) none).run Tryz.prog wx = .ok (.string (u.extract 0 1)) wx := fun wx => slice_head u 1 (by omega) wx
   clear HFU
   generalize u.extract 0 1 = V at *
   rcases h4 with h4 | h4 | h4 | h4
   all_goals
    rw [h4] at hidx
    clear h4
    go_enter Tryz.func273, Tryz.ntmps273
    go_wp2
    refine bodyPost_ret (v := .tuple #[.agg #[.string V, .string ⟨#[]⟩, .int .i64 1], .bool true]) (by simp [results, Tryz.results273, go_sem]) rfl ⟨?_, ?_⟩
    ·rw [HF.out]; exact ⟨_, _, _, rfl, rfl, rfl, rfl⟩
    ·exact (Below.refl _ _).alloc (Nat.le_refl _) _
  ·rw [if_neg h4] at HFU
   have q1 : ((byteOf u 0 : Int) == 36) = false := by simp; omega
   have q2 : ((byteOf u 0 : Int) == 32) = false := by simp; omega
   have q3 : ((byteOf u 0 : Int) == 58) = false := by simp; omega
   have q4 : ((byteOf u 0 : Int) == 124) = false := by simp; omega
   clear h4
   by_cases h123 : byteOf u 0 = 123
   ·rw [if_pos h123] at HFU
    rw [h123] at hidx
    clear q1 q2 q3 q4 h123
    have hs1 : ∀ wx, (Instr.slice 9 (.string u) (some (.int .i64 1)) none none).run Tryz.prog wx = .ok (.string (u.extract 1 u.size)) wx := fun wx => slice_from u 1 (by omega) wx
    have hsz : (u.extract 1 u.size).size ≤ 1048576 := by rw [ByteArray.size_extract]; omega
    generalize u.extract 1 u.size = S at *
    have HCW : Hid (∀ wx, Calls Tryz.prog 194 #[.string S] wx fun e w' => e = .returned (.tuple #[.string (headB S), .string (tailB S)]) ∧ ∃ n, w' = wx.drewN n) := fun wx => cutWord_any S (by omega) wx
    have hpre : ∀ wx, Calls Tryz.prog 193 #[.string (tailB S), .string ⟨#[125]⟩] wx fun e w' => e = .returned (.bool (begins (tailB S) 125)) ∧ w' = wx := fun wx => by
     have := Any.strings_HasPrefix Tryz.lays99 (tailB S) ⟨#[125]⟩ wx
     rw [show (⟨#[125]⟩ : ByteArray).data.toList = [125] from rfl, begins_prefix] at this
     exact this
    have HPRE : Hid (∀ wx, Calls Tryz.prog 193 #[.string (tailB S), .string ⟨#[125]⟩] wx fun e w' => e = .returned (.bool (begins (tailB S) 125)) ∧ w' = wx) := hpre
    have hl : wordLenB S ≤ S.size := spanLen_le _ _
    have hhs := headB_size S
    have hnn := nil_iff (headB S)
    rw [hhs] at hnn
    clear hpre
    generalize begins (tailB S) 125 = B at *
    generalize tailB S = TL at *
    generalize headB S = HD at *
    have hd0 : (HD.size : Int) ≤ 1048576 := by omega
    have hd1 : HD.size = wordLenB S := hhs
    rw [← hd1] at HFU hnn
    clear hhs hl
    generalize wordLenB S = N at *
    subst hd1
    by_cases hN : HD.size = 0
    ·rw [decide_eq_true hN] at hnn
     have HF : Hid (formU u = none) := by rw [HFU.out, if_pos (Or.inl hN)]; rfl
     go_enter Tryz.func273, Tryz.ntmps273
     go_wp2_with fail
     refine (HCW.out _).mono ?_
     rintro e w2 ⟨rfl, n2, rfl⟩
     go_wp2_with fail
     refine bodyPost_ret (v := .tuple #[.agg #[.string ⟨#[]⟩, .string HD, .int .i64 2], .bool false]) (by simp [results, Tryz.results273, go_sem]) rfl ⟨?_, ?_⟩
     ·rw [HF.out]; exact ⟨_, _, _, rfl, trivial⟩
     ·exact below_store3 w _ n2 _ _ _
    ·rw [decide_eq_false hN] at hnn
     go_enter Tryz.func273, Tryz.ntmps273
     go_wp2_with fail
     refine (HCW.out _).mono ?_
     rintro e w2 ⟨rfl, n2, rfl⟩
     go_wp2_with fail
     refine (HPRE.out _).mono ?_
     rintro e w3 ⟨rfl, rfl⟩
     cases B with
     | false =>
      have HF : Hid (formU u = none) := by rw [HFU.out, if_pos (Or.inr rfl)]; rfl
      go_wp2_with fail
      refine bodyPost_ret (v := .tuple #[.agg #[.string ⟨#[]⟩, .string HD, .int .i64 ((HD.size : Int) + 2)], .bool false]) (by simp [results, Tryz.results273, go_sem]) rfl ⟨?_, ?_⟩
      ·rw [HF.out]; exact ⟨_, _, _, rfl, trivial⟩
      ·exact below_store3 w _ n2 _ _ _
     | true =>
      have HF : Hid (formU u = some (.inr HD, HD.size + 2)) := by rw [HFU.out, if_neg (by simp [hN])]; rfl
      go_wp2_with fail
      refine bodyPost_ret (v := .tuple #[.agg #[.string ⟨#[]⟩, .string HD, .int .i64 ((HD.size : Int) + 2)], .bool true]) (by simp [results, Tryz.results273, go_sem]) rfl ⟨?_, ?_⟩
      ·rw [HF.out]; exact ⟨_, _, _, rfl, rfl, rfl, by omega⟩
      ·exact below_store3 w _ n2 _ _ _
   ·rw [if_neg h123] at HFU
    have q5 : ((byteOf u 0 : Int) == 123) = false := by simp; omega
    generalize byteOf u 0 = y at *
    have HCW : Hid (∀ wx, Calls Tryz.prog 194 #[.string u] wx fun e w' => e = .returned (.tuple #[.string (headB u), .string (tailB u)]) ∧ ∃ n, w' = wx.drewN n) := fun wx => cutWord_any u (by omega) wx
    have hl : wordLenB u ≤ u.size := spanLen_le _ _
    have hhs := headB_size u
    have hnn := nil_iff (headB u)
    rw [hhs] at hnn
    generalize tailB u = TL at *
    generalize headB u = HD at *
    have hd0 : (HD.size : Int) ≤ 1048576 := by omega
    have hd1 : HD.size = wordLenB u := hhs
    rw [← hd1] at HFU hnn
    clear hhs hl
    generalize wordLenB u = N at *
    subst hd1
    by_cases hN : HD.size = 0
    ·rw [decide_eq_true hN] at hnn
     have HF : Hid (formU u = none) := by rw [HFU.out, if_pos hN]; rfl
     go_enter Tryz.func273, Tryz.ntmps273
     go_wp2_with fail
     refine (HCW.out _).mono ?_
     rintro e w2 ⟨rfl, n2, rfl⟩
     go_wp2_with fail
     refine bodyPost_ret (v := .tuple #[.agg #[.string ⟨#[]⟩, .string HD, .int .i64 0], .bool false]) (by simp [results, Tryz.results273, go_sem]) rfl ⟨?_, ?_⟩
     ·rw [HF.out]; exact ⟨_, _, _, rfl, trivial⟩
     ·exact below_store3 w _ n2 _ _ _
    ·rw [decide_eq_false hN] at hnn
     have HF : Hid (formU u = some (.inr HD, HD.size)) := by rw [HFU.out, if_neg hN]; rfl
     go_enter Tryz.func273, Tryz.ntmps273
     go_wp2_with fail
     refine (HCW.out _).mono ?_
     rintro e w2 ⟨rfl, n2, rfl⟩
     go_wp2_with fail
     refine bodyPost_ret (v := .tuple #[.agg #[.string ⟨#[]⟩, .string HD, .int .i64 HD.size], .bool true]) (by simp [results, Tryz.results273, go_sem]) rfl ⟨?_, ?_⟩
     ·rw [HF.out]; exact ⟨_, _, _, rfl, rfl, rfl, rfl⟩
     ·exact below_store3 w _ n2 _ _ _
end Go.Proofs.YthhbpebihgjpjaaGreatDoor
