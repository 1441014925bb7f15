import Derived.Test.YthhbpebihgjpjaaGreatDoorP05
import Derived.Lib.SplitLaws
import Derived.Lib.CountLaws
import Derived.Test.YthhbpebihgjpjaaGreatDoorP03
import Derived.Maps.OwnOps
import Derived.Maps.OwnSet
import Derived.Maps.Views
namespace Go.Proofs.YthhbpebihgjpjaaGreatDoor
open Go.RowKit Go.Shelf
set_option maxRecDepth 1000000

theorem dol_size (t : ByteArray) : ((⟨(Lib.trimRightB t.data.toList 36).toArray⟩ : ByteArray).size) = t.size - dolB t := by
 show (Lib.trimRightB t.data.toList 36).toArray.size = _
 unfold Lib.trimRightB dolB dolL
 rw [List.size_toArray, List.length_reverse]
 have h := spanL_drop (· == 36) t.data.toList.reverse
 have e : (t.data.toList.reverse.dropWhile fun c => c.toNat == 36) = t.data.toList.reverse.dropWhile (· == 36) := by
  congr 1
  funext c
  rw [Bool.eq_iff_iff]
  simp only [beq_iff_eq]
  exact ⟨fun e => UInt8.toNat_inj.1 e, fun e => by rw [e]; rfl⟩
 rw [← e, ← h, List.length_drop, List.length_reverse, Array.length_toList]
 rfl
theorem dolB_le (t : ByteArray) : dolB t ≤ t.size := by
 unfold dolB dolL
 refine Nat.le_trans (spanL_le _ _) ?_
 rw [List.length_reverse, Array.length_toList]
 exact Nat.le_refl _
theorem cutJoint_any (t : ByteArray) (ht : t.size ≤ 1048576) (w : World) :
  Calls Tryz.prog 260 #[.string t] w fun e w' => e = .returned (.tuple #[.string (partB t), .bool (oddB t)]) ∧ w' = w := by
 have HC : Hid (Calls Tryz.prog 313 #[.string t, .string ⟨#[36]⟩] w fun e w' => e = .returned (.string ⟨(Lib.trimRightB t.data.toList 36).toArray⟩) ∧ w' = w) := Any.strings_TrimRight_one Tryz.lays162 t 36 (by decide) w (by omega)
 have hsz := dol_size t
 have hdl := dolB_le t
 generalize (⟨(Lib.trimRightB t.data.toList 36).toArray⟩ : ByteArray) = T at *
 have t0 : (t.size : Int) ≤ 1048576 := by omega
 have t1 : (T.size : Int) ≤ (t.size : Int) := by omega
 have hsub : (t.size : Int) - (T.size : Int) = (dolB t : Int) := by omega
 have HO : Hid (oddB t = decide (dolB t % 2 = 1)) := rfl
 have HP : Hid (partB t = if oddB t = true then t.extract 0 (t.size - 1) else t) := rfl
 have d0 : (0 : Int) ≤ (dolB t : Int) := by omega
 have d1 : (dolB t : Int) ≤ 1048576 := by omega
 generalize dolB t = D at *
 clear hsz
 by_cases hodd : D % 2 = 1
 ·have hO : oddB t = true := by rw [HO.out]; exact decide_eq_true hodd
  have hP : partB t = t.extract 0 (t.size - 1) := by rw [HP.out, if_pos hO]
  rw [hO, hP]
  have q : ((D : Int) % 2 == 0) = false := by simp; omega
  have hsl : ∀ wx, (Instr.slice 9 (.string t) none (some (.int .i64 ((t.size : Int) - 1))) none).run Tryz.prog wx = .ok (.string (t.extract 0 (t.size - 1))) wx := fun wx => by
   have := slice_head t (t.size - 1) (by omega) wx
   rw [show ((t.size - 1 : Nat) : Int) = (t.size : Int) - 1 by omega] at this
   exact this
  generalize t.extract 0 (t.size - 1) = V at *
  clear hO hP
  go_enter Tryz.func260, Tryz.ntmps260
  go_wp2_with fail
  refine HC.out.mono ?_
  rintro e w' ⟨rfl, rfl⟩
  go_wp2_with fail
  go_ret2
  exact ⟨rfl, rfl⟩
 ·have hO : oddB t = false := by rw [HO.out]; exact decide_eq_false hodd
  have hP : partB t = t := by rw [HP.out, if_neg (by rw [hO]; decide)]
  rw [hO, hP]
  have q : ((D : Int) % 2 == 0) = true := by simp; omega
  clear hO hP
  go_enter Tryz.func260, Tryz.ntmps260
  go_wp2_with fail
  refine HC.out.mono ?_
  rintro e w' ⟨rfl, rfl⟩
  go_wp2_with fail
  go_ret2
  exact ⟨rfl, rfl⟩
theorem partB_le (t : ByteArray) : (partB t).size ≤ t.size := by
 unfold partB
 split
 ·rw [ByteArray.size_extract]; omega
 ·exact Nat.le_refl _
theorem addLast_snoc (l : List Line) (x : Line) (s : ByteArray) : addLast (l ++ [x]) s = l ++ [(x.1, x.2 ++ s)] := by
 unfold addLast
 rw [List.getLast?_append, List.getLast?_singleton]
 simp
def sumL (l : List Line) : Nat := (l.map (·.2.size)).sum
def sumR (l : List ByteArray) : Nat := (l.map (·.size)).sum
theorem sumL_append (l r : List Line) : sumL (l ++ r) = sumL l + sumL r := by unfold sumL; rw [List.map_append, List.sum_append]
theorem sumL_mem : ∀ {l : List Line} {x : Line}, x ∈ l → x.2.size ≤ sumL l
 | y :: l, x, h => by
  have e : sumL (y :: l) = y.2.size + sumL l := by unfold sumL; simp
  rcases List.mem_cons.1 h with rfl | h
  ·omega
  ·have := sumL_mem h; omega
theorem joinStep_sum (L : List Line) (on : Bool) (no : Nat) (r : ByteArray) : sumL (joinStep L on no r) ≤ sumL L + r.size := by
 have hp := partB_le r
 have hl := leftB_le (partB r)
 unfold joinStep
 split
 ·rcases List.eq_nil_or_concat L with rfl | ⟨l, x, rfl⟩
  ·exact Nat.zero_le _
  ·rw [List.concat_eq_append, addLast_snoc, sumL_append, sumL_append]
   show _ + sumL [(x.1, x.2 ++ leftB (partB r))] ≤ sumL l + sumL [x] + _
   unfold sumL
   simp only [List.map_cons, List.map_nil, List.sum_cons, List.sum_nil, ByteArray.size_append]
   omega
 ·rw [sumL_append]
  show _ + sumL [(no, partB r)] ≤ _
  unfold sumL
  simp only [List.map_cons, List.map_nil, List.sum_cons, List.sum_nil]
  omega
theorem joinFrom_sum : ∀ (R : List ByteArray) (no : Nat) (L : List Line) (on : Bool), sumL (joinFrom no R L on) ≤ sumL L + sumR R
 | [], _, L, _ => by show sumL L ≤ _; omega
 | r :: R, no, L, on => by
  have h1 := joinFrom_sum R (no + 1) (joinStep L on no r) (oddB r)
  have h2 := joinStep_sum L on no r
  show sumL (joinFrom (no + 1) R (joinStep L on no r) (oddB r)) ≤ sumL L + sumR (r :: R)
  have e : sumR (r :: R) = r.size + sumR R := by unfold sumR; simp
  omega
theorem joinStep_len (L : List Line) (on : Bool) (no : Nat) (r : ByteArray) : (joinStep L on no r).length ≤ L.length + 1 := by
 unfold joinStep
 split
 ·rcases List.eq_nil_or_concat L with rfl | ⟨l, x, rfl⟩
  ·exact Nat.zero_le _
  ·rw [List.concat_eq_append, addLast_snoc, List.length_append, List.length_append]; show _ + 1 ≤ _ + 1 + 1; omega
 ·rw [List.length_append]; exact Nat.le_refl _
theorem joinFrom_len : ∀ (R : List ByteArray) (no : Nat) (L : List Line) (on : Bool), (joinFrom no R L on).length ≤ L.length + R.length
 | [], _, _, _ => Nat.le_refl _
 | r :: R, no, L, on => by
  have h1 := joinFrom_len R (no + 1) (joinStep L on no r) (oddB r)
  have h2 := joinStep_len L on no r
  show (joinFrom (no + 1) R (joinStep L on no r) (oddB r)).length ≤ L.length + (R.length + 1)
  omega
theorem splitB_sum : ∀ (k : Nat) (s : ByteArray), Lib.countB s nl = k → sumR (Lib.splitB nl 0 k s) ≤ s.size
 | 0, s, _ => by show sumR [s] ≤ _; unfold sumR; simp
 | k + 1, s, h => by
  rcases Lib.indexB_cases s nl with hi | ⟨i, hi, hr⟩
  ·rw [Lib.splitB_miss _ _ _ _ hi]; unfold sumR; simp
  ·have hc := Lib.countB_hit s nl i (by decide) hi
   have := splitB_sum k (s.extract (i + nl.size) s.size) (by omega)
   rw [Lib.splitB_hit _ _ _ _ _ hi]
   have e : sumR (s.extract 0 (i + 0) :: Lib.splitB nl 0 k (s.extract (i + nl.size) s.size)) = (s.extract 0 (i + 0)).size + sumR (Lib.splitB nl 0 k (s.extract (i + nl.size) s.size)) := by unfold sumR; simp
   rw [ByteArray.size_extract] at this
   rw [e, ByteArray.size_extract]
   omega
theorem rawB_sum (t : ByteArray) : sumR (rawB t) ≤ t.size := splitB_sum _ t rfl
theorem rawB_length (t : ByteArray) : (rawB t).length = Lib.countB t nl + 1 := Lib.splitB_all nl (by decide) 0 _ t rfl
theorem rawB_count (t : ByteArray) : Lib.countB t nl ≤ t.size := Lib.countB_le nl (by decide) _ t (Nat.le_refl _)
theorem linesS_sum (t : ByteArray) : sumL (linesS t) ≤ t.size := by
 have h1 := joinFrom_sum (rawB t) 1 [] false
 have h2 := rawB_sum t
 have : sumL [] = 0 := rfl
 unfold linesS
 omega
end Go.Proofs.YthhbpebihgjpjaaGreatDoor

namespace Go.Proofs.YthhbpebihgjpjaaGreatDoor
open Go.RowKit Go.Maps
set_option maxRecDepth 1000000

structure Coded where
 R : Value → Option (DataW Unit × List MemPlace)
 inj : ∀ {v v' : Value} {d : DataW Unit} {p p' : List MemPlace}, R v = some (d, p) → R v' = some (d, p') → v = v'
def tkey (name : ByteArray) : Lit := .string name.data.toList
theorem tkey_inj {a b : ByteArray} (h : tkey a = tkey b) : a = b := by
 unfold tkey at h
 injection h with h
 exact ByteArray.ext (Array.toList_inj.1 h)
theorem tkey_ok (name : ByteArray) : WideAt.IsKeyLit (tkey name) := trivial
theorem tkey_of (name : ByteArray) (h : name.size ≤ maxLen) : keyOf Tryz.prog 9 (.string name) = some (tkey name) := WideMaps.keyOf_string_mk Tryz.underlying9 h
theorem tlaw : Keyed Tryz.prog 9 := string_keyed Tryz.underlying9
def TMap (C : Coded) (z : Value) (w : World) (b n : Nat) (f : ByteArray → Option Value) : Prop :=
 ∃ D zd zp, C.R z = some (zd, zp) ∧ w.ownsMap Tryz.prog 9 C.R b n D ∧ (∀ x, Maps.has D (tkey x) = (f x).isSome) ∧ ∀ x, ∃ p, C.R ((f x).getD z) = some (D.atKey (tkey x) zd, p)
theorem TMap.lt {C : Coded} {z : Value} {w : World} {b n : Nat} {f : ByteArray → Option Value} (h : TMap C z w b n f) : b < w.heap.size := let ⟨_, _, _, _, ho, _⟩ := h; ho.lt
theorem TMap.keep {C : Coded} {z : Value} {w w' : World} {b n : Nat} {f : ByteArray → Option Value} (h : TMap C z w b n f) (e : w'.heap[b]? = w.heap[b]?) : TMap C z w' b n f := by
 obtain ⟨D, zd, zp, h0, ⟨es, clock, hb, r⟩, hh⟩ := h
 exact ⟨D, zd, zp, h0, ⟨es, clock, e.trans hb, r⟩, hh⟩
theorem TMap.look {C : Coded} {z : Value} {w : World} {b n : Nat} {f : ByteArray → Option Value} (h : TMap C z w b n f) {t e : TypeId} (ht : Tryz.prog.underlying t = some (.map 9 e)) (hz : ∀ w, (zeroValue e).run Tryz.prog w = .ok z w) (x : ByteArray) (hx : x.size ≤ maxLen) :
  (Instr.lookup t (.map (some b)) (.string x) false).run Tryz.prog w = .ok ((f x).getD z) w := by
 obtain ⟨D, zd, zp, h0, ho, hh, ha⟩ := h
 obtain ⟨v, ps, hrun, hv⟩ := ho.lookup tlaw ht (hz w) h0 (tkey_of x hx)
 obtain ⟨p, hp⟩ := ha x
 rw [hrun, C.inj hv hp]
theorem TMap.look_ok {C : Coded} {z : Value} {w : World} {b n : Nat} {f : ByteArray → Option Value} (h : TMap C z w b n f) {t e : TypeId} (ht : Tryz.prog.underlying t = some (.map 9 e)) (hz : ∀ w, (zeroValue e).run Tryz.prog w = .ok z w) (x : ByteArray) (hx : x.size ≤ maxLen) :
  (Instr.lookup t (.map (some b)) (.string x) true).run Tryz.prog w = .ok (.tuple #[(f x).getD z, .bool (f x).isSome]) w := by
 obtain ⟨D, zd, zp, h0, ho, hh, ha⟩ := h
 obtain ⟨v, ps, hrun, hv⟩ := ho.look_ok tlaw ht (hz w) h0 (tkey_of x hx)
 obtain ⟨p, hp⟩ := ha x
 rw [hrun, C.inj hv hp, hh x]
theorem TMap.store {C : Coded} {z : Value} {w : World} {b n : Nat} {f : ByteArray → Option Value} (h : TMap C z w b n f) {t e : TypeId} (ht : Tryz.prog.underlying t = some (.map 9 e)) (hn : n < maxLen) (x : ByteArray) (hx : x.size ≤ maxLen) (v : Value) (hv : ∃ d ps, C.R v = some (d, ps)) :
  ∃ w', (Instr.mapUpdate t (.map (some b)) (.string x) v).run Tryz.prog w = .ok () w' ∧ TMap C z w' b (n + 1) (fun y => if y = x then some v else f y) ∧ w.grownBy w' (some b) := by
 obtain ⟨D, zd, zp, h0, ho, hh, ha⟩ := h
 obtain ⟨d, ps, hv⟩ := hv
 obtain ⟨w', hrun, ho', hg⟩ := ho.update tlaw ht hn (tkey_of x hx) hv
 refine ⟨w', hrun, ⟨_, zd, zp, h0, ho', fun y => ?_, fun y => ?_⟩, hg⟩
 ·show _ = (if y = x then some v else f y).isSome
  by_cases e : y = x
  ·subst e; rw [if_pos rfl, has_put_same ho.isMap (tkey_ok _)]; rfl
  ·rw [if_neg e, has_put_other (fun h => e (tkey_inj h))]; exact hh y
 ·show ∃ p, C.R ((if y = x then some v else f y).getD z) = _
  by_cases e : y = x
  ·subst e
   rw [if_pos rfl, atKey_put_same ho.isMap (tkey_ok _)]
   exact ⟨ps, hv⟩
  ·rw [if_neg e, atKey_put_other (fun h => e (tkey_inj h))]
   exact ha y
theorem TMap.made (C : Coded) (z : Value) (hz : ∃ d p, C.R z = some (d, p)) (w : World) : TMap C z (w.alloc (.map #[] 0)) w.heap.size 0 (fun _ => none) := by
 obtain ⟨d, p, hz⟩ := hz
 exact ⟨_, d, p, hz, World.ownsMap_made w _ _ _, fun _ => rfl, fun _ => ⟨p, hz⟩⟩

def funR : Value → Option (DataW Unit × List MemPlace)
 | .func (.func k) a b => if a = #[] ∧ b = #[] then some (.lit (.int .i64 k), []) else none
 | .nilFunc => some (.lit (.int .i64 (-1)), [])
 | _ => none
theorem funR_inj {v v' : Value} {d : DataW Unit} {p p' : List MemPlace} (h : funR v = some (d, p)) (h' : funR v' = some (d, p')) : v = v' := by
 unfold funR at h h'
 split at h
 ·split at h
  ·rename_i k a b e
   obtain ⟨rfl, rfl⟩ := e
   have hd := congrArg Prod.fst (Option.some.inj h)
   split at h'
   ·split at h'
    ·rename_i k' a' b' e'
     obtain ⟨rfl, rfl⟩ := e'
     have hd' := congrArg Prod.fst (Option.some.inj h')
     rw [← hd] at hd'
     injection hd' with hd'
     injection hd' with _ hd'
     rw [Int.ofNat_inj.1 hd']
    ·cases h'
   ·have hd' := congrArg Prod.fst (Option.some.inj h')
    rw [← hd] at hd'
    injection hd' with hd'
    injection hd' with _ hd'
    omega
   ·cases h'
  ·cases h
 ·have hd := congrArg Prod.fst (Option.some.inj h)
  split at h'
  ·split at h'
   ·have hd' := congrArg Prod.fst (Option.some.inj h')
    rw [← hd] at hd'
    injection hd' with hd'
    injection hd' with _ hd'
    omega
   ·cases h'
  ·rfl
  ·cases h'
 ·cases h
def funC : Coded := ⟨funR, funR_inj⟩
end Go.Proofs.YthhbpebihgjpjaaGreatDoor
