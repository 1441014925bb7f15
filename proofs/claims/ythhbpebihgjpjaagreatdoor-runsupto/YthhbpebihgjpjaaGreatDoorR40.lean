import Derived.Test.YthhbpebihgjpjaaGreatDoorR21
import Derived.Maps.OwnOps
import Derived.Maps.OwnSet
import Derived.Maps.Views
namespace Go.Proofs.YthhbpebihgjpjaaGreatDoor
open Go.RowKit Go.Maps
set_option maxRecDepth 1000000

/-- How an element reads: no two alike. -/
structure Coded where
  R : Value → Option (DataW Unit × List MemPlace)
  inj : ∀ {v v' : Value} {d : DataW Unit} {p p' : List MemPlace}, R v = some (d, p) → R v' = some (d, p') → v = v'
def tkey (name : ByteArray) : Lit := .string name.data.toList
theorem tkey_inj {a b : ByteArray} (h : tkey a = tkey b) : a = b := by
  unfold tkey at h
  injection h with h
  exact ByteArray.ext (Array.toList_inj.1 h)
theorem tkey_ok (name : ByteArray) : WideAt.IsKeyLit (tkey name) := trivial
theorem tkey_of (name : ByteArray) (h : name.size ≤ maxLen) : keyOf Tryz.prog 9 (.string name) = some (tkey name) := WideMaps.keyOf_string_mk Tryz.underlying9 h
theorem tlaw : Keyed Tryz.prog 9 := string_keyed Tryz.underlying9
/-- A map of one's own, keyed by texts: what it holds; z: what it tells where it holds nothing. -/
def TMap (C : Coded) (z : Value) (w : World) (b n : Nat) (f : ByteArray → Option Value) : Prop :=
  ∃ D zd zp, C.R z = some (zd, zp) ∧ w.ownsMap Tryz.prog 9 C.R b n D ∧ (∀ x, Maps.has D (tkey x) = (f x).isSome) ∧ ∀ x, ∃ p, C.R ((f x).getD z) = some (D.atKey (tkey x) zd, p)
theorem TMap.lt {C : Coded} {z : Value} {w : World} {b n : Nat} {f : ByteArray → Option Value} (h : TMap C z w b n f) : b < w.heap.size := let ⟨_, _, _, _, ho, _⟩ := h; ho.lt
theorem TMap.keep {C : Coded} {z : Value} {w w' : World} {b n : Nat} {f : ByteArray → Option Value} (h : TMap C z w b n f) (e : w'.heap[b]? = w.heap[b]?) : TMap C z w' b n f := by
  obtain ⟨D, zd, zp, h0, ⟨es, clock, hb, r⟩, hh⟩ := h
  exact ⟨D, zd, zp, h0, ⟨es, clock, e.trans hb, r⟩, hh⟩
theorem TMap.look {C : Coded} {z : Value} {w : World} {b n : Nat} {f : ByteArray → Option Value} (h : TMap C z w b n f) {t e : TypeId} (ht : Tryz.prog.underlying t = some (.map 9 e)) (hz : ∀ w, (zeroValue e).run Tryz.prog w = .ok z w) (x : ByteArray) (hx : x.size ≤ maxLen) :
    (Instr.lookup t (.map (some b)) (.string x) false).run Tryz.prog w = .ok ((f x).getD z) w := by
  obtain ⟨D, zd, zp, h0, ho, hh, ha⟩ := h
  obtain ⟨v, ps, hrun, hv⟩ := ho.lookup tlaw ht (hz w) h0 (tkey_of x hx)
  obtain ⟨p, hp⟩ := ha x
  rw [hrun, C.inj hv hp]
theorem TMap.look_ok {C : Coded} {z : Value} {w : World} {b n : Nat} {f : ByteArray → Option Value} (h : TMap C z w b n f) {t e : TypeId} (ht : Tryz.prog.underlying t = some (.map 9 e)) (hz : ∀ w, (zeroValue e).run Tryz.prog w = .ok z w) (x : ByteArray) (hx : x.size ≤ maxLen) :
    (Instr.lookup t (.map (some b)) (.string x) true).run Tryz.prog w = .ok (.tuple #[(f x).getD z, .bool (f x).isSome]) w := by
  obtain ⟨D, zd, zp, h0, ho, hh, ha⟩ := h
  obtain ⟨v, ps, hrun, hv⟩ := ho.look_ok tlaw ht (hz w) h0 (tkey_of x hx)
  obtain ⟨p, hp⟩ := ha x
  rw [hrun, C.inj hv hp, hh x]
theorem TMap.store {C : Coded} {z : Value} {w : World} {b n : Nat} {f : ByteArray → Option Value} (h : TMap C z w b n f) {t e : TypeId} (ht : Tryz.prog.underlying t = some (.map 9 e)) (hn : n < maxLen) (x : ByteArray) (hx : x.size ≤ maxLen) (v : Value) (hv : ∃ d ps, C.R v = some (d, ps)) :
    ∃ w', (Instr.mapUpdate t (.map (some b)) (.string x) v).run Tryz.prog w = .ok () w' ∧ TMap C z w' b (n + 1) (fun y => if y = x then some v else f y) ∧ w.grownBy w' (some b) := by
  obtain ⟨D, zd, zp, h0, ho, hh, ha⟩ := h
  obtain ⟨d, ps, hv⟩ := hv
  obtain ⟨w', hrun, ho', hg⟩ := ho.update tlaw ht hn (tkey_of x hx) hv
  refine ⟨w', hrun, ⟨_, zd, zp, h0, ho', fun y => ?_, fun y => ?_⟩, hg⟩
  · show _ = (if y = x then some v else f y).isSome
    by_cases e : y = x
    · subst e; rw [if_pos rfl, has_put_same ho.isMap (tkey_ok _)]; rfl
    · rw [if_neg e, has_put_other (fun h => e (tkey_inj h))]; exact hh y
  · show ∃ p, C.R ((if y = x then some v else f y).getD z) = _
    by_cases e : y = x
    · subst e
      rw [if_pos rfl, atKey_put_same ho.isMap (tkey_ok _)]
      exact ⟨ps, hv⟩
    · rw [if_neg e, atKey_put_other (fun h => e (tkey_inj h))]
      exact ha y
theorem TMap.made (C : Coded) (z : Value) (hz : ∃ d p, C.R z = some (d, p)) (w : World) : TMap C z (w.alloc (.map #[] 0)) w.heap.size 0 (fun _ => none) := by
  obtain ⟨d, p, hz⟩ := hz
  exact ⟨_, d, p, hz, World.ownsMap_made w _ _ _, fun _ => rfl, fun _ => ⟨p, hz⟩⟩

/-- Functions of the program, or none. -/
def funR : Value → Option (DataW Unit × List MemPlace)
  | .func (.func k) a b => if a = #[] ∧ b = #[] then some (.lit (.int .i64 k), []) else none
  | .nilFunc => some (.lit (.int .i64 (-1)), [])
  | _ => none
theorem funR_inj {v v' : Value} {d : DataW Unit} {p p' : List MemPlace} (h : funR v = some (d, p)) (h' : funR v' = some (d, p')) : v = v' := by
  unfold funR at h h'
  split at h
  · split at h
    · rename_i k a b e
      obtain ⟨rfl, rfl⟩ := e
      have hd := congrArg Prod.fst (Option.some.inj h)
      split at h'
      · split at h'
        · rename_i k' a' b' e'
          obtain ⟨rfl, rfl⟩ := e'
          have hd' := congrArg Prod.fst (Option.some.inj h')
          rw [← hd] at hd'
          injection hd' with hd'
          injection hd' with _ hd'
          rw [Int.ofNat_inj.1 hd']
        · cases h'
      · have hd' := congrArg Prod.fst (Option.some.inj h')
        rw [← hd] at hd'
        injection hd' with hd'
        injection hd' with _ hd'
        omega
      · cases h'
    · cases h
  · have hd := congrArg Prod.fst (Option.some.inj h)
    split at h'
    · split at h'
      · have hd' := congrArg Prod.fst (Option.some.inj h')
        rw [← hd] at hd'
        injection hd' with hd'
        injection hd' with _ hd'
        omega
      · cases h'
    · rfl
    · cases h'
  · cases h
def funC : Coded := ⟨funR, funR_inj⟩
end Go.Proofs.YthhbpebihgjpjaaGreatDoor
