import Derived.Test.YthhbpebihgjpjaaGreatDoorK03
import Derived.Maps.OwnOps
import Derived.Maps.OwnSet
import Derived.Maps.Views
import Derived.Test.YthhbpebihgjpjaaGreatDoorK04
import Derived.Deep.AppendLies
namespace Go.Proofs.YthhbpebihgjpjaaGreatDoor
open Go.RowKit Go.Maps
set_option maxRecDepth 1000000

/-- How an element reads: no two alike. -/
structure Coded where
  R : Value → Option (DataW Unit × List MemPlace)
  inj : ∀ {v v' : Value} {d : DataW Unit} {p p' : List MemPlace}, R v = some (d, p) → R v' = some (d, p') → v = v'
def tkey (name : ByteArray) : Lit := .string name.data.toList
theorem tkey_inj {a b : ByteArray} (h : tkey a = tkey b) : a = b := by
  unfold tkey at h
  injection h with h
  exact ByteArray.ext (Array.toList_inj.1 h)
theorem tkey_ok (name : ByteArray) : WideAt.IsKeyLit (tkey name) := trivial
theorem tkey_of (name : ByteArray) (h : name.size ≤ maxLen) : keyOf Tryz.prog 9 (.string name) = some (tkey name) := WideMaps.keyOf_string_mk Tryz.underlying9 h
theorem tlaw : Keyed Tryz.prog 9 := string_keyed Tryz.underlying9
/-- A map of one's own, keyed by texts: what it holds; z: what it tells where it holds nothing. -/
def TMap (C : Coded) (z : Value) (w : World) (b n : Nat) (f : ByteArray → Option Value) : Prop :=
  ∃ D zd zp, C.R z = some (zd, zp) ∧ w.ownsMap Tryz.prog 9 C.R b n D ∧ (∀ x, Maps.has D (tkey x) = (f x).isSome) ∧ ∀ x, ∃ p, C.R ((f x).getD z) = some (D.atKey (tkey x) zd, p)
theorem TMap.lt {C : Coded} {z : Value} {w : World} {b n : Nat} {f : ByteArray → Option Value} (h : TMap C z w b n f) : b < w.heap.size := let ⟨_, _, _, _, ho, _⟩ := h; ho.lt
theorem TMap.keep {C : Coded} {z : Value} {w w' : World} {b n : Nat} {f : ByteArray → Option Value} (h : TMap C z w b n f) (e : w'.heap[b]? = w.heap[b]?) : TMap C z w' b n f := by
  obtain ⟨D, zd, zp, h0, ⟨es, clock, hb, r⟩, hh⟩ := h
  exact ⟨D, zd, zp, h0, ⟨es, clock, e.trans hb, r⟩, hh⟩
theorem TMap.look {C : Coded} {z : Value} {w : World} {b n : Nat} {f : ByteArray → Option Value} (h : TMap C z w b n f) {t e : TypeId} (ht : Tryz.prog.underlying t = some (.map 9 e)) (hz : ∀ w, (zeroValue e).run Tryz.prog w = .ok z w) (x : ByteArray) (hx : x.size ≤ maxLen) :
    (Instr.lookup t (.map (some b)) (.string x) false).run Tryz.prog w = .ok ((f x).getD z) w := by
  obtain ⟨D, zd, zp, h0, ho, hh, ha⟩ := h
  obtain ⟨v, ps, hrun, hv⟩ := ho.lookup tlaw ht (hz w) h0 (tkey_of x hx)
  obtain ⟨p, hp⟩ := ha x
  rw [hrun, C.inj hv hp]
theorem TMap.look_ok {C : Coded} {z : Value} {w : World} {b n : Nat} {f : ByteArray → Option Value} (h : TMap C z w b n f) {t e : TypeId} (ht : Tryz.prog.underlying t = some (.map 9 e)) (hz : ∀ w, (zeroValue e).run Tryz.prog w = .ok z w) (x : ByteArray) (hx : x.size ≤ maxLen) :
    (Instr.lookup t (.map (some b)) (.string x) true).run Tryz.prog w = .ok (.tuple #[(f x).getD z, .bool (f x).isSome]) w := by
  obtain ⟨D, zd, zp, h0, ho, hh, ha⟩ := h
  obtain ⟨v, ps, hrun, hv⟩ := ho.look_ok tlaw ht (hz w) h0 (tkey_of x hx)
  obtain ⟨p, hp⟩ := ha x
  rw [hrun, C.inj hv hp, hh x]
theorem TMap.store {C : Coded} {z : Value} {w : World} {b n : Nat} {f : ByteArray → Option Value} (h : TMap C z w b n f) {t e : TypeId} (ht : Tryz.prog.underlying t = some (.map 9 e)) (hn : n < maxLen) (x : ByteArray) (hx : x.size ≤ maxLen) (v : Value) (hv : ∃ d ps, C.R v = some (d, ps)) :
    ∃ w', (Instr.mapUpdate t (.map (some b)) (.string x) v).run Tryz.prog w = .ok () w' ∧ TMap C z w' b (n + 1) (fun y => if y = x then some v else f y) ∧ w.grownBy w' (some b) := by
  obtain ⟨D, zd, zp, h0, ho, hh, ha⟩ := h
  obtain ⟨d, ps, hv⟩ := hv
  obtain ⟨w', hrun, ho', hg⟩ := ho.update tlaw ht hn (tkey_of x hx) hv
  refine ⟨w', hrun, ⟨_, zd, zp, h0, ho', fun y => ?_, fun y => ?_⟩, hg⟩
  · show _ = (if y = x then some v else f y).isSome
    by_cases e : y = x
    · subst e; rw [if_pos rfl, has_put_same ho.isMap (tkey_ok _)]; rfl
    · rw [if_neg e, has_put_other (fun h => e (tkey_inj h))]; exact hh y
  · show ∃ p, C.R ((if y = x then some v else f y).getD z) = _
    by_cases e : y = x
    · subst e
      rw [if_pos rfl, atKey_put_same ho.isMap (tkey_ok _)]
      exact ⟨ps, hv⟩
    · rw [if_neg e, atKey_put_other (fun h => e (tkey_inj h))]
      exact ha y
theorem TMap.made (C : Coded) (z : Value) (hz : ∃ d p, C.R z = some (d, p)) (w : World) : TMap C z (w.alloc (.map #[] 0)) w.heap.size 0 (fun _ => none) := by
  obtain ⟨d, p, hz⟩ := hz
  exact ⟨_, d, p, hz, World.ownsMap_made w _ _ _, fun _ => rfl, fun _ => ⟨p, hz⟩⟩

/-- Functions of the program, or none. -/
def funR : Value → Option (DataW Unit × List MemPlace)
  | .func (.func k) a b => if a = #[] ∧ b = #[] then some (.lit (.int .i64 k), []) else none
  | .nilFunc => some (.lit (.int .i64 (-1)), [])
  | _ => none
theorem funR_inj {v v' : Value} {d : DataW Unit} {p p' : List MemPlace} (h : funR v = some (d, p)) (h' : funR v' = some (d, p')) : v = v' := by
  unfold funR at h h'
  split at h
  · split at h
    · rename_i k a b e
      obtain ⟨rfl, rfl⟩ := e
      have hd := congrArg Prod.fst (Option.some.inj h)
      split at h'
      · split at h'
        · rename_i k' a' b' e'
          obtain ⟨rfl, rfl⟩ := e'
          have hd' := congrArg Prod.fst (Option.some.inj h')
          rw [← hd] at hd'
          injection hd' with hd'
          injection hd' with _ hd'
          rw [Int.ofNat_inj.1 hd']
        · cases h'
      · have hd' := congrArg Prod.fst (Option.some.inj h')
        rw [← hd] at hd'
        injection hd' with hd'
        injection hd' with _ hd'
        omega
      · cases h'
    · cases h
  · have hd := congrArg Prod.fst (Option.some.inj h)
    split at h'
    · split at h'
      · have hd' := congrArg Prod.fst (Option.some.inj h')
        rw [← hd] at hd'
        injection hd' with hd'
        injection hd' with _ hd'
        omega
      · cases h'
    · rfl
    · cases h'
  · cases h
def funC : Coded := ⟨funR, funR_inj⟩
end Go.Proofs.YthhbpebihgjpjaaGreatDoor

namespace Go.Proofs.YthhbpebihgjpjaaGreatDoor
open Go.RowKit Go.Maps
set_option maxRecDepth 1000000

/-- A struct of one text, as a map's element. -/
def textR : Value → Option (DataW Unit × List MemPlace)
  | .agg cs => (match cs.toList with
    | [.string s] => some (.lit (.string s.data.toList), [])
    | _ => none)
  | _ => none
theorem textR_some {v : Value} {d : DataW Unit} {p : List MemPlace} (h : textR v = some (d, p)) : ∃ s, v = .agg #[.string s] ∧ d = .lit (.string s.data.toList) := by
  unfold textR at h
  split at h
  · rename_i cs
    split at h
    · rename_i s e
      refine ⟨s, ?_, (congrArg Prod.fst (Option.some.inj h)).symm⟩
      rw [show cs = #[.string s] from Array.toList_inj.1 e]
    · cases h
  · cases h
theorem textR_inj {v v' : Value} {d : DataW Unit} {p p' : List MemPlace} (h : textR v = some (d, p)) (h' : textR v' = some (d, p')) : v = v' := by
  obtain ⟨s, rfl, e⟩ := textR_some h
  obtain ⟨s', rfl, e'⟩ := textR_some h'
  rw [e] at e'
  injection e' with e'
  injection e' with e'
  rw [show s = s' from ByteArray.ext (Array.toList_inj.1 e')]
def textC : Coded := ⟨textR, textR_inj⟩
def textV (s : ByteArray) : Value := .agg #[.string s]
def textZ : Value := .agg #[.string ⟨#[]⟩]
theorem textV_ok (s : ByteArray) : ∃ d ps, textC.R (textV s) = some (d, ps) := ⟨_, _, rfl⟩
/-- A map of texts that tells what these bindings tell. -/
def BMap (w : World) (b n : Nat) (l : Binds) : Prop := TMap textC textZ w b n (fun x => (bindOf l x).map textV)
def ptrM : Value → Nat
  | .pointer (some a) => a.block + 1
  | _ => 0
/-- Scopes, the inmost first. -/
def ScopesAt (w : World) : Value → List Binds → Prop
  | p, [] => p = .pointer none
  | p, l :: ls => ∃ sb tb n q, p = .pointer (some ⟨sb, 0, none⟩) ∧ ptrM q ≤ sb ∧ w.heap[sb]? = some (.cells #[.map (some tb), q] 302 (0, 0)) ∧ BMap w tb n l ∧ ScopesAt w q ls
/-- What they tell. -/
def envL : List Binds → ByteArray → ByteArray
  | [], _ => ⟨#[]⟩
  | l :: ls, x => (bindOf l x).getD (envL ls x)
theorem heap_lt {w : World} {k : Nat} {o : Obj} (h : w.heap[k]? = some o) : k < w.heap.size := by
  rcases Nat.lt_or_ge k w.heap.size with c | c
  · exact c
  · rw [Array.getElem?_eq_none c] at h; cases h
theorem ScopesAt.keep {w w' : World} (hb : ∀ k, k < w.heap.size → w'.heap[k]? = w.heap[k]?) : ∀ {ls : List Binds} {p : Value}, ScopesAt w p ls → ScopesAt w' p ls
  | [], _, h => h
  | _ :: _, _, ⟨sb, tb, n, q, hp, hq, hs, hm, hr⟩ => ⟨sb, tb, n, q, hp, hq, (hb sb (heap_lt hs)).trans hs, TMap.keep hm (hb tb hm.lt), ScopesAt.keep hb hr⟩

set_option maxHeartbeats 4000000 in
theorem svalue_any (ls : List Binds) (p : Value) (x : ByteArray) (w : World) (h : ScopesAt w p ls) (hx : x.size ≤ 1048576) :
    Calls Tryz.prog 274 #[p, .string x] w fun e w' => e = .returned (.string (envL ls x)) ∧ Below w.heap.size w w' := by
  have HZ : Hid (∀ w, (zeroValue 403).run Tryz.prog w = .ok textZ w) := fun w => by kernel_rfl
  have HP : Hid (ScopesAt w p ls) := h
  have hxm : x.size ≤ maxLen := by unfold maxLen; omega
  obtain ⟨ao, rfl⟩ : ∃ ao, p = .pointer ao := by
    cases ls with
    | nil => exact ⟨none, h⟩
    | cons l ls => obtain ⟨sb, _, _, _, e, _⟩ := h; exact ⟨_, e⟩
  clear h
  go_enter Tryz.func274, Tryz.ntmps274
  go_wp2
  go_loopw [5] (fun at' wr => ∃ ap ls', at' = .pointer ap ∧ Below w.heap.size w wr ∧ ScopesAt wr (.pointer ap) ls' ∧ envL ls' x = envL ls x) (fun at' _ => ptrM at')
  case atStart => exact ⟨_, ls, rfl, Below.refl _ _, HP.out, rfl⟩
  case round =>
    obtain ⟨ap, ls', rfl, hbw, hsc, hev⟩ := hrel
    have HBW : Hid (Below w.heap.size w wr) := hbw
    have HEV : Hid (envL ls' x = envL ls x) := hev
    clear hbw hev
    cases ls' with
    | nil =>
      obtain rfl : ap = none := by have e : Value.pointer ap = .pointer none := hsc; injection e
      go_wp2
      go_ret
      exact ⟨by rw [← HEV.out]; rfl, HBW.out⟩
    | cons l ls2 =>
      obtain ⟨sb, tb, n, q, hap, hq, hs, hm, hr⟩ := hsc
      obtain rfl : ap = some ⟨sb, 0, none⟩ := by injection hap
      obtain ⟨qa, rfl⟩ : ∃ qa, q = .pointer qa := by
        cases ls2 with
        | nil => exact ⟨none, hr⟩
        | cons l ls => obtain ⟨sb, _, _, _, e, _⟩ := hr; exact ⟨_, e⟩
      clear hap
      have HQ : Hid (ptrM (.pointer qa) ≤ sb) := hq
      have HR : Hid (ScopesAt wr (.pointer qa) ls2) := hr
      have c0 : wr.cell? ⟨sb, 0, none⟩ = some (.map (some tb)) := by rw [cell_of_row _ _ _ _ _ _ hs]; rfl
      have c1 : wr.cell? ⟨sb, 1, none⟩ = some (.pointer qa) := by rw [cell_of_row _ _ _ _ _ _ hs]; rfl
      have hsb : sb < wr.heap.size := heap_lt hs
      have hlk := TMap.look_ok hm (t := 300) Tryz.underlying300 HZ.out x hxm
      have HE : Hid (envL (l :: ls2) x = (bindOf l x).getD (envL ls2 x)) := rfl
      clear hs hm hr hq
      cases hf : bindOf l x with
      | some y =>
        rw [hf] at hlk HE
        have hlk2 : (Instr.lookup 300 (.map (some tb)) (.string x) true).run Tryz.prog wr = .ok (.tuple #[.agg #[.string y], .bool true]) wr := hlk
        clear hlk
        go_wp2
        go_ret
        exact ⟨by rw [← HEV.out, HE.out]; rfl, HBW.out.alloc HBW.out.size _⟩
      | none =>
        rw [hf] at hlk HE
        have hlk2 : (Instr.lookup 300 (.map (some tb)) (.string x) true).run Tryz.prog wr = .ok (.tuple #[.agg #[.string ⟨#[]⟩], .bool false]) wr := hlk
        clear hlk
        go_wp2
        exact ⟨⟨_, ls2, rfl, HBW.out.alloc HBW.out.size _, HR.out.keep (fun k hk => heapA_old wr _ k hk), by rw [← HEV.out, HE.out]; rfl⟩, Nat.lt_succ_of_le HQ.out⟩
end Go.Proofs.YthhbpebihgjpjaaGreatDoor

namespace Go.Proofs.YthhbpebihgjpjaaGreatDoor
open Go.RowKit
set_option maxRecDepth 1000000

theorem row_mono {w : World} {base base' : Nat} {e : TypeId} {s : Nat} {v : Value} {n : Nat} {xs : List Value} (h : w.ownsRow base e s v n xs) (hb : base' ≤ base) : w.ownsRow base' e s v n xs := by
  obtain ⟨h1, h | ⟨g, cap, cur, rfl, hg, r⟩⟩ := h
  · exact ⟨h1, Or.inl h⟩
  · exact ⟨h1, Or.inr ⟨g, cap, cur, rfl, Nat.le_trans hb hg, r⟩⟩
theorem row_form {w : World} {base : Nat} {e : TypeId} {s : Nat} {v : Value} {n : Nat} {xs : List Value} (h : w.ownsRow base e s v n xs) : ∃ ao cap, v = .slice ao n cap ∧ n ≤ cap ∧ (0 < n → ∃ g, ao = some ⟨g, 0, none⟩) := by
  obtain ⟨_, ⟨rfl, h0⟩ | ⟨g, cap, cur, rfl, _, _, h, _⟩⟩ := h
  · exact ⟨none, 0, by rw [h0], by omega, fun h => by omega⟩
  · exact ⟨_, _, rfl, h, fun _ => ⟨g, rfl⟩⟩
theorem row_cell {w : World} {base : Nat} {e : TypeId} {s : Nat} {n cap g : Nat} {xs : List Value} (h : w.ownsRow base e s (.slice (some ⟨g, 0, none⟩) n cap) n xs) (i : Nat) (x : Value) (hx : xs[i]? = some x) : w.cell? ⟨g, i, none⟩ = some x ∧ w.frozen? ⟨g, i, none⟩ = false := by
  obtain ⟨h1, ⟨e, h0⟩ | ⟨g', cap', cur, e, hg, hh, hn, hm, hs, ht⟩⟩ := h
  · cases e
  · injection e with e1 e2 e3
    injection e1 with e1
    injection e1 with e1 _ _
    subst e1
    refine ⟨?_, frozen_of_row _ _ _ _ _ hh⟩
    rw [cell_of_row _ _ _ _ _ _ hh, ← Array.getElem?_toList]
    rw [← ht] at hx
    rw [List.getElem?_take] at hx
    split at hx
    · exact hx
    · cases hx
theorem row_set {w : World} {base : Nat} {e : TypeId} {s : Nat} {n cap g : Nat} {xs : List Value} (h : w.ownsRow base e s (.slice (some ⟨g, 0, none⟩) n cap) n xs) (i : Nat) (u : Value) : (w.setCell ⟨g, i, none⟩ u).ownsRow base e s (.slice (some ⟨g, 0, none⟩) n cap) n (xs.set i u) := by
  obtain ⟨h1, ⟨e, h0⟩ | ⟨g', cap', cur, e, hg, hh, hn, hm, hs, ht⟩⟩ := h
  · cases e
  · injection e with e1 e2 e3
    injection e1 with e1
    injection e1 with e1 _ _
    subst e1 e3
    refine ⟨by rw [List.length_set]; exact h1, Or.inr ⟨g, cap, _, rfl, hg, heap_setCell_same _ _ _ _ _ _ hh, hn, hm, by simpa using hs, ?_⟩⟩
    rw [Array.toList_setIfInBounds, List.take_set, ht]
theorem newCells (w : World) (cs : List Value) (t : TypeId) : ∀ j u, cs[j]? = some u → (w.alloc (.cells cs.toArray t)).cell? ((⟨w.heap.size, 0, none⟩ : Addr).add j) = some u := by
  intro j u hu
  have hadd : (⟨w.heap.size, 0, none⟩ : Addr).add j = ⟨w.heap.size, j, none⟩ := by unfold Addr.add; split <;> simp_all
  rw [hadd, cell_of_row _ _ _ _ _ _ (heapA_new w _ _ rfl)]
  simpa using hu
/-- Rows of two cells. -/
theorem two_cells {α : Type} (f g : α → Value) : ∀ (l : List α) (i : Nat) (x : α), l[i]? = some x → (l.flatMap fun x => [f x, g x])[i * 2]? = some (f x) ∧ (l.flatMap fun x => [f x, g x])[i * 2 + 1]? = some (g x)
  | [], i, x, h => by simp at h
  | y :: l, 0, x, h => by
    simp only [List.getElem?_cons_zero, Option.some.injEq] at h
    subst h
    exact ⟨rfl, rfl⟩
  | y :: l, i + 1, x, h => by
    have := two_cells f g l i x (by simpa using h)
    refine ⟨?_, ?_⟩
    · show (f y :: g y :: l.flatMap _)[(i + 1) * 2]? = _
      rw [show (i + 1) * 2 = i * 2 + 1 + 1 by omega, List.getElem?_cons_succ, List.getElem?_cons_succ]; exact this.1
    · show (f y :: g y :: l.flatMap _)[(i + 1) * 2 + 1]? = _
      rw [show (i + 1) * 2 + 1 = i * 2 + 1 + 1 + 1 by omega, List.getElem?_cons_succ, List.getElem?_cons_succ]; exact this.2
theorem two_length {α : Type} (f g : α → Value) : ∀ l : List α, (l.flatMap fun x => [f x, g x]).length = l.length * 2
  | [] => rfl
  | y :: l => by
    rw [List.flatMap_cons, List.length_append, two_length f g l]
    show 2 + l.length * 2 = (l.length + 1) * 2
    omega
end Go.Proofs.YthhbpebihgjpjaaGreatDoor
