import Derived.Test.YthhbpebihgjpjaaGreatDoorP06
import Derived.Test.YthhbpebihgjpjaaGreatDoorP04
import Derived.Test.YthhbpebihgjpjaaGreatDoorP03
import Derived.Deep.AppendLies
import Derived.Lib.CutLaws
import Derived.Lib.IndexBytes
import Derived.Test.YthhbpebihgjpjaaGreatDoorP01
import Derived.OwnWalk
import Derived.Test.YthhbpebihgjpjaaGreatDoorShelf
import Derived.Lib.OthersKept
namespace Go.Proofs.YthhbpebihgjpjaaGreatDoor
open Go.RowKit Go.Maps
set_option maxRecDepth 1000000

def textR : Value → Option (DataW Unit × List MemPlace)
 | .agg cs => (match cs.toList with
   | [.string s] => some (.lit (.string s.data.toList), [])
   | _ => none)
 | _ => none
theorem textR_some {v : Value} {d : DataW Unit} {p : List MemPlace} (h : textR v = some (d, p)) : ∃ s, v = .agg #[.string s] ∧ d = .lit (.string s.data.toList) := by
 unfold textR at h
 split at h
 ·rename_i cs
  split at h
  ·rename_i s e
   refine ⟨s, ?_, (congrArg Prod.fst (Option.some.inj h)).symm⟩
   rw [show cs = #[.string s] from Array.toList_inj.1 e]
  ·cases h
 ·cases h
theorem textR_inj {v v' : Value} {d : DataW Unit} {p p' : List MemPlace} (h : textR v = some (d, p)) (h' : textR v' = some (d, p')) : v = v' := by
 obtain ⟨s, rfl, e⟩ := textR_some h
 obtain ⟨s', rfl, e'⟩ := textR_some h'
 rw [e] at e'
 injection e' with e'
 injection e' with e'
 rw [show s = s' from ByteArray.ext (Array.toList_inj.1 e')]
def textC : Coded := ⟨textR, textR_inj⟩
def textV (s : ByteArray) : Value := .agg #[.string s]
def textZ : Value := .agg #[.string ⟨#[]⟩]
theorem textV_ok (s : ByteArray) : ∃ d ps, textC.R (textV s) = some (d, ps) := ⟨_, _, rfl⟩
def BMap (w : World) (b n : Nat) (l : Binds) : Prop := TMap textC textZ w b n (fun x => (bindOf l x).map textV)
def ptrM : Value → Nat
 | .pointer (some a) => a.block + 1
 | _ => 0
def ScopesAt (w : World) : Value → List Binds → Prop
 | p, [] => p = .pointer none
 | p, l :: ls => ∃ sb tb n q, p = .pointer (some ⟨sb, 0, none⟩) ∧ ptrM q ≤ sb ∧ w.heap[sb]? = some (.cells #[.map (some tb), q] 302 (0, 0)) ∧ BMap w tb n l ∧ ScopesAt w q ls
def envL : List Binds → ByteArray → ByteArray
 | [], _ => ⟨#[]⟩
 | l :: ls, x => (bindOf l x).getD (envL ls x)
theorem heap_lt {w : World} {k : Nat} {o : Obj} (h : w.heap[k]? = some o) : k < w.heap.size := by
 rcases Nat.lt_or_ge k w.heap.size with c | c
 ·exact c
 ·rw [Array.getElem?_eq_none c] at h; cases h
theorem ScopesAt.keep {w w' : World} (hb : ∀ k, k < w.heap.size → w'.heap[k]? = w.heap[k]?) : ∀ {ls : List Binds} {p : Value}, ScopesAt w p ls → ScopesAt w' p ls
 | [], _, h => h
 | _ :: _, _, ⟨sb, tb, n, q, hp, hq, hs, hm, hr⟩ => ⟨sb, tb, n, q, hp, hq, (hb sb (heap_lt hs)).trans hs, TMap.keep hm (hb tb hm.lt), ScopesAt.keep hb hr⟩

set_option maxHeartbeats 4000000 in
theorem svalue_any (ls : List Binds) (p : Value) (x : ByteArray) (w : World) (h : ScopesAt w p ls) (hx : x.size ≤ 1048576) :
  Calls Tryz.prog 274 #[p, .string x] w fun e w' => e = .returned (.string (envL ls x)) ∧ Below w.heap.size w w' := by
 have HZ : Hid (∀ w, (zeroValue 403).run Tryz.prog w = .ok textZ w) := fun w => by kernel_rfl
 have HP : Hid (ScopesAt w p ls) := h
 have hxm : x.size ≤ maxLen := by unfold maxLen; omega
 obtain ⟨ao, rfl⟩ : ∃ ao, p = .pointer ao := by
  cases ls with
  | nil => exact ⟨none, h⟩
  | cons l ls => obtain ⟨sb, _, _, _, e, _⟩ := h; exact ⟨_, e⟩
 clear h
 go_enter Tryz.func274, Tryz.ntmps274
 go_wp2
 go_loopw [5] (fun at' wr => ∃ ap ls', at' = .pointer ap ∧ Below w.heap.size w wr ∧ ScopesAt wr (.pointer ap) ls' ∧ envL ls' x = envL ls x) (fun at' _ => ptrM at')
 case atStart => exact ⟨_, ls, rfl, Below.refl _ _, HP.out, rfl⟩
 case round =>
  obtain ⟨ap, ls', rfl, hbw, hsc, hev⟩ := hrel
  have HBW : Hid (Below w.heap.size w wr) := hbw
  have HEV : Hid (envL ls' x = envL ls x) := hev
  clear hbw hev
  cases ls' with
  | nil =>
   obtain rfl : ap = none := by have e : Value.pointer ap = .pointer none := hsc; injection e
   go_wp2
   go_ret
   exact ⟨by rw [← HEV.out]; rfl, HBW.out⟩
  | cons l ls2 =>
   obtain ⟨sb, tb, n, q, hap, hq, hs, hm, hr⟩ := hsc
   obtain rfl : ap = some ⟨sb, 0, none⟩ := by injection hap
   obtain ⟨qa, rfl⟩ : ∃ qa, q = .pointer qa := by
    cases ls2 with
    | nil => exact ⟨none, hr⟩
    | cons l ls => obtain ⟨sb, _, _, _, e, _⟩ := hr; exact ⟨_, e⟩
   clear hap
   have HQ : Hid (ptrM (.pointer qa) ≤ sb) := hq
   have HR : Hid (ScopesAt wr (.pointer qa) ls2) := hr
   have c0 : wr.cell? ⟨sb, 0, none⟩ = some (.map (some tb)) := by rw [cell_of_row _ _ _ _ _ _ hs]; rfl
   have c1 : wr.cell? ⟨sb, 1, none⟩ = some (.pointer qa) := by rw [cell_of_row _ _ _ _ _ _ hs]; rfl
   have hsb : sb < wr.heap.size := heap_lt hs
   have hlk := TMap.look_ok hm (t := 300) Tryz.underlying300 HZ.out x hxm
   have HE : Hid (envL (l :: ls2) x = (bindOf l x).getD (envL ls2 x)) := rfl
   clear hs hm hr hq
   cases hf : bindOf l x with
   | some y =>
    rw [hf] at hlk HE
    have hlk2 : (Instr.lookup 300 (.map (some tb)) (.string x) true).run Tryz.prog wr = .ok (.tuple #[.agg #[.string y], .bool true]) wr := hlk
    clear hlk
    go_wp2
    go_ret
    exact ⟨by rw [← HEV.out, HE.out]; rfl, HBW.out.alloc HBW.out.size _⟩
   | none =>
    rw [hf] at hlk HE
    have hlk2 : (Instr.lookup 300 (.map (some tb)) (.string x) true).run Tryz.prog wr = .ok (.tuple #[.agg #[.string ⟨#[]⟩], .bool false]) wr := hlk
    clear hlk
    go_wp2
    exact ⟨⟨_, ls2, rfl, HBW.out.alloc HBW.out.size _, HR.out.keep (fun k hk => heapA_old wr _ k hk), by rw [← HEV.out, HE.out]; rfl⟩, Nat.lt_succ_of_le HQ.out⟩
end Go.Proofs.YthhbpebihgjpjaaGreatDoor

namespace Go.Proofs.YthhbpebihgjpjaaGreatDoor
open Go.RowKit
set_option maxRecDepth 1000000

theorem row_mono {w : World} {base base' : Nat} {e : TypeId} {s : Nat} {v : Value} {n : Nat} {xs : List Value} (h : w.ownsRow base e s v n xs) (hb : base' ≤ base) : w.ownsRow base' e s v n xs := by
 obtain ⟨h1, h | ⟨g, cap, cur, rfl, hg, r⟩⟩ := h
 ·exact ⟨h1, Or.inl h⟩
 ·exact ⟨h1, Or.inr ⟨g, cap, cur, rfl, Nat.le_trans hb hg, r⟩⟩
theorem row_form {w : World} {base : Nat} {e : TypeId} {s : Nat} {v : Value} {n : Nat} {xs : List Value} (h : w.ownsRow base e s v n xs) : ∃ ao cap, v = .slice ao n cap ∧ n ≤ cap ∧ (0 < n → ∃ g, ao = some ⟨g, 0, none⟩) := by
 obtain ⟨_, ⟨rfl, h0⟩ | ⟨g, cap, cur, rfl, _, _, h, _⟩⟩ := h
 ·exact ⟨none, 0, by rw [h0], by omega, fun h => by omega⟩
 ·exact ⟨_, _, rfl, h, fun _ => ⟨g, rfl⟩⟩
theorem row_cell {w : World} {base : Nat} {e : TypeId} {s : Nat} {n cap g : Nat} {xs : List Value} (h : w.ownsRow base e s (.slice (some ⟨g, 0, none⟩) n cap) n xs) (i : Nat) (x : Value) (hx : xs[i]? = some x) : w.cell? ⟨g, i, none⟩ = some x ∧ w.frozen? ⟨g, i, none⟩ = false := by
 obtain ⟨h1, ⟨e, h0⟩ | ⟨g', cap', cur, e, hg, hh, hn, hm, hs, ht⟩⟩ := h
 ·cases e
 ·injection e with e1 e2 e3
  injection e1 with e1
  injection e1 with e1 _ _
  subst e1
  refine ⟨?_, frozen_of_row _ _ _ _ _ hh⟩
  rw [cell_of_row _ _ _ _ _ _ hh, ← Array.getElem?_toList]
  rw [← ht] at hx
  rw [List.getElem?_take] at hx
  split at hx
  ·exact hx
  ·cases hx
theorem row_set {w : World} {base : Nat} {e : TypeId} {s : Nat} {n cap g : Nat} {xs : List Value} (h : w.ownsRow base e s (.slice (some ⟨g, 0, none⟩) n cap) n xs) (i : Nat) (u : Value) : (w.setCell ⟨g, i, none⟩ u).ownsRow base e s (.slice (some ⟨g, 0, none⟩) n cap) n (xs.set i u) := by
 obtain ⟨h1, ⟨e, h0⟩ | ⟨g', cap', cur, e, hg, hh, hn, hm, hs, ht⟩⟩ := h
 ·cases e
 ·injection e with e1 e2 e3
  injection e1 with e1
  injection e1 with e1 _ _
  subst e1 e3
  refine ⟨by rw [List.length_set]; exact h1, Or.inr ⟨g, cap, _, rfl, hg, heap_setCell_same _ _ _ _ _ _ hh, hn, hm, by simpa using hs, ?_⟩⟩
  rw [Array.toList_setIfInBounds, List.take_set, ht]
theorem newCells (w : World) (cs : List Value) (t : TypeId) : ∀ j u, cs[j]? = some u → (w.alloc (.cells cs.toArray t)).cell? ((⟨w.heap.size, 0, none⟩ : Addr).add j) = some u := by
 intro j u hu
 have hadd : (⟨w.heap.size, 0, none⟩ : Addr).add j = ⟨w.heap.size, j, none⟩ := by unfold Addr.add; split <;> simp_all
 rw [hadd, cell_of_row _ _ _ _ _ _ (heapA_new w _ _ rfl)]
 simpa using hu
theorem two_cells {α : Type} (f g : α → Value) : ∀ (l : List α) (i : Nat) (x : α), l[i]? = some x → (l.flatMap fun x => [f x, g x])[i * 2]? = some (f x) ∧ (l.flatMap fun x => [f x, g x])[i * 2 + 1]? = some (g x)
 | [], i, x, h => by simp at h
 | y :: l, 0, x, h => by
  simp only [List.getElem?_cons_zero, Option.some.injEq] at h
  subst h
  exact ⟨rfl, rfl⟩
 | y :: l, i + 1, x, h => by
  have := two_cells f g l i x (by simpa using h)
  refine ⟨?_, ?_⟩
  ·show (f y :: g y :: l.flatMap _)[(i + 1) * 2]? = _
   rw [show (i + 1) * 2 = i * 2 + 1 + 1 by omega, List.getElem?_cons_succ, List.getElem?_cons_succ]; exact this.1
  ·show (f y :: g y :: l.flatMap _)[(i + 1) * 2 + 1]? = _
   rw [show (i + 1) * 2 + 1 = i * 2 + 1 + 1 + 1 by omega, List.getElem?_cons_succ, List.getElem?_cons_succ]; exact this.2
theorem two_length {α : Type} (f g : α → Value) : ∀ l : List α, (l.flatMap fun x => [f x, g x]).length = l.length * 2
 | [] => rfl
 | y :: l => by
  rw [List.flatMap_cons, List.length_append, two_length f g l]
  show 2 + l.length * 2 = (l.length + 1) * 2
  omega
end Go.Proofs.YthhbpebihgjpjaaGreatDoor

namespace Go.Proofs.YthhbpebihgjpjaaGreatDoor
open Go.RowKit Go.Shelf
set_option maxRecDepth 1000000

theorem expandAt_shift (E : ByteArray → ByteArray) : ∀ (g : Nat) (t : ByteArray) (i : Nat) (out : ByteArray), t.size - i ≤ g → i ≤ t.size → expandAt E t i out = expandAt E (t.extract i t.size) 0 out := by
 intro g
 induction g with
 | zero =>
  intro t i out h hi
  rw [expandAt_end _ _ _ _ (by omega), expandAt_end _ _ _ _ (by rw [ByteArray.size_extract]; omega)]
 | succ g ih =>
  intro t i out h hi
  have hsz : (t.extract i t.size).size = t.size - i := by rw [ByteArray.size_extract]; omega
  by_cases he : t.size ≤ i
  ·rw [expandAt_end _ _ _ _ he, expandAt_end _ _ _ _ (by omega)]
  ·have hb : byteOf (t.extract i t.size) 0 = byteOf t i := by rw [byteOf_extract _ _ _ _ (by omega) (Nat.le_refl _), Nat.add_zero]
   have hx : ∀ k, i + k ≤ t.size → (t.extract i t.size).extract k (t.extract i t.size).size = t.extract (i + k) t.size := fun k hk => by
    rw [hsz, extract_of _ _ _ _ _ (by omega), show i + (t.size - i) = t.size by omega]
   by_cases hc : byteOf t i = 36
   ·have hfu : formAt (t.extract i t.size) 0 = (formU (t.extract (i + 1) t.size)).map fun p => (p.1, 0 + 1 + p.2) := by
     rw [formAt_u _ _ (by omega), hx (0 + 1) (by omega)]
    have hft := formAt_u t i (by omega)
    cases hf : formU (t.extract (i + 1) t.size) with
    | none =>
     rw [hf] at hfu hft
     rw [expandAt_none _ _ _ _ (by omega) hc hft, expandAt_none _ _ _ _ (by omega) (hb.trans hc) hfu]
    | some p =>
     obtain ⟨f, k⟩ := p
     rw [hf] at hfu hft
     have h1 := formAt_le (show formAt t i = some (f, i + 1 + k) from hft)
     rw [expandAt_form _ _ _ _ _ _ (by omega) hc (show formAt t i = some (f, i + 1 + k) from hft), expandAt_form _ _ _ _ _ _ (by omega) (hb.trans hc) (show formAt (t.extract i t.size) 0 = some (f, 0 + 1 + k) from hfu)]
     rw [ih t (i + 1 + k) _ (by omega) (by omega), ih (t.extract i t.size) (0 + 1 + k) _ (by omega) (by omega), hx _ (by omega), show i + (0 + 1 + k) = i + 1 + k by omega]
   ·rw [expandAt_plain _ _ _ _ (by omega) hc, expandAt_plain E (t.extract i t.size) 0 out (by omega) (by rw [hb]; exact hc)]
    rw [ih t (i + 1) _ (by omega) (by omega), ih (t.extract i t.size) (0 + 1) _ (by omega) (by omega), hx _ (by omega), extract_of _ _ _ _ _ (by omega)]
    rfl
theorem extract_glue (t : ByteArray) (a b c : Nat) (h1 : a ≤ b) (h2 : b ≤ c) : t.extract a b ++ t.extract b c = t.extract a c := by
 rw [ByteArray.extract_append_extract, Nat.min_eq_left h1, Nat.max_eq_right h2]
theorem expandAt_run (E : ByteArray → ByteArray) (t : ByteArray) : ∀ (n i : Nat) (out : ByteArray), i + n ≤ t.size → (∀ k, i ≤ k → k < i + n → byteOf t k ≠ 36) → expandAt E t i out = expandAt E t (i + n) (out ++ t.extract i (i + n)) := by
 intro n
 induction n with
 | zero =>
  intro i out _ _
  rw [Nat.add_zero, show t.extract i i = ByteArray.empty from ByteArray.size_eq_zero_iff.1 (by rw [ByteArray.size_extract]; omega), ByteArray.append_empty]
 | succ n ih =>
  intro i out h hk
  rw [expandAt_plain _ _ _ _ (by omega) (hk i (Nat.le_refl _) (by omega)), ih (i + 1) _ (by omega) (fun k a b => hk k (by omega) (by omega)), ByteArray.append_assoc, extract_glue _ _ _ _ (by omega) (by omega), show i + 1 + n = i + (n + 1) by omega]
def dol : ByteArray := ⟨#[36]⟩
theorem index_dol (u : ByteArray) : (Lib.indexB u dol = -1 ∧ ∀ k, k < u.size → byteOf u k ≠ 36) ∨ ∃ n : Nat, Lib.indexB u dol = n ∧ n < u.size ∧ byteOf u n = 36 ∧ ∀ k, k < n → byteOf u k ≠ 36 := by
 have h1 : Lib.indexB u dol = Lib.indexByte u.data.toList 36 := Lib.one u dol rfl
 have hb : ∀ k, k < u.size → u.data.toList[k]? ≠ some 36 → byteOf u k ≠ 36 := fun k hk hn e => hn (by
  rw [Array.getElem?_toList, byteOf_at u k hk, e]; rfl)
 rcases Lib.indexB_cases u dol with h | ⟨i, h, hi⟩
 ·refine Or.inl ⟨h, fun k hk => hb k hk ?_⟩
  rw [h1] at h
  exact Lib.indexByte_none h k
 ·refine Or.inr ⟨i, h, ?_, ?_, fun k hk => ?_⟩
  ·have : dol.size = 1 := rfl
   omega
  ·rw [h1] at h
   have := (Lib.indexByte_some h).1
   rw [byteOf_get this]; rfl
  ·rw [h1] at h
   refine hb k ?_ ((Lib.indexByte_some h).2 k hk)
   have : dol.size = 1 := rfl
   omega
theorem expand_last (E : ByteArray → ByteArray) (u out : ByteArray) (h : ∀ k, k < u.size → byteOf u k ≠ 36) : expandAt E u 0 out = some (out ++ u) := by
 rw [expandAt_run E u u.size 0 out (by omega) (fun k _ hk => h k (by omega)), expandAt_end _ _ _ _ (by omega), Nat.zero_add, ByteArray.extract_zero_size]
theorem expand_bad (E : ByteArray → ByteArray) (u out : ByteArray) (n : Nat) (hn : n < u.size) (hd : byteOf u n = 36) (h : ∀ k, k < n → byteOf u k ≠ 36) (hf : formU (u.extract (n + 1) u.size) = none) : expandAt E u 0 out = none := by
 rw [expandAt_run E u n 0 out (by omega) (fun k _ hk => h k (by omega)), Nat.zero_add]
 exact expandAt_none _ _ _ _ hn hd (by rw [formAt_u _ _ hn, hf]; rfl)
theorem expand_step (E : ByteArray → ByteArray) (u out : ByteArray) (n : Nat) (hn : n < u.size) (hd : byteOf u n = 36) (h : ∀ k, k < n → byteOf u k ≠ 36) (f : Form) (k : Nat) (hf : formU (u.extract (n + 1) u.size) = some (f, k)) :
  expandAt E u 0 out = (if 4000 < (out ++ u.extract 0 n ++ f.val E).size then none else expandAt E ((u.extract (n + 1) u.size).extract k (u.extract (n + 1) u.size).size) 0 (out ++ u.extract 0 n ++ f.val E)) ∧ 0 < k ∧ k ≤ (u.extract (n + 1) u.size).size := by
 have hf2 : formAt u n = some (f, n + 1 + k) := by rw [formAt_u _ _ hn, hf]; rfl
 have hle := formAt_le hf2
 have hsz : (u.extract (n + 1) u.size).size = u.size - (n + 1) := by rw [ByteArray.size_extract]; omega
 refine ⟨?_, by omega, by omega⟩
 rw [expandAt_run E u n 0 out (by omega) (fun k _ hk => h k (by omega)), Nat.zero_add, expandAt_form _ _ _ _ _ _ hn hd hf2, expandAt_shift E _ u (n + 1 + k) _ (Nat.le_refl _) hle.2, hsz, extract_of _ _ _ _ _ (by omega), show n + 1 + (u.size - (n + 1)) = u.size by omega]
end Go.Proofs.YthhbpebihgjpjaaGreatDoor

namespace Go.Proofs.YthhbpebihgjpjaaGreatDoor
open Go.RowKit
set_option maxRecDepth 1000000

def Stopped (at' : Int) (rv : Value) (e : Ending) (w' : World) : Prop := ∃ b, e = .panicked [{ v := .iface 129 (.pointer (some ⟨b, 0, none⟩)), recovered := false }] ∧ w'.cell? ⟨b, 0, none⟩ = some (.int .i64 at') ∧ w'.cell? ⟨b, 1, none⟩ = some rv
theorem fail_any (rb : Nat) (n : Int) (T : TypeId) (p : Value) (w : World) (h : w.cell? ⟨rb, 0, none⟩ = some (.int .i64 n)) :
  Calls Tryz.prog 189 #[.pointer (some ⟨rb, 0, none⟩), .iface T p] w fun e w' => Stopped n (.iface T p) e w' ∧ Below w.heap.size w w' := by
 go_enter Tryz.func189, Tryz.ntmps189
 go_wp2
 refine ⟨rfl, ⟨w.heap.size, rfl, ?_, ?_⟩, (Below.refl _ _).alloc (Nat.le_refl _) _⟩
 ·simp [go_sem]
 ·simp [go_sem]
theorem need_yes (rv sv : Value) (w : World) :
  Calls Tryz.prog 112 #[rv, .bool true, sv] w fun e w' => e = .returned (.tuple #[]) ∧ w' = w := by
 go_enter Tryz.func112, Tryz.ntmps112
 go_wp2
 go_end0
 exact ⟨rfl, rfl⟩
theorem need_no (rb : Nat) (n : Int) (T : TypeId) (p : Value) (w : World) (h : w.cell? ⟨rb, 0, none⟩ = some (.int .i64 n)) :
  Calls Tryz.prog 112 #[.pointer (some ⟨rb, 0, none⟩), .bool false, .iface T p] w fun e w' => Stopped n (.iface T p) e w' ∧ Below w.heap.size w w' := by
 have HF : Hid (Calls Tryz.prog 189 #[.pointer (some ⟨rb, 0, none⟩), .iface T p] w fun e w' => Stopped n (.iface T p) e w' ∧ Below w.heap.size w w') := fail_any rb n T p w h
 clear h
 go_enter Tryz.func112, Tryz.ntmps112
 go_wp2_with fail
 refine HF.out.mono ?_
 rintro e w' ⟨⟨b, rfl, h0, h1⟩, hb⟩
 exact ⟨rfl, ⟨b, rfl, h0, h1⟩, hb⟩
end Go.Proofs.YthhbpebihgjpjaaGreatDoor

namespace Go.Proofs.YthhbpebihgjpjaaGreatDoor
open Go.RowKit Go.Shelf Go.Lib
set_option maxRecDepth 1000000

def BuiltAt (w : World) (b : Nat) (t : ByteArray) : Prop := Lib.IsBuilderF 379 5 b b (Lib.strCells t) w
theorem strCells_app (s t : ByteArray) : Lib.strCells (s ++ t) = Lib.strCells s ++ Lib.strCells t := by
 unfold Lib.strCells
 rw [ByteArray.data_append, Array.toList_append, List.map_append]
theorem BuilderAtF.keep {T e : TypeId} {B b : Nat} {p : Value} {bs : List Value} {w w' : World} (h : Lib.BuilderAtF T e B b p bs w) (hb : ∀ k, k < w.heap.size → w'.heap[k]? = w.heap[k]?) : Lib.BuilderAtF T e B b p bs w' := by
 have hlt := h.lt
 obtain ⟨hB, v, hbk, hown, hne⟩ := h
 refine ⟨hB, v, (hb b hlt).trans hbk, ?_, hne⟩
 obtain ⟨hl, h | ⟨g, cap, cur, fz, hv, hg0, hg, hr⟩⟩ := hown
 ·exact ⟨hl, Or.inl h⟩
 ·exact ⟨hl, Or.inr ⟨g, cap, cur, fz, hv, hg0, (hb g (Array.getElem?_eq_some_iff.1 hg).1).trans hg, hr⟩⟩
theorem BuiltAt.keep {w w' : World} {b : Nat} {t : ByteArray} (h : BuiltAt w b t) (hb : ∀ k, k < w.heap.size → w'.heap[k]? = w.heap[k]?) : BuiltAt w' b t :=
 h.elim (fun x => .inl (BuilderAtF.keep x hb)) (fun x => .inr (BuilderAtF.keep x hb))
theorem BuiltAt.below {w w' : World} {b : Nat} {t : ByteArray} (h : BuiltAt w b t) (hb : Below w.heap.size w w') : BuiltAt w' b t := h.keep hb.block
theorem BuiltAt.lt {w : World} {b : Nat} {t : ByteArray} (h : BuiltAt w b t) : b < w.heap.size := h.elim (fun x => x.lt) (fun x => x.lt)
theorem built_new (w : World) : BuiltAt (w.alloc (.cells #[.pointer none, .slice none 0 0] 379)) w.heap.size ⟨#[]⟩ := IsBuilderF.of (Lib.fresh_isBuilder _ _ w)

theorem bstr_any (b : Nat) (t s : ByteArray) (w : World) (h : BuiltAt w b t) (hs : t.size + s.size ≤ 140737488355328) :
  Calls Tryz.prog 245 #[.pointer (some ⟨b, 0, none⟩), .string s] w fun e w' => e = .returned (.tuple #[.int .i64 s.size, .nilIface]) ∧ BuiltAt w' b (t ++ s) ∧ Below b w w' := by
 refine (Any.Builder_WriteString_k Tryz.lays166 Tryz.Builder_Extra_166 b b (Lib.strCells t) s w h (by rw [Lib.strCells_length]; exact hs) (Nat.le_of_lt h.lt)).mono ?_
 rintro e w' ⟨he, h1, h2, _⟩
 refine ⟨he, Or.inr ?_, h2⟩
 rw [strCells_app]; exact h1
theorem bstr_kept (b : Nat) (t s : ByteArray) (w : World) (h : BuiltAt w b t) (hs : t.size + s.size ≤ 140737488355328) :
  Calls Tryz.prog 245 #[.pointer (some ⟨b, 0, none⟩), .string s] w fun e w' => e = .returned (.tuple #[.int .i64 s.size, .nilIface]) ∧ BuiltAt w' b (t ++ s) ∧ Below b w w' ∧ Lib.OthersKept 5 (some b) w w' := by
 refine (Any.Builder_WriteString_k Tryz.lays166 Tryz.Builder_Extra_166 b b (Lib.strCells t) s w h (by rw [Lib.strCells_length]; exact hs) (Nat.le_of_lt h.lt)).mono ?_
 rintro e w' ⟨he, h1, h2, h3⟩
 refine ⟨he, Or.inr ?_, h2, h3⟩
 rw [strCells_app]; exact h1
theorem bbyte_any (b : Nat) (t : ByteArray) (c : UInt8) (x : Int) (hx : x = (c.toNat : Int)) (w : World) (h : BuiltAt w b t) (hs : t.size + 1 ≤ 140737488355328) :
  Calls Tryz.prog 246 #[.pointer (some ⟨b, 0, none⟩), .int .u8 x] w fun e w' => e = .returned .nilIface ∧ BuiltAt w' b (t ++ ⟨#[c]⟩) ∧ Below b w w' := by
 subst hx
 refine (Any.Builder_WriteByte_k Tryz.lays167 Tryz.Builder_Extra_167 b b (Lib.strCells t) _ w h (by rw [Lib.strCells_length]; exact hs) (Nat.le_of_lt h.lt)).mono ?_
 rintro e w' ⟨he, h1, h2, _⟩
 refine ⟨he, Or.inr ?_, h2⟩
 rw [strCells_app]; exact h1
theorem btext_any (b : Nat) (t : ByteArray) (w : World) (h : BuiltAt w b t) :
  Calls Tryz.prog 248 #[.pointer (some ⟨b, 0, none⟩)] w fun e w' => e = .returned (.string t) ∧ BuiltAt w' b t ∧ Below b w w' := by
 refine (Any.Builder_String_any_k Tryz.lays169 Tryz.Builder_Extra_169 b b t.data.toList w h (Nat.le_of_lt h.lt)).mono ?_
 rintro e w' ⟨he, h1, h2, _⟩
 exact ⟨he, h1, h2⟩
theorem blen_any (b : Nat) (t : ByteArray) (w : World) (h : BuiltAt w b t) :
  Calls Tryz.prog 275 #[.pointer (some ⟨b, 0, none⟩)] w fun e w' => e = .returned (.int .i64 t.size) ∧ w' = w := by
 refine (Any.Builder_Len_f Tryz.lays170 b b (Lib.strCells t) w h).mono ?_
 rintro e w' ⟨he, h1⟩
 exact ⟨by rw [he, Lib.strCells_length], h1⟩
end Go.Proofs.YthhbpebihgjpjaaGreatDoor
