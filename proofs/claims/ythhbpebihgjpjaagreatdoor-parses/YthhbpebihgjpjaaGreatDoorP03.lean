import Derived.Test.YthhbpebihgjpjaaGreatDoorP02
import Derived.Test.YthhbpebihgjpjaaGreatDoorChecked
import Derived.WalkKit
import Derived.Outline
import Derived.WalkLawsBesides
import Derived.BigQuiet
import Derived.Deep.QuietTactic
import Derived.Deep.MidRow
import Derived.Deep.RegionHeld3
import Derived.OwnWalk
namespace Go.Proofs.YthhbpebihgjpjaaGreatDoor
open Go.RowKit
set_option maxRecDepth 1000000

def keywordB (t k : ByteArray) : Bool := decide (headB t = k ∧ wordLenB t < t.size ∧ byteOf t (wordLenB t) = 32)
set_option maxHeartbeats 2000000 in
theorem rkeyword_any (t k : ByteArray) (ht : t.size ≤ 1099511627776) (w : World) :
  Calls Tryz.prog 282 #[.string t, .string k] w fun e w' => e = .returned (.bool (keywordB t k)) ∧ w' = w := by
 have HT : Hid (t.size ≤ 1099511627776) := ht
 have t0 : (t.size : Int) ≤ 1099511627776 := by omega
 have hle : wordLenB t ≤ t.size := spanLen_le _ _
 have hs1 : ∀ wx, (Instr.slice 9 (.string t) none (some (.int .i64 (wordLenB t))) none).run Tryz.prog wx = .ok (.string (headB t)) wx := fun wx => slice_head t _ hle wx
 have HK : Hid (keywordB t k = decide (headB t = k ∧ wordLenB t < t.size ∧ byteOf t (wordLenB t) = 32)) := rfl
 have HWL : Hid (Calls Tryz.prog 289 #[.string t] w fun e w' => e = .returned (.int .i64 (wordLenB t)) ∧ w' = w) := rwordLen_any t HT.out w
 have hidx : wordLenB t < t.size → ∀ wx, (Instr.index 9 (.string t) (.int .i64 (wordLenB t))).run Tryz.prog wx = .ok (.int .u8 (byteOf t (wordLenB t))) wx := fun h wx => run_index_text t _ h wx
 clear ht
 generalize wordLenB t = n at *
 generalize headB t = hd at *
 obtain ⟨x, hx⟩ : ∃ x, x = byteOf t n := ⟨_, rfl⟩
 rw [← hx] at HK hidx
 clear hx
 cases hq : (hd.toList == k.toList) with
 | false =>
  have HR : Hid (keywordB t k = false) := by rw [HK.out]; exact decide_eq_false (fun h => text_other hq h.1)
  clear hidx
  go_enter Tryz.func282, Tryz.ntmps282
  go_wp2_with fail
  refine HWL.out.mono ?_
  rintro e w' ⟨rfl, rfl⟩
  go_wp2
  go_ret
  exact ⟨by rw [HR.out]; rfl, rfl⟩
 | true =>
  have HS : Hid (hd = k) := text_same hq
  by_cases hlt : n < t.size
  ·have n1 : (n : Int) < (t.size : Int) := by omega
   have hi := hidx hlt
   clear hidx
   by_cases h32 : (x : Int) = 32
   ·have HR : Hid (keywordB t k = true) := by rw [HK.out]; exact decide_eq_true ⟨HS.out, hlt, by omega⟩
    have hb : ((x : Int) == 32) = true := by simpa using h32
    go_enter Tryz.func282, Tryz.ntmps282
    go_wp2_with fail
    refine HWL.out.mono ?_
    rintro e w' ⟨rfl, rfl⟩
    go_wp2
    go_ret
    exact ⟨by rw [HR.out]; rfl, rfl⟩
   ·have HR : Hid (keywordB t k = false) := by rw [HK.out]; exact decide_eq_false (fun h => h32 (by omega))
    have hb : ((x : Int) == 32) = false := by simpa using h32
    go_enter Tryz.func282, Tryz.ntmps282
    go_wp2_with fail
    refine HWL.out.mono ?_
    rintro e w' ⟨rfl, rfl⟩
    go_wp2
    go_ret
    exact ⟨by rw [HR.out]; rfl, rfl⟩
  ·have n1 : ¬ (n : Int) < (t.size : Int) := by omega
   have HR : Hid (keywordB t k = false) := by rw [HK.out]; exact decide_eq_false (fun h => hlt h.2.1)
   clear hidx
   go_enter Tryz.func282, Tryz.ntmps282
   go_wp2_with fail
   refine HWL.out.mono ?_
   rintro e w' ⟨rfl, rfl⟩
   go_wp2
   go_ret
   exact ⟨by rw [HR.out]; rfl, rfl⟩
end Go.Proofs.YthhbpebihgjpjaaGreatDoor

namespace Go.Proofs.YthhbpebihgjpjaaGreatDoor
open Go.RowKit
set_option maxRecDepth 1000000

structure OpV where
 kd : Int
 a : Int
 b : Int
 d : Int
 s : ByteArray
 t : ByteArray
 la : Option Addr
 ln : Nat
 lc : Nat
 ma : Option Addr
 mn : Nat
 mc : Nat
def OpV.vals (x : OpV) : List Value := [.int .i64 x.kd, .int .i64 x.a, .int .i64 x.b, .int .i64 x.d, .string x.s, .string x.t, .slice x.la x.ln x.lc, .slice x.ma x.mn x.mc]

def Strs (w : World) (ao : Option Addr) (n : Nat) : Prop :=
 n ≤ 9223372036854775807 ∧ (n = 0 ∨ ∃ b o, ao = some ⟨b, o, none⟩ ∧ b < w.heap.size ∧ ∀ k, k < n → ∃ s : ByteArray, s.size ≤ 140737488351232 ∧ w.cell? ⟨b, o + k, none⟩ = some (.string s))
structure OpAt (w : World) (x : OpV) (b o : Nat) : Prop where
 cells : w.rangeAt b o x.vals
 lt : b < w.heap.size
 sS : x.s.size ≤ 140737488351232
 sT : x.t.size ≤ 140737488351232
 lL : Strs w x.la x.ln
 lM : Strs w x.ma x.mn
 ints : (-9223372036854775808 ≤ x.a ∧ x.a ≤ 9223372036854775807) ∧ (-9223372036854775808 ≤ x.d ∧ x.d ≤ 9223372036854775807)
def ScriptAt (w : World) (ao : Option Addr) (n : Nat) : Prop :=
 n ≤ 140737488351232 ∧ (n = 0 ∨ ∃ b o, ao = some ⟨b, o, none⟩ ∧ ∀ i, i < n → ∃ x, OpAt w x b (o + i * 8))
theorem Strs.later {w w' : World} {ao : Option Addr} {n : Nat} (h : Strs w ao n) (hs : w.heap.size ≤ w'.heap.size) (hb : ∀ k, k < w.heap.size → w'.heap[k]? = w.heap[k]?) : Strs w' ao n := by
 obtain ⟨h0, h | ⟨b, o, e, hl, h⟩⟩ := h
 ·exact ⟨h0, Or.inl h⟩
 ·refine ⟨h0, Or.inr ⟨b, o, e, by omega, fun k hk => ?_⟩⟩
  obtain ⟨s, h1, h2⟩ := h k hk
  exact ⟨s, h1, by rw [World.cell?_of_block (w := w) (a := ⟨b, o + k, none⟩) (hb b hl)]; exact h2⟩
theorem OpAt.later {w w' : World} {x : OpV} {b o : Nat} (h : OpAt w x b o) (hs : w.heap.size ≤ w'.heap.size) (hb : ∀ k, k < w.heap.size → w'.heap[k]? = w.heap[k]?) : OpAt w' x b o :=
 ⟨fun j v hv => by rw [World.cell?_of_block (w := w) (a := ⟨b, o + j, none⟩) (hb b h.lt)]; exact h.cells j v hv, by have := h.lt; omega, h.sS, h.sT, h.lL.later hs hb, h.lM.later hs hb, h.ints⟩
theorem ScriptAt.later {w w' : World} {ao : Option Addr} {n : Nat} (h : ScriptAt w ao n) (hs : w.heap.size ≤ w'.heap.size) (hb : ∀ k, k < w.heap.size → w'.heap[k]? = w.heap[k]?) : ScriptAt w' ao n := by
 obtain ⟨h0, h | ⟨b, o, e, h⟩⟩ := h
 ·exact ⟨h0, Or.inl h⟩
 ·refine ⟨h0, Or.inr ⟨b, o, e, fun i hi => ?_⟩⟩
  obtain ⟨x, hx⟩ := h i hi
  exact ⟨x, hx.later hs hb⟩
theorem size_alloc_le (w : World) (o : Obj) : w.heap.size ≤ (w.alloc o).heap.size := by simp
theorem cell_fresh (w : World) (cs : Array Value) (t : TypeId) (j : Nat) (v : Value) (h : cs[j]? = some v) : (w.alloc (.cells cs t)).cell? ⟨w.heap.size, j, none⟩ = some v := by
 rw [cell_of_row _ _ _ _ _ _ (heapA_new w _ _ rfl)]; exact h
theorem OpAt.c0 {w : World} {x : OpV} {b o : Nat} (h : OpAt w x b o) : w.cell? ⟨b, o, none⟩ = some (.int .i64 x.kd) := h.cells 0 _ rfl
theorem OpAt.c1 {w : World} {x : OpV} {b o : Nat} (h : OpAt w x b o) : w.cell? ⟨b, o + 1, none⟩ = some (.int .i64 x.a) := h.cells 1 _ rfl
theorem OpAt.c2 {w : World} {x : OpV} {b o : Nat} (h : OpAt w x b o) : w.cell? ⟨b, o + 2, none⟩ = some (.int .i64 x.b) := h.cells 2 _ rfl
theorem OpAt.c3 {w : World} {x : OpV} {b o : Nat} (h : OpAt w x b o) : w.cell? ⟨b, o + 3, none⟩ = some (.int .i64 x.d) := h.cells 3 _ rfl
theorem OpAt.c4 {w : World} {x : OpV} {b o : Nat} (h : OpAt w x b o) : w.cell? ⟨b, o + 4, none⟩ = some (.string x.s) := h.cells 4 _ rfl
theorem OpAt.c5 {w : World} {x : OpV} {b o : Nat} (h : OpAt w x b o) : w.cell? ⟨b, o + 5, none⟩ = some (.string x.t) := h.cells 5 _ rfl
theorem OpAt.c6 {w : World} {x : OpV} {b o : Nat} (h : OpAt w x b o) : w.cell? ⟨b, o + 6, none⟩ = some (.slice x.la x.ln x.lc) := h.cells 6 _ rfl
theorem OpAt.c7 {w : World} {x : OpV} {b o : Nat} (h : OpAt w x b o) : w.cell? ⟨b, o + 7, none⟩ = some (.slice x.ma x.mn x.mc) := h.cells 7 _ rfl
theorem Strs.cell {w : World} {ao : Option Addr} {n : Nat} (h : Strs w ao n) (k : Nat) (hk : k < n) : ∃ b o s, ao = some ⟨b, o, none⟩ ∧ w.cell? ⟨b, o + k, none⟩ = some (.string s) ∧ s.size ≤ 140737488351232 := by
 obtain ⟨_, h0 | ⟨b, o, e, _, h⟩⟩ := h
 ·omega
 ·obtain ⟨s, h1, h2⟩ := h k hk
  exact ⟨b, o, s, e, h2, h1⟩
end Go.Proofs.YthhbpebihgjpjaaGreatDoor

namespace Go.Proofs.YthhbpebihgjpjaaGreatDoor
open Go.RowKit
set_option maxRecDepth 1000000

def TextsAt (w : World) (v : Value) (l : List ByteArray) : Prop := ∃ ao cap, v = .slice ao l.length cap ∧ l.length ≤ cap ∧ (((ao = none → cap = 0) ∧ l = [] ∧ True) ∨ ∃ b o, ao = some ⟨b, o, none⟩ ∧ ∀ k s, l[k]? = some s → w.cell? ⟨b, o + k, none⟩ = some (.string s))
theorem TextsAt.keep {w w' : World} {v : Value} {l : List ByteArray} (h : TextsAt w v l) (hb : ∀ k, (∃ o c n, v = .slice (some ⟨k, o, none⟩) n c) → w'.heap[k]? = w.heap[k]?) : TextsAt w' v l := by
 obtain ⟨ao, cap, rfl, hc, h | ⟨b, o, rfl, h⟩⟩ := h
 ·exact ⟨ao, cap, rfl, hc, Or.inl h⟩
 ·exact ⟨_, cap, rfl, hc, Or.inr ⟨b, o, rfl, fun k s hs => (World.cell?_of_block (w := w) (a := ⟨b, o + k, none⟩) (hb b ⟨_, _, _, rfl⟩)).trans (h k s hs)⟩⟩
theorem agree_all {l1 l2 : List ByteArray} (hn : l1.length = l2.length) (h : ∀ k, k < l1.length → l1[k]? = l2[k]?) : l1 = l2 := by
 apply List.ext_getElem?
 intro k
 rcases Nat.lt_or_ge k l1.length with c | c
 ·exact h k c
 ·rw [List.getElem?_eq_none c, List.getElem?_eq_none (by omega)]

set_option maxHeartbeats 2000000 in
theorem sameTexts_any (l1 l2 : List ByteArray) (v1 v2 : Value) (w : World) (h1 : TextsAt w v1 l1) (h2 : TextsAt w v2 l2) (hs : l1.length ≤ 1099511627776) :
  Calls Tryz.prog 91 #[v1, v2] w fun e w' => e = .returned (.bool (decide (l1 = l2))) ∧ ∃ m, w' = w.drewN m := by
 obtain ⟨a1, c1, rfl, hc1, h1⟩ := h1
 obtain ⟨a2, c2, rfl, hc2, h2⟩ := h2
 by_cases hn : l1.length = l2.length
 ·have H1 : Hid (((a1 = none → c1 = 0) ∧ l1 = [] ∧ True) ∨ ∃ b o, a1 = some ⟨b, o, none⟩ ∧ ∀ k s, l1[k]? = some s → w.cell? ⟨b, o + k, none⟩ = some (.string s)) := h1
  have H2 : Hid (((a2 = none → c2 = 0) ∧ l2 = [] ∧ True) ∨ ∃ b o, a2 = some ⟨b, o, none⟩ ∧ ∀ k s, l2[k]? = some s → w.cell? ⟨b, o + k, none⟩ = some (.string s)) := h2
  have HN : Hid (l1.length = l2.length) := hn
  have n0 : (l1.length : Int) ≤ 1099511627776 := by omega
  rw [← hn]
  clear h1 h2 hn hc2
  generalize hL : l1.length = L at *
  go_enter Tryz.func91, Tryz.ntmps91
  go_wp2
  go_loopw [5] (fun i wr => ∃ j : Nat, i = .int .i64 j ∧ j ≤ L ∧ (∀ k, k < j → l1[k]? = l2[k]?) ∧ ∃ m, wr = w.drewN m) (fun i _ => L - (intOf i).toNat)
  case atStart => exact ⟨0, rfl, Nat.zero_le _, fun k hk => by omega, 0, rfl⟩
  case round =>
   obtain ⟨j, rfl, hle, hag, m, rfl⟩ := hrel
   by_cases hlt : j < L
   ·obtain ⟨x, hx⟩ : ∃ x, l1[j]? = some x := ⟨l1[j]'(by omega), by simp⟩
    obtain ⟨y, hy⟩ : ∃ y, l2[j]? = some y := ⟨l2[j]'(by have := HN.out; omega), by simp⟩
    obtain ⟨g1, o1, rfl, q1⟩ : ∃ b o, a1 = some ⟨b, o, none⟩ ∧ ∀ k s, l1[k]? = some s → w.cell? ⟨b, o + k, none⟩ = some (.string s) := by
     rcases H1.out with e | e
     ·rw [e.2.1] at hx; simp at hx
     ·exact e
    obtain ⟨g2, o2, rfl, q2⟩ : ∃ b o, a2 = some ⟨b, o, none⟩ ∧ ∀ k s, l2[k]? = some s → w.cell? ⟨b, o + k, none⟩ = some (.string s) := by
     rcases H2.out with e | e
     ·rw [e.2.1] at hy; simp at hy
     ·exact e
    have r1 : (w.drewN m).cell? ⟨g1, o1 + j, none⟩ = some (.string x) := q1 j x hx
    have r2 : (w.drewN m).cell? ⟨g2, o2 + j, none⟩ = some (.string y) := q2 j y hy
    have i0 : (0 : Int) ≤ (j : Int) := by omega
    have i1 : (j : Int) < (L : Int) := by omega
    have HAG : Hid (∀ k, k < j → l1[k]? = l2[k]?) := hag
    have HXY : Hid (l1[j]? = some x ∧ l2[j]? = some y) := ⟨hx, hy⟩
    clear q1 q2 hag hx hy
    go_wp2_with fail
    go_region_held3 (fun w' => w'.cell? ⟨g1, o1 + j, none⟩ = some (.string x) ∧ w'.cell? ⟨g2, o2 + j, none⟩ = some (.string y)) (exact ⟨r1, r2⟩) (fail)
    all_goals
     clear r1 r2
     have hdw : (w.drewN m).drew = w.drewN (m + 1) := rfl
     rw [hdw]
     clear hdw
     by_cases hq : (x.toList == y.toList) = true
     ·have HST : Hid (∀ k, k < j + 1 → l1[k]? = l2[k]?) := fun k hk => by
       rcases Nat.lt_or_ge k j with c | c
       ·exact HAG.out k c
       ·obtain rfl : k = j := by omega
        rw [HXY.out.1, HXY.out.2, text_same hq]
      rw [hq]
      clear hq
      go_wp2
      refine ⟨⟨j + 1, by go_num, hlt, HST.out, m + 1, rfl⟩, by simp [intOf]; omega⟩
     ·have hq2 : (x.toList == y.toList) = false := by simpa using hq
      have HNE : Hid (decide (l1 = l2) = false) := by
       show _ = _
       refine decide_eq_false (fun e => text_other hq2 ?_)
       have e1 := HXY.out.1
       have e2 := HXY.out.2
       rw [e, e2] at e1
       exact (Option.some.inj e1).symm
      rw [hq2]
      clear hq hq2
      go_wp2
      go_ret
      exact ⟨by rw [HNE.out]; rfl, m + 1, rfl⟩
   ·obtain rfl : j = L := by omega
    have HE : Hid (decide (l1 = l2) = true) := by
     show _ = _
     exact decide_eq_true (agree_all (hL.trans HN.out) (fun k hk => hag k (by omega)))
    clear hag
    go_wp2
    go_ret
    exact ⟨by rw [HE.out]; rfl, _, rfl⟩
 ·have HE : Hid (decide (l1 = l2) = false) := by
   show _ = _
   exact decide_eq_false (fun e => hn (by rw [e]))
  have hn1 : ¬ (l1.length : Int) = (l2.length : Int) := by omega
  clear h1 h2
  go_enter Tryz.func91, Tryz.ntmps91
  go_wp2
  go_ret
  exact ⟨by rw [HE.out]; rfl, 0, rfl⟩
end Go.Proofs.YthhbpebihgjpjaaGreatDoor

namespace Go.Proofs.YthhbpebihgjpjaaGreatDoor
open Go.RowKit
set_option maxRecDepth 1000000

theorem TextsAt.keepB {w w' : World} {v : Value} {l : List ByteArray} (h : TextsAt w v l) (hb : Below w.heap.size w w') : TextsAt w' v l := by
 obtain ⟨ao, cap, rfl, hc, h | ⟨b, o, rfl, h⟩⟩ := h
 ·exact ⟨ao, cap, rfl, hc, Or.inl h⟩
 ·exact ⟨_, cap, rfl, hc, Or.inr ⟨b, o, rfl, fun k s hs => (World.cell?_of_block (w := w) (a := ⟨b, o + k, none⟩) (hb.block b (block_lt_of_cell (h k s hs)))).trans (h k s hs)⟩⟩
theorem rkeep {w w' : World} {base : Nat} {e : TypeId} {s : Nat} {v : Value} {n : Nat} {xs : List Value} (h : w.ownsRow base e s v n xs) (hb : ∀ k, v.ownBlock = some k → w'.heap[k]? = w.heap[k]?) : w'.ownsRow base e s v n xs := by
 obtain ⟨h1, ⟨rfl, h0⟩ | ⟨g, cap, cur, rfl, hg, hh, r⟩⟩ := h
 ·exact ⟨h1, Or.inl ⟨rfl, h0⟩⟩
 ·exact ⟨h1, Or.inr ⟨g, cap, cur, rfl, hg, by rw [hb g rfl]; exact hh, r⟩⟩
theorem rblock {w : World} {base : Nat} {e : TypeId} {s : Nat} {v : Value} {n : Nat} {xs : List Value} (h : w.ownsRow base e s v n xs) (k : Nat) (hk : v.ownBlock = some k) : base ≤ k ∧ k < w.heap.size := by
 obtain ⟨h1, ⟨rfl, h0⟩ | ⟨g, cap, cur, rfl, hg, hh, r⟩⟩ := h
 ·cases hk
 ·have e : g = k := Option.some.inj hk
  subst e
  refine ⟨hg, ?_⟩
  rcases Nat.lt_or_ge g w.heap.size with c | c
  ·exact c
  ·rw [Array.getElem?_eq_none c] at hh; cases hh

end Go.Proofs.YthhbpebihgjpjaaGreatDoor
