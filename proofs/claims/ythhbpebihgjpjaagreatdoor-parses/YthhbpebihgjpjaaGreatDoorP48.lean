import Derived.Test.YthhbpebihgjpjaaGreatDoorP46
import Derived.Test.YthhbpebihgjpjaaGreatDoorP47
import Derived.Test.YthhbpebihgjpjaaGreatDoorP45
namespace Go.Proofs.YthhbpebihgjpjaaGreatDoor
open Go.RowKit
set_option maxRecDepth 1000000

theorem primes_64 : primesM 64 1000 2 [] = some primes64 := by decide +kernel
theorem primes64_lt (i : Nat) : primes64.getD i 0 < 1048576 := by
 by_cases h : i < 64
 ·have : ∀ x ∈ primes64, x < 1048576 := by decide
  rw [List.getD_eq_getElem?_getD, List.getElem?_eq_getElem (by exact h)]
  exact this _ (List.getElem_mem _)
 ·rw [List.getD_eq_getElem?_getD, List.getElem?_eq_none (by show 64 ≤ i; omega)]; decide
theorem take_next (l : List Nat) (i : Nat) (h : i < l.length) : l.take (i + 1) = l.take i ++ [l.getD i 0] := by
 rw [List.take_succ_eq_append_getElem h, List.getD_eq_getElem?_getD, List.getElem?_eq_getElem h]; rfl

theorem roots2_at (i : Nat) (hi : i < 8) : rootM (primes64.getD i 0) 2 = some (heads.getD i 0) := by
 have := congrArg (fun x => x[i]?) roots2
 have hl : i < primes64.length := by show i < 64; omega
 have hk : i < heads.length := hi
 simp only [List.getElem?_map, List.getElem?_take, if_pos hi, List.getElem?_eq_getElem hl, List.getElem?_eq_getElem hk, Option.map_some, Option.some.injEq] at this
 simpa [List.getD_eq_getElem?_getD, List.getElem?_eq_getElem hl, List.getElem?_eq_getElem hk] using this
theorem Own.mono {base base' : Nat} {v : Value} {l : List Nat} {w : World} (h : Own base v l w) (hb : base' ≤ base) : Own base' v l w := by
 obtain ⟨h1, ⟨rfl, h0⟩ | ⟨g, cap, cur, rfl, hg, r⟩⟩ := h.own
 ·exact ⟨⟨h1, Or.inl ⟨rfl, h0⟩⟩⟩
 ·exact ⟨⟨h1, Or.inr ⟨g, cap, cur, rfl, Nat.le_trans hb hg, r⟩⟩⟩

set_option maxHeartbeats 2000000 in
theorem constants_any (w : World) :
  Calls Tryz.prog 79 #[] w fun e w' => ∃ vk vh, e = .returned (.tuple #[vk, vh]) ∧ Own w.heap.size vk keys w' ∧ Own w.heap.size vh heads w' ∧ Below w.heap.size w w' := by
 go_enter Tryz.func79, Tryz.ntmps79
 go_wp2_with fail
 refine (primes_any 64 primes64 primes_64 (by omega) _).mono ?_
 rintro e w1 ⟨v, rfl, ho1, hb1⟩
 obtain ⟨g, cap, hv, hg, hcell⟩ := ho1.row (by decide)
 rw [show primes64.length = 64 from rfl] at hv
 subst hv
 have HC : Hid (∀ i, i < 64 → w1.cell? ⟨g, i, none⟩ = some (.int .i64 ((primes64.getD i 0 : Nat) : Int))) := hcell
 have HB1 : Hid (Below w.heap.size w w1) := hb1
 have hgl : g < w1.heap.size := block_lt_of_cell (hcell 0 (by decide))
 clear ho1 hb1 hcell
 have hinf : (Tryz.prog.info? 3).map (fun i => (i.size, i.bytes, i.zero)) = some (1, 8, some (.int .i64 0)) := by kernel_rfl
 obtain ⟨ti, hti, htj⟩ := Option.map_eq_some_iff.1 hinf
 simp only [Prod.mk.injEq] at htj
 have HTI : Hid (Tryz.prog.info? 3 = some ti ∧ ti.size = 1 ∧ ti.bytes = 8 ∧ ti.zero = some (.int .i64 0)) := ⟨hti, htj.1, htj.2.1, htj.2.2⟩
 clear hinf hti htj
 go_wp2
 go_loopw [3, 5] (fun v q wr => ∃ i : Nat, i ≤ 64 ∧ q = .int .i64 i ∧ Own w1.heap.size v (keys.take i) wr ∧ Below w1.heap.size w1 wr) (fun _ q _ => 64 - (intOf q).toNat)
 case atStart => exact ⟨0, by omega, rfl, ⟨⟨rfl, Or.inl ⟨rfl, rfl⟩⟩⟩, Below.refl _ _⟩
 case round =>
  obtain ⟨i, hi, rfl, hown, hbel⟩ := hrel
  obtain ⟨ao, cap2, hform⟩ := hown.form
  subst hform
  have HO : Hid (Own w1.heap.size (.slice ao (keys.take i).length cap2) (keys.take i) wr) := hown
  have HB : Hid (Below w1.heap.size w1 wr) := hbel
  have hlen : (keys.take i).length = i := by rw [List.length_take]; show min i 64 = i; omega
  clear hown hbel
  by_cases hlt : i < 64
  ·have cx : wr.cell? ⟨g, i, none⟩ = some (.int .i64 ((primes64.getD i 0 : Nat) : Int)) := by
    rw [HB.out.cell (p := ⟨g, i, none⟩) (by show g < _; omega)]; exact HC.out i (by omega)
   obtain ⟨r, hr⟩ : ∃ r, r = keys.getD i 0 := ⟨_, rfl⟩
   have HR : Hid (rootM (primes64.getD i 0) 3 = some r) := by rw [hr]; exact roots3 i hlt
   have HX : Hid (primes64.getD i 0 < 1048576) := primes64_lt i
   have HT : Hid (keys.take (i + 1) = keys.take i ++ [r]) := by rw [hr]; exact take_next _ _ (by show i < 64; omega)
   clear hr
   generalize primes64.getD i 0 = x at *
   generalize keys.take i = l at *
   generalize hl2 : keys.take (i + 1) = l2 at *
   have HL2 : Hid (keys.take (i + 1) = l2) := hl2
   clear hl2
   have HL : Hid (l.length = i) := hlen
   clear hlen
   have i1 : (i : Int) < 64 := by omega
   have i2 : (i : Int) < 64 := by omega
   go_wp2_with fail
   refine (root3 x r HR.out HX.out _).mono ?_
   rintro e w2 ⟨rfl, hb2⟩
   have HO2 : Hid (Own w1.heap.size (.slice ao l.length cap2) l w2) := HO.out.later (fun k hk => hb2.block k hk)
   have HB2 : Hid (Below w1.heap.size w1 w2) := HB.out.trans (hb2.mono HB.out.size)
   clear hb2 HO HB cx
   go_wp2_with (refine wpList_append_own _ rfl (.tmp 19) (.tmp 21) 48 rfl w1.heap.size 3 ti (.int .i64 0) 1 8 Tryz.underlying48 HTI.out.1 HTI.out.2.2.2 HTI.out.2.1 HTI.out.2.2.1 rfl (by decide) _ l.length (vals l) rfl (by exact (HO2.out.later (fun k hk => heapA_old w2 _ k hk)).own) ⟨w2.heap.size, 0, none⟩ 1 1 [.int .i64 (r : Int)] rfl rfl (by exact cell_one_new w2 _ _) (by intro u hu; simp at hu; subst hu; rfl) (by have := HL.out; unfold maxLen; omega) (by have := HL.out; omega) (by have := HB2.out.size; simp; omega) ?_; intro v' w3 hv3 hg3 hn3; refine Hid.out ?_)
   have HO3 : Hid (Own w1.heap.size v' l2 w3) := by
    rw [HT.out]
    exact ⟨by rw [List.length_append, vals_append]; exact hv3⟩
   have HB3 : Hid (Below w1.heap.size w1 w3) := (HB2.out.alloc HB2.out.size _).grown hg3 (by have := HB2.out.size; simp; omega) (fun k hk => HO2.out.block k hk)
   clear hv3 hg3 hn3 HO2 HB2
   unfold Hid
   go_wp2
   go_roundw
   case rel =>
    first
     | exact ⟨i + 1, by omega, by go_num, by rw [HL2.out]; exact HO3.out, HB3.out⟩
     | ((repeat apply Exists.intro); exact ⟨⟨i + 1, by omega, by go_num, by rw [HL2.out]; exact HO3.out, HB3.out⟩, rfl⟩)
   case measure => simp [intOf]; omega
  ·obtain rfl : i = 64 := by omega
   have HOk : Hid (Own w1.heap.size (.slice ao 64 cap2) keys wr) := HO.out
   have HBk : Hid (Below w1.heap.size w1 wr) := HB.out
   have hsl : (keys.take 64).length = 64 := rfl
   have HCk : Hid (∀ i, i < 64 → wr.cell? ⟨g, i, none⟩ = some (.int .i64 ((primes64.getD i 0 : Nat) : Int))) := fun i hi => by
    rw [HBk.out.cell (p := ⟨g, i, none⟩) (by show g < _; exact hgl)]; exact HC.out i hi
   have hgk : g < wr.heap.size := Nat.lt_of_lt_of_le hgl HBk.out.size
   rw [hsl]
   clear HO HB hlen hsl HC
   obtain ⟨wk, rfl⟩ : ∃ wk : World, wk = wr := ⟨_, rfl⟩
   go_wp2
   go_loopw [4, 7] (fun v q wr => ∃ i : Nat, i ≤ 8 ∧ q = .int .i64 i ∧ Own wk.heap.size v (heads.take i) wr ∧ Below wk.heap.size wk wr) (fun _ q _ => 8 - (intOf q).toNat)
   case atStart => exact ⟨0, by omega, rfl, ⟨⟨rfl, Or.inl ⟨rfl, rfl⟩⟩⟩, Below.refl _ _⟩
   case round =>
    obtain ⟨i, hi, rfl, hown, hbel⟩ := hrel
    obtain ⟨ao, cap2, hform⟩ := hown.form
    subst hform
    have HO : Hid (Own wk.heap.size (.slice ao (heads.take i).length cap2) (heads.take i) wr) := hown
    have HB : Hid (Below wk.heap.size wk wr) := hbel
    have hlen : (heads.take i).length = i := by rw [List.length_take]; show min i 8 = i; omega
    clear hown hbel
    by_cases hlt : i < 8
    ·have cx : wr.cell? ⟨g, i, none⟩ = some (.int .i64 ((primes64.getD i 0 : Nat) : Int)) := by
      rw [HB.out.cell (p := ⟨g, i, none⟩) (by show g < _; exact hgk)]; exact HCk.out i (by omega)
     obtain ⟨r, hr⟩ : ∃ r, r = heads.getD i 0 := ⟨_, rfl⟩
     have HR : Hid (rootM (primes64.getD i 0) 2 = some r) := by rw [hr]; exact roots2_at i hlt
     have HX : Hid (primes64.getD i 0 < 1048576) := primes64_lt i
     have HT : Hid (heads.take (i + 1) = heads.take i ++ [r]) := by rw [hr]; exact take_next _ _ (by show i < 8; omega)
     clear hr
     generalize primes64.getD i 0 = x at *
     generalize heads.take i = l at *
     generalize hl2 : heads.take (i + 1) = l2 at *
     have HL2 : Hid (heads.take (i + 1) = l2) := hl2
     clear hl2
     have HL : Hid (l.length = i) := hlen
     clear hlen
     have i1 : (i : Int) < 8 := by omega
     have i2 : (i : Int) < 64 := by omega
     go_wp2_with fail
     refine (root2 x r HR.out HX.out _).mono ?_
     rintro e w2 ⟨rfl, hb2⟩
     have HO2 : Hid (Own wk.heap.size (.slice ao l.length cap2) l w2) := HO.out.later (fun k hk => hb2.block k hk)
     have HB2 : Hid (Below wk.heap.size wk w2) := HB.out.trans (hb2.mono HB.out.size)
     clear hb2 HO HB cx
     go_wp2_with (refine wpList_append_own _ rfl (.tmp 32) (.tmp 34) 48 rfl wk.heap.size 3 ti (.int .i64 0) 1 8 Tryz.underlying48 HTI.out.1 HTI.out.2.2.2 HTI.out.2.1 HTI.out.2.2.1 rfl (by decide) _ l.length (vals l) rfl (by exact (HO2.out.later (fun k hk => heapA_old w2 _ k hk)).own) ⟨w2.heap.size, 0, none⟩ 1 1 [.int .i64 (r : Int)] rfl rfl (by exact cell_one_new w2 _ _) (by intro u hu; simp at hu; subst hu; rfl) (by have := HL.out; unfold maxLen; omega) (by have := HL.out; omega) (by have := HB2.out.size; simp; omega) ?_; intro v' w3 hv3 hg3 hn3; refine Hid.out ?_)
     have HO3 : Hid (Own wk.heap.size v' l2 w3) := by
      rw [HT.out]
      exact ⟨by rw [List.length_append, vals_append]; exact hv3⟩
     have HB3 : Hid (Below wk.heap.size wk w3) := (HB2.out.alloc HB2.out.size _).grown hg3 (by have := HB2.out.size; simp; omega) (fun k hk => HO2.out.block k hk)
     clear hv3 hg3 hn3 HO2 HB2
     unfold Hid
     go_wp2
     go_roundw
     case rel =>
      first
       | exact ⟨i + 1, by omega, by go_num, by rw [HL2.out]; exact HO3.out, HB3.out⟩
       | ((repeat apply Exists.intro); exact ⟨⟨i + 1, by omega, by go_num, by rw [HL2.out]; exact HO3.out, HB3.out⟩, rfl⟩)
     case measure => simp [intOf]; omega
    ·obtain rfl : i = 8 := by omega
     have HOh : Hid (Own wk.heap.size (.slice ao (heads.take 8).length cap2) heads wr) := HO.out
     have HBh : Hid (Below wk.heap.size wk wr) := HB.out
     clear HO HB hlen
     go_wp2
     go_ret2
     refine ⟨_, _, rfl, ?_, ?_, ?_⟩
     ·exact (HOk.out.later (fun k hk => HBh.out.block k hk)).mono HB1.out.size
     ·exact HOh.out.mono (Nat.le_trans HB1.out.size HBk.out.size)
     ·exact HB1.out.trans ((HBk.out.trans (HBh.out.mono HBk.out.size)).mono HB1.out.size)
end Go.Proofs.YthhbpebihgjpjaaGreatDoor

namespace Go.Proofs.YthhbpebihgjpjaaGreatDoor
open Go.RowKit
set_option maxRecDepth 1000000

theorem newMaker_any (w : World) :
  Calls Tryz.prog 55 #[] w fun e w' => ∃ m vk vh, e = .returned (.pointer (some ⟨m, 0, none⟩)) ∧ w.heap.size ≤ m ∧ w'.heap[m]? = some (.cells #[vk, vh] 156 (0, 0)) ∧ Own w.heap.size vk keys w' ∧ Own w.heap.size vh heads w' ∧ Below w.heap.size w w' := by
 go_enter Tryz.func55, Tryz.ntmps55
 go_wp2_with fail
 refine (constants_any _).mono ?_
 rintro e w1 ⟨vk, vh, rfl, hk, hh, hb⟩
 have HK : Hid (Own w.heap.size vk keys w1) := hk
 have HH : Hid (Own w.heap.size vh heads w1) := hh
 have HB : Hid (Below w.heap.size w w1) := hb
 obtain ⟨a1, c1, e1⟩ := hk.form
 obtain ⟨a2, c2, e2⟩ := hh.form
 clear hk hh hb
 subst e1 e2
 go_wp2
 go_ret
 exact ⟨w1.heap.size, _, _, rfl, HB.out.size, heapA_new _ _ _ rfl, HK.out.later (fun k hk => heapA_old w1 _ k hk), HH.out.later (fun k hk => heapA_old w1 _ k hk), HB.out.alloc HB.out.size _⟩
end Go.Proofs.YthhbpebihgjpjaaGreatDoor

namespace Go.Proofs.YthhbpebihgjpjaaGreatDoor
open Go.RowKit Go.Maps
set_option maxRecDepth 1000000

theorem bit_in (m k : Nat) (hm : m < 9223372036854775808) : bits .and .i64 ((m : Int) / 2 ^ k) 1 = ((m / 2 ^ k % 2 : Nat) : Int) := by
 have e1 : ((m : Int) / 2 ^ k) = ((m / 2 ^ k : Nat) : Int) := by simp
 have hl : m / 2 ^ k < 9223372036854775808 := Nat.lt_of_le_of_lt (Nat.div_le_self _ _) hm
 rw [e1]
 generalize m / 2 ^ k = a at *
 have h1 : (BitVec.ofInt 64 (a : Int)).toNat = a := by rw [BitVec.ofInt_natCast, BitVec.toNat_ofNat]; exact Nat.mod_eq_of_lt (by omega)
 have h2 : (BitVec.ofInt 64 (1 : Int)).toNat = 1 := by decide
 show IntKind.i64.wrap ((BitVec.ofInt 64 (a : Int) &&& BitVec.ofInt 64 (1 : Int)).toNat : Int) = _
 rw [BitVec.toNat_and, h1, h2, IntKind.wrap_i64, Nat.and_one_is_mod]
 omega
def UpP (mv : Value) (w : World) (j : Nat) (wr : World) : Prop :=
 ∃ c vp vq vl ps qs E left, ParSt c w w.heap.size mv vp vq vl ps qs E left wr ∧ (-281474976710656 ≤ left ∧ left ≤ 262144) ∧ ps.length ≤ j ∧ qs.length ≤ j ∧ E.length ≤ j
theorem UpP.next {mv : Value} {w wr : World} {j : Nat} (h : UpP mv w j wr) : UpP mv w (j + 1) wr := by
 obtain ⟨c, vp, vq, vl, ps, qs, E, left, h1, h2, h3, h4, h5⟩ := h
 exact ⟨c, vp, vq, vl, ps, qs, E, left, h1, h2, by omega, by omega, by omega⟩

set_option maxHeartbeats 4000000 in
theorem upto_parses (a : Nat → Addr) (t : Nat → ByteArray) (ao : Option Addr) (n cap : Nat) (w : World) (hs : ScriptAt w ao n) (hn : n ≤ 262144) (hS : Sents a t w) (hgl : Gl a w) (hg : 14 ≤ w.heap.size) :
  Calls Tryz.prog 38 #[.slice ao n cap, .int .i64 16384, .int .i64 16384, .bool false] w fun e w' => e = .returned (.int .i64 (-1)) ∧ Below w.heap.size w w' := by
 have HS : Hid (ScriptAt w ao n) := hs
 have HSE : Hid (Sents a t w ∧ Gl a w ∧ 14 ≤ w.heap.size) := ⟨hS, hgl, hg⟩
 have n0 : (n : Int) ≤ 262144 := by omega
 clear hs hS hgl hg
 go_enter Tryz.func38, Tryz.ntmps38
 go_wp2_with fail
 have HZ : Hid ((w.alloc (.cells #[.pointer none, .slice none 0 0, .slice none 0 0, .slice none 0 0, .slice none 0 0, .int .i64 0, .int .i64 262144] 112)).heap[w.heap.size]? = some (.cells #[.pointer none, .slice none 0 0, .slice none 0 0, .slice none 0 0, .slice none 0 0, .int .i64 0, .int .i64 262144] 112 (0, 0))) := heapA_new _ _ _ rfl
 have HBA : Hid (Below w.heap.size w (w.alloc (.cells #[.pointer none, .slice none 0 0, .slice none 0 0, .slice none 0 0, .slice none 0 0, .int .i64 0, .int .i64 262144] 112))) := (Below.refl _ _).alloc (Nat.le_refl _) _
 have hsz : (w.alloc (.cells #[.pointer none, .slice none 0 0, .slice none 0 0, .slice none 0 0, .slice none 0 0, .int .i64 0, .int .i64 262144] 112)).heap.size = w.heap.size + 1 := World.size_alloc _ _
 generalize w.alloc (.cells #[.pointer none, .slice none 0 0, .slice none 0 0, .slice none 0 0, .slice none 0 0, .int .i64 0, .int .i64 262144] 112) = wa at *
 refine (newMaker_any wa).mono ?_
 rintro e w1 ⟨m, _, _, rfl, _, _, _, _, hb1⟩
 have HW1 : Hid (w1.heap[w.heap.size]? = some (.cells #[.pointer none, .slice none 0 0, .slice none 0 0, .slice none 0 0, .slice none 0 0, .int .i64 0, .int .i64 262144] 112 (0, 0))) := by show _ = _; rw [hb1.block _ (by omega)]; exact HZ.out
 have cw : w1.cell? ⟨w.heap.size, 0, none⟩ = some (.pointer none) := by rw [cell_of_row _ _ _ _ _ _ HW1.out]; rfl
 have fw : w1.frozen? ⟨w.heap.size, 0, none⟩ = false := frozen_of_row _ _ _ _ _ HW1.out
 have HW0 : Hid (PRow (w1.setCell ⟨w.heap.size, 0, none⟩ (.pointer (some ⟨m, 0, none⟩))) w.heap.size (.pointer (some ⟨m, 0, none⟩)) (.slice none 0 0) (.slice none 0 0) (.slice none 0 0) 262144) := heap_setCell_same _ _ _ _ _ _ HW1.out
 have HB0 : Hid (Below w.heap.size w (w1.setCell ⟨w.heap.size, 0, none⟩ (.pointer (some ⟨m, 0, none⟩)))) := (HBA.out.trans (hb1.mono (by omega))).setCell (Nat.le_refl _) _
 have HU0 : Hid (UpP (.pointer (some ⟨m, 0, none⟩)) w 0 (w1.setCell ⟨w.heap.size, 0, none⟩ (.pointer (some ⟨m, 0, none⟩)))) := by
  have hlt : w.heap.size < (w1.setCell ⟨w.heap.size, 0, none⟩ (.pointer (some ⟨m, 0, none⟩))).heap.size := HW0.out.lt
  exact ⟨fun k => if k = w.heap.size then 1 else 0, .slice none 0 0, .slice none 0 0, .slice none 0 0, [], [], [], 262144, { row := HW0.out, p := World.ownsRow_nil _ _ _ _, q := World.ownsRow_nil _ _ _ _, lists := World.ownsRow_nil _ _ _ _, const := (fun _ _ _ x hx => by cases hx), c1 := if_pos rfl, c2 := (fun k hk => by cases hk), c3 := (fun k hk => by cases hk), c4 := (fun k hk => by cases hk), fresh := (fun k hk => if_neg (by omega)), wlow := Nat.le_refl _, bl := HB0.out }, ⟨by omega, by omega⟩, Nat.le_refl _, Nat.le_refl _, Nat.le_refl _⟩
 clear hb1 HZ HBA HW1 HW0 HB0
 go_wp2
 clear cw fw
 generalize w1.setCell ⟨w.heap.size, 0, none⟩ (.pointer (some ⟨m, 0, none⟩)) = w0 at *
 go_loopw [10] (fun i wr => ∃ j : Nat, j ≤ n ∧ i = .int .i64 j ∧ UpP (.pointer (some ⟨m, 0, none⟩)) w j wr) (fun i _ => n - (intOf i).toNat)
 case atStart => exact ⟨0, by omega, rfl, HU0.out⟩
 case round =>
  obtain ⟨j, hj, rfl, hup⟩ := hrel
  have HU : Hid (UpP (.pointer (some ⟨m, 0, none⟩)) w j wr) := hup
  obtain ⟨c, vp, vq, vl, ps, qs, E, left, hst, hlf, hl1, hl2, hl3⟩ := hup
  have HD : Hid (ParSt c w w.heap.size (.pointer (some ⟨m, 0, none⟩)) vp vq vl ps qs E left wr) := hst
  have HLN : Hid (ps.length ≤ j ∧ qs.length ≤ j ∧ E.length ≤ j) := ⟨hl1, hl2, hl3⟩
  have HK : Hid (Below w.heap.size w wr) := hst.bl
  have cf : wr.cell? ⟨w.heap.size, 6, none⟩ = some (.int .i64 left) := by rw [cell_of_row _ _ _ _ _ _ hst.row]; rfl
  clear hst hl1 hl2 hl3 HU0
  by_cases hlt : j < n
  ·by_cases hpos : 0 < left
   ·obtain ⟨b, o, rfl, hop⟩ : ∃ b o, ao = some ⟨b, o, none⟩ ∧ ∃ y, OpAt w y b (o + j * 8) := by
     obtain ⟨_, h | ⟨b, o, e, h⟩⟩ := HS.out
     ·omega
     ·exact ⟨b, o, e, h j hlt⟩
    obtain ⟨y, hy0⟩ := hop
    have hy : OpAt wr y b (o + j * 8) := hy0.later HK.out.size HK.out.block
    have c0 := hy.c0
    have c1 := hy.c1
    have c2 := hy.c2
    have c3 := hy.c3
    have c4 := hy.c4
    have c5 := hy.c5
    have c6 := hy.c6
    have c7 := hy.c7
    have hints := hy.ints
    have hsS := hy.sS
    have hsT := hy.sT
    clear hy hy0
    have i0 : (0 : Int) ≤ (j : Int) := by omega
    have i1 : (j : Int) < (n : Int) := by omega
    obtain ⟨kd, ya, yb, yd, ys, yt, la, ln, lc, ma, mn, mc⟩ := y
    simp only at c0 c1 c2 c3 c4 c5 c6 c7 hsS hsT hints
    by_cases hkd : kd = 14
    ·subst hkd
     have hbit : bits .and .i64 (16384 / 2 ^ 14) 1 = 1 := by decide
     have HSTEP : Hid (Calls Tryz.prog 56 #[.pointer (some ⟨w.heap.size, 0, none⟩), .agg #[.int .i64 14, .int .i64 ya, .int .i64 yb, .int .i64 yd, .string ys, .string yt, .slice la ln lc, .slice ma mn mc]] wr (ParPost w w.heap.size (.pointer (some ⟨m, 0, none⟩)) (j + 1) (left - ys.size))) := step_parse ⟨14, ya, yb, yd, ys, yt, la, ln, lc, ma, mn, mc⟩ rfl a t HD.out HSE.out.2.1 HSE.out.1 HSE.out.2.2 (show ys.size ≤ 140737488351232 by omega) ⟨by omega, by omega⟩ HLN.out (by omega)
     go_wp2_with fail
     refine HSTEP.out.mono ?_
     rintro e w4 ⟨rfl, c', vp', vq', vl', ps', qs', E', hst4, k1, k2, k3⟩
     have HU4 : Hid (UpP (.pointer (some ⟨m, 0, none⟩)) w (j + 1) w4) := ⟨c', vp', vq', vl', ps', qs', E', _, hst4, ⟨by omega, by omega⟩, k1, k2, k3⟩
     have HLK : Hid (Calls Tryz.prog 57 #[.pointer (some ⟨w.heap.size, 0, none⟩)] w4 fun e w' => e = .returned (.bool true) ∧ Below w4.heap.size w4 w') := looks_edges hst4 (by omega)
     clear hst4 k1 k2 k3 HSTEP c0 c1 c2 c3 c4 c5 c6 c7 cf
     go_wp2_with fail
     refine HLK.out.mono ?_
     rintro e w5 ⟨rfl, hb5⟩
     have HU5 : Hid (UpP (.pointer (some ⟨m, 0, none⟩)) w (j + 1) w5) := by
      obtain ⟨c2, vp2, vq2, vl2, ps2, qs2, E2, left2, h1, h2, h3⟩ := HU4.out
      exact ⟨c2, vp2, vq2, vl2, ps2, qs2, E2, left2, h1.below hb5, h2, h3⟩
     clear hb5 HLK HU4
     go_wp2
     go_roundw
     case rel =>
      first
       | exact ⟨j + 1, by omega, by go_num, HU5.out⟩
       | ((repeat apply Exists.intro); exact ⟨⟨j + 1, by omega, by go_num, HU5.out⟩, rfl⟩)
     case measure => simp [intOf]; omega
    ·by_cases hk2 : kd < 1
     ·go_wp2
      go_roundw
      case rel =>
       first
        | exact ⟨j + 1, by omega, by go_num, HU.out.next⟩
        | ((repeat apply Exists.intro); exact ⟨⟨j + 1, by omega, by go_num, HU.out.next⟩, rfl⟩)
      case measure => simp [intOf]; omega
     ·by_cases hk3 : 18 < kd
      ·have hk4 : ¬ kd < 1 := hk2
       go_wp2
       go_roundw
       case rel =>
        first
         | exact ⟨j + 1, by omega, by go_num, HU.out.next⟩
         | ((repeat apply Exists.intro); exact ⟨⟨j + 1, by omega, by go_num, HU.out.next⟩, rfl⟩)
       case measure => simp [intOf]; omega
      ·obtain ⟨k, rfl⟩ : ∃ k : Nat, kd = (k : Int) := ⟨kd.toNat, by omega⟩
       have k18 : (k : Int) ≤ 18 := by omega
       have k1 : (1 : Int) ≤ (k : Int) := by omega
       have hbit : bits .and .i64 (16384 / 2 ^ k) 1 = 0 := by
        have h := bit_in 16384 k (by decide)
        have hc : k = 1 ∨ k = 2 ∨ k = 3 ∨ k = 4 ∨ k = 5 ∨ k = 6 ∨ k = 7 ∨ k = 8 ∨ k = 9 ∨ k = 10 ∨ k = 11 ∨ k = 12 ∨ k = 13 ∨ k = 15 ∨ k = 16 ∨ k = 17 ∨ k = 18 := by omega
        rw [show (16384 : Int) = ((16384 : Nat) : Int) from rfl, h]
        rcases hc with rfl | rfl | rfl | rfl | rfl | rfl | rfl | rfl | rfl | rfl | rfl | rfl | rfl | rfl | rfl | rfl | rfl <;> rfl
       clear hkd
       go_wp2
       go_roundw
       case rel =>
        first
         | exact ⟨j + 1, by omega, by go_num, HU.out.next⟩
         | ((repeat apply Exists.intro); exact ⟨⟨j + 1, by omega, by go_num, HU.out.next⟩, rfl⟩)
       case measure => simp [intOf]; omega
   ·have hpos2 : ¬ 0 < left := hpos
    go_wp2
    go_ret
    exact ⟨rfl, HK.out⟩
  ·obtain rfl : j = n := by omega
   go_wp2
   go_ret
   exact ⟨rfl, HK.out⟩
end Go.Proofs.YthhbpebihgjpjaaGreatDoor
