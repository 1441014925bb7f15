import Derived.Test.YthhbpebihgjpjaaGreatDoorP03
import Derived.Test.YthhbpebihgjpjaaGreatDoorP48
import Derived.Test.YthhbpebihgjpjaaGreatDoorRows
import Derived.ProofKit
import Derived.LaidMore
import Derived.LaidHandle
import Derived.OpenShut
import Derived.Stop.Joined
import Derived.Stop.LaidTwo
import Derived.Lib.LaidTab
import Derived.Deep.Strs
import Derived.SizedLaws
namespace Go.Proofs.YthhbpebihgjpjaaGreatDoor
open Go.RowKit
set_option maxRecDepth 1000000

def SmallPost (w : World) (e : Ending) (w' : World) : Prop := ∃ r : Bool, e = .returned (.bool r) ∧ Below w.heap.size w w'

set_option maxHeartbeats 2000000 in
theorem small_any (ao : Option Addr) (n cap : Nat) (w : World) (hs : ScriptAt w ao n) :
  Calls Tryz.prog 37 #[.slice ao n cap] w fun e w' => SmallPost w e w' := by
 have HS : Hid (ScriptAt w ao n) := hs
 have hn := hs.1
 clear hs
 have n0 : (n : Int) ≤ 140737488351232 := by omega
 go_enter Tryz.func37, Tryz.ntmps37
 by_cases hgr : 262144 < n
 ·have g1 : (262144 : Int) < (n : Int) := by omega
  go_wp2
  go_ret
  exact ⟨false, rfl, Below.refl _ _⟩
 ·have g1 : ¬ (262144 : Int) < (n : Int) := by omega
  go_wp2
  go_loopw [3, 4] (fun N i wr => ∃ (x : Int) (j : Nat), N = .int .i64 x ∧ i = .int .i64 j ∧ j ≤ n ∧ Below w.heap.size w wr) (fun _ i _ => n - (intOf i).toNat)
  case atStart => exact ⟨_, 0, rfl, rfl, by omega, Below.refl _ _⟩
  case round =>
   obtain ⟨x, j, rfl, rfl, hj, hbel⟩ := hrel
   have HB : Hid (Below w.heap.size w wr) := hbel
   by_cases hlt : j < n
   ·obtain ⟨b, o, rfl, hop⟩ : ∃ b o, ao = some ⟨b, o, none⟩ ∧ ∃ y, OpAt w y b (o + j * 8) := by
     obtain ⟨_, h | ⟨b, o, e, h⟩⟩ := HS.out
     ·omega
     ·exact ⟨b, o, e, h j hlt⟩
    obtain ⟨y, hy0⟩ := hop
    have hy : OpAt wr y b (o + j * 8) := hy0.later hbel.size hbel.block
    have c0 := hy.c0
    have c1 := hy.c1
    have c2 := hy.c2
    have c3 := hy.c3
    have c4 := hy.c4
    have c5 := hy.c5
    have c6 := hy.c6
    have c7 := hy.c7
    have hsS := hy.sS
    have hsT := hy.sT
    have HLL : Hid (Strs wr y.la y.ln) := hy.lL
    have HLM : Hid (Strs wr y.ma y.mn) := hy.lM
    have hLn := hy.lL.1
    have hMn := hy.lM.1
    obtain ⟨kd, ya, yb, yd, ys, yt, la, ln, lc, ma, mn, mc⟩ := y
    simp only at c0 c1 c2 c3 c4 c5 c6 c7 hsS hsT hLn hMn HLL HLM
    clear hy hy0 hbel
    have i0 : (0 : Int) ≤ (j : Int) := by omega
    have i1 : (j : Int) < (n : Int) := by omega
    have HBA : Hid (Below w.heap.size w (wr.alloc (.cells #[.int .i64 kd, .int .i64 ya, .int .i64 yb, .int .i64 yd, .string ys, .string yt, .slice la ln lc, .slice ma mn mc] 104))) := HB.out.alloc HB.out.size _
    have HL2 : Hid (Strs (wr.alloc (.cells #[.int .i64 kd, .int .i64 ya, .int .i64 yb, .int .i64 yd, .string ys, .string yt, .slice la ln lc, .slice ma mn mc] 104)) la ln) := HLL.out.later (size_alloc_le _ _) (fun k hk => Below.heap_alloc _ _ k hk)
    have HM2 : Hid (Strs (wr.alloc (.cells #[.int .i64 kd, .int .i64 ya, .int .i64 yb, .int .i64 yd, .string ys, .string yt, .slice la ln lc, .slice ma mn mc] 104)) ma mn) := HLM.out.later (size_alloc_le _ _) (fun k hk => Below.heap_alloc _ _ k hk)
    have d6 : (wr.alloc (.cells #[.int .i64 kd, .int .i64 ya, .int .i64 yb, .int .i64 yd, .string ys, .string yt, .slice la ln lc, .slice ma mn mc] 104)).cell? ⟨wr.heap.size, 6, none⟩ = some (.slice la ln lc) := cell_fresh _ _ _ _ _ rfl
    have d7 : (wr.alloc (.cells #[.int .i64 kd, .int .i64 ya, .int .i64 yb, .int .i64 yd, .string ys, .string yt, .slice la ln lc, .slice ma mn mc] 104)).cell? ⟨wr.heap.size, 7, none⟩ = some (.slice ma mn mc) := cell_fresh _ _ _ _ _ rfl
    go_wp2
    ·go_ret
     exact ⟨false, rfl, HBA.out⟩
    ·clear c0 c1 c2 c3 c4 c5 c6 c7 HLL HLM HB
     generalize wr.alloc (.cells #[.int .i64 kd, .int .i64 ya, .int .i64 yb, .int .i64 yd, .string ys, .string yt, .slice la ln lc, .slice ma mn mc] 104) = W1 at *
     go_loop [3, 6] (fun N k => ∃ (x : Int) (q : Nat), N = .int .i64 x ∧ k = .int .i64 q ∧ q ≤ ln) (fun _ k => ln - (intOf k).toNat)
     case atStart => exact ⟨_, 0, rfl, rfl, by omega⟩
     case round =>
      obtain ⟨x2, q, rfl, rfl, hq⟩ := hrel
      by_cases hlt2 : q < ln
      ·obtain ⟨b1, o1, s1, rfl, hc1, hz1⟩ := HL2.out.cell q hlt2
       have k0 : (0 : Int) ≤ (q : Int) := by omega
       have k1 : (q : Int) < (ln : Int) := by omega
       have k2 : (q : Int) < 9223372036854775807 := by omega
       go_wp2
       exact ⟨⟨_, q + 1, rfl, by go_num, by omega⟩, by simp [intOf]; omega⟩
      ·have hql : q = ln := by omega
       subst hql
       go_wp2
       go_loop [3, 7] (fun N k => ∃ (x : Int) (q : Nat), N = .int .i64 x ∧ k = .int .i64 q ∧ q ≤ mn) (fun _ k => mn - (intOf k).toNat)
       case atStart => exact ⟨_, 0, rfl, rfl, by omega⟩
       case round =>
        obtain ⟨x3, q3, rfl, rfl, hq3⟩ := hrel
        by_cases hlt3 : q3 < mn
        ·obtain ⟨b1, o1, s1, rfl, hc1, hz1⟩ := HM2.out.cell q3 hlt3
         have k0 : (0 : Int) ≤ (q3 : Int) := by omega
         have k1 : (q3 : Int) < (mn : Int) := by omega
         have k2 : (q3 : Int) < 9223372036854775807 := by omega
         go_wp2
         exact ⟨⟨_, q3 + 1, rfl, by go_num, by omega⟩, by simp [intOf]; omega⟩
        ·have hql : q3 = mn := by omega
         subst hql
         go_wp2
         ·go_ret
          exact ⟨false, rfl, HBA.out⟩
         ·go_roundw
          case rel =>
           first
            | exact ⟨_, j + 1, rfl, by go_num, by omega, HBA.out⟩
            | ((repeat apply Exists.intro); exact ⟨⟨_, j + 1, rfl, by go_num, by omega, HBA.out⟩, rfl⟩)
          case measure => simp [intOf]; omega
   ·have hjn : j = n := by omega
    subst hjn
    have i1 : ¬ (j : Int) < (j : Int) := by omega
    go_wp2
    go_ret
    exact ⟨true, rfl, HB.out⟩
end Go.Proofs.YthhbpebihgjpjaaGreatDoor

namespace Go.Proofs.YthhbpebihgjpjaaGreatDoor
open Go.RowKit
set_option maxRecDepth 1000000

set_option maxHeartbeats 2000000 in
theorem small_far (ao : Option Addr) (n cap : Nat) (w : World) (hgr : 262144 < n) (hn : n ≤ 140737488351232) :
  Calls Tryz.prog 37 #[.slice ao n cap] w fun e w' => e = .returned (.bool false) ∧ w' = w := by
 have n0 : (n : Int) ≤ 140737488351232 := by omega
 have g1 : (262144 : Int) < (n : Int) := by omega
 go_enter Tryz.func37, Tryz.ntmps37
 go_wp2
 go_ret
 exact ⟨rfl, rfl⟩

set_option maxHeartbeats 2000000 in
theorem parses_any (a : Nat → Addr) (t : Nat → ByteArray) (ao : Option Addr) (n cap : Nat) (w : World) (hs : ScriptAt w ao n) (hS : Sents a t w) (hgl : Gl a w) (hg : 14 ≤ w.heap.size) :
  Calls Tryz.prog 5 #[.slice ao n cap] w fun e w' => e = .returned (.bool true) ∧ Below w.heap.size w w' := by
 have HS : Hid (ScriptAt w ao n) := hs
 have HSE : Hid (Sents a t w) := hS
 have HGL : Hid (Gl a w) := hgl
 have hn0 := hs.1
 clear hs hS hgl
 by_cases hgr : 262144 < n
 ·have HL : Hid (Calls Tryz.prog 37 #[.slice ao n cap] w fun e w' => e = .returned (.bool false) ∧ w' = w) := small_far ao n cap w hgr hn0
  go_enter Tryz.func5, Tryz.ntmps5
  go_wp2_with fail
  go_enter Tryz.func14, Tryz.ntmps14
  go_wp2_with fail
  refine HL.out.mono ?_
  rintro e w1 ⟨rfl, rfl⟩
  go_wp2
  first
   | (go_ret; exact ⟨rfl, Below.refl _ _⟩)
   | skip
 ·have hn : n ≤ 262144 := by omega
  have HUP : Hid (∀ w1, Below w.heap.size w w1 → Calls Tryz.prog 38 #[.slice ao n cap, .int .i64 16384, .int .i64 16384, .bool false] w1 fun e w' => e = .returned (.int .i64 (-1)) ∧ Below w1.heap.size w1 w') := fun w1 hb => upto_parses a t ao n cap w1 (HS.out.later hb.size hb.block) hn (HSE.out.below hb) (HGL.out.below hb hg) (Nat.le_trans hg hb.size)
  go_enter Tryz.func5, Tryz.ntmps5
  go_wp2_with fail
  go_enter Tryz.func14, Tryz.ntmps14
  go_wp2_with fail
  refine (small_any ao n cap w HS.out).mono ?_
  rintro e w1 ⟨r, rfl, hb1⟩
  have HB1 : Hid (Below w.heap.size w w1) := hb1
  clear hb1
  cases r
  ·go_wp2
   first
    | (go_ret; exact ⟨rfl, HB1.out⟩)
    | skip
  ·go_wp2_with fail
   refine (HUP.out w1 HB1.out).mono ?_
   rintro e w2 ⟨rfl, hk2⟩
   have HK2 : Hid (Below w.heap.size w w2) := (HB1.out).trans (hk2.mono HB1.out.size)
   clear hk2
   go_wp2
   first
    | (go_ret; exact ⟨rfl, HK2.out⟩)
    | skip
end Go.Proofs.YthhbpebihgjpjaaGreatDoor

namespace Go.Proofs.YthhbpebihgjpjaaGreatDoor
open Go.ChangeShapes Go.WideShapes Go.RowKit
set_option maxRecDepth 1000000

theorem Tryz.own : ownKnob Tryz.prog.godebug = none := by kernel_rfl
def pinFirst : Obj → Obj
 | .cells _ t frozen => .cells (Go.Pinned.utf8FirstZ.map fun n : Nat => Value.int .u8 (n : Int)).toArray t frozen
 | o => o
end Go.Proofs.YthhbpebihgjpjaaGreatDoor

namespace Go.Proofs.YthhbpebihgjpjaaGreatDoor
open Go.ChangeShapes Go.WideShapes Go.RowKit Go.Deep
set_option maxRecDepth 1000000

section
variable {H : Type} {enc : TypeId × Value → H}

theorem weightsAll_mem {P : Program} {e : TypeId} : ∀ {l : List (DataW H)} {d : DataW H}, d ∈ l → ∀ n ∈ d.weights P e, n ∈ DataW.weightsAll P e l
 | [], _, h, _, _ => by cases h
 | x :: l, d, h, n, hn => by
  simp only [DataW.weightsAll, List.mem_append]
  rcases List.mem_cons.1 h with rfl | h
  ·exact Or.inl hn
  ·exact Or.inr (weightsAll_mem h n hn)
theorem reach_le : reachBytes = 140737488351232 := rfl
theorem add_at (a : Addr) (i : Nat) (h : a.spot = none) : a.add i = ⟨a.block, a.off + i, none⟩ := by
 obtain ⟨b, o, s⟩ := a
 subst h
 exact Addr.add_mid b o i

theorem strs_at {W : World} {fuel : Nat} {c : Value} {x : DataW H × List MemPlace} (h : DataW.trod enc Tryz.prog W 0 (fun _ => true) true fuel 32 [c] = some x) (hw : ∀ n ∈ x.1.weights Tryz.prog 32, n ≤ reachBytes) :
  ∃ ao n cap, c = .slice ao n cap ∧ Strs W ao n := by
 rcases open_strs Tryz.underlying32 Tryz.underlying9 (by kernel_rfl) h with ⟨hc, _⟩ | ⟨a, len, cap, m, Sx, hc, _, hl, hm, hmm, rfl, hx⟩
 ·simp only [List.cons.injEq, and_true] at hc
  exact ⟨none, 0, 0, hc, by omega, Or.inl rfl⟩
 ·simp only [List.cons.injEq, and_true] at hc
  simp only [if_true] at hmm
  subst hmm
  refine ⟨some a, len, m, hc, ?_, ?_⟩
  ·unfold maxLen at hm; omega
  ·by_cases h0 : len = 0
   ·exact Or.inl h0
   ·right
    have hs : a.spot = none := by
     have := World.cell?_spot (hx 0 (by omega)).1
     simpa [Addr.add] using this
    refine ⟨a.block, a.off, by obtain ⟨b, o, s⟩ := a; cases hs; rfl, ?_, fun k hk => ?_⟩
    ·have := block_lt_of_cell (hx 0 (by omega)).1
     simpa [Addr.add] using this
    ·have h1 := (hx k (by omega)).1
     rw [add_at a k hs] at h1
     refine ⟨Sx k, ?_, h1⟩
     rw [← reach_le]
     refine hw _ ?_
     rw [DataW.weights, Tryz.underlying32]
     refine List.mem_cons_of_mem _ (List.mem_append_left _ (weightsAll_mem (d := .lit (.string (Sx k).data.toList)) (List.mem_map.2 ⟨k, List.mem_range.2 hk, rfl⟩) _ ?_))
     rw [DataW.weights, List.mem_singleton, Array.length_toList]
     rfl

theorem wf_i64 {n : Int} (h : (Lit.int .i64 n).wf = true) : -9223372036854775808 ≤ n ∧ n ≤ 9223372036854775807 := by
 have e : IntKind.i64.min = -9223372036854775808 := by decide
 simpa [Lit.wf, e] using h
theorem op_at {W : World} {fuel : Nat} {cs : List Value} {x : DataW H × List MemPlace} (h : DataW.trod enc Tryz.prog W 0 (fun _ => true) true fuel 104 cs = some x) (hw : ∀ n ∈ x.1.weights Tryz.prog 104, n ≤ reachBytes)
  (b o : Nat) (hb : b < W.heap.size) (hr : W.rangeAt b o cs) : ∃ y, OpAt W y b o := by
 obtain ⟨xs, n, _, rfl, hlen, hxl, hf⟩ := DataW.trod_struct Tryz.underlying104 h
 have h8 : Tryz.prog.cellsOf 104 = 8 := by kernel_rfl
 have c3 : Tryz.prog.cellsOf 3 = 1 := by kernel_rfl
 have c9 : Tryz.prog.cellsOf 9 = 1 := by kernel_rfl
 have c26 : Tryz.prog.cellsOf 32 = 1 := by kernel_rfl
 rw [h8] at hlen
 match cs, hlen with
 | [v0, v1, v2, v3, v4, v5, v6, v7], _ =>
  have hx8 : xs.length = 8 := hxl
  match xs, hx8 with
  | [x0, x1, x2, x3, x4, x5, x6, x7], _ =>
   have t0 : DataW.trod enc Tryz.prog W 0 (fun _ => true) true n 3 [v0] = some x0 := by
    have h := hf 0 _ rfl
    change DataW.trod _ _ _ _ _ _ _ _ (List.take (Tryz.prog.cellsOf 3) _) = _ at h
    rw [c3] at h
    exact h
   have t1 : DataW.trod enc Tryz.prog W 0 (fun _ => true) true n 3 [v1] = some x1 := by
    have h := hf 1 _ rfl
    change DataW.trod _ _ _ _ _ _ _ _ (List.take (Tryz.prog.cellsOf 3) _) = _ at h
    rw [c3] at h
    exact h
   have t2 : DataW.trod enc Tryz.prog W 0 (fun _ => true) true n 3 [v2] = some x2 := by
    have h := hf 2 _ rfl
    change DataW.trod _ _ _ _ _ _ _ _ (List.take (Tryz.prog.cellsOf 3) _) = _ at h
    rw [c3] at h
    exact h
   have t3 : DataW.trod enc Tryz.prog W 0 (fun _ => true) true n 3 [v3] = some x3 := by
    have h := hf 3 _ rfl
    change DataW.trod _ _ _ _ _ _ _ _ (List.take (Tryz.prog.cellsOf 3) _) = _ at h
    rw [c3] at h
    exact h
   have t4 : DataW.trod enc Tryz.prog W 0 (fun _ => true) true n 9 [v4] = some x4 := by
    have h := hf 4 _ rfl
    change DataW.trod _ _ _ _ _ _ _ _ (List.take (Tryz.prog.cellsOf 9) _) = _ at h
    rw [c9] at h
    exact h
   have t5 : DataW.trod enc Tryz.prog W 0 (fun _ => true) true n 9 [v5] = some x5 := by
    have h := hf 5 _ rfl
    change DataW.trod _ _ _ _ _ _ _ _ (List.take (Tryz.prog.cellsOf 9) _) = _ at h
    rw [c9] at h
    exact h
   have t6 : DataW.trod enc Tryz.prog W 0 (fun _ => true) true n 32 [v6] = some x6 := by
    have h := hf 6 _ rfl
    change DataW.trod _ _ _ _ _ _ _ _ (List.take (Tryz.prog.cellsOf 32) _) = _ at h
    rw [c26] at h
    exact h
   have t7 : DataW.trod enc Tryz.prog W 0 (fun _ => true) true n 32 [v7] = some x7 := by
    have h := hf 7 _ rfl
    change DataW.trod _ _ _ _ _ _ _ _ (List.take (Tryz.prog.cellsOf 32) _) = _ at h
    rw [c26] at h
    exact h
   have hwf : ∀ (j : Nat) t (d : DataW H), [3, 3, 3, 3, 9, 9, 32, 32][j]? = some t → [x0.1, x1.1, x2.1, x3.1, x4.1, x5.1, x6.1, x7.1][j]? = some d → ∀ m ∈ d.weights Tryz.prog t, m ≤ reachBytes := fun j t d ht hd m hm => by
    refine hw m ?_
    rw [DataW.weights, Tryz.underlying104]
    exact DataW.weights_mem_each (ts := [3, 3, 3, 3, 9, 9, 32, 32]) ht hd m hm
   obtain ⟨n0, e0, _, _⟩ := DataW.trod_int Tryz.underlying3 t0
   obtain ⟨n1, e1, _, w1⟩ := DataW.trod_int Tryz.underlying3 t1
   obtain ⟨n2, e2, _, _⟩ := DataW.trod_int Tryz.underlying3 t2
   obtain ⟨n3, e3, _, w3⟩ := DataW.trod_int Tryz.underlying3 t3
   obtain ⟨s4, e4, g4, _⟩ := DataW.trod_string Tryz.underlying9 t4
   obtain ⟨s5, e5, g5, _⟩ := DataW.trod_string Tryz.underlying9 t5
   obtain ⟨la, ln, lc, e6, hL⟩ := strs_at t6 (hwf 6 _ _ rfl rfl)
   obtain ⟨ma, mn, mc, e7, hM⟩ := strs_at t7 (hwf 7 _ _ rfl rfl)
   simp only [List.cons.injEq, and_true] at e0 e1 e2 e3 e4 e5
   subst e0 e1 e2 e3 e4 e5 e6 e7
   have hs4 : s4.size ≤ 140737488351232 := by
    rw [← reach_le]
    refine hwf 4 _ _ rfl rfl _ ?_
    rw [g4]
    simp only [DataW.weights, List.mem_singleton]
    rw [Array.length_toList]; rfl
   have hs5 : s5.size ≤ 140737488351232 := by
    rw [← reach_le]
    refine hwf 5 _ _ rfl rfl _ ?_
    rw [g5]
    simp only [DataW.weights, List.mem_singleton]
    rw [Array.length_toList]; rfl
   exact ⟨⟨n0, n1, n2, n3, s4, s5, la, ln, lc, ma, mn, mc⟩, hr, hb, hs4, hs5, hL, hM, wf_i64 w1, wf_i64 w3⟩

theorem script_at {W : World} {v : Value} {d : DataW H} {ps : List MemPlace} (h : DataW.Trod enc Tryz.prog W 0 (fun _ => true) true 22 v d ps) (hw : ∀ n ∈ d.weights Tryz.prog 22, n ≤ reachBytes)
  (ao : Option Addr) (n cap : Nat) (hv : v = .slice ao n cap) : ScriptAt W ao n := by
 obtain ⟨fuel, h⟩ := h
 subst hv
 have h8 : Tryz.prog.cellsOf 104 = 8 := by kernel_rfl
 rcases open_slice Tryz.underlying22 h with ⟨hc, _⟩ | ⟨a, len, cap', m, k, D, Pl, hc, _, hl, hm, hmm, hx, hall⟩
 ·have hc' : [Value.slice ao n cap] = [.slice none 0 0] := hc
  simp only [List.cons.injEq, and_true, Value.slice.injEq] at hc'
  exact ⟨by omega, Or.inl hc'.2.1⟩
 ·have hc' : [Value.slice ao n cap] = [.slice (some a) len cap'] := hc
  simp only [List.cons.injEq, and_true, Value.slice.injEq] at hc'
  obtain ⟨rfl, rfl, rfl⟩ := hc'
  simp only [if_true] at hmm
  subst hmm
  obtain ⟨rfl, rfl⟩ := Prod.mk.inj hx
  have hwl : (n + (m - n)) * Tryz.prog.bytesOf 104 ≤ reachBytes := by
   refine hw _ ?_
   rw [DataW.weights, Tryz.underlying22]
   refine List.mem_cons.2 (Or.inl ?_)
   simp
  have hby : Tryz.prog.bytesOf 104 = 112 := by kernel_rfl
  rw [hby, reach_le] at hwl
  refine ⟨by omega, ?_⟩
  by_cases h0 : n = 0
  ·exact Or.inl h0
  ·right
   obtain ⟨cs0, hcs0, _⟩ := hall 0 (by omega)
   rw [h8] at hall hcs0
   obtain ⟨_, hl0, hc0⟩ := World.cells?_some hcs0
   have hcell0 : ∃ u, W.cell? (a.add 0) = some u := by
    have := hc0 0 (by omega)
    rw [List.getElem?_eq_getElem (by omega)] at this
    exact ⟨_, by simpa [Addr.add] using this⟩
   obtain ⟨u0, hu0⟩ := hcell0
   have hs : a.spot = none := by
    have := World.cell?_spot hu0
    simpa [Addr.add] using this
   have hb : a.block < W.heap.size := by
    have := block_lt_of_cell hu0
    simpa [Addr.add] using this
   refine ⟨a.block, a.off, by obtain ⟨b, o, s⟩ := a; cases hs; rfl, fun i hi => ?_⟩
   obtain ⟨cs, hcs, ht⟩ := hall i (by omega)
   obtain ⟨_, hlc, hcc⟩ := World.cells?_some hcs
   refine op_at ht (fun q hq => hw q ?_) a.block (a.off + i * 8) hb (fun j v hv => ?_)
   ·rw [DataW.weights, Tryz.underlying22]
    exact List.mem_cons_of_mem _ (List.mem_append_left _ (weightsAll_mem (List.mem_map.2 ⟨i, List.mem_range.2 hi, rfl⟩) q hq))
   ·have hj : j < 8 := by
     have := (List.getElem?_eq_some_iff.1 hv).1
     omega
    have := hcc j hj
    rw [hv, add_at a (i * 8) hs, Addr.add_mid] at this
    exact this
end
end Go.Proofs.YthhbpebihgjpjaaGreatDoor
