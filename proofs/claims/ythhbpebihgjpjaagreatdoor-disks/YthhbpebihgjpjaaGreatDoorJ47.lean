import Derived.Test.YthhbpebihgjpjaaGreatDoorChecked
import Derived.WalkKit
import Derived.Outline
import Derived.WalkLawsBesides
import Derived.BigQuiet
import Derived.Deep.QuietTactic
import Derived.Test.YthhbpebihgjpjaaGreatDoorJ46
import Derived.Test.YthhbpebihgjpjaaGreatDoorJ01
import Derived.Deep.RegionWith
namespace Go.Proofs.YthhbpebihgjpjaaGreatDoor
open Go.RowKit
set_option maxRecDepth 1000000

/-- No list was handed out: nothing to look at. -/
theorem looks_none (wb wo : Nat) (w : World) (hl : w.cell? ⟨wb, wo + 4, none⟩ = some (.slice none 0 0)) :
    Calls Tryz.prog 57 #[.pointer (some ⟨wb, wo, none⟩)] w fun e w' => e = .returned (.bool true) ∧ ∃ n, w' = w.drewN n := by
  go_enter Tryz.func57, Tryz.ntmps57
  go_wp2
  refine wp_loop_rounds 1 ?_
  rw [rounds_succ]
  go_wp2
  go_ret
  exact ⟨rfl, 0, rfl⟩
end Go.Proofs.YthhbpebihgjpjaaGreatDoor

namespace Go.Proofs.YthhbpebihgjpjaaGreatDoor
open Go.RowKit
set_option maxRecDepth 1000000

def keyAt (i : Nat) : Nat := keys.getD i 0
theorem keyAt_lt (i : Nat) : keyAt i < 4294967296 := by
  unfold keyAt
  by_cases h : i < 64
  · have : ∀ x ∈ keys, x < 4294967296 := by decide
    rw [List.getD_eq_getElem?_getD, List.getElem?_eq_getElem (by exact h)]
    exact this _ (List.getElem_mem _)
  · rw [List.getD_eq_getElem?_getD, List.getElem?_eq_none (by show 64 ≤ i; omega)]; decide

/-- The maker, where it lies: its two lists. -/
structure MakerAt (w : World) (mb : Nat) : Prop where
  ex : ∃ kb kc hb hc, w.cell? ⟨mb, 0, none⟩ = some (.slice (some ⟨kb, 0, none⟩) 64 kc) ∧ w.cell? ⟨mb, 1, none⟩ = some (.slice (some ⟨hb, 0, none⟩) 8 hc) ∧
    (∀ i, i < 64 → w.cell? ⟨kb, i, none⟩ = some (.int .i64 (keyAt i))) ∧ (∀ i, i < 8 → w.cell? ⟨hb, i, none⟩ = some (.int .i64 (Sha.H0.get i)))
theorem MakerAt.later {w w' : World} {mb : Nat} (h : MakerAt w mb) (hb : ∀ k, k < w.heap.size → w'.heap[k]? = w.heap[k]?) : MakerAt w' mb := by
  obtain ⟨kb, kc, hb0, hc, h1, h2, h3, h4⟩ := h.ex
  have f : ∀ (p : Addr) v, w.cell? p = some v → w'.cell? p = some v := fun p v h => by rw [World.cell?_of_block (w := w) (a := p) (hb _ (block_lt_of_cell h))]; exact h
  exact ⟨kb, kc, hb0, hc, f _ _ h1, f _ _ h2, fun i hi => f _ _ (h3 i hi), fun i hi => f _ _ (h4 i hi)⟩
theorem heads_H0 : heads = (List.range 8).map Sha.H0.get := by decide
theorem heads_at (i : Nat) (h : i < 8) : heads.getD i 0 = Sha.H0.get i := by
  rw [heads_H0]; simp [h]
/-- NewMaker, as the steps need it. -/
theorem maker_new (w : World) :
    Calls Tryz.prog 55 #[] w fun e w' => ∃ m, e = .returned (.pointer (some ⟨m, 0, none⟩)) ∧ (∀ (a : Addr) v, a.block < w.heap.size → MakerAt (w'.setCell a v) m) ∧ Below w.heap.size w w' := by
  refine (newMaker_any w).mono ?_
  rintro e w' ⟨m, vk, vh, rfl, hm, hrow, hk, hh, hb⟩
  obtain ⟨gk, ck, rfl, bk, h3⟩ := hk.row (by decide)
  obtain ⟨gh, ch, rfl, bh, h4⟩ := hh.row (by decide)
  refine ⟨m, rfl, fun a v ha => ?_, hb⟩
  have f : ∀ (p : Addr) u, w.heap.size ≤ p.block → w'.cell? p = some u → (w'.setCell a v).cell? p = some u := fun p u hp h => by
    rw [World.cell?_setCell_other _ _ _ _ (by intro h; rw [h] at ha; omega)]; exact h
  exact ⟨gk, ck, gh, ch, f _ _ hm (by rw [cell_of_row _ _ _ _ _ _ hrow]; rfl), f _ _ hm (by rw [cell_of_row _ _ _ _ _ _ hrow]; rfl), fun i hi => f _ _ bk (h3 i hi), fun i hi => f _ _ bh (by rw [h4 i hi, heads_at i hi])⟩

/-- The table of the program's rounds, where it lies. -/
def RoundsAt (w : World) : Prop := ∀ i, i < 64 → w.cell? ⟨10, i, none⟩ = some (.int .u32 (keyAt i))
theorem RoundsAt.later {w w' : World} (h : RoundsAt w) (hb : ∀ k, k < w.heap.size → w'.heap[k]? = w.heap[k]?) : RoundsAt w' := fun i hi => by
  rw [World.cell?_of_block (w := w) (a := ⟨10, i, none⟩) (hb _ (block_lt_of_cell (h i hi)))]; exact h i hi

set_option maxHeartbeats 2000000 in
theorem step_sum (x : OpV) (hk : x.kd = 1) (hs : x.s.size ≤ 140737488351232) (wb mb : Nat) (w : World) (hm : w.cell? ⟨wb, 0, none⟩ = some (.pointer (some ⟨mb, 0, none⟩))) (hmk : MakerAt w mb) (hr : RoundsAt w) :
    Calls Tryz.prog 56 #[.pointer (some ⟨wb, 0, none⟩), .agg x.vals.toArray] w fun e w' => e = .returned (.bool true) ∧ Keeps w.heap.size w w' := by
  have HMK : Hid (MakerAt w mb) := hmk
  have HR : Hid (RoundsAt w) := hr
  have HM : Hid (w.cell? ⟨wb, 0, none⟩ = some (.pointer (some ⟨mb, 0, none⟩))) := hm
  obtain ⟨kd, ya, yb, yd, ys, yt, la, ln, lc, ma, mn, mc⟩ := x
  simp only at hk hs
  subst hk
  simp only [OpV.vals]
  clear hmk hr hm
  go_enter Tryz.func56, Tryz.ntmps56
  go_wp2_with fail
  have HB1 : Hid (Below w.heap.size w (w.alloc (.cells #[.int .i64 1, .int .i64 ya, .int .i64 yb, .int .i64 yd, .string ys, .string yt, .slice la ln lc, .slice ma mn mc] 104))) := (Below.refl _ _).alloc (Nat.le_refl _) _
  have c4 : (w.alloc (.cells #[.int .i64 1, .int .i64 ya, .int .i64 yb, .int .i64 yd, .string ys, .string yt, .slice la ln lc, .slice ma mn mc] 104)).cell? ⟨w.heap.size, 4, none⟩ = some (.string ys) := cell_fresh _ _ _ _ _ rfl
  generalize w.alloc (.cells #[.int .i64 1, .int .i64 ya, .int .i64 yb, .int .i64 yd, .string ys, .string yt, .slice la ln lc, .slice ma mn mc] 104) = W1 at *
  refine (sum_any keyAt ys (by omega) W1 (HR.out.later HB1.out.block) keyAt_lt).mono ?_
  rintro e w2 ⟨s, HS, rfl, hb2⟩
  have HB2 : Hid (Below w.heap.size w w2) := HB1.out.trans (hb2.mono HB1.out.size)
  have c4' : w2.cell? ⟨w.heap.size, 4, none⟩ = some (.string ys) := by rw [hb2.cell (p := ⟨w.heap.size, 4, none⟩) (block_lt_of_cell c4)]; exact c4
  have cm : w2.cell? ⟨wb, 0, none⟩ = some (.pointer (some ⟨mb, 0, none⟩)) := by rw [HB2.out.cell (p := ⟨wb, 0, none⟩) (block_lt_of_cell HM.out)]; exact HM.out
  obtain ⟨kb, kc, hb0, hc0, m1, m2, m3, m4⟩ := (HMK.out.later HB2.out.block).ex
  have M1 : Hid (w2.cell? ⟨mb, 0, none⟩ = some (.slice (some ⟨kb, 0, none⟩) 64 kc)) := m1
  have M2 : Hid (w2.cell? ⟨mb, 1, none⟩ = some (.slice (some ⟨hb0, 0, none⟩) 8 hc0)) := m2
  have M3 : Hid (∀ i, i < 64 → w2.cell? ⟨kb, i, none⟩ = some (.int .i64 (keyAt i))) := m3
  have M4 : Hid (∀ i, i < 8 → w2.cell? ⟨hb0, i, none⟩ = some (.int .i64 (Sha.H0.get i))) := m4
  clear hb2 c4 m1 m2 m3 m4 HB1
  go_wp2_with fail
  go_region_with (go_at_call 80; refine (msum_any ys hs mb 0 kb kc hb0 hc0 keyAt _ ?_ ?_ ?_ ?_ keyAt_lt).mono ?_; exact M1.out; exact M2.out; exact M3.out; exact M4.out; rintro e w3 ⟨s2, HS2, rfl, hk3⟩)
  all_goals
    obtain rfl : s2 = s := HS2.out.trans HS.out.symm
    have HK3 : Hid (Keeps w.heap.size w w3) := (Keeps.of HB2.out).trans ((show Keeps w2.heap.size w2 w3 from ⟨hk3.os, hk3.output, hk3.size, hk3.block⟩).mono HB2.out.size)
    clear hk3 M1 M2 M3 M4 cm c4' HS HS2
    generalize outStr s2.byte = z at *
    go_wp2
    go_ret
    exact ⟨rfl, HK3.out⟩
end Go.Proofs.YthhbpebihgjpjaaGreatDoor

namespace Go.Proofs.YthhbpebihgjpjaaGreatDoor
open Go.RowKit
set_option maxRecDepth 1000000

def SmallPost (w : World) (e : Ending) (w' : World) : Prop := ∃ r : Bool, e = .returned (.bool r) ∧ Below w.heap.size w w'

set_option maxHeartbeats 2000000 in
theorem small_any (ao : Option Addr) (n cap : Nat) (w : World) (hs : ScriptAt w ao n) :
    Calls Tryz.prog 37 #[.slice ao n cap] w fun e w' => SmallPost w e w' := by
  have HS : Hid (ScriptAt w ao n) := hs
  have hn := hs.1
  clear hs
  have n0 : (n : Int) ≤ 140737488351232 := by omega
  go_enter Tryz.func37, Tryz.ntmps37
  by_cases hgr : 262144 < n
  · have g1 : (262144 : Int) < (n : Int) := by omega
    go_wp2
    go_ret
    exact ⟨false, rfl, Below.refl _ _⟩
  · have g1 : ¬ (262144 : Int) < (n : Int) := by omega
    go_wp2
    go_loopw [3, 4] (fun N i wr => ∃ (x : Int) (j : Nat), N = .int .i64 x ∧ i = .int .i64 j ∧ j ≤ n ∧ Below w.heap.size w wr) (fun _ i _ => n - (intOf i).toNat)
    case atStart => exact ⟨_, 0, rfl, rfl, by omega, Below.refl _ _⟩
    case round =>
      obtain ⟨x, j, rfl, rfl, hj, hbel⟩ := hrel
      have HB : Hid (Below w.heap.size w wr) := hbel
      by_cases hlt : j < n
      · obtain ⟨b, o, rfl, hop⟩ : ∃ b o, ao = some ⟨b, o, none⟩ ∧ ∃ y, OpAt w y b (o + j * 8) := by
          obtain ⟨_, h | ⟨b, o, e, h⟩⟩ := HS.out
          · omega
          · exact ⟨b, o, e, h j hlt⟩
        obtain ⟨y, hy0⟩ := hop
        have hy : OpAt wr y b (o + j * 8) := hy0.later hbel.size hbel.block
        have c0 := hy.c0
        have c1 := hy.c1
        have c2 := hy.c2
        have c3 := hy.c3
        have c4 := hy.c4
        have c5 := hy.c5
        have c6 := hy.c6
        have c7 := hy.c7
        have hsS := hy.sS
        have hsT := hy.sT
        have HLL : Hid (Strs wr y.la y.ln) := hy.lL
        have HLM : Hid (Strs wr y.ma y.mn) := hy.lM
        have hLn := hy.lL.1
        have hMn := hy.lM.1
        obtain ⟨kd, ya, yb, yd, ys, yt, la, ln, lc, ma, mn, mc⟩ := y
        simp only at c0 c1 c2 c3 c4 c5 c6 c7 hsS hsT hLn hMn HLL HLM
        clear hy hy0 hbel
        have i0 : (0 : Int) ≤ (j : Int) := by omega
        have i1 : (j : Int) < (n : Int) := by omega
        have HBA : Hid (Below w.heap.size w (wr.alloc (.cells #[.int .i64 kd, .int .i64 ya, .int .i64 yb, .int .i64 yd, .string ys, .string yt, .slice la ln lc, .slice ma mn mc] 104))) := HB.out.alloc HB.out.size _
        have HL2 : Hid (Strs (wr.alloc (.cells #[.int .i64 kd, .int .i64 ya, .int .i64 yb, .int .i64 yd, .string ys, .string yt, .slice la ln lc, .slice ma mn mc] 104)) la ln) := HLL.out.later (size_alloc_le _ _) (fun k hk => Below.heap_alloc _ _ k hk)
        have HM2 : Hid (Strs (wr.alloc (.cells #[.int .i64 kd, .int .i64 ya, .int .i64 yb, .int .i64 yd, .string ys, .string yt, .slice la ln lc, .slice ma mn mc] 104)) ma mn) := HLM.out.later (size_alloc_le _ _) (fun k hk => Below.heap_alloc _ _ k hk)
        have d6 : (wr.alloc (.cells #[.int .i64 kd, .int .i64 ya, .int .i64 yb, .int .i64 yd, .string ys, .string yt, .slice la ln lc, .slice ma mn mc] 104)).cell? ⟨wr.heap.size, 6, none⟩ = some (.slice la ln lc) := cell_fresh _ _ _ _ _ rfl
        have d7 : (wr.alloc (.cells #[.int .i64 kd, .int .i64 ya, .int .i64 yb, .int .i64 yd, .string ys, .string yt, .slice la ln lc, .slice ma mn mc] 104)).cell? ⟨wr.heap.size, 7, none⟩ = some (.slice ma mn mc) := cell_fresh _ _ _ _ _ rfl
        go_wp2
        · go_ret
          exact ⟨false, rfl, HBA.out⟩
        · clear c0 c1 c2 c3 c4 c5 c6 c7 HLL HLM HB
          generalize wr.alloc (.cells #[.int .i64 kd, .int .i64 ya, .int .i64 yb, .int .i64 yd, .string ys, .string yt, .slice la ln lc, .slice ma mn mc] 104) = W1 at *
          go_loop [3, 6] (fun N k => ∃ (x : Int) (q : Nat), N = .int .i64 x ∧ k = .int .i64 q ∧ q ≤ ln) (fun _ k => ln - (intOf k).toNat)
          case atStart => exact ⟨_, 0, rfl, rfl, by omega⟩
          case round =>
            obtain ⟨x2, q, rfl, rfl, hq⟩ := hrel
            by_cases hlt2 : q < ln
            · obtain ⟨b1, o1, s1, rfl, hc1, hz1⟩ := HL2.out.cell q hlt2
              have k0 : (0 : Int) ≤ (q : Int) := by omega
              have k1 : (q : Int) < (ln : Int) := by omega
              have k2 : (q : Int) < 9223372036854775807 := by omega
              go_wp2
              exact ⟨⟨_, q + 1, rfl, by go_num, by omega⟩, by simp [intOf]; omega⟩
            · have hql : q = ln := by omega
              subst hql
              go_wp2
              go_loop [3, 7] (fun N k => ∃ (x : Int) (q : Nat), N = .int .i64 x ∧ k = .int .i64 q ∧ q ≤ mn) (fun _ k => mn - (intOf k).toNat)
              case atStart => exact ⟨_, 0, rfl, rfl, by omega⟩
              case round =>
                obtain ⟨x3, q3, rfl, rfl, hq3⟩ := hrel
                by_cases hlt3 : q3 < mn
                · obtain ⟨b1, o1, s1, rfl, hc1, hz1⟩ := HM2.out.cell q3 hlt3
                  have k0 : (0 : Int) ≤ (q3 : Int) := by omega
                  have k1 : (q3 : Int) < (mn : Int) := by omega
                  have k2 : (q3 : Int) < 9223372036854775807 := by omega
                  go_wp2
                  exact ⟨⟨_, q3 + 1, rfl, by go_num, by omega⟩, by simp [intOf]; omega⟩
                · have hql : q3 = mn := by omega
                  subst hql
                  go_wp2
                  · go_ret
                    exact ⟨false, rfl, HBA.out⟩
                  · go_roundw
                    case rel =>
                      first
                        | exact ⟨_, j + 1, rfl, by go_num, by omega, HBA.out⟩
                        | ((repeat apply Exists.intro); exact ⟨⟨_, j + 1, rfl, by go_num, by omega, HBA.out⟩, rfl⟩)
                    case measure => simp [intOf]; omega
      · have hjn : j = n := by omega
        subst hjn
        have i1 : ¬ (j : Int) < (j : Int) := by omega
        go_wp2
        go_ret
        exact ⟨true, rfl, HB.out⟩
end Go.Proofs.YthhbpebihgjpjaaGreatDoor

namespace Go.Proofs.YthhbpebihgjpjaaGreatDoor
open Go.RowKit
set_option maxRecDepth 1000000

/-- The bit of a kind in a mask. -/
theorem bit_of (m k : Nat) (hm : m < 9223372036854775808) : bits .and .i64 ((m : Int) / 2 ^ k) 1 = ((m / 2 ^ k % 2 : Nat) : Int) := by
  have e1 : ((m : Int) / 2 ^ k) = ((m / 2 ^ k : Nat) : Int) := by simp
  rw [e1, show (1 : Int) = ((1 : Nat) : Int) from rfl, i64_and_nat _ _ (Nat.lt_of_le_of_lt (Nat.div_le_self _ _) hm) (by decide), Nat.and_one_is_mod]

set_option maxHeartbeats 2000000 in
theorem upto_sums (ao : Option Addr) (n cap : Nat) (w : World) (hs : ScriptAt w ao n) (hr : RoundsAt w) :
    Calls Tryz.prog 38 #[.slice ao n cap, .int .i64 2, .int .i64 2, .bool false] w fun e w' => e = .returned (.int .i64 (-1)) ∧ Keeps w.heap.size w w' := by
  have HS : Hid (ScriptAt w ao n) := hs
  have HR : Hid (RoundsAt w) := hr
  have hn := hs.1
  have n0 : (n : Int) ≤ 140737488351232 := by omega
  clear hs hr
  go_enter Tryz.func38, Tryz.ntmps38
  go_wp2_with fail
  have HZ : Hid ((w.alloc (.cells #[.pointer none, .slice none 0 0, .slice none 0 0, .slice none 0 0, .slice none 0 0, .int .i64 0, .int .i64 262144] 112)).heap[w.heap.size]? = some (.cells #[.pointer none, .slice none 0 0, .slice none 0 0, .slice none 0 0, .slice none 0 0, .int .i64 0, .int .i64 262144] 112 (0, 0))) := heapA_new _ _ _ rfl
  have HBA : Hid (Below w.heap.size w (w.alloc (.cells #[.pointer none, .slice none 0 0, .slice none 0 0, .slice none 0 0, .slice none 0 0, .int .i64 0, .int .i64 262144] 112))) := (Below.refl _ _).alloc (Nat.le_refl _) _
  have hsz : (w.alloc (.cells #[.pointer none, .slice none 0 0, .slice none 0 0, .slice none 0 0, .slice none 0 0, .int .i64 0, .int .i64 262144] 112)).heap.size = w.heap.size + 1 := World.size_alloc _ _
  generalize w.alloc (.cells #[.pointer none, .slice none 0 0, .slice none 0 0, .slice none 0 0, .slice none 0 0, .int .i64 0, .int .i64 262144] 112) = wa at *
  refine (maker_new wa).mono ?_
  rintro e w1 ⟨m, rfl, hmk, hb1⟩
  have HW1 : Hid (w1.heap[w.heap.size]? = some (.cells #[.pointer none, .slice none 0 0, .slice none 0 0, .slice none 0 0, .slice none 0 0, .int .i64 0, .int .i64 262144] 112 (0, 0))) := by show _ = _; rw [hb1.block _ (by omega)]; exact HZ.out
  have cw : w1.cell? ⟨w.heap.size, 0, none⟩ = some (.pointer none) := by rw [cell_of_row _ _ _ _ _ _ HW1.out]; rfl
  have fw : w1.frozen? ⟨w.heap.size, 0, none⟩ = false := frozen_of_row _ _ _ _ _ HW1.out
  have HW0 : Hid ((w1.setCell ⟨w.heap.size, 0, none⟩ (.pointer (some ⟨m, 0, none⟩))).heap[w.heap.size]? = some (.cells #[.pointer (some ⟨m, 0, none⟩), .slice none 0 0, .slice none 0 0, .slice none 0 0, .slice none 0 0, .int .i64 0, .int .i64 262144] 112 (0, 0))) := heap_setCell_same _ _ _ _ _ _ HW1.out
  have HB0 : Hid (Below w.heap.size w (w1.setCell ⟨w.heap.size, 0, none⟩ (.pointer (some ⟨m, 0, none⟩)))) := (HBA.out.trans (hb1.mono (by omega))).setCell (Nat.le_refl _) _
  have HMK : Hid (MakerAt (w1.setCell ⟨w.heap.size, 0, none⟩ (.pointer (some ⟨m, 0, none⟩))) m) := hmk _ _ (by show w.heap.size < _; omega)
  have HS0 : Hid (ScriptAt (w1.setCell ⟨w.heap.size, 0, none⟩ (.pointer (some ⟨m, 0, none⟩))) ao n) := HS.out.later HB0.out.size HB0.out.block
  have HR0 : Hid (RoundsAt (w1.setCell ⟨w.heap.size, 0, none⟩ (.pointer (some ⟨m, 0, none⟩)))) := HR.out.later HB0.out.block
  clear hmk hb1 HZ HBA HW1 HS HR
  go_wp2
  clear cw fw
  generalize w1.setCell ⟨w.heap.size, 0, none⟩ (.pointer (some ⟨m, 0, none⟩)) = w0 at *
  go_loopw [10] (fun i wr => ∃ j : Nat, j ≤ n ∧ i = .int .i64 j ∧ Keeps w0.heap.size w0 wr) (fun i _ => n - (intOf i).toNat)
  case atStart => exact ⟨0, by omega, rfl, Keeps.refl _ _⟩
  case round =>
    obtain ⟨j, hj, rfl, hkp⟩ := hrel
    have HK : Hid (Keeps w0.heap.size w0 wr) := hkp
    have HWR : Hid (wr.heap[w.heap.size]? = some (.cells #[.pointer (some ⟨m, 0, none⟩), .slice none 0 0, .slice none 0 0, .slice none 0 0, .slice none 0 0, .int .i64 0, .int .i64 262144] 112 (0, 0))) := by show _ = _; rw [hkp.block _ (block_lt_of_cell (a := ⟨w.heap.size, 0, none⟩) (by rw [cell_of_row _ _ _ _ _ _ HW0.out]; rfl))]; exact HW0.out
    have cm : wr.cell? ⟨w.heap.size, 0, none⟩ = some (.pointer (some ⟨m, 0, none⟩)) := by rw [cell_of_row _ _ _ _ _ _ HWR.out]; rfl
    have cl : wr.cell? ⟨w.heap.size, 4, none⟩ = some (.slice none 0 0) := by rw [cell_of_row _ _ _ _ _ _ HWR.out]; rfl
    have cf : wr.cell? ⟨w.heap.size, 6, none⟩ = some (.int .i64 262144) := by rw [cell_of_row _ _ _ _ _ _ HWR.out]; rfl
    clear hkp
    by_cases hlt : j < n
    · obtain ⟨b, o, rfl, hop⟩ : ∃ b o, ao = some ⟨b, o, none⟩ ∧ ∃ y, OpAt w0 y b (o + j * 8) := by
        obtain ⟨_, h | ⟨b, o, e, h⟩⟩ := HS0.out
        · omega
        · exact ⟨b, o, e, h j hlt⟩
      obtain ⟨y, hy0⟩ := hop
      have hy : OpAt wr y b (o + j * 8) := hy0.later HK.out.size HK.out.block
      have c0 := hy.c0
      have c1 := hy.c1
      have c2 := hy.c2
      have c3 := hy.c3
      have c4 := hy.c4
      have c5 := hy.c5
      have c6 := hy.c6
      have c7 := hy.c7
      have hsS := hy.sS
      clear hy hy0
      have i0 : (0 : Int) ≤ (j : Int) := by omega
      have i1 : (j : Int) < (n : Int) := by omega
      obtain ⟨kd, ya, yb, yd, ys, yt, la, ln, lc, ma, mn, mc⟩ := y
      simp only at c0 c1 c2 c3 c4 c5 c6 c7 hsS
      have HMR : Hid (MakerAt wr m) := HMK.out.later HK.out.block
      have HRR : Hid (RoundsAt wr) := HR0.out.later HK.out.block
      have hwl : w.heap.size < wr.heap.size := block_lt_of_cell cm
      by_cases hk1 : kd = 1
      · subst hk1
        have hbit : bits .and .i64 1 1 = 1 := by decide
        have HCL : Hid (wr.cell? ⟨w.heap.size, 4, none⟩ = some (.slice none 0 0)) := cl
        go_wp2_with fail
        refine (step_sum ⟨1, ya, yb, yd, ys, yt, la, ln, lc, ma, mn, mc⟩ rfl hsS w.heap.size m wr cm HMR.out HRR.out).mono ?_
        rintro e w4 ⟨rfl, hk4⟩
        have cl4 : w4.cell? ⟨w.heap.size, 0 + 4, none⟩ = some (.slice none 0 0) := by rw [hk4.cell (p := ⟨w.heap.size, 0 + 4, none⟩) hwl]; exact HCL.out
        have HK4 : Hid (Keeps w0.heap.size w0 w4) := HK.out.trans (hk4.mono HK.out.size)
        clear hk4 c0 c1 c2 c3 c4 c5 c6 c7 cm cl cf HMR HRR HWR
        go_wp2_with fail
        refine (looks_none w.heap.size 0 w4 cl4).mono ?_
        rintro e w5 ⟨rfl, q, rfl⟩
        have HK5 : Hid (Keeps w0.heap.size w0 (w4.drewN q)) := ⟨HK4.out.os, HK4.out.output, HK4.out.size, HK4.out.block⟩
        clear HK4
        generalize w4.drewN q = w5 at *
        go_wp2
        go_roundw
        case rel =>
          first
            | exact ⟨j + 1, by omega, by go_num, HK5.out⟩
            | ((repeat apply Exists.intro); exact ⟨⟨j + 1, by omega, by go_num, HK5.out⟩, rfl⟩)
        case measure => simp [intOf]; omega
      · by_cases hk2 : kd < 1
        · go_wp2
          go_roundw
          case rel =>
            first
              | exact ⟨j + 1, by omega, by go_num, HK.out⟩
              | ((repeat apply Exists.intro); exact ⟨⟨j + 1, by omega, by go_num, HK.out⟩, rfl⟩)
          case measure => simp [intOf]; omega
        · by_cases hk3 : 18 < kd
          · have hk4 : ¬ kd < 1 := hk2
            go_wp2
            go_roundw
            case rel =>
              first
                | exact ⟨j + 1, by omega, by go_num, HK.out⟩
                | ((repeat apply Exists.intro); exact ⟨⟨j + 1, by omega, by go_num, HK.out⟩, rfl⟩)
            case measure => simp [intOf]; omega
          · obtain ⟨k, rfl⟩ : ∃ k : Nat, kd = (k : Int) := ⟨kd.toNat, by omega⟩
            have k2 : 2 ≤ k := by omega
            have k18 : (k : Int) ≤ 18 := by omega
            have k1 : (1 : Int) ≤ (k : Int) := by omega
            have hbit : bits .and .i64 (2 / 2 ^ k) 1 = 0 := by
              have h := bit_of 2 k (by decide)
              have h2 : 2 / 2 ^ k = 0 := Nat.div_eq_of_lt (Nat.lt_of_lt_of_le (by decide : 2 < 2 ^ 2) (Nat.pow_le_pow_right (by decide) k2))
              rw [h2] at h
              exact h
            go_wp2
            go_roundw
            case rel =>
              first
                | exact ⟨j + 1, by omega, by go_num, HK.out⟩
                | ((repeat apply Exists.intro); exact ⟨⟨j + 1, by omega, by go_num, HK.out⟩, rfl⟩)
            case measure => simp [intOf]; omega
    · have hjn : j = n := by omega
      subst hjn
      have HKE : Hid (Keeps w.heap.size w wr) := (Keeps.of HB0.out).trans (HK.out.mono HB0.out.size)
      go_wp2
      go_ret
      exact ⟨rfl, HKE.out⟩
end Go.Proofs.YthhbpebihgjpjaaGreatDoor
