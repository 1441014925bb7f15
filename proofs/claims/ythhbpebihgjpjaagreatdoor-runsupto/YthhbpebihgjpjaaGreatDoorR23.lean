import Derived.Test.YthhbpebihgjpjaaGreatDoorR21
namespace Go.Proofs.YthhbpebihgjpjaaGreatDoor
open Go.RowKit
set_option maxRecDepth 1000000

def SmallPost (w : World) (e : Ending) (w' : World) : Prop := ∃ r : Bool, e = .returned (.bool r) ∧ Below w.heap.size w w'

set_option maxHeartbeats 2000000 in
theorem small_any (ao : Option Addr) (n cap : Nat) (w : World) (hs : ScriptAt w ao n) :
    Calls Tryz.prog 37 #[.slice ao n cap] w fun e w' => SmallPost w e w' := by
  have HS : Hid (ScriptAt w ao n) := hs
  have hn := hs.1
  clear hs
  have n0 : (n : Int) ≤ 140737488351232 := by omega
  go_enter Tryz.func37, Tryz.ntmps37
  by_cases hgr : 262144 < n
  · have g1 : (262144 : Int) < (n : Int) := by omega
    go_wp2
    go_ret
    exact ⟨false, rfl, Below.refl _ _⟩
  · have g1 : ¬ (262144 : Int) < (n : Int) := by omega
    go_wp2
    go_loopw [3, 4] (fun N i wr => ∃ (x : Int) (j : Nat), N = .int .i64 x ∧ i = .int .i64 j ∧ j ≤ n ∧ Below w.heap.size w wr) (fun _ i _ => n - (intOf i).toNat)
    case atStart => exact ⟨_, 0, rfl, rfl, by omega, Below.refl _ _⟩
    case round =>
      obtain ⟨x, j, rfl, rfl, hj, hbel⟩ := hrel
      have HB : Hid (Below w.heap.size w wr) := hbel
      by_cases hlt : j < n
      · obtain ⟨b, o, rfl, hop⟩ : ∃ b o, ao = some ⟨b, o, none⟩ ∧ ∃ y, OpAt w y b (o + j * 8) := by
          obtain ⟨_, h | ⟨b, o, e, h⟩⟩ := HS.out
          · omega
          · exact ⟨b, o, e, h j hlt⟩
        obtain ⟨y, hy0⟩ := hop
        have hy : OpAt wr y b (o + j * 8) := hy0.later hbel.size hbel.block
        have c0 := hy.c0
        have c1 := hy.c1
        have c2 := hy.c2
        have c3 := hy.c3
        have c4 := hy.c4
        have c5 := hy.c5
        have c6 := hy.c6
        have c7 := hy.c7
        have hsS := hy.sS
        have hsT := hy.sT
        have HLL : Hid (Strs wr y.la y.ln) := hy.lL
        have HLM : Hid (Strs wr y.ma y.mn) := hy.lM
        have hLn := hy.lL.1
        have hMn := hy.lM.1
        obtain ⟨kd, ya, yb, yd, ys, yt, la, ln, lc, ma, mn, mc⟩ := y
        simp only at c0 c1 c2 c3 c4 c5 c6 c7 hsS hsT hLn hMn HLL HLM
        clear hy hy0 hbel
        have i0 : (0 : Int) ≤ (j : Int) := by omega
        have i1 : (j : Int) < (n : Int) := by omega
        have HBA : Hid (Below w.heap.size w (wr.alloc (.cells #[.int .i64 kd, .int .i64 ya, .int .i64 yb, .int .i64 yd, .string ys, .string yt, .slice la ln lc, .slice ma mn mc] 104))) := HB.out.alloc HB.out.size _
        have HL2 : Hid (Strs (wr.alloc (.cells #[.int .i64 kd, .int .i64 ya, .int .i64 yb, .int .i64 yd, .string ys, .string yt, .slice la ln lc, .slice ma mn mc] 104)) la ln) := HLL.out.later (size_alloc_le _ _) (fun k hk => Below.heap_alloc _ _ k hk)
        have HM2 : Hid (Strs (wr.alloc (.cells #[.int .i64 kd, .int .i64 ya, .int .i64 yb, .int .i64 yd, .string ys, .string yt, .slice la ln lc, .slice ma mn mc] 104)) ma mn) := HLM.out.later (size_alloc_le _ _) (fun k hk => Below.heap_alloc _ _ k hk)
        have d6 : (wr.alloc (.cells #[.int .i64 kd, .int .i64 ya, .int .i64 yb, .int .i64 yd, .string ys, .string yt, .slice la ln lc, .slice ma mn mc] 104)).cell? ⟨wr.heap.size, 6, none⟩ = some (.slice la ln lc) := cell_fresh _ _ _ _ _ rfl
        have d7 : (wr.alloc (.cells #[.int .i64 kd, .int .i64 ya, .int .i64 yb, .int .i64 yd, .string ys, .string yt, .slice la ln lc, .slice ma mn mc] 104)).cell? ⟨wr.heap.size, 7, none⟩ = some (.slice ma mn mc) := cell_fresh _ _ _ _ _ rfl
        go_wp2
        · go_ret
          exact ⟨false, rfl, HBA.out⟩
        · clear c0 c1 c2 c3 c4 c5 c6 c7 HLL HLM HB
          generalize wr.alloc (.cells #[.int .i64 kd, .int .i64 ya, .int .i64 yb, .int .i64 yd, .string ys, .string yt, .slice la ln lc, .slice ma mn mc] 104) = W1 at *
          go_loop [3, 6] (fun N k => ∃ (x : Int) (q : Nat), N = .int .i64 x ∧ k = .int .i64 q ∧ q ≤ ln) (fun _ k => ln - (intOf k).toNat)
          case atStart => exact ⟨_, 0, rfl, rfl, by omega⟩
          case round =>
            obtain ⟨x2, q, rfl, rfl, hq⟩ := hrel
            by_cases hlt2 : q < ln
            · obtain ⟨b1, o1, s1, rfl, hc1, hz1⟩ := HL2.out.cell q hlt2
              have k0 : (0 : Int) ≤ (q : Int) := by omega
              have k1 : (q : Int) < (ln : Int) := by omega
              have k2 : (q : Int) < 9223372036854775807 := by omega
              go_wp2
              exact ⟨⟨_, q + 1, rfl, by go_num, by omega⟩, by simp [intOf]; omega⟩
            · have hql : q = ln := by omega
              subst hql
              go_wp2
              go_loop [3, 7] (fun N k => ∃ (x : Int) (q : Nat), N = .int .i64 x ∧ k = .int .i64 q ∧ q ≤ mn) (fun _ k => mn - (intOf k).toNat)
              case atStart => exact ⟨_, 0, rfl, rfl, by omega⟩
              case round =>
                obtain ⟨x3, q3, rfl, rfl, hq3⟩ := hrel
                by_cases hlt3 : q3 < mn
                · obtain ⟨b1, o1, s1, rfl, hc1, hz1⟩ := HM2.out.cell q3 hlt3
                  have k0 : (0 : Int) ≤ (q3 : Int) := by omega
                  have k1 : (q3 : Int) < (mn : Int) := by omega
                  have k2 : (q3 : Int) < 9223372036854775807 := by omega
                  go_wp2
                  exact ⟨⟨_, q3 + 1, rfl, by go_num, by omega⟩, by simp [intOf]; omega⟩
                · have hql : q3 = mn := by omega
                  subst hql
                  go_wp2
                  · go_ret
                    exact ⟨false, rfl, HBA.out⟩
                  · go_roundw
                    case rel =>
                      first
                        | exact ⟨_, j + 1, rfl, by go_num, by omega, HBA.out⟩
                        | ((repeat apply Exists.intro); exact ⟨⟨_, j + 1, rfl, by go_num, by omega, HBA.out⟩, rfl⟩)
                    case measure => simp [intOf]; omega
      · have hjn : j = n := by omega
        subst hjn
        have i1 : ¬ (j : Int) < (j : Int) := by omega
        go_wp2
        go_ret
        exact ⟨true, rfl, HB.out⟩
end Go.Proofs.YthhbpebihgjpjaaGreatDoor
