import Derived.Test.YthhbpebihgjpjaaGreatDoorP17
import Derived.Test.YthhbpebihgjpjaaGreatDoorP25
namespace Go.Proofs.YthhbpebihgjpjaaGreatDoor
open Go.RowKit
set_option maxRecDepth 1000000

theorem rlcells_append (l r : List Line) : rlcells (l ++ r) = rlcells l ++ rlcells r := by simp [rlcells]
theorem rlcells_at {l : List Line} {i : Nat} {x : Line} (h : l[i]? = some x) : (rlcells l)[i * 2]? = some (.string x.2) ∧ (rlcells l)[i * 2 + 1]? = some (.int .i64 (x.1 : Nat)) := two_cells (fun x : Line => .string x.2) (fun x => .int .i64 (x.1 : Nat)) l i x h
theorem rlcells_set (l : List Line) (k : Nat) (s s' : ByteArray) : (rlcells (l ++ [(k, s)])).set (l.length * 2) (.string s') = rlcells (l ++ [(k, s')]) := by
 rw [rlcells_append, rlcells_append, List.set_append_right _ _ (by unfold rlcells; rw [two_length]; omega)]
 unfold rlcells
 rw [two_length, show l.length * 2 - l.length * 2 = 0 by omega]
 rfl
end Go.Proofs.YthhbpebihgjpjaaGreatDoor

namespace Go.Proofs.YthhbpebihgjpjaaGreatDoor
open Go.RowKit
set_option maxRecDepth 1000000

set_option maxHeartbeats 8000000 in
theorem rlines_any (t : ByteArray) (ht : t.size ≤ 4000) (w : World) :
  Calls Tryz.prog 210 #[.string t] w fun e w' => ∃ v, e = .returned v ∧ w'.ownsRow w.heap.size 417 2 v (linesS t).length (rlcells (linesS t)) ∧ Below w.heap.size w w' := by
 have hinf : (Tryz.prog.info? 417).map (fun i => (i.size, i.bytes, i.zero)) = some (2, 24, some (.agg #[.string ⟨#[]⟩, .int .i64 0])) := by kernel_rfl
 obtain ⟨ti, hti, htj⟩ := Option.map_eq_some_iff.1 hinf
 simp only [Prod.mk.injEq] at htj
 have HTI : Hid (Tryz.prog.info? 417 = some ti ∧ ti.size = 2 ∧ ti.bytes = 24 ∧ ti.zero = some (.agg #[.string ⟨#[]⟩, .int .i64 0])) := ⟨hti, htj.1, htj.2.1, htj.2.2⟩
 clear hinf hti htj
 have t0 : (t.size : Int) ≤ 4000 := by omega
 have HST : Hid (joinFrom 1 (rawB (t.extract 0 t.size)) [] false = linesS t) := by rw [ByteArray.extract_zero_size]; rfl
 go_enter Tryz.func210, Tryz.ntmps210
 go_wp2_with fail
 go_loopw [3, 4, 5, 6, 7] (fun v no on fr i wr => ∃ (L : List Line) (j f N n cap : Nat) (b : Bool) (ao : Option Addr), v = .slice ao n cap ∧ no = .int .i64 N ∧ on = .bool b ∧ fr = .int .i64 f ∧ i = .int .i64 j ∧ n = L.length ∧ wr.ownsRow w.heap.size 417 2 (.slice ao n cap) n (rlcells L) ∧ Below w.heap.size w wr ∧ f ≤ j ∧ j ≤ t.size + 1 ∧ N ≤ f + 1 ∧ n ≤ N ∧ sumL L ≤ f ∧ (b = true → ∃ l k s, L = l ++ [(k, s)] ∧ oddB s = false) ∧ (∀ k, f ≤ k → k < j → k < t.size → byteOf t k ≠ 10) ∧ ((j ≤ t.size ∧ joinFrom N (rawB (t.extract f t.size)) L b = linesS t) ∨ (j = t.size + 1 ∧ L = linesS t))) (fun _ _ _ _ i _ => t.size + 1 - (intOf i).toNat)
 case atStart => exact ⟨[], 0, 0, 1, 0, 0, false, none, rfl, rfl, rfl, rfl, rfl, rfl, World.ownsRow_nil _ _ _ _, Below.refl _ _, Nat.le_refl _, Nat.zero_le _, by omega, by omega, Nat.le_refl _, (fun h => by cases h), (fun k h1 h2 => by omega), Or.inl ⟨Nat.zero_le _, HST.out⟩⟩
 case round =>
  obtain ⟨L, j, f, N, n, cap, b, ao, rfl, rfl, rfl, rfl, rfl, hn, hown, hbw, hfj, hj, hNf, hnN, hsum, hjo, hnl, hdis⟩ := hrel
  have HN : Hid (n = L.length) := hn
  have HO : Hid (wr.ownsRow w.heap.size 417 2 (.slice ao n cap) n (rlcells L)) := hown
  have HBW : Hid (Below w.heap.size w wr) := hbw
  have HSUM : Hid (sumL L ≤ f) := hsum
  have HJO : Hid (b = true → ∃ l k s, L = l ++ [(k, s)] ∧ oddB s = false) := hjo
  have HNL : Hid (∀ k, f ≤ k → k < j → k < t.size → byteOf t k ≠ 10) := hnl
  have j0 : (0 : Int) ≤ (j : Int) := by omega
  have f0 : (0 : Int) ≤ (f : Int) := by omega
  have N0 : (0 : Int) ≤ (N : Int) := by omega
  clear hn hown hbw hsum hjo hnl
  rcases hdis with ⟨hjs, hjf⟩ | ⟨hje, hLe⟩
  ·have HJF : Hid (joinFrom N (rawB (t.extract f t.size)) L b = linesS t) := hjf
   have j1 : (j : Int) ≤ (t.size : Int) := by omega
   clear hjf
   by_cases hgo : j < t.size ∧ byteOf t j ≠ 10
   ·have j2 : (j : Int) < (t.size : Int) := by omega
    have hi : ∀ wx, (Instr.index 9 (.string t) (.int .i64 j)).run Tryz.prog wx = .ok (.int .u8 (byteOf t j)) wx := fun wx => run_index_text t j hgo.1 wx
    have q1 : ((byteOf t j : Int) != 10) = true := by simp; omega
    have HNL2 : Hid (∀ k, f ≤ k → k < j + 1 → k < t.size → byteOf t k ≠ 10) := fun k h1 h2 h3 => by
     rcases Nat.lt_or_ge k j with c | c
     ·exact HNL.out k h1 c h3
     ·obtain rfl : k = j := by omega
      exact hgo.2
    clear hgo
    generalize byteOf t j = y at *
    go_wp2_with fail
    exact ⟨⟨L, j + 1, f, N, n, cap, b, ao, rfl, rfl, rfl, rfl, by go_num, HN.out, HO.out, HBW.out, by omega, by omega, hNf, hnN, HSUM.out, HJO.out, HNL2.out, Or.inl ⟨by omega, HJF.out⟩⟩, by simp [intOf]; omega⟩
   ·obtain ⟨X, hX⟩ : ∃ X, X = t.extract f j := ⟨_, rfl⟩
    have hpc : j = t.size ∨ (j < t.size ∧ byteOf t j = 10) := by omega
    have HSTEP : Hid (∀ L', L' = joinStep L b N X → ((j + 1 ≤ t.size ∧ joinFrom (N + 1) (rawB (t.extract (j + 1) t.size)) L' (oddB X) = linesS t) ∨ (j + 1 = t.size + 1 ∧ L' = linesS t))) := fun L' e => by
     subst e hX
     rcases hpc with rfl | ⟨h1, h2⟩
     ·right
      have h := HJF.out
      rw [raw_last t f (fun k a c => HNL.out k a c c)] at h
      exact ⟨rfl, h⟩
     ·left
      have h := HJF.out
      rw [raw_hit t f j hfj h1 h2 (fun k a c => HNL.out k a c (by omega))] at h
      exact ⟨by omega, h⟩
    have hxs : X.size ≤ j - f := by rw [hX, ByteArray.size_extract]; omega
    have HSUM2 : Hid (sumL (joinStep L b N X) ≤ j + 1) := by
     have h1 := joinStep_sum L b N X
     have h2 := HSUM.out
     show _ ≤ _
     omega
    have hsl : ∀ wx, (Instr.slice 9 (.string t) (some (.int .i64 f)) (some (.int .i64 j)) none).run Tryz.prog wx = .ok (.string X) wx := fun wx => by rw [hX]; exact slice_mid t f j _ _ rfl rfl hfj hjs wx
    have Nb : (N : Int) ≤ 5000 := by omega
    clear hX hgo
    cases hpc
    case' inl hpc =>
     have j2 : ¬ (j : Int) < (t.size : Int) := by omega
     clear hpc
    case' inr hpc =>
     obtain ⟨h1, h2⟩ := hpc
     have j2 : (j : Int) < (t.size : Int) := by omega
     have hi : ∀ wx, (Instr.index 9 (.string t) (.int .i64 j)).run Tryz.prog wx = .ok (.int .u8 10) wx := fun wx => by have := run_index_text t j h1 wx; rw [h2] at this; exact this
     clear h1 h2
    all_goals
     have HXS : Hid (X.size ≤ 4000) := by show _ ≤ _; omega
     cases b
     case' true =>
      obtain ⟨l, k, s0, rfl, hos⟩ := HJO.out rfl
      have HLF : Hid (∀ wx, Calls Tryz.prog 280 #[.string X] wx fun e w' => e = .returned (.string (leftB X)) ∧ w' = wx) := fun wx => rleft_any X (by omega) wx
      obtain ⟨VL, hVL⟩ : ∃ VL, VL = l.length := ⟨_, rfl⟩
      have HVL : Hid (VL = l.length) := hVL
      have HN5 : Hid (n = VL + 1) := by have h := HN.out; rw [List.length_append] at h; show _ = _; rw [hVL]; exact h
      have hn5 := HN5.out
      obtain ⟨ao', cap', hf, _, hg⟩ := row_form HO.out
      injection hf with e1 e2 e3
      subst e1 e3
      obtain ⟨g5, rfl⟩ := hg (by omega)
      have hcell := row_cell HO.out (VL * 2) (.string s0) (by rw [hVL]; exact (rlcells_at (l := l ++ [(k, s0)]) (i := l.length) (x := (k, s0)) (by simp)).1)
      have c1 := hcell.1
      have f1 := hcell.2
      have hgb := rblock HO.out g5 rfl
      have hs0 : s0.size ≤ 4000 := by have h1 : s0.size ≤ sumL (l ++ [(k, s0)]) := sumL_mem (x := (k, s0)) (by simp); have := HSUM.out; omega
      have hlx := leftB_le X
      have HO5 : Hid ((wr.setCell ⟨g5, VL * 2, none⟩ (.string (s0 ++ leftB X))).ownsRow w.heap.size 417 2 (.slice (some ⟨g5, 0, none⟩) n cap) n (rlcells (l ++ [(k, s0 ++ leftB X)]))) := by
       have h := row_set HO.out (VL * 2) (.string (s0 ++ leftB X))
       rw [hVL, rlcells_set] at h
       rw [hVL]; exact h
      have HB5 : Hid (Below w.heap.size w (wr.setCell ⟨g5, VL * 2, none⟩ (.string (s0 ++ leftB X)))) := HBW.out.setCell (p := ⟨g5, VL * 2, none⟩) hgb.1 _
      have HJS : Hid (joinStep (l ++ [(k, s0)]) true N X = l ++ [(k, partB (s0 ++ leftB X))]) := by
       show (if true = true then addLast (l ++ [(k, s0)]) (leftB (partB X)) else _) = _
       rw [if_pos rfl, addLast_snoc, part_join s0 X hos]
      have HOD : Hid (oddB X = oddB (s0 ++ leftB X)) := (odd_join s0 X hos).symm
      have hcs : ¬ 9223372036854775807 < s0.size + (leftB X).size := by omega
      have HSS : Hid ((s0 ++ leftB X).size ≤ 10000) := by show _ ≤ _; rw [ByteArray.size_append]; omega
      have HNB : Hid (n ≤ N) := hnN
      have hw0 : IntKind.i64.wrap ((n : Int) - 1) = (VL : Int) := by rw [IntKind.wrap_i64]; omega
      have i1 : (VL : Int) < (n : Int) := by omega
      have i2 : (0 : Int) ≤ (VL : Int) := by omega
      clear hVL hcell hos hn5 hlx
      generalize leftB X = Y at *
      go_wp2_with fail
      refine (HLF.out _).mono ?_
      rintro e w3 ⟨rfl, rfl⟩
      go_wp2_with fail
      generalize hw5 : w3.setCell ⟨g5, VL * 2, none⟩ (.string (s0 ++ Y)) = w5 at *
      generalize hsY : s0 ++ Y = s at *
      obtain ⟨n5, rfl⟩ : ∃ n5, n5 = n := ⟨_, rfl⟩
      obtain ⟨cap5, rfl⟩ : ∃ c5, c5 = cap := ⟨_, rfl⟩
      clear hw5 hsY c1 f1 hw0 i1 i2
     case' false =>
      obtain ⟨l, hl⟩ : ∃ l, l = L := ⟨_, rfl⟩
      obtain ⟨k, hk⟩ : ∃ k, k = N := ⟨_, rfl⟩
      obtain ⟨s, hs⟩ : ∃ s, s = X := ⟨_, rfl⟩
      have HJS : Hid (joinStep L false N X = l ++ [(k, partB s)]) := by rw [hl, hk, hs]; rfl
      have HOD : Hid (oddB X = oddB s) := by rw [hs]; rfl
      have HSS : Hid (s.size ≤ 10000) := by show _ ≤ _; rw [hs]; omega
      obtain ⟨VL, hVL⟩ : ∃ VL, VL = l.length := ⟨_, rfl⟩
      have HVL : Hid (VL = l.length) := hVL
      have HNV : Hid (n = VL) := by show _ = _; rw [hVL, hl]; exact HN.out
      have HHL : Hid (l = L ∧ k = N ∧ s = X ∧ VL = l.length) := ⟨hl, hk, hs, hVL⟩
      clear hl hk hs hVL
      have hbs : w.heap.size ≤ wr.heap.size := HBW.out.size
      go_wp2_with (at_builtin; refine wpList_append_lies _ rfl (.tmp 52) (.tmp 56) 326 rfl w.heap.size 417 ti (.agg #[.string ⟨#[]⟩, .int .i64 0]) 2 24 Tryz.underlying326 HTI.out.1 HTI.out.2.2.2 HTI.out.2.1 HTI.out.2.2.1 rfl (by decide) _ n (rlcells L) rfl (by exact rkeep HO.out (fun k hk => heapA_old wr _ k (rblock HO.out k hk).2)) ⟨wr.heap.size, 0, none⟩ 1 1 [.string X, .int .i64 (N : Nat)] rfl rfl (by exact newCells wr _ _) (by intro u hu; simp only [List.mem_cons, List.not_mem_nil, or_false] at hu; rcases hu with rfl | rfl <;> rfl) (by decide) (by unfold maxLen; omega) (by omega) (by simp; omega) _ rfl ?_; intro g5 cap5 w5 hv5 hgr5 hat5 hlt5; refine Hid.out ?_)
      obtain ⟨n5, hn5⟩ : ∃ n5, n5 = n + 1 := ⟨_, rfl⟩
      rw [← hn5]
      have HO5 : Hid (w5.ownsRow w.heap.size 417 2 (.slice (some ⟨g5, 0, none⟩) n5 cap5) n5 (rlcells (l ++ [(k, s)]))) := by
       have h := hv5
       rw [← hn5] at h
       rw [rlcells_append, HHL.out.1, HHL.out.2.1, HHL.out.2.2.1]; exact h
      have HB5 : Hid (Below w.heap.size w w5) := (HBW.out.alloc hbs _).grown hgr5 (by simp; omega) (fun k hk => (rblock HO.out k hk).1)
      have HN5 : Hid (n5 = VL + 1) := by show _ = _; have := HNV.out; omega
      have HNB : Hid (n5 ≤ N + 1) := by show _ ≤ _; omega
      have hcellA := row_cell HO5.out (VL * 2) (.string s) (by rw [HVL.out]; exact (rlcells_at (l := l ++ [(k, s)]) (i := l.length) (x := (k, s)) (by simp)).1)
      have cA := hcellA.1
      have hw0 : IntKind.i64.wrap ((n5 : Int) - 1) = (VL : Int) := by rw [IntKind.wrap_i64]; have := HN5.out; omega
      have i1 : (VL : Int) < (n5 : Int) := by have := HN5.out; omega
      have i2 : (0 : Int) ≤ (VL : Int) := by omega
      clear hv5 hgr5 hat5 hlt5 hcellA hn5
      unfold Hid
      go_wp2_with fail
      clear cA hw0 i1 i2
     all_goals
      go_loop [11] (fun z => ∃ q : Nat, z = .int .i64 q ∧ q ≤ s.size ∧ ∀ r, r < q → byteOf s (s.size - 1 - r) = 36) (fun z => s.size - (intOf z).toNat)
      case atStart => exact ⟨0, rfl, Nat.zero_le _, fun r hr => by omega⟩
      case round =>
       obtain ⟨q, rfl, hq, hqa⟩ := hrel
       have HQA : Hid (∀ r, r < q → byteOf s (s.size - 1 - r) = 36) := hqa
       clear hqa
       have q0 : (0 : Int) ≤ (q : Int) := by omega
       have s0' : (s.size : Int) ≤ 100000 := by have := HSS.out; omega
       have hg5 := rblock HO5.out g5 rfl
       have hcell5 := row_cell HO5.out (VL * 2) (.string s) (by rw [HVL.out]; exact (rlcells_at (l := l ++ [(k, s)]) (i := l.length) (x := (k, s)) (by simp)).1)
       have c5 := hcell5.1
       have f5 := hcell5.2
       have hw5 : IntKind.i64.wrap ((n5 : Int) - 1) = (VL : Int) := by rw [IntKind.wrap_i64]; have := HN5.out; have := HNB.out; omega
       have i5 : (VL : Int) < (n5 : Int) := by have := HN5.out; omega
       have i6 : (0 : Int) ≤ (VL : Int) := by omega
       clear hcell5
       by_cases hqs : q < s.size
       case' pos =>
        have q1 : (q : Int) < (s.size : Int) := by omega
        have hix : ∀ wx, (Instr.index 9 (.string s) (.int .i64 ((s.size : Int) - 1 - (q : Int)))).run Tryz.prog wx = .ok (.int .u8 (byteOf s (s.size - 1 - q))) wx := fun wx => by
         have := run_index_text s (s.size - 1 - q) (by omega) wx
         rw [show ((s.size - 1 - q : Nat) : Int) = (s.size : Int) - 1 - (q : Int) by omega] at this
         exact this
        by_cases h36 : byteOf s (s.size - 1 - q) = 36
        case pos =>
         have HR : Hid (∀ r, r < q + 1 → byteOf s (s.size - 1 - r) = 36) := fun r hr => by
          rcases Nat.lt_or_ge r q with c | c
          ·exact HQA.out r c
          ·obtain rfl : r = q := by omega
           exact h36
         rw [h36] at hix
         clear h36
         go_wp2_with fail
         exact ⟨⟨q + 1, by go_num, hqs, HR.out⟩, by simp [intOf]; omega⟩
        case' neg =>
         have HD : Hid (dolB s = q) := dolB_eq s q hq HQA.out (fun _ => h36)
         have t36 : ((byteOf s (s.size - 1 - q) : Int) == 36) = false := by simp; omega
         generalize byteOf s (s.size - 1 - q) = bb at *
         clear h36
       case' neg =>
        have HD : Hid (dolB s = q) := dolB_eq s q hq HQA.out (fun h => absurd h hqs)
        have q1 : ¬ (q : Int) < (s.size : Int) := by omega
       all_goals
        by_cases hod : q % 2 = 1
        ·have HOS : Hid (oddB s = true) := by show _ = _; unfold oddB; rw [HD.out]; exact decide_eq_true hod
         have r1 : ((q : Int) % 2 == 1) = true := by simp; omega
         have hsp : 0 < s.size := odd_pos HOS.out
         have HPS : Hid (partB s = s.extract 0 (s.size - 1)) := by show _ = _; unfold partB; rw [if_pos HOS.out]
         have hsl3 : ∀ wx, (Instr.slice 9 (.string s) none (some (.int .i64 ((s.size : Int) - 1))) none).run Tryz.prog wx = .ok (.string (s.extract 0 (s.size - 1))) wx := fun wx => by
          have := slice_head s (s.size - 1) (by omega) wx
          rw [show ((s.size - 1 : Nat) : Int) = (s.size : Int) - 1 by omega] at this
          exact this
         have HFIN : Hid ((w5.setCell ⟨g5, VL * 2, none⟩ (.string (s.extract 0 (s.size - 1)))).ownsRow w.heap.size 417 2 (.slice (some ⟨g5, 0, none⟩) n5 cap5) n5 (rlcells (l ++ [(k, partB s)])) ∧ Below w.heap.size w (w5.setCell ⟨g5, VL * 2, none⟩ (.string (s.extract 0 (s.size - 1))))) := by
          rw [HVL.out, HPS.out]
          refine ⟨?_, HB5.out.setCell (p := ⟨g5, l.length * 2, none⟩) hg5.1 _⟩
          have h := row_set HO5.out (l.length * 2) (.string (s.extract 0 (s.size - 1)))
          rw [rlcells_set] at h
          exact h
         generalize s.extract 0 (s.size - 1) = V at *
         clear hod
         go_wp2_with fail
         exact ⟨⟨l ++ [(k, partB s)], j + 1, j + 1, N + 1, n5, cap5, true, some ⟨g5, 0, none⟩, rfl, by go_num, rfl, by go_num, by go_num, by rw [List.length_append, HN5.out, HVL.out]; rfl, HFIN.out.1, HFIN.out.2, Nat.le_refl _, by omega, by omega, by have := HNB.out; omega, by rw [← HJS.out]; exact HSUM2.out, (fun _ => ⟨l, k, partB s, rfl, odd_part s HOS.out⟩), (fun k h1 h2 => by omega), by have h := HSTEP.out _ HJS.out.symm; rw [HOD.out, HOS.out] at h; exact h⟩, by simp [intOf]; omega⟩
        ·have HOS : Hid (oddB s = false) := by show _ = _; unfold oddB; rw [HD.out]; exact decide_eq_false hod
         have r1 : ((q : Int) % 2 == 1) = false := by simp; omega
         have HPS : Hid (partB s = s) := by show _ = _; unfold partB; rw [if_neg (by rw [HOS.out]; decide)]
         clear hod
         go_wp2_with fail
         exact ⟨⟨l ++ [(k, partB s)], j + 1, j + 1, N + 1, n5, cap5, false, some ⟨g5, 0, none⟩, rfl, by go_num, rfl, by go_num, by go_num, by rw [List.length_append, HN5.out, HVL.out]; rfl, by rw [HPS.out]; exact HO5.out, HB5.out, Nat.le_refl _, by omega, by omega, by have := HNB.out; omega, by rw [← HJS.out]; exact HSUM2.out, (fun h => by cases h), (fun k h1 h2 => by omega), by have h := HSTEP.out _ HJS.out.symm; rw [HOD.out, HOS.out] at h; exact h⟩, by simp [intOf]; omega⟩
  ·have HLE : Hid (L = linesS t) := hLe
   have j1 : ¬ (j : Int) ≤ (t.size : Int) := by omega
   clear hLe
   go_wp2_with fail
   go_ret
   refine ⟨_, rfl, ?_, HBW.out⟩
   rw [← HLE.out, ← HN.out]; exact HO.out
end Go.Proofs.YthhbpebihgjpjaaGreatDoor
