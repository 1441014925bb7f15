import Derived.Test.YthhbpebihgjpjaaGreatDoorK13
import Derived.Test.YthhbpebihgjpjaaGreatDoorK08
import Derived.Test.YthhbpebihgjpjaaGreatDoorK15
import Derived.Shelf.Strings.Split
namespace Go.Proofs.YthhbpebihgjpjaaGreatDoor
open Go.RowKit Go.Shelf
set_option maxRecDepth 1000000

def lncells (l : List Line) : List Value := l.flatMap fun x => [.int .i64 (x.1 : Nat), .string x.2]
theorem lncells_append (l r : List Line) : lncells (l ++ r) = lncells l ++ lncells r := by simp [lncells]
theorem lncells_at {l : List Line} {i : Nat} {x : Line} (h : l[i]? = some x) : (lncells l)[i * 2]? = some (.int .i64 (x.1 : Nat)) ∧ (lncells l)[i * 2 + 1]? = some (.string x.2) := two_cells _ _ l i x h
theorem lncells_set (l : List Line) (x : Line) (s : ByteArray) : (lncells (l ++ [x])).set (l.length * 2 + 1) (.string s) = lncells (l ++ [(x.1, s)]) := by
  rw [lncells_append, lncells_append, List.set_append_right _ _ (by unfold lncells; rw [two_length]; omega)]
  unfold lncells
  rw [two_length, show l.length * 2 + 1 - l.length * 2 = 1 by omega]
  rfl
/-- Lines of one's own. -/
abbrev OwnLn (w : World) (base : Nat) (v : Value) (l : List Line) : Prop := w.ownsRow base 305 2 v l.length (lncells l)
theorem split_any (t : ByteArray) (ht : t.size ≤ 1048576) (a : Nat → Addr) (w : World) (hg : Gl a w) :
    Calls Tryz.prog 259 #[.string t, .string ⟨#[10]⟩] w fun e w' => e = .returned (.slice (some ⟨w.heap.size, 0, none⟩) (rawB t).length (rawB t).length) ∧ w' = w.alloc (.cells ((rawB t).map Value.string).toArray 9) := by
  obtain ⟨m, hm⟩ := hg.most
  refine (Any.strings_Split Tryz.lays146 (by kernel_rfl) t nl m w (by omega) hm (by decide)).mono ?_
  rintro e w' ⟨rfl, rfl⟩
  rw [rawB_length]
  exact ⟨rfl, rfl⟩
theorem joinFrom_drop {R : List ByteArray} {j : Nat} {r : ByteArray} (h : R[j]? = some r) (L : List Line) (on : Bool) : joinFrom (j + 1) (R.drop j) L on = joinFrom (j + 1 + 1) (R.drop (j + 1)) (joinStep L on (j + 1) r) (oddB r) := by
  obtain ⟨h1, h2⟩ := List.getElem?_eq_some_iff.1 h
  rw [List.drop_eq_getElem_cons h1, h2]
  rfl
set_option maxHeartbeats 4000000 in
theorem joinedLines_any (t : ByteArray) (ht : t.size ≤ 1048576) (a : Nat → Addr) (w : World) (hg : Gl a w) :
    Calls Tryz.prog 190 #[.string t] w fun e w' => ∃ v, e = .returned v ∧ OwnLn w' w.heap.size v (linesS t) ∧ Below w.heap.size w w' := by
  have hinf : (Tryz.prog.info? 305).map (fun i => (i.size, i.bytes, i.zero)) = some (2, 24, some (.agg #[.int .i64 0, .string ⟨#[]⟩])) := by kernel_rfl
  obtain ⟨ti, hti, htj⟩ := Option.map_eq_some_iff.1 hinf
  simp only [Prod.mk.injEq] at htj
  have HTI : Hid (Tryz.prog.info? 305 = some ti ∧ ti.size = 2 ∧ ti.bytes = 24 ∧ ti.zero = some (.agg #[.int .i64 0, .string ⟨#[]⟩])) := ⟨hti, htj.1, htj.2.1, htj.2.2⟩
  clear hinf hti htj
  have HG : Hid (Gl a w) := hg
  have HT : Hid (t.size ≤ 1048576) := ht
  have HRS : Hid (sumR (rawB t) ≤ t.size) := rawB_sum t
  have hrl : (rawB t).length ≤ 1048577 := by rw [rawB_length]; have := rawB_count t; omega
  have HLS : Hid (linesS t = joinFrom 1 (rawB t) [] false) := rfl
  clear hg
  go_enter Tryz.func190, Tryz.ntmps190
  go_wp2_with fail
  refine (split_any t HT.out a w HG.out).mono ?_
  rintro e w1 ⟨rfl, hw1⟩
  have HW1 : Hid (w1 = w.alloc (.cells ((rawB t).map Value.string).toArray 9)) := hw1
  have HC1 : Hid (∀ k x, (rawB t)[k]? = some x → w1.cell? ⟨w.heap.size, k, none⟩ = some (.string x)) := fun k x hx => by
    rw [HW1.out]; exact cell_fresh w _ _ k _ (by simp [hx])
  have HB1 : Hid (Below w.heap.size w w1) := by show Below _ _ _; rw [HW1.out]; exact (Below.refl _ _).alloc (Nat.le_refl _) _
  have hs1 : w1.heap.size = w.heap.size + 1 := by rw [hw1]; simp
  clear hw1 HW1
  generalize rawB t = R at *
  have r0 : (R.length : Int) ≤ 1048577 := by omega
  go_wp2_with fail
  go_loopw [3, 4, 12] (fun v g i wr => ∃ (j : Nat) (L : List Line) (on : Bool) (ao : Option Addr) (n cap : Nat), i = .int .i64 j ∧ g = .bool on ∧ v = .slice ao n cap ∧ L.length = n ∧ j ≤ R.length ∧ wr.ownsRow w1.heap.size 305 2 (.slice ao n cap) n (lncells L) ∧ Below w1.heap.size w1 wr ∧ joinFrom (j + 1) (R.drop j) L on = linesS t ∧ (on = true → L ≠ []) ∧ sumL L + sumR (R.drop j) ≤ t.size ∧ L.length ≤ j) (fun _ _ i _ => R.length - (intOf i).toNat)
  case atStart =>
    exact ⟨0, [], false, none, 0, 0, rfl, rfl, rfl, rfl, Nat.zero_le _, World.ownsRow_nil _ _ _ _, Below.refl _ _, HLS.out.symm, (fun h => by cases h), by show 0 + sumR R ≤ _; have := HRS.out; omega, Nat.le_refl _⟩
  case round =>
    obtain ⟨j, L, on, ao, nn, cap, rfl, rfl, rfl, hnn, hle, hown, hbw, hjf, hne, hsum, hLj⟩ := hrel
    have HO : Hid (wr.ownsRow w1.heap.size 305 2 (.slice ao nn cap) nn (lncells L)) := hown
    have HNN : Hid (L.length = nn) := hnn
    clear hnn
    have HBW : Hid (Below w1.heap.size w1 wr) := hbw
    have HJF : Hid (joinFrom (j + 1) (R.drop j) L on = linesS t) := hjf
    have HNE : Hid (on = true → L ≠ []) := hne
    have HSUM : Hid (sumL L + sumR (R.drop j) ≤ t.size) := hsum
    clear hown hbw hjf hne hsum
    have j0 : (0 : Int) ≤ (j : Int) := by omega
    by_cases hlt : j < R.length
    · have j1 : (j : Int) < (R.length : Int) := by omega
      obtain ⟨r, hr⟩ : ∃ r, R[j]? = some r := ⟨R[j]'hlt, by simp⟩
      have c1 : wr.cell? ⟨w.heap.size, j, none⟩ = some (.string r) := (HBW.out.cell (p := ⟨w.heap.size, j, none⟩) (by simp only; omega)).trans (HC1.out j r hr)
      have HDS : Hid (sumR (R.drop j) = r.size + sumR (R.drop (j + 1))) := by
        obtain ⟨h1, h2⟩ := List.getElem?_eq_some_iff.1 hr
        show _ = _
        rw [List.drop_eq_getElem_cons h1, h2]
        unfold sumR; simp
      have hrs : r.size ≤ 1048576 := by have := HDS.out; have := HSUM.out; have := HT.out; omega
      have HNX : Hid (joinFrom (j + 1 + 1) (R.drop (j + 1)) (joinStep L on (j + 1) r) (oddB r) = linesS t) := (joinFrom_drop hr L on).symm.trans HJF.out
      have HSX : Hid (sumL (joinStep L on (j + 1) r) + sumR (R.drop (j + 1)) ≤ t.size) := by
        have h1 := joinStep_sum L on (j + 1) r
        have h2 := HSUM.out
        have h3 := HDS.out
        show _ ≤ _
        omega
      have HPS : Hid ((partB r).size ≤ 1048576) := Nat.le_trans (partB_le r) hrs
      clear hr
      go_wp2_with fail
      refine (cutJoint_any r hrs _).mono ?_
      rintro e w2 ⟨rfl, rfl⟩
      cases on with
      | true =>
        obtain ⟨l, x, rfl⟩ : ∃ l x, L = l ++ [x] := by
          rcases List.eq_nil_or_concat L with h | ⟨l, x, h⟩
          · exact absurd h (HNE.out rfl)
          · exact ⟨l, x, by rw [h, List.concat_eq_append]⟩
        have HJS : Hid (joinStep (l ++ [x]) true (j + 1) r = l ++ [(x.1, x.2 ++ leftB (partB r))]) := addLast_snoc l x _
        have HLL : Hid (l.length + 1 = nn) := by have h := HNN.out; rw [List.length_append] at h; exact h
        have hll := HLL.out
        obtain ⟨ao', cap', hf, hc, hg⟩ := row_form HO.out
        injection hf with e1 e2 e3
        subst e1 e3
        obtain ⟨g, rfl⟩ := hg (by omega)
        have hcell := row_cell HO.out (l.length * 2 + 1) (.string x.2) (lncells_at (l := l ++ [x]) (i := l.length) (by simp)).2
        have c2 := hcell.1
        have f2 := hcell.2
        have hgw : g < w2.heap.size := block_lt_of_cell c2
        have hgb : w1.heap.size ≤ g := (rblock HO.out g rfl).1
        have HFIN : Hid ((w2.setCell ⟨g, l.length * 2 + 1, none⟩ (.string (x.2 ++ leftB (partB r)))).drew.ownsRow w1.heap.size 305 2 (.slice (some ⟨g, 0, none⟩) nn cap) nn (lncells (l ++ [(x.1, x.2 ++ leftB (partB r))]))) := by
          have h := row_set HO.out (l.length * 2 + 1) (.string (x.2 ++ leftB (partB r)))
          rw [lncells_set] at h
          exact h
        have HBF : Hid (Below w1.heap.size w1 (w2.setCell ⟨g, l.length * 2 + 1, none⟩ (.string (x.2 ++ leftB (partB r)))).drew) := (HBW.out.setCell (p := ⟨g, l.length * 2 + 1, none⟩) hgb _).drew
        have hxs : x.2.size ≤ 1048576 := by
          have h1 : x.2.size ≤ sumL (l ++ [x]) := sumL_mem (by simp)
          have := HSUM.out; have := HT.out; omega
        have hls : (leftB (partB r)).size ≤ 1048576 := Nat.le_trans (leftB_le _) HPS.out
        generalize partB r = P at *
        generalize oddB r = od at *
        have hl0 : (0 : Int) ≤ (l.length : Int) := by omega
        clear hc hcell
        have hcs : ¬ 9223372036854775807 < x.2.size + (leftB P).size := by omega
        have HWB : Hid (∀ wx, Calls Tryz.prog 191 #[.string P] wx fun e w' => e = .returned (.string (leftB P)) ∧ w' = wx) := fun wx => withoutBlanks_any P wx
        generalize leftB P = Q at *
        have hw0 : IntKind.i64.wrap ((nn : Int) - 1) = (l.length : Int) := by rw [IntKind.wrap_i64]; have := HNN.out; omega
        have hi1 : (l.length : Int) < (nn : Int) := by omega
        generalize hn : l.length = n at *
        have HN0 : Hid (l.length = n) := hn
        clear hn hll
        go_wp2_with fail
        go_region_with (go_at_call 191; refine (HWB.out _).mono ?_; rintro e w3 ⟨rfl, rfl⟩)
        all_goals
          go_wp2_with fail
          exact ⟨⟨j + 1, l ++ [(x.1, x.2 ++ Q)], od, some ⟨g, 0, none⟩, nn, cap, by go_num, rfl, rfl, by rw [List.length_append, HN0.out]; exact HLL.out, hlt, HFIN.out, HBF.out, by rw [← HJS.out]; exact HNX.out, (fun _ => by simp), by rw [← HJS.out]; exact HSX.out, by simp; have := hLj; simp at this; omega⟩, by simp [intOf]; omega⟩
      | false =>
        have HJS : Hid (joinStep L false (j + 1) r = L ++ [(j + 1, partB r)]) := rfl
        generalize partB r = P at *
        generalize oddB r = od at *
        have hn1 : nn ≤ 1048577 := by have := HNN.out; omega
        go_wp2_with (at_builtin; refine wpList_append_own _ rfl (.tmp 35) (.tmp 40) 198 rfl w1.heap.size 305 ti (.agg #[.int .i64 0, .string ⟨#[]⟩]) 2 24 Tryz.underlying198 HTI.out.1 HTI.out.2.2.2 HTI.out.2.1 HTI.out.2.2.1 rfl (by decide) _ nn (lncells L) rfl (by exact rkeep HO.out (fun k hk => heapA_old w2 _ k (rblock HO.out k hk).2)) ⟨w2.heap.size, 0, none⟩ 1 1 [.int .i64 ((j : Int) + 1), .string P] rfl rfl (by exact newCells w2 _ _) (by intro u hu; simp only [List.mem_cons, List.not_mem_nil, or_false] at hu; rcases hu with rfl | rfl <;> rfl) (by unfold maxLen; omega) (by omega) (by have := HBW.out.size; simp; omega) ?_; intro v5 w5 hv5 hg5 hn5; refine Hid.out ?_)
        have HV5 : Hid (w5.ownsRow w1.heap.size 305 2 v5 (nn + 1) (lncells (L ++ [(j + 1, P)]))) := by
          rw [lncells_append]; exact hv5
        have HB5 : Hid (Below w1.heap.size w1 w5) := (HBW.out.alloc HBW.out.size _).grown hg5 (by have := HBW.out.size; simp; omega) (fun k hk => (rblock HO.out k hk).1)
        obtain ⟨ao5, cap5, rfl, _, _⟩ := row_form HV5.out
        clear hv5 hg5 hn5
        unfold Hid
        go_wp2_with fail
        exact ⟨⟨j + 1, L ++ [(j + 1, P)], od, ao5, nn + 1, cap5, by go_num, rfl, rfl, by rw [List.length_append, HNN.out]; rfl, hlt, HV5.out, HB5.out, by rw [← HJS.out]; exact HNX.out, (fun _ => by simp), by rw [← HJS.out]; exact HSX.out, by rw [List.length_append]; show _ + 1 ≤ _; omega⟩, by simp [intOf]; omega⟩
    · obtain rfl : j = R.length := by omega
      have HN : Hid (L = linesS t) := by
        have h := HJF.out
        rw [List.drop_length] at h
        exact h
      go_wp2_with fail
      go_ret
      refine ⟨_, rfl, ?_, ?_⟩
      · have h := row_mono (base' := w.heap.size) HO.out (by omega)
        show World.ownsRow _ _ _ _ _ _ _
        rw [← HN.out, HNN.out]; exact h
      · exact HB1.out.trans (HBW.out.mono (by omega))
end Go.Proofs.YthhbpebihgjpjaaGreatDoor
