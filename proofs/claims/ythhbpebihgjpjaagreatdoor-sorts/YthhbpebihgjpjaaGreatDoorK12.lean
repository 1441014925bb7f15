import Derived.Test.YthhbpebihgjpjaaGreatDoorK11
import Derived.Laws.OwnMore
import Derived.Test.YthhbpebihgjpjaaGreatDoorK08
import Derived.Lib.AppendZeros
import Derived.Laws.AppendOwnNone
namespace Go.Proofs.YthhbpebihgjpjaaGreatDoor
open Go.RowKit
set_option maxRecDepth 1000000

theorem made_ints (n : Nat) : (madeCells (Value.int .i64 0).cells (n * 1)).toList = natsV (zerosS n) := by
  have h1 : (Value.int .i64 0).cells = #[.int .i64 0] := rfl
  rw [h1, Nat.mul_one]
  unfold madeCells zerosS natsV
  refine List.ext_getElem (by simp) (fun i h1 h2 => ?_)
  simp [Nat.mod_one]
set_option maxHeartbeats 2000000 in
theorem newWalk_any {w : World} {gN cN : Nat} {N : List (List Nat)} (hN : NeedsAt w gN N) (hl : N.length ≤ 1000) :
    Calls Tryz.prog 71 #[.slice (some ⟨gN, 0, none⟩) N.length cN] w fun e w' => ∃ wb gs, e = .returned (.pointer (some ⟨wb, 0, none⟩)) ∧ WalkAt w wb gN cN gs N.length N (.slice none 0 0) (zerosS N.length) [] w' := by
  have hinf : (Tryz.prog.info? 206).map (fun i => (i.size, i.bytes, i.zero)) = some (1, 8, some (.int .i64 0)) := by kernel_rfl
  obtain ⟨ti, hti, htj⟩ := Option.map_eq_some_iff.1 hinf
  simp only [Prod.mk.injEq] at htj
  obtain ⟨w2, hmk, ho, hg⟩ := run_makeSlice_full (P := Tryz.prog) w w.heap.size 146 206 ti (.int .i64 0) 1 Tryz.underlying146 hti htj.2.2 htj.1 .i64 .i64 N.length (by omega) (by rw [htj.2.1]; omega) (by unfold maxLen; omega) (Nat.le_refl _)
  have hb2 : Below w.heap.size w w2 := ⟨hg.os, hg.tape, hg.output, hg.size, fun k hk => hg.block k hk (by simp)⟩
  rw [made_ints] at ho
  have HW : Hid (WalkAt w w2.heap.size gN cN w.heap.size N.length N (.slice none 0 0) (zerosS N.length) [] (w2.alloc (.cells #[.slice (some ⟨gN, 0, none⟩) N.length cN, .slice (some ⟨w.heap.size, 0, none⟩) N.length N.length, .slice none 0 0] 148))) := by
    refine ⟨heapA_new _ _ _ rfl, rkeep ho (fun k hk => heapA_old _ _ k (rblock ho k hk).2), World.ownsRow_nil _ _ _ _, hN, hb2.alloc hb2.size _, hb2.size⟩
  clear hinf hti htj ho hg hb2 hN
  generalize hn : N.length = n at *
  have n0 : (0 : Int) ≤ (n : Int) := by omega
  go_enter Tryz.func71, Tryz.ntmps71
  go_wp2
  go_ret
  exact ⟨_, _, rfl, HW.out⟩
/-- A walk's world may grow. -/
theorem WalkAt.later {w0 : World} {wb gN cN gs cS : Nat} {N : List (List Nat)} {vo : Value} {s o : List Nat} {w w' : World} (h : WalkAt w0 wb gN cN gs cS N vo s o w) (hb : Below w.heap.size w w') : WalkAt w0 wb gN cN gs cS N vo s o w' :=
  ⟨(hb.block wb (heap_lt h.row)).trans h.row, rkeep h.seen (fun k hk => hb.block k (rblock h.seen k hk).2), rkeep h.order (fun k hk => hb.block k (rblock h.order k hk).2), h.needs, h.bl.trans (hb.mono h.bl.size), h.wlow⟩
theorem unseenW_le (N : List (List Nat)) (hN : ∀ i, (N.getD i []).length ≤ 30000) : ∀ (s : List Nat) (i : Nat), unseenW N s i ≤ s.length * 30002
  | [], _ => Nat.zero_le _
  | x :: s, i => by
    have ih := unseenW_le N hN s (i + 1)
    have h := hN i
    show (if x = 0 then _ else 0) + unseenW N s (i + 1) ≤ (s.length + 1) * 30002
    split <;> omega
theorem walkM_bound (N : List (List Nat)) : ∀ (f : Nat) (k : Stk) (s o : List Nat), Fits N k s → (walkM N f k s o).2.2.length + unseenW N (walkM N f k s o).2.1 0 ≤ o.length + workM N k s ∧ Fits N [] (walkM N f k s o).2.1
  | 0, k, s, o, hf => ⟨by show o.length + unseenW N s 0 ≤ _; unfold workM; omega, ⟨hf.len, hf.three, fun x hx => by (cases hx), hf.needs⟩⟩
  | _ + 1, [], s, o, hf => ⟨by show o.length + unseenW N s 0 ≤ _; unfold workM; omega, hf⟩
  | f + 1, (p, []) :: k, s, o, hf => by
    have hp := (hf.stk (p, []) (List.mem_cons_self ..)).1
    have hw := work_pop N p k s
    have ih := walkM_bound N f k (s.set p 2) (o ++ [p]) (hf.pop.set hp (by decide))
    refine ⟨Nat.le_trans ih.1 ?_, ih.2⟩
    rw [List.length_append]
    simp only [List.length_cons, List.length_nil]
    omega
  | f + 1, (p, n :: l) :: k, s, o, hf => by
    have hn := (hf.stk (p, n :: l) (List.mem_cons_self ..)).2 n (List.mem_cons_self ..)
    show (if s.getD n 0 = 1 then (false, s, o) else if s.getD n 0 = 2 then walkM N f ((p, l) :: k) s o else walkM N f ((n, N.getD n []) :: (p, l) :: k) (s.set n 1) o).2.2.length + unseenW N (if s.getD n 0 = 1 then (false, s, o) else if s.getD n 0 = 2 then walkM N f ((p, l) :: k) s o else walkM N f ((n, N.getD n []) :: (p, l) :: k) (s.set n 1) o).2.1 0 ≤ _ ∧ Fits N [] (if s.getD n 0 = 1 then (false, s, o) else if s.getD n 0 = 2 then walkM N f ((p, l) :: k) s o else walkM N f ((n, N.getD n []) :: (p, l) :: k) (s.set n 1) o).2.1
    by_cases a : s.getD n 0 = 1
    · rw [if_pos a]
      exact ⟨by show o.length + unseenW N s 0 ≤ _; unfold workM; omega, ⟨hf.len, hf.three, fun x hx => by (cases hx), hf.needs⟩⟩
    · rw [if_neg a]
      by_cases b : s.getD n 0 = 2
      · rw [if_pos b]
        have hw := work_skip N p n l k s
        have ih := walkM_bound N f _ s o hf.skip
        exact ⟨by omega, ih.2⟩
      · rw [if_neg b]
        have h0 : s.getD n 0 = 0 := by have := hf.three n; omega
        have hw := work_push N p n l k s (by rw [hf.len]; exact hn) h0
        have ih := walkM_bound N f _ (s.set n 1) o ((hf.skip.push hn).set hn (by decide))
        exact ⟨by omega, ih.2⟩
theorem visit_bound {N : List (List Nat)} {p : Nat} {s o : List Nat} (hf : Fits N [] s) (hp : p < N.length) : (visitS N p s o).2.2.length + unseenW N (visitS N p s o).2.1 0 ≤ o.length + unseenW N s 0 + (N.getD p []).length + 1 ∧ Fits N [] (visitS N p s o).2.1 := by
  unfold visitS
  by_cases h : s.getD p 0 = 2
  · rw [if_pos h]
    exact ⟨by show o.length + unseenW N s 0 ≤ _; omega, hf⟩
  · rw [if_neg h]
    have := walkM_bound N (workM N [(p, N.getD p [])] (s.set p 1) + 1) [(p, N.getD p [])] (s.set p 1) o ((hf.push hp).set hp (by decide))
    refine ⟨Nat.le_trans this.1 ?_, this.2⟩
    have h1 := unseenW_mark N s 0 p
    unfold workM
    rw [stkW_cons]
    have h2 : stkW [] = 0 := rfl
    simp only
    omega
theorem fits_zeros {N : List (List Nat)} (hN : ∀ i, ∀ n ∈ N.getD i [], n < N.length) : Fits N [] (zerosS N.length) where
  len := by simp [zerosS]
  three := fun i => by
    unfold zerosS
    rw [List.getD_eq_getElem?_getD, List.getElem?_replicate]
    split <;> simp
  stk := fun x hx => by cases hx
  needs := hN
set_option maxHeartbeats 4000000 in
theorem runsOut_any {w : World} {gN cN : Nat} {N : List (List Nat)} (hN : NeedsAt w gN N) (hl : N.length ≤ 1000) (hs : ∀ i, ∀ n ∈ N.getD i [], n < N.length) (h3 : ∀ i, (N.getD i []).length ≤ 30000) :
    Calls Tryz.prog 69 #[.slice (some ⟨gN, 0, none⟩) N.length cN] w fun e w' => e = .returned (.bool (runsS N (List.range N.length) (zerosS N.length) [])) ∧ Below w.heap.size w w' := by
  have HNW : Hid (Calls Tryz.prog 71 #[.slice (some ⟨gN, 0, none⟩) N.length cN] w fun e w' => ∃ wb gs, e = .returned (.pointer (some ⟨wb, 0, none⟩)) ∧ WalkAt w wb gN cN gs N.length N (.slice none 0 0) (zerosS N.length) [] w') := newWalk_any hN hl
  obtain ⟨R, hR⟩ : ∃ R, R = runsS N (List.range N.length) (zerosS N.length) [] := ⟨_, rfl⟩
  rw [← hR]
  have HR : Hid (runsS N ((List.range N.length).drop 0) (zerosS N.length) [] = R) := hR.symm
  have H3 : Hid (∀ i, (N.getD i []).length ≤ 30000) := h3
  have HF : Hid (Fits N [] (zerosS N.length) ∧ N.length ≤ 1000) := ⟨fits_zeros hs, hl⟩
  have HZ : Hid (unseenW N (zerosS N.length) 0 ≤ 1000 * 30002) := by
    have := unseenW_le N h3 (zerosS N.length) 0
    simp only [zerosS, List.length_replicate] at this ⊢
    show _ ≤ _
    omega
  clear hR hN hs h3
  generalize hNL : N.length = NL at *
  have HNL : Hid (N.length = NL) := hNL
  clear hNL
  have n1 : (NL : Int) ≤ 1000 := by omega
  go_enter Tryz.func69, Tryz.ntmps69
  go_wp2_with fail
  refine HNW.out.mono ?_
  rintro e w1 ⟨wb, gs, rfl, hwk⟩
  have HWK : Hid (WalkAt w wb gN cN gs NL N (.slice none 0 0) (zerosS NL) [] w1) := hwk
  clear hwk HNW
  go_wp2_with fail
  go_loopw [9] (fun i wr => ∃ (j : Nat) (vo : Value) (s o : List Nat), i = .int .i64 j ∧ j ≤ NL ∧ WalkAt w wb gN cN gs NL N vo s o wr ∧ Fits N [] s ∧ runsS N ((List.range NL).drop j) s o = R ∧ o.length + unseenW N s 0 ≤ 1000 * 30002 + j * 30001) (fun i _ => NL - (intOf i).toNat)
  case atStart => exact ⟨0, _, _, [], rfl, Nat.zero_le _, HWK.out, HF.out.1, HR.out, by have := HZ.out; simp only [List.length_nil]; omega⟩
  case round =>
    obtain ⟨j, vo, s, o, rfl, hj, hwk, hfi, hrun, hbd⟩ := hrel
    clear HWK
    have HWK : Hid (WalkAt w wb gN cN gs NL N vo s o wr) := hwk
    have HJ : Hid (Fits N [] s ∧ runsS N ((List.range NL).drop j) s o = R ∧ o.length + unseenW N s 0 ≤ 1000 * 30002 + j * 30001) := ⟨hfi, hrun, hbd⟩
    clear hfi hrun hbd
    have j0 : (0 : Int) ≤ (j : Int) := by omega
    by_cases hlt : j < NL
    · have j1 : (j : Int) < (NL : Int) := by omega
      have HVI : Hid (Calls Tryz.prog 72 #[.pointer (some ⟨wb, 0, none⟩), .int .i64 (j : Nat)] wr fun e w' => e = .returned (.bool (visitS N j s o).1) ∧ ∃ vo', WalkAt w wb gN cN gs NL N vo' (visitS N j s o).2.1 (visitS N j s o).2.2 w') := visit_any (by have := hwk; rw [← HNL.out] at this ⊢; exact this) HJ.out.1 (by rw [HNL.out]; exact hlt) (by rw [HNL.out]; exact HF.out.2) (by have := HJ.out.2.2; have := H3.out j; omega)
      have hvb := visit_bound (o := o) HJ.out.1 (show j < N.length by rw [HNL.out]; exact hlt)
      have hdr : runsS N ((List.range NL).drop j) s o = if (visitS N j s o).1 = true then runsS N ((List.range NL).drop (j + 1)) (visitS N j s o).2.1 (visitS N j s o).2.2 else false := by
        rw [List.drop_eq_getElem_cons (by simpa using hlt), List.getElem_range]; rfl
      have HVB : Hid ((visitS N j s o).2.2.length + unseenW N (visitS N j s o).2.1 0 ≤ 1000 * 30002 + (j + 1) * 30001 ∧ Fits N [] (visitS N j s o).2.1) := ⟨by have := HJ.out.2.2; have := H3.out j; have := hvb.1; omega, hvb.2⟩
      have HDR : Hid ((if (visitS N j s o).1 = true then runsS N ((List.range NL).drop (j + 1)) (visitS N j s o).2.1 (visitS N j s o).2.2 else false) = R) := hdr.symm.trans HJ.out.2.1
      clear hvb hdr hwk
      generalize visitS N j s o = V at *
      obtain ⟨vb, vs, vo2⟩ := V
      simp only at HVI HVB HDR
      go_wp2_with fail
      refine HVI.out.mono ?_
      rintro e w2 ⟨rfl, vo3, hwk3⟩
      have HW3 : Hid (WalkAt w wb gN cN gs NL N vo3 vs vo2 w2) := hwk3
      clear hwk3 HVI
      cases vb with
      | false =>
        have hRf : false = R := HDR.out
        subst hRf
        clear HDR HR
        go_wp2
        go_ret
        exact ⟨rfl, HW3.out.bl⟩
      | true =>
        go_wp2
        go_roundw
        case rel =>
          first
            | exact ⟨j + 1, vo3, vs, vo2, by go_num, by omega, HW3.out, HVB.out.2, HDR.out, HVB.out.1⟩
            | ((repeat apply Exists.intro); exact ⟨⟨j + 1, vo3, vs, vo2, by go_num, by omega, HW3.out, HVB.out.2, HDR.out, HVB.out.1⟩, rfl⟩)
        case measure => simp [intOf]; omega
    · obtain rfl : j = NL := by omega
      have hRt : true = R := by have := HJ.out.2.1; rw [List.drop_eq_nil_of_le (by simp)] at this; exact this
      subst hRt
      clear HR
      go_wp2
      go_ret
      exact ⟨rfl, HWK.out.bl⟩
end Go.Proofs.YthhbpebihgjpjaaGreatDoor

namespace Go.Proofs.YthhbpebihgjpjaaGreatDoor
open Go.RowKit
set_option maxRecDepth 1000000

set_option maxHeartbeats 2000000 in
theorem grow_any (n : Nat) (hn : n ≤ 1048576) (w : World) :
    Calls Tryz.prog 276 #[.slice none 0 0, .int .i64 n] w fun e w' => ∃ v, e = .returned v ∧ w'.ownsRow w.heap.size 9 1 v 0 [] ∧ Below w.heap.size w w' := by
  have hinf : (Tryz.prog.info? 9).map (fun i => (i.size, i.bytes, i.zero)) = some (1, 16, some (.string ⟨#[]⟩)) := by kernel_rfl
  obtain ⟨ti, hti, htj⟩ := Option.map_eq_some_iff.1 hinf
  simp only [Prod.mk.injEq] at htj
  have n1 : ¬ (n : Int) < 0 := by omega
  have n2 : (n : Int) ≤ 1048576 := by omega
  by_cases h0 : n = 0
  · subst h0
    clear hinf hti htj
    go_enter Tryz.func276, Tryz.ntmps276
    go_wp2_with fail
    go_ret
    exact ⟨_, rfl, World.ownsRow_nil _ _ _ _, Below.refl _ _⟩
  · have hrun := fun ty => Lib.run_append_nil_zeros (P := Tryz.prog) w 32 3 ty 9 ti (.string ⟨#[]⟩) .i64 .i64 Tryz.underlying32 Tryz.underlying3 hti htj.2.2 n (by omega) (by rw [htj.1]; decide) (by omega) (by rw [htj.2.1]; omega)
    have hge := grownCap_ge w n 0 9
    have hle := grownCap_le_maxLen w n 0 9 (by unfold maxLen; omega)
    generalize grownCap w n 0 9 = G at *
    have hsz : (Builtin.zeroCells (Value.string ⟨#[]⟩).cells n ++ Builtin.zeroCells (Value.string ⟨#[]⟩).cells (G - n)).size = G * 1 := by
      rw [Array.size_append, size_zeroCells, size_zeroCells]
      show n * 1 + (G - n) * 1 = _
      omega
    generalize Builtin.zeroCells (Value.string ⟨#[]⟩).cells n ++ Builtin.zeroCells (Value.string ⟨#[]⟩).cells (G - n) = CS at *
    have HRUN : Hid (∀ ty, (Builtin.append_ #[32, 3] ty #[.slice none 0 0, .int .i64 n]).run Tryz.prog w = .ok (.slice (some ⟨w.heap.size, 0, none⟩) n G) (w.drew.alloc (.cells CS 9))) := hrun
    have HOW : Hid ((w.drew.alloc (.cells CS 9)).ownsRow w.heap.size 9 1 (.slice (some ⟨w.heap.size, 0, none⟩) 0 G) 0 []) := World.ownsRow_made w.drew CS G (Nat.le_refl _) hle hsz
    have HB : Hid (Below w.heap.size w (w.drew.alloc (.cells CS 9))) := (Below.refl _ _).drew.alloc (Nat.le_refl _) _
    have n3 : (0 : Int) < (n : Int) := by omega
    have hsl0 : ∀ wx, (Instr.slice 32 (.slice none 0 0) none (some (.int .i64 0)) none).run Tryz.prog wx = .ok (.slice none 0 0) wx := fun wx => by kernel_rfl
    have g0 : ¬ (G : Int) < 0 := by omega
    have hsl : ∀ wx, (Instr.slice 32 (.slice (some ⟨w.heap.size, 0, none⟩) n G) none (some (.int .i64 0)) none).run Tryz.prog wx = .ok (.slice (some ⟨w.heap.size, 0, none⟩) 0 G) wx := fun wx => by
      simp [Instr.slice, run_underlying Tryz.underlying32, go_sem]
    clear hrun hinf hti htj hsz
    go_enter Tryz.func276, Tryz.ntmps276
    go_wp2_with (at_builtin; refine Lib.wpList_append_run _ rfl (.tmp 20) (.tmp 21) 32 3 rfl _ _ rfl rfl _ _ (HRUN.out _) ?_; refine Hid.out ?_)
    unfold Hid
    go_wp2_with fail
    go_ret
    exact ⟨_, rfl, HOW.out, HB.out⟩
/-- Lists behind one another. -/
def flatL (ll : List (Value × List ByteArray)) : List ByteArray := ll.flatMap (·.2)
theorem flatL_snoc (ll : List (Value × List ByteArray)) (x : Value × List ByteArray) : flatL (ll ++ [x]) = flatL ll ++ x.2 := by simp [flatL]
set_option maxHeartbeats 4000000 in
theorem concat_any (ll : List (Value × List ByteArray)) (cb : Nat) (w : World) (hc : ∀ (i : Nat) x, ll[i]? = some x → w.cell? ⟨cb, i, none⟩ = some x.1 ∧ TextsAt w x.1 x.2) (hl : ll.length ≤ 10) (hs : ∀ x ∈ ll, x.2.length ≤ 10000) :
    Calls Tryz.prog 202 #[.slice (some ⟨cb, 0, none⟩) ll.length ll.length] w fun e w' => ∃ v, e = .returned v ∧ w'.ownsRow w.heap.size 9 1 v (flatL ll).length ((flatL ll).map Value.string) ∧ Below w.heap.size w w' := by
  have hinf : (Tryz.prog.info? 9).map (fun i => (i.size, i.bytes, i.zero)) = some (1, 16, some (.string ⟨#[]⟩)) := by kernel_rfl
  obtain ⟨ti, hti, htj⟩ := Option.map_eq_some_iff.1 hinf
  simp only [Prod.mk.injEq] at htj
  have HTI : Hid (Tryz.prog.info? 9 = some ti ∧ ti.size = 1 ∧ ti.bytes = 16 ∧ ti.zero = some (.string ⟨#[]⟩)) := ⟨hti, htj.1, htj.2.1, htj.2.2⟩
  clear hinf hti htj
  have HC : Hid (∀ (i : Nat) x, ll[i]? = some x → w.cell? ⟨cb, i, none⟩ = some x.1 ∧ TextsAt w x.1 x.2) := hc
  have HS : Hid (∀ x ∈ ll, x.2.length ≤ 10000) := hs
  have n0 : (ll.length : Int) ≤ 10 := by omega
  have HFL : Hid (∀ j, j ≤ ll.length → (flatL (ll.take j)).length ≤ j * 10000) := by
    intro j
    induction j with
    | zero => intro _; exact Nat.le_refl _
    | succ j ih =>
      intro hj
      have h1 := ih (by omega)
      rw [List.take_succ_eq_append_getElem (by omega), flatL_snoc, List.length_append]
      have h2 := hs ll[j] (List.getElem_mem _)
      omega
  clear hc hs
  generalize hL : ll.length = L at *
  have HL : Hid (ll.length = L) := hL
  clear hL
  go_enter Tryz.func202, Tryz.ntmps202
  go_wp2_with fail
  go_loop [3, 11] (fun z i => ∃ j : Nat, i = .int .i64 j ∧ z = .int .i64 ((flatL (ll.take j)).length : Nat) ∧ j ≤ L) (fun _ i => L - (intOf i).toNat)
  case atStart => exact ⟨0, rfl, rfl, Nat.zero_le _⟩
  case round =>
    obtain ⟨j, rfl, rfl, hle⟩ := hrel
    have j0 : (0 : Int) ≤ (j : Int) := by omega
    have hfl := HFL.out j hle
    by_cases hlt : j < L
    · obtain ⟨x, hx⟩ : ∃ x, ll[j]? = some x := ⟨ll[j]'(by have := HL.out; omega), by simp⟩
      obtain ⟨c1, ht⟩ := HC.out j x hx
      obtain ⟨ao, cap, hv, _, _⟩ := ht
      rw [hv] at c1
      have j1 : (j : Int) < (L : Int) := by omega
      have HN : Hid ((flatL (ll.take (j + 1))).length = (flatL (ll.take j)).length + x.2.length) := by
        show _ = _
        obtain ⟨h1, h2⟩ := List.getElem?_eq_some_iff.1 hx
        rw [List.take_succ_eq_append_getElem h1, flatL_snoc, List.length_append, h2]
      have hxl := HS.out x (List.mem_of_getElem? hx)
      clear hv hx
      generalize x.2.length = XL at *
      generalize (flatL (ll.take j)).length = FL at *
      have f1 : ¬ (FL : Int) + (XL : Int) < 0 := by omega
      have f2 : (FL : Int) ≤ 100000 := by omega
      have f3 : (XL : Int) ≤ 10000 := by omega
      go_wp2_with fail
      exact ⟨⟨j + 1, by go_num, by rw [HN.out]; go_num, hlt⟩, by simp [intOf]; omega⟩
    · obtain rfl : j = L := by omega
      have HE : Hid (flatL (ll.take j) = flatL ll) := by show _ = _; rw [← HL.out, List.take_length]
      generalize hFL : (flatL (ll.take j)).length = FL at *
      have HGW : Hid (Calls Tryz.prog 276 #[.slice none 0 0, .int .i64 FL] w fun e w' => ∃ v, e = .returned v ∧ w'.ownsRow w.heap.size 9 1 v 0 [] ∧ Below w.heap.size w w') := grow_any FL (by omega) w
      clear hFL
      go_wp2_with fail
      refine HGW.out.mono ?_
      rintro e w1 ⟨v1, rfl, ho1, hb1⟩
      have HO1 : Hid (w1.ownsRow w.heap.size 9 1 v1 0 []) := ho1
      have HB1 : Hid (Below w.heap.size w w1) := hb1
      clear ho1 hb1
      go_wp2_with fail
      go_loopw [6, 27] (fun v i wr => ∃ (k : Nat) (ao : Option Addr) (nn cap : Nat), i = .int .i64 k ∧ v = .slice ao nn cap ∧ nn = (flatL (ll.take k)).length ∧ k ≤ j ∧ wr.ownsRow w.heap.size 9 1 (.slice ao nn cap) nn ((flatL (ll.take k)).map Value.string) ∧ Below w.heap.size w wr) (fun _ i _ => j - (intOf i).toNat)
      case atStart =>
        obtain ⟨ao1, cap1, e1, _, _⟩ := row_form HO1.out
        exact ⟨0, ao1, 0, cap1, rfl, e1, rfl, Nat.zero_le _, by rw [← e1]; exact HO1.out, HB1.out⟩
      case round =>
        obtain ⟨k, ao, nn, cap, rfl, rfl, hnn, hke, hown, hbw⟩ := hrel
        have HO : Hid (wr.ownsRow w.heap.size 9 1 (.slice ao nn cap) nn ((flatL (ll.take k)).map Value.string)) := hown
        have HBW : Hid (Below w.heap.size w wr) := hbw
        have hfk := HFL.out k hke
        rw [← hnn] at hfk
        have HNN : Hid (nn = (flatL (ll.take k)).length) := hnn
        clear hown hbw hnn
        have k0 : (0 : Int) ≤ (k : Int) := by omega
        by_cases hlt2 : k < j
        · obtain ⟨x, hx⟩ : ∃ x, ll[k]? = some x := ⟨ll[k]'(by have := HL.out; omega), by simp⟩
          obtain ⟨c0, ht⟩ := HC.out k x hx
          have c1 : wr.cell? ⟨cb, k, none⟩ = some x.1 := (HBW.out.cell (p := ⟨cb, k, none⟩) (block_lt_of_cell c0)).trans c0
          have HN : Hid (flatL (ll.take (k + 1)) = flatL (ll.take k) ++ x.2) := by
            show _ = _
            obtain ⟨h1, h2⟩ := List.getElem?_eq_some_iff.1 hx
            rw [List.take_succ_eq_append_getElem h1, flatL_snoc, h2]
          have hxl := HS.out x (List.mem_of_getElem? hx)
          have k1 : (k : Int) < (j : Int) := by omega
          obtain ⟨av, capv, hv, _, h⟩ := ht.keepB HBW.out
          rw [hv] at c1
          have hbs : w.heap.size ≤ wr.heap.size := HBW.out.size
          obtain ⟨x1, xl⟩ := x
          simp only at hv c1 HN hxl h
          clear hx c0 hv ht
          generalize flatL (ll.take k) = F at *
          rcases h with ⟨h0, rfl, _⟩ | ⟨b, o, rfl, h⟩
          · rw [List.append_nil] at HN
            cases av with
            | none =>
              obtain rfl := h0 rfl
              go_wp2_with (at_builtin; refine wpList_append_own_none rfl (.tmp 31) (.tmp 32) 32 rfl w.heap.size 9 ti 1 Tryz.underlying32 HTI.out.1 _ nn _ rfl (by exact HO.out) rfl ?_; refine Hid.out ?_)
              unfold Hid
              go_wp2_with fail
              exact ⟨⟨k + 1, ao, nn, cap, by go_num, rfl, by rw [HN.out]; exact HNN.out, hlt2, by rw [HN.out]; exact HO.out, HBW.out⟩, by simp [intOf]; omega⟩
            | some a0 =>
              clear h0
              go_wp2_with (at_builtin; refine wpList_append_own _ rfl (.tmp 31) (.tmp 32) 32 rfl w.heap.size 9 ti (.string ⟨#[]⟩) 1 16 Tryz.underlying32 HTI.out.1 HTI.out.2.2.2 HTI.out.2.1 HTI.out.2.2.1 rfl (by decide) _ nn _ rfl (by exact HO.out) a0 0 capv [] rfl rfl (by intro j u hu; simp at hu) (by intro u hu; cases hu) (by unfold maxLen; omega) (by omega) hbs ?_; intro v5 w5 hv5 hg5 hn5; refine Hid.out ?_)
              have HO5 : Hid (w5.ownsRow w.heap.size 9 1 v5 nn (F.map Value.string)) := by have h := hv5; rw [List.append_nil] at h; exact h
              have HB5 : Hid (Below w.heap.size w w5) := HBW.out.grown hg5 hbs (fun q hq => (rblock HO.out q hq).1)
              obtain ⟨ao5, cap5, rfl, _, _⟩ := row_form HO5.out
              clear hv5 hg5 hn5
              unfold Hid
              go_wp2_with fail
              exact ⟨⟨k + 1, ao5, nn, cap5, by go_num, rfl, by rw [HN.out]; exact HNN.out, hlt2, by rw [HN.out]; exact HO5.out, HB5.out⟩, by simp [intOf]; omega⟩
          · have HNW : Hid (∀ (j : Nat) u, (xl.map Value.string)[j]? = some u → wr.cell? ((⟨b, o, none⟩ : Addr).add j) = some u) := by
              intro j u hu
              have hadd : (⟨b, o, none⟩ : Addr).add j = ⟨b, o + j, none⟩ := by unfold Addr.add; split <;> simp_all
              rw [List.getElem?_map] at hu
              obtain ⟨s, hs1, rfl⟩ := Option.map_eq_some_iff.1 hu
              rw [hadd]; exact h j s hs1
            clear h
            go_wp2_with (at_builtin; refine wpList_append_own _ rfl (.tmp 31) (.tmp 32) 32 rfl w.heap.size 9 ti (.string ⟨#[]⟩) 1 16 Tryz.underlying32 HTI.out.1 HTI.out.2.2.2 HTI.out.2.1 HTI.out.2.2.1 rfl (by decide) _ nn _ rfl (by exact HO.out) ⟨b, o, none⟩ xl.length capv (xl.map Value.string) rfl (by simp) HNW.out (by intro u hu; obtain ⟨s, _, rfl⟩ := List.mem_map.1 hu; rfl) (by unfold maxLen; omega) (by omega) hbs ?_; intro v5 w5 hv5 hg5 hn5; refine Hid.out ?_)
            have HO5 : Hid (w5.ownsRow w.heap.size 9 1 v5 (nn + xl.length) ((F ++ xl).map Value.string)) := by rw [List.map_append]; exact hv5
            have HB5 : Hid (Below w.heap.size w w5) := HBW.out.grown hg5 hbs (fun q hq => (rblock HO.out q hq).1)
            obtain ⟨ao5, cap5, rfl, _, _⟩ := row_form HO5.out
            clear hv5 hg5 hn5
            unfold Hid
            go_wp2_with fail
            exact ⟨⟨k + 1, ao5, nn + xl.length, cap5, by go_num, rfl, by rw [HN.out, List.length_append, ← HNN.out], hlt2, by rw [HN.out]; exact HO5.out, HB5.out⟩, by simp [intOf]; omega⟩
        · obtain rfl : k = j := by omega
          have HF : Hid (wr.ownsRow w.heap.size 9 1 (.slice ao nn cap) (flatL ll).length ((flatL ll).map Value.string)) := by
            rw [← HE.out, ← HNN.out]; exact HO.out
          have k1 : ¬ (k : Int) < (k : Int) := by omega
          go_wp2_with fail
          go_ret
          exact ⟨_, rfl, HF.out, HBW.out⟩
end Go.Proofs.YthhbpebihgjpjaaGreatDoor
