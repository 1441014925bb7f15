import Derived.Test.YthhbpebihgjpjaaGreatDoorK16
import Derived.Test.YthhbpebihgjpjaaGreatDoorK06
import Derived.Test.YthhbpebihgjpjaaGreatDoorK15
namespace Go.Proofs.YthhbpebihgjpjaaGreatDoor
open Go.RowKit Go.Shelf
set_option maxRecDepth 1000000

theorem take_snoc' {α : Type} (l : List α) (j : Nat) (x : α) (h : l[j]? = some x) : l.take (j + 1) = l.take j ++ [x] := by
  obtain ⟨h1, h2⟩ := List.getElem?_eq_some_iff.1 h
  rw [List.take_succ_eq_append_getElem h1, h2]
set_option maxHeartbeats 4000000 in
theorem linesOf_any (t : ByteArray) (ht : t.size ≤ 1048576) (a : Nat → Addr) (w : World) (hg : Gl a w) :
    Calls Tryz.prog 113 #[.string t] w fun e w' => ∃ v, e = .returned v ∧ OwnLn w' w.heap.size v (saidS t) ∧ Below w.heap.size w w' := by
  have hinf : (Tryz.prog.info? 305).map (fun i => (i.size, i.bytes, i.zero)) = some (2, 24, some (.agg #[.int .i64 0, .string ⟨#[]⟩])) := by kernel_rfl
  obtain ⟨ti, hti, htj⟩ := Option.map_eq_some_iff.1 hinf
  simp only [Prod.mk.injEq] at htj
  have HTI : Hid (Tryz.prog.info? 305 = some ti ∧ ti.size = 2 ∧ ti.bytes = 24 ∧ ti.zero = some (.agg #[.int .i64 0, .string ⟨#[]⟩])) := ⟨hti, htj.1, htj.2.1, htj.2.2⟩
  clear hinf hti htj
  have HG : Hid (Gl a w) := hg
  have HT : Hid (t.size ≤ 1048576) := ht
  have HLL : Hid ((linesS t).length ≤ 1048577) := by
    have h := joinFrom_len (rawB t) 1 [] false
    have h2 := rawB_length t
    have h3 := rawB_count t
    have h4 : ([] : List Line).length = 0 := rfl
    show (joinFrom 1 (rawB t) [] false).length ≤ _
    omega
  have HSD : Hid (saidS t = (linesS t).filter fun x => !emptyB x.2) := rfl
  clear hg
  go_enter Tryz.func113, Tryz.ntmps113
  go_wp2_with fail
  refine (joinedLines_any t HT.out a w HG.out).mono ?_
  rintro e w1 ⟨v1, rfl, ho1, hb1⟩
  have HO1 : Hid (OwnLn w1 w.heap.size v1 (linesS t)) := ho1
  have HB1 : Hid (Below w.heap.size w w1) := hb1
  have HLT : Hid (sumL (linesS t) ≤ 1048576) := Nat.le_trans (linesS_sum t) HT.out
  clear ho1 hb1
  generalize linesS t = L at *
  obtain ⟨ao1, cap1, rfl, hc1, hg1⟩ := row_form HO1.out
  have l0 : (L.length : Int) ≤ 1048577 := by have := HLL.out; omega
  clear hc1
  go_wp2_with fail
  go_loopw [3, 10] (fun v i wr => ∃ (j n : Nat) (ao : Option Addr) (cap : Nat), i = .int .i64 j ∧ v = .slice ao n cap ∧ ((L.take j).filter fun x => !emptyB x.2).length = n ∧ j ≤ L.length ∧ wr.ownsRow w1.heap.size 305 2 (.slice ao n cap) n (lncells ((L.take j).filter fun x => !emptyB x.2)) ∧ Below w1.heap.size w1 wr) (fun _ i _ => L.length - (intOf i).toNat)
  case atStart => exact ⟨0, 0, none, 0, rfl, rfl, rfl, Nat.zero_le _, World.ownsRow_nil _ _ _ _, Below.refl _ _⟩
  case round =>
    obtain ⟨j, n, ao, cap, rfl, rfl, hn, hle, hown, hbw⟩ := hrel
    have HN : Hid (((L.take j).filter fun x => !emptyB x.2).length = n) := hn
    have HO : Hid (wr.ownsRow w1.heap.size 305 2 (.slice ao n cap) n (lncells ((L.take j).filter fun x => !emptyB x.2))) := hown
    have HBW : Hid (Below w1.heap.size w1 wr) := hbw
    have hnj : n ≤ j := by
      rw [← hn]
      exact Nat.le_trans (List.length_filter_le _ _) (List.length_take_le _ _)
    clear hn hown hbw
    have j0 : (0 : Int) ≤ (j : Int) := by omega
    by_cases hlt : j < L.length
    · have j1 : (j : Int) < (L.length : Int) := by omega
      obtain ⟨x, hx⟩ : ∃ x, L[j]? = some x := ⟨L[j]'hlt, by simp⟩
      obtain ⟨g, rfl⟩ := hg1 (by omega)
      have hc := lncells_at hx
      have hw := (rblock HO1.out g rfl).2
      have c1 : wr.cell? ⟨g, j * 2, none⟩ = some (.int .i64 (x.1 : Nat)) := (HBW.out.cell (p := ⟨g, j * 2, none⟩) hw).trans (row_cell HO1.out _ _ hc.1).1
      have c2 : wr.cell? ⟨g, j * 2 + 1, none⟩ = some (.string x.2) := (HBW.out.cell (p := ⟨g, j * 2 + 1, none⟩) hw).trans (row_cell HO1.out _ _ hc.2).1
      have hxs : x.2.size ≤ 1048576 := Nat.le_trans (sumL_mem (List.mem_of_getElem? hx)) HLT.out
      have HTK : Hid ((L.take (j + 1)).filter (fun x => !emptyB x.2) = (L.take j).filter (fun x => !emptyB x.2) ++ (if emptyB x.2 = true then [] else [x])) := by
        show _ = _
        rw [take_snoc' L j x hx, List.filter_append, List.filter_cons, List.filter_nil]
        cases emptyB x.2 <;> rfl
      have HEM : Hid (emptyB x.2 = decide ((leftB x.2).size = 0 ∨ byteOf (leftB x.2) 0 = 35)) := rfl
      have HWB : Hid (∀ wx, Calls Tryz.prog 191 #[.string x.2] wx fun e w' => e = .returned (.string (leftB x.2)) ∧ w' = wx) := fun wx => withoutBlanks_any x.2 wx
      have hnn := nil_iff (leftB x.2)
      have hidx : 0 < (leftB x.2).size → ∀ wx, (Instr.index 9 (.string (leftB x.2)) (.int .i64 0)).run Tryz.prog wx = .ok (.int .u8 (byteOf (leftB x.2) 0)) wx := fun h wx => run_index_text (leftB x.2) 0 h wx
      clear hx hc
      generalize leftB x.2 = Q at *
      generalize (L.take j).filter (fun x => !emptyB x.2) = F at *
      cases hem : emptyB x.2 with
      | true =>
        rw [hem, if_pos rfl, List.append_nil] at HTK
        rw [hem] at HEM
        have hor := of_decide_eq_true HEM.out.symm
        by_cases h0 : Q.size = 0
        · rw [decide_eq_true h0] at hnn
          clear hidx hor HEM hem
          go_wp2_with fail
          refine (HWB.out _).mono ?_
          rintro e w2 ⟨rfl, rfl⟩
          go_wp2_with fail
          exact ⟨⟨j + 1, n, ao, cap, by go_num, rfl, by rw [HTK.out]; exact HN.out, hlt, by rw [HTK.out]; exact rkeep HO.out (fun k hk => heapA_old wr _ k (rblock HO.out k hk).2), HBW.out.alloc HBW.out.size _⟩, by simp [intOf]; omega⟩
        · rw [decide_eq_false h0] at hnn
          have h35 : byteOf Q 0 = 35 := by rcases hor with h | h; exact absurd h h0; exact h
          have hi := hidx (by omega)
          rw [h35] at hi
          have q0 : (0 : Int) < (Q.size : Int) := by omega
          clear hidx hor HEM hem h35
          go_wp2_with fail
          refine (HWB.out _).mono ?_
          rintro e w2 ⟨rfl, rfl⟩
          go_wp2_with fail
          exact ⟨⟨j + 1, n, ao, cap, by go_num, rfl, by rw [HTK.out]; exact HN.out, hlt, by rw [HTK.out]; exact rkeep HO.out (fun k hk => heapA_old wr _ k (rblock HO.out k hk).2), HBW.out.alloc HBW.out.size _⟩, by simp [intOf]; omega⟩
      | false =>
        rw [hem, if_neg (by decide)] at HTK
        rw [hem] at HEM
        have hor := of_decide_eq_false HEM.out.symm
        have h0 : ¬ Q.size = 0 := fun h => hor (Or.inl h)
        have h35 : ((byteOf Q 0 : Int) != 35) = true := by simp; intro h; exact hor (Or.inr (by omega))
        rw [decide_eq_false h0] at hnn
        have hi := hidx (by omega)
        have q0 : (0 : Int) < (Q.size : Int) := by omega
        obtain ⟨xn, xt⟩ := x
        simp only at c1 c2 HTK HWB hxs
        clear hidx hor HEM hem
        generalize byteOf Q 0 = y at *
        have HOa : Hid ((wr.alloc (.cells #[.int .i64 (xn : Nat), .string xt] 305)).ownsRow w1.heap.size 305 2 (.slice ao n cap) n (lncells F)) := rkeep HO.out (fun k hk => heapA_old wr _ k (rblock HO.out k hk).2)
        have HBa : Hid (Below w1.heap.size w1 (wr.alloc (.cells #[.int .i64 (xn : Nat), .string xt] 305))) := HBW.out.alloc HBW.out.size _
        go_wp2_with fail
        refine (HWB.out _).mono ?_
        rintro e w2 ⟨rfl, rfl⟩
        go_wp2_with (at_builtin; refine wpList_append_own _ rfl (.tmp 24) (.tmp 26) 198 rfl w1.heap.size 305 ti (.agg #[.int .i64 0, .string ⟨#[]⟩]) 2 24 Tryz.underlying198 HTI.out.1 HTI.out.2.2.2 HTI.out.2.1 HTI.out.2.2.1 rfl (by decide) _ n (lncells F) rfl (by exact rkeep HOa.out (fun k hk => heapA_old _ _ k (rblock HOa.out k hk).2)) ⟨(wr.alloc (.cells #[.int .i64 (xn : Nat), .string xt] 305)).heap.size, 0, none⟩ 1 1 [.int .i64 (xn : Nat), .string xt] (by simp [go_sem]) rfl (by exact newCells _ _ _) (by intro u hu; simp only [List.mem_cons, List.not_mem_nil, or_false] at hu; rcases hu with rfl | rfl <;> rfl) (by unfold maxLen; omega) (by omega) (by have := HBW.out.size; simp; omega) ?_; intro v5 w5 hv5 hg5 hn5; refine Hid.out ?_)
        have HV5 : Hid (w5.ownsRow w1.heap.size 305 2 v5 (n + 1) (lncells (F ++ [(xn, xt)]))) := by
          rw [lncells_append]; exact hv5
        have HB5 : Hid (Below w1.heap.size w1 w5) := (HBa.out.alloc HBa.out.size _).grown hg5 (by have := HBW.out.size; simp; omega) (fun k hk => (rblock HO.out k hk).1)
        obtain ⟨ao5, cap5, rfl, _, _⟩ := row_form HV5.out
        clear hv5 hg5 hn5
        unfold Hid
        go_wp2_with fail
        exact ⟨⟨j + 1, n + 1, ao5, cap5, by go_num, rfl, by rw [HTK.out, List.length_append, HN.out]; rfl, hlt, by rw [HTK.out]; exact HV5.out, HB5.out⟩, by simp [intOf]; omega⟩
    · obtain rfl : j = L.length := by omega
      have HE : Hid (saidS t = (L.take L.length).filter fun x => !emptyB x.2) := by rw [List.take_length]; exact HSD.out
      go_wp2_with fail
      go_ret
      refine ⟨_, rfl, ?_, ?_⟩
      · have h := row_mono (base' := w.heap.size) HO.out HB1.out.size
        show World.ownsRow _ _ _ _ _ _ _
        rw [HE.out, HN.out]; exact h
      · exact HB1.out.trans (HBW.out.mono HB1.out.size)
end Go.Proofs.YthhbpebihgjpjaaGreatDoor

namespace Go.Proofs.YthhbpebihgjpjaaGreatDoor
open Go.RowKit Go.Shelf
set_option maxRecDepth 1000000

/-- Behind a panic inside a region that draws: nothing is left to be walked. -/
theorem dead_end {G : Prop} (h : G) (w : World) : wpAny Tryz.prog .any #[] (fun _ _ _ => True) 0 #[] { tmps := #[], defers := [] } w → G := fun _ => h
def bindEnd (a : Nat → Addr) (n : Int) (o : Option (ByteArray × ByteArray)) (e : Ending) (w' : World) : Prop := match o with
  | some nv => e = .returned (.tuple #[.string nv.1, .string nv.2])
  | none => Stopped n (reasonV a 4) e w'
theorem hasPrefix_any (t : ByteArray) (c : UInt8) (w : World) :
    Calls Tryz.prog 193 #[.string t, .string ⟨#[c]⟩] w fun e w' => e = .returned (.bool (begins t c.toNat)) ∧ w' = w := by
  have := Any.strings_HasPrefix Tryz.lays99 t ⟨#[c]⟩ w
  rw [show (⟨#[c]⟩ : ByteArray).data.toList = [c] from rfl, begins_prefix] at this
  exact this
set_option maxHeartbeats 4000000 in
theorem cutBinding_any (rb : Nat) (n : Int) (t : ByteArray) (a : Nat → Addr) (w : World) (h0 : w.cell? ⟨rb, 0, none⟩ = some (.int .i64 n)) (hg : Gl a w) (ht : t.size ≤ 1048576) :
    Calls Tryz.prog 270 #[.pointer (some ⟨rb, 0, none⟩), .string t] w fun e w' => bindEnd a n (bindS t) e w' ∧ Below w.heap.size w w' := by
  have HB : Hid (bindS t = if wordLenB (leftB t) = 0 ∨ begins (leftB (tailB (leftB t))) 61 = false then none else some (headB (leftB t), leftB ((leftB (tailB (leftB t))).extract 1 (leftB (tailB (leftB t))).size))) := rfl
  have HX : Hid (w.cell? ⟨rb, 0, none⟩ = some (.int .i64 n)) := h0
  have hls := leftB_le t
  have HW1 : Hid (∀ wx, Calls Tryz.prog 191 #[.string t] wx fun e w' => e = .returned (.string (leftB t)) ∧ w' = wx) := fun wx => withoutBlanks_any t wx
  generalize leftB t = T at *
  have HCW : Hid (∀ wx, Calls Tryz.prog 194 #[.string T] wx fun e w' => e = .returned (.tuple #[.string (headB T), .string (tailB T)]) ∧ ∃ n, w' = wx.drewN n) := fun wx => cutWord_any T (by omega) wx
  have hhs := headB_size T
  have hts := tailB_size T
  generalize tailB T = TL at *
  have HW2 : Hid (∀ wx, Calls Tryz.prog 191 #[.string TL] wx fun e w' => e = .returned (.string (leftB TL)) ∧ w' = wx) := fun wx => withoutBlanks_any TL wx
  have hus := leftB_le TL
  generalize leftB TL = U at *
  have HPRE : Hid (∀ wx, Calls Tryz.prog 193 #[.string U, .string ⟨#[61]⟩] wx fun e w' => e = .returned (.bool (begins U 61)) ∧ w' = wx) := fun wx => hasPrefix_any U 61 wx
  have HBG : Hid (begins U 61 = decide (0 < U.size ∧ byteOf U 0 = 61)) := rfl
  have c4 : w.cell? ⟨4, 0, none⟩ = some (.iface 472 (.pointer (some (a 4)))) := hg.errs 4 (by decide)
  have hnn := nil_iff (headB T)
  rw [hhs] at hnn
  generalize headB T = HD at *
  rw [← hhs] at HB hnn
  generalize wordLenB T = N at *
  subst hhs
  have HNO : Hid (∀ k, Calls Tryz.prog 112 #[.pointer (some ⟨rb, 0, none⟩), .bool false, .iface 472 (.pointer (some (a 4)))] (w.drewN k).drew fun e w' => Stopped n (reasonV a 4) e w' ∧ Below w.heap.size w w') := fun k => (need_no rb n _ _ (w.drewN k).drew HX.out).mono (fun e w' h => ⟨h.1, (below_drewN (Below.refl _ w) k).drew.trans h.2⟩)
  clear h0 hg
  by_cases hN : HD.size = 0
  · rw [decide_eq_true hN] at hnn
    have HF : Hid (bindS t = none) := by rw [HB.out, if_pos (Or.inl hN)]; rfl
    obtain rfl : HD = ⟨#[]⟩ := ByteArray.size_eq_zero_iff.1 hN
    clear hnn hN
    go_enter Tryz.func270, Tryz.ntmps270
    go_wp2_with fail
    refine (HW1.out _).mono ?_
    rintro e w1 ⟨rfl, rfl⟩
    go_wp2_with fail
    refine (HCW.out _).mono ?_
    rintro e w2 ⟨rfl, k2, rfl⟩
    go_wp2_with fail
    refine (HW2.out _).mono ?_
    rintro e w3 ⟨rfl, rfl⟩
    go_wp2_with fail
    refine wp_region_any (by kernel_rfl) ?_
    change wpAny _ _ _ _ _ _ _ (World.drew _)
    refine wpAny_take (i := 0) (v := .pointer (some ⟨rb, 0, none⟩)) rfl (by kernel_rfl) (by kernel_rfl) (by kernel_rfl) (fun _ _ _ h => h) (Or.inl ⟨by rfl, ?_⟩) ?_
    · intro w
      go_simp
    refine wpAny_take (i := 1) (v := .string ⟨#[]⟩) rfl (by kernel_rfl) (by kernel_rfl) (by kernel_rfl) (fun _ _ _ h => h) (Or.inl ⟨by rfl, ?_⟩) ?_
    · intro w
      go_simp
    refine wpAny_take (i := 2) (v := .bool false) rfl (by kernel_rfl) (by kernel_rfl) (by kernel_rfl) (fun _ _ _ h => h) (Or.inl ⟨by rfl, ?_⟩) ?_
    · intro w
      go_simp
    refine wpAny_take (i := 3) (v := .bool false) rfl (by kernel_rfl) (by kernel_rfl) (by kernel_rfl) (fun _ _ _ h => h) (Or.inl ⟨by rfl, ?_⟩) ?_
    · intro w
      go_simp
    refine wpAny_take (i := 4) (v := undef) rfl (by kernel_rfl) (by kernel_rfl) (by kernel_rfl) (fun _ _ _ h => h) (Or.inr ⟨by rfl, rfl⟩) ?_
    refine wpAny_take (i := 5) (v := undef) rfl (by kernel_rfl) (by kernel_rfl) (by kernel_rfl) (fun _ _ _ h => h) (Or.inr ⟨by rfl, rfl⟩) ?_
    refine wpAny_take (i := 6) (v := .bool false) rfl (by kernel_rfl) (by kernel_rfl) (by kernel_rfl) (fun _ _ _ h => h) (Or.inl ⟨by rfl, ?_⟩) ?_
    · intro w
      go_simp
    refine wpAny_ready (rs := [7]) (by kernel_rfl) (by simp) ?_
    refine AllReady.cons rfl (fun K hK => ?_) AllReady.nil
    go_simp
    refine hK _ _ ?_
    clear hK K
    refine wpAny_ready (rs := [8]) (by kernel_rfl) (by simp) ?_
    refine AllReady.cons rfl (fun K hK => ?_) AllReady.nil
    go_simp
    refine (HNO.out k2).mono ?_
    rintro e w8 ⟨hst, hb8⟩
    obtain ⟨b, rfl, s0, s1⟩ := hst
    exact ⟨rfl, (by rw [HF.out]; exact ⟨b, rfl, s0, s1⟩), hb8⟩
  · rw [decide_eq_false hN] at hnn
    cases hbg : begins U 61 with
    | false =>
      have HF : Hid (bindS t = none) := by rw [HB.out, if_pos (Or.inr hbg)]; rfl
      rw [hbg] at HPRE
      clear hbg HBG
      go_enter Tryz.func270, Tryz.ntmps270
      go_wp2_with fail
      refine (HW1.out _).mono ?_
      rintro e w1 ⟨rfl, rfl⟩
      go_wp2_with fail
      refine (HCW.out _).mono ?_
      rintro e w2 ⟨rfl, k2, rfl⟩
      go_wp2_with fail
      refine (HW2.out _).mono ?_
      rintro e w3 ⟨rfl, rfl⟩
      go_wp2_with fail
      go_region_with (first | (go_at_call 193; refine (HPRE.out _).mono ?_; rintro e w8 ⟨rfl, rfl⟩) | (go_at_call 112; refine (HNO.out k2).mono ?_; rintro e w8 ⟨hst, hb8⟩; obtain ⟨b, rfl, s0, s1⟩ := hst; refine dead_end ⟨rfl, (by rw [HF.out]; exact ⟨b, rfl, s0, s1⟩), hb8⟩ w1 ?_))
      all_goals trivial
    | true =>
      have HF : Hid (bindS t = some (HD, leftB (U.extract 1 U.size))) := by rw [HB.out, if_neg (by rw [hbg]; simp [hN])]; rfl
      have hu1 : 1 ≤ U.size := by have h := HBG.out; rw [hbg] at h; have := of_decide_eq_true h.symm; omega
      have hsl : ∀ wx, (Instr.slice 9 (.string U) (some (.int .i64 1)) none none).run Tryz.prog wx = .ok (.string (U.extract 1 U.size)) wx := fun wx => slice_from U 1 hu1 wx
      have HW3 : Hid (∀ wx, Calls Tryz.prog 191 #[.string (U.extract 1 U.size)] wx fun e w' => e = .returned (.string (leftB (U.extract 1 U.size))) ∧ w' = wx) := fun wx => withoutBlanks_any _ wx
      have HYES : Hid (∀ wx, Calls Tryz.prog 112 #[.pointer (some ⟨rb, 0, none⟩), .bool true, .iface 472 (.pointer (some (a 4)))] wx fun e w' => e = .returned (.tuple #[]) ∧ w' = wx) := fun wx => need_yes _ _ _
      rw [hbg] at HPRE
      generalize leftB (U.extract 1 U.size) = R at *
      generalize U.extract 1 U.size = V at *
      clear hbg HBG
      go_enter Tryz.func270, Tryz.ntmps270
      go_wp2_with fail
      refine (HW1.out _).mono ?_
      rintro e w1 ⟨rfl, rfl⟩
      go_wp2_with fail
      refine (HCW.out _).mono ?_
      rintro e w2 ⟨rfl, k2, rfl⟩
      go_wp2_with fail
      refine (HW2.out _).mono ?_
      rintro e w3 ⟨rfl, rfl⟩
      go_wp2_with fail
      go_region_with (first | (go_at_call 193; refine (HPRE.out _).mono ?_; rintro e w8 ⟨rfl, rfl⟩) | (go_at_call 112; refine (HYES.out _).mono ?_; rintro e w8 ⟨rfl, rfl⟩))
      all_goals
        go_wp2_with fail
        refine (HW3.out _).mono ?_
        rintro e w9 ⟨rfl, rfl⟩
        go_wp2_with fail
        go_ret2
        exact ⟨by rw [HF.out]; rfl, (below_drewN (Below.refl _ _) k2).drew⟩
end Go.Proofs.YthhbpebihgjpjaaGreatDoor
