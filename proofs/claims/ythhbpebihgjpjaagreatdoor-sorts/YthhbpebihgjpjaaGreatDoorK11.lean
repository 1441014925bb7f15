import Derived.Test.YthhbpebihgjpjaaGreatDoorK10
namespace Go.Proofs.YthhbpebihgjpjaaGreatDoor
open Go.RowKit
set_option maxRecDepth 1000000

/-- A walk between visits. -/
structure WalkAt (w0 : World) (wb gN cN gs cS : Nat) (N : List (List Nat)) (vo : Value) (s o : List Nat) (w : World) : Prop where
  row : WRow w wb (.slice (some ⟨gN, 0, none⟩) N.length cN) (.slice (some ⟨gs, 0, none⟩) N.length cS) vo
  seen : w.ownsRow w0.heap.size 206 1 (.slice (some ⟨gs, 0, none⟩) N.length cS) N.length (natsV s)
  order : w.ownsRow w0.heap.size 3 1 vo o.length (natsV o)
  needs : NeedsAt w0 gN N
  bl : Below w0.heap.size w0 w
  wlow : w0.heap.size ≤ wb
theorem WMem.walk {w0 : World} {wb sb gN cN gs cS : Nat} {N : List (List Nat)} {vo vi : Value} {I : Items} {s o : List Nat} {w : World} (h : WMem w0 wb sb gN cN gs cS N vo vi I s o w) : WalkAt w0 wb gN cN gs cS N vo s o w := ⟨h.row, h.seen, h.order, h.needs, h.bl, h.wlow⟩
theorem WalkAt.start {w0 : World} {wb gN cN gs cS : Nat} {N : List (List Nat)} {vo : Value} {s o : List Nat} {w : World} (h : WalkAt w0 wb gN cN gs cS N vo s o w) : WMem w0 wb w.heap.size gN cN gs cS N vo (.slice none 0 0) [] s o (w.alloc (.cells #[.slice none 0 0] 209)) := by
  have hb : Below w.heap.size w (w.alloc (.cells #[.slice none 0 0] 209)) := (Below.refl _ _).alloc (Nat.le_refl _) _
  exact {
    row := (hb.block wb (heap_lt h.row)).trans h.row
    seen := rkeep h.seen (fun k hk => hb.block k (rblock h.seen k hk).2)
    order := rkeep h.order (fun k hk => hb.block k (rblock h.order k hk).2)
    srow := heapA_new _ _ _ rfl
    items := World.ownsRow_nil _ _ _ _
    left := fun x hx => by cases hx
    needs := h.needs
    bl := h.bl.trans (hb.mono h.bl.size)
    wlow := h.wlow
    slow := h.bl.size }
/-- 'l[1:]' of numbers. -/
theorem slice_tailI (b o L cap : Nat) (h : L + 1 ≤ cap) : ∃ o', (∀ k, k < L → o' + k = o + 1 + k) ∧ ∀ wx, (Instr.slice 48 (.slice (some ⟨b, o, none⟩) (L + 1) cap) (some (.int .i64 1)) none none).run Tryz.prog wx = .ok (.slice (some ⟨b, o', none⟩) L (cap - 1)) wx := by
  by_cases hc : cap = 1
  · subst hc
    obtain rfl : L = 0 := by omega
    exact ⟨o, fun k hk => by omega, fun wx => by kernel_rfl⟩
  · refine ⟨o + 1, fun k _ => rfl, fun wx => ?_⟩
    simp [Instr.slice, run_underlying Tryz.underlying48, go_sem, hc]
    intro hh
    omega
/-- Where the walk stands, and what it will tell. -/
structure VPure (N : List (List Nat)) (R : Bool × List Nat × List Nat) (I : Items) (s o : List Nat) (gk : Nat) : Prop where
  fits : Fits N (stkOf I) s
  run : walkE N (stkOf I) s o = R
  work : workM N (stkOf I) s ≤ gk
  few : o.length + workM N (stkOf I) s ≤ 1000000000000
theorem unseenW_mark (N : List (List Nat)) : ∀ (s : List Nat) (i p : Nat), unseenW N (s.set p 1) i ≤ unseenW N s i
  | [], _, _ => Nat.le_refl _
  | x :: s, i, 0 => by
    show (if (1 : Nat) = 0 then _ else 0) + unseenW N s (i + 1) ≤ (if x = 0 then _ else 0) + unseenW N s (i + 1)
    rw [if_neg (by decide)]; omega
  | x :: s, i, p + 1 => by
    have ih := unseenW_mark N s (i + 1) p
    show (if x = 0 then _ else 0) + unseenW N (s.set p 1) (i + 1) ≤ (if x = 0 then _ else 0) + unseenW N s (i + 1)
    omega
theorem stkW_len : ∀ k : Stk, k.length ≤ stkW k
  | [] => Nat.le_refl _
  | x :: k => by have := stkW_len k; rw [stkW_cons, List.length_cons]; omega
theorem stkOf_length (I : Items) : (stkOf I).length = I.length := by simp [stkOf]
theorem VPure.len {N : List (List Nat)} {R : Bool × List Nat × List Nat} {I : Items} {s o : List Nat} {gk : Nat} (h : VPure N R I s o gk) : I.length ≤ 1000000000000 ∧ o.length ≤ 1000000000000 := by
  have h1 := stkW_len (stkOf I)
  rw [stkOf_length] at h1
  have h2 := h.few
  unfold workM at h2
  omega
set_option maxHeartbeats 16000000 in
theorem visit_any {w0 : World} {wb gN cN gs cS : Nat} {N : List (List Nat)} {vo : Value} {s o : List Nat} {w : World} {p : Nat} (h : WalkAt w0 wb gN cN gs cS N vo s o w) (hf : Fits N [] s) (hp : p < N.length) (hN : N.length ≤ 1000) (hb : o.length + unseenW N s 0 + (N.getD p []).length + 10 ≤ 1000000000000) :
    Calls Tryz.prog 72 #[.pointer (some ⟨wb, 0, none⟩), .int .i64 (p : Nat)] w fun e w' => e = .returned (.bool (visitS N p s o).1) ∧ ∃ vo', WalkAt w0 wb gN cN gs cS N vo' (visitS N p s o).2.1 (visitS N p s o).2.2 w' := by
  have c1 : w.cell? ⟨wb, 1, none⟩ = some (.slice (some ⟨gs, 0, none⟩) N.length cS) := by rw [cell_of_row _ _ _ _ _ _ h.row]; rfl
  obtain ⟨hsl, cur, hcur, hcx⟩ := seen_cell h.seen
  have cx : w.cell? ⟨gs, p, none⟩ = some (.int .i64 (s.getD p 0 : Nat)) := by rw [cell_of_row _ _ _ _ _ _ hcur]; exact hcx p hp
  have H : Hid (WalkAt w0 wb gN cN gs cS N vo s o w) := h
  have HF : Hid (Fits N [] s) := hf
  have p0 : (0 : Int) ≤ (p : Int) := by omega
  have p1 : (p : Int) < (N.length : Int) := by omega
  have HV := h.start
  have HSE := seen_cell HV.seen
  clear hcur hcx h hf
  by_cases h2 : s.getD p 0 = 2
  · have hvs : visitS N p s o = (true, s, o) := if_pos h2
    rw [hvs]
    rw [h2] at cx
    clear HV HSE h2 hvs
    go_enter Tryz.func72, Tryz.ntmps72
    go_wp2
    go_step3
    go_wp2
    try rw [Exit.noGoto_ret]
    go_ret
    exact ⟨rfl, vo, H.out⟩
  have HVS : Hid (visitS N p s o = walkE N [(p, N.getD p [])] (s.set p 1) o) := if_neg h2
  obtain ⟨R, hR⟩ : ∃ R, R = visitS N p s o := ⟨_, rfl⟩
  rw [← hR]
  obtain ⟨Rb, Rs, Ro⟩ := R
  simp only
  have HRR : Hid (walkE N [(p, N.getD p [])] (s.set p 1) o = (Rb, Rs, Ro)) := by rw [hR]; exact HVS.out.symm
  have b2 : (((s.getD p 0 : Nat) : Int) == 2) = false := by
    clear cx HRR
    generalize s.getD p 0 = x at *
    simp; omega
  clear hR HVS
  generalize hw1 : w.alloc (.cells #[.slice none 0 0] 209) = w1 at *
  obtain ⟨-, cur1, hcur1, hcx1⟩ := HSE
  obtain ⟨av, cv, hav, hint⟩ := HV.need hp
  have hne := HV.gsne (by omega)
  have HBG : Hid (Calls Tryz.prog 118 #[.pointer (some ⟨wb, 0, none⟩), .int .i64 (p : Nat)] w1 fun e w' => e = .returned (.agg #[.int .i64 (p : Nat), .slice av (N.getD p []).length cv]) ∧ Moves (fun k => k = gs) w1 w' ∧ w'.heap[gs]? = (w1.setCell ⟨gs, p, none⟩ (.int .i64 1)).heap[gs]?) := begin_any HV.row hp hp hav hcur1 (hcx1 p hp) hne.1 hne.2.1
  replace HV : Hid (WMem w0 wb w.heap.size gN cN gs cS N vo (.slice none 0 0) [] s o w1) := HV
  have HINT : Hid (IntsAt w0 (.slice av (N.getD p []).length cv) (N.getD p [])) := hint
  have HP : Hid (p < N.length ∧ s.length = N.length) := ⟨hp, hsl⟩
  have HBB : Hid (o.length + unseenW N s 0 + (N.getD p []).length + 10 ≤ 1000000000000) := hb
  have HH2 : Hid (¬ s.getD p 0 = 2) := h2
  clear hcur1 hcx1 hav hint hne hsl hb h2
  generalize hsb : w.heap.size = sb at *
  have HSB : Hid (w.heap.size = sb) := hsb
  clear hsb
  generalize hNL : N.length = NL at *
  have HNL : Hid (N.length = NL) := hNL
  clear hNL
  generalize hPL : (N.getD p []).length = PL at *
  have HPL : Hid ((N.getD p []).length = PL) := hPL
  clear hPL cur1
  generalize hsp : s.getD p 0 = sp at *
  clear hsp cur
  go_enter Tryz.func72, Tryz.ntmps72
  go_wp2
  go_step3
  go_wp2_with fail
  refine HBG.out.mono ?_
  rintro e w2 ⟨rfl, hm2, hg2⟩
  rw [HSB.out]
  have HV2 : Hid (WMem w0 wb sb gN cN gs cS N vo (.slice none 0 0) [] (s.set p 1) o w2) := HV.out.mark (x := 1) hm2 hg2
  have HPU : Hid (Calls Tryz.prog 117 #[.pointer (some ⟨sb, 0, none⟩), .agg #[.int .i64 (p : Nat), .slice av PL cv]] w2 fun e w' => e = .returned (.tuple #[]) ∧ ∃ vi', SRow w' sb vi' ∧ w'.ownsRow w0.heap.size 212 2 vi' (([] : Items).length + 1) (ocells ([] ++ [(p, N.getD p [], .slice av PL cv)])) ∧ Moves (fun k => k = sb ∨ (Value.slice none 0 0).ownBlock = some k) w2 w') := push_any p (N.getD p []) _ HV2.out.srow HV2.out.items HV2.out.bl.size (Nat.zero_le _) (HINT.out.keep (fun k hk => HV2.out.bl.block k hk))
  clear hm2 hg2 HBG HV c1 cx b2 hw1
  go_wp2_with fail
  refine HPU.out.mono ?_
  rintro e w3 ⟨rfl, vi3, hr3, ho3, hm3⟩
  have HV3 : Hid (WMem w0 wb sb gN cN gs cS N vo vi3 [(p, N.getD p [], .slice av PL cv)] (s.set p 1) o w3) := HV2.out.push HINT.out hr3 ho3 hm3
  have HP3 : Hid (VPure N (Rb, Rs, Ro) [(p, N.getD p [], .slice av PL cv)] (s.set p 1) o (workM N [(p, N.getD p [])] (s.set p 1))) := by
    have hf := HF.out
    have hp' : p < N.length := by rw [HNL.out]; exact hp
    refine ⟨(hf.push hp').set hp' (by decide), HRR.out, Nat.le_refl _, ?_⟩
    show o.length + workM N [(p, N.getD p [])] (s.set p 1) ≤ 1000000000000
    have h1 : unseenW N (s.set p 1) 0 ≤ unseenW N s 0 := unseenW_mark N s 0 p
    unfold workM
    rw [stkW_cons]
    have h2 : stkW [] = 0 := rfl
    have hPL := HPL.out
    have h3 := HBB.out
    simp only
    omega
  clear hr3 ho3 hm3 HPU HV2 HINT HRR HBB
  go_wp2_with fail
  go_step3
  go_wp2_with fail
  go_loopg [] (workM N [(p, N.getD p [])] (s.set p 1)) (fun gk wr => ∃ vo vi I s o, WMem w0 wb sb gN cN gs cS N vo vi I s o wr ∧ VPure N (Rb, Rs, Ro) I s o gk)
  case atStart => exact ⟨vo, vi3, _, _, o, HV3.out, HP3.out⟩
  case round =>
    clear HV3 HP3 HH2 HPL
    obtain ⟨vo1, vi, I, s1, o1, hv, hpu⟩ := hrel
    have HV : Hid (WMem w0 wb sb gN cN gs cS N vo1 vi I s1 o1 wr) := hv
    have HU : Hid (VPure N (Rb, Rs, Ro) I s1 o1 gk) := hpu
    obtain ⟨aoi, capi, hvi, hci, hgi⟩ := row_form hv.items
    have hem := empty_any (w := wr) (sb := sb) hv.srow ⟨_, _, hvi⟩
    rcases List.eq_nil_or_concat I with hI | ⟨J, x, hI⟩
    · subst hI
      have HEM : Hid (Calls Tryz.prog 119 #[.pointer (some ⟨sb, 0, none⟩)] wr fun e w' => e = .returned (.bool true) ∧ w' = wr) := hem
      have HFIN : Hid (Rb = true ∧ WalkAt w0 wb gN cN gs cS N vo1 Rs Ro wr) := by
        have hr : (true, s1, o1) = (Rb, Rs, Ro) := hpu.run
        injection hr with e1 hr
        injection hr with e2 e3
        subst e1 e2 e3
        exact ⟨rfl, hv.walk⟩
      clear hem hv hpu hvi hci hgi HV HU
      go_wp2_with fail
      refine HEM.out.mono ?_
      rintro e wx ⟨rfl, hwx⟩
      rw [hwx]
      clear hwx HEM wx
      go_wp2_with fail
      obtain ⟨hRb, hWk⟩ := HFIN.out
      subst hRb
      try rw [Exit.noGoto_ret]
      go_ret
      exact ⟨rfl, vo1, hWk⟩
    · obtain ⟨q, l, v⟩ := x
      have hIL : I.length = J.length + 1 := by rw [hI]; simp
      obtain ⟨GK, hGK⟩ : ∃ G, G = gk := ⟨_, rfl⟩
      have HGK : Hid (GK = gk) := hGK
      rw [← hGK] at HU
      clear hGK
      obtain ⟨g, rfl⟩ := hgi (by omega)
      have hbn : (((I.length : Nat) : Int) == 0) = false := by rw [hIL]; simp; omega
      rw [hbn] at hem
      have HEM : Hid (Calls Tryz.prog 119 #[.pointer (some ⟨sb, 0, none⟩)] wr fun e w' => e = .returned (.bool false) ∧ w' = wr) := hem
      rw [hIL] at hvi hci
      subst hvi
      rw [List.concat_eq_append] at hI
      subst hI
      have HTP : Hid (Calls Tryz.prog 120 #[.pointer (some ⟨sb, 0, none⟩)] wr fun e w' => e = .returned (.pointer (some ⟨g, J.length * 2, none⟩)) ∧ Below wr.heap.size wr w') := top_any hv.srow (by have := hpu.len.1; simp only [List.length_append, List.length_cons, List.length_nil] at this; omega)
      clear hem hv hpu hbn hIL hgi
      go_wp2_with fail
      refine HEM.out.mono ?_
      rintro e wx ⟨rfl, hwx⟩
      rw [hwx]
      clear hwx HEM wx
      go_wp2_with fail
      refine HTP.out.mono ?_
      rintro e wt ⟨rfl, hbt⟩
      have HVT : Hid (WMem w0 wb sb gN cN gs cS N vo1 (.slice (some ⟨g, 0, none⟩) (J.length + 1) capi) (J ++ [(q, l, v)]) s1 o1 wt) := HV.out.below hbt
      clear hbt HTP HV
      go_wp2_with fail
      go_loopg [] l.length (fun g2 wr => ∃ l v, WMem w0 wb sb gN cN gs cS N vo1 (.slice (some ⟨g, 0, none⟩) (J.length + 1) capi) (J ++ [(q, l, v)]) s1 o1 wr ∧ VPure N (Rb, Rs, Ro) (J ++ [(q, l, v)]) s1 o1 GK ∧ l.length ≤ g2)
      case atStart => exact ⟨l, v, HVT.out, HU.out, Nat.le_refl _⟩
      case round =>
        clear HVT HU v l
        obtain ⟨l, v, hv, hpu, hlg⟩ := hrel
        have HV : Hid (WMem w0 wb sb gN cN gs cS N vo1 (.slice (some ⟨g, 0, none⟩) (J.length + 1) capi) (J ++ [(q, l, v)]) s1 o1 wr) := hv
        have HU : Hid (VPure N (Rb, Rs, Ro) (J ++ [(q, l, v)]) s1 o1 GK) := hpu
        have HLG : Hid (l.length ≤ gk) := hlg
        have hit : wr.ownsRow w0.heap.size 212 2 (.slice (some ⟨g, 0, none⟩) (J.length + 1) capi) (J.length + 1) (ocells (J ++ [(q, l, v)])) := by have := hv.items; rw [List.length_append] at this; exact this
        have hat : (J ++ [(q, l, v)])[J.length]? = some (q, l, v) := by simp
        have k0 := (row_cell hit (J.length * 2) _ (ocells_at hat).1)
        have k1 := (row_cell hit (J.length * 2 + 1) _ (ocells_at hat).2)
        have kc0 := k0.1
        have kc1 := k1.1
        have kf1 := k1.2
        simp only at kc0 kc1
        have hint := hv.left (q, l, v) (by simp)
        simp only at hint
        obtain ⟨al, cl, rfl, hcl, hcells⟩ := hint
        have r1 : wr.cell? ⟨wb, 1, none⟩ = some (.slice (some ⟨gs, 0, none⟩) NL cS) := by rw [cell_of_row _ _ _ _ _ _ hv.row, ← HNL.out]; rfl
        have hbl := hv.bl
        have HNF : Hid (∀ n, n < NL → wr.cell? ⟨gs, n, none⟩ = some (.int .i64 (s1.getD n 0 : Nat)) ∧ wr.frozen? ⟨gs, n, none⟩ = false) := fun n hn => by
          obtain ⟨_, cur, hcur, hcx⟩ := seen_cell hv.seen
          exact ⟨by rw [cell_of_row _ _ _ _ _ _ hcur]; exact hcx n (by rw [HNL.out]; exact hn), frozen_of_row _ _ _ _ _ hcur⟩
        cases l with
        | nil =>
          have hq : q < NL := by
            rw [← HNL.out]
            exact (hpu.fits.stk (q, []) (by rw [stkOf_snoc]; exact List.mem_cons_self ..)).1
          have q0 : (0 : Int) ≤ (q : Int) := by omega
          have q1 : (q : Int) < (NL : Int) := by omega
          have sc := (HNF.out q hq).1
          have sf := (HNF.out q hq).2
          have HV5 : Hid (WMem w0 wb sb gN cN gs cS N vo1 (.slice (some ⟨g, 0, none⟩) (J.length + 1) capi) (J ++ [(q, [], .slice al 0 cl)]) (s1.set q 2) o1 (wr.setCell ⟨gs, q, none⟩ (.int .i64 2)).drew) := (HV.out.marked q 2).below ⟨rfl, rfl, rfl, Nat.le_refl _, fun _ _ => rfl⟩
          clear hcells hpu hlg hat k0 k1 hit hv hbl
          go_wp2_with fail
          go_region
          clear sc sf r1 kc0 kc1 kf1
          generalize (wr.setCell ⟨gs, q, none⟩ (.int .i64 2)).drew = w5 at *
          have hv5 := HV5.out
          have hit5 : w5.ownsRow w0.heap.size 212 2 (.slice (some ⟨g, 0, none⟩) (J.length + 1) capi) (J.length + 1) (ocells (J ++ [(q, [], .slice al 0 cl)])) := by have := hv5.items; rw [List.length_append] at this; exact this
          have kc0 := (row_cell hit5 (J.length * 2) _ (ocells_at (show (J ++ [(q, [], .slice al 0 cl)])[J.length]? = some (q, [], .slice al 0 cl) by simp)).1).1
          simp only at kc0
          obtain ⟨aoo, capo, hvo, _, _⟩ := row_form hv5.order
          have HOL : Hid (o1.length ≤ 1000000000000) := HU.out.len.2
          generalize hol : o1.length = OL at *
          have HOE : Hid (o1.length = OL) := hol
          clear hol
          subst hvo
          have c2 : w5.cell? ⟨wb, 2, none⟩ = some (.slice aoo OL capo) := by rw [cell_of_row _ _ _ _ _ _ hv5.row]; rfl
          have c2a : (w5.alloc (.cells #[.int .i64 (q : Nat)] 3)).cell? ⟨wb, 2, none⟩ = some (.slice aoo OL capo) := (World.cell?_of_block (w := w5) (a := ⟨wb, 2, none⟩) (heapA_old _ _ wb (heap_lt hv5.row))).trans c2
          have hinf : (Tryz.prog.info? 3).map (fun i => (i.size, i.bytes, i.zero)) = some (1, 8, some (.int .i64 0)) := by kernel_rfl
          obtain ⟨ti, hti, htj⟩ := Option.map_eq_some_iff.1 hinf
          simp only [Prod.mk.injEq] at htj
          have HTI : Hid (Tryz.prog.info? 3 = some ti ∧ ti.size = 1 ∧ ti.bytes = 8 ∧ ti.zero = some (.int .i64 0)) := ⟨hti, htj.1, htj.2.1, htj.2.2⟩
          have hol9 := HOL.out
          clear hinf hti htj hv5 hit5
          go_wp2_with fail
          refine wp_region_any (by kernel_rfl) ?_
          change wpAny _ _ _ _ _ _ _ (World.drew _)
          refine wpAny_take (i := 0) (v := .pointer (some ⟨wb, 0, none⟩)) rfl (by kernel_rfl) (by kernel_rfl) (by kernel_rfl) (fun _ _ _ h => h) (Or.inl ⟨by rfl, ?_⟩) ?_
          · intro w
            go_simp
          refine wpAny_take (i := 1) (v := .pointer (some ⟨wb, 0, none⟩)) rfl (by kernel_rfl) (by kernel_rfl) (by kernel_rfl) (fun _ _ _ h => h) (Or.inl ⟨by rfl, ?_⟩) ?_
          · intro w
            go_simp
          refine wpAny_take (i := 2) (v := .pointer (some ⟨wb, 0, none⟩)) rfl (by kernel_rfl) (by kernel_rfl) (by kernel_rfl) (fun _ _ _ h => h) (Or.inl ⟨by rfl, ?_⟩) ?_
          · intro w
            go_simp
          refine wpAny_take (i := 3) (v := .pointer (some ⟨wb, 2, none⟩)) rfl (by kernel_rfl) (by kernel_rfl) (by kernel_rfl) (fun _ _ _ h => h) (Or.inl ⟨by rfl, ?_⟩) ?_
          · intro w
            go_simp
          refine wpAny_take (i := 5) (v := .pointer (some ⟨g, J.length * 2, none⟩)) rfl (by kernel_rfl) (by kernel_rfl) (by kernel_rfl) (fun _ _ _ h => h) (Or.inl ⟨by rfl, ?_⟩) ?_
          · intro w
            go_simp
          refine wpAny_take (i := 6) (v := .pointer (some ⟨g, J.length * 2, none⟩)) rfl (by kernel_rfl) (by kernel_rfl) (by kernel_rfl) (fun _ _ _ h => h) (Or.inl ⟨by rfl, ?_⟩) ?_
          · intro w
            go_simp
          refine wpAny_take (i := 7) (v := .pointer (some ⟨g, J.length * 2, none⟩)) rfl (by kernel_rfl) (by kernel_rfl) (by kernel_rfl) (fun _ _ _ h => h) (Or.inl ⟨by rfl, ?_⟩) ?_
          · intro w
            go_simp
          refine wpAny_ready (rs := [4, 8]) (by kernel_rfl) (by simp) ?_
          refine AllReady.cons rfl (fun K hK => ?ordA) (AllReady.cons rfl (fun K hK => ?ordB) AllReady.nil)
          case' ordA =>
            go_simp
            refine hK _ _ ?_
            clear hK K
            refine wpAny_ready (rs := [8]) (by kernel_rfl) (by simp) ?_
            refine AllReady.cons rfl (fun K hK => ?_) AllReady.nil
            go_simp
            refine hK _ _ ?_
            clear hK K
            refine wpAny_ready (rs := [9]) (by kernel_rfl) (by simp) ?_
            refine AllReady.cons rfl (fun K hK => ?_) AllReady.nil
            go_simp
          case' ordB =>
            go_simp
            refine hK _ _ ?_
            clear hK K
            refine wpAny_ready (rs := [4, 9]) (by kernel_rfl) (by simp) ?_
            refine AllReady.cons rfl (fun K hK => ?ordC) (AllReady.cons rfl (fun K hK => ?ordD) AllReady.nil)
            case' ordC =>
              go_simp
              refine hK _ _ ?_
              clear hK K
              refine wpAny_ready (rs := [9]) (by kernel_rfl) (by simp) ?_
              refine AllReady.cons rfl (fun K hK => ?_) AllReady.nil
              go_simp
            case' ordD =>
              go_simp
              refine hK _ _ ?_
              clear hK K
              refine wpAny_ready (rs := [4]) (by kernel_rfl) (by simp) ?_
              refine AllReady.cons rfl (fun K hK => ?_) AllReady.nil
              go_simp
          all_goals
            refine hK _ _ ?_
            clear hK K
            obtain ⟨W8, hW8⟩ : ∃ W8, W8 = (w5.alloc (.cells #[.int .i64 (q : Nat)] 3)).drew := ⟨_, rfl⟩
            have HL8 : Hid (Below w5.heap.size w5 W8) := by rw [hW8]; exact ((Below.refl _ _).alloc (Nat.le_refl _) _).drew
            have HN8 : Hid (∀ j u, ([.int .i64 (q : Nat)] : List Value)[j]? = some u → W8.cell? ((⟨w5.heap.size, 0, none⟩ : Addr).add j) = some u) := by rw [hW8]; exact newCells w5 _ _
            rw [← hW8]
            clear hW8 c2a
            have HD8 : Hid (W8.ownsRow w0.heap.size 3 1 (.slice aoo OL capo) OL (natsV o1)) := by
              have h := (HV5.out.below HL8.out).order
              rw [HOE.out] at h
              exact h
            have hB8 : w0.heap.size ≤ W8.heap.size := Nat.le_trans HV5.out.bl.size HL8.out.size
            refine wpAny_ready (rs := [10]) (by kernel_rfl) (by simp) ?_
            refine AllReady.cons rfl (fun K hK => ?_) AllReady.nil
            refine step_append_lies _ rfl (.tmp 71) (.tmp 76) 48 rfl w0.heap.size 3 ti (.int .i64 0) 1 8 Tryz.underlying48 HTI.out.1 HTI.out.2.2.2 HTI.out.2.1 HTI.out.2.2.1 rfl (by decide) _ OL (natsV o1) rfl HD8.out ⟨w5.heap.size, 0, none⟩ 1 1 [.int .i64 (q : Nat)] rfl rfl HN8.out (by intro u hu; simp only [List.mem_cons, List.not_mem_nil, or_false] at hu; rcases hu with rfl; rfl) (by decide) (by unfold maxLen; omega) (by omega) hB8 _ rfl ?_
            intro g6 cap6 w6 hv6 hg6 hat6 hlt6
            have h8 := HV5.out.below HL8.out
            have hrow6 := (hg6.block wb (heap_lt h8.row) (fun e => obj_other h8.row h8.order (by decide) e.symm)).trans h8.row
            have d6 : w6.cell? ⟨wb, 2, none⟩ = some (.slice aoo OL capo) := by rw [cell_of_row _ _ _ _ _ _ hrow6]; rfl
            have f6 : w6.frozen? ⟨wb, 2, none⟩ = false := frozen_of_row _ _ _ _ _ hrow6
            have HV6 : Hid (WMem w0 wb sb gN cN gs cS N (.slice (some ⟨g6, 0, none⟩) (OL + 1) cap6) (.slice (some ⟨g, 0, none⟩) (J.length + 1) capi) (J ++ [(q, [], .slice al 0 cl)]) (s1.set q 2) (o1 ++ [q]) (w6.setCell ⟨wb, 2, none⟩ (.slice (some ⟨g6, 0, none⟩) (OL + 1) cap6))) := by
              have e := HOE.out
              subst e
              exact HV5.out.addOrder HL8.out hg6 hv6
            clear hv6 hg6 hat6 hlt6 hrow6 h8
            refine hK _ _ ?_
            clear hK K
            refine wpAny_take (i := 11) (v := .pointer (some ⟨wb, 0, none⟩)) rfl (by kernel_rfl) (by kernel_rfl) (by kernel_rfl) (fun _ _ _ h => h) (Or.inl ⟨by rfl, ?_⟩) ?_
            · intro w
              go_simp
            refine wpAny_take (i := 12) (v := .pointer (some ⟨wb, 2, none⟩)) rfl (by kernel_rfl) (by kernel_rfl) (by kernel_rfl) (fun _ _ _ h => h) (Or.inl ⟨by rfl, ?_⟩) ?_
            · intro w
              go_simp
            refine wpAny_ready (rs := [13]) (by kernel_rfl) (by simp) ?_
            refine AllReady.cons rfl (fun K hK => ?_) AllReady.nil
            go_simp
            refine hK _ _ ?_
            clear hK K
            refine wpAny_done (by kernel_rfl) ?_ _
            clear d6 f6
            generalize w6.setCell ⟨wb, 2, none⟩ (.slice (some ⟨g6, 0, none⟩) (OL + 1) cap6) = w7 at *
            have HPO : Hid (Calls Tryz.prog 121 #[.pointer (some ⟨sb, 0, none⟩)] w7 fun e w' => e = .returned (.tuple #[]) ∧ SRow w' sb (.slice (some ⟨g, 0, none⟩) J.length capi) ∧ Moves (fun k => k = sb) w7 w') := pop_any HV6.out.srow (by have := HU.out.len.1; simp only [List.length_append, List.length_cons, List.length_nil] at this; omega) hci
            go_wp2_with fail
            refine HPO.out.mono ?_
            rintro e w9 ⟨rfl, hr9, hm9⟩
            have HV9 : Hid (WMem w0 wb sb gN cN gs cS N (.slice (some ⟨g6, 0, none⟩) (OL + 1) cap6) (.slice (some ⟨g, 0, none⟩) J.length capi) J (s1.set q 2) (o1 ++ [q]) w9) := HV6.out.pop hr9 hm9
            have HU9 : Hid (VPure N (Rb, Rs, Ro) J (s1.set q 2) (o1 ++ [q]) (workM N (stkOf J) (s1.set q 2)) ∧ workM N (stkOf J) (s1.set q 2) < GK) := by
              have hu := HU.out
              have hfi := hu.fits
              have hrn := hu.run
              have hwk := hu.work
              have hfw := hu.few
              rw [stkOf_snoc] at hfi hrn hwk hfw
              have hw := work_pop N q (stkOf J) s1
              refine ⟨⟨hfi.pop.set (by rw [HNL.out]; exact hq) (by decide), (walkE_pop hfi).symm.trans hrn, Nat.le_refl _, ?_⟩, by omega⟩
              rw [List.length_append]
              simp only [List.length_cons, List.length_nil]
              omega
            clear hr9 hm9 HPO HV6
            go_wp2_with fail
            go_roundg (workM N (stkOf J) (s1.set q 2))
            case measure => rw [← HGK.out]; exact HU9.out.2
            case rel => exact ⟨_, _, _, _, _, HV9.out, HU9.out.1⟩
        | cons n l2 =>
          obtain ⟨bl1, o2, rfl, hcs⟩ : ∃ b o, al = some ⟨b, o, none⟩ ∧ ∀ k x, (n :: l2)[k]? = some x → w0.cell? ⟨b, o + k, none⟩ = some (.int .i64 (x : Nat)) := by
            rcases hcells with h | h
            · cases h
            · exact h
          have cn : wr.cell? ⟨bl1, o2, none⟩ = some (.int .i64 (n : Nat)) := by
            have := hcs 0 n rfl
            exact (hbl.cell (p := ⟨bl1, o2, none⟩) (block_lt_of_cell this)).trans this
          simp only [List.length_cons] at kc1 hcl
          obtain ⟨o3, ho3, hsl⟩ := slice_tailI bl1 o2 l2.length cl hcl
          have HI2 : Hid (IntsAt w0 (.slice (some ⟨bl1, o3, none⟩) l2.length (cl - 1)) l2) := ⟨_, _, rfl, by omega, Or.inr ⟨bl1, o3, rfl, fun k x hx => by
            have hk := ho3 k (List.getElem?_eq_some_iff.1 hx).1
            have := hcs (k + 1) x hx
            rw [show o2 + (k + 1) = o3 + k by omega] at this
            exact this⟩⟩
          have HV9 : Hid (WMem w0 wb sb gN cN gs cS N vo1 (.slice (some ⟨g, 0, none⟩) (J.length + 1) capi) (J ++ [(q, l2, .slice (some ⟨bl1, o3, none⟩) l2.length (cl - 1))]) s1 o1 (wr.setCell ⟨g, J.length * 2 + 1, none⟩ (.slice (some ⟨bl1, o3, none⟩) l2.length (cl - 1)))) := HV.out.setLeft HI2.out
          have hmem := hpu.fits.stk (q, n :: l2) (by rw [stkOf_snoc]; exact List.mem_cons_self ..)
          have hn1 : n < NL := by rw [← HNL.out]; exact hmem.2 n (List.mem_cons_self ..)
          have n0 : (0 : Int) ≤ (n : Int) := by omega
          have n1 : (n : Int) < (NL : Int) := by omega
          have hv9 := HV9.out
          have r9 : (wr.setCell ⟨g, J.length * 2 + 1, none⟩ (.slice (some ⟨bl1, o3, none⟩) l2.length (cl - 1))).cell? ⟨wb, 1, none⟩ = some (.slice (some ⟨gs, 0, none⟩) NL cS) := by rw [cell_of_row _ _ _ _ _ _ hv9.row, ← HNL.out]; rfl
          obtain ⟨-, cur9, hcur9, hcx9⟩ := seen_cell hv9.seen
          have s9 : (wr.setCell ⟨g, J.length * 2 + 1, none⟩ (.slice (some ⟨bl1, o3, none⟩) l2.length (cl - 1))).cell? ⟨gs, n, none⟩ = some (.int .i64 (s1.getD n 0 : Nat)) := by rw [cell_of_row _ _ _ _ _ _ hcur9]; exact hcx9 n (by rw [HNL.out]; exact hn1)
          have HBG : Hid (∃ av cv, IntsAt w0 (.slice av (N.getD n []).length cv) (N.getD n []) ∧ Calls Tryz.prog 118 #[.pointer (some ⟨wb, 0, none⟩), .int .i64 (n : Nat)] (wr.setCell ⟨g, J.length * 2 + 1, none⟩ (.slice (some ⟨bl1, o3, none⟩) l2.length (cl - 1))) fun e w' => e = .returned (.agg #[.int .i64 (n : Nat), .slice av (N.getD n []).length cv]) ∧ Moves (fun k => k = gs) (wr.setCell ⟨g, J.length * 2 + 1, none⟩ (.slice (some ⟨bl1, o3, none⟩) l2.length (cl - 1))) w' ∧ w'.heap[gs]? = ((wr.setCell ⟨g, J.length * 2 + 1, none⟩ (.slice (some ⟨bl1, o3, none⟩) l2.length (cl - 1))).setCell ⟨gs, n, none⟩ (.int .i64 1)).heap[gs]?) := by
            have hnN : n < N.length := by rw [HNL.out]; exact hn1
            obtain ⟨av, cv, hav, hint⟩ := hv9.need hnN
            have hne := hv9.gsne (by omega)
            exact ⟨av, cv, hint, begin_any hv9.row hnN hnN hav hcur9 (hcx9 n hnN) hne.1 hne.2.1⟩
          have HN1 : Hid (n < NL) := hn1
          clear hcells hcs hpu hlg hat k0 k1 hit hv hbl hv9 hcur9 hcx9 hmem ho3 cur9
          have hlz : (0 : Int) < (l2.length : Int) + 1 := by omega
          generalize hL2 : l2.length = L2 at *
          have HL2 : Hid (l2.length = L2) := hL2
          clear hL2
          generalize hx1 : s1.getD n 0 = x1 at *
          have HX1 : Hid (s1.getD n 0 = x1) := hx1
          have hx3 : x1 ≤ 2 := by rw [← hx1]; exact HU.out.fits.three n
          clear hx1
          by_cases e1 : x1 = 1
          · subst e1
            have HFIN : Hid (Rb = false ∧ WalkAt w0 wb gN cN gs cS N vo1 Rs Ro (wr.setCell ⟨g, J.length * 2 + 1, none⟩ (.slice (some ⟨bl1, o3, none⟩) L2 (cl - 1)))) := by
              have hr := HU.out.run
              rw [stkOf_snoc, walkE_begun HX1.out] at hr
              injection hr with e1 hr
              injection hr with e2 e3
              subst e1 e2 e3
              exact ⟨rfl, HV9.out.walk⟩
            clear HBG HV9 HU HV
            go_wp2_with fail
            obtain ⟨hRb, hWk⟩ := HFIN.out
            subst hRb
            try rw [Exit.noGoto_ret]
            go_ret
            exact ⟨rfl, vo1, hWk⟩
          have b1 : (((x1 : Nat) : Int) == 1) = false := by simp; omega
          by_cases e2 : x1 = 2
          · subst e2
            have HU9 : Hid (VPure N (Rb, Rs, Ro) (J ++ [(q, l2, .slice (some ⟨bl1, o3, none⟩) L2 (cl - 1))]) s1 o1 GK) := by
              have hu := HU.out
              have hfi := hu.fits
              have hrn := hu.run
              have hwk := hu.work
              have hfw := hu.few
              rw [stkOf_snoc] at hfi hrn hwk hfw
              have hw := work_skip N q n l2 (stkOf J) s1
              refine ⟨by rw [stkOf_snoc]; exact hfi.skip, by rw [stkOf_snoc]; exact (walkE_skip hfi HX1.out).symm.trans hrn, by rw [stkOf_snoc]; omega, by rw [stkOf_snoc]; omega⟩
            clear HBG HU HV
            go_wp2_with fail
            go_roundg L2
            case measure =>
              have h1 := HLG.out
              have h2 := HL2.out
              simp only [List.length_cons] at h1
              omega
            case rel => exact ⟨l2, _, HV9.out, HU9.out, Nat.le_of_eq HL2.out⟩
          · obtain rfl : x1 = 0 := by omega
            obtain ⟨av9, cv9, hint9, hbg9⟩ := HBG.out
            have HBG9 : Hid (Calls _ _ _ _ _) := hbg9
            have HI9 : Hid (IntsAt w0 (.slice av9 (N.getD n []).length cv9) (N.getD n [])) := hint9
            clear hint9 hbg9 HBG
            generalize hPN : (N.getD n []).length = PN at *
            clear hPN
            go_wp2_with fail
            refine HBG9.out.mono ?_
            rintro e w10 ⟨rfl, hm10, hg10⟩
            have HV10 : Hid (WMem w0 wb sb gN cN gs cS N vo1 (.slice (some ⟨g, 0, none⟩) (J.length + 1) capi) (J ++ [(q, l2, .slice (some ⟨bl1, o3, none⟩) L2 (cl - 1))]) (s1.set n 1) o1 w10) := HV9.out.mark (x := 1) hm10 hg10
            have HPU : Hid (Calls Tryz.prog 117 #[.pointer (some ⟨sb, 0, none⟩), .agg #[.int .i64 (n : Nat), .slice av9 PN cv9]] w10 fun e w' => e = .returned (.tuple #[]) ∧ ∃ vi', SRow w' sb vi' ∧ w'.ownsRow w0.heap.size 212 2 vi' ((J ++ [(q, l2, Value.slice (some ⟨bl1, o3, none⟩) L2 (cl - 1))]).length + 1) (ocells ((J ++ [(q, l2, .slice (some ⟨bl1, o3, none⟩) L2 (cl - 1))]) ++ [(n, N.getD n [], .slice av9 PN cv9)])) ∧ Moves (fun k => k = sb ∨ (Value.slice (some ⟨g, 0, none⟩) (J.length + 1) capi).ownBlock = some k) w10 w') := push_any n (N.getD n []) _ HV10.out.srow HV10.out.items HV10.out.bl.size (by have := HU.out.len.1; simp only [List.length_append, List.length_cons, List.length_nil] at this ⊢; omega) (HI9.out.keep (fun k hk => HV10.out.bl.block k hk))
            have HU10 : Hid (VPure N (Rb, Rs, Ro) ((J ++ [(q, l2, .slice (some ⟨bl1, o3, none⟩) L2 (cl - 1))]) ++ [(n, N.getD n [], .slice av9 PN cv9)]) (s1.set n 1) o1 (workM N ((n, N.getD n []) :: (q, l2) :: stkOf J) (s1.set n 1)) ∧ workM N ((n, N.getD n []) :: (q, l2) :: stkOf J) (s1.set n 1) < GK) := by
              have hu := HU.out
              have hfi := hu.fits
              have hrn := hu.run
              have hwk := hu.work
              have hfw := hu.few
              rw [stkOf_snoc] at hfi hrn hwk hfw
              have hnN : n < N.length := by rw [HNL.out]; exact HN1.out
              have hw := work_push N q n l2 (stkOf J) s1 (by rw [hfi.len]; exact hnN) HX1.out
              have hst : ∀ v v', stkOf ((J ++ [(q, l2, v)]) ++ [(n, N.getD n [], v')]) = (n, N.getD n []) :: (q, l2) :: stkOf J := fun v v' => by rw [stkOf_snoc, stkOf_snoc]
              refine ⟨⟨by rw [hst]; exact (hfi.skip.push hnN).set hnN (by decide), by rw [hst]; exact (walkE_push hfi HX1.out).symm.trans hrn, by rw [hst]; exact Nat.le_refl _, by rw [hst]; omega⟩, by omega⟩
            clear hm10 hg10 HBG9 HV9 HV HU
            go_wp2_with fail
            refine HPU.out.mono ?_
            rintro e w11 ⟨rfl, vi11, hr11, ho11, hm11⟩
            have HV11 : Hid (WMem w0 wb sb gN cN gs cS N vo1 vi11 ((J ++ [(q, l2, .slice (some ⟨bl1, o3, none⟩) L2 (cl - 1))]) ++ [(n, N.getD n [], .slice av9 PN cv9)]) (s1.set n 1) o1 w11) := HV10.out.push HI9.out hr11 ho11 hm11
            clear hr11 ho11 hm11 HPU HV10
            go_wp2_with fail
            go_roundg (workM N ((n, N.getD n []) :: (q, l2) :: stkOf J) (s1.set n 1))
            case measure => rw [← HGK.out]; exact HU10.out.2
            case rel => exact ⟨_, _, _, _, _, HV11.out, HU10.out.1⟩
end Go.Proofs.YthhbpebihgjpjaaGreatDoor
