import Derived.Test.YthhbpebihgjpjaaGreatDoorK45
namespace Go.Proofs.YthhbpebihgjpjaaGreatDoor
open Go.RowKit Go.Maps
set_option maxRecDepth 1000000

set_option maxHeartbeats 16000000 in
theorem ksorts_any (a : Nat → Addr) (tt : Nat → ByteArray) (ao : Option Addr) (n cap : Nat) (w : World) (hs : KScriptAt w ao n) (hSe : Sents a tt w) (hgl : Gl a w) :
    Calls Tryz.prog 12 #[.slice ao n cap] w fun e w' => e = .returned (.bool true) ∧ Below w.heap.size w w' := by
  have HS : Hid (KScriptAt w ao n) := hs
  have HG : Hid (Gl a w ∧ Sents a tt w) := ⟨hgl, hSe⟩
  have hn0 := hs.1
  have HSM : Hid (Calls Tryz.prog 16 #[.slice ao n cap] w fun e w' => ∃ r : Bool, e = .returned (.bool r) ∧ (r = true → n ≤ 32768) ∧ Below w.heap.size w w') := ksmall_any ao n cap w hs
  clear hs hSe hgl
  go_enter Tryz.func12, Tryz.ntmps12
  go_wp2_with fail
  refine HSM.out.mono ?_
  rintro e w1 ⟨r, rfl, hr, hb1⟩
  have HB1 : Hid (Below w.heap.size w w1) := hb1
  clear hb1 HSM
  cases r
  · clear hr
    go_wp2
    go_ret
    exact ⟨rfl, HB1.out⟩
  have hn : n ≤ 32768 := hr rfl
  clear hr hn0
  have n0 : (n : Int) ≤ 32768 := by omega
  obtain ⟨W2, hW2⟩ : ∃ W2, W2 = w1.alloc (.cells #[.pointer none, .string ⟨#[]⟩, .slice none 0 0, .slice none 0 0, .slice none 0 0, .bool false] 34) := ⟨_, rfl⟩
  have HK2 : Hid (KSt w w1.heap.size ⟨#[]⟩ (.slice none 0 0) [] W2) := by
    rw [hW2]
    exact ⟨heapA_new _ _ _ rfl, World.ownsRow_nil _ _ _ _, HB1.out.size, HB1.out.alloc HB1.out.size _, by decide, fun y hy => by cases hy⟩
  go_wp2_with fail
  rw [← hW2]
  clear hW2
  generalize w1.heap.size = wb at *
  clear HB1
  go_loopw [5] (fun i wr => ∃ j : Nat, j ≤ n ∧ i = .int .i64 j ∧ ∃ x vt ts, KSt w wb x vt ts wr ∧ ts.length ≤ j) (fun i _ => n - (intOf i).toNat)
  case atStart => exact ⟨0, Nat.zero_le _, rfl, _, _, _, HK2.out, Nat.le_refl _⟩
  case round =>
    clear HK2
    obtain ⟨j, hj, rfl, x, vt, ts, hk, htl⟩ := hrel
    have HK : Hid (KSt w wb x vt ts wr) := hk
    have HTL : Hid (ts.length ≤ j) := htl
    clear hk htl
    have j0 : (0 : Int) ≤ (j : Int) := by omega
    by_cases hlt : j < n
    · have j1 : (j : Int) < (n : Int) := by omega
      obtain ⟨b, o, rfl, hop⟩ : ∃ b o, ao = some ⟨b, o, none⟩ ∧ ∃ y, KOpAt w y b (o + j * 5) := by
        obtain ⟨_, h | ⟨b, o, e, h⟩⟩ := HS.out
        · omega
        · exact ⟨b, o, e, h j hlt⟩
      obtain ⟨y, hy0⟩ := hop
      have hy : KOpAt wr y b (o + j * 5) := hy0.later HK.out.bl.size HK.out.bl.block
      have c0 := hy.c0
      have c1 := hy.c1
      have c2 := hy.c2
      have c3 := hy.c3
      have c4 := hy.c4
      have hsS := hy.sS
      clear hy hy0
      obtain ⟨kd, ya, yb, ys, yt⟩ := y
      simp only at c0 c1 c2 c3 c4 hsS
      by_cases hk1 : kd = 1
      · subst hk1
        have HSTEP := kstep_text HK.out ya yb ys yt hsS
        go_wp2_with fail
        refine HSTEP.mono ?_
        rintro e w4 ⟨rfl, hk4⟩
        have HK4 : Hid (KSt w wb ys vt ts w4) := hk4
        clear HSTEP hk4 c0 c1 c2 c3 c4
        go_wp2
        exact ⟨⟨j + 1, by omega, by go_num, _, _, _, HK4.out, by have := HTL.out; omega⟩, by simp [intOf]; omega⟩
      · by_cases hk2 : kd = 2
        · subst hk2
          have HSTEP := kstep_target HK.out (by have := HTL.out; omega) ya yb ys yt hsS
          go_wp2_with fail
          refine HSTEP.mono ?_
          rintro e w4 ⟨rfl, vt4, hk4⟩
          have HK4 : Hid (KSt w wb x vt4 (ts ++ [ys]) w4) := hk4
          clear HSTEP hk4 c0 c1 c2 c3 c4 hk1
          go_wp2
          exact ⟨⟨j + 1, by omega, by go_num, _, _, _, HK4.out, by have := HTL.out; rw [List.length_append]; simp only [List.length_cons, List.length_nil]; omega⟩, by simp [intOf]; omega⟩
        · go_wp2
          exact ⟨⟨j + 1, by omega, by go_num, _, _, _, HK.out, by have := HTL.out; omega⟩, by simp [intOf]; omega⟩
    obtain rfl : j = n := by omega
    have HSO := sorts_any a tt wr (HG.out.1.below HK.out.bl HG.out.1.size) (HG.out.2.below HK.out.bl)
    clear HS
    go_wp2_with fail
    refine HSO.mono ?_
    rintro e w5 ⟨rfl, hb5⟩
    have HK5 : Hid (KSt w wb x vt ts w5) := HK.out.below hb5
    clear HSO hb5 HK
    have d1 : w5.cell? ⟨wb, 1, none⟩ = some (.string x) := by rw [cell_of_row _ _ _ _ _ _ HK5.out.row]; rfl
    have HPA : Hid (Calls Tryz.prog 24 #[.string x] w5 fun e w' => plainEnd w5.heap.size (parseS x) e w' ∧ Below w5.heap.size w5 w') := plainParse_any x a tt w5 (HG.out.1.below HK5.out.bl HG.out.1.size) (HG.out.2.below HK5.out.bl) HK5.out.text
    go_wp2_with fail
    refine HPA.out.mono ?_
    rintro e w6 ⟨hend, hb6⟩
    have HK6 : Hid (KSt w wb x vt ts w6) := HK5.out.below hb6
    clear HPA hb6 d1 HK5
    cases hr : parseS x with
    | error bk =>
      rw [hr] at hend
      have he : e = .returned (.tuple #[.pointer none, .int .i64 ((badK bk.1 : Nat) + 1), .int .i64 (bk.2 : Nat)]) := hend
      subst he
      clear hend hr
      have hz : ¬ (((badK bk.1 : Nat) : Int) + 1 = 0) := by omega
      generalize ((badK bk.1 : Nat) : Int) + 1 = z at *
      generalize ((bk.2 : Nat) : Int) = ln at *
      go_wp2
      go_ret
      exact ⟨rfl, HK6.out.bl⟩
    | ok Sc =>
      rw [hr] at hend
      obtain ⟨S, cs⟩ := Sc
      obtain ⟨mb, rfl, hk, hso⟩ := hend
      have HMK : Hid (ManK w5.heap.size S cs mb w6 ∧ SOk S 0 []) := ⟨hk, hso⟩
      have HPS : Hid (parseS x = .ok (S, cs)) := hr
      clear hk hso hr
      obtain ⟨aot, capt, hvt, _, _⟩ := row_form HK6.out.own
      subst hvt
      have d2 : w6.cell? ⟨wb, 2, none⟩ = some (.slice aot ts.length capt) := by rw [cell_of_row _ _ _ _ _ _ HK6.out.row]; rfl
      have HOR : Hid (Calls Tryz.prog 25 #[.pointer (some ⟨mb, 0, none⟩), .slice aot ts.length capt] w6 fun e w' => porderEnd w6.heap.size (orderS S ts) e w' ∧ Below w6.heap.size w6 w') := plainOrder_any (a := a) (tt := tt) HMK.out.1.now (HG.out.1.below HK6.out.bl HG.out.1.size) (HG.out.2.below HK6.out.bl) (good_of_parse HPS.out HMK.out.2) (texts_own HK6.out.own) (by have := HTL.out; omega) (fun y hy => by have := HK6.out.each y hy; unfold maxLen; omega)
      generalize hTN : ts.length = TL at *
      have HTN : Hid (ts.length = TL) := hTN
      clear hTN
      have tl0 : (TL : Int) ≤ 32768 := by have := HTL.out; omega
      go_wp2_with fail
      refine HOR.out.mono ?_
      rintro e w7 ⟨hend, hb7⟩
      have HK7 : Hid (KSt w wb x (.slice aot TL capt) ts w7) := HK6.out.below hb7
      have HM7 : Hid (ManAt w5.heap.size S cs mb w7) := (HMK.out.1.below hb7).now
      clear HOR hb7 d2
      cases hq : orderS S ts with
      | error bo =>
        rw [hq] at hend
        cases bo with
        | false =>
          obtain rfl : e = .returned (.tuple #[.slice none 0 0, .int .i64 8]) := hend
          clear hq
          go_wp2
          go_ret
          exact ⟨rfl, HK7.out.bl⟩
        | true =>
          obtain rfl : e = .returned (.tuple #[.slice none 0 0, .int .i64 9]) := hend
          clear hq
          go_wp2
          go_ret
          exact ⟨rfl, HK7.out.bl⟩
      | ok ord =>
        rw [hq] at hend
        obtain ⟨v, rfl, hv⟩ := hend
        have hfew : ∀ e ∈ S.edges, e.outs.length ≤ 10000 ∧ e.ins.length ≤ 10000 ∧ e.impl.length ≤ 10000 ∧ e.ord.length ≤ 10000 := fun e he => by
          have h1 := HMK.out.2.edge e he
          exact ⟨by have := h1.2.2.1; omega, by have := h1.2.2.2.1; omega, by have := h1.2.2.2.2.2.2.1; omega, by have := h1.2.2.2.2.2.2.2; omega⟩
        have hmc : cs.length = S.edges.length := by obtain ⟨_, _, _, _, _, h⟩ := HM7.out.edges; exact h
        have HKM : Hid (KMan S cs ts ord) := ⟨order_ok hq, kept_of_parse HPS.out, hfew, HMK.out.2.edges, hmc⟩
        have HIN : Hid (IntsAt w7 v ord) := ints_of_row hv
        clear hq hv hmc
        obtain ⟨aoo, capo, hvo, _⟩ := ints_ge HIN.out
        subst hvo
        have HED := pedges_any HM7.out HMK.out.2.edges hfew
        clear hfew HM7 HMK HPS
        generalize hOL : ord.length = OL at *
        have HOL : Hid (ord.length = OL) := hOL
        clear hOL
        have ol0 : (OL : Int) ≤ 64 := by have := HKM.out.olen; have := HOL.out; omega
        go_wp2_with fail
        refine HED.mono ?_
        rintro e w8 ⟨vl, c, ds, rfl, hea, hb8⟩
        obtain ⟨aol, capl, hvl, _, _⟩ := row_form hea.row
        subst hvl
        have HER : Hid (EdgeRowAt w8 (.slice aol S.edges.length capl) S.edges cs) := hea.stays w8 (Nat.le_refl _) (fun _ _ _ => rfl)
        have HK8 : Hid (KSt w wb x (.slice aot TL capt) ts w8) := HK7.out.below hb8
        have HI8 : Hid (IntsAt w8 (.slice aoo OL capo) ord) := HIN.out.keep (fun k hk => hb8.block k hk)
        clear HED hea hb8 HIN HK7 HK6
        generalize hEL : S.edges.length = EL at *
        have HEL : Hid (S.edges.length = EL) := hEL
        clear hEL
        have el0 : (EL : Int) ≤ 64 := by have := HKM.out.edges; have := HEL.out; omega
        have d2 : w8.cell? ⟨wb, 2, none⟩ = some (.slice aot TL capt) := by rw [cell_of_row _ _ _ _ _ _ HK8.out.row]; rfl
        have d29 : (w8.alloc (.cells #[] 9)).cell? ⟨wb, 2, none⟩ = some (.slice aot TL capt) := (World.cell?_of_block (w := w8) (a := ⟨wb, 2, none⟩) (heapA_old _ _ wb (heap_lt HK8.out.row))).trans d2
        have HO9 : Hid ((w8.alloc (.cells #[] 9)).ownsRow w8.heap.size 9 1 (.slice (some ⟨w8.heap.size, 0, none⟩) 0 0) 0 []) := fresh_texts w8 _ (Nat.le_refl _)
        have HB9 : Hid (Below w8.heap.size w8 (w8.alloc (.cells #[] 9))) := (Below.refl _ _).alloc (Nat.le_refl _) _
        have HT9 : Hid (TextsAt (w8.alloc (.cells #[] 9)) (.slice aot TL capt) ts) := (texts_own HK8.out.own).keepB HB9.out
        go_wp2_with (at_builtin; refine wpList_append_texts rfl (.tmp 82) (.tmp 86) rfl w8.heap.size _ 0 [] rfl (by exact HO9.out) _ ts rfl (by exact HT9.out) (by rw [HTN.out]; omega) (by exact HB9.out.size) ?_; intro ao5 cap5 w10 h5 hg5 hat5; refine Hid.out ?_)
        have HL0 : Hid (KLoop w8 (.slice none 0 0) (.slice ao5 (0 + ts.length) cap5) [] ts w10) := by
          refine ⟨World.ownsRow_nil _ _ _ _, ?_, fun k hk => (by cases hk), HB9.out.grown hg5 HB9.out.size (fun k hk => by have e : w8.heap.size = k := Option.some.inj hk; omega)⟩
          have h6 := h5
          rw [List.nil_append] at h6
          rw [show ts.length = 0 + ts.length by rw [Nat.zero_add]]
          simpa only [Nat.zero_add] using h6
        clear h5 hg5 hat5 HO9 HB9 HT9 d29 d2
        rw [Nat.zero_add] at HL0
        unfold Hid
        go_wp2_with fail
        go_loopw [12, 13, 14] (fun vo vn i wr => ∃ j : Nat, i = .int .i64 j ∧ j ≤ OL ∧ KLoop w8 vo vn (outsOf S.edges (ord.take j)) (ts ++ hangsOf S.edges (ord.take j)) wr) (fun _ _ i _ => OL - (intOf i).toNat)
        case atStart => exact ⟨0, rfl, Nat.zero_le _, by have h := HL0.out; show KLoop w8 _ _ [] (ts ++ []) w10; rw [List.append_nil]; exact h⟩
        case round =>
          clear HL0
          obtain ⟨j, rfl, hj, hlo⟩ := hrel
          obtain ⟨ao1, cap1, hvo, _, _⟩ := row_form hlo.outs
          obtain ⟨ao2, cap2, hvn, _, _⟩ := row_form hlo.needs
          subst hvo hvn
          have HLO : Hid (KLoop w8 (.slice ao1 (outsOf S.edges (ord.take j)).length cap1) (.slice ao2 (ts ++ hangsOf S.edges (ord.take j)).length cap2) (outsOf S.edges (ord.take j)) (ts ++ hangsOf S.edges (ord.take j)) wr) := hlo
          have HBO : Hid ((outsOf S.edges (ord.take j)).length ≤ 640000 ∧ (ts ++ hangsOf S.edges (ord.take j)).length ≤ 2000000) := ⟨HKM.out.outs j, by have := HKM.out.hangs j; rw [List.length_append, HTN.out]; omega⟩
          clear hlo
          generalize hN1 : (outsOf S.edges (ord.take j)).length = N1 at *
          have HN1 : Hid ((outsOf S.edges (ord.take j)).length = N1) := hN1
          clear hN1
          generalize hN2 : (ts ++ hangsOf S.edges (ord.take j)).length = N2 at *
          have HN2 : Hid ((ts ++ hangsOf S.edges (ord.take j)).length = N2) := hN2
          clear hN2
          have j0 : (0 : Int) ≤ (j : Int) := by omega
          by_cases hlt : j < OL
          · have j1 : (j : Int) < (OL : Int) := by omega
            obtain ⟨p, hp⟩ : ∃ p, ord[j]? = some p := ⟨ord[j]'(by have := HOL.out; omega), by simp⟩
            obtain ⟨_, _, hoe, hgo⟩ := ints_ge HI8.out
            injection hoe with f1 f2 f3
            subst f1 f3
            clear f2
            obtain ⟨bo, qo, rfl, hcp⟩ := hgo (by rw [HOL.out]; omega)
            have cp : wr.cell? ⟨bo, qo + j, none⟩ = some (.int .i64 (p : Nat)) := (HLO.out.bl.cell (p := ⟨bo, qo + j, none⟩) (block_lt_of_cell (hcp j p hp))).trans (hcp j p hp)
            have hpe : p < EL := by rw [← HEL.out]; exact HKM.out.ok.lt p (List.mem_of_getElem? hp)
            obtain ⟨e0, he0⟩ : ∃ e, S.edges[p]? = some e := ⟨S.edges[p]'(by rw [HEL.out]; exact hpe), by simp⟩
            have HPE : Hid (ord[j]? = some p ∧ S.edges[p]? = some e0) := ⟨hp, he0⟩
            have p0 : (0 : Int) ≤ (p : Int) := by omega
            have p1 : (p : Int) < (EL : Int) := by omega
            obtain ⟨g, o1, aot', nO, cO, aoi, nI, cI, aom, nM, cM, aor, nR, cR, cm, rfl, ⟨c0, c1, c2, c3, _, _⟩, to', ti', tm', tr', _⟩ := edge_cells HER.out HEL.out HKM.out.cmds he0 HLO.out.bl
            have HTX : Hid (TextsAt wr (.slice aot' nO cO) e0.outs ∧ TextsAt wr (.slice aoi nI cI) e0.ins ∧ TextsAt wr (.slice aom nM cM) e0.impl ∧ TextsAt wr (.slice aor nR cR) e0.ord) := ⟨to', ti', tm', tr'⟩
            have HFE : Hid (e0.outs.length ≤ 10000 ∧ e0.ins.length ≤ 10000 ∧ e0.impl.length ≤ 10000 ∧ e0.ord.length ≤ 10000) := HKM.out.few e0 (List.mem_of_getElem? he0)
            obtain ⟨x0, hx0⟩ : ∃ x, e0.outs[0]? = some x := by
              have h1 := (HKM.out.kept.edge e0 (List.mem_of_getElem? he0)).1
              cases h2 : e0.outs with
              | nil => exact absurd h2 h1
              | cons y l => exact ⟨y, rfl⟩
            obtain ⟨_, _, hoe, hgt⟩ := texts_ge to'
            injection hoe with f1 f2 f3
            subst f1 f3
            have hno : 0 < nO := by rw [f2]; exact (List.getElem?_eq_some_iff.1 hx0).1
            obtain ⟨bt, ot, rfl, hct⟩ := hgt (by rw [← f2]; exact hno)
            have ct0 : wr.cell? ⟨bt, ot, none⟩ = some (.string x0) := hct 0 x0 hx0
            have nO0 : (0 : Int) < (nO : Int) := by omega
            have nO1 : ¬ ((nO : Int) = 0) := by omega
            have nO2 : (((nO : Nat) : Int) == 0) = false := by rw [beq_eq_false_iff_ne]; exact nO1
            have HH : Hid (Calls Tryz.prog 28 #[.slice ao1 N1 cap1, .string x0] wr fun e w' => e = .returned (.bool false) ∧ w' = wr) := by
              have h := khas_any (texts_own (by rw [HN1.out]; exact (by have h := HLO.out.outs; rw [HN1.out] at h; exact h))) x0 (by have := HBO.out.1; have := HN1.out; omega)
              rw [not_old HKM.out.ok HKM.out.kept hp he0 (List.mem_of_getElem? hx0)] at h
              exact h
            clear to' ti' tm' tr' hgt hct hcp hgo hp he0 hx0 f2 hno
            go_wp2_with fail
            refine HH.out.mono ?_
            rintro e w9 ⟨rfl, hw⟩
            rw [hw]
            clear hw HH
            go_wp2_with fail
            refine wp_region_held (S := fun w' => Below wr.heap.size wr w') (by kernel_rfl) ?_
            change wpAnyH _ _ _ _ _ _ _ _ (World.drew _)
            obtain ⟨wd, hwd⟩ : ∃ wd, wd = wr.drew := ⟨_, rfl⟩
            rw [← hwd]
            have HBc : Hid (Below wr.heap.size wr wd) := by rw [hwd]; exact (Below.refl _ _).drew
            clear hwd
            refine wpAnyH_take (i := 1) (v := .slice (some ⟨g, o1, none⟩) EL capl) rfl (by kernel_rfl) (by kernel_rfl) (by kernel_rfl) (fun _ _ _ h => h) (Or.inl ⟨by kernel_rfl, ?_⟩) HBc.out ?_
            · intro w' hS
              have q1 : w'.cell? ⟨g, o1 + p * 6 + 1, none⟩ = some (.slice aoi nI cI) := (hS.cell (p := ⟨g, o1 + p * 6 + 1, none⟩) (block_lt_of_cell c1)).trans c1
              have q2 : w'.cell? ⟨g, o1 + p * 6 + 2, none⟩ = some (.slice aom nM cM) := (hS.cell (p := ⟨g, o1 + p * 6 + 2, none⟩) (block_lt_of_cell c2)).trans c2
              have q3 : w'.cell? ⟨g, o1 + p * 6 + 3, none⟩ = some (.slice aor nR cR) := (hS.cell (p := ⟨g, o1 + p * 6 + 3, none⟩) (block_lt_of_cell c3)).trans c3
              clear hS
              go_simp
            refine wpAnyH_take (i := 2) (v := .int .i64 (p : Nat)) rfl (by kernel_rfl) (by kernel_rfl) (by kernel_rfl) (fun _ _ _ h => h) (Or.inl ⟨by kernel_rfl, ?_⟩) HBc.out ?_
            · intro w' hS
              have q1 : w'.cell? ⟨g, o1 + p * 6 + 1, none⟩ = some (.slice aoi nI cI) := (hS.cell (p := ⟨g, o1 + p * 6 + 1, none⟩) (block_lt_of_cell c1)).trans c1
              have q2 : w'.cell? ⟨g, o1 + p * 6 + 2, none⟩ = some (.slice aom nM cM) := (hS.cell (p := ⟨g, o1 + p * 6 + 2, none⟩) (block_lt_of_cell c2)).trans c2
              have q3 : w'.cell? ⟨g, o1 + p * 6 + 3, none⟩ = some (.slice aor nR cR) := (hS.cell (p := ⟨g, o1 + p * 6 + 3, none⟩) (block_lt_of_cell c3)).trans c3
              clear hS
              go_simp
            refine wpAnyH_take (i := 3) (v := .pointer (some ⟨g, o1 + p * 6, none⟩)) rfl (by kernel_rfl) (by kernel_rfl) (by kernel_rfl) (fun _ _ _ h => h) (Or.inl ⟨by kernel_rfl, ?_⟩) HBc.out ?_
            · intro w' hS
              have q1 : w'.cell? ⟨g, o1 + p * 6 + 1, none⟩ = some (.slice aoi nI cI) := (hS.cell (p := ⟨g, o1 + p * 6 + 1, none⟩) (block_lt_of_cell c1)).trans c1
              have q2 : w'.cell? ⟨g, o1 + p * 6 + 2, none⟩ = some (.slice aom nM cM) := (hS.cell (p := ⟨g, o1 + p * 6 + 2, none⟩) (block_lt_of_cell c2)).trans c2
              have q3 : w'.cell? ⟨g, o1 + p * 6 + 3, none⟩ = some (.slice aor nR cR) := (hS.cell (p := ⟨g, o1 + p * 6 + 3, none⟩) (block_lt_of_cell c3)).trans c3
              clear hS
              go_simp
            refine wpAnyH_take (i := 4) (v := .pointer (some ⟨g, o1 + p * 6 + 1, none⟩)) rfl (by kernel_rfl) (by kernel_rfl) (by kernel_rfl) (fun _ _ _ h => h) (Or.inl ⟨by kernel_rfl, ?_⟩) HBc.out ?_
            · intro w' hS
              have q1 : w'.cell? ⟨g, o1 + p * 6 + 1, none⟩ = some (.slice aoi nI cI) := (hS.cell (p := ⟨g, o1 + p * 6 + 1, none⟩) (block_lt_of_cell c1)).trans c1
              have q2 : w'.cell? ⟨g, o1 + p * 6 + 2, none⟩ = some (.slice aom nM cM) := (hS.cell (p := ⟨g, o1 + p * 6 + 2, none⟩) (block_lt_of_cell c2)).trans c2
              have q3 : w'.cell? ⟨g, o1 + p * 6 + 3, none⟩ = some (.slice aor nR cR) := (hS.cell (p := ⟨g, o1 + p * 6 + 3, none⟩) (block_lt_of_cell c3)).trans c3
              clear hS
              go_simp
            refine wpAnyH_take (i := 5) (v := .slice aoi nI cI) rfl (by kernel_rfl) (by kernel_rfl) (by kernel_rfl) (fun _ _ _ h => h) (Or.inl ⟨by kernel_rfl, ?_⟩) HBc.out ?_
            · intro w' hS
              have q1 : w'.cell? ⟨g, o1 + p * 6 + 1, none⟩ = some (.slice aoi nI cI) := (hS.cell (p := ⟨g, o1 + p * 6 + 1, none⟩) (block_lt_of_cell c1)).trans c1
              have q2 : w'.cell? ⟨g, o1 + p * 6 + 2, none⟩ = some (.slice aom nM cM) := (hS.cell (p := ⟨g, o1 + p * 6 + 2, none⟩) (block_lt_of_cell c2)).trans c2
              have q3 : w'.cell? ⟨g, o1 + p * 6 + 3, none⟩ = some (.slice aor nR cR) := (hS.cell (p := ⟨g, o1 + p * 6 + 3, none⟩) (block_lt_of_cell c3)).trans c3
              clear hS
              go_simp
            refine wpAnyH_take (i := 7) (v := .slice (some ⟨g, o1, none⟩) EL capl) rfl (by kernel_rfl) (by kernel_rfl) (by kernel_rfl) (fun _ _ _ h => h) (Or.inl ⟨by kernel_rfl, ?_⟩) HBc.out ?_
            · intro w' hS
              have q1 : w'.cell? ⟨g, o1 + p * 6 + 1, none⟩ = some (.slice aoi nI cI) := (hS.cell (p := ⟨g, o1 + p * 6 + 1, none⟩) (block_lt_of_cell c1)).trans c1
              have q2 : w'.cell? ⟨g, o1 + p * 6 + 2, none⟩ = some (.slice aom nM cM) := (hS.cell (p := ⟨g, o1 + p * 6 + 2, none⟩) (block_lt_of_cell c2)).trans c2
              have q3 : w'.cell? ⟨g, o1 + p * 6 + 3, none⟩ = some (.slice aor nR cR) := (hS.cell (p := ⟨g, o1 + p * 6 + 3, none⟩) (block_lt_of_cell c3)).trans c3
              clear hS
              go_simp
            refine wpAnyH_take (i := 8) (v := .int .i64 (p : Nat)) rfl (by kernel_rfl) (by kernel_rfl) (by kernel_rfl) (fun _ _ _ h => h) (Or.inl ⟨by kernel_rfl, ?_⟩) HBc.out ?_
            · intro w' hS
              have q1 : w'.cell? ⟨g, o1 + p * 6 + 1, none⟩ = some (.slice aoi nI cI) := (hS.cell (p := ⟨g, o1 + p * 6 + 1, none⟩) (block_lt_of_cell c1)).trans c1
              have q2 : w'.cell? ⟨g, o1 + p * 6 + 2, none⟩ = some (.slice aom nM cM) := (hS.cell (p := ⟨g, o1 + p * 6 + 2, none⟩) (block_lt_of_cell c2)).trans c2
              have q3 : w'.cell? ⟨g, o1 + p * 6 + 3, none⟩ = some (.slice aor nR cR) := (hS.cell (p := ⟨g, o1 + p * 6 + 3, none⟩) (block_lt_of_cell c3)).trans c3
              clear hS
              go_simp
            refine wpAnyH_take (i := 9) (v := .pointer (some ⟨g, o1 + p * 6, none⟩)) rfl (by kernel_rfl) (by kernel_rfl) (by kernel_rfl) (fun _ _ _ h => h) (Or.inl ⟨by kernel_rfl, ?_⟩) HBc.out ?_
            · intro w' hS
              have q1 : w'.cell? ⟨g, o1 + p * 6 + 1, none⟩ = some (.slice aoi nI cI) := (hS.cell (p := ⟨g, o1 + p * 6 + 1, none⟩) (block_lt_of_cell c1)).trans c1
              have q2 : w'.cell? ⟨g, o1 + p * 6 + 2, none⟩ = some (.slice aom nM cM) := (hS.cell (p := ⟨g, o1 + p * 6 + 2, none⟩) (block_lt_of_cell c2)).trans c2
              have q3 : w'.cell? ⟨g, o1 + p * 6 + 3, none⟩ = some (.slice aor nR cR) := (hS.cell (p := ⟨g, o1 + p * 6 + 3, none⟩) (block_lt_of_cell c3)).trans c3
              clear hS
              go_simp
            refine wpAnyH_take (i := 10) (v := .pointer (some ⟨g, o1 + p * 6 + 2, none⟩)) rfl (by kernel_rfl) (by kernel_rfl) (by kernel_rfl) (fun _ _ _ h => h) (Or.inl ⟨by kernel_rfl, ?_⟩) HBc.out ?_
            · intro w' hS
              have q1 : w'.cell? ⟨g, o1 + p * 6 + 1, none⟩ = some (.slice aoi nI cI) := (hS.cell (p := ⟨g, o1 + p * 6 + 1, none⟩) (block_lt_of_cell c1)).trans c1
              have q2 : w'.cell? ⟨g, o1 + p * 6 + 2, none⟩ = some (.slice aom nM cM) := (hS.cell (p := ⟨g, o1 + p * 6 + 2, none⟩) (block_lt_of_cell c2)).trans c2
              have q3 : w'.cell? ⟨g, o1 + p * 6 + 3, none⟩ = some (.slice aor nR cR) := (hS.cell (p := ⟨g, o1 + p * 6 + 3, none⟩) (block_lt_of_cell c3)).trans c3
              clear hS
              go_simp
            refine wpAnyH_take (i := 11) (v := .slice aom nM cM) rfl (by kernel_rfl) (by kernel_rfl) (by kernel_rfl) (fun _ _ _ h => h) (Or.inl ⟨by kernel_rfl, ?_⟩) HBc.out ?_
            · intro w' hS
              have q1 : w'.cell? ⟨g, o1 + p * 6 + 1, none⟩ = some (.slice aoi nI cI) := (hS.cell (p := ⟨g, o1 + p * 6 + 1, none⟩) (block_lt_of_cell c1)).trans c1
              have q2 : w'.cell? ⟨g, o1 + p * 6 + 2, none⟩ = some (.slice aom nM cM) := (hS.cell (p := ⟨g, o1 + p * 6 + 2, none⟩) (block_lt_of_cell c2)).trans c2
              have q3 : w'.cell? ⟨g, o1 + p * 6 + 3, none⟩ = some (.slice aor nR cR) := (hS.cell (p := ⟨g, o1 + p * 6 + 3, none⟩) (block_lt_of_cell c3)).trans c3
              clear hS
              go_simp
            refine wpAnyH_take (i := 13) (v := .slice (some ⟨g, o1, none⟩) EL capl) rfl (by kernel_rfl) (by kernel_rfl) (by kernel_rfl) (fun _ _ _ h => h) (Or.inl ⟨by kernel_rfl, ?_⟩) HBc.out ?_
            · intro w' hS
              have q1 : w'.cell? ⟨g, o1 + p * 6 + 1, none⟩ = some (.slice aoi nI cI) := (hS.cell (p := ⟨g, o1 + p * 6 + 1, none⟩) (block_lt_of_cell c1)).trans c1
              have q2 : w'.cell? ⟨g, o1 + p * 6 + 2, none⟩ = some (.slice aom nM cM) := (hS.cell (p := ⟨g, o1 + p * 6 + 2, none⟩) (block_lt_of_cell c2)).trans c2
              have q3 : w'.cell? ⟨g, o1 + p * 6 + 3, none⟩ = some (.slice aor nR cR) := (hS.cell (p := ⟨g, o1 + p * 6 + 3, none⟩) (block_lt_of_cell c3)).trans c3
              clear hS
              go_simp
            refine wpAnyH_take (i := 14) (v := .int .i64 (p : Nat)) rfl (by kernel_rfl) (by kernel_rfl) (by kernel_rfl) (fun _ _ _ h => h) (Or.inl ⟨by kernel_rfl, ?_⟩) HBc.out ?_
            · intro w' hS
              have q1 : w'.cell? ⟨g, o1 + p * 6 + 1, none⟩ = some (.slice aoi nI cI) := (hS.cell (p := ⟨g, o1 + p * 6 + 1, none⟩) (block_lt_of_cell c1)).trans c1
              have q2 : w'.cell? ⟨g, o1 + p * 6 + 2, none⟩ = some (.slice aom nM cM) := (hS.cell (p := ⟨g, o1 + p * 6 + 2, none⟩) (block_lt_of_cell c2)).trans c2
              have q3 : w'.cell? ⟨g, o1 + p * 6 + 3, none⟩ = some (.slice aor nR cR) := (hS.cell (p := ⟨g, o1 + p * 6 + 3, none⟩) (block_lt_of_cell c3)).trans c3
              clear hS
              go_simp
            refine wpAnyH_take (i := 15) (v := .pointer (some ⟨g, o1 + p * 6, none⟩)) rfl (by kernel_rfl) (by kernel_rfl) (by kernel_rfl) (fun _ _ _ h => h) (Or.inl ⟨by kernel_rfl, ?_⟩) HBc.out ?_
            · intro w' hS
              have q1 : w'.cell? ⟨g, o1 + p * 6 + 1, none⟩ = some (.slice aoi nI cI) := (hS.cell (p := ⟨g, o1 + p * 6 + 1, none⟩) (block_lt_of_cell c1)).trans c1
              have q2 : w'.cell? ⟨g, o1 + p * 6 + 2, none⟩ = some (.slice aom nM cM) := (hS.cell (p := ⟨g, o1 + p * 6 + 2, none⟩) (block_lt_of_cell c2)).trans c2
              have q3 : w'.cell? ⟨g, o1 + p * 6 + 3, none⟩ = some (.slice aor nR cR) := (hS.cell (p := ⟨g, o1 + p * 6 + 3, none⟩) (block_lt_of_cell c3)).trans c3
              clear hS
              go_simp
            refine wpAnyH_take (i := 16) (v := .pointer (some ⟨g, o1 + p * 6 + 3, none⟩)) rfl (by kernel_rfl) (by kernel_rfl) (by kernel_rfl) (fun _ _ _ h => h) (Or.inl ⟨by kernel_rfl, ?_⟩) HBc.out ?_
            · intro w' hS
              have q1 : w'.cell? ⟨g, o1 + p * 6 + 1, none⟩ = some (.slice aoi nI cI) := (hS.cell (p := ⟨g, o1 + p * 6 + 1, none⟩) (block_lt_of_cell c1)).trans c1
              have q2 : w'.cell? ⟨g, o1 + p * 6 + 2, none⟩ = some (.slice aom nM cM) := (hS.cell (p := ⟨g, o1 + p * 6 + 2, none⟩) (block_lt_of_cell c2)).trans c2
              have q3 : w'.cell? ⟨g, o1 + p * 6 + 3, none⟩ = some (.slice aor nR cR) := (hS.cell (p := ⟨g, o1 + p * 6 + 3, none⟩) (block_lt_of_cell c3)).trans c3
              clear hS
              go_simp
            refine wpAnyH_take (i := 17) (v := .slice aor nR cR) rfl (by kernel_rfl) (by kernel_rfl) (by kernel_rfl) (fun _ _ _ h => h) (Or.inl ⟨by kernel_rfl, ?_⟩) HBc.out ?_
            · intro w' hS
              have q1 : w'.cell? ⟨g, o1 + p * 6 + 1, none⟩ = some (.slice aoi nI cI) := (hS.cell (p := ⟨g, o1 + p * 6 + 1, none⟩) (block_lt_of_cell c1)).trans c1
              have q2 : w'.cell? ⟨g, o1 + p * 6 + 2, none⟩ = some (.slice aom nM cM) := (hS.cell (p := ⟨g, o1 + p * 6 + 2, none⟩) (block_lt_of_cell c2)).trans c2
              have q3 : w'.cell? ⟨g, o1 + p * 6 + 3, none⟩ = some (.slice aor nR cR) := (hS.cell (p := ⟨g, o1 + p * 6 + 3, none⟩) (block_lt_of_cell c3)).trans c3
              clear hS
              go_simp
            refine wpAnyH_ready (rs := [0]) (by kernel_rfl) (by simp) ?_
            refine AllReadyH.cons rfl (fun K hK => ?_) AllReadyH.nil
            go_simp
            refine hK.out _ _ (HBc.out.alloc HBc.out.size _) (fun _ => ?_)
            clear hK K
            obtain ⟨x1, hx1⟩ : ∃ x, x = wd.alloc (.cells #[] 9) := ⟨_, rfl⟩
            rw [← hx1]
            have HA1 : Hid (x1.ownsRow wr.heap.size 9 1 (.slice (some ⟨wd.heap.size, 0, none⟩) 0 0) 0 []) := by rw [hx1]; exact fresh_texts wd _ HBc.out.size
            have HX1 : Hid (Below wr.heap.size wr x1) := by rw [hx1]; exact HBc.out.alloc HBc.out.size _
            clear hx1 HBc
            refine wpAnyH_ready (rs := [6]) (by kernel_rfl) (by simp) ?_
            refine AllReadyH.cons rfl (fun K hK => ?_) AllReadyH.nil
            refine step_append_texts rfl (.tmp 124) (.tmp 129) rfl wr.heap.size _ 0 [] rfl HA1.out _ e0.ins rfl (HTX.out.2.1.keepB HX1.out) (by have := HFE.out; omega) HX1.out.size ?_
            intro aoA cpA x2 h2 hg2 hat2
            have HA2 : Hid (x2.ownsRow wr.heap.size 9 1 (.slice aoA (0 + e0.ins.length) cpA) (0 + e0.ins.length) ([] ++ e0.ins.map Value.string)) := h2
            have HX2 : Hid (Below wr.heap.size wr x2) := HX1.out.grown hg2 HX1.out.size (fun k hk => (rblock HA1.out k hk).1)
            refine hK.out _ _ HX2.out (fun _ => ?_)
            clear hK K h2 hg2 hat2 HA1 HX1
            refine wpAnyH_ready (rs := [12]) (by kernel_rfl) (by simp) ?_
            refine AllReadyH.cons rfl (fun K hK => ?_) AllReadyH.nil
            refine step_append_texts rfl (.tmp 130) (.tmp 135) rfl wr.heap.size _ (0 + e0.ins.length) ([] ++ e0.ins.map Value.string) rfl HA2.out _ e0.impl rfl (HTX.out.2.2.1.keepB HX2.out) (by have := HFE.out; omega) HX2.out.size ?_
            intro aoB cpB x3 h2 hg2 hat2
            have HA3 : Hid (x3.ownsRow wr.heap.size 9 1 (.slice aoB (0 + e0.ins.length + e0.impl.length) cpB) (0 + e0.ins.length + e0.impl.length) ([] ++ e0.ins.map Value.string ++ e0.impl.map Value.string)) := h2
            have HX3 : Hid (Below wr.heap.size wr x3) := HX2.out.grown hg2 HX2.out.size (fun k hk => (rblock HA2.out k hk).1)
            refine hK.out _ _ HX3.out (fun _ => ?_)
            clear hK K h2 hg2 hat2 HA2 HX2
            refine wpAnyH_ready (rs := [18]) (by kernel_rfl) (by simp) ?_
            refine AllReadyH.cons rfl (fun K hK => ?_) AllReadyH.nil
            refine step_append_texts rfl (.tmp 136) (.tmp 141) rfl wr.heap.size _ (0 + e0.ins.length + e0.impl.length) ([] ++ e0.ins.map Value.string ++ e0.impl.map Value.string) rfl HA3.out _ e0.ord rfl (HTX.out.2.2.2.keepB HX3.out) (by have := HFE.out; omega) HX3.out.size ?_
            intro aoh cph x4 h2 hg2 hat2
            have HX4 : Hid (Below wr.heap.size wr x4) := HX3.out.grown hg2 HX3.out.size (fun k hk => (rblock HA3.out k hk).1)
            obtain ⟨HN, hHN⟩ : ∃ m, m = 0 + e0.ins.length + e0.impl.length + e0.ord.length := ⟨_, rfl⟩
            rw [← hHN] at h2
            have HHN : Hid ((depsS e0).length = HN ∧ HN ≤ 30000) := by
              have h3 : (depsS e0).length = HN := by unfold depsS; rw [hHN, List.length_append, List.length_append]; omega
              exact ⟨h3, by rw [← h3]; exact depsS_len HFE.out⟩
            have HA4 : Hid (x4.ownsRow wr.heap.size 9 1 (.slice aoh HN cph) (depsS e0).length ((depsS e0).map Value.string)) := by
              rw [List.nil_append, List.append_assoc, ← List.map_append, ← List.map_append] at h2
              have h4 : (depsS e0).length = HN := HHN.out.1
              show x4.ownsRow wr.heap.size 9 1 (.slice aoh HN cph) (depsS e0).length ((e0.ins ++ (e0.impl ++ e0.ord)).map Value.string)
              rw [h4]
              exact h2
            refine hK.out _ _ HX4.out (fun _ => ?_)
            rw [← hHN]
            clear hK K h2 hg2 hat2 HA3 HX3 hHN
            refine wpAnyH_ready (rs := [19]) (by kernel_rfl) (by simp) ?_
            refine AllReadyH.cons rfl (fun K hK => ?_) AllReadyH.nil
            go_simp
            refine hK.out _ _ HX4.out (fun _ => ?_)
            clear hK K
            refine wpAnyH_done (by kernel_rfl) ?_ _
            have HL4 : Hid (KLoop w8 (.slice ao1 N1 cap1) (.slice ao2 N2 cap2) (outsOf S.edges (ord.take j)) (ts ++ hangsOf S.edges (ord.take j)) x4) := HLO.out.below HX4.out
            have HR4 : Hid (EdgeRowAt x4 (.slice (some ⟨g, o1, none⟩) S.edges.length capl) S.edges cs) := by rw [HEL.out]; exact HER.out.later HL4.out.bl
            have hn4 : (HN : Int) ≤ 30000 := by have := HHN.out.2; omega
            have c04 : x4.cell? ⟨g, o1 + p * 6, none⟩ = some (.slice (some ⟨bt, ot, none⟩) nO cO) := (HX4.out.cell (p := ⟨g, o1 + p * 6, none⟩) (block_lt_of_cell c0)).trans c0
            clear c0 c1 c2 c3 cp ct0
            go_wp2_with fail
            go_loop [18] (fun i => ∃ q : Nat, i = .int .i64 q ∧ q ≤ HN) (fun i => HN - (intOf i).toNat)
            case atStart => exact ⟨0, rfl, Nat.zero_le _⟩
            case round =>
              obtain ⟨q, rfl, hq⟩ := hrel
              have q0 : (0 : Int) ≤ (q : Int) := by omega
              by_cases hqlt : q < HN
              · have q1 : (q : Int) < (HN : Int) := by omega
                obtain ⟨t0, ht0⟩ : ∃ t, (depsS e0)[q]? = some t := ⟨(depsS e0)[q]'(by have := HHN.out.1; omega), by simp⟩
                obtain ⟨_, _, hve, _, hgh⟩ := row_form HA4.out
                injection hve with f1 f2 f3
                obtain ⟨gh, f4⟩ := hgh (by have := HHN.out.1; omega)
                subst f1
                subst f4
                have ct : x4.cell? ⟨gh, q, none⟩ = some (.string t0) := (row_cell (n := (depsS e0).length) (by have h := HA4.out; rw [HHN.out.1] at h ⊢; exact h) q _ (by rw [List.getElem?_map, ht0]; rfl)).1
                have HMA : Hid (Calls Tryz.prog 35 #[.slice (some ⟨g, o1, none⟩) EL capl, .string t0] x4 fun e w' => e = .returned (.int .i64 (makerI S.edges t0)) ∧ w' = x4) := by
                  have h := kmaker_any HR4.out t0 HKM.out.edges HKM.out.cmds (fun e he => (HKM.out.few e he).1)
                  rw [HEL.out] at h
                  exact h
                have HHA : Hid (Calls Tryz.prog 28 #[.slice ao1 N1 cap1, .string t0] x4 fun e w' => e = .returned (.bool (memB t0 (outsOf S.edges (ord.take j)))) ∧ w' = x4) := by
                  have h := khas_any (texts_own HL4.out.outs) t0 (by have := HBO.out.1; have := HN1.out; omega)
                  exact h
                have HTH : Hid ((0 : Int) ≤ makerI S.edges t0 → memB t0 (outsOf S.edges (ord.take j)) = true) := fun h => is_there HKM.out.ok HPE.out.1 HPE.out.2 (List.mem_of_getElem? ht0) (fun hm => by unfold makerI at h; rw [hm] at h; simp at h)
                clear ht0 hgh f2 f3
                generalize makerI S.edges t0 = MI at *
                generalize hmb : memB t0 (outsOf S.edges (ord.take j)) = MB at *
                clear hmb
                go_wp2_with fail
                refine HMA.out.mono ?_
                rintro e y1 ⟨rfl, hw⟩
                rw [hw]
                clear hw HMA
                go_wp2_with fail
                refine HHA.out.mono ?_
                rintro e y2 ⟨rfl, hw⟩
                rw [hw]
                clear hw HHA ct
                by_cases hm : (0 : Int) ≤ MI
                · have e1 := HTH.out hm
                  subst e1
                  go_wp2
                  exact ⟨⟨q + 1, by go_num, by omega⟩, by simp [intOf]; omega⟩
                · go_wp2
                  exact ⟨⟨q + 1, by go_num, by omega⟩, by simp [intOf]; omega⟩
              obtain rfl : q = HN := by omega
              have HO4 : Hid (x4.ownsRow w8.heap.size 9 1 (.slice ao1 N1 cap1) N1 ((outsOf S.edges (ord.take j)).map Value.string)) := by have h := HL4.out.outs; rw [HN1.out] at h; exact h
              have HT4 : Hid (TextsAt x4 (.slice (some ⟨bt, ot, none⟩) nO cO) e0.outs) := HTX.out.1.keepB HX4.out
              have HS4 : Hid (w8.heap.size ≤ x4.heap.size) := HL4.out.bl.size
              go_wp2_with (at_builtin; refine wpList_append_texts rfl (.tmp 168) (.tmp 173) rfl w8.heap.size _ N1 ((outsOf S.edges (ord.take j)).map Value.string) rfl HO4.out _ e0.outs rfl HT4.out (by have := HBO.out.1; have := HFE.out.1; omega) HS4.out ?_; intro ao5 cp5 x5 h5 hg5 hat5; refine Hid.out ?_)
              have HL5 : Hid (KLoop w8 (.slice ao5 (N1 + e0.outs.length) cp5) (.slice ao2 N2 cap2) (outsOf S.edges (ord.take j) ++ e0.outs) (ts ++ hangsOf S.edges (ord.take j)) x5) := HL4.out.addOuts hg5 (by rw [HN1.out]; exact h5) hat5
              have HA5 : Hid (x5.ownsRow wr.heap.size 9 1 (.slice aoh q cph) (depsS e0).length ((depsS e0).map Value.string)) := rkeep HA4.out (fun k hk => hg5.block k (rblock HA4.out k hk).2 (fun e => by
                have h1 := (rblock HA4.out k hk).1
                have h2 := (rblock HLO.out.outs k e.symm).2
                omega))
              clear h5 hg5 hat5 HO4 HT4 c04
              have HO5 : Hid (x5.ownsRow w8.heap.size 9 1 (.slice ao2 N2 cap2) N2 ((ts ++ hangsOf S.edges (ord.take j)).map Value.string)) := by have h := HL5.out.needs; rw [HN2.out] at h; exact h
              have HT5 : Hid (TextsAt x5 (.slice aoh q cph) (depsS e0)) := texts_own HA5.out
              have HS5 : Hid (w8.heap.size ≤ x5.heap.size) := HL5.out.bl.size
              generalize N1 + e0.outs.length = N3 at *
              unfold Hid
              go_wp2_with (at_builtin; refine wpList_append_texts rfl (.tmp 175) (.tmp 176) rfl w8.heap.size _ N2 ((ts ++ hangsOf S.edges (ord.take j)).map Value.string) rfl HO5.out _ (depsS e0) rfl HT5.out (by have := HBO.out.2; have := HHN.out; omega) HS5.out ?_; intro ao6 cp6 x6 h6 hg6 hat6; refine Hid.out ?_)
              have HL6 : Hid (KLoop w8 (.slice ao5 N3 cp5) (.slice ao6 (N2 + (depsS e0).length) cp6) (outsOf S.edges (ord.take (j + 1))) (ts ++ hangsOf S.edges (ord.take (j + 1))) x6) := by
                rw [outsOf_snoc HPE.out.1 HPE.out.2, hangsOf_snoc HPE.out.1 HPE.out.2, ← List.append_assoc]
                exact HL5.out.addNeeds hg6 (by rw [HN2.out]; exact h6) hat6
              clear h6 hg6 hat6 HO5 HT5
              unfold Hid
              go_wp2_with fail
              exact ⟨⟨j + 1, by go_num, by omega, HL6.out⟩, by simp [intOf]; omega⟩
          obtain rfl : j = OL := by omega
          have HAL : Hid (ord.take j = ord) := List.take_of_length_le (Nat.le_of_eq HOL.out)
          have HKr : Hid (KSt w wb x (.slice aot TL capt) ts wr) := HK8.out.below HLO.out.bl
          have dt : wr.cell? ⟨wb, 2, none⟩ = some (.slice aot TL capt) := by rw [cell_of_row _ _ _ _ _ _ HKr.out.row]; rfl
          have HTT : Hid (TextsAt wr (.slice aot TL capt) ts) := texts_own HKr.out.own
          clear hj hlt
          go_wp2_with fail
          go_loop [6, 21] (fun ok i => ∃ q : Nat, i = .int .i64 q ∧ ok = .bool true ∧ q ≤ TL) (fun _ i => TL - (intOf i).toNat)
          case atStart => exact ⟨0, rfl, rfl, Nat.zero_le _⟩
          case round =>
            obtain ⟨q, rfl, rfl, hq⟩ := hrel
            have q0 : (0 : Int) ≤ (q : Int) := by omega
            by_cases hqlt : q < TL
            · have q1 : (q : Int) < (TL : Int) := by omega
              obtain ⟨t0, ht0⟩ : ∃ t, ts[q]? = some t := ⟨ts[q]'(by have := HTN.out; omega), by simp⟩
              obtain ⟨_, _, hve, hgt⟩ := texts_ge HTT.out
              injection hve with f1 f2 f3
              subst f1 f3
              obtain ⟨bt, ot, rfl, hct⟩ := hgt (by have := HTN.out; omega)
              have ct := hct q t0 ht0
              have HHA : Hid (Calls Tryz.prog 28 #[.slice ao1 N1 cap1, .string t0] wr fun e w' => e = .returned (.bool true) ∧ w' = wr) := by
                have h := khas_any (texts_own HLO.out.outs) t0 (by have := HBO.out.1; have := HN1.out; omega)
                rw [HAL.out, targets_made HKM.out.ok (List.mem_of_getElem? ht0)] at h
                exact h
              clear ht0 hct hgt f2
              go_wp2_with fail
              refine HHA.out.mono ?_
              rintro e y1 ⟨rfl, hw⟩
              rw [hw]
              clear hw HHA
              go_wp2
              exact ⟨⟨q + 1, by go_num, rfl, by omega⟩, by simp [intOf]; omega⟩
            obtain rfl : q = TL := by omega
            by_cases hz : q = 0
            · subst hz
              go_wp2
              go_ret
              exact ⟨rfl, HKr.out.bl⟩
            · have z1 : (((q : Nat) : Int) == 0) = false := by rw [beq_eq_false_iff_ne]; omega
              have HWA : Hid (Calls Tryz.prog 36 #[.slice aol EL capl, .slice aoo j capo, .slice ao2 N2 cap2] wr fun e w' => e = .returned (.bool true) ∧ w' = wr) := by
                have hne : ts ≠ [] := fun e => hz (by rw [← HTN.out, e]; rfl)
                have h1 := HER.out.later HLO.out.bl
                have h2 := HI8.out.keep (w' := wr) (fun k hk => HLO.out.bl.block k hk)
                refine kwanted_any h1 h2 (texts_own HLO.out.needs) HKM.out.edges (by rw [HOL.out]; omega) (by have := HBO.out.2; have := HN2.out; omega) HKM.out.cmds (fun e he => (HKM.out.few e he).1) (fun p hp => ?_)
                rw [HAL.out]
                exact all_wanted HKM.out.ok hne hp
              go_wp2_with fail
              refine HWA.out.mono ?_
              rintro e y1 ⟨rfl, hw⟩
              rw [hw]
              clear hw HWA
              go_wp2
              go_ret
              exact ⟨rfl, HKr.out.bl⟩
end Go.Proofs.YthhbpebihgjpjaaGreatDoor
