import Derived.Test.YthhbpebihgjpjaaGreatDoorK22
import Derived.Laws.OwnMore
namespace Go.Proofs.YthhbpebihgjpjaaGreatDoor
open Go.RowKit Go.Shelf
set_option maxRecDepth 1000000

def pathsEnd (W0 : Nat) (a : Nat → Addr) (n : Int) (r : Except Bad Secs) (e : Ending) (w' : World) : Prop := match r with
  | .ok s => ∃ v, e = .returned v ∧ SecsAt W0 w' v s
  | .error b => Stopped n (reasonV a (badK b)) e w'
theorem paths_start (w : World) : PathsAt w.heap.size w (w.alloc (.cells #[.string ⟨#[]⟩, .slice none 0 0] 399)) (fun k => if k = w.heap.size then 1 else 0) (.slice (some ⟨w.heap.size, 0, none⟩) 1 1) (.slice none 0 0) [] [] ⟨#[]⟩ [] where
  secs := World.ownsRow_lit w _ 1 (Nat.le_refl _) (by unfold maxLen; omega) rfl
  last := World.ownsRow_nil _ _ _ _
  const := fun _ _ _ => ⟨rfl, fun k x y h _ => by simp at h⟩
  c1 := fun k hk => by
    have e : w.heap.size = k := Option.some.inj hk
    subst e; exact if_pos rfl
  c2 := fun k hk => by cases hk
  low := fun k hk => if_neg (by omega)
  below := (Below.refl _ _).alloc (Nat.le_refl _) _
set_option maxHeartbeats 8000000 in
theorem readPaths_any (rb : Nat) (n : Int) (t : ByteArray) (ls : List Binds) (ao : Option Addr) (a : Nat → Addr) (ms : List ByteArray) (vm : Value) (w : World) (h0 : w.cell? ⟨rb, 0, none⟩ = some (.int .i64 n)) (h2 : w.cell? ⟨rb, 2, none⟩ = some (.pointer ao)) (hs : ScopesAt w (.pointer ao) ls) (hg : Gl a w) (ht : t.size ≤ 4000) (hE : ∀ l ∈ ls, BOk l) (hm : TextsAt w vm ms) (hml : ms.length ≤ 2) :
    Calls Tryz.prog 266 #[.pointer (some ⟨rb, 0, none⟩), .string t, vm] w fun e w' => pathsEnd w.heap.size a n (pathsS (envL ls) ms t) e w' ∧ Below w.heap.size w w' := by
  have hinf : (Tryz.prog.info? 399).map (fun i => (i.size, i.bytes, i.zero)) = some (2, 40, some (.agg #[.string ⟨#[]⟩, .slice none 0 0])) := by kernel_rfl
  obtain ⟨ti, hti, htj⟩ := Option.map_eq_some_iff.1 hinf
  simp only [Prod.mk.injEq] at htj
  have HTI : Hid (Tryz.prog.info? 399 = some ti ∧ ti.size = 2 ∧ ti.bytes = 40 ∧ ti.zero = some (.agg #[.string ⟨#[]⟩, .slice none 0 0])) := ⟨hti, htj.1, htj.2.1, htj.2.2⟩
  clear hinf hti htj
  have hinf : (Tryz.prog.info? 9).map (fun i => (i.size, i.bytes, i.zero)) = some (1, 16, some (.string ⟨#[]⟩)) := by kernel_rfl
  obtain ⟨tj, hti, htj⟩ := Option.map_eq_some_iff.1 hinf
  simp only [Prod.mk.injEq] at htj
  have HTJ : Hid (Tryz.prog.info? 9 = some tj ∧ tj.size = 1 ∧ tj.bytes = 16 ∧ tj.zero = some (.string ⟨#[]⟩)) := ⟨hti, htj.1, htj.2.1, htj.2.2⟩
  clear hinf hti htj
  have HRP : Hid (∀ wx u, Below w.heap.size w wx → u.size ≤ 4000 → Calls Tryz.prog 320 #[.pointer (some ⟨rb, 0, none⟩), .string u] wx fun e w' => pathEnd' a n (pathS (envL ls) u) e w' ∧ Below wx.heap.size wx w') := fun wx u hb hu =>
    readPath_any rb n u ls ao a wx ((hb.cell (p := ⟨rb, 0, none⟩) (block_lt_of_cell h0)).trans h0) ((hb.cell (p := ⟨rb, 2, none⟩) (block_lt_of_cell h2)).trans h2) (hs.keep hb.block) (hg.below hb hg.size) (by omega) hE
  have HNO : Hid (∀ wx, Below w.heap.size w wx → Calls Tryz.prog 112 #[.pointer (some ⟨rb, 0, none⟩), .bool false, .iface 472 (.pointer (some (a 4)))] wx fun e w' => Stopped n (reasonV a 4) e w' ∧ Below w.heap.size w w') := fun wx hb => (need_no rb n _ _ wx ((hb.cell (p := ⟨rb, 0, none⟩) (block_lt_of_cell h0)).trans h0)).mono (fun e w' h => ⟨h.1, hb.trans (h.2.mono hb.size)⟩)
  have HCT : Hid (∀ wx x, Below w.heap.size w wx → Calls Tryz.prog 321 #[vm, .string x] wx fun e w' => e = .returned (.bool (memB x ms)) ∧ w' = wx) := fun wx x hb => contains_any ms vm x wx (hm.keepB hb) (by omega)
  have HC4 : Hid (∀ wx, Below w.heap.size w wx → wx.cell? ⟨4, 0, none⟩ = some (.iface 472 (.pointer (some (a 4))))) := fun wx hb => (hg.below hb hg.size).errs 4 (by decide)
  have HT : Hid (t.size ≤ 4000) := ht
  obtain ⟨aom, capm, rfl, _, _⟩ := hm
  generalize ms.length = ML at *
  clear hs hg hE h0 h2
  go_enter Tryz.func266, Tryz.ntmps266
  go_wp2_with fail
  go_loopw [1, 7] (fun v1 v7 wr => ∃ (u : ByteArray) (c : Nat → Nat) (g nn cap : Nat) (pv : Value) (vs : SecV) (I : Secs) (mk : ByteArray) (l : List ByteArray), v1 = .string u ∧ v7 = .slice (some ⟨g, 0, none⟩) nn cap ∧ nn = vs.length + 1 ∧ PathsAt w.heap.size w wr c (.slice (some ⟨g, 0, none⟩) nn cap) pv vs I mk l ∧ pathsAt (envL ls) ms u (I ++ [(mk, l)]) = pathsS (envL ls) ms t ∧ u.size ≤ t.size ∧ l.length + u.size ≤ 4000 ∧ nn + u.size ≤ 4001) (fun v1 _ _ => strM v1)
  case atStart =>
    exact ⟨t, _, w.heap.size, 1, 1, .slice none 0 0, [], [], ⟨#[]⟩, [], rfl, rfl, rfl, paths_start w, rfl, Nat.le_refl _, by simpa using HT.out, by have := HT.out; omega⟩
  case round =>
    obtain ⟨u, c, g, nn, cap, pv, vs, I, mk, l, rfl, rfl, hnn, hp, hpa, hus, hls, hns⟩ := hrel
    have HP : Hid (PathsAt w.heap.size w wr c (.slice (some ⟨g, 0, none⟩) nn cap) pv vs I mk l) := hp
    have HPA : Hid (pathsAt (envL ls) ms u (I ++ [(mk, l)]) = pathsS (envL ls) ms t) := hpa
    have HNN : Hid (nn = vs.length + 1) := hnn
    have HBW : Hid (Below w.heap.size w wr) := hp.below
    clear hp hpa hnn
    have hUS := leftB_le u
    have HEND : Hid ((leftB u).size = 0 → pathsS (envL ls) ms t = .ok (I ++ [(mk, l)])) := fun h => HPA.out.symm.trans (pathsAt_end _ _ _ _ h)
    have HPATH : Hid ((leftB u).size ≠ 0 → markB (leftB u) = ⟨#[]⟩ → (pathsS (envL ls) ms t = match pathS (envL ls) ((leftB u).extract 0 (pathEnd (leftB u))) with
      | .error e => .error e
      | .ok p => pathsAt (envL ls) ms ((leftB u).extract (pathEnd (leftB u)) (leftB u).size) (I ++ [(mk, l ++ [p])])) ∧ 1 ≤ pathEnd (leftB u) ∧ pathEnd (leftB u) ≤ (leftB u).size) := fun h1 h2 => ⟨by
        rw [← HPA.out, pathsAt_path _ _ _ _ h1 h2]
        cases pathS (envL ls) ((leftB u).extract 0 (pathEnd (leftB u))) with
        | error e => rfl
        | ok p => simp only [addPath_snoc], pathEnd_pos u h1 h2⟩
    have HMARK : Hid ((leftB u).size ≠ 0 → markB (leftB u) ≠ ⟨#[]⟩ → (pathsS (envL ls) ms t = if memB (markB (leftB u)) ms = true then pathsAt (envL ls) ms ((leftB u).extract (markB (leftB u)).size (leftB u).size) (I ++ [(mk, l)] ++ [(markB (leftB u), [])]) else .error .syn) ∧ 1 ≤ (markB (leftB u)).size ∧ (markB (leftB u)).size ≤ (leftB u).size) := fun h1 h2 => ⟨by rw [← HPA.out, pathsAt_mark _ _ _ _ h1 h2], mark_size h2⟩
    have HWB : Hid (∀ wx, Calls Tryz.prog 191 #[.string u] wx fun e w' => e = .returned (.string (leftB u)) ∧ w' = wx) := fun wx => withoutBlanks_any u wx
    generalize leftB u = U at *
    have HMO : Hid (∀ wx, Calls Tryz.prog 319 #[.string U] wx fun e w' => e = .returned (.string (markB U)) ∧ w' = wx) := fun wx => markOf_any U wx
    generalize markB U = MK at *
    have hnU := nil_iff U
    have hnM := nil_iff MK
    by_cases hU : U.size = 0
    · have HF : Hid (pathsS (envL ls) ms t = .ok (I ++ [(mk, l)])) := HEND.out hU
      rw [decide_eq_true hU] at hnU
      go_wp2_with fail
      refine (HWB.out _).mono ?_
      rintro e w1 ⟨rfl, rfl⟩
      go_wp2_with fail
      refine (HMO.out _).mono ?_
      rintro e w1 ⟨rfl, rfl⟩
      go_wp2_with fail
      go_ret
      exact ⟨by rw [HF.out]; exact ⟨_, rfl, HP.out.done⟩, HBW.out⟩
    · rw [decide_eq_false hU] at hnU
      by_cases hM : MK = ⟨#[]⟩
      · obtain ⟨hst, hpe1, hpe2⟩ := HPATH.out hU hM
        obtain rfl := hM
        have HFI : Hid (∀ wx, Calls Tryz.prog 265 #[.string U, .string ⟨#[32, 58, 124]⟩] wx fun e w' => e = .returned (.int .i64 ((pathEnd U : Nat) : Int)) ∧ w' = wx) := fun wx => freeIndex_any isSep U ⟨#[32, 58, 124]⟩ idx_sep (by have := HT.out; omega) wx
        have HST : Hid (pathsS (envL ls) ms t = match pathS (envL ls) (U.extract 0 (pathEnd U)) with
          | .error e => .error e
          | .ok p => pathsAt (envL ls) ms (U.extract (pathEnd U) U.size) (I ++ [(mk, l ++ [p])])) := hst
        generalize pathEnd U = PE at *
        have hs1 : ∀ wx, (Instr.slice 9 (.string U) none (some (.int .i64 PE)) none).run Tryz.prog wx = .ok (.string (U.extract 0 PE)) wx := fun wx => slice_head U PE hpe2 wx
        have hs2 : ∀ wx, (Instr.slice 9 (.string U) (some (.int .i64 PE)) none none).run Tryz.prog wx = .ok (.string (U.extract PE U.size)) wx := fun wx => slice_from U PE hpe2 wx
        have HRS : Hid ((U.extract PE U.size).size + 1 ≤ u.size) := by show _ ≤ _; rw [ByteArray.size_extract]; omega
        have HX := HRP.out wr.drew (U.extract 0 PE) HBW.out.drew (by rw [ByteArray.size_extract]; have := HT.out; omega)
        have hS := HP.out.secs
        rw [← HNN.out] at hS
        have hcell := row_cell hS (vs.length * 2 + 1) pv (scells_at (l := vs ++ [(mk, pv)]) (i := vs.length) (x := (mk, pv)) (by simp)).2
        have c1 := hcell.1
        have f1 := hcell.2
        have hgw : g < wr.heap.size := block_lt_of_cell c1
        have hw0 : IntKind.i64.wrap ((nn : Int) - 1) = (vs.length : Int) := by rw [IntKind.wrap_i64]; have := HNN.out; omega
        have hi1 : (vs.length : Int) < (nn : Int) := by have := HNN.out; omega
        have hi0 : (0 : Int) ≤ (vs.length : Int) := by omega
        clear hst hcell hnM hS
        generalize U.extract 0 PE = PT at *
        generalize U.extract PE U.size = RT at *
        obtain ⟨VL, hVL⟩ : ∃ VL, VL = vs.length := ⟨_, rfl⟩
        have HVL : Hid (VL = vs.length) := hVL
        rw [← hVL] at c1 f1 hw0 hi1 hi0
        clear hVL
        cases hp : pathS (envL ls) PT with
        | error b =>
          have HF : Hid (pathsS (envL ls) ms t = .error b) := by rw [HST.out, hp]; rfl
          rw [hp] at HX
          go_wp2_with fail
          refine (HWB.out _).mono ?_
          rintro e w1 ⟨rfl, rfl⟩
          go_wp2_with fail
          refine (HMO.out _).mono ?_
          rintro e w2 ⟨rfl, rfl⟩
          go_wp2_with fail
          refine (HFI.out _).mono ?_
          rintro e w3 ⟨rfl, rfl⟩
          go_wp2_with fail
          go_region_with (go_at_call 320; refine HX.mono ?_; rintro e w8 ⟨hst, hb8⟩; obtain ⟨b', rfl, s0, s1⟩ := hst; refine dead_end ⟨rfl, (by rw [HF.out]; exact ⟨b', rfl, s0, s1⟩), HBW.out.drew.trans (hb8.mono HBW.out.size)⟩ w ?_)
          all_goals trivial
        | ok p =>
          have HF : Hid (pathsS (envL ls) ms t = pathsAt (envL ls) ms RT (I ++ [(mk, l ++ [p])])) := by rw [HST.out, hp]; rfl
          rw [hp] at HX
          go_wp2_with fail
          refine (HWB.out _).mono ?_
          rintro e w1 ⟨rfl, rfl⟩
          go_wp2_with fail
          refine (HMO.out _).mono ?_
          rintro e w2 ⟨rfl, rfl⟩
          go_wp2_with fail
          refine (HFI.out _).mono ?_
          rintro e w3 ⟨rfl, rfl⟩
          go_wp2_with fail
          refine wp_region_any (by kernel_rfl) ?_
          change wpAny _ _ _ _ _ _ _ (World.drew _)
          refine wpAny_take (i := 0) (v := .pointer (some ⟨g, VL * 2, none⟩)) rfl (by kernel_rfl) (by kernel_rfl) (by kernel_rfl) (fun _ _ _ h => h) (Or.inl ⟨by rfl, ?_⟩) ?_
          · intro w
            go_simp
          refine wpAny_take (i := 1) (v := .pointer (some ⟨g, VL * 2, none⟩)) rfl (by kernel_rfl) (by kernel_rfl) (by kernel_rfl) (fun _ _ _ h => h) (Or.inl ⟨by rfl, ?_⟩) ?_
          · intro w
            go_simp
          refine wpAny_take (i := 2) (v := .pointer (some ⟨g, VL * 2, none⟩)) rfl (by kernel_rfl) (by kernel_rfl) (by kernel_rfl) (fun _ _ _ h => h) (Or.inl ⟨by rfl, ?_⟩) ?_
          · intro w
            go_simp
          refine wpAny_take (i := 3) (v := .pointer (some ⟨g, VL * 2 + 1, none⟩)) rfl (by kernel_rfl) (by kernel_rfl) (by kernel_rfl) (fun _ _ _ h => h) (Or.inl ⟨by rfl, ?_⟩) ?_
          · intro w
            go_simp
          refine wpAny_take (i := 5) (v := .pointer (some ⟨rb, 0, none⟩)) rfl (by kernel_rfl) (by kernel_rfl) (by kernel_rfl) (fun _ _ _ h => h) (Or.inl ⟨by rfl, ?_⟩) ?_
          · intro w
            go_simp
          refine wpAny_take (i := 6) (v := .string U) rfl (by kernel_rfl) (by kernel_rfl) (by kernel_rfl) (fun _ _ _ h => h) (Or.inl ⟨by rfl, ?_⟩) ?_
          · intro w
            go_simp
          refine wpAny_take (i := 7) (v := .int .i64 PE) rfl (by kernel_rfl) (by kernel_rfl) (by kernel_rfl) (fun _ _ _ h => h) (Or.inl ⟨by rfl, ?_⟩) ?_
          · intro w
            go_simp
          refine wpAny_take (i := 8) (v := .string PT) rfl (by kernel_rfl) (by kernel_rfl) (by kernel_rfl) (fun _ _ _ h => h) (Or.inl ⟨by rfl, ?_⟩) ?_
          · intro w
            go_simp
          refine wpAny_ready (rs := [4, 9]) (by kernel_rfl) (by simp) ?_
          refine AllReady.cons rfl (fun K hK => ?_) (AllReady.cons rfl (fun K hK => ?_) AllReady.nil)
          · go_simp
            refine hK _ _ ?_
            clear hK K
            refine wpAny_ready (rs := [9]) (by kernel_rfl) (by simp) ?_
            refine AllReady.cons rfl (fun K hK => ?_) AllReady.nil
            go_simp
            go_wp2_with (go_at_call 320; refine HX.mono ?_; rintro e w8 ⟨rfl, hb8⟩)
            have HP8 : Hid (PathsAt w.heap.size w (w8.alloc (.cells #[.string p] 9)) c (.slice (some ⟨g, 0, none⟩) nn cap) pv vs I mk l) := ((HP.out.later (Below.refl _ _).drew HBW.out.size).later hb8 HBW.out.size).later ((Below.refl _ _).alloc (Nat.le_refl _) _) (Nat.le_trans HBW.out.size hb8.size)
            have hW8 : w.heap.size ≤ w8.heap.size := Nat.le_trans HBW.out.size hb8.size
            clear hb8 f1
            clear c1
            refine wpAny_ready (rs := [10]) (by kernel_rfl) (by simp) ?_
            refine AllReady.cons rfl (fun K hK => ?_) AllReady.nil
            go_simp
            refine hK _ _ ?_
            clear hK K
            refine wpAny_ready (rs := [11]) (by kernel_rfl) (by simp) ?_
            refine AllReady.cons rfl (fun K hK => ?_) AllReady.nil
            refine step_append_lies _ rfl (.tmp 50) (.tmp 56) 32 rfl w.heap.size 9 tj (.string ⟨#[]⟩) 1 16 Tryz.underlying32 HTJ.out.1 HTJ.out.2.2.2 HTJ.out.2.1 HTJ.out.2.2.1 rfl (by decide) _ l.length (l.map Value.string) rfl HP8.out.last ⟨w8.heap.size, 0, none⟩ 1 1 [.string p] rfl rfl (by exact newCells w8 _ _) (by intro u hu; simp only [List.mem_cons, List.not_mem_nil, or_false] at hu; subst hu; rfl) (by decide) (by unfold maxLen; omega) (by omega) (by simp; omega) _ rfl ?_
            intro g6 cap6 w6 hv6 hg6 hat6 hlt6
            have hst6 := HP8.out.still HNN.out hg6
            rw [← HVL.out] at hst6
            have c6 := hst6.1
            have f6 := hst6.2
            have HM : Hid (∃ c', PathsAt w.heap.size w (w6.setCell ⟨g, VL * 2 + 1, none⟩ (.slice (some ⟨g6, 0, none⟩) (l.length + 1) cap6)) c' (.slice (some ⟨g, 0, none⟩) nn cap) (.slice (some ⟨g6, 0, none⟩) (l.length + 1) cap6) vs I mk (l ++ [p])) := by
              rw [HVL.out]
              refine HP8.out.add HNN.out hg6 hv6 ?_ (by simp; omega)
              intro k hk
              have e : g6 = k := Option.some.inj hk
              subst e
              rcases hat6 with e2 | e2
              · exact Or.inl e2
              · right; rw [e2]; exact Nat.le_refl _
            clear hv6 hg6 hat6 hlt6 hst6
            refine hK _ _ ?_
            clear hK K
            refine wpAny_take (i := 12) (v := .pointer (some ⟨g, VL * 2, none⟩)) rfl (by kernel_rfl) (by kernel_rfl) (by kernel_rfl) (fun _ _ _ h => h) (Or.inl ⟨by rfl, ?_⟩) ?_
            · intro w
              go_simp
            refine wpAny_take (i := 13) (v := .pointer (some ⟨g, VL * 2 + 1, none⟩)) rfl (by kernel_rfl) (by kernel_rfl) (by kernel_rfl) (fun _ _ _ h => h) (Or.inl ⟨by rfl, ?_⟩) ?_
            · intro w
              go_simp
            refine wpAny_ready (rs := [14]) (by kernel_rfl) (by simp) ?_
            refine AllReady.cons rfl (fun K hK => ?_) AllReady.nil
            go_simp
            refine hK _ _ ?_
            clear hK K
            refine wpAny_done (by kernel_rfl) ?_ _
            generalize hw7 : w6.setCell ⟨g, VL * 2 + 1, none⟩ (.slice (some ⟨g6, 0, none⟩) (l.length + 1) cap6) = w7 at *
            clear hw7 c6 f6
            go_wp2_with fail
            obtain ⟨c', hc'⟩ := HM.out
            exact ⟨⟨RT, c', g, nn, cap, .slice (some ⟨g6, 0, none⟩) (l.length + 1) cap6, vs, I, mk, l ++ [p], rfl, rfl, HNN.out, hc', HF.out.symm, by have := HRS.out; omega, by have := HRS.out; rw [List.length_append]; show l.length + 1 + _ ≤ _; omega, by have := HRS.out; omega⟩, by have := HRS.out; show RT.size < u.size; omega⟩
          · go_simp
            go_wp2_with (go_at_call 320; refine HX.mono ?_; rintro e w8 ⟨rfl, hb8⟩)
            have c8 : w8.cell? ⟨g, VL * 2 + 1, none⟩ = some pv := (hb8.cell (p := ⟨g, VL * 2 + 1, none⟩) hgw).trans c1
            have l8 : g < w8.heap.size := Nat.lt_of_lt_of_le hgw hb8.size
            refine wpAny_ready (rs := [4, 10]) (by kernel_rfl) (by simp) ?_
            refine AllReady.cons rfl (fun K hK => ?_) (AllReady.cons rfl (fun K hK => ?_) AllReady.nil)
            · go_simp
              refine hK _ _ ?_
              clear hK K c8
              have HP8 : Hid (PathsAt w.heap.size w (w8.alloc (.cells #[.string p] 9)) c (.slice (some ⟨g, 0, none⟩) nn cap) pv vs I mk l) := ((HP.out.later (Below.refl _ _).drew HBW.out.size).later hb8 HBW.out.size).later ((Below.refl _ _).alloc (Nat.le_refl _) _) (Nat.le_trans HBW.out.size hb8.size)
              have hW8 : w.heap.size ≤ w8.heap.size := Nat.le_trans HBW.out.size hb8.size
              clear hb8 f1
              clear c1
              refine wpAny_ready (rs := [10]) (by kernel_rfl) (by simp) ?_
              refine AllReady.cons rfl (fun K hK => ?_) AllReady.nil
              go_simp
              refine hK _ _ ?_
              clear hK K
              refine wpAny_ready (rs := [11]) (by kernel_rfl) (by simp) ?_
              refine AllReady.cons rfl (fun K hK => ?_) AllReady.nil
              refine step_append_lies _ rfl (.tmp 50) (.tmp 56) 32 rfl w.heap.size 9 tj (.string ⟨#[]⟩) 1 16 Tryz.underlying32 HTJ.out.1 HTJ.out.2.2.2 HTJ.out.2.1 HTJ.out.2.2.1 rfl (by decide) _ l.length (l.map Value.string) rfl HP8.out.last ⟨w8.heap.size, 0, none⟩ 1 1 [.string p] rfl rfl (by exact newCells w8 _ _) (by intro u hu; simp only [List.mem_cons, List.not_mem_nil, or_false] at hu; subst hu; rfl) (by decide) (by unfold maxLen; omega) (by omega) (by simp; omega) _ rfl ?_
              intro g6 cap6 w6 hv6 hg6 hat6 hlt6
              have hst6 := HP8.out.still HNN.out hg6
              rw [← HVL.out] at hst6
              have c6 := hst6.1
              have f6 := hst6.2
              have HM : Hid (∃ c', PathsAt w.heap.size w (w6.setCell ⟨g, VL * 2 + 1, none⟩ (.slice (some ⟨g6, 0, none⟩) (l.length + 1) cap6)) c' (.slice (some ⟨g, 0, none⟩) nn cap) (.slice (some ⟨g6, 0, none⟩) (l.length + 1) cap6) vs I mk (l ++ [p])) := by
                rw [HVL.out]
                refine HP8.out.add HNN.out hg6 hv6 ?_ (by simp; omega)
                intro k hk
                have e : g6 = k := Option.some.inj hk
                subst e
                rcases hat6 with e2 | e2
                · exact Or.inl e2
                · right; rw [e2]; exact Nat.le_refl _
              clear hv6 hg6 hat6 hlt6 hst6
              refine hK _ _ ?_
              clear hK K
              refine wpAny_take (i := 12) (v := .pointer (some ⟨g, VL * 2, none⟩)) rfl (by kernel_rfl) (by kernel_rfl) (by kernel_rfl) (fun _ _ _ h => h) (Or.inl ⟨by rfl, ?_⟩) ?_
              · intro w
                go_simp
              refine wpAny_take (i := 13) (v := .pointer (some ⟨g, VL * 2 + 1, none⟩)) rfl (by kernel_rfl) (by kernel_rfl) (by kernel_rfl) (fun _ _ _ h => h) (Or.inl ⟨by rfl, ?_⟩) ?_
              · intro w
                go_simp
              refine wpAny_ready (rs := [14]) (by kernel_rfl) (by simp) ?_
              refine AllReady.cons rfl (fun K hK => ?_) AllReady.nil
              go_simp
              refine hK _ _ ?_
              clear hK K
              refine wpAny_done (by kernel_rfl) ?_ _
              generalize hw7 : w6.setCell ⟨g, VL * 2 + 1, none⟩ (.slice (some ⟨g6, 0, none⟩) (l.length + 1) cap6) = w7 at *
              clear hw7 c6 f6
              go_wp2_with fail
              obtain ⟨c', hc'⟩ := HM.out
              exact ⟨⟨RT, c', g, nn, cap, .slice (some ⟨g6, 0, none⟩) (l.length + 1) cap6, vs, I, mk, l ++ [p], rfl, rfl, HNN.out, hc', HF.out.symm, by have := HRS.out; omega, by have := HRS.out; rw [List.length_append]; show l.length + 1 + _ ≤ _; omega, by have := HRS.out; omega⟩, by have := HRS.out; show RT.size < u.size; omega⟩
            · go_simp
              refine hK _ _ ?_
              clear hK K
              have HP8 : Hid (PathsAt w.heap.size w (w8.alloc (.cells #[.string p] 9)) c (.slice (some ⟨g, 0, none⟩) nn cap) pv vs I mk l) := ((HP.out.later (Below.refl _ _).drew HBW.out.size).later hb8 HBW.out.size).later ((Below.refl _ _).alloc (Nat.le_refl _) _) (Nat.le_trans HBW.out.size hb8.size)
              have hW8 : w.heap.size ≤ w8.heap.size := Nat.le_trans HBW.out.size hb8.size
              clear hb8 f1
              refine wpAny_ready (rs := [4]) (by kernel_rfl) (by simp) ?_
              refine AllReady.cons rfl (fun K hK => ?_) AllReady.nil
              go_simp
              refine hK _ _ ?_
              clear hK K c8 c1
              refine wpAny_ready (rs := [11]) (by kernel_rfl) (by simp) ?_
              refine AllReady.cons rfl (fun K hK => ?_) AllReady.nil
              refine step_append_lies _ rfl (.tmp 50) (.tmp 56) 32 rfl w.heap.size 9 tj (.string ⟨#[]⟩) 1 16 Tryz.underlying32 HTJ.out.1 HTJ.out.2.2.2 HTJ.out.2.1 HTJ.out.2.2.1 rfl (by decide) _ l.length (l.map Value.string) rfl HP8.out.last ⟨w8.heap.size, 0, none⟩ 1 1 [.string p] rfl rfl (by exact newCells w8 _ _) (by intro u hu; simp only [List.mem_cons, List.not_mem_nil, or_false] at hu; subst hu; rfl) (by decide) (by unfold maxLen; omega) (by omega) (by simp; omega) _ rfl ?_
              intro g6 cap6 w6 hv6 hg6 hat6 hlt6
              have hst6 := HP8.out.still HNN.out hg6
              rw [← HVL.out] at hst6
              have c6 := hst6.1
              have f6 := hst6.2
              have HM : Hid (∃ c', PathsAt w.heap.size w (w6.setCell ⟨g, VL * 2 + 1, none⟩ (.slice (some ⟨g6, 0, none⟩) (l.length + 1) cap6)) c' (.slice (some ⟨g, 0, none⟩) nn cap) (.slice (some ⟨g6, 0, none⟩) (l.length + 1) cap6) vs I mk (l ++ [p])) := by
                rw [HVL.out]
                refine HP8.out.add HNN.out hg6 hv6 ?_ (by simp; omega)
                intro k hk
                have e : g6 = k := Option.some.inj hk
                subst e
                rcases hat6 with e2 | e2
                · exact Or.inl e2
                · right; rw [e2]; exact Nat.le_refl _
              clear hv6 hg6 hat6 hlt6 hst6
              refine hK _ _ ?_
              clear hK K
              refine wpAny_take (i := 12) (v := .pointer (some ⟨g, VL * 2, none⟩)) rfl (by kernel_rfl) (by kernel_rfl) (by kernel_rfl) (fun _ _ _ h => h) (Or.inl ⟨by rfl, ?_⟩) ?_
              · intro w
                go_simp
              refine wpAny_take (i := 13) (v := .pointer (some ⟨g, VL * 2 + 1, none⟩)) rfl (by kernel_rfl) (by kernel_rfl) (by kernel_rfl) (fun _ _ _ h => h) (Or.inl ⟨by rfl, ?_⟩) ?_
              · intro w
                go_simp
              refine wpAny_ready (rs := [14]) (by kernel_rfl) (by simp) ?_
              refine AllReady.cons rfl (fun K hK => ?_) AllReady.nil
              go_simp
              refine hK _ _ ?_
              clear hK K
              refine wpAny_done (by kernel_rfl) ?_ _
              generalize hw7 : w6.setCell ⟨g, VL * 2 + 1, none⟩ (.slice (some ⟨g6, 0, none⟩) (l.length + 1) cap6) = w7 at *
              clear hw7 c6 f6
              go_wp2_with fail
              obtain ⟨c', hc'⟩ := HM.out
              exact ⟨⟨RT, c', g, nn, cap, .slice (some ⟨g6, 0, none⟩) (l.length + 1) cap6, vs, I, mk, l ++ [p], rfl, rfl, HNN.out, hc', HF.out.symm, by have := HRS.out; omega, by have := HRS.out; rw [List.length_append]; show l.length + 1 + _ ≤ _; omega, by have := HRS.out; omega⟩, by have := HRS.out; show RT.size < u.size; omega⟩
      · obtain ⟨hst, hz1, hz2⟩ := HMARK.out hU hM
        have hM0 : ¬ MK.size = 0 := by omega
        rw [decide_eq_false hM0] at hnM
        have c4 := HC4.out wr HBW.out
        cases hb : memB MK ms with
        | false =>
          rw [hb, if_neg (by decide)] at hst
          have HF : Hid (pathsS (envL ls) ms t = .error .syn) := hst
          have HCF := HCT.out wr.drew MK HBW.out.drew
          rw [hb] at HCF
          have HCF : Hid (Calls Tryz.prog 321 #[.slice aom ML capm, .string MK] wr.drew fun e w' => e = .returned (.bool false) ∧ w' = wr.drew) := HCF
          clear hst
          go_wp2_with fail
          refine (HWB.out _).mono ?_
          rintro e w1 ⟨rfl, rfl⟩
          go_wp2_with fail
          refine (HMO.out _).mono ?_
          rintro e w2 ⟨rfl, rfl⟩
          go_wp2_with fail
          go_region_with (first | (go_at_call 321; refine HCF.out.mono ?_; rintro e w8 ⟨rfl, rfl⟩) | (go_at_call 112; refine (HNO.out _ HBW.out.drew).mono ?_; rintro e w8 ⟨hst, hb8⟩; obtain ⟨b, rfl, s0, s1⟩ := hst; refine dead_end ⟨rfl, (by rw [HF.out]; exact ⟨b, rfl, s0, s1⟩), hb8⟩ w ?_))
          all_goals trivial
        | true =>
          rw [hb, if_pos rfl] at hst
          have HF : Hid (pathsS (envL ls) ms t = pathsAt (envL ls) ms (U.extract MK.size U.size) (I ++ [(mk, l)] ++ [(MK, [])])) := hst
          have HCF := HCT.out wr.drew MK HBW.out.drew
          rw [hb] at HCF
          have HCF : Hid (Calls Tryz.prog 321 #[.slice aom ML capm, .string MK] wr.drew fun e w' => e = .returned (.bool true) ∧ w' = wr.drew) := HCF
          clear hst
          have hsl : ∀ wx, (Instr.slice 9 (.string U) (some (.int .i64 MK.size)) none none).run Tryz.prog wx = .ok (.string (U.extract MK.size U.size)) wx := fun wx => slice_from U MK.size hz2 wx
          have HRS : Hid ((U.extract MK.size U.size).size + 1 ≤ u.size) := by show _ ≤ _; rw [ByteArray.size_extract]; omega
          go_wp2_with fail
          refine (HWB.out _).mono ?_
          rintro e w1 ⟨rfl, rfl⟩
          go_wp2_with fail
          refine (HMO.out _).mono ?_
          rintro e w2 ⟨rfl, rfl⟩
          go_wp2_with fail
          go_region_with (first | (go_at_call 321; refine HCF.out.mono ?_; rintro e w8 ⟨rfl, rfl⟩) | (go_at_call 112; refine (need_yes _ _ _).mono ?_; rintro e w8 ⟨rfl, rfl⟩))
          all_goals
            obtain ⟨w3, hw3⟩ : ∃ w3, w3 = w2.drew := ⟨_, rfl⟩
            rw [← hw3]
            have HP3 : Hid (PathsAt w.heap.size w w3 c (.slice (some ⟨g, 0, none⟩) nn cap) pv vs I mk l) := by rw [hw3]; exact HP.out.later (Below.refl _ _).drew HBW.out.size
            have HS3 : Hid (w3.ownsRow w.heap.size 399 2 (.slice (some ⟨g, 0, none⟩) nn cap) nn (scells (vs ++ [(mk, pv)]))) := by
              have h := HP3.out.secs
              rw [← HNN.out] at h
              exact h
            have hW3 : w.heap.size ≤ w3.heap.size := HP3.out.below.size
            clear hw3 c4
            go_wp2_with (at_builtin; refine wpList_append_lies _ rfl (.tmp 23) (.tmp 26) 396 rfl w.heap.size 399 ti (.agg #[.string ⟨#[]⟩, .slice none 0 0]) 2 40 Tryz.underlying396 HTI.out.1 HTI.out.2.2.2 HTI.out.2.1 HTI.out.2.2.1 rfl (by decide) _ nn (scells (vs ++ [(mk, pv)])) rfl (by exact rkeep HS3.out (fun k hk => heapA_old w3 _ k (rblock HS3.out k hk).2)) ⟨w3.heap.size, 0, none⟩ 1 1 [.string MK, .slice none 0 0] rfl rfl (by exact newCells w3 _ _) (by intro u hu; simp only [List.mem_cons, List.not_mem_nil, or_false] at hu; rcases hu with rfl | rfl <;> rfl) (by decide) (by unfold maxLen; omega) (by omega) (by simp; omega) _ rfl ?_; intro g6 cap6 w6 hv6 hg6 hat6 hlt6; refine Hid.out ?_)
            have HM : Hid (∃ c', PathsAt w.heap.size w w6 c' (.slice (some ⟨g6, 0, none⟩) (nn + 1) cap6) (.slice none 0 0) (vs ++ [(mk, pv)]) (I ++ [(mk, l)]) MK []) := by
              refine (HP3.out.later ((Below.refl _ _).alloc (Nat.le_refl _) _) hW3).more hg6 ?_ ?_ (by simp; omega)
              · rw [scells_append]
                have h := hv6
                rw [HNN.out] at h ⊢
                exact h
              · intro k hk
                have e : g6 = k := Option.some.inj hk
                subst e
                rcases hat6 with e2 | e2
                · exact Or.inl e2
                · right; rw [e2]; exact Nat.le_refl _
            clear hv6 hg6 hat6 hlt6
            unfold Hid
            go_wp2_with fail
            obtain ⟨c', hc'⟩ := HM.out
            exact ⟨⟨U.extract MK.size U.size, c', g6, nn + 1, cap6, .slice none 0 0, vs ++ [(mk, pv)], I ++ [(mk, l)], MK, [], rfl, rfl, by rw [List.length_append, HNN.out]; rfl, hc', HF.out.symm, by have := HRS.out; omega, by have := HRS.out; show 0 + _ ≤ _; omega, by have := HRS.out; omega⟩, by have := HRS.out; show (U.extract MK.size U.size).size < u.size; omega⟩
end Go.Proofs.YthhbpebihgjpjaaGreatDoor
