import Derived.Test.YthhbpebihgjpjaaGreatDoorK20
namespace Go.Proofs.YthhbpebihgjpjaaGreatDoor
open Go.RowKit Go.Maps
set_option maxRecDepth 1000000

theorem ruleS_cmd (S : St) (no : Nat) (t : ByteArray) (rest : List Line) : ruleS S no t rest =
    if wordLenB (leftB t) = 0 ∨ (leftB (tailB (leftB t))).size ≠ 0 then .error (.syn, no)
    else if (bindOf S.rules (headB (leftB t))).isSome = true then .error (.rul, no)
    else match indented rest with
      | none => .error (.syn, no)
      | some xr => match cmdS xr.1.2 with
        | none => .error (.syn, xr.1.1)
        | some v => match indented xr.2 with
          | some y => .error (.syn, y.1.1)
          | none => .ok ({ S with rules := S.rules ++ [(headB (leftB t), v)] }, xr.2) := by
  unfold ruleS
  split
  · rfl
  split
  · rfl
  cases indented rest with
  | none => rfl
  | some xr =>
    simp only
    cases hb : bindS xr.1.2 with
    | none => simp only [cmdS, hb]
    | some nv =>
      simp only [cmdS, hb]
      by_cases hq : nv.1 ≠ tCommand ∨ expandS noVars nv.2 = none
      · rw [if_pos hq, if_pos hq]
      · rw [if_neg hq, if_neg hq]
        rfl
theorem indented_some {ls : List Line} {xr : Line × List Line} (h : indented ls = some xr) : ls = xr.1 :: xr.2 ∧ begins xr.1.2 32 = true := by
  cases ls with
  | nil => cases h
  | cons y l =>
    rw [indented] at h
    by_cases hb : begins y.2 32 = true
    · rw [if_pos hb] at h
      obtain rfl := Option.some.inj h
      exact ⟨rfl, hb⟩
    · rw [if_neg hb] at h; cases h
set_option maxHeartbeats 8000000 in
theorem readRule_last {p : PV} {a : Nat → Addr} {B : Nat} {w : World} {rb no : Nat} {ls : List Line} {S : St} {m : Nat} {t : ByteArray} (h : PStC p a B w rb (no : Nat) ls S (m + 1)) (ht : t.size ≤ 4000) (x : Line) (rest : List Line) (v : ByteArray) (hN : (headB (leftB t)).size ≠ 0) (hU : leftB (tailB (leftB t)) = ⟨#[]⟩) (hk : bindOf S.rules (headB (leftB t)) = none) (hi : indented ls = some (x, rest)) (hc : cmdS x.2 = some v) (r : Res) (hres : r = match indented rest with
      | some y => .error (.syn, y.1.1)
      | none => .ok ({ S with rules := S.rules ++ [(headB (leftB t), v)] }, rest)) :
    Calls Tryz.prog 195 #[.pointer (some ⟨rb, 0, none⟩), .string t] w (stmtEnd a B rb m w r) := by
  have HRES : Hid (r = match indented rest with
      | some y => .error (.syn, y.1.1)
      | none => .ok ({ S with rules := S.rules ++ [(headB (leftB t), v)] }, rest)) := hres
  clear hres
  have H : Hid (PStC p a B w rb (no : Nat) ls S (m + 1)) := h
  have HLS : Hid (ls = x :: rest) := (indented_some hi).1
  have hls := leftB_le t
  have HVS : Hid (v.size ≤ 4000) := by
    have h1 := h.ok.lines x (by rw [HLS.out]; exact List.mem_cons_self)
    unfold cmdS at hc
    cases hb : bindS x.2 with
    | none => rw [hb] at hc; cases hc
    | some nv =>
      rw [hb] at hc
      simp only at hc
      split at hc
      · cases hc
      · obtain rfl := Option.some.inj hc
        exact Nat.le_trans (bindS_size hb).2.1 h1
  have HW1 : Hid (∀ wx, Calls Tryz.prog 191 #[.string t] wx fun e w' => e = .returned (.string (leftB t)) ∧ w' = wx) := fun wx => withoutBlanks_any t wx
  generalize leftB t = T at *
  have HCW : Hid (∀ wx, Calls Tryz.prog 194 #[.string T] wx fun e w' => e = .returned (.tuple #[.string (headB T), .string (tailB T)]) ∧ ∃ n, w' = wx.drewN n) := fun wx => cutWord_any T (by omega) wx
  have hhs := headB_size T
  have hwl : wordLenB T ≤ T.size := spanLen_le _ _
  have hds : (headB T).size ≤ 4000 := by omega
  clear hhs hwl
  generalize tailB T = TL at *
  have HW2 : Hid (∀ wx, Calls Tryz.prog 191 #[.string TL] wx fun e w' => e = .returned (.string ⟨#[]⟩) ∧ w' = wx) := fun wx => by rw [← hU]; exact withoutBlanks_any TL wx
  have hnn := nil_iff (headB T)
  rw [decide_eq_false hN] at hnn
  generalize headB T = HD at *
  have HZ : Hid (∀ w, (zeroValue 316).run Tryz.prog w = .ok textZ w) := fun w => by kernel_rfl
  have HLK : Hid (∀ wx, PStC p a B wx rb (no : Nat) ls S (m + 1) → (Instr.lookup 197 (.map (some p.rm)) (.string HD) true).run Tryz.prog wx = .ok (.tuple #[((bindOf S.rules HD).map textV).getD textZ, .bool ((bindOf S.rules HD).map textV).isSome]) wx) := fun wx hx => TMap.look_ok hx.rules (t := 197) Tryz.underlying197 HZ.out HD (by unfold maxLen; omega)
  rw [hk] at HLK
  have HK : Hid (bindOf S.rules HD = none) := hk
  clear hk hU h
  go_enter Tryz.func195, Tryz.ntmps195
  go_wp2_with fail
  refine (HW1.out _).mono ?_
  rintro e w1 ⟨rfl, rfl⟩
  go_wp2_with fail
  refine (HCW.out _).mono ?_
  rintro e w2 ⟨rfl, k2, hw2⟩
  have HP2 : Hid (PStC p a B w2.drew rb (no : Nat) ls S (m + 1)) := by rw [hw2]; exact H.out.below (below_drewN (Below.refl _ w1) k2).drew
  have HB2 : Hid (Below B w1 w2.drew) := by rw [hw2]; exact (below_drewN (Below.refl _ w1) k2).drew
  have e4 : w2.cell? ⟨4, 0, none⟩ = some (.iface 472 (.pointer (some (a 4)))) := HP2.out.gl.errs 4 (by decide)
  clear hw2
  go_wp2_with fail
  go_region_with (first | (go_at_call 191; refine (HW2.out _).mono ?_; rintro e w8 ⟨rfl, rfl⟩) | (go_at_call 112; refine (need_yes _ _ _).mono ?_; rintro e w8 ⟨rfl, rfl⟩))
  all_goals
    obtain ⟨w3, hw3⟩ : ∃ w3, w3 = w2.drew := ⟨_, rfl⟩
    rw [← hw3]
    rw [← hw3] at HP2 HB2
    have hlk : (Instr.lookup 197 (.map (some p.rm)) (.string HD) true).run Tryz.prog w3 = .ok (.tuple #[.agg #[.string (⟨#[]⟩)], .bool false]) w3 := HLK.out w3 HP2.out
    have d3 : w3.cell? ⟨rb, 3, none⟩ = some (.map (some p.rm)) := by rw [cell_of_row _ _ _ _ _ _ HP2.out.row]; rfl
    have f5 : w3.cell? ⟨5, 0, none⟩ = some (.iface 472 (.pointer (some (a 5)))) := HP2.out.gl.errs 5 (by decide)
    have f4 : w3.cell? ⟨4, 0, none⟩ = some (.iface 472 (.pointer (some (a 4)))) := HP2.out.gl.errs 4 (by decide)
    have l5 : 5 < w3.heap.size := by have := HP2.out.gl.size; omega
    have l4 : 4 < w3.heap.size := by omega
    have hrb3 := HP2.out.rowlt
    have HPA : Hid (PStC p a B (w3.alloc (.cells #[.string (⟨#[]⟩)] 316)).drew rb (no : Nat) ls S (m + 1)) := (HP2.out.below ((Below.refl _ _).alloc (Nat.le_refl _) _)).below (Below.refl _ _).drew
    have HBA : Hid (Below B w1 (w3.alloc (.cells #[.string (⟨#[]⟩)] 316)).drew) := (HB2.out.alloc HP2.out.bw _).drew
    clear hw3 e4
    go_wp2_with fail
    refine (need_yes _ _ _).mono ?_
    rintro e w7 ⟨rfl, rfl⟩
    have HBD := boundAhead_any HPA.out
    rw [hi] at HBD
    have HBD : Hid (Calls Tryz.prog 263 #[.pointer (some ⟨rb, 0, none⟩)] (w3.alloc (.cells #[.string ⟨#[]⟩] 316)).drew _) := HBD
    go_wp2_with fail
    go_region_with (first | (go_at_call 263; refine HBD.out.mono ?_; rintro e w8 ⟨rfl, rfl⟩) | (go_at_call 112; refine (need_yes _ _ _).mono ?_; rintro e w8 ⟨rfl, rfl⟩))
    all_goals
      obtain ⟨w4, hw4⟩ : ∃ w4, w4 = (w3.alloc (.cells #[.string ⟨#[]⟩] 316)).drew := ⟨_, rfl⟩
      rw [← hw4]
      rw [← hw4] at HPA HBA
      have HPB : Hid (PStC p a B w4.drew rb (no : Nat) ls S (m + 1)) := HPA.out.below (Below.refl _ _).drew
      have HBB : Hid (Below B w1 w4.drew) := HBA.out.drew
      have d3' : w4.cell? ⟨rb, 3, none⟩ = some (.map (some p.rm)) := by rw [cell_of_row _ _ _ _ _ _ HPA.out.row]; rfl
      have HPC : PStC p a B w4.drew rb (no : Nat) (x :: rest) S (m + 1) := by rw [← HLS.out]; exact HPB.out
      have HRC := readCommand_any HPC
      rw [hc] at HRC
      clear hw4 hlk d3 f5 f4 HBD
      go_wp2_with fail
      go_region_with (go_at_call 264; refine HRC.mono ?_; rintro e w8 ⟨rfl, ⟨vl8, hp8⟩, hg8⟩; obtain ⟨w9, hrun9, hst9, hg9⟩ := TMap.store hp8.rules (t := 197) Tryz.underlying197 (by have := hp8.few; show p.n2 < maxLen; have h2 : p.n2 + (m + 1) ≤ 5000 := this.2.1; unfold maxLen; omega) HD (by unfold maxLen; omega) (textV v) (textV_ok v); have hrun9 : (Instr.mapUpdate 197 (.map (some p.rm)) (.string HD) (.agg #[.string v])).run Tryz.prog w8 = .ok () w9 := hrun9; have d8 : w8.cell? ⟨rb, 3, none⟩ = some (.map (some p.rm)) := (by rw [cell_of_row _ _ _ _ _ _ hp8.row]; rfl))
      all_goals
        have HP9 : Hid (PStC { { p with vl := vl8 } with n2 := p.n2 + 1 } a B w9 rb (x.1 : Nat) rest { S with rules := S.rules ++ [(HD, v)] } m) := hp8.addRule hg9 (BMap.set hst9) HK.out HVS.out
        have HB9 : Hid (Below B w1 w9) := (HBB.out.trans (grown_below hg8 HPC.lowrb HPC.bw)).trans (grown_below hg9 (by rcases Nat.lt_or_ge p.rm B with q | q; (have h1 := H.out.low p.rm q; have h2 := H.out.c3; omega); exact q) hp8.bw)
        clear hrun9 hst9 hg9 hp8 hg8 HRC d8
        have HBN := boundAhead_any HP9.out
        cases hr : indented rest with
        | none =>
          rw [hr] at HBN
          go_wp2_with fail
          refine HBN.mono ?_
          rintro e w10 ⟨rfl, rfl⟩
          go_wp2_with fail
          go_end0
          have HRR := HRES.out
          rw [hr] at HRR
          rw [HRR]
          exact ⟨rfl, ⟨_, _, HP9.out⟩, HB9.out⟩
        | some y =>
          rw [hr] at HBN
          have HRR := HRES.out
          rw [hr] at HRR
          have HRR : Hid (r = .error (.syn, y.1.1)) := HRR
          obtain ⟨y, r2⟩ := y
          obtain rfl := (indented_some hr).1
          have HTK := take_any HP9.out
          go_wp2_with fail
          refine HBN.mono ?_
          rintro e w10 ⟨rfl, rfl⟩
          go_wp2_with fail
          refine HTK.mono ?_
          rintro e w11 ⟨rfl, ⟨vl11, hp11⟩, hg11⟩
          have g4 : w11.cell? ⟨4, 0, none⟩ = some (.iface 472 (.pointer (some (a 4)))) := hp11.gl.errs 4 (by decide)
          have HFL := fail_any rb (y.1 : Nat) 472 (.pointer (some (a 4))) w11 hp11.at0
          have HB11 : Hid (Below B w1 w11) := HB9.out.trans (grown_below hg11 HP9.out.lowrb HP9.out.bw)
          have hbw11 := hp11.bw
          clear hp11 hg11
          go_wp2_with fail
          refine HFL.mono ?_
          rintro e w12 ⟨⟨b, rfl, s0, s1⟩, hb12⟩
          exact ⟨rfl, ⟨b, rfl, s0, s1⟩, HB11.out.trans (hb12.mono hbw11)⟩
end Go.Proofs.YthhbpebihgjpjaaGreatDoor

namespace Go.Proofs.YthhbpebihgjpjaaGreatDoor
open Go.RowKit Go.Maps
set_option maxRecDepth 1000000

set_option maxHeartbeats 8000000 in
theorem readRule_any {p : PV} {a : Nat → Addr} {B : Nat} {w : World} {rb no : Nat} {ls : List Line} {S : St} {m : Nat} {t : ByteArray} (h : PStC p a B w rb (no : Nat) ls S (m + 1)) (ht : t.size ≤ 4000) :
    Calls Tryz.prog 195 #[.pointer (some ⟨rb, 0, none⟩), .string t] w (stmtEnd a B rb m w (ruleS S no t ls)) := by
  have HR : Hid (ruleS S no t ls = _) := ruleS_cmd S no t ls
  have H : Hid (PStC p a B w rb (no : Nat) ls S (m + 1)) := h
  have HLAST : Hid (∀ (x : Line) (rest : List Line) (v : ByteArray), (headB (leftB t)).size ≠ 0 → leftB (tailB (leftB t)) = ⟨#[]⟩ → bindOf S.rules (headB (leftB t)) = none → indented ls = some (x, rest) → cmdS x.2 = some v → ∀ r : Res, (r = match indented rest with
      | some y => .error (.syn, y.1.1)
      | none => .ok ({ S with rules := S.rules ++ [(headB (leftB t), v)] }, rest)) → Calls Tryz.prog 195 #[.pointer (some ⟨rb, 0, none⟩), .string t] w (stmtEnd a B rb m w r)) := fun x rest v h1 h2 h3 h4 h5 r h6 => readRule_last h ht x rest v h1 h2 h3 h4 h5 r h6
  have hls := leftB_le t
  have HW1 : Hid (∀ wx, Calls Tryz.prog 191 #[.string t] wx fun e w' => e = .returned (.string (leftB t)) ∧ w' = wx) := fun wx => withoutBlanks_any t wx
  generalize leftB t = T at *
  have HCW : Hid (∀ wx, Calls Tryz.prog 194 #[.string T] wx fun e w' => e = .returned (.tuple #[.string (headB T), .string (tailB T)]) ∧ ∃ n, w' = wx.drewN n) := fun wx => cutWord_any T (by omega) wx
  have hhs := headB_size T
  have hwl : wordLenB T ≤ T.size := spanLen_le _ _
  generalize tailB T = TL at *
  have HW2 : Hid (∀ wx, Calls Tryz.prog 191 #[.string TL] wx fun e w' => e = .returned (.string (leftB TL)) ∧ w' = wx) := fun wx => withoutBlanks_any TL wx
  generalize leftB TL = U at *
  have hnu := nil_iff U
  have c4 : w.cell? ⟨4, 0, none⟩ = some (.iface 472 (.pointer (some (a 4)))) := h.gl.errs 4 (by decide)
  have c5 : w.cell? ⟨5, 0, none⟩ = some (.iface 472 (.pointer (some (a 5)))) := h.gl.errs 5 (by decide)
  have hnn := nil_iff (headB T)
  rw [hhs] at hnn
  generalize headB T = HD at *
  rw [← hhs] at HR hnn
  have hds : HD.size ≤ 4000 := by omega
  clear hwl
  generalize wordLenB T = N at *
  subst hhs
  have HNO : Hid (∀ wx k, Below B w wx → wx.cell? ⟨rb, 0, none⟩ = some (.int .i64 (no : Nat)) → Calls Tryz.prog 112 #[.pointer (some ⟨rb, 0, none⟩), .bool false, .iface 472 (.pointer (some (a k)))] wx fun e w' => Stopped (no : Nat) (reasonV a k) e w' ∧ Below B w w') := fun wx k hb h0 => (need_no rb (no : Nat) _ _ wx h0).mono (fun e w' h => ⟨h.1, hb.trans (h.2.mono (Nat.le_trans H.out.bw hb.size))⟩)
  have x0 := h.at0
  clear h
  by_cases hN : HD.size = 0
  · have HF : Hid (ruleS S no t ls = .error (.syn, no)) := by rw [HR.out, if_pos (Or.inl hN)]; rfl
    obtain rfl : HD = ⟨#[]⟩ := ByteArray.size_eq_zero_iff.1 hN
    clear hnn hN HR hnu
    go_enter Tryz.func195, Tryz.ntmps195
    go_wp2_with fail
    refine (HW1.out _).mono ?_
    rintro e w1 ⟨rfl, rfl⟩
    go_wp2_with fail
    refine (HCW.out _).mono ?_
    rintro e w2 ⟨rfl, k2, hw2⟩
    have HP2 : Hid (PStC p a B w2.drew rb (no : Nat) ls S (m + 1)) := by rw [hw2]; exact H.out.below (below_drewN (Below.refl _ w1) k2).drew
    have HB2 : Hid (Below B w1 w2.drew) := by rw [hw2]; exact (below_drewN (Below.refl _ w1) k2).drew
    have e4 : w2.cell? ⟨4, 0, none⟩ = some (.iface 472 (.pointer (some (a 4)))) := HP2.out.gl.errs 4 (by decide)
    clear hw2 c4 c5 x0
    go_wp2_with fail
    refine wp_region_any (by kernel_rfl) ?_
    change wpAny _ _ _ _ _ _ _ (World.drew _)
    refine wpAny_take (i := 0) (v := .pointer (some ⟨rb, 0, none⟩)) rfl (by kernel_rfl) (by kernel_rfl) (by kernel_rfl) (fun _ _ _ h => h) (Or.inl ⟨by rfl, ?_⟩) ?_
    · intro w
      go_simp
    refine wpAny_take (i := 1) (v := .string ⟨#[]⟩) rfl (by kernel_rfl) (by kernel_rfl) (by kernel_rfl) (fun _ _ _ h => h) (Or.inl ⟨by rfl, ?_⟩) ?_
    · intro w
      go_simp
    refine wpAny_take (i := 2) (v := .bool false) rfl (by kernel_rfl) (by kernel_rfl) (by kernel_rfl) (fun _ _ _ h => h) (Or.inl ⟨by rfl, ?_⟩) ?_
    · intro w
      go_simp
    refine wpAny_take (i := 3) (v := .bool false) rfl (by kernel_rfl) (by kernel_rfl) (by kernel_rfl) (fun _ _ _ h => h) (Or.inl ⟨by rfl, ?_⟩) ?_
    · intro w
      go_simp
    refine wpAny_take (i := 4) (v := undef) rfl (by kernel_rfl) (by kernel_rfl) (by kernel_rfl) (fun _ _ _ h => h) (Or.inr ⟨by rfl, rfl⟩) ?_
    refine wpAny_take (i := 5) (v := undef) rfl (by kernel_rfl) (by kernel_rfl) (by kernel_rfl) (fun _ _ _ h => h) (Or.inr ⟨by rfl, rfl⟩) ?_
    refine wpAny_take (i := 6) (v := undef) rfl (by kernel_rfl) (by kernel_rfl) (by kernel_rfl) (fun _ _ _ h => h) (Or.inr ⟨by rfl, rfl⟩) ?_
    refine wpAny_take (i := 7) (v := .bool false) rfl (by kernel_rfl) (by kernel_rfl) (by kernel_rfl) (fun _ _ _ h => h) (Or.inl ⟨by rfl, ?_⟩) ?_
    · intro w
      go_simp
    refine wpAny_ready (rs := [8]) (by kernel_rfl) (by simp) ?_
    refine AllReady.cons rfl (fun K hK => ?_) AllReady.nil
    go_simp
    refine hK _ _ ?_
    clear hK K
    refine wpAny_ready (rs := [9]) (by kernel_rfl) (by simp) ?_
    refine AllReady.cons rfl (fun K hK => ?_) AllReady.nil
    go_simp
    refine (HNO.out _ 4 HB2.out HP2.out.at0).mono ?_
    rintro e w8 ⟨hst, hb8⟩
    obtain ⟨b, rfl, s0, s1⟩ := hst
    exact ⟨rfl, (by rw [HF.out]; exact ⟨⟨b, rfl, s0, s1⟩, hb8⟩)⟩
  · rw [decide_eq_false hN] at hnn
    by_cases hU : U.size = 0
    · have HR2 := HR.out
      rw [if_neg (by omega)] at HR2
      obtain rfl : U = ⟨#[]⟩ := ByteArray.size_eq_zero_iff.1 hU
      clear hU hnu
      have HR : Hid (ruleS S no t ls = _) := HR2
      clear HR2
      have HZ : Hid (∀ w, (zeroValue 316).run Tryz.prog w = .ok textZ w) := fun w => by kernel_rfl
      have HLK : Hid (∀ wx, PStC p a B wx rb (no : Nat) ls S (m + 1) → (Instr.lookup 197 (.map (some p.rm)) (.string HD) true).run Tryz.prog wx = .ok (.tuple #[((bindOf S.rules HD).map textV).getD textZ, .bool ((bindOf S.rules HD).map textV).isSome]) wx) := fun wx hx => TMap.look_ok hx.rules (t := 197) Tryz.underlying197 HZ.out HD (by unfold maxLen; omega)
      cases hk : bindOf S.rules HD with
      | some y =>
        have HF : Hid (ruleS S no t ls = .error (.rul, no)) := by rw [HR.out, hk]; rfl
        rw [hk] at HLK
        clear HR hk
        go_enter Tryz.func195, Tryz.ntmps195
        go_wp2_with fail
        refine (HW1.out _).mono ?_
        rintro e w1 ⟨rfl, rfl⟩
        go_wp2_with fail
        refine (HCW.out _).mono ?_
        rintro e w2 ⟨rfl, k2, hw2⟩
        have HP2 : Hid (PStC p a B w2.drew rb (no : Nat) ls S (m + 1)) := by rw [hw2]; exact H.out.below (below_drewN (Below.refl _ w1) k2).drew
        have HB2 : Hid (Below B w1 w2.drew) := by rw [hw2]; exact (below_drewN (Below.refl _ w1) k2).drew
        have e4 : w2.cell? ⟨4, 0, none⟩ = some (.iface 472 (.pointer (some (a 4)))) := HP2.out.gl.errs 4 (by decide)
        clear hw2 c4 c5 x0
        go_wp2_with fail
        go_region_with (first | (go_at_call 191; refine (HW2.out _).mono ?_; rintro e w8 ⟨rfl, rfl⟩) | (go_at_call 112; refine (need_yes _ _ _).mono ?_; rintro e w8 ⟨rfl, rfl⟩))
        all_goals
          obtain ⟨w3, hw3⟩ : ∃ w3, w3 = w2.drew := ⟨_, rfl⟩
          rw [← hw3]
          rw [← hw3] at HP2 HB2
          have hlk : (Instr.lookup 197 (.map (some p.rm)) (.string HD) true).run Tryz.prog w3 = .ok (.tuple #[.agg #[.string (y)], .bool true]) w3 := HLK.out w3 HP2.out
          have d3 : w3.cell? ⟨rb, 3, none⟩ = some (.map (some p.rm)) := by rw [cell_of_row _ _ _ _ _ _ HP2.out.row]; rfl
          have f5 : w3.cell? ⟨5, 0, none⟩ = some (.iface 472 (.pointer (some (a 5)))) := HP2.out.gl.errs 5 (by decide)
          have f4 : w3.cell? ⟨4, 0, none⟩ = some (.iface 472 (.pointer (some (a 4)))) := HP2.out.gl.errs 4 (by decide)
          have l5 : 5 < w3.heap.size := by have := HP2.out.gl.size; omega
          have l4 : 4 < w3.heap.size := by omega
          have hrb3 := HP2.out.rowlt
          have HPA : Hid (PStC p a B (w3.alloc (.cells #[.string (y)] 316)) rb (no : Nat) ls S (m + 1)) := HP2.out.below ((Below.refl _ _).alloc (Nat.le_refl _) _)
          have HBA : Hid (Below B w1 (w3.alloc (.cells #[.string (y)] 316))) := HB2.out.alloc HP2.out.bw _
          clear hw3 e4
          go_wp2_with fail
          refine (HNO.out _ 5 HBA.out HPA.out.at0).mono ?_
          rintro e w8 ⟨hst, hb8⟩
          obtain ⟨b, rfl, s0, s1⟩ := hst
          exact ⟨rfl, (by rw [HF.out]; exact ⟨⟨b, rfl, s0, s1⟩, hb8⟩)⟩
      | none =>
        rw [hk] at HLK HR
        have HK : Hid (bindOf S.rules HD = none) := hk
        clear hk
        cases hi : indented ls with
        | none =>
          have HF : Hid (ruleS S no t ls = .error (.syn, no)) := by rw [HR.out, hi]; rfl
          clear HR
          go_enter Tryz.func195, Tryz.ntmps195
          go_wp2_with fail
          refine (HW1.out _).mono ?_
          rintro e w1 ⟨rfl, rfl⟩
          go_wp2_with fail
          refine (HCW.out _).mono ?_
          rintro e w2 ⟨rfl, k2, hw2⟩
          have HP2 : Hid (PStC p a B w2.drew rb (no : Nat) ls S (m + 1)) := by rw [hw2]; exact H.out.below (below_drewN (Below.refl _ w1) k2).drew
          have HB2 : Hid (Below B w1 w2.drew) := by rw [hw2]; exact (below_drewN (Below.refl _ w1) k2).drew
          have e4 : w2.cell? ⟨4, 0, none⟩ = some (.iface 472 (.pointer (some (a 4)))) := HP2.out.gl.errs 4 (by decide)
          clear hw2 c4 c5 x0
          go_wp2_with fail
          go_region_with (first | (go_at_call 191; refine (HW2.out _).mono ?_; rintro e w8 ⟨rfl, rfl⟩) | (go_at_call 112; refine (need_yes _ _ _).mono ?_; rintro e w8 ⟨rfl, rfl⟩))
          all_goals
            obtain ⟨w3, hw3⟩ : ∃ w3, w3 = w2.drew := ⟨_, rfl⟩
            rw [← hw3]
            rw [← hw3] at HP2 HB2
            have hlk : (Instr.lookup 197 (.map (some p.rm)) (.string HD) true).run Tryz.prog w3 = .ok (.tuple #[.agg #[.string (⟨#[]⟩)], .bool false]) w3 := HLK.out w3 HP2.out
            have d3 : w3.cell? ⟨rb, 3, none⟩ = some (.map (some p.rm)) := by rw [cell_of_row _ _ _ _ _ _ HP2.out.row]; rfl
            have f5 : w3.cell? ⟨5, 0, none⟩ = some (.iface 472 (.pointer (some (a 5)))) := HP2.out.gl.errs 5 (by decide)
            have f4 : w3.cell? ⟨4, 0, none⟩ = some (.iface 472 (.pointer (some (a 4)))) := HP2.out.gl.errs 4 (by decide)
            have l5 : 5 < w3.heap.size := by have := HP2.out.gl.size; omega
            have l4 : 4 < w3.heap.size := by omega
            have hrb3 := HP2.out.rowlt
            have HPA : Hid (PStC p a B (w3.alloc (.cells #[.string (⟨#[]⟩)] 316)).drew rb (no : Nat) ls S (m + 1)) := (HP2.out.below ((Below.refl _ _).alloc (Nat.le_refl _) _)).below (Below.refl _ _).drew
            have HBA : Hid (Below B w1 (w3.alloc (.cells #[.string (⟨#[]⟩)] 316)).drew) := (HB2.out.alloc HP2.out.bw _).drew
            clear hw3 e4
            go_wp2_with fail
            refine (need_yes _ _ _).mono ?_
            rintro e w7 ⟨rfl, rfl⟩
            have HBD := boundAhead_any HPA.out
            rw [hi] at HBD
            have HBD : Hid (Calls Tryz.prog 263 #[.pointer (some ⟨rb, 0, none⟩)] (w3.alloc (.cells #[.string ⟨#[]⟩] 316)).drew _) := HBD
            go_wp2_with fail
            go_region_with (first | (go_at_call 263; refine HBD.out.mono ?_; rintro e w8 ⟨rfl, rfl⟩) | (go_at_call 112; refine (HNO.out _ 4 HBA.out HPA.out.at0).mono ?_; rintro e w8 ⟨hst, hb8⟩; obtain ⟨b, rfl, s0, s1⟩ := hst; refine dead_end ⟨rfl, (by rw [HF.out]; exact ⟨⟨b, rfl, s0, s1⟩, hb8⟩)⟩ w1 ?_))
            all_goals trivial
        | some xr =>
          obtain ⟨x, rest⟩ := xr
          have HLS : Hid (ls = x :: rest) := (indented_some hi).1
          have HR3 := HR.out
          rw [hi] at HR3
          have HR : Hid (ruleS S no t ls = (match cmdS x.2 with
            | none => .error (.syn, x.1)
            | some v => match indented rest with
              | some y => .error (.syn, y.1.1)
              | none => .ok ({ S with rules := S.rules ++ [(HD, v)] }, rest))) := HR3
          clear HR3
          cases hc : cmdS x.2 with
          | none =>
            have HF : Hid (ruleS S no t ls = .error (.syn, x.1)) := by rw [HR.out, hc]; rfl
            clear HR
            go_enter Tryz.func195, Tryz.ntmps195
            go_wp2_with fail
            refine (HW1.out _).mono ?_
            rintro e w1 ⟨rfl, rfl⟩
            go_wp2_with fail
            refine (HCW.out _).mono ?_
            rintro e w2 ⟨rfl, k2, hw2⟩
            have HP2 : Hid (PStC p a B w2.drew rb (no : Nat) ls S (m + 1)) := by rw [hw2]; exact H.out.below (below_drewN (Below.refl _ w1) k2).drew
            have HB2 : Hid (Below B w1 w2.drew) := by rw [hw2]; exact (below_drewN (Below.refl _ w1) k2).drew
            have e4 : w2.cell? ⟨4, 0, none⟩ = some (.iface 472 (.pointer (some (a 4)))) := HP2.out.gl.errs 4 (by decide)
            clear hw2 c4 c5 x0
            go_wp2_with fail
            go_region_with (first | (go_at_call 191; refine (HW2.out _).mono ?_; rintro e w8 ⟨rfl, rfl⟩) | (go_at_call 112; refine (need_yes _ _ _).mono ?_; rintro e w8 ⟨rfl, rfl⟩))
            all_goals
              obtain ⟨w3, hw3⟩ : ∃ w3, w3 = w2.drew := ⟨_, rfl⟩
              rw [← hw3]
              rw [← hw3] at HP2 HB2
              have hlk : (Instr.lookup 197 (.map (some p.rm)) (.string HD) true).run Tryz.prog w3 = .ok (.tuple #[.agg #[.string (⟨#[]⟩)], .bool false]) w3 := HLK.out w3 HP2.out
              have d3 : w3.cell? ⟨rb, 3, none⟩ = some (.map (some p.rm)) := by rw [cell_of_row _ _ _ _ _ _ HP2.out.row]; rfl
              have f5 : w3.cell? ⟨5, 0, none⟩ = some (.iface 472 (.pointer (some (a 5)))) := HP2.out.gl.errs 5 (by decide)
              have f4 : w3.cell? ⟨4, 0, none⟩ = some (.iface 472 (.pointer (some (a 4)))) := HP2.out.gl.errs 4 (by decide)
              have l5 : 5 < w3.heap.size := by have := HP2.out.gl.size; omega
              have l4 : 4 < w3.heap.size := by omega
              have hrb3 := HP2.out.rowlt
              have HPA : Hid (PStC p a B (w3.alloc (.cells #[.string (⟨#[]⟩)] 316)).drew rb (no : Nat) ls S (m + 1)) := (HP2.out.below ((Below.refl _ _).alloc (Nat.le_refl _) _)).below (Below.refl _ _).drew
              have HBA : Hid (Below B w1 (w3.alloc (.cells #[.string (⟨#[]⟩)] 316)).drew) := (HB2.out.alloc HP2.out.bw _).drew
              clear hw3 e4
              go_wp2_with fail
              refine (need_yes _ _ _).mono ?_
              rintro e w7 ⟨rfl, rfl⟩
              have HBD := boundAhead_any HPA.out
              rw [hi] at HBD
              have HBD : Hid (Calls Tryz.prog 263 #[.pointer (some ⟨rb, 0, none⟩)] (w3.alloc (.cells #[.string ⟨#[]⟩] 316)).drew _) := HBD
              go_wp2_with fail
              go_region_with (first | (go_at_call 263; refine HBD.out.mono ?_; rintro e w8 ⟨rfl, rfl⟩) | (go_at_call 112; refine (need_yes _ _ _).mono ?_; rintro e w8 ⟨rfl, rfl⟩))
              all_goals
                obtain ⟨w4, hw4⟩ : ∃ w4, w4 = (w3.alloc (.cells #[.string ⟨#[]⟩] 316)).drew := ⟨_, rfl⟩
                rw [← hw4]
                rw [← hw4] at HPA HBA
                have HPB : Hid (PStC p a B w4.drew rb (no : Nat) ls S (m + 1)) := HPA.out.below (Below.refl _ _).drew
                have HBB : Hid (Below B w1 w4.drew) := HBA.out.drew
                have d3' : w4.cell? ⟨rb, 3, none⟩ = some (.map (some p.rm)) := by rw [cell_of_row _ _ _ _ _ _ HPA.out.row]; rfl
                have HPC : PStC p a B w4.drew rb (no : Nat) (x :: rest) S (m + 1) := by rw [← HLS.out]; exact HPB.out
                have HRC := readCommand_any HPC
                rw [hc] at HRC
                clear hw4 hlk d3 f5 f4 HBD
                go_wp2_with fail
                go_region_with (go_at_call 264; refine HRC.mono ?_; rintro e w8 ⟨hst, hb8⟩; obtain ⟨b, rfl, s0, s1⟩ := hst; refine dead_end ⟨rfl, (by rw [HF.out]; exact ⟨⟨b, rfl, s0, s1⟩, HBB.out.trans hb8⟩)⟩ w1 ?_)
                all_goals trivial
          | some v => exact HLAST.out x rest v hN rfl HK.out hi hc _ (by rw [HR.out, hc])
    · rw [decide_eq_false hU] at hnu
      have HF : Hid (ruleS S no t ls = .error (.syn, no)) := by rw [HR.out, if_pos (Or.inr hU)]; rfl
      clear HR
      go_enter Tryz.func195, Tryz.ntmps195
      go_wp2_with fail
      refine (HW1.out _).mono ?_
      rintro e w1 ⟨rfl, rfl⟩
      go_wp2_with fail
      refine (HCW.out _).mono ?_
      rintro e w2 ⟨rfl, k2, hw2⟩
      have HP2 : Hid (PStC p a B w2.drew rb (no : Nat) ls S (m + 1)) := by rw [hw2]; exact H.out.below (below_drewN (Below.refl _ w1) k2).drew
      have HB2 : Hid (Below B w1 w2.drew) := by rw [hw2]; exact (below_drewN (Below.refl _ w1) k2).drew
      have e4 : w2.cell? ⟨4, 0, none⟩ = some (.iface 472 (.pointer (some (a 4)))) := HP2.out.gl.errs 4 (by decide)
      clear hw2 c4 c5 x0
      go_wp2_with fail
      go_region_with (first | (go_at_call 191; refine (HW2.out _).mono ?_; rintro e w8 ⟨rfl, rfl⟩) | (go_at_call 112; refine (HNO.out _ 4 HB2.out HP2.out.at0).mono ?_; rintro e w8 ⟨hst, hb8⟩; obtain ⟨b, rfl, s0, s1⟩ := hst; refine dead_end ⟨rfl, (by rw [HF.out]; exact ⟨⟨b, rfl, s0, s1⟩, hb8⟩)⟩ w1 ?_))
      all_goals trivial
end Go.Proofs.YthhbpebihgjpjaaGreatDoor
