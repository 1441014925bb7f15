import Derived.Test.YthhbpebihgjpjaaGreatDoorK26
import Derived.Test.YthhbpebihgjpjaaGreatDoorK38
namespace Go.Proofs.YthhbpebihgjpjaaGreatDoor
open Go.RowKit Go.Maps
set_option maxRecDepth 1000000

theorem stmtEnd.from {a : Nat → Addr} {B rb m : Nat} {w w1 w' : World} {r : Res} {e : Ending} (h : stmtEnd a B rb m w1 r e w') (hb : Below B w w1) : stmtEnd a B rb m w r e w' := by
  unfold stmtEnd at *
  cases r with
  | error bk => exact ⟨h.1, hb.trans h.2⟩
  | ok Sr => exact ⟨h.1, h.2.1, hb.trans h.2.2⟩
theorem keyword_is (t k : ByteArray) : keywordB t k = (begins (tailB t) 32 && decide (headB t = k)) := by
  unfold keywordB begins
  rw [tailB_size, Bool.eq_iff_iff]
  simp only [decide_eq_true_eq, Bool.and_eq_true]
  have hle : wordLenB t ≤ t.size := spanLen_le _ _
  have hb : wordLenB t < t.size → byteOf (tailB t) 0 = byteOf t (wordLenB t) := fun h => by
    unfold tailB
    rw [byteOf_extract _ _ _ _ (by omega) (Nat.le_refl _), Nat.add_zero]
  constructor
  · rintro ⟨h1, h2, h3⟩
    exact ⟨⟨by omega, by rw [hb h2]; exact h3⟩, h1⟩
  · rintro ⟨⟨h1, h2⟩, h3⟩
    have h4 : wordLenB t < t.size := by omega
    exact ⟨h3, h4, by rw [← hb h4]; exact h2⟩
theorem tail_of {t k : ByteArray} (h : headB t = k) : t.extract k.size t.size = tailB t := by
  have := headB_size t
  rw [h] at this
  unfold tailB
  rw [this]
set_option maxHeartbeats 8000000 in
theorem readStatement_any (hE : EdgeDone) {p : PV} {a : Nat → Addr} {B : Nat} {w : World} {rb : Nat} {n : Int} {x : Line} {rest : List Line} {S : St} {m : Nat} (h : PStC p a B w rb n (x :: rest) S (m + 1)) :
    Calls Tryz.prog 114 #[.pointer (some ⟨rb, 0, none⟩)] w (stmtEnd a B rb m w (stmtS S x.1 x.2 rest)) := by
  have H : Hid (PStC p a B w rb n (x :: rest) S (m + 1)) := h
  have HT := take_any h
  have hts : x.2.size ≤ 4000 := h.ok.lines x List.mem_cons_self
  obtain ⟨xn, xt⟩ := x
  have HT : Hid (Calls Tryz.prog 192 #[.pointer (some ⟨rb, 0, none⟩)] w fun e w' => e = .returned (.string xt) ∧ (∃ vl', PStC { p with vl := vl' } a B w' rb (xn : Nat) rest S (m + 1)) ∧ w.grownBy w' (some rb)) := HT
  simp only at hts
  show Calls _ _ _ _ (stmtEnd a B rb m w (stmtS S xn xt rest))
  clear h
  have HS : Hid (stmtS S xn xt rest = if begins xt 32 = true then .error (.syn, xn)
    else if keywordB xt tRule = true then ruleS S xn (xt.extract 4 xt.size) rest
    else if keywordB xt tBuild = true then buildS S xn (xt.extract 5 xt.size) rest
    else if keywordB xt tDefault = true then defaultS S xn (xt.extract 7 xt.size) rest
    else varS S xn xt rest) := rfl
  have HPT : Hid (∀ wx, Calls Tryz.prog 193 #[.string xt, .string ⟨#[32]⟩] wx fun e w' => e = .returned (.bool (begins xt 32)) ∧ w' = wx) := fun wx => hasPrefix_any xt 32 wx
  cases hb : begins xt 32 with
  | true =>
    have HF : Hid (stmtS S xn xt rest = .error (.syn, xn)) := by rw [HS.out, if_pos hb]; rfl
    rw [hb] at HPT
    go_enter Tryz.func114, Tryz.ntmps114
    go_wp2_with fail
    refine HT.out.mono ?_
    rintro e w1 ⟨rfl, ⟨vl1, hp1⟩, hg1⟩
    have HP1 : Hid (PStC { p with vl := vl1 } a B w1.drew rb (xn : Nat) rest S (m + 1)) := hp1.below (Below.refl _ _).drew
    have HB1 : Hid (Below B w w1.drew) := (grown_below hg1 H.out.lowrb H.out.bw).drew
    have c4 : w1.cell? ⟨4, 0, none⟩ = some (.iface 472 (.pointer (some (a 4)))) := hp1.gl.errs 4 (by decide)
    clear hp1 hg1
    go_wp2_with fail
    have HNO : Hid (Calls Tryz.prog 112 #[.pointer (some ⟨rb, 0, none⟩), .bool false, .iface 472 (.pointer (some (a 4)))] w1.drew fun e w' => Stopped (xn : Nat) (reasonV a 4) e w' ∧ Below B w w') := (need_no rb (xn : Nat) _ _ w1.drew HP1.out.at0).mono (fun e w' h => ⟨h.1, HB1.out.trans (h.2.mono HP1.out.bw)⟩)
    go_region_with (first | (go_at_call 193; refine (HPT.out _).mono ?_; rintro e w8 ⟨rfl, rfl⟩) | (go_at_call 112; refine HNO.out.mono ?_; rintro e w8 ⟨hst, hb8⟩; obtain ⟨b, rfl, s0, s1⟩ := hst; refine dead_end ⟨rfl, (by rw [HF.out]; exact ⟨⟨b, rfl, s0, s1⟩, hb8⟩)⟩ w ?_))
    all_goals trivial
  | false =>
    have HCW : Hid (∀ wx, Calls Tryz.prog 194 #[.string xt] wx fun e w' => e = .returned (.tuple #[.string (headB xt), .string (tailB xt)]) ∧ ∃ n, w' = wx.drewN n) := fun wx => cutWord_any xt (by omega) wx
    have HPR : Hid (∀ wx, Calls Tryz.prog 193 #[.string (tailB xt), .string ⟨#[32]⟩] wx fun e w' => e = .returned (.bool (begins (tailB xt) 32)) ∧ w' = wx) := fun wx => hasPrefix_any (tailB xt) 32 wx
    have HTS : Hid ((tailB xt).size ≤ 4000) := by show _ ≤ _; rw [tailB_size]; omega
    have HTO : Hid (∀ k, headB xt = k → xt.extract k.size xt.size = tailB xt) := fun k hk => tail_of hk
    rw [hb, if_neg (by decide), keyword_is, keyword_is, keyword_is] at HS
    rw [hb] at HPT
    clear hb
    generalize tailB xt = TL at *
    cases hp : begins TL 32 with
    | false =>
      have HF : Hid (stmtS S xn xt rest = varS S xn xt rest) := by
        rw [HS.out, hp]; rfl
      rw [hp] at HPR
      clear HS
      generalize headB xt = HD at *
      go_enter Tryz.func114, Tryz.ntmps114
      go_wp2_with fail
      refine HT.out.mono ?_
      rintro e w1 ⟨rfl, ⟨vl1, hp1⟩, hg1⟩
      have HP1 : Hid (PStC { p with vl := vl1 } a B w1.drew rb (xn : Nat) rest S (m + 1)) := hp1.below (Below.refl _ _).drew
      have HB1 : Hid (Below B w w1.drew) := (grown_below hg1 H.out.lowrb H.out.bw).drew
      have c4 : w1.cell? ⟨4, 0, none⟩ = some (.iface 472 (.pointer (some (a 4)))) := hp1.gl.errs 4 (by decide)
      clear hp1 hg1
      go_wp2_with fail
      go_region_with (first | (go_at_call 193; refine (HPT.out _).mono ?_; rintro e w8 ⟨rfl, rfl⟩) | (go_at_call 112; refine (need_yes _ _ _).mono ?_; rintro e w8 ⟨rfl, rfl⟩))
      all_goals
        obtain ⟨w2, hw2⟩ : ∃ w2, w2 = w1.drew := ⟨_, rfl⟩
        rw [← hw2]
        rw [← hw2] at HP1 HB1
        clear hw2 c4
        go_wp2_with fail
        refine (HCW.out _).mono ?_
        rintro e w3 ⟨rfl, k3, hw3⟩
        have HP3 : Hid (PStC { p with vl := vl1 } a B w3 rb (xn : Nat) rest S (m + 1)) := by rw [hw3]; exact HP1.out.below (below_drewN (Below.refl _ _) k3)
        have HB3 : Hid (Below B w w3) := by rw [hw3]; exact below_drewN HB1.out k3
        have d2 : w3.cell? ⟨rb, 2, none⟩ = some (.pointer (some ⟨p.sb, 0, none⟩)) := by rw [cell_of_row _ _ _ _ _ _ HP3.out.row]; rfl
        clear hw3 HP1 HB1
        go_wp2_with fail
        refine (HPR.out _).mono ?_
        rintro e w4 ⟨rfl, rfl⟩
        go_wp2_with fail
        refine (topVar_any HP3.out hts).mono ?_
        intro e w5 hend
        have hend := stmtEnd.from hend HB3.out
        rw [← HF.out] at hend
        cases e with
        | returned v =>
          have hv : v = .tuple #[] := by
            unfold stmtEnd at hend
            split at hend
            · obtain ⟨⟨b, e, _⟩, _⟩ := hend; cases e
            · have e := hend.1; injection e
          subst hv
          have HEND : Hid (stmtEnd a B rb m w (stmtS S xn xt rest) (.returned (.tuple #[])) w5) := hend
          clear hend
          go_wp2_with fail
          go_end0
          exact HEND.out
        | panicked c => exact ⟨rfl, hend⟩
        | outgrown =>
          unfold stmtEnd at hend
          split at hend
          · obtain ⟨⟨b, e, _⟩, _⟩ := hend; cases e
          · have e := hend.1; cases e
    | true =>
      rw [hp] at HPR HS
      simp only [Bool.true_and, decide_eq_true_eq] at HS
      by_cases h1 : headB xt = tRule
      · have HF : Hid (stmtS S xn xt rest = ruleS S xn TL rest) := by
          rw [HS.out, if_pos h1, ← HTO.out tRule h1]; rfl
        rw [h1] at HCW
        clear HS
        unfold tRule at HCW
        go_enter Tryz.func114, Tryz.ntmps114
        go_wp2_with fail
        refine HT.out.mono ?_
        rintro e w1 ⟨rfl, ⟨vl1, hp1⟩, hg1⟩
        have HP1 : Hid (PStC { p with vl := vl1 } a B w1.drew rb (xn : Nat) rest S (m + 1)) := hp1.below (Below.refl _ _).drew
        have HB1 : Hid (Below B w w1.drew) := (grown_below hg1 H.out.lowrb H.out.bw).drew
        have c4 : w1.cell? ⟨4, 0, none⟩ = some (.iface 472 (.pointer (some (a 4)))) := hp1.gl.errs 4 (by decide)
        clear hp1 hg1
        go_wp2_with fail
        go_region_with (first | (go_at_call 193; refine (HPT.out _).mono ?_; rintro e w8 ⟨rfl, rfl⟩) | (go_at_call 112; refine (need_yes _ _ _).mono ?_; rintro e w8 ⟨rfl, rfl⟩))
        all_goals
          obtain ⟨w2, hw2⟩ : ∃ w2, w2 = w1.drew := ⟨_, rfl⟩
          rw [← hw2]
          rw [← hw2] at HP1 HB1
          clear hw2 c4
          go_wp2_with fail
          refine (HCW.out _).mono ?_
          rintro e w3 ⟨rfl, k3, hw3⟩
          have HP3 : Hid (PStC { p with vl := vl1 } a B w3 rb (xn : Nat) rest S (m + 1)) := by rw [hw3]; exact HP1.out.below (below_drewN (Below.refl _ _) k3)
          have HB3 : Hid (Below B w w3) := by rw [hw3]; exact below_drewN HB1.out k3
          have d2 : w3.cell? ⟨rb, 2, none⟩ = some (.pointer (some ⟨p.sb, 0, none⟩)) := by rw [cell_of_row _ _ _ _ _ _ HP3.out.row]; rfl
          clear hw3 HP1 HB1
          go_wp2_with fail
          refine (HPR.out _).mono ?_
          rintro e w4 ⟨rfl, rfl⟩
          go_wp2_with fail
          refine (readRule_any HP3.out HTS.out).mono ?_
          intro e w5 hend
          have hend := stmtEnd.from hend HB3.out
          rw [← HF.out] at hend
          cases e with
          | returned v =>
            have hv : v = .tuple #[] := by
              unfold stmtEnd at hend
              split at hend
              · obtain ⟨⟨b, e, _⟩, _⟩ := hend; cases e
              · have e := hend.1; injection e
            subst hv
            have HEND : Hid (stmtEnd a B rb m w (stmtS S xn xt rest) (.returned (.tuple #[])) w5) := hend
            clear hend
            go_wp2_with fail
            go_end0
            exact HEND.out
          | panicked c => exact ⟨rfl, hend⟩
          | outgrown =>
            unfold stmtEnd at hend
            split at hend
            · obtain ⟨⟨b, e, _⟩, _⟩ := hend; cases e
            · have e := hend.1; cases e
      · rw [if_neg h1] at HS
        have q1 : ((headB xt).toList == [114, 117, 108, 101]) = false := text_differ h1
        by_cases h2 : headB xt = tBuild
        · have HF : Hid (stmtS S xn xt rest = buildS S xn TL rest) := by
            rw [HS.out, if_pos h2, ← HTO.out tBuild h2]; rfl
          rw [h2] at HCW
          clear HS q1
          unfold tBuild at HCW
          go_enter Tryz.func114, Tryz.ntmps114
          go_wp2_with fail
          refine HT.out.mono ?_
          rintro e w1 ⟨rfl, ⟨vl1, hp1⟩, hg1⟩
          have HP1 : Hid (PStC { p with vl := vl1 } a B w1.drew rb (xn : Nat) rest S (m + 1)) := hp1.below (Below.refl _ _).drew
          have HB1 : Hid (Below B w w1.drew) := (grown_below hg1 H.out.lowrb H.out.bw).drew
          have c4 : w1.cell? ⟨4, 0, none⟩ = some (.iface 472 (.pointer (some (a 4)))) := hp1.gl.errs 4 (by decide)
          clear hp1 hg1
          go_wp2_with fail
          go_region_with (first | (go_at_call 193; refine (HPT.out _).mono ?_; rintro e w8 ⟨rfl, rfl⟩) | (go_at_call 112; refine (need_yes _ _ _).mono ?_; rintro e w8 ⟨rfl, rfl⟩))
          all_goals
            obtain ⟨w2, hw2⟩ : ∃ w2, w2 = w1.drew := ⟨_, rfl⟩
            rw [← hw2]
            rw [← hw2] at HP1 HB1
            clear hw2 c4
            go_wp2_with fail
            refine (HCW.out _).mono ?_
            rintro e w3 ⟨rfl, k3, hw3⟩
            have HP3 : Hid (PStC { p with vl := vl1 } a B w3 rb (xn : Nat) rest S (m + 1)) := by rw [hw3]; exact HP1.out.below (below_drewN (Below.refl _ _) k3)
            have HB3 : Hid (Below B w w3) := by rw [hw3]; exact below_drewN HB1.out k3
            have d2 : w3.cell? ⟨rb, 2, none⟩ = some (.pointer (some ⟨p.sb, 0, none⟩)) := by rw [cell_of_row _ _ _ _ _ _ HP3.out.row]; rfl
            clear hw3 HP1 HB1
            go_wp2_with fail
            refine (HPR.out _).mono ?_
            rintro e w4 ⟨rfl, rfl⟩
            go_wp2_with fail
            refine (hE _ _ _ _ _ _ _ _ _ _ HP3.out HTS.out).mono ?_
            intro e w5 hend
            have hend := stmtEnd.from hend HB3.out
            rw [← HF.out] at hend
            cases e with
            | returned v =>
              have hv : v = .tuple #[] := by
                unfold stmtEnd at hend
                split at hend
                · obtain ⟨⟨b, e, _⟩, _⟩ := hend; cases e
                · have e := hend.1; injection e
              subst hv
              have HEND : Hid (stmtEnd a B rb m w (stmtS S xn xt rest) (.returned (.tuple #[])) w5) := hend
              clear hend
              go_wp2_with fail
              go_end0
              exact HEND.out
            | panicked c => exact ⟨rfl, hend⟩
            | outgrown =>
              unfold stmtEnd at hend
              split at hend
              · obtain ⟨⟨b, e, _⟩, _⟩ := hend; cases e
              · have e := hend.1; cases e
        · rw [if_neg h2] at HS
          have q2 : ((headB xt).toList == [98, 117, 105, 108, 100]) = false := text_differ h2
          by_cases h3 : headB xt = tDefault
          · have HF : Hid (stmtS S xn xt rest = defaultS S xn TL rest) := by
              rw [HS.out, if_pos h3, ← HTO.out tDefault h3]; rfl
            rw [h3] at HCW
            clear HS q1 q2
            unfold tDefault at HCW
            go_enter Tryz.func114, Tryz.ntmps114
            go_wp2_with fail
            refine HT.out.mono ?_
            rintro e w1 ⟨rfl, ⟨vl1, hp1⟩, hg1⟩
            have HP1 : Hid (PStC { p with vl := vl1 } a B w1.drew rb (xn : Nat) rest S (m + 1)) := hp1.below (Below.refl _ _).drew
            have HB1 : Hid (Below B w w1.drew) := (grown_below hg1 H.out.lowrb H.out.bw).drew
            have c4 : w1.cell? ⟨4, 0, none⟩ = some (.iface 472 (.pointer (some (a 4)))) := hp1.gl.errs 4 (by decide)
            clear hp1 hg1
            go_wp2_with fail
            go_region_with (first | (go_at_call 193; refine (HPT.out _).mono ?_; rintro e w8 ⟨rfl, rfl⟩) | (go_at_call 112; refine (need_yes _ _ _).mono ?_; rintro e w8 ⟨rfl, rfl⟩))
            all_goals
              obtain ⟨w2, hw2⟩ : ∃ w2, w2 = w1.drew := ⟨_, rfl⟩
              rw [← hw2]
              rw [← hw2] at HP1 HB1
              clear hw2 c4
              go_wp2_with fail
              refine (HCW.out _).mono ?_
              rintro e w3 ⟨rfl, k3, hw3⟩
              have HP3 : Hid (PStC { p with vl := vl1 } a B w3 rb (xn : Nat) rest S (m + 1)) := by rw [hw3]; exact HP1.out.below (below_drewN (Below.refl _ _) k3)
              have HB3 : Hid (Below B w w3) := by rw [hw3]; exact below_drewN HB1.out k3
              have d2 : w3.cell? ⟨rb, 2, none⟩ = some (.pointer (some ⟨p.sb, 0, none⟩)) := by rw [cell_of_row _ _ _ _ _ _ HP3.out.row]; rfl
              clear hw3 HP1 HB1
              go_wp2_with fail
              refine (HPR.out _).mono ?_
              rintro e w4 ⟨rfl, rfl⟩
              go_wp2_with fail
              refine (readDefaults_any HP3.out HTS.out).mono ?_
              intro e w5 hend
              have hend := stmtEnd.from hend HB3.out
              rw [← HF.out] at hend
              cases e with
              | returned v =>
                have hv : v = .tuple #[] := by
                  unfold stmtEnd at hend
                  split at hend
                  · obtain ⟨⟨b, e, _⟩, _⟩ := hend; cases e
                  · have e := hend.1; injection e
                subst hv
                have HEND : Hid (stmtEnd a B rb m w (stmtS S xn xt rest) (.returned (.tuple #[])) w5) := hend
                clear hend
                go_wp2_with fail
                go_end0
                exact HEND.out
              | panicked c => exact ⟨rfl, hend⟩
              | outgrown =>
                unfold stmtEnd at hend
                split at hend
                · obtain ⟨⟨b, e, _⟩, _⟩ := hend; cases e
                · have e := hend.1; cases e
          · rw [if_neg h3] at HS
            have q3 : ((headB xt).toList == [100, 101, 102, 97, 117, 108, 116]) = false := text_differ h3
            have HF : Hid (stmtS S xn xt rest = varS S xn xt rest) := HS.out
            clear HS h1 h2 h3 HTO
            generalize headB xt = HD at *
            go_enter Tryz.func114, Tryz.ntmps114
            go_wp2_with fail
            refine HT.out.mono ?_
            rintro e w1 ⟨rfl, ⟨vl1, hp1⟩, hg1⟩
            have HP1 : Hid (PStC { p with vl := vl1 } a B w1.drew rb (xn : Nat) rest S (m + 1)) := hp1.below (Below.refl _ _).drew
            have HB1 : Hid (Below B w w1.drew) := (grown_below hg1 H.out.lowrb H.out.bw).drew
            have c4 : w1.cell? ⟨4, 0, none⟩ = some (.iface 472 (.pointer (some (a 4)))) := hp1.gl.errs 4 (by decide)
            clear hp1 hg1
            go_wp2_with fail
            go_region_with (first | (go_at_call 193; refine (HPT.out _).mono ?_; rintro e w8 ⟨rfl, rfl⟩) | (go_at_call 112; refine (need_yes _ _ _).mono ?_; rintro e w8 ⟨rfl, rfl⟩))
            all_goals
              obtain ⟨w2, hw2⟩ : ∃ w2, w2 = w1.drew := ⟨_, rfl⟩
              rw [← hw2]
              rw [← hw2] at HP1 HB1
              clear hw2 c4
              go_wp2_with fail
              refine (HCW.out _).mono ?_
              rintro e w3 ⟨rfl, k3, hw3⟩
              have HP3 : Hid (PStC { p with vl := vl1 } a B w3 rb (xn : Nat) rest S (m + 1)) := by rw [hw3]; exact HP1.out.below (below_drewN (Below.refl _ _) k3)
              have HB3 : Hid (Below B w w3) := by rw [hw3]; exact below_drewN HB1.out k3
              have d2 : w3.cell? ⟨rb, 2, none⟩ = some (.pointer (some ⟨p.sb, 0, none⟩)) := by rw [cell_of_row _ _ _ _ _ _ HP3.out.row]; rfl
              clear hw3 HP1 HB1
              go_wp2_with fail
              refine (HPR.out _).mono ?_
              rintro e w4 ⟨rfl, rfl⟩
              go_wp2_with fail
              refine (topVar_any HP3.out hts).mono ?_
              intro e w5 hend
              have hend := stmtEnd.from hend HB3.out
              rw [← HF.out] at hend
              cases e with
              | returned v =>
                have hv : v = .tuple #[] := by
                  unfold stmtEnd at hend
                  split at hend
                  · obtain ⟨⟨b, e, _⟩, _⟩ := hend; cases e
                  · have e := hend.1; injection e
                subst hv
                have HEND : Hid (stmtEnd a B rb m w (stmtS S xn xt rest) (.returned (.tuple #[])) w5) := hend
                clear hend
                go_wp2_with fail
                go_end0
                exact HEND.out
              | panicked c => exact ⟨rfl, hend⟩
              | outgrown =>
                unfold stmtEnd at hend
                split at hend
                · obtain ⟨⟨b, e, _⟩, _⟩ := hend; cases e
                · have e := hend.1; cases e
end Go.Proofs.YthhbpebihgjpjaaGreatDoor
