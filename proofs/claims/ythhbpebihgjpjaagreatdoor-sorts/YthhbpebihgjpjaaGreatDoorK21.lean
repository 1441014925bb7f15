import Derived.Test.YthhbpebihgjpjaaGreatDoorK20
namespace Go.Proofs.YthhbpebihgjpjaaGreatDoor
open Go.RowKit Go.Shelf
set_option maxRecDepth 1000000

def pathEnd' (a : Nat → Addr) (n : Int) (r : Except Bad ByteArray) (e : Ending) (w' : World) : Prop := match r with
  | .ok p => e = .returned (.string p)
  | .error b => Stopped n (reasonV a (badK b)) e w'
set_option maxHeartbeats 4000000 in
theorem readPath_any (rb : Nat) (n : Int) (t : ByteArray) (ls : List Binds) (ao : Option Addr) (a : Nat → Addr) (w : World) (h0 : w.cell? ⟨rb, 0, none⟩ = some (.int .i64 n)) (h2 : w.cell? ⟨rb, 2, none⟩ = some (.pointer ao)) (hs : ScopesAt w (.pointer ao) ls) (hg : Gl a w) (ht : t.size ≤ 1048576) (hE : ∀ l ∈ ls, BOk l) :
    Calls Tryz.prog 320 #[.pointer (some ⟨rb, 0, none⟩), .string t] w fun e w' => pathEnd' a n (pathS (envL ls) t) e w' ∧ Below w.heap.size w w' := by
  have HX : Hid (Calls Tryz.prog 201 #[.pointer (some ⟨rb, 0, none⟩), .string t, .pointer ao] w fun e w' => expEnd a n (expandS (envL ls) t) e w' ∧ Below w.heap.size w w') := expand_any rb n t ls _ a w h0 hs hg ht (fun x => Nat.le_trans (envL_size hE x) (by omega)) (envL_nil hE)
  have HPS : Hid (pathS (envL ls) t = match expandS (envL ls) t with
    | none => .error .syn
    | some p => if okName p = true then .ok p else .error .nam) := rfl
  have H0 : Hid (w.cell? ⟨rb, 0, none⟩ = some (.int .i64 n)) := h0
  have HG : Hid (Gl a w) := hg
  have HGS : Hid (14 ≤ w.heap.size) := hg.size
  have hrb : rb < w.heap.size := block_lt_of_cell h0
  clear hs hg hE h0
  cases hx : expandS (envL ls) t with
  | none =>
    have HF : Hid (pathS (envL ls) t = .error .syn) := by rw [HPS.out, hx]; rfl
    rw [hx] at HX
    go_enter Tryz.func320, Tryz.ntmps320
    go_wp2_with fail
    refine HX.out.mono ?_
    rintro e w1 ⟨⟨b, rfl, s0, s1⟩, hb1⟩
    exact ⟨rfl, (by rw [HF.out]; exact ⟨b, rfl, s0, s1⟩), hb1⟩
  | some p =>
    rw [hx] at HX HPS
    have HNM : Hid (∀ wx, Calls Tryz.prog 73 #[.string p] wx fun e w' => e = .returned (.bool (named p)) ∧ w' = wx) := fun wx => isName_any p wx
    have HOK : Hid (okName p = (named p && !decide (p = tLog) && !decide (p = tLogNew))) := rfl
    by_cases hok : okName p = true
    · have HF : Hid (pathS (envL ls) t = .ok p) := (show pathS (envL ls) t = (if okName p = true then .ok p else .error .nam) from HPS.out).trans (if_pos hok)
      rw [HOK.out] at hok
      simp only [Bool.and_eq_true, Bool.not_eq_true', decide_eq_false_iff_not] at hok
      obtain ⟨⟨hn, hl1⟩, hl2⟩ := hok
      have q1 : (p.toList == [46, 108, 111, 103]) = false := text_differ hl1
      have q2 : (p.toList == [46, 108, 111, 103, 46, 110, 101, 119]) = false := text_differ hl2
      rw [hn] at HNM
      clear HOK
      go_enter Tryz.func320, Tryz.ntmps320
      go_wp2_with fail
      refine HX.out.mono ?_
      rintro e w1 ⟨rfl, hb1⟩
      have HB1 : Hid (Below w.heap.size w w1) := hb1
      have c0 : w1.cell? ⟨0, 0, none⟩ = some (.iface 472 (.pointer (some (a 0)))) := (HG.out.below hb1 HGS.out).errs 0 (by decide)
      clear hb1
      go_wp2_with fail
      go_region_with (first | (go_at_call 73; refine (HNM.out _).mono ?_; rintro e w8 ⟨rfl, rfl⟩) | (go_at_call 112; refine (need_yes _ _ _).mono ?_; rintro e w8 ⟨rfl, rfl⟩))
      all_goals
        go_wp2_with fail
        go_ret
        exact ⟨by rw [HF.out]; rfl, HB1.out.drew⟩
    · have HF : Hid (pathS (envL ls) t = .error .nam) := (show pathS (envL ls) t = (if okName p = true then .ok p else .error .nam) from HPS.out).trans (if_neg hok)
      rw [HOK.out] at hok
      cases hn : named p with
      | false =>
        rw [hn] at HNM
        clear HOK hok
        go_enter Tryz.func320, Tryz.ntmps320
        go_wp2_with fail
        refine HX.out.mono ?_
        rintro e w1 ⟨rfl, hb1⟩
        have HNO : Hid (Calls Tryz.prog 112 #[.pointer (some ⟨rb, 0, none⟩), .bool false, .iface 472 (.pointer (some (a 0)))] w1.drew fun e w' => Stopped n (reasonV a 0) e w' ∧ Below w.heap.size w w') := (need_no rb n _ _ w1.drew ((hb1.cell (p := ⟨rb, 0, none⟩) hrb).trans H0.out)).mono (fun e w' h => ⟨h.1, hb1.drew.trans (h.2.mono hb1.size)⟩)
        have c0 : w1.cell? ⟨0, 0, none⟩ = some (.iface 472 (.pointer (some (a 0)))) := (HG.out.below hb1 HGS.out).errs 0 (by decide)
        clear hb1
        go_wp2_with fail
        refine wp_region_any (by kernel_rfl) ?_
        change wpAny _ _ _ _ _ _ _ (World.drew _)
        refine wpAny_take (i := 0) (v := .pointer (some ⟨rb, 0, none⟩)) rfl (by kernel_rfl) (by kernel_rfl) (by kernel_rfl) (fun _ _ _ h => h) (Or.inl ⟨by rfl, ?_⟩) ?_
        · intro w
          go_simp
        refine wpAny_take (i := 1) (v := .string p) rfl (by kernel_rfl) (by kernel_rfl) (by kernel_rfl) (fun _ _ _ h => h) (Or.inl ⟨by rfl, ?_⟩) ?_
        · intro w
          go_simp
        refine wpAny_ready (rs := [2, 11]) (by kernel_rfl) (by simp) ?_
        refine AllReady.cons rfl (fun K hK => ?_) (AllReady.cons rfl (fun K hK => ?_) AllReady.nil)
        · go_simp
          go_wp2_with (go_at_call 73; refine (HNM.out _).mono ?_; rintro e w8 ⟨rfl, rfl⟩)
          refine wpAny_take (i := 3) (v := .bool false) rfl (by kernel_rfl) (by kernel_rfl) (by kernel_rfl) (fun _ _ _ h => h) (Or.inl ⟨by rfl, ?_⟩) ?_
          · intro w
            go_simp
          refine wpAny_take (i := 4) (v := undef) rfl (by kernel_rfl) (by kernel_rfl) (by kernel_rfl) (fun _ _ _ h => h) (Or.inr ⟨by rfl, rfl⟩) ?_
          refine wpAny_take (i := 5) (v := undef) rfl (by kernel_rfl) (by kernel_rfl) (by kernel_rfl) (fun _ _ _ h => h) (Or.inr ⟨by rfl, rfl⟩) ?_
          refine wpAny_take (i := 6) (v := .bool false) rfl (by kernel_rfl) (by kernel_rfl) (by kernel_rfl) (fun _ _ _ h => h) (Or.inl ⟨by rfl, ?_⟩) ?_
          · intro w
            go_simp
          refine wpAny_take (i := 7) (v := .bool false) rfl (by kernel_rfl) (by kernel_rfl) (by kernel_rfl) (fun _ _ _ h => h) (Or.inl ⟨by rfl, ?_⟩) ?_
          · intro w
            go_simp
          refine wpAny_take (i := 8) (v := undef) rfl (by kernel_rfl) (by kernel_rfl) (by kernel_rfl) (fun _ _ _ h => h) (Or.inr ⟨by rfl, rfl⟩) ?_
          refine wpAny_take (i := 9) (v := undef) rfl (by kernel_rfl) (by kernel_rfl) (by kernel_rfl) (fun _ _ _ h => h) (Or.inr ⟨by rfl, rfl⟩) ?_
          refine wpAny_take (i := 10) (v := .bool false) rfl (by kernel_rfl) (by kernel_rfl) (by kernel_rfl) (fun _ _ _ h => h) (Or.inl ⟨by rfl, ?_⟩) ?_
          · intro w
            go_simp
          refine wpAny_ready (rs := [11]) (by kernel_rfl) (by simp) ?_
          refine AllReady.cons rfl (fun K hK => ?_) AllReady.nil
          go_simp
          refine hK _ _ ?_
          clear hK K
          refine wpAny_ready (rs := [12]) (by kernel_rfl) (by simp) ?_
          refine AllReady.cons rfl (fun K hK => ?_) AllReady.nil
          go_simp
          refine HNO.out.mono ?_
          rintro e w8 ⟨hst, hb8⟩
          obtain ⟨b, rfl, s0, s1⟩ := hst
          exact ⟨rfl, (by rw [HF.out]; exact ⟨b, rfl, s0, s1⟩), hb8⟩
        · go_simp
          refine hK _ _ ?_
          clear hK K
          refine wpAny_ready (rs := [2]) (by kernel_rfl) (by simp) ?_
          refine AllReady.cons rfl (fun K hK => ?_) AllReady.nil
          go_simp
          go_wp2_with (go_at_call 73; refine (HNM.out _).mono ?_; rintro e w8 ⟨rfl, rfl⟩)
          refine wpAny_take (i := 3) (v := .bool false) rfl (by kernel_rfl) (by kernel_rfl) (by kernel_rfl) (fun _ _ _ h => h) (Or.inl ⟨by rfl, ?_⟩) ?_
          · intro w
            go_simp
          refine wpAny_take (i := 4) (v := undef) rfl (by kernel_rfl) (by kernel_rfl) (by kernel_rfl) (fun _ _ _ h => h) (Or.inr ⟨by rfl, rfl⟩) ?_
          refine wpAny_take (i := 5) (v := undef) rfl (by kernel_rfl) (by kernel_rfl) (by kernel_rfl) (fun _ _ _ h => h) (Or.inr ⟨by rfl, rfl⟩) ?_
          refine wpAny_take (i := 6) (v := .bool false) rfl (by kernel_rfl) (by kernel_rfl) (by kernel_rfl) (fun _ _ _ h => h) (Or.inl ⟨by rfl, ?_⟩) ?_
          · intro w
            go_simp
          refine wpAny_take (i := 7) (v := .bool false) rfl (by kernel_rfl) (by kernel_rfl) (by kernel_rfl) (fun _ _ _ h => h) (Or.inl ⟨by rfl, ?_⟩) ?_
          · intro w
            go_simp
          refine wpAny_take (i := 8) (v := undef) rfl (by kernel_rfl) (by kernel_rfl) (by kernel_rfl) (fun _ _ _ h => h) (Or.inr ⟨by rfl, rfl⟩) ?_
          refine wpAny_take (i := 9) (v := undef) rfl (by kernel_rfl) (by kernel_rfl) (by kernel_rfl) (fun _ _ _ h => h) (Or.inr ⟨by rfl, rfl⟩) ?_
          refine wpAny_take (i := 10) (v := .bool false) rfl (by kernel_rfl) (by kernel_rfl) (by kernel_rfl) (fun _ _ _ h => h) (Or.inl ⟨by rfl, ?_⟩) ?_
          · intro w
            go_simp
          refine wpAny_ready (rs := [12]) (by kernel_rfl) (by simp) ?_
          refine AllReady.cons rfl (fun K hK => ?_) AllReady.nil
          go_simp
          refine HNO.out.mono ?_
          rintro e w8 ⟨hst, hb8⟩
          obtain ⟨b, rfl, s0, s1⟩ := hst
          exact ⟨rfl, (by rw [HF.out]; exact ⟨b, rfl, s0, s1⟩), hb8⟩
      | true =>
        rw [hn] at HNM hok
        by_cases hl1 : p = tLog
        · subst hl1
          clear HOK hok
          unfold tLog at *
          go_enter Tryz.func320, Tryz.ntmps320
          go_wp2_with fail
          refine HX.out.mono ?_
          rintro e w1 ⟨rfl, hb1⟩
          have HNO : Hid (Calls Tryz.prog 112 #[.pointer (some ⟨rb, 0, none⟩), .bool false, .iface 472 (.pointer (some (a 0)))] w1.drew fun e w' => Stopped n (reasonV a 0) e w' ∧ Below w.heap.size w w') := (need_no rb n _ _ w1.drew ((hb1.cell (p := ⟨rb, 0, none⟩) hrb).trans H0.out)).mono (fun e w' h => ⟨h.1, hb1.drew.trans (h.2.mono hb1.size)⟩)
          have c0 : w1.cell? ⟨0, 0, none⟩ = some (.iface 472 (.pointer (some (a 0)))) := (HG.out.below hb1 HGS.out).errs 0 (by decide)
          clear hb1
          go_wp2_with fail
          refine wp_region_any (by kernel_rfl) ?_
          change wpAny _ _ _ _ _ _ _ (World.drew _)
          refine wpAny_take (i := 0) (v := .pointer (some ⟨rb, 0, none⟩)) rfl (by kernel_rfl) (by kernel_rfl) (by kernel_rfl) (fun _ _ _ h => h) (Or.inl ⟨by rfl, ?_⟩) ?_
          · intro w
            go_simp
          refine wpAny_take (i := 1) (v := .string ⟨#[46, 108, 111, 103]⟩) rfl (by kernel_rfl) (by kernel_rfl) (by kernel_rfl) (fun _ _ _ h => h) (Or.inl ⟨by rfl, ?_⟩) ?_
          · intro w
            go_simp
          refine wpAny_ready (rs := [2, 11]) (by kernel_rfl) (by simp) ?_
          refine AllReady.cons rfl (fun K hK => ?_) (AllReady.cons rfl (fun K hK => ?_) AllReady.nil)
          · go_simp
            go_wp2_with (go_at_call 73; refine (HNM.out _).mono ?_; rintro e w8 ⟨rfl, rfl⟩)
            refine wpAny_take (i := 3) (v := .bool true) rfl (by kernel_rfl) (by kernel_rfl) (by kernel_rfl) (fun _ _ _ h => h) (Or.inl ⟨by rfl, ?_⟩) ?_
            · intro w
              go_simp
            refine wpAny_take (i := 4) (v := .string ⟨#[46, 108, 111, 103]⟩) rfl (by kernel_rfl) (by kernel_rfl) (by kernel_rfl) (fun _ _ _ h => h) (Or.inl ⟨by rfl, ?_⟩) ?_
            · intro w
              go_simp
            refine wpAny_take (i := 5) (v := .bool false) rfl (by kernel_rfl) (by kernel_rfl) (by kernel_rfl) (fun _ _ _ h => h) (Or.inl ⟨by rfl, ?_⟩) ?_
            · intro w
              go_simp
            refine wpAny_take (i := 6) (v := .bool false) rfl (by kernel_rfl) (by kernel_rfl) (by kernel_rfl) (fun _ _ _ h => h) (Or.inl ⟨by rfl, ?_⟩) ?_
            · intro w
              go_simp
            refine wpAny_take (i := 7) (v := .bool false) rfl (by kernel_rfl) (by kernel_rfl) (by kernel_rfl) (fun _ _ _ h => h) (Or.inl ⟨by rfl, ?_⟩) ?_
            · intro w
              go_simp
            refine wpAny_take (i := 8) (v := undef) rfl (by kernel_rfl) (by kernel_rfl) (by kernel_rfl) (fun _ _ _ h => h) (Or.inr ⟨by rfl, rfl⟩) ?_
            refine wpAny_take (i := 9) (v := undef) rfl (by kernel_rfl) (by kernel_rfl) (by kernel_rfl) (fun _ _ _ h => h) (Or.inr ⟨by rfl, rfl⟩) ?_
            refine wpAny_take (i := 10) (v := .bool false) rfl (by kernel_rfl) (by kernel_rfl) (by kernel_rfl) (fun _ _ _ h => h) (Or.inl ⟨by rfl, ?_⟩) ?_
            · intro w
              go_simp
            refine wpAny_ready (rs := [11]) (by kernel_rfl) (by simp) ?_
            refine AllReady.cons rfl (fun K hK => ?_) AllReady.nil
            go_simp
            refine hK _ _ ?_
            clear hK K
            refine wpAny_ready (rs := [12]) (by kernel_rfl) (by simp) ?_
            refine AllReady.cons rfl (fun K hK => ?_) AllReady.nil
            go_simp
            refine HNO.out.mono ?_
            rintro e w8 ⟨hst, hb8⟩
            obtain ⟨b, rfl, s0, s1⟩ := hst
            exact ⟨rfl, (by rw [HF.out]; exact ⟨b, rfl, s0, s1⟩), hb8⟩
          · go_simp
            refine hK _ _ ?_
            clear hK K
            refine wpAny_ready (rs := [2]) (by kernel_rfl) (by simp) ?_
            refine AllReady.cons rfl (fun K hK => ?_) AllReady.nil
            go_simp
            go_wp2_with (go_at_call 73; refine (HNM.out _).mono ?_; rintro e w8 ⟨rfl, rfl⟩)
            refine wpAny_take (i := 3) (v := .bool true) rfl (by kernel_rfl) (by kernel_rfl) (by kernel_rfl) (fun _ _ _ h => h) (Or.inl ⟨by rfl, ?_⟩) ?_
            · intro w
              go_simp
            refine wpAny_take (i := 4) (v := .string ⟨#[46, 108, 111, 103]⟩) rfl (by kernel_rfl) (by kernel_rfl) (by kernel_rfl) (fun _ _ _ h => h) (Or.inl ⟨by rfl, ?_⟩) ?_
            · intro w
              go_simp
            refine wpAny_take (i := 5) (v := .bool false) rfl (by kernel_rfl) (by kernel_rfl) (by kernel_rfl) (fun _ _ _ h => h) (Or.inl ⟨by rfl, ?_⟩) ?_
            · intro w
              go_simp
            refine wpAny_take (i := 6) (v := .bool false) rfl (by kernel_rfl) (by kernel_rfl) (by kernel_rfl) (fun _ _ _ h => h) (Or.inl ⟨by rfl, ?_⟩) ?_
            · intro w
              go_simp
            refine wpAny_take (i := 7) (v := .bool false) rfl (by kernel_rfl) (by kernel_rfl) (by kernel_rfl) (fun _ _ _ h => h) (Or.inl ⟨by rfl, ?_⟩) ?_
            · intro w
              go_simp
            refine wpAny_take (i := 8) (v := undef) rfl (by kernel_rfl) (by kernel_rfl) (by kernel_rfl) (fun _ _ _ h => h) (Or.inr ⟨by rfl, rfl⟩) ?_
            refine wpAny_take (i := 9) (v := undef) rfl (by kernel_rfl) (by kernel_rfl) (by kernel_rfl) (fun _ _ _ h => h) (Or.inr ⟨by rfl, rfl⟩) ?_
            refine wpAny_take (i := 10) (v := .bool false) rfl (by kernel_rfl) (by kernel_rfl) (by kernel_rfl) (fun _ _ _ h => h) (Or.inl ⟨by rfl, ?_⟩) ?_
            · intro w
              go_simp
            refine wpAny_ready (rs := [12]) (by kernel_rfl) (by simp) ?_
            refine AllReady.cons rfl (fun K hK => ?_) AllReady.nil
            go_simp
            refine HNO.out.mono ?_
            rintro e w8 ⟨hst, hb8⟩
            obtain ⟨b, rfl, s0, s1⟩ := hst
            exact ⟨rfl, (by rw [HF.out]; exact ⟨b, rfl, s0, s1⟩), hb8⟩
        · have hl2 : p = tLogNew := by
            by_cases h : p = tLogNew
            · exact h
            · exact absurd (by simp [hl1, h]) hok
          subst hl2
          clear HOK hok hl1
          unfold tLogNew at *
          go_enter Tryz.func320, Tryz.ntmps320
          go_wp2_with fail
          refine HX.out.mono ?_
          rintro e w1 ⟨rfl, hb1⟩
          have HNO : Hid (Calls Tryz.prog 112 #[.pointer (some ⟨rb, 0, none⟩), .bool false, .iface 472 (.pointer (some (a 0)))] w1.drew fun e w' => Stopped n (reasonV a 0) e w' ∧ Below w.heap.size w w') := (need_no rb n _ _ w1.drew ((hb1.cell (p := ⟨rb, 0, none⟩) hrb).trans H0.out)).mono (fun e w' h => ⟨h.1, hb1.drew.trans (h.2.mono hb1.size)⟩)
          have c0 : w1.cell? ⟨0, 0, none⟩ = some (.iface 472 (.pointer (some (a 0)))) := (HG.out.below hb1 HGS.out).errs 0 (by decide)
          clear hb1
          go_wp2_with fail
          go_region_with (first | (go_at_call 73; refine (HNM.out _).mono ?_; rintro e w8 ⟨rfl, rfl⟩) | (go_at_call 112; refine HNO.out.mono ?_; rintro e w8 ⟨hst, hb8⟩; obtain ⟨b, rfl, s0, s1⟩ := hst; refine dead_end ⟨rfl, (by rw [HF.out]; exact ⟨b, rfl, s0, s1⟩), hb8⟩ w1 ?_))
          all_goals trivial
end Go.Proofs.YthhbpebihgjpjaaGreatDoor
