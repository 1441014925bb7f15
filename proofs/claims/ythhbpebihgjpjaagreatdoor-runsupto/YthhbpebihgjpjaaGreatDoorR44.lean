import Derived.Test.YthhbpebihgjpjaaGreatDoorR42
import Derived.Test.YthhbpebihgjpjaaGreatDoorR43
namespace Go.Proofs.YthhbpebihgjpjaaGreatDoor
open Go.RowKit
set_option maxRecDepth 1000000

set_option maxHeartbeats 2000000 in
theorem plainRun_any (s : ByteArray) (hs : s.size ≤ 1048576) (names data : List ByteArray) (vn vd : Value) (w : World) (hn : TextsAt w vn names) (hd : TextsAt w vd data) (hnl : names.length ≤ 1048576) (hdl : data.length ≤ 1048576) (hsz : ∀ d ∈ data, d.size ≤ 1048576) (hR : RoundsAt w) :
    Calls Tryz.prog 85 #[.string s, vn, vd] w fun e w' => e = .returned (readPost (capped (refRun names data (wordsB s)))) ∧ Below w.heap.size w w' := by
  have HB0 : Hid (Below w.heap.size w ((w.alloc (.cells #[vn] 32)).alloc (.cells #[vd] 32))) := ((Below.refl _ _).alloc (Nat.le_refl _) _).alloc (by simp) _
  have HRA : Hid (ReadAt ((w.alloc (.cells #[vn] 32)).alloc (.cells #[vd] 32)) w.heap.size (w.heap.size + 1) names data) :=
    ⟨⟨vn, vd, by simp, by simp, hn.keepB HB0.out, hd.keepB HB0.out⟩, hnl, hdl⟩
  have HR : Hid (RoundsAt ((w.alloc (.cells #[vn] 32)).alloc (.cells #[vd] 32))) := hR.later HB0.out.block
  have HS : Hid (s.size ≤ 1048576) := hs
  have HSZ : Hid (∀ d ∈ data, d.size ≤ 1048576) := hsz
  have one1 : vn.oneCell' = true := by obtain ⟨ao, cap, rfl, _⟩ := hn; rfl
  have one2 : vd.oneCell' = true := by obtain ⟨ao, cap, rfl, _⟩ := hd; rfl
  obtain ⟨an, cn, hvn, _⟩ := hn
  obtain ⟨ad, cd, hvd, _⟩ := hd
  subst hvn hvd
  clear hs hnl hdl hsz hR one1 one2
  go_enter Tryz.func85, Tryz.ntmps85
  go_wp2_with fail
  refine (run_any s HS.out names data w.heap.size (w.heap.size + 1) _ HRA.out HSZ.out HR.out).mono ?_
  rintro e w2 ⟨rfl, hb2⟩
  have HB2 : Hid (Below w.heap.size w w2) := HB0.out.trans (hb2.mono HB0.out.size)
  clear hb2
  unfold readPost
  generalize hA1 : (capped (refRun names data (wordsB s))).getD ⟨#[]⟩ = A1
  have HA : Hid ((capped (refRun names data (wordsB s))).getD ⟨#[]⟩ = A1) := hA1
  clear hA1
  generalize hB1 : (capped (refRun names data (wordsB s))).isSome = B1
  have HBo : Hid ((capped (refRun names data (wordsB s))).isSome = B1) := hB1
  clear hB1
  go_wp2_with fail
  go_ret2
  exact ⟨by unfold readPost; rw [HA.out, HBo.out]; rfl, HB2.out⟩

set_option maxHeartbeats 4000000 in
theorem step_run (x : OpV) (hk : x.kd = 16) (hs : x.s.size ≤ 1048576) (names data : List ByteArray) (wb mb : Nat) (w : World) (hL : TextsAt w (.slice x.la x.ln x.lc) names) (hM : TextsAt w (.slice x.ma x.mn x.mc) data) (hnl : names.length ≤ 1048576) (hdl : data.length ≤ 1048576) (hsz : ∀ d ∈ data, d.size ≤ 1048576)
    (hm : w.cell? ⟨wb, 0, none⟩ = some (.pointer (some ⟨mb, 0, none⟩))) (hmk : MakerAt w mb) (hr : RoundsAt w) :
    Calls Tryz.prog 56 #[.pointer (some ⟨wb, 0, none⟩), .agg x.vals.toArray] w fun e w' => e = .returned (.bool true) ∧ Keeps w.heap.size w w' := by
  have HMK : Hid (MakerAt w mb) := hmk
  have HR : Hid (RoundsAt w) := hr
  have HM : Hid (w.cell? ⟨wb, 0, none⟩ = some (.pointer (some ⟨mb, 0, none⟩))) := hm
  have HTL : Hid (TextsAt w (.slice x.la x.ln x.lc) names) := hL
  have HTM : Hid (TextsAt w (.slice x.ma x.mn x.mc) data) := hM
  have HSZ : Hid (∀ d ∈ data, d.size ≤ 1048576) := hsz
  have HNL : Hid (names.length ≤ 1048576) := hnl
  have HDL : Hid (data.length ≤ 1048576) := hdl
  have HS : Hid (x.s.size ≤ 1048576) := hs
  obtain ⟨kd, ya, yb, yd, ys, yt, la, ln, lc, ma, mn, mc⟩ := x
  simp only at hk HS HTL HTM
  subst hk
  simp only [OpV.vals]
  clear hmk hr hm hL hM hsz hnl hdl hs
  have HB1 : Hid (Below w.heap.size w (w.alloc (.cells #[.int .i64 16, .int .i64 ya, .int .i64 yb, .int .i64 yd, .string ys, .string yt, .slice la ln lc, .slice ma mn mc] 104))) := (Below.refl _ _).alloc (Nat.le_refl _) _
  go_enter Tryz.func56, Tryz.ntmps56
  go_wp2_with fail
  have c4 : (w.alloc (.cells #[.int .i64 16, .int .i64 ya, .int .i64 yb, .int .i64 yd, .string ys, .string yt, .slice la ln lc, .slice ma mn mc] 104)).cell? ⟨w.heap.size, 4, none⟩ = some (.string ys) := cell_fresh _ _ _ _ _ rfl
  have c6 : (w.alloc (.cells #[.int .i64 16, .int .i64 ya, .int .i64 yb, .int .i64 yd, .string ys, .string yt, .slice la ln lc, .slice ma mn mc] 104)).cell? ⟨w.heap.size, 6, none⟩ = some (.slice la ln lc) := cell_fresh _ _ _ _ _ rfl
  have c7 : (w.alloc (.cells #[.int .i64 16, .int .i64 ya, .int .i64 yb, .int .i64 yd, .string ys, .string yt, .slice la ln lc, .slice ma mn mc] 104)).cell? ⟨w.heap.size, 7, none⟩ = some (.slice ma mn mc) := cell_fresh _ _ _ _ _ rfl
  have hlt : w.heap.size < (w.alloc (.cells #[.int .i64 16, .int .i64 ya, .int .i64 yb, .int .i64 yd, .string ys, .string yt, .slice la ln lc, .slice ma mn mc] 104)).heap.size := by simp
  generalize w.alloc (.cells #[.int .i64 16, .int .i64 ya, .int .i64 yb, .int .i64 yd, .string ys, .string yt, .slice la ln lc, .slice ma mn mc] 104) = W1 at *
  have HLT : Hid (w.heap.size < W1.heap.size) := hlt
  clear hlt
  refine (texts_any names _ W1 (HTL.out.keepB HB1.out) HNL.out).mono ?_
  rintro e w2 ⟨v2, rfl, ho2, hb2⟩
  have HT2 : Hid (TextsAt w2 v2 names) := texts_of_row ho2
  have HC2 : Hid (Below W1.heap.size W1 w2) := hb2
  have d4 : w2.cell? ⟨w.heap.size, 4, none⟩ = some (.string ys) := (hb2.cell (p := ⟨w.heap.size, 4, none⟩) HLT.out).trans c4
  have d6 : w2.cell? ⟨w.heap.size, 6, none⟩ = some (.slice la ln lc) := (hb2.cell (p := ⟨w.heap.size, 6, none⟩) HLT.out).trans c6
  have d7 : w2.cell? ⟨w.heap.size, 7, none⟩ = some (.slice ma mn mc) := (hb2.cell (p := ⟨w.heap.size, 7, none⟩) HLT.out).trans c7
  have HLT2 : Hid (w.heap.size < w2.heap.size) := Nat.lt_of_lt_of_le HLT.out hb2.size
  have HB2 : Hid (Below w.heap.size w w2) := HB1.out.trans (hb2.mono HB1.out.size)
  clear ho2 hb2 c4 c6 c7
  go_wp2_with fail
  refine (texts_any data _ w2 (HTM.out.keepB HB2.out) HDL.out).mono ?_
  rintro e w3 ⟨v3, rfl, ho3, hb3⟩
  have HT3 : Hid (TextsAt w3 v3 data) := texts_of_row ho3
  have HT23 : Hid (TextsAt w3 v2 names) := HT2.out.keepB hb3
  have e4 : w3.cell? ⟨w.heap.size, 4, none⟩ = some (.string ys) := (hb3.cell (p := ⟨w.heap.size, 4, none⟩) HLT2.out).trans d4
  have e6 : w3.cell? ⟨w.heap.size, 6, none⟩ = some (.slice la ln lc) := (hb3.cell (p := ⟨w.heap.size, 6, none⟩) HLT2.out).trans d6
  have e7 : w3.cell? ⟨w.heap.size, 7, none⟩ = some (.slice ma mn mc) := (hb3.cell (p := ⟨w.heap.size, 7, none⟩) HLT2.out).trans d7
  have HLT3 : Hid (w.heap.size < w3.heap.size) := Nat.lt_of_lt_of_le HLT2.out hb3.size
  have HB3 : Hid (Below w.heap.size w w3) := HB2.out.trans (hb3.mono HB2.out.size)
  clear ho3 hb3 d4 d6 d7
  go_wp2_with fail
  refine (plainRun_any ys HS.out names data v2 v3 w3 HT23.out HT3.out HNL.out HDL.out HSZ.out (HR.out.later HB3.out.block)).mono ?_
  rintro e w4 ⟨rfl, hb4⟩
  have f4 : w4.cell? ⟨w.heap.size, 4, none⟩ = some (.string ys) := (hb4.cell (p := ⟨w.heap.size, 4, none⟩) HLT3.out).trans e4
  have f6 : w4.cell? ⟨w.heap.size, 6, none⟩ = some (.slice la ln lc) := (hb4.cell (p := ⟨w.heap.size, 6, none⟩) HLT3.out).trans e6
  have f7 : w4.cell? ⟨w.heap.size, 7, none⟩ = some (.slice ma mn mc) := (hb4.cell (p := ⟨w.heap.size, 7, none⟩) HLT3.out).trans e7
  have HB4 : Hid (Below w.heap.size w w4) := HB3.out.trans (hb4.mono HB3.out.size)
  have cm : w4.cell? ⟨wb, 0, none⟩ = some (.pointer (some ⟨mb, 0, none⟩)) := (HB4.out.cell (p := ⟨wb, 0, none⟩) (block_lt_of_cell HM.out)).trans HM.out
  have HK5 : Hid (∀ w5, Keeps w4.drew.heap.size w4.drew w5 → (w5.cell? ⟨wb, 0, none⟩ = some (.pointer (some ⟨mb, 0, none⟩)) ∧ w5.cell? ⟨w.heap.size, 4, none⟩ = some (.string ys) ∧ w5.cell? ⟨w.heap.size, 6, none⟩ = some (.slice la ln lc) ∧ w5.cell? ⟨w.heap.size, 7, none⟩ = some (.slice ma mn mc)) ∧ Keeps w.heap.size w w5) := fun w5 hk =>
    ⟨⟨(hk.cell (p := ⟨wb, 0, none⟩) (block_lt_of_cell cm)).trans cm, (hk.cell (p := ⟨w.heap.size, 4, none⟩) (block_lt_of_cell f4)).trans f4, (hk.cell (p := ⟨w.heap.size, 6, none⟩) (block_lt_of_cell f6)).trans f6, (hk.cell (p := ⟨w.heap.size, 7, none⟩) (block_lt_of_cell f7)).trans f7⟩, (Keeps.of HB4.out.drew).trans (hk.mono HB4.out.size)⟩
  have HMD : Hid (Calls Tryz.prog 86 #[.pointer (some ⟨mb, 0, none⟩), .string ys, .slice la ln lc, .slice ma mn mc] w4.drew fun e w' => RunPost (refRun names data (wordsB ys)) w4.drew e w') :=
    mrun_any ys HS.out mb _ _ names data w4.drew (HTL.out.keepB HB4.out.drew) (HTM.out.keepB HB4.out.drew) (HMK.out.later HB4.out.block) HNL.out HDL.out HSZ.out
  clear hb4 e4 e6 e7
  generalize refRun names data (wordsB ys) = O at *
  rcases O with _ | out
  · have HRB : Hid (runBool none = false) := rfl
    rw [show capped none = none from rfl]
    unfold readPost
    dsimp only [Option.getD, Option.isSome]
    go_wp2_with fail
    go_region_held3 (fun w' => w'.cell? ⟨wb, 0, none⟩ = some (.pointer (some ⟨mb, 0, none⟩)) ∧ w'.cell? ⟨w.heap.size, 4, none⟩ = some (.string ys) ∧ w'.cell? ⟨w.heap.size, 6, none⟩ = some (.slice la ln lc) ∧ w'.cell? ⟨w.heap.size, 7, none⟩ = some (.slice ma mn mc)) (first | exact ⟨cm, f4, f6, f7⟩ | exact hS5.1) (first | (go_at_call 86; refine HMD.out.mono ?_; rintro e w5 ⟨rfl, hk5⟩; rw [HRB.out]; dsimp only [Option.getD]; have hS5 := HK5.out w5 hk5))
    all_goals
      have HKE : Hid (Keeps w.heap.size w w5) := hS5.2
      go_wp2_with fail
      go_ret
      exact ⟨rfl, HKE.out⟩
  · by_cases hov : out.size ≤ 4000
    · rw [capped_some hov]
      have HRB : Hid (runBool (some out) = true) := decide_eq_true (by omega : (out.size : Int) ≤ 4000)
      unfold readPost
      dsimp only [Option.getD, Option.isSome]
      go_wp2_with fail
      go_region_held3 (fun w' => w'.cell? ⟨wb, 0, none⟩ = some (.pointer (some ⟨mb, 0, none⟩)) ∧ w'.cell? ⟨w.heap.size, 4, none⟩ = some (.string ys) ∧ w'.cell? ⟨w.heap.size, 6, none⟩ = some (.slice la ln lc) ∧ w'.cell? ⟨w.heap.size, 7, none⟩ = some (.slice ma mn mc)) (first | exact ⟨cm, f4, f6, f7⟩ | exact hS5.1) (first | (go_at_call 86; refine HMD.out.mono ?_; rintro e w5 ⟨rfl, hk5⟩; rw [HRB.out]; dsimp only [Option.getD]; have hS5 := HK5.out w5 hk5))
      all_goals
        have HKE : Hid (Keeps w.heap.size w w5) := hS5.2
        go_wp2_with fail
        go_ret
        exact ⟨rfl, HKE.out⟩
    · rw [capped_over hov]
      have HRB : Hid (runBool (some out) = false) := decide_eq_false (by omega : ¬ (out.size : Int) ≤ 4000)
      unfold readPost
      dsimp only [Option.getD, Option.isSome]
      go_wp2_with fail
      go_region_held3 (fun w' => w'.cell? ⟨wb, 0, none⟩ = some (.pointer (some ⟨mb, 0, none⟩)) ∧ w'.cell? ⟨w.heap.size, 4, none⟩ = some (.string ys) ∧ w'.cell? ⟨w.heap.size, 6, none⟩ = some (.slice la ln lc) ∧ w'.cell? ⟨w.heap.size, 7, none⟩ = some (.slice ma mn mc)) (first | exact ⟨cm, f4, f6, f7⟩ | exact hS5.1) (first | (go_at_call 86; refine HMD.out.mono ?_; rintro e w5 ⟨rfl, hk5⟩; rw [HRB.out]; dsimp only [Option.getD]; have hS5 := HK5.out w5 hk5))
      all_goals
        have HKE : Hid (Keeps w.heap.size w w5) := hS5.2
        go_wp2_with fail
        go_ret
        exact ⟨rfl, HKE.out⟩
end Go.Proofs.YthhbpebihgjpjaaGreatDoor
