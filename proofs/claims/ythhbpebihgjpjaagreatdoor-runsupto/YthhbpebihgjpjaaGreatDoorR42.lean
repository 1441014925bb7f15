import Derived.Test.YthhbpebihgjpjaaGreatDoorR38
import Derived.Test.YthhbpebihgjpjaaGreatDoorR39
import Derived.Test.YthhbpebihgjpjaaGreatDoorR41
namespace Go.Proofs.YthhbpebihgjpjaaGreatDoor
open Go.RowKit
set_option maxRecDepth 1000000

theorem blankFrom_len (s : ByteArray) : ∀ g i fr acc, (blankFrom s g i fr acc).length ≤ acc.length + g
  | 0, _, _, _ => Nat.le_refl _
  | g + 1, i, fr, acc => by
    rw [blankFrom]
    split
    · have := blankFrom_len s g (i + 1) fr acc; omega
    · have := blankFrom_len s g (i + 1) (i + 1) (if fr < i then acc ++ [(fr, i)] else acc)
      have h2 : (if fr < i then acc ++ [(fr, i)] else acc).length ≤ acc.length + 1 := by
        split
        · simp
        · omega
      omega
theorem capped_twice (o : Option ByteArray) : capped (capped o) = capped o := by
  cases o with
  | none => rfl
  | some x =>
    unfold capped
    simp only [Option.bind_some]
    split
    · rename_i h
      simp [h]
    · rfl
theorem capped_some {x : ByteArray} (h : x.size ≤ 4000) : capped (some x) = some x := by simp [capped, h]
theorem capped_over {x : ByteArray} (h : ¬ x.size ≤ 4000) : capped (some x) = none := by simp [capped, h]

theorem toList_eq {x : ByteArray} {l : List UInt8} (h : (x.toList == l) = true) : x = ⟨l.toArray⟩ := by
  have h1 : x.toList = l := by simpa using h
  have h2 : (ByteArray.mk l.toArray).toList = l := by rw [ByteArray.toList_eq]
  exact text_same (a := x) (b := ⟨l.toArray⟩) (by rw [h1, h2]; simp)
theorem doer_cases (names data : List ByteArray) (x : ByteArray) (r : List ByteArray) :
    (doerOf x = none ∧ refRun names data (x :: r) = none) ∨ (doerOf x = some catV ∧ refRun names data (x :: r) = catAll names data r ⟨#[]⟩) ∨ (doerOf x = some hashV ∧ refRun names data (x :: r) = hashOf names data r) ∨ (doerOf x = some echoV ∧ refRun names data (x :: r) = some (echoOf r)) := by
  have tl : ∀ l : List UInt8, (ByteArray.mk l.toArray).toList = l := fun l => by rw [ByteArray.toList_eq]
  by_cases q1 : (x.toList == [99, 97, 116]) = true
  · refine Or.inr (Or.inl ⟨?_, by rw [refRun, if_pos q1]⟩)
    obtain rfl := toList_eq q1
    rfl
  · by_cases q2 : (x.toList == [104, 97, 115, 104]) = true
    · refine Or.inr (Or.inr (Or.inl ⟨?_, by rw [refRun, if_neg q1, if_pos q2]⟩))
      obtain rfl := toList_eq q2
      rfl
    · by_cases q3 : (x.toList == [101, 99, 104, 111]) = true
      · refine Or.inr (Or.inr (Or.inr ⟨?_, by rw [refRun, if_neg q1, if_neg q2, if_pos q3]⟩))
        obtain rfl := toList_eq q3
        rfl
      · refine Or.inl ⟨?_, by rw [refRun, if_neg q1, if_neg q2, if_neg q3]⟩
        unfold doerOf
        rw [if_neg, if_neg, if_neg]
        · rintro rfl; exact q1 (by rw [show (ByteArray.mk #[99, 97, 116]) = ⟨[99, 97, 116].toArray⟩ from rfl, tl]; rfl)
        · rintro rfl; exact q2 (by rw [show (ByteArray.mk #[104, 97, 115, 104]) = ⟨[104, 97, 115, 104].toArray⟩ from rfl, tl]; rfl)
        · rintro rfl; exact q3 (by rw [show (ByteArray.mk #[101, 99, 104, 111]) = ⟨[101, 99, 104, 111].toArray⟩ from rfl, tl]; rfl)

set_option maxHeartbeats 4000000 in
theorem run_any (s : ByteArray) (hs : s.size ≤ 1048576) (names data : List ByteArray) (bn bd : Nat) (w : World) (h : ReadAt w bn bd names data) (hsz : ∀ d ∈ data, d.size ≤ 1048576) (hR : RoundsAt w) :
    Calls Tryz.prog 136 #[.string s, readV bn bd] w fun e w' => e = .returned (readPost (capped (refRun names data (wordsB s)))) ∧ Below w.heap.size w w' := by
  have H : Hid (ReadAt w bn bd names data) := h
  have HSZ : Hid (∀ d ∈ data, d.size ≤ 1048576) := hsz
  have HR : Hid (RoundsAt w) := hR
  have HS : Hid (s.size ≤ 1048576) := hs
  clear h hsz hR
  have HWL : Hid ((wordsB s).length ≤ 1048577) := by
    show _ ≤ _
    unfold wordsB wordSpans
    rw [List.length_map]
    have := blankFrom_len s (s.size + 1) 0 0 []
    simp at this
    omega
  have HWS : Hid (∀ y ∈ wordsB s, y.size ≤ 1048576) := fun y hy => by
    obtain ⟨p, _, rfl⟩ := List.mem_map.1 hy
    rw [ByteArray.size_extract]; omega
  obtain ⟨rv, hrv⟩ : ∃ rv, rv = readV bn bd := ⟨_, rfl⟩
  have HRV : Hid (rv = readV bn bd) := hrv
  rw [← hrv]
  clear hrv hs
  go_enter Tryz.func136, Tryz.ntmps136
  go_wp2_with fail
  refine (wordsOf_any s HS.out _).mono ?_
  rintro e w1 ⟨A, rfl, hA, hown, hb1⟩
  have HTW : Hid (TextsAt w1 (.slice (some ⟨A, 0, none⟩) (wordsB s).length (wordsB s).length) (wordsB s)) := texts_of_row hown
  have HB1 : Hid (Below w.heap.size w w1) := hb1
  obtain ⟨W, hWE⟩ : ∃ W, wordsB s = W := ⟨_, rfl⟩
  have HWE : Hid (wordsB s = W) := hWE
  rw [hWE] at HTW HWL HWS ⊢
  clear hWE hown hb1 hA
  cases W with
  | nil =>
    go_wp2_with fail
    go_ret2
    exact ⟨by rw [HWE.out]; rfl, HB1.out⟩
  | cons x r =>
    obtain ⟨L, hL⟩ : ∃ L, L = r.length := ⟨_, rfl⟩
    have HL : Hid (L = r.length) := hL
    have HC : Hid (∀ k s, (x :: r)[k]? = some s → w1.cell? ⟨A, k, none⟩ = some (.string s)) := by
      obtain ⟨ao', cap', e1, _, e | ⟨b, o, e2, e3⟩⟩ := HTW.out
      · cases e.2.1
      · intro k s hk
        injection e1 with e1
        rw [e2] at e1
        injection e1 with e1
        injection e1 with e1 e4
        subst e1 e4
        simpa using e3 k s hk
    simp only [List.length_cons]
    rw [← hL]
    clear hL
    have l0 : ¬ ((L : Int) + 1 = 0) := by omega
    have l1 : (0 : Int) < (L : Int) + 1 := by omega
    have hl : L ≤ 1048576 := by have := HWL.out; have := HL.out; simp at *; omega
    have c0 : w1.cell? ⟨A, 0, none⟩ = some (.string x) := HC.out 0 x rfl
    obtain ⟨o2, ho2, hsl⟩ := slice_tail A 0 L (L + 1) (Nat.le_refl _)
    have hxz : x.size ≤ maxLen := by have := HWS.out x (by simp); unfold maxLen; omega
    have HXZ : Hid (x.size ≤ maxLen) := hxz
    clear hxz
    rcases doer_cases names data x r with ⟨hd, hrr⟩ | ⟨hd, hrr⟩ | ⟨hd, hrr⟩ | ⟨hd, hrr⟩
    · have HRR : Hid (capped (refRun names data (wordsB s)) = none) := by
        show _ = _
        rw [HWE.out, hrr]; rfl
      have HD : Hid (doerOf x = none) := hd
      clear hd hrr
      go_wp2_with fail
      go_region_with (go_at_call 221; refine (doers_any _).mono ?_; rintro e w2 ⟨mb, rfl, hm, hb2⟩; have c2 : w2.cell? ⟨A, 0, none⟩ = some (.string x) := (hb2.cell (p := ⟨A, 0, none⟩) (block_lt_of_cell c0)).trans c0; have k0 := hm.look_ok Tryz.underlying346 Tryz.zeroValue344 x HXZ.out; rw [HD.out] at k0; simp only [Option.getD_none, Option.isSome_none] at k0)
      all_goals
        have HB2 : Hid (Below w1.heap.size w1 w2) := (Below.refl _ _).drew.trans hb2
        clear hb2 hm k0
        go_wp2_with fail
        go_ret2
        exact ⟨by rw [HRR.out]; rfl, HB1.out.trans (HB2.out.mono HB1.out.size)⟩
    · have HRR : Hid (capped (refRun names data (wordsB s)) = capped (capped (catAll names data r ⟨#[]⟩))) := by
        show _ = _
        rw [HWE.out, hrr, capped_twice]
      have HD : Hid (doerOf x = some catV) := hd
      clear hd hrr
      go_wp2_with fail
      go_region_with (go_at_call 221; refine (doers_any _).mono ?_; rintro e w2 ⟨mb, rfl, hm, hb2⟩; have c2 : w2.cell? ⟨A, 0, none⟩ = some (.string x) := (hb2.cell (p := ⟨A, 0, none⟩) (block_lt_of_cell c0)).trans c0; have k0 := hm.look_ok Tryz.underlying346 Tryz.zeroValue344 x HXZ.out; rw [HD.out] at k0; simp only [Option.getD_some, Option.isSome_some] at k0)
      all_goals
        have HB2 : Hid (Below w1.heap.size w1 w2) := (Below.refl _ _).drew.trans hb2
        have HR2 : Hid (ReadAt w2 bn bd names data) := H.out.keepB (HB1.out.trans (HB2.out.mono HB1.out.size))
        have HT2 : Hid (TextsAt w2 (.slice (some ⟨A, o2, none⟩) L L) r) := ⟨_, _, by rw [HL.out], Nat.le_of_eq HL.out.symm, Or.inr ⟨A, o2, rfl, fun k s hk => by
          have e := HC.out (k + 1) s (by simpa using hk)
          rw [show k + 1 = o2 + k by have := ho2 k (by rw [HL.out]; exact (List.getElem?_eq_some_iff.1 hk).1); omega] at e
          exact (HB2.out.cell (p := ⟨A, o2 + k, none⟩) (block_lt_of_cell e)).trans e⟩⟩
        have HL2 : Hid (r.length ≤ 1048577) := by have := HL.out; show _ ≤ _; omega
        have HS2 : Hid (∀ d ∈ r, d.size ≤ 1048576) := fun d hd => HWS.out d (by simp [hd])
        have HO2 : Hid (RoundsAt w2) := HR.out.later (fun k hk => ((HB1.out.trans (HB2.out.mono HB1.out.size)).block k hk))
        clear hb2 hm k0
        unfold catV
        rw [HRV.out]
        unfold readV
        go_wp2_with fail
        refine (cat_any names data r _ bn bd _ HR2.out HT2.out HL2.out HSZ.out).mono ?_
        rintro e w3 ⟨rfl, hb3⟩
        have HB3 : Hid (Below w.heap.size w w3) := (HB1.out.trans (HB2.out.mono HB1.out.size)).trans (hb3.mono (Nat.le_trans HB1.out.size HB2.out.size))
        clear hb3
        generalize hO : ((capped (catAll names data r ⟨#[]⟩)) : Option ByteArray) = O at *
        clear hO
        unfold readPost
        cases O with
        | none =>
          have HN : Hid (capped (refRun names data (wordsB s)) = none) := HRR.out
          simp only [Option.getD_none, Option.isSome_none]
          go_wp2_with fail
          go_ret2
          exact ⟨by rw [HN.out]; rfl, HB3.out⟩
        | some out =>
          simp only [Option.getD_some, Option.isSome_some]
          by_cases hov : out.size ≤ 4000
          · have HN : Hid (capped (refRun names data (wordsB s)) = some out) := HRR.out.trans (capped_some hov)
            have hov2 : ¬ (4000 : Int) < (out.size : Int) := by omega
            go_wp2_with fail
            go_ret2
            exact ⟨by rw [HN.out]; rfl, HB3.out⟩
          · have HN : Hid (capped (refRun names data (wordsB s)) = none) := HRR.out.trans (capped_over hov)
            have hov2 : (4000 : Int) < (out.size : Int) := by omega
            go_wp2_with fail
            go_ret2
            exact ⟨by rw [HN.out]; rfl, HB3.out⟩
    · have HRR : Hid (capped (refRun names data (wordsB s)) = capped (hashOf names data r)) := by
        show _ = _
        rw [HWE.out, hrr]
      have HD : Hid (doerOf x = some hashV) := hd
      clear hd hrr
      go_wp2_with fail
      go_region_with (go_at_call 221; refine (doers_any _).mono ?_; rintro e w2 ⟨mb, rfl, hm, hb2⟩; have c2 : w2.cell? ⟨A, 0, none⟩ = some (.string x) := (hb2.cell (p := ⟨A, 0, none⟩) (block_lt_of_cell c0)).trans c0; have k0 := hm.look_ok Tryz.underlying346 Tryz.zeroValue344 x HXZ.out; rw [HD.out] at k0; simp only [Option.getD_some, Option.isSome_some] at k0)
      all_goals
        have HB2 : Hid (Below w1.heap.size w1 w2) := (Below.refl _ _).drew.trans hb2
        have HR2 : Hid (ReadAt w2 bn bd names data) := H.out.keepB (HB1.out.trans (HB2.out.mono HB1.out.size))
        have HT2 : Hid (TextsAt w2 (.slice (some ⟨A, o2, none⟩) L L) r) := ⟨_, _, by rw [HL.out], Nat.le_of_eq HL.out.symm, Or.inr ⟨A, o2, rfl, fun k s hk => by
          have e := HC.out (k + 1) s (by simpa using hk)
          rw [show k + 1 = o2 + k by have := ho2 k (by rw [HL.out]; exact (List.getElem?_eq_some_iff.1 hk).1); omega] at e
          exact (HB2.out.cell (p := ⟨A, o2 + k, none⟩) (block_lt_of_cell e)).trans e⟩⟩
        have HL2 : Hid (r.length ≤ 1048577) := by have := HL.out; show _ ≤ _; omega
        have HS2 : Hid (∀ d ∈ r, d.size ≤ 1048576) := fun d hd => HWS.out d (by simp [hd])
        have HO2 : Hid (RoundsAt w2) := HR.out.later (fun k hk => ((HB1.out.trans (HB2.out.mono HB1.out.size)).block k hk))
        clear hb2 hm k0
        unfold hashV
        rw [HRV.out]
        unfold readV
        go_wp2_with fail
        refine (hash_any names data r _ bn bd _ HR2.out HT2.out HL2.out HSZ.out HS2.out HO2.out).mono ?_
        rintro e w3 ⟨rfl, hb3⟩
        have HB3 : Hid (Below w.heap.size w w3) := (HB1.out.trans (HB2.out.mono HB1.out.size)).trans (hb3.mono (Nat.le_trans HB1.out.size HB2.out.size))
        clear hb3
        generalize hO : ((hashOf names data r) : Option ByteArray) = O at *
        clear hO
        unfold readPost
        cases O with
        | none =>
          have HN : Hid (capped (refRun names data (wordsB s)) = none) := HRR.out
          simp only [Option.getD_none, Option.isSome_none]
          go_wp2_with fail
          go_ret2
          exact ⟨by rw [HN.out]; rfl, HB3.out⟩
        | some out =>
          simp only [Option.getD_some, Option.isSome_some]
          by_cases hov : out.size ≤ 4000
          · have HN : Hid (capped (refRun names data (wordsB s)) = some out) := HRR.out.trans (capped_some hov)
            have hov2 : ¬ (4000 : Int) < (out.size : Int) := by omega
            go_wp2_with fail
            go_ret2
            exact ⟨by rw [HN.out]; rfl, HB3.out⟩
          · have HN : Hid (capped (refRun names data (wordsB s)) = none) := HRR.out.trans (capped_over hov)
            have hov2 : (4000 : Int) < (out.size : Int) := by omega
            go_wp2_with fail
            go_ret2
            exact ⟨by rw [HN.out]; rfl, HB3.out⟩
    · have HRR : Hid (capped (refRun names data (wordsB s)) = capped (some (echoOf r))) := by
        show _ = _
        rw [HWE.out, hrr]
      have HD : Hid (doerOf x = some echoV) := hd
      clear hd hrr
      go_wp2_with fail
      go_region_with (go_at_call 221; refine (doers_any _).mono ?_; rintro e w2 ⟨mb, rfl, hm, hb2⟩; have c2 : w2.cell? ⟨A, 0, none⟩ = some (.string x) := (hb2.cell (p := ⟨A, 0, none⟩) (block_lt_of_cell c0)).trans c0; have k0 := hm.look_ok Tryz.underlying346 Tryz.zeroValue344 x HXZ.out; rw [HD.out] at k0; simp only [Option.getD_some, Option.isSome_some] at k0)
      all_goals
        have HB2 : Hid (Below w1.heap.size w1 w2) := (Below.refl _ _).drew.trans hb2
        have HR2 : Hid (ReadAt w2 bn bd names data) := H.out.keepB (HB1.out.trans (HB2.out.mono HB1.out.size))
        have HT2 : Hid (TextsAt w2 (.slice (some ⟨A, o2, none⟩) L L) r) := ⟨_, _, by rw [HL.out], Nat.le_of_eq HL.out.symm, Or.inr ⟨A, o2, rfl, fun k s hk => by
          have e := HC.out (k + 1) s (by simpa using hk)
          rw [show k + 1 = o2 + k by have := ho2 k (by rw [HL.out]; exact (List.getElem?_eq_some_iff.1 hk).1); omega] at e
          exact (HB2.out.cell (p := ⟨A, o2 + k, none⟩) (block_lt_of_cell e)).trans e⟩⟩
        have HL2 : Hid (r.length ≤ 1048577) := by have := HL.out; show _ ≤ _; omega
        have HS2 : Hid (∀ d ∈ r, d.size ≤ 1048576) := fun d hd => HWS.out d (by simp [hd])
        have HO2 : Hid (RoundsAt w2) := HR.out.later (fun k hk => ((HB1.out.trans (HB2.out.mono HB1.out.size)).block k hk))
        clear hb2 hm k0
        unfold echoV
        rw [HRV.out]
        unfold readV
        go_wp2_with fail
        refine (echo_any r _ _ _ HT2.out HL2.out HS2.out).mono ?_
        rintro e w3 ⟨rfl, hb3⟩
        have HB3 : Hid (Below w.heap.size w w3) := (HB1.out.trans (HB2.out.mono HB1.out.size)).trans (hb3.mono (Nat.le_trans HB1.out.size HB2.out.size))
        clear hb3
        generalize hO : ((some (echoOf r)) : Option ByteArray) = O at *
        clear hO
        unfold readPost
        cases O with
        | none =>
          have HN : Hid (capped (refRun names data (wordsB s)) = none) := HRR.out
          simp only [Option.getD_none, Option.isSome_none]
          go_wp2_with fail
          go_ret2
          exact ⟨by rw [HN.out]; rfl, HB3.out⟩
        | some out =>
          simp only [Option.getD_some, Option.isSome_some]
          by_cases hov : out.size ≤ 4000
          · have HN : Hid (capped (refRun names data (wordsB s)) = some out) := HRR.out.trans (capped_some hov)
            have hov2 : ¬ (4000 : Int) < (out.size : Int) := by omega
            go_wp2_with fail
            go_ret2
            exact ⟨by rw [HN.out]; rfl, HB3.out⟩
          · have HN : Hid (capped (refRun names data (wordsB s)) = none) := HRR.out.trans (capped_over hov)
            have hov2 : (4000 : Int) < (out.size : Int) := by omega
            go_wp2_with fail
            go_ret2
            exact ⟨by rw [HN.out]; rfl, HB3.out⟩
end Go.Proofs.YthhbpebihgjpjaaGreatDoor
