import Derived.Test.YthhbpebihgjpjaaGreatDoorR35
namespace Go.Proofs.YthhbpebihgjpjaaGreatDoor
open Go.RowKit
set_option maxRecDepth 1000000

/-- What is no more than 4,000 bytes. -/
def capped (o : Option ByteArray) : Option ByteArray := o.bind fun x => if x.size ≤ 4000 then some x else none
theorem catAll_size (names data : List ByteArray) : ∀ (r : List ByteArray) (acc out : ByteArray), catAll names data r acc = some out → acc.size ≤ out.size
  | [], acc, out, h => by
    obtain rfl : acc = out := Option.some.inj h
    exact Nat.le_refl _
  | x :: r, acc, out, h => by
    rw [catAll] at h
    split at h
    · have := catAll_size names data r _ _ h
      rw [ByteArray.size_append] at this; omega
    · cases h
theorem catAll_long {names data r : List ByteArray} {acc : ByteArray} (h : 4000 < acc.size) : capped (catAll names data r acc) = none := by
  unfold capped
  cases e : catAll names data r acc with
  | none => rfl
  | some out =>
    have := catAll_size names data r acc out e
    simp only [Option.bind_some]
    rw [if_neg (by omega)]
theorem fileOf_mem {names data : List ByteArray} {x d : ByteArray} (h : fileOf names data x = some d) : d ∈ data := by
  unfold fileOf at h
  cases e : firstIdx x names with
  | none => rw [e] at h; cases h
  | some k => rw [e] at h; exact List.mem_of_getElem? h
theorem block_below {B : Nat} {w w' : World} (h : Below B w w') (k : Nat) (hk : k < B) : w'.heap[k]? = w.heap[k]? := h.block k hk

set_option maxHeartbeats 2000000 in
theorem cat_any (names data r : List ByteArray) (vw : Value) (bn bd : Nat) (w : World) (h : ReadAt w bn bd names data) (hw : TextsAt w vw r) (hl : r.length ≤ 1048577) (hsz : ∀ d ∈ data, d.size ≤ 1048576) :
    Calls Tryz.prog 295 #[.agg #[vw, readV bn bd]] w fun e w' => e = .returned (readPost (capped (catAll names data r ⟨#[]⟩))) ∧ Below w.heap.size w w' := by
  have H : Hid (ReadAt w bn bd names data) := h
  have HW : Hid (TextsAt w vw r) := hw
  have HSZ : Hid (∀ d ∈ data, d.size ≤ 1048576) := hsz
  clear hsz
  obtain ⟨ao, cap, hvw, hcap, hcell⟩ := hw
  have n0 : (r.length : Int) ≤ 1048577 := by omega
  generalize hL : r.length = L at *
  have HL : Hid (r.length = L) := hL
  subst hvw
  clear h hcell hL
  obtain ⟨rv, hrv⟩ : ∃ rv, rv = readV bn bd := ⟨_, rfl⟩
  have HRV : Hid (rv = readV bn bd) := hrv
  rw [← hrv]
  clear hrv
  go_enter Tryz.func295, Tryz.ntmps295
  go_wp2_with fail
  go_loopw [12] (fun i wr => ∃ (j : Nat) (acc : ByteArray), i = .int .i64 j ∧ j ≤ L ∧ acc.size ≤ 4000 ∧ BuiltAt wr (w.heap.size + 1) acc ∧ Below (w.heap.size + 1) (w.alloc (.cells #[.slice ao L cap, rv] 349)) wr ∧ capped (catAll names data (r.drop j) acc) = capped (catAll names data r ⟨#[]⟩)) (fun i _ => L - (intOf i).toNat)
  case atStart =>
    refine ⟨0, ⟨#[]⟩, rfl, Nat.zero_le _, by decide, ?_, ?_, rfl⟩
    · have := built_new (w.alloc (.cells #[.slice ao L cap, rv] 349))
      simpa using this
    · exact (Below.refl _ _).alloc (by simp) _
  case round =>
    obtain ⟨j, acc, rfl, hle, has, hbu, hbw, hct⟩ := hrel
    have HBU : Hid (BuiltAt wr (w.heap.size + 1) acc) := hbu
    have HBW : Hid (Below (w.heap.size + 1) (w.alloc (.cells #[.slice ao L cap, rv] 349)) wr) := hbw
    have HCT : Hid (capped (catAll names data (r.drop j) acc) = capped (catAll names data r ⟨#[]⟩)) := hct
    have HB0 : Hid (Below w.heap.size w wr) := ((Below.refl _ _).alloc (Nat.le_refl _) _).trans (HBW.out.mono (by omega))
    have x0 : wr.cell? ⟨w.heap.size, 0, none⟩ = some (.slice ao L cap) := (HBW.out.cell (p := ⟨w.heap.size, 0, none⟩) (by simp)).trans (by simp)
    have x1 : wr.cell? ⟨w.heap.size, 1, none⟩ = some rv := (HBW.out.cell (p := ⟨w.heap.size, 1, none⟩) (by simp)).trans (by simp)
    clear hbu hbw hct
    have j0 : (0 : Int) ≤ (j : Int) := by omega
    by_cases hlt : j < L
    · have j1 : (j : Int) < (L : Int) := by omega
      obtain ⟨y, hy⟩ : ∃ y, r[j]? = some y := ⟨r[j]'(by have := HL.out; omega), by simp⟩
      obtain ⟨g1, o1, hao, q1⟩ : ∃ b o, ao = some ⟨b, o, none⟩ ∧ ∀ k s, r[k]? = some s → w.cell? ⟨b, o + k, none⟩ = some (.string s) := by
        obtain ⟨ao', cap', e1, _, e | ⟨b, o, e2, e3⟩⟩ := HW.out
        · rw [e.2.1] at hy; simp at hy
        · have : ao = ao' := by injection e1
          exact ⟨b, o, this.trans e2, e3⟩
      subst hao
      have r1 : wr.cell? ⟨g1, o1 + j, none⟩ = some (.string y) := (HB0.out.cell (p := ⟨g1, o1 + j, none⟩) (block_lt_of_cell (q1 j y hy))).trans (q1 j y hy)
      have HDP : Hid (r.drop j = y :: r.drop (j + 1)) := by
        obtain ⟨h1, h2⟩ := List.getElem?_eq_some_iff.1 hy
        show _ = _
        rw [List.drop_eq_getElem_cons h1, h2]
      clear q1 hy
      go_wp2_with fail
      rw [HRV.out]
      refine (ask_any names data _ y bn bd _ (H.out.keepB HB0.out)).mono ?_
      rintro e w2 ⟨rfl, hb2⟩
      rw [← HRV.out]
      have HB2 : Hid (Below wr.heap.size wr w2) := hb2
      have HBU2 : Hid (BuiltAt w2 (w.heap.size + 1) acc) := HBU.out.below hb2
      have HLT : Hid (w.heap.size + 1 < wr.heap.size) := HBU.out.lt
      clear hb2
      unfold readPost
      cases hf : fileOf names data y with
      | none =>
        have HN : Hid (capped (catAll names data r ⟨#[]⟩) = none) := by
          show _ = _
          rw [← HCT.out, HDP.out, catAll, hf]; rfl
        simp only [Option.getD_none, Option.isSome_none]
        clear hf
        go_wp2_with fail
        go_ret2
        exact ⟨by rw [HN.out]; rfl, HB0.out.trans (HB2.out.mono (by have := HLT.out; omega))⟩
      | some d =>
        have HNX : Hid (capped (catAll names data (r.drop (j + 1)) (acc ++ d)) = capped (catAll names data r ⟨#[]⟩)) := by
          show _ = _
          rw [← HCT.out, HDP.out, catAll, hf]
        have d0 : (d.size : Int) ≤ 1048576 := by have := HSZ.out d (fileOf_mem hf); omega
        have a0 : (acc.size : Int) ≤ 4000 := by omega
        simp only [Option.getD_some, Option.isSome_some]
        clear hf
        by_cases hbig : 4000 < acc.size + d.size
        · have HN : Hid (capped (catAll names data r ⟨#[]⟩) = none) := by
            show _ = _
            rw [← HNX.out]
            exact catAll_long (by rw [ByteArray.size_append]; exact hbig)
          have b1 : (4000 : Int) < (acc.size : Int) + (d.size : Int) := by omega
          go_wp2_with fail
          refine (blen_any _ acc _ HBU2.out).mono ?_
          rintro e w3 ⟨rfl, rfl⟩
          go_wp2_with fail
          go_ret2
          exact ⟨by rw [HN.out]; rfl, HB0.out.trans (HB2.out.mono (by have := HLT.out; omega))⟩
        · have b1 : ¬ (4000 : Int) < (acc.size : Int) + (d.size : Int) := by omega
          have HS : Hid ((acc ++ d).size ≤ 4000) := by
            show _ ≤ _
            rw [ByteArray.size_append]; omega
          have HQ : Hid (acc.size + d.size ≤ 140737488355328) := by
            show _ ≤ _
            omega
          go_wp2_with fail
          refine (blen_any _ acc _ HBU2.out).mono ?_
          rintro e w3 ⟨rfl, rfl⟩
          go_wp2_with fail
          refine (bstr_any _ acc d _ HBU2.out HQ.out).mono ?_
          rintro e w4 ⟨rfl, hb4, hb5⟩
          have HB4 : Hid (BuiltAt w4 (w.heap.size + 1) (acc ++ d)) := hb4
          have HB5 : Hid (Below (w.heap.size + 1) w3 w4) := hb5
          clear hb4 hb5
          go_wp2_with fail
          refine ⟨⟨j + 1, acc ++ d, by go_num, hlt, HS.out, HB4.out, (HBW.out.trans (HB2.out.mono (by have := HLT.out; omega))).trans HB5.out, HNX.out⟩, by simp [intOf]; omega⟩
    · obtain rfl : j = L := by omega
      have HN : Hid (capped (catAll names data r ⟨#[]⟩) = some acc) := by
        show _ = _
        rw [← HCT.out, List.drop_of_length_le (by have := HL.out; omega), catAll]
        show (if acc.size ≤ 4000 then some acc else none) = some acc
        rw [if_pos has]
      go_wp2_with fail
      refine (btext_any _ acc _ HBU.out).mono ?_
      rintro e w2 ⟨rfl, hb2, hb3⟩
      have HB3 : Hid (Below (w.heap.size + 1) wr w2) := hb3
      clear hb2 hb3
      go_wp2_with fail
      go_ret2
      exact ⟨by rw [HN.out]; rfl, HB0.out.trans (HB3.out.mono (by omega))⟩
end Go.Proofs.YthhbpebihgjpjaaGreatDoor
