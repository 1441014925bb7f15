import Derived.Test.YthhbpebihgjpjaaGreatDoorR36
import Derived.Test.YthhbpebihgjpjaaGreatDoorR37
namespace Go.Proofs.YthhbpebihgjpjaaGreatDoor
open Go.RowKit
set_option maxRecDepth 1000000

theorem outStr_get (f : Nat → Nat) (k : Nat) (hk : k < 32) (hf : f k < 256) : f k = ((outStr f).get! k).toNat := by
  have : (outStr f).get! k = UInt8.ofNat (f k) := by
    show (((List.range 32).map fun j => UInt8.ofNat (f j)).toArray)[k]! = _
    rw [getElem!_pos _ _ (by simpa using hk)]
    simp
  rw [this, UInt8.toNat_ofNat']
  exact (Nat.mod_eq_of_lt hf).symm

set_option maxHeartbeats 4000000 in
theorem hash_any (names data r : List ByteArray) (vw : Value) (bn bd : Nat) (w : World) (h : ReadAt w bn bd names data) (hw : TextsAt w vw r) (hl : r.length ≤ 1048577) (hsz : ∀ d ∈ data, d.size ≤ 1048576) (hrs : ∀ d ∈ r, d.size ≤ 1048576) (hR : RoundsAt w) :
    Calls Tryz.prog 296 #[.agg #[vw, readV bn bd]] w fun e w' => e = .returned (readPost (hashOf names data r)) ∧ Below w.heap.size w w' := by
  have H : Hid (ReadAt w bn bd names data) := h
  have HW : Hid (TextsAt w vw r) := hw
  have HSZ : Hid (∀ d ∈ data, d.size ≤ 1048576) := hsz
  have HR : Hid (RoundsAt w) := hR
  obtain ⟨ao, cap, hvw, hcap, hcell⟩ := hw
  subst hvw
  clear h hcell hsz hR
  obtain ⟨rv, hrv⟩ : ∃ rv, rv = readV bn bd := ⟨_, rfl⟩
  have HRV : Hid (rv = readV bn bd) := hrv
  rw [← hrv]
  clear hrv
  cases r with
  | nil =>
    clear hrs
    go_enter Tryz.func296, Tryz.ntmps296
    go_wp2_with fail
    go_ret2
    exact ⟨rfl, (Below.refl _ _).alloc (Nat.le_refl _) _⟩
  | cons y q =>
    have hy : (y.size : Int) ≤ 1048576 := by have := hrs y (by simp); omega
    clear hrs
    obtain ⟨L, hL⟩ : ∃ L, L = q.length := ⟨_, rfl⟩
    have HL : Hid (L = q.length) := hL
    simp only [List.length_cons] at hl hcap ⊢
    rw [← hL] at hl hcap ⊢
    clear hL
    have n0 : (L : Int) ≤ 1048576 := by omega
    have n1 : (L : Int) + 1 ≤ (cap : Int) := by omega
    have n2 : ¬ ((L : Int) + 1 = 0) := by omega
    obtain ⟨g1, o1, hao, q1⟩ : ∃ b o, ao = some ⟨b, o, none⟩ ∧ ∀ k s, (y :: q)[k]? = some s → w.cell? ⟨b, o + k, none⟩ = some (.string s) := by
      obtain ⟨ao', cap', e1, _, e | ⟨b, o, e2, e3⟩⟩ := HW.out
      · cases e.2.1
      · have : ao = ao' := by injection e1
        exact ⟨b, o, this.trans e2, e3⟩
    subst hao
    obtain ⟨o2, ho2, hsl⟩ := slice_tail g1 o1 L cap hcap
    have HQ : Hid (∀ k s, q[k]? = some s → w.cell? ⟨g1, o2 + k, none⟩ = some (.string s)) := fun k s hk => by
      have := q1 (k + 1) s (by simpa using hk)
      rwa [show o1 + (k + 1) = o1 + 1 + k by omega, ← ho2 k (by have := (List.getElem?_eq_some_iff.1 hk).1; have := HL.out; omega)] at this
    clear ho2
    have c0 : ∀ o p, ((w.alloc o).alloc p).cell? ⟨g1, o1, none⟩ = some (.string y) := fun o p => by
      have e := q1 0 y rfl
      exact ((Below.alloc (Below.alloc (Below.refl w.heap.size w) (Nat.le_refl _) o) (by simp) p).cell (p := ⟨g1, o1, none⟩) (block_lt_of_cell e)).trans e
    clear q1
    go_enter Tryz.func296, Tryz.ntmps296
    go_wp2_with fail
    have hbn : BuiltAt ((w.alloc (.cells #[.slice (some ⟨g1, o1, none⟩) (L + 1) cap, rv] 349)).alloc (.cells #[.pointer none, .slice none 0 0] 379)) (w.heap.size + 1) ⟨#[]⟩ := by
      have := built_new (w.alloc (.cells #[.slice (some ⟨g1, o1, none⟩) (L + 1) cap, rv] 349))
      simpa using this
    refine (bstr_any _ _ y _ hbn (by show 0 + y.size ≤ _; omega)).mono ?_
    rintro e w1 ⟨rfl, hb1, hb2⟩
    have HB0 : Hid (Below (w.heap.size + 1) (w.alloc (.cells #[.slice (some ⟨g1, o1, none⟩) (L + 1) cap, rv] 349)) w1) := ((Below.refl _ _).alloc (by simp) _).trans hb2
    have HB1 : Hid (BuiltAt w1 (w.heap.size + 1) (ByteArray.mk #[] ++ y)) := hb1
    clear hb1 hb2 hbn c0
    go_wp2_with fail
    refine (bbyte_any _ _ 0 _ rfl _ HB1.out (by rw [ByteArray.size_append]; show 0 + y.size + 1 ≤ _; omega)).mono ?_
    rintro e w2 ⟨rfl, hb1, hb2⟩
    have HB2 : Hid (Below (w.heap.size + 1) (w.alloc (.cells #[.slice (some ⟨g1, o1, none⟩) (L + 1) cap, rv] 349)) w2) := HB0.out.trans hb2
    have HB3 : Hid (BuiltAt w2 (w.heap.size + 1) (y ++ ⟨#[0]⟩)) := by
      show BuiltAt _ _ _
      rwa [show (ByteArray.mk #[]) = ByteArray.empty from rfl, ByteArray.empty_append] at hb1
    have x0 : w2.cell? ⟨w.heap.size, 0, none⟩ = some (.slice (some ⟨g1, o1, none⟩) (L + 1) cap) := (HB2.out.cell (p := ⟨w.heap.size, 0, none⟩) (by simp)).trans (by simp)
    clear hb1 hb2 HB0 HB1
    go_wp2_with fail
    go_loopw [23] (fun i wr => ∃ (j : Nat) (t : ByteArray), i = .int .i64 j ∧ j ≤ L ∧ t.size ≤ (j + 2) * 1048581 ∧ BuiltAt wr (w.heap.size + 1) t ∧ Below (w.heap.size + 1) (w.alloc (.cells #[.slice (some ⟨g1, o1, none⟩) (L + 1) cap, rv] 349)) wr ∧ hashAll names data (q.drop j) t = hashAll names data q (y ++ ⟨#[0]⟩)) (fun i _ => L - (intOf i).toNat)
    case atStart =>
      refine ⟨0, _, rfl, Nat.zero_le _, ?_, HB3.out, HB2.out, rfl⟩
      rw [ByteArray.size_append]
      show y.size + 1 ≤ _
      omega
    case round =>
      obtain ⟨j, t, rfl, hle, hts, hbu, hbw, hha⟩ := hrel
      have HBU : Hid (BuiltAt wr (w.heap.size + 1) t) := hbu
      have HBW : Hid (Below (w.heap.size + 1) (w.alloc (.cells #[.slice (some ⟨g1, o1, none⟩) (L + 1) cap, rv] 349)) wr) := hbw
      have HHA : Hid (hashAll names data (q.drop j) t = hashAll names data q (y ++ ⟨#[0]⟩)) := hha
      have HBA : Hid (Below w.heap.size w wr) := ((Below.refl _ _).alloc (Nat.le_refl _) _).trans (HBW.out.mono (by omega))
      have y0 : wr.cell? ⟨w.heap.size, 0, none⟩ = some (.slice (some ⟨g1, o1, none⟩) (L + 1) cap) := (HBW.out.cell (p := ⟨w.heap.size, 0, none⟩) (by simp)).trans (by simp)
      have y1 : wr.cell? ⟨w.heap.size, 1, none⟩ = some rv := (HBW.out.cell (p := ⟨w.heap.size, 1, none⟩) (by simp)).trans (by simp)
      clear hbu hbw hha x0
      have j0 : (0 : Int) ≤ (j : Int) := by omega
      by_cases hlt : j < L
      · have j1 : (j : Int) < (L : Int) := by omega
        obtain ⟨z, hz⟩ : ∃ z, q[j]? = some z := ⟨q[j]'(by have := HL.out; omega), by simp⟩
        have r1 : wr.cell? ⟨g1, o2 + j, none⟩ = some (.string z) := (HBA.out.cell (p := ⟨g1, o2 + j, none⟩) (block_lt_of_cell (HQ.out j z hz))).trans (HQ.out j z hz)
        have HDP : Hid (q.drop j = z :: q.drop (j + 1)) := by
          obtain ⟨h1, h2⟩ := List.getElem?_eq_some_iff.1 hz
          show _ = _
          rw [List.drop_eq_getElem_cons h1, h2]
        clear hz
        go_wp2_with fail
        rw [HRV.out]
        refine (ask_any names data _ z bn bd _ (H.out.keepB HBA.out)).mono ?_
        rintro e w3 ⟨rfl, hb2⟩
        rw [← HRV.out]
        have HC2 : Hid (Below wr.heap.size wr w3) := hb2
        have HBU2 : Hid (BuiltAt w3 (w.heap.size + 1) t) := HBU.out.below hb2
        have HLT : Hid (w.heap.size + 1 < wr.heap.size) := HBU.out.lt
        clear hb2
        unfold readPost
        cases hf : fileOf names data z with
        | none =>
          have HN : Hid (hashOf names data (y :: q) = none) := by
            show _ = _
            rw [hashOf, ← HHA.out, HDP.out, hashAll, hf]; rfl
          simp only [Option.getD_none, Option.isSome_none]
          clear hf
          go_wp2_with fail
          go_ret2
          exact ⟨by rw [HN.out]; rfl, HBA.out.trans (HC2.out.mono (by have := HLT.out; omega))⟩
        | some d =>
          have HNX : Hid (hashAll names data (q.drop (j + 1)) ((t ++ fourStr d.size) ++ d) = hashAll names data q (y ++ ⟨#[0]⟩)) := by
            show _ = _
            rw [← HHA.out, HDP.out, hashAll, hf]
          have d0 : (d.size : Int) ≤ 1048576 := by have := HSZ.out d (fileOf_mem hf); omega
          simp only [Option.getD_some, Option.isSome_some]
          clear hf
          have HT1 : Hid (t.size + 4 ≤ 140737488355328) := by show _ ≤ _; omega
          have HT2 : Hid ((t ++ fourStr d.size).size + d.size ≤ 140737488355328) := by
            show _ ≤ _
            rw [ByteArray.size_append]; show t.size + 4 + d.size ≤ _; omega
          have HT3 : Hid (((t ++ fourStr d.size) ++ d).size ≤ (j + 1 + 2) * 1048581) := by
            show _ ≤ _
            rw [ByteArray.size_append, ByteArray.size_append]; show t.size + 4 + d.size ≤ _; omega
          go_wp2_with fail
          refine (fourBytes_any d.size (by omega) _).mono ?_
          rintro e w4 ⟨rfl, hb4⟩
          have HC4 : Hid (Below w3.heap.size w3 w4) := hb4
          have HBU4 : Hid (BuiltAt w4 (w.heap.size + 1) t) := HBU2.out.below hb4
          clear hb4
          go_wp2_with fail
          refine (bstr_any _ t (fourStr d.size) _ HBU4.out HT1.out).mono ?_
          rintro e w5 ⟨rfl, hb5, hb6⟩
          have HBU5 : Hid (BuiltAt w5 (w.heap.size + 1) (t ++ fourStr d.size)) := hb5
          have HC5 : Hid (Below (w.heap.size + 1) w4 w5) := hb6
          clear hb5 hb6
          go_wp2_with fail
          refine (bstr_any _ _ d _ HBU5.out HT2.out).mono ?_
          rintro e w6 ⟨rfl, hb5, hb6⟩
          have HBU6 : Hid (BuiltAt w6 (w.heap.size + 1) ((t ++ fourStr d.size) ++ d)) := hb5
          have HC6 : Hid (Below (w.heap.size + 1) w5 w6) := hb6
          have HLT3 : Hid (w.heap.size + 1 < w3.heap.size) := HBU2.out.lt
          clear hb5 hb6
          go_wp2_with fail
          refine ⟨⟨j + 1, _, by go_num, hlt, HT3.out, HBU6.out, (((HBW.out.trans (HC2.out.mono (by have := HLT.out; omega))).trans (HC4.out.mono (by have := HLT3.out; omega))).trans HC5.out).trans HC6.out, HNX.out⟩, by simp [intOf]; omega⟩
      · obtain rfl : j = L := by omega
        have HN : Hid (hashOf names data (y :: q) = some (hexUpTo (outStr (codeSum keyAt t.data.toList).byte) 32)) := by
          show _ = _
          rw [hashOf, ← HHA.out, List.drop_of_length_le (by have := HL.out; omega), hashAll]; rfl
        go_wp2_with fail
        refine (btext_any _ t _ HBU.out).mono ?_
        rintro e w3 ⟨rfl, hb2, hb3⟩
        have HC3 : Hid (Below (w.heap.size + 1) wr w3) := hb3
        have HLT : Hid (w.heap.size + 1 < w3.heap.size) := hb2.lt
        have HR3 : Hid (RoundsAt w3) := HR.out.later (fun k hk => ((HBA.out.trans (hb3.mono (by omega))).block k hk))
        clear hb2 hb3
        go_wp2_with fail
        refine (of_any keyAt t (by omega) _ HR3.out keyAt_lt).mono ?_
        rintro e w4 ⟨st, hst, rfl, hb4⟩
        have HC4 : Hid (Below w3.heap.size w3 w4) := hb4
        clear hb4
        have HST := hst
        go_wp2_with fail
        refine (inHex_any (outStr st.byte) st.byte (fun k hk => outStr_get _ k hk (Nat.mod_lt _ (by decide))) _).mono ?_
        rintro e w5 ⟨rfl, hb5⟩
        have HC5 : Hid (Below w4.heap.size w4 w5) := hb5
        have HSZ4 : Hid (w3.heap.size ≤ w4.heap.size) := HC4.out.size
        clear hb5
        go_wp2_with fail
        go_ret2
        exact ⟨by rw [HN.out, ← HST.out]; rfl, ((HBA.out.trans (HC3.out.mono (by omega))).trans (HC4.out.mono (by have := HLT.out; omega))).trans (HC5.out.mono (by have := HLT.out; have := HSZ4.out; omega))⟩
end Go.Proofs.YthhbpebihgjpjaaGreatDoor
