import Derived.Test.YthhbpebihgjpjaaGreatDoorJ16
import Derived.Test.YthhbpebihgjpjaaGreatDoorJ18
import Derived.Laws.EntriesVeiled
import Derived.Deep.RegionHeld3
namespace Go.Proofs.YthhbpebihgjpjaaGreatDoor
open Go.RowKit Go.MuLone Go.Maps
set_option maxRecDepth 1000000

theorem opcells_at (l : List KeptV) : ∀ (j : Nat) (x : KeptV), l[j]? = some x → (opcells l)[j * 3]? = some (.func (.func x.fn) #[] x.cap) ∧ (opcells l)[j * 3 + 1]? = some (.string x.data) ∧ (opcells l)[j * 3 + 2]? = some (.bool x.cuts) := by
  induction l with
  | nil => intro j x h; simp at h
  | cons y l ih =>
    intro j x h
    cases j with
    | zero => simp at h; subst h; exact ⟨rfl, rfl, rfl⟩
    | succ j =>
      have h2 := ih j x (by simpa using h)
      have e : ∀ r, (opcells (y :: l))[(j + 1) * 3 + r]? = (opcells l)[j * 3 + r]? := fun r => by
        have : (j + 1) * 3 + r = (j * 3 + r) + 3 := by omega
        rw [this]; rfl
      exact ⟨(e 0).trans h2.1, (e 1).trans h2.2.1, (e 2).trans h2.2.2⟩
theorem OwnS.cell {v : Value} {l : List KeptV} {w : World} (h : OwnS v l w) (j : Nat) (x : KeptV) (hj : l[j]? = some x) : ∃ g cap, v = .slice (some ⟨g, 0, none⟩) l.length cap ∧ w.cell? ⟨g, j * 3, none⟩ = some (.func (.func x.fn) #[] x.cap) ∧ w.cell? ⟨g, j * 3 + 1, none⟩ = some (.string x.data) ∧ w.cell? ⟨g, j * 3 + 2, none⟩ = some (.bool x.cuts) := by
  have hlt : j < l.length := (List.getElem?_eq_some_iff.1 hj).1
  obtain ⟨_, ⟨rfl, h0⟩ | ⟨g, cap, cur, rfl, _, hh, _, _, _, htk⟩⟩ := h.own
  · omega
  · have e : ∀ i u, i < l.length * 3 → (opcells l)[i]? = some u → w.cell? ⟨g, i, none⟩ = some u := fun i u hi hu => by
      rw [cell_of_row _ _ _ _ _ _ hh, ← Array.getElem?_toList]; rw [← htk, List.getElem?_take, if_pos hi] at hu; exact hu
    have h2 := opcells_at l j x hj
    exact ⟨g, cap, rfl, e _ _ (by omega) h2.1, e _ _ (by omega) h2.2.1, e _ _ (by omega) h2.2.2⟩
theorem OwnS.cap {v : Value} {l : List KeptV} {w : World} (h : OwnS v l w) : (v = .slice none 0 0 ∧ l = []) ∨ ∃ g cap, v = .slice (some ⟨g, 0, none⟩) l.length cap ∧ l.length ≤ cap := by
  obtain ⟨_, ⟨rfl, h0⟩ | ⟨g, cap, cur, rfl, _, hh, h1, _⟩⟩ := h.own
  · exact Or.inl ⟨rfl, List.eq_nil_of_length_eq_zero h0⟩
  · exact Or.inr ⟨g, cap, rfl, h1⟩
theorem KeptTie.part {fb : Nat} {o : WaitV} {w : World} {k : KeptV} (h : KeptTie fb o w k) : partO o k.data = o ∧ k.data.size ≤ o.data.size ∧ k.cuts = decide (o.kind ≤ 2) ∧ (o.kind ≤ 2 → k.data = o.data) := by
  obtain ⟨bf, bn, h1, h2, h3⟩ := h
  rcases h3 with ⟨hk, rfl⟩ | ⟨hk, rfl⟩ | ⟨hk, bt, h4, rfl⟩ | ⟨hk, rfl⟩
  · exact ⟨by rw [partO, if_pos (by omega)], Nat.le_refl _, by simp [hk], fun _ => rfl⟩
  · exact ⟨by rw [partO, if_pos (by omega)], Nat.le_refl _, by simp [hk], fun _ => rfl⟩
  · exact ⟨by rw [partO, if_neg (by omega)], Nat.zero_le _, by simp [hk], fun h => by omega⟩
  · exact ⟨by rw [partO, if_neg (by omega)], Nat.zero_le _, by simp [hk], fun h => by omega⟩
theorem ProgRow.c5 {w : World} {fb : Nat} {d : ProgD} {lk : Int} {nb sb : Nat} {sv : Value} (h : ProgRow w fb d lk nb sb sv) : w.cell? ⟨fb, 5, none⟩ = some sv := by rw [cell_of_row _ _ _ _ _ _ h]; rfl
/-- What Crash leaves. -/
def CrashPost (L : List FileV) (M : Nat) (d : ProgD) (fb : Nat) (w : World) (e : Ending) (w' : World) : Prop :=
  e = .returned (.tuple #[]) ∧ ∃ nb sb, ProgRow w' fb { d with fuse := 0, down := false } 0 nb sb (.slice none 0 0) ∧ MapAt w' nb M L ∧ MapAt w' sb M L ∧ Turns (fun k => k = fb) w w' ∧ w.heap.size ≤ nb ∧ w.heap.size ≤ sb ∧ nb ≠ sb
/-- Under way: so many were done again. -/
structure PcMem (r : RefD) (d : ProgD) (fb nb sb m : Nat) (sv : Value) (w : World) (j : Nat) (wr : World) : Prop where
  row : ProgRow wr fb d 1 nb sb sv
  map : MapAt wr nb (m + j) (keptL r j)
  turns : Turns (fun k => k = fb) w wr


set_option maxHeartbeats 4000000 in
theorem progCrash_any (keep cut : Int) (d : ProgD) (fb : Nat) (nb sb m : Nat) (sv : Value) (S : List KeptV) (r : RefD) (w : World)
    (h : ProgRow w fb d 0 nb sb sv) (hm : MapAt w sb m r.safe) (hS : OwnS sv S w) (hne : sv.ownBlock ≠ some fb ∧ sb ≠ fb) (hlen : S.length = r.wait.length) (hsl : S.length ≤ 1048576)
    (htie : ∀ j k, S[j]? = some k → KeptTie fb (waitAt r.wait j) w k ∧ ∀ b, BoxOf k b → b ≠ fb) (hok : ∀ j, j < r.wait.length → WaitOk (keptL r j) (waitAt r.wait j)) (hkept : ∀ j, j ≤ r.wait.length → totalBytes (keptL r j) ≤ 65536) (hroom : m + r.wait.length < maxLen) :
    Calls Tryz.prog 40 #[.pointer (some ⟨fb, 0, none⟩), .int .i64 keep, .int .i64 cut] w (CrashPost (crashSafe r keep cut) (m + r.wait.length) d fb w) := by
  have h0 : w.cell? ⟨fb, 0, none⟩ = some (.int .i32 0) := by rw [cell_of_row _ _ _ _ _ _ h]; rfl
  have f0 : w.frozen? ⟨fb, 0, none⟩ = false := frozen_of_row _ _ _ _ _ h
  have HR1 : Hid (ProgRow (w.setCell ⟨fb, 0, none⟩ (.int .i32 1)) fb d 1 nb sb sv) := h.setLock 1
  have HT1 : Hid (Turns (fun k => k = fb) w (w.setCell ⟨fb, 0, none⟩ (.int .i32 1))) := (Turns.refl _ w).setCell ⟨fb, 0, none⟩ _ (Or.inl rfl)
  have HM1 : Hid (MapAt (w.setCell ⟨fb, 0, none⟩ (.int .i32 1)) sb m r.safe) := hm.keep (heap_setCell_other _ _ _ _ hne.2)
  have HSV : Hid (OwnS sv S w) := hS
  have HTIE : Hid (∀ j k, S[j]? = some k → KeptTie fb (waitAt r.wait j) w k ∧ ∀ b, BoxOf k b → b ≠ fb) := htie
  have HOK : Hid (∀ j, j < r.wait.length → WaitOk (keptL r j) (waitAt r.wait j)) := hok
  have HKP : Hid (∀ j, j ≤ r.wait.length → totalBytes (keptL r j) ≤ 65536) := hkept
  have hfb : fb < w.heap.size := h.lt
  clear h hm hS htie hok hkept
  go_enter_defers Tryz.func40, Tryz.ntmps40
  go_wp2_with (go_at_call 58; refine (lock_free muLib ⟨fb, 0, none⟩ _ h0 f0).mono ?_; rintro e w1 ⟨rfl, rfl⟩; refine Hid.out ?_)
  clear h0 f0
  generalize w.setCell ⟨fb, 0, none⟩ (.int .i32 1) = w2 at *
  have c4 : w2.cell? ⟨fb, 4, none⟩ = some (.map (some sb)) := by rw [cell_of_row _ _ _ _ _ _ HR1.out]; rfl
  obtain ⟨es, clock, hb2, hz2⟩ := HM1.out.cloned
  have HCL : Hid (Calls Tryz.prog 60 #[.map (some sb)] w2 fun e w' => e = .returned (.map (some w2.heap.size)) ∧ w' = w2.alloc (.map es clock)) := clone_any sb es clock w2 hb2
  have HR3 : Hid (ProgRow (w2.alloc (.map es clock)) fb d 1 nb sb sv) := (heapA_old w2 _ fb HR1.out.lt).trans HR1.out
  have HT3 : Hid (Turns (fun k => k = fb) w (w2.alloc (.map es clock))) := HT1.out.trans (Turns.of_below (fun k => k = fb) ((Below.refl _ _).alloc (Nat.le_refl _) _)) (fun i hi => Or.inl hi)
  have HZ3 : Hid (MapAt (w2.alloc (.map es clock)) w2.heap.size m r.safe) := hz2
  have hws : w.heap.size ≤ w2.heap.size := HT1.out.size
  clear hb2 hz2 HR1 HM1 HT1
  unfold Hid
  go_wp2_with fail
  refine HCL.out.mono ?_
  rintro e w3 ⟨rfl, rfl⟩
  clear HCL
  generalize w2.heap.size = nb2 at *
  generalize w2.alloc (.map es clock) = w3 at *
  have f3 : w3.frozen? ⟨fb, 3, none⟩ = false := frozen_of_row _ _ _ _ _ HR3.out
  have c3 : w3.cell? ⟨fb, 3, none⟩ = some (.map (some nb)) := by rw [cell_of_row _ _ _ _ _ _ HR3.out]; rfl
  have HR4 : Hid (ProgRow (w3.setCell ⟨fb, 3, none⟩ (.map (some nb2))) fb d 1 nb2 sb sv) := HR3.out.setNow nb2
  have HT4 : Hid (Turns (fun k => k = fb) w (w3.setCell ⟨fb, 3, none⟩ (.map (some nb2)))) := HT3.out.setCell ⟨fb, 3, none⟩ _ (Or.inl rfl)
  have HZ4 : Hid (MapAt (w3.setCell ⟨fb, 3, none⟩ (.map (some nb2))) nb2 m r.safe) := HZ3.out.keep (heap_setCell_other _ _ _ _ (show nb2 ≠ fb by omega))
  obtain ⟨asv, cs, hform⟩ := HSV.out.form
  subst hform
  have c5 : (w3.setCell ⟨fb, 3, none⟩ (.map (some nb2))).cell? ⟨fb, 5, none⟩ = some (.slice asv S.length cs) := by rw [cell_of_row _ _ _ _ _ _ HR4.out]; rfl
  obtain ⟨K0, hK0⟩ : ∃ K0 : Int, K0 = (if keep < 0 then 0 else keep) := ⟨_, rfl⟩
  obtain ⟨K, hK⟩ : ∃ K : Nat, keepsN r keep = K := ⟨_, rfl⟩
  have hmax : (if keep < 0 then 0 else keep) = K0 := hK0.symm
  have hmin : (if (S.length : Int) < K0 then (S.length : Int) else K0) = (K : Int) := by
    rw [← hK, hK0, keepsN]
    split <;> split at * <;> omega
  have HK : Hid (keepsN r keep = K ∧ K ≤ r.wait.length) := ⟨hK, by rw [← hK]; exact Nat.min_le_left _ _⟩
  have HLEN : Hid (S.length = r.wait.length) := hlen
  have hKl : (K : Int) ≤ (S.length : Int) := by have := HK.out.2; omega
  have h00 : (0 : Int) ≤ (K : Int) := by omega
  have hKc : (K : Int) ≤ (cs : Int) := by
    rcases HSV.out.cap with ⟨e, e2⟩ | ⟨g, cap, e, e2⟩
    · rw [e2] at hKl; simp at hKl; omega
    · injection e with _ _ e3; omega
  clear HR3 HT3 HZ3 hK0 hK hlen
  go_wp2_with fail
  generalize w3.setCell ⟨fb, 3, none⟩ (.map (some nb2)) = w4 at *
  go_loopw [39] (fun i wr => ∃ j : Nat, i = .int .i64 j ∧ j ≤ K ∧ PcMem r d fb nb2 sb m (.slice asv S.length cs) w j wr) (fun i _ => K - (intOf i).toNat)
  case atStart => exact ⟨0, rfl, Nat.zero_le _, HR4.out, HZ4.out, HT4.out⟩
  case round =>
    obtain ⟨j, rfl, hle, hmem⟩ := hrel
    have HM : Hid (PcMem r d fb nb2 sb m (.slice asv S.length cs) w j wr) := hmem
    clear hmem HR4 HT4 HZ4 c5 f3 c3 c4
    have i0 : (0 : Int) ≤ (j : Int) := by omega
    by_cases hlt : j < K
    · have i1 : (j : Int) < (K : Int) := by omega
      obtain ⟨kk, hkk⟩ : ∃ kk, S[j]? = some kk := ⟨S[j]'(by omega), by simp⟩
      have HS2 : Hid (OwnS (.slice asv S.length cs) S wr) := HSV.out.keep (fun k hk => HM.out.turns.block k (HSV.out.lt k hk) (fun e => hne.1 (by rw [hk, e])))
      obtain ⟨g, cap, hge, q0, q1, q2⟩ := HS2.out.cell j kk hkk
      injection hge with e1 e2 e3
      subst e1 e3
      obtain ⟨kfn, kcap, kdata, kcuts⟩ := kk
      simp only at q0 q1 q2
      have HTJ : Hid (KeptTie fb (waitAt r.wait j) (wr.alloc (.cells #[.func (.func kfn) #[] kcap, .string kdata, .bool kcuts] 120)) ⟨kfn, kcap, kdata, kcuts⟩) := (HTIE.out j _ hkk).1.keep (fun b hb => (heapA_old wr _ b (Nat.lt_of_lt_of_le ((HTIE.out j _ hkk).1.box_lt b hb) HM.out.turns.size)).trans (HM.out.turns.block b ((HTIE.out j _ hkk).1.box_lt b hb) ((HTIE.out j _ hkk).2 b hb)))
      have HBX : Hid (∀ b, BoxOf ⟨kfn, kcap, kdata, kcuts⟩ b → b ≠ nb2) := fun b hb => by have := (HTIE.out j _ hkk).1.box_lt b hb; omega
      have HRA : Hid (ProgRow (wr.alloc (.cells #[.func (.func kfn) #[] kcap, .string kdata, .bool kcuts] 120)) fb d 1 nb2 sb (.slice (some ⟨g, 0, none⟩) S.length cs)) := (heapA_old wr _ fb HM.out.row.lt).trans HM.out.row
      have HMA : Hid (MapAt (wr.alloc (.cells #[.func (.func kfn) #[] kcap, .string kdata, .bool kcuts] 120)) nb2 (m + j) (keptL r j)) := HM.out.map.keep (heapA_old wr _ nb2 HM.out.map.lt)
      have HTA : Hid (Turns (fun k => k = fb) w (wr.alloc (.cells #[.func (.func kfn) #[] kcap, .string kdata, .bool kcuts] 120))) := HM.out.turns.trans (Turns.of_below (fun k => k = fb) ((Below.refl _ _).alloc (Nat.le_refl _) _)) (fun i hi => Or.inl hi)
      have HJ : Hid (j < r.wait.length) := by show _ < _; have := HK.out.2; omega
      go_wp2_with fail
      rw [HTJ.out.enters, Oper.upon_enter]
      refine (HTJ.out.call kdata (keptL r j) d 1 nb2 sb (m + j) _ HRA.out HMA.out (by have := HJ.out; omega) (by omega) HBX.out (Nat.le_trans (HOK.out j HJ.out).name (by decide)) (Nat.le_trans (HOK.out j HJ.out).data (by decide)) (Nat.le_trans HTJ.out.part.2.1 (Nat.le_trans (HOK.out j HJ.out).data (by decide))) (Nat.le_trans (dataOf_le _ _) (Nat.le_trans (HKP.out j (Nat.le_of_lt HJ.out)) (by decide)))).mono ?_
      rintro e w5 ⟨rfl, hm5, ht5⟩
      have HST : Hid (PcMem r d fb nb2 sb m (.slice (some ⟨g, 0, none⟩) S.length cs) w (j + 1) w5) := by
        refine ⟨(ht5.block fb HRA.out.lt (by omega)).trans HRA.out, ?_, HTA.out.trans ht5 (fun i hi => Or.inr (by omega))⟩
        have e1 := HTJ.out.part.1
        simp only at e1
        rw [e1] at hm5
        exact hm5
      clear hm5 ht5 HTJ HBX HRA HMA HTA q0 q1 q2
      go_wp2
      go_roundw
      case rel =>
        first
          | exact ⟨j + 1, by go_num, hlt, HST.out⟩
          | ((repeat apply Exists.intro); exact ⟨⟨j + 1, by go_num, hlt, HST.out⟩, rfl⟩)
      case measure => simp [intOf]; omega
    · obtain rfl : j = K := by omega
      by_cases hin : j < S.length
      · obtain ⟨kk, hkk⟩ : ∃ kk, S[j]? = some kk := ⟨S[j]'hin, by simp⟩
        have HS2 : Hid (OwnS (.slice asv S.length cs) S wr) := HSV.out.keep (fun k hk => HM.out.turns.block k (HSV.out.lt k hk) (fun e => hne.1 (by rw [hk, e])))
        obtain ⟨g, cap, hge, q0, q1, q2⟩ := HS2.out.cell j kk hkk
        injection hge with e1 e2 e3
        subst e1 e3
        obtain ⟨kfn, kcap, kdata, kcuts⟩ := kk
        simp only at q0 q1 q2
        have i1 : (j : Int) < (S.length : Int) := by omega
        have HJ : Hid (j < r.wait.length) := by show _ < _; rw [← HLEN.out]; exact hin
        have HPT : Hid (kcuts = decide ((waitAt r.wait j).kind ≤ 2)) := (HTIE.out j _ hkk).1.part.2.2.1
        by_cases hcut : 0 ≤ cut
        · by_cases hkc : kcuts = true
          · subst hkc
            have c5 : wr.cell? ⟨fb, 5, none⟩ = some (.slice (some ⟨g, 0, none⟩) S.length cs) := by rw [cell_of_row _ _ _ _ _ _ HM.out.row]; rfl
            have hkd : kdata = (waitAt r.wait j).data := (HTIE.out j _ hkk).1.part.2.2.2 (by have := HPT.out; simpa using this.symm)
            obtain ⟨c2, hc2⟩ : ∃ c2 : Nat, c2 = (if (kdata.size : Int) < cut then kdata.size else cut.toNat) := ⟨_, rfl⟩
            have hmin2 : (if (kdata.size : Int) < cut then (kdata.size : Int) else cut) = (c2 : Int) := by rw [hc2]; split <;> omega
            have hc3 : (c2 : Int) ≤ (kdata.size : Int) := by rw [← hmin2]; split <;> omega
            have hc4 : (0 : Int) ≤ (c2 : Int) := by omega
            have HPO : Hid (partO (waitAt r.wait j) (kdata.extract 0 c2) = cutO (waitAt r.wait j) cut) := by
              show _ = _
              rw [partO, if_pos (by have := HPT.out; simpa using this.symm), cutO, ← hkd]
              split
              · rename_i hq
                rw [hc2, if_neg (by omega)]
              · rename_i hq
                have : c2 = kdata.size := by rw [hc2]; split <;> omega
                rw [this, ByteArray.extract_zero_size, hkd]
            have HTJ : Hid (KeptTie fb (waitAt r.wait j) (wr.alloc (.cells #[.func (.func kfn) #[] kcap, .string kdata, .bool true] 120)) ⟨kfn, kcap, kdata, true⟩) := (HTIE.out j _ hkk).1.keep (fun b hb => (heapA_old wr _ b (Nat.lt_of_lt_of_le ((HTIE.out j _ hkk).1.box_lt b hb) HM.out.turns.size)).trans (HM.out.turns.block b ((HTIE.out j _ hkk).1.box_lt b hb) ((HTIE.out j _ hkk).2 b hb)))
            have HBX : Hid (∀ b, BoxOf ⟨kfn, kcap, kdata, true⟩ b → b ≠ nb2) := fun b hb => by have := (HTIE.out j _ hkk).1.box_lt b hb; omega
            have HRA : Hid (ProgRow (wr.alloc (.cells #[.func (.func kfn) #[] kcap, .string kdata, .bool true] 120)) fb d 1 nb2 sb (.slice (some ⟨g, 0, none⟩) S.length cs)) := (heapA_old wr _ fb HM.out.row.lt).trans HM.out.row
            have HMA : Hid (MapAt (wr.alloc (.cells #[.func (.func kfn) #[] kcap, .string kdata, .bool true] 120)) nb2 (m + j) (keptL r j)) := HM.out.map.keep (heapA_old wr _ nb2 HM.out.map.lt)
            have HTA : Hid (Turns (fun k => k = fb) w (wr.alloc (.cells #[.func (.func kfn) #[] kcap, .string kdata, .bool true] 120))) := HM.out.turns.trans (Turns.of_below (fun k => k = fb) ((Below.refl _ _).alloc (Nat.le_refl _) _)) (fun i hi => Or.inl hi)
            have hxs : (kdata.extract 0 c2).size ≤ kdata.size := by simp [ByteArray.size_extract]; omega
            have HCA : Hid (∀ wx : World, wx.heap = (wr.alloc (.cells #[.func (.func kfn) #[] kcap, .string kdata, .bool true] 120)).heap → Calls Tryz.prog kfn (#[.string (kdata.extract 0 c2)] ++ kcap) wx fun e w' => e = .returned (.tuple #[]) ∧ MapAt w' nb2 (m + j + 1) (applyL (keptL r j) (partO (waitAt r.wait j) (kdata.extract 0 c2))) ∧ Turns (fun k => k = nb2) wx w') := fun wx hx =>
              (HTJ.out.keep (w' := wx) (fun b _ => by rw [hx])).call (kdata.extract 0 c2) (keptL r j) d 1 nb2 sb (m + j) _ (show ProgRow wx fb d 1 nb2 sb (.slice (some ⟨g, 0, none⟩) S.length cs) by unfold ProgRow; rw [hx]; exact HRA.out) (HMA.out.keep (by rw [hx])) (by have := HJ.out; omega) (by omega) HBX.out (Nat.le_trans (HOK.out j HJ.out).name (by decide)) (Nat.le_trans (HOK.out j HJ.out).data (by decide)) (Nat.le_trans hxs (Nat.le_trans HTJ.out.part.2.1 (Nat.le_trans (HOK.out j HJ.out).data (by decide)))) (Nat.le_trans (dataOf_le _ _) (Nat.le_trans (HKP.out j (Nat.le_of_lt HJ.out)) (by decide)))
            have HL6 : Hid (crashSafe r keep cut = applyL (keptL r j) (partO (waitAt r.wait j) (kdata.extract 0 c2))) := by
              show _ = _
              rw [HPO.out, crashSafe, HK.out.1, if_pos ⟨HJ.out, by have := HPT.out; simpa using this.symm, hcut⟩]
            have HEN : Hid (∀ (w : World) (args : Array Value), (callFunc kfn args).run Tryz.prog w = .ok (.enter kfn args) w) := HTJ.out.enters
            have g0 : (wr.alloc (.cells #[.func (.func kfn) #[] kcap, .string kdata, .bool true] 120)).cell? ⟨wr.heap.size, 0, none⟩ = some (.func (.func kfn) #[] kcap) := cell_fresh wr _ _ 0 _ rfl
            have g1 : (wr.alloc (.cells #[.func (.func kfn) #[] kcap, .string kdata, .bool true] 120)).cell? ⟨wr.heap.size, 1, none⟩ = some (.string kdata) := cell_fresh wr _ _ 1 _ rfl
            have hsz1 : wr.heap.size < (wr.alloc (.cells #[.func (.func kfn) #[] kcap, .string kdata, .bool true] 120)).heap.size := by simp
            have hnw : nb2 < wr.heap.size := HM.out.map.lt
            clear hkd hc2
            go_wp2_with fail
            clear q0 q1 q2 c5
            generalize wr.alloc (.cells #[.func (.func kfn) #[] kcap, .string kdata, .bool true] 120) = wA at *
            have hen : ∀ (w : World) (args : Array Value), (callFunc kfn args).run Tryz.prog w = .ok (.enter kfn args) w := HEN.out
            go_region_held3 (fun w' => w'.cell? ⟨wr.heap.size, 0, none⟩ = some (.func (.func kfn) #[] kcap) ∧ w'.cell? ⟨wr.heap.size, 1, none⟩ = some (.string kdata)) (first | exact ⟨g0, g1⟩ | exact hS5) (first | (refine (HCA.out wA.drew rfl).mono ?_; rintro e w6 ⟨rfl, hm5, ht5⟩; have hS5 : w6.cell? ⟨wr.heap.size, 0, none⟩ = some (.func (.func kfn) #[] kcap) ∧ w6.cell? ⟨wr.heap.size, 1, none⟩ = some (.string kdata) := ⟨(World.cell?_of_block (w := wA) (a := ⟨wr.heap.size, 0, none⟩) (ht5.block wr.heap.size hsz1 (by omega))).trans g0, (World.cell?_of_block (w := wA) (a := ⟨wr.heap.size, 1, none⟩) (ht5.block wr.heap.size hsz1 (by omega))).trans g1⟩))
            all_goals
              obtain ⟨L, hL⟩ : ∃ L, L = applyL (keptL r j) (partO (waitAt r.wait j) (kdata.extract 0 c2)) := ⟨_, rfl⟩
              rw [← hL] at HL6 hm5
              have HR6 : Hid (ProgRow w6 fb d 1 nb2 sb (.slice (some ⟨g, 0, none⟩) S.length cs)) := (ht5.block fb HRA.out.lt (by omega)).trans HRA.out
              have HM6 : Hid (MapAt w6 nb2 (m + r.wait.length) L) := hm5.mono (by have := HJ.out; omega)
              have HT6 : Hid (Turns (fun k => k = fb) w w6) := HTA.out.trans (G := fun k => k = nb2) (c := w6) ⟨ht5.os, ht5.output, ht5.size, ht5.block⟩ (fun i hi => Or.inr (by omega))
              clear hm5 ht5 hS5 HCA HEN hen HTJ HRA HMA HTA g0 g1 hL HPO
              skip
              have HNE : Hid (nb2 ≠ fb) := by show _ ≠ _; omega
              have HKS : Hid (Calls Tryz.prog 61 #[.pointer (some ⟨fb, 0, none⟩)] w6 fun e w' => e = .returned (.tuple #[]) ∧ ProgRow w' fb d 1 nb2 w6.heap.size (.slice none 0 0) ∧ MapAt w' nb2 (m + r.wait.length) L ∧ MapAt w' w6.heap.size (m + r.wait.length) L ∧ Turns (fun k => k = fb) w6 w') := keepSafe_any L d fb 1 nb2 sb _ _ w6 HR6.out HM6.out HNE.out
              go_wp2_with fail
              refine HKS.out.mono ?_
              rintro e w7 ⟨rfl, hr7, hm7, hz7, ht7⟩
              have HR7 : Hid (ProgRow w7 fb d 1 nb2 w6.heap.size (.slice none 0 0)) := hr7
              have HM7 : Hid (MapAt w7 nb2 (m + r.wait.length) L ∧ MapAt w7 w6.heap.size (m + r.wait.length) L) := ⟨hm7, hz7⟩
              have HT7 : Hid (Turns (fun k => k = fb) w w7) := HT6.out.trans ht7 (fun i hi => Or.inl hi)
              have HN7 : Hid (nb2 < w6.heap.size ∧ w.heap.size ≤ w6.heap.size) := ⟨HM6.out.lt, HT6.out.size⟩
              have c6 : w7.cell? ⟨fb, 6, none⟩ = some (.int .i64 d.fuse) := by rw [cell_of_row _ _ _ _ _ _ HR7.out]; rfl
              have f6 : w7.frozen? ⟨fb, 6, none⟩ = false := frozen_of_row _ _ _ _ _ HR7.out
              have HR8 : Hid (ProgRow ((w7.setCell ⟨fb, 6, none⟩ (.int .i64 0)).setCell ⟨fb, 7, none⟩ (.bool false)) fb { d with fuse := 0, down := false } 1 nb2 w6.heap.size (.slice none 0 0)) := (HR7.out.setFuse 0).setDown false
              have c7 : (w7.setCell ⟨fb, 6, none⟩ (.int .i64 0)).cell? ⟨fb, 7, none⟩ = some (.bool d.down) := by rw [cell_of_row _ _ _ _ _ _ (HR7.out.setFuse 0)]; rfl
              have f7 : (w7.setCell ⟨fb, 6, none⟩ (.int .i64 0)).frozen? ⟨fb, 7, none⟩ = false := frozen_of_row _ _ _ _ _ (HR7.out.setFuse 0)
              clear hr7 hm7 hz7 ht7 HKS HR6 HM6 HT6 HR7
              go_wp2
              have HR2 := HR8
              refine leaves_cons (f := 59) (args := #[.pointer (some ⟨fb, 0, none⟩)]) (by simp) (by simp [go_sem]) ?_; refine (unlock_deferred muLib ⟨fb, 0, none⟩ .returning _ ?_ ?_).mono ?_; (rw [cell_of_row _ _ _ _ _ _ HR2.out]; rfl); (exact frozen_of_row _ _ _ _ _ HR2.out); rintro e u' w'' ⟨rfl, rfl, rfl⟩
              refine ⟨_, results_none rfl _ _ _, rfl, nb2, w6.heap.size, HR8.out.setLock 0, ?_, ?_, ((HT7.out.setCell ⟨fb, 6, none⟩ _ (Or.inl rfl)).setCell ⟨fb, 7, none⟩ _ (Or.inl rfl)).setCell ⟨fb, 0, none⟩ _ (Or.inl rfl), hws, HN7.out.2, ?_⟩
              · rw [HL6.out]; exact HM7.out.1.keep (by rw [heap_setCell_other _ _ _ _ HNE.out, heap_setCell_other _ _ _ _ HNE.out, heap_setCell_other _ _ _ _ HNE.out])
              · have hn : w6.heap.size ≠ fb := by have := HN7.out.2; omega
                rw [HL6.out]; exact HM7.out.2.keep (by rw [heap_setCell_other _ _ _ _ hn, heap_setCell_other _ _ _ _ hn, heap_setCell_other _ _ _ _ hn])
              · have := HN7.out.1; omega
          · have hkc2 : kcuts = false := by simpa using hkc
            subst hkc2
            obtain ⟨L, hL⟩ : ∃ L, L = keptL r j := ⟨_, rfl⟩
            obtain ⟨w6, hw6⟩ : ∃ w6, w6 = wr := ⟨_, rfl⟩
            have HL6 : Hid (crashSafe r keep cut = L) := by
              show _ = _
              rw [crashSafe, if_neg ?_, HK.out.1, hL]
              exact fun h => absurd h.2.1 (by rw [HK.out.1]; have := HPT.out; simpa using this)
            subst hw6
            have HR6 : Hid _ := HM.out.row
            have HM6 : Hid (MapAt w6 nb2 (m + r.wait.length) L) := by rw [hL]; exact HM.out.map.mono (by have := HK.out.2; omega)
            have HT6 : Hid (Turns (fun k => k = fb) w w6) := HM.out.turns
            have c5 := ProgRow.c5 HR6.out
            clear hL
            skip
            have HNE : Hid (nb2 ≠ fb) := by show _ ≠ _; omega
            have HKS : Hid (Calls Tryz.prog 61 #[.pointer (some ⟨fb, 0, none⟩)] w6 fun e w' => e = .returned (.tuple #[]) ∧ ProgRow w' fb d 1 nb2 w6.heap.size (.slice none 0 0) ∧ MapAt w' nb2 (m + r.wait.length) L ∧ MapAt w' w6.heap.size (m + r.wait.length) L ∧ Turns (fun k => k = fb) w6 w') := keepSafe_any L d fb 1 nb2 sb _ _ w6 HR6.out HM6.out HNE.out
            go_wp2_with fail
            refine HKS.out.mono ?_
            rintro e w7 ⟨rfl, hr7, hm7, hz7, ht7⟩
            have HR7 : Hid (ProgRow w7 fb d 1 nb2 w6.heap.size (.slice none 0 0)) := hr7
            have HM7 : Hid (MapAt w7 nb2 (m + r.wait.length) L ∧ MapAt w7 w6.heap.size (m + r.wait.length) L) := ⟨hm7, hz7⟩
            have HT7 : Hid (Turns (fun k => k = fb) w w7) := HT6.out.trans ht7 (fun i hi => Or.inl hi)
            have HN7 : Hid (nb2 < w6.heap.size ∧ w.heap.size ≤ w6.heap.size) := ⟨HM6.out.lt, HT6.out.size⟩
            have c6 : w7.cell? ⟨fb, 6, none⟩ = some (.int .i64 d.fuse) := by rw [cell_of_row _ _ _ _ _ _ HR7.out]; rfl
            have f6 : w7.frozen? ⟨fb, 6, none⟩ = false := frozen_of_row _ _ _ _ _ HR7.out
            have HR8 : Hid (ProgRow ((w7.setCell ⟨fb, 6, none⟩ (.int .i64 0)).setCell ⟨fb, 7, none⟩ (.bool false)) fb { d with fuse := 0, down := false } 1 nb2 w6.heap.size (.slice none 0 0)) := (HR7.out.setFuse 0).setDown false
            have c7 : (w7.setCell ⟨fb, 6, none⟩ (.int .i64 0)).cell? ⟨fb, 7, none⟩ = some (.bool d.down) := by rw [cell_of_row _ _ _ _ _ _ (HR7.out.setFuse 0)]; rfl
            have f7 : (w7.setCell ⟨fb, 6, none⟩ (.int .i64 0)).frozen? ⟨fb, 7, none⟩ = false := frozen_of_row _ _ _ _ _ (HR7.out.setFuse 0)
            clear hr7 hm7 hz7 ht7 HKS HR6 HM6 HT6 HR7
            go_wp2
            have HR2 := HR8
            refine leaves_cons (f := 59) (args := #[.pointer (some ⟨fb, 0, none⟩)]) (by simp) (by simp [go_sem]) ?_; refine (unlock_deferred muLib ⟨fb, 0, none⟩ .returning _ ?_ ?_).mono ?_; (rw [cell_of_row _ _ _ _ _ _ HR2.out]; rfl); (exact frozen_of_row _ _ _ _ _ HR2.out); rintro e u' w'' ⟨rfl, rfl, rfl⟩
            refine ⟨_, results_none rfl _ _ _, rfl, nb2, w6.heap.size, HR8.out.setLock 0, ?_, ?_, ((HT7.out.setCell ⟨fb, 6, none⟩ _ (Or.inl rfl)).setCell ⟨fb, 7, none⟩ _ (Or.inl rfl)).setCell ⟨fb, 0, none⟩ _ (Or.inl rfl), hws, HN7.out.2, ?_⟩
            · rw [HL6.out]; exact HM7.out.1.keep (by rw [heap_setCell_other _ _ _ _ HNE.out, heap_setCell_other _ _ _ _ HNE.out, heap_setCell_other _ _ _ _ HNE.out])
            · have hn : w6.heap.size ≠ fb := by have := HN7.out.2; omega
              rw [HL6.out]; exact HM7.out.2.keep (by rw [heap_setCell_other _ _ _ _ hn, heap_setCell_other _ _ _ _ hn, heap_setCell_other _ _ _ _ hn])
            · have := HN7.out.1; omega
        · have hcut2 : cut < 0 := by omega
          obtain ⟨L, hL⟩ : ∃ L, L = keptL r j := ⟨_, rfl⟩
          obtain ⟨w6, hw6⟩ : ∃ w6, w6 = wr := ⟨_, rfl⟩
          have HL6 : Hid (crashSafe r keep cut = L) := by
            show _ = _
            rw [crashSafe, if_neg ?_, HK.out.1, hL]
            exact fun h => hcut h.2.2
          subst hw6
          have HR6 : Hid _ := HM.out.row
          have HM6 : Hid (MapAt w6 nb2 (m + r.wait.length) L) := by rw [hL]; exact HM.out.map.mono (by have := HK.out.2; omega)
          have HT6 : Hid (Turns (fun k => k = fb) w w6) := HM.out.turns
          have c5 := ProgRow.c5 HR6.out
          clear hL
          skip
          have HNE : Hid (nb2 ≠ fb) := by show _ ≠ _; omega
          have HKS : Hid (Calls Tryz.prog 61 #[.pointer (some ⟨fb, 0, none⟩)] w6 fun e w' => e = .returned (.tuple #[]) ∧ ProgRow w' fb d 1 nb2 w6.heap.size (.slice none 0 0) ∧ MapAt w' nb2 (m + r.wait.length) L ∧ MapAt w' w6.heap.size (m + r.wait.length) L ∧ Turns (fun k => k = fb) w6 w') := keepSafe_any L d fb 1 nb2 sb _ _ w6 HR6.out HM6.out HNE.out
          go_wp2_with fail
          refine HKS.out.mono ?_
          rintro e w7 ⟨rfl, hr7, hm7, hz7, ht7⟩
          have HR7 : Hid (ProgRow w7 fb d 1 nb2 w6.heap.size (.slice none 0 0)) := hr7
          have HM7 : Hid (MapAt w7 nb2 (m + r.wait.length) L ∧ MapAt w7 w6.heap.size (m + r.wait.length) L) := ⟨hm7, hz7⟩
          have HT7 : Hid (Turns (fun k => k = fb) w w7) := HT6.out.trans ht7 (fun i hi => Or.inl hi)
          have HN7 : Hid (nb2 < w6.heap.size ∧ w.heap.size ≤ w6.heap.size) := ⟨HM6.out.lt, HT6.out.size⟩
          have c6 : w7.cell? ⟨fb, 6, none⟩ = some (.int .i64 d.fuse) := by rw [cell_of_row _ _ _ _ _ _ HR7.out]; rfl
          have f6 : w7.frozen? ⟨fb, 6, none⟩ = false := frozen_of_row _ _ _ _ _ HR7.out
          have HR8 : Hid (ProgRow ((w7.setCell ⟨fb, 6, none⟩ (.int .i64 0)).setCell ⟨fb, 7, none⟩ (.bool false)) fb { d with fuse := 0, down := false } 1 nb2 w6.heap.size (.slice none 0 0)) := (HR7.out.setFuse 0).setDown false
          have c7 : (w7.setCell ⟨fb, 6, none⟩ (.int .i64 0)).cell? ⟨fb, 7, none⟩ = some (.bool d.down) := by rw [cell_of_row _ _ _ _ _ _ (HR7.out.setFuse 0)]; rfl
          have f7 : (w7.setCell ⟨fb, 6, none⟩ (.int .i64 0)).frozen? ⟨fb, 7, none⟩ = false := frozen_of_row _ _ _ _ _ (HR7.out.setFuse 0)
          clear hr7 hm7 hz7 ht7 HKS HR6 HM6 HT6 HR7
          go_wp2
          have HR2 := HR8
          refine leaves_cons (f := 59) (args := #[.pointer (some ⟨fb, 0, none⟩)]) (by simp) (by simp [go_sem]) ?_; refine (unlock_deferred muLib ⟨fb, 0, none⟩ .returning _ ?_ ?_).mono ?_; (rw [cell_of_row _ _ _ _ _ _ HR2.out]; rfl); (exact frozen_of_row _ _ _ _ _ HR2.out); rintro e u' w'' ⟨rfl, rfl, rfl⟩
          refine ⟨_, results_none rfl _ _ _, rfl, nb2, w6.heap.size, HR8.out.setLock 0, ?_, ?_, ((HT7.out.setCell ⟨fb, 6, none⟩ _ (Or.inl rfl)).setCell ⟨fb, 7, none⟩ _ (Or.inl rfl)).setCell ⟨fb, 0, none⟩ _ (Or.inl rfl), hws, HN7.out.2, ?_⟩
          · rw [HL6.out]; exact HM7.out.1.keep (by rw [heap_setCell_other _ _ _ _ HNE.out, heap_setCell_other _ _ _ _ HNE.out, heap_setCell_other _ _ _ _ HNE.out])
          · have hn : w6.heap.size ≠ fb := by have := HN7.out.2; omega
            rw [HL6.out]; exact HM7.out.2.keep (by rw [heap_setCell_other _ _ _ _ hn, heap_setCell_other _ _ _ _ hn, heap_setCell_other _ _ _ _ hn])
          · have := HN7.out.1; omega
      · have i1 : ¬ (j : Int) < (S.length : Int) := by omega
        by_cases hcut : 0 ≤ cut
        · skip
          obtain ⟨L, hL⟩ : ∃ L, L = keptL r j := ⟨_, rfl⟩
          obtain ⟨w6, hw6⟩ : ∃ w6, w6 = wr := ⟨_, rfl⟩
          have HL6 : Hid (crashSafe r keep cut = L) := by
            show _ = _
            rw [crashSafe, if_neg ?_, HK.out.1, hL]
            exact fun h => by have := h.1; rw [HK.out.1, ← HLEN.out] at this; omega
          subst hw6
          have HR6 : Hid _ := HM.out.row
          have HM6 : Hid (MapAt w6 nb2 (m + r.wait.length) L) := by rw [hL]; exact HM.out.map.mono (by have := HK.out.2; omega)
          have HT6 : Hid (Turns (fun k => k = fb) w w6) := HM.out.turns
          have c5 := ProgRow.c5 HR6.out
          clear hL
          skip
          have HNE : Hid (nb2 ≠ fb) := by show _ ≠ _; omega
          have HKS : Hid (Calls Tryz.prog 61 #[.pointer (some ⟨fb, 0, none⟩)] w6 fun e w' => e = .returned (.tuple #[]) ∧ ProgRow w' fb d 1 nb2 w6.heap.size (.slice none 0 0) ∧ MapAt w' nb2 (m + r.wait.length) L ∧ MapAt w' w6.heap.size (m + r.wait.length) L ∧ Turns (fun k => k = fb) w6 w') := keepSafe_any L d fb 1 nb2 sb _ _ w6 HR6.out HM6.out HNE.out
          go_wp2_with fail
          refine HKS.out.mono ?_
          rintro e w7 ⟨rfl, hr7, hm7, hz7, ht7⟩
          have HR7 : Hid (ProgRow w7 fb d 1 nb2 w6.heap.size (.slice none 0 0)) := hr7
          have HM7 : Hid (MapAt w7 nb2 (m + r.wait.length) L ∧ MapAt w7 w6.heap.size (m + r.wait.length) L) := ⟨hm7, hz7⟩
          have HT7 : Hid (Turns (fun k => k = fb) w w7) := HT6.out.trans ht7 (fun i hi => Or.inl hi)
          have HN7 : Hid (nb2 < w6.heap.size ∧ w.heap.size ≤ w6.heap.size) := ⟨HM6.out.lt, HT6.out.size⟩
          have c6 : w7.cell? ⟨fb, 6, none⟩ = some (.int .i64 d.fuse) := by rw [cell_of_row _ _ _ _ _ _ HR7.out]; rfl
          have f6 : w7.frozen? ⟨fb, 6, none⟩ = false := frozen_of_row _ _ _ _ _ HR7.out
          have HR8 : Hid (ProgRow ((w7.setCell ⟨fb, 6, none⟩ (.int .i64 0)).setCell ⟨fb, 7, none⟩ (.bool false)) fb { d with fuse := 0, down := false } 1 nb2 w6.heap.size (.slice none 0 0)) := (HR7.out.setFuse 0).setDown false
          have c7 : (w7.setCell ⟨fb, 6, none⟩ (.int .i64 0)).cell? ⟨fb, 7, none⟩ = some (.bool d.down) := by rw [cell_of_row _ _ _ _ _ _ (HR7.out.setFuse 0)]; rfl
          have f7 : (w7.setCell ⟨fb, 6, none⟩ (.int .i64 0)).frozen? ⟨fb, 7, none⟩ = false := frozen_of_row _ _ _ _ _ (HR7.out.setFuse 0)
          clear hr7 hm7 hz7 ht7 HKS HR6 HM6 HT6 HR7
          go_wp2
          have HR2 := HR8
          refine leaves_cons (f := 59) (args := #[.pointer (some ⟨fb, 0, none⟩)]) (by simp) (by simp [go_sem]) ?_; refine (unlock_deferred muLib ⟨fb, 0, none⟩ .returning _ ?_ ?_).mono ?_; (rw [cell_of_row _ _ _ _ _ _ HR2.out]; rfl); (exact frozen_of_row _ _ _ _ _ HR2.out); rintro e u' w'' ⟨rfl, rfl, rfl⟩
          refine ⟨_, results_none rfl _ _ _, rfl, nb2, w6.heap.size, HR8.out.setLock 0, ?_, ?_, ((HT7.out.setCell ⟨fb, 6, none⟩ _ (Or.inl rfl)).setCell ⟨fb, 7, none⟩ _ (Or.inl rfl)).setCell ⟨fb, 0, none⟩ _ (Or.inl rfl), hws, HN7.out.2, ?_⟩
          · rw [HL6.out]; exact HM7.out.1.keep (by rw [heap_setCell_other _ _ _ _ HNE.out, heap_setCell_other _ _ _ _ HNE.out, heap_setCell_other _ _ _ _ HNE.out])
          · have hn : w6.heap.size ≠ fb := by have := HN7.out.2; omega
            rw [HL6.out]; exact HM7.out.2.keep (by rw [heap_setCell_other _ _ _ _ hn, heap_setCell_other _ _ _ _ hn, heap_setCell_other _ _ _ _ hn])
          · have := HN7.out.1; omega
        · have hcut2 : cut < 0 := by omega
          obtain ⟨L, hL⟩ : ∃ L, L = keptL r j := ⟨_, rfl⟩
          obtain ⟨w6, hw6⟩ : ∃ w6, w6 = wr := ⟨_, rfl⟩
          have HL6 : Hid (crashSafe r keep cut = L) := by
            show _ = _
            rw [crashSafe, if_neg ?_, HK.out.1, hL]
            exact fun h => by have := h.1; rw [HK.out.1, ← HLEN.out] at this; omega
          subst hw6
          have HR6 : Hid _ := HM.out.row
          have HM6 : Hid (MapAt w6 nb2 (m + r.wait.length) L) := by rw [hL]; exact HM.out.map.mono (by have := HK.out.2; omega)
          have HT6 : Hid (Turns (fun k => k = fb) w w6) := HM.out.turns
          have c5 := ProgRow.c5 HR6.out
          clear hL
          skip
          have HNE : Hid (nb2 ≠ fb) := by show _ ≠ _; omega
          have HKS : Hid (Calls Tryz.prog 61 #[.pointer (some ⟨fb, 0, none⟩)] w6 fun e w' => e = .returned (.tuple #[]) ∧ ProgRow w' fb d 1 nb2 w6.heap.size (.slice none 0 0) ∧ MapAt w' nb2 (m + r.wait.length) L ∧ MapAt w' w6.heap.size (m + r.wait.length) L ∧ Turns (fun k => k = fb) w6 w') := keepSafe_any L d fb 1 nb2 sb _ _ w6 HR6.out HM6.out HNE.out
          go_wp2_with fail
          refine HKS.out.mono ?_
          rintro e w7 ⟨rfl, hr7, hm7, hz7, ht7⟩
          have HR7 : Hid (ProgRow w7 fb d 1 nb2 w6.heap.size (.slice none 0 0)) := hr7
          have HM7 : Hid (MapAt w7 nb2 (m + r.wait.length) L ∧ MapAt w7 w6.heap.size (m + r.wait.length) L) := ⟨hm7, hz7⟩
          have HT7 : Hid (Turns (fun k => k = fb) w w7) := HT6.out.trans ht7 (fun i hi => Or.inl hi)
          have HN7 : Hid (nb2 < w6.heap.size ∧ w.heap.size ≤ w6.heap.size) := ⟨HM6.out.lt, HT6.out.size⟩
          have c6 : w7.cell? ⟨fb, 6, none⟩ = some (.int .i64 d.fuse) := by rw [cell_of_row _ _ _ _ _ _ HR7.out]; rfl
          have f6 : w7.frozen? ⟨fb, 6, none⟩ = false := frozen_of_row _ _ _ _ _ HR7.out
          have HR8 : Hid (ProgRow ((w7.setCell ⟨fb, 6, none⟩ (.int .i64 0)).setCell ⟨fb, 7, none⟩ (.bool false)) fb { d with fuse := 0, down := false } 1 nb2 w6.heap.size (.slice none 0 0)) := (HR7.out.setFuse 0).setDown false
          have c7 : (w7.setCell ⟨fb, 6, none⟩ (.int .i64 0)).cell? ⟨fb, 7, none⟩ = some (.bool d.down) := by rw [cell_of_row _ _ _ _ _ _ (HR7.out.setFuse 0)]; rfl
          have f7 : (w7.setCell ⟨fb, 6, none⟩ (.int .i64 0)).frozen? ⟨fb, 7, none⟩ = false := frozen_of_row _ _ _ _ _ (HR7.out.setFuse 0)
          clear hr7 hm7 hz7 ht7 HKS HR6 HM6 HT6 HR7
          go_wp2
          have HR2 := HR8
          refine leaves_cons (f := 59) (args := #[.pointer (some ⟨fb, 0, none⟩)]) (by simp) (by simp [go_sem]) ?_; refine (unlock_deferred muLib ⟨fb, 0, none⟩ .returning _ ?_ ?_).mono ?_; (rw [cell_of_row _ _ _ _ _ _ HR2.out]; rfl); (exact frozen_of_row _ _ _ _ _ HR2.out); rintro e u' w'' ⟨rfl, rfl, rfl⟩
          refine ⟨_, results_none rfl _ _ _, rfl, nb2, w6.heap.size, HR8.out.setLock 0, ?_, ?_, ((HT7.out.setCell ⟨fb, 6, none⟩ _ (Or.inl rfl)).setCell ⟨fb, 7, none⟩ _ (Or.inl rfl)).setCell ⟨fb, 0, none⟩ _ (Or.inl rfl), hws, HN7.out.2, ?_⟩
          · rw [HL6.out]; exact HM7.out.1.keep (by rw [heap_setCell_other _ _ _ _ HNE.out, heap_setCell_other _ _ _ _ HNE.out, heap_setCell_other _ _ _ _ HNE.out])
          · have hn : w6.heap.size ≠ fb := by have := HN7.out.2; omega
            rw [HL6.out]; exact HM7.out.2.keep (by rw [heap_setCell_other _ _ _ _ hn, heap_setCell_other _ _ _ _ hn, heap_setCell_other _ _ _ _ hn])
          · have := HN7.out.1; omega
end Go.Proofs.YthhbpebihgjpjaaGreatDoor
