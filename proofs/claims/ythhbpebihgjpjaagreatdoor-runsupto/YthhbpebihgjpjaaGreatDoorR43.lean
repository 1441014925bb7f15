import Derived.Test.YthhbpebihgjpjaaGreatDoorR33
import Derived.Test.YthhbpebihgjpjaaGreatDoorR41
import Derived.Test.YthhbpebihgjpjaaGreatDoorR29
import Derived.Test.YthhbpebihgjpjaaGreatDoorR35
import Derived.Deep.RegionHeld3
namespace Go.Proofs.YthhbpebihgjpjaaGreatDoor
open Go.RowKit
set_option maxRecDepth 1000000

theorem words_cells (w : World) (cs : List Value) (t : TypeId) : ∀ j u, cs[j]? = some u → (w.alloc (.cells cs.toArray t)).cell? ((⟨w.heap.size, 0, none⟩ : Addr).add j) = some u := by
  intro j u hu
  have hadd : (⟨w.heap.size, 0, none⟩ : Addr).add j = ⟨w.heap.size, j, none⟩ := by unfold Addr.add; split <;> simp_all
  rw [hadd, cell_of_row _ _ _ _ _ _ (heapA_new w _ _ rfl)]
  simpa using hu


theorem blankFrom_acc (s : ByteArray) : ∀ g i fr acc, acc.length ≤ (blankFrom s g i fr acc).length
  | 0, _, _, _ => Nat.le_refl _
  | g + 1, i, fr, acc => by
    unfold blankFrom
    split
    · exact blankFrom_acc s g _ _ _
    · refine Nat.le_trans ?_ (blankFrom_acc s g _ _ _)
      split <;> simp

theorem byte_get {s : ByteArray} {i : Nat} (h : byteOf s i = 32) : s.get! i = 32 := by
  have e : s.get! i = s.data[i]?.getD 0 := by
    show s.data[i]! = _
    rw [Array.getElem!_eq_getD, Array.getD_eq_getD_getElem?]
    rfl
  rw [e]
  exact UInt8.toNat_inj.1 h

theorem get_byte {s : ByteArray} {i : Nat} (h : s.get! i = 32) : byteOf s i = 32 := by
  have e : s.get! i = s.data[i]?.getD 0 := by
    show s.data[i]! = _
    rw [Array.getElem!_eq_getD, Array.getD_eq_getD_getElem?]
    rfl
  rw [e] at h
  unfold byteOf
  rw [h]; rfl

theorem get_byteOf (s : ByteArray) (i : Nat) : (s.get! i).toNat = byteOf s i := by
  have e : s.get! i = s.data[i]?.getD 0 := by
    show s.data[i]! = _
    rw [Array.getElem!_eq_getD, Array.getD_eq_getD_getElem?]
    rfl
  rw [e]; rfl
theorem hexUpTo_size (s : ByteArray) : ∀ j, (hexUpTo s j).size = 2 * j
  | 0 => rfl
  | j + 1 => by
    rw [hexUpTo, ByteArray.size_append, ByteArray.size_append, hexUpTo_size s j]
    show 2 * j + 1 + 1 = _
    omega

theorem digits_at : ∀ h, h < 16 → (ByteArray.mk #[48, 49, 50, 51, 52, 53, 54, 55, 56, 57, 97, 98, 99, 100, 101, 102]).extract h (h + 1) = ⟨#[hexByte h]⟩ := by
  intro h hh
  have : h = 0 ∨ h = 1 ∨ h = 2 ∨ h = 3 ∨ h = 4 ∨ h = 5 ∨ h = 6 ∨ h = 7 ∨ h = 8 ∨ h = 9 ∨ h = 10 ∨ h = 11 ∨ h = 12 ∨ h = 13 ∨ h = 14 ∨ h = 15 := by omega
  rcases this with rfl | rfl | rfl | rfl | rfl | rfl | rfl | rfl | rfl | rfl | rfl | rfl | rfl | rfl | rfl | rfl <;> decide

set_option maxHeartbeats 4000000 in
theorem mrun_any (s : ByteArray) (hs : s.size ≤ 1048576) (mb : Nat) (vn vd : Value) (names data : List ByteArray) (w : World) (hn : TextsAt w vn names) (hd : TextsAt w vd data) (hm : MakerAt w mb) (hnl : names.length ≤ 1048576) (hdl : data.length ≤ 1048576) (hsz : ∀ d ∈ data, d.size ≤ 1048576) :
    Calls Tryz.prog 86 #[.pointer (some ⟨mb, 0, none⟩), .string s, vn, vd] w fun e w' => RunPost (refRun names data (wordsB s)) w e w' := by
  have HMK : Hid (MakerAt w mb) := hm
  have HSZ : Hid (∀ d ∈ data, d.size ≤ 1048576) := hsz
  clear hm hsz
  have HNA : Hid (TextsAt w vn names) := hn
  have HDA : Hid (TextsAt w vd data) := hd
  have hinf : (Tryz.prog.info? 9).map (fun i => (i.size, i.bytes, i.zero)) = some (1, 16, some (.string ⟨#[]⟩)) := by kernel_rfl
  obtain ⟨ti, hti, htj⟩ := Option.map_eq_some_iff.1 hinf
  simp only [Prod.mk.injEq] at htj
  have HTI : Hid (Tryz.prog.info? 9 = some ti ∧ ti.size = 1 ∧ ti.bytes = 16 ∧ ti.zero = some (.string ⟨#[]⟩)) := ⟨hti, htj.1, htj.2.1, htj.2.2⟩
  have n0 : (s.size : Int) ≤ 1048576 := by omega
  clear hinf hti htj hn hd
  go_enter Tryz.func86, Tryz.ntmps86
  go_wp2_with fail
  go_loopw [10, 11, 12] (fun v f k wr => ∃ (i fr : Nat) (acc : List (Nat × Nat)), f = .int .i64 fr ∧ k = .int .i64 i ∧ i ≤ s.size + 1 ∧ fr ≤ i ∧ acc.length ≤ i ∧ blankFrom s (s.size + 1 - i) i fr acc = wordSpans s ∧ wr.ownsRow w.heap.size 9 1 v acc.length ((acc.map fun x => s.extract x.1 x.2).map Value.string) ∧ Below w.heap.size w wr) (fun _ _ k _ => s.size + 1 - (intOf k).toNat)
  case atStart => exact ⟨0, 0, [], rfl, rfl, by omega, Nat.le_refl _, Nat.le_refl _, rfl, ⟨rfl, Or.inl ⟨rfl, rfl⟩⟩, Below.refl _ _⟩
  case round =>
    obtain ⟨i, fr, acc, rfl, rfl, hi, hfr, hacc, hbl, hown, hbel⟩ := hrel
    have HOW : Hid (wr.ownsRow w.heap.size 9 1 u10 acc.length ((acc.map fun x => s.extract x.1 x.2).map Value.string)) := hown
    have HBE : Hid (Below w.heap.size w wr) := hbel
    have HBL : Hid (blankFrom s (s.size + 1 - i) i fr acc = wordSpans s) := hbl
    clear hown hbel hbl
    have hsz : w.heap.size ≤ wr.heap.size := HBE.out.size
    have hfi : (fr : Int) ≤ (i : Int) := by omega
    have i0 : (0 : Int) ≤ (i : Int) := by omega
    have f0 : (0 : Int) ≤ (fr : Int) := by omega
    by_cases hle : i ≤ s.size
    · have hle' : (i : Int) ≤ (s.size : Int) := by omega
      obtain ⟨g, hg⟩ : ∃ g, s.size + 1 - i = g + 1 := ⟨s.size - i, by omega⟩
      have HB1 : Hid (s.size + 1 - (i + 1) = g) := by show _ = _; omega
      by_cases hsk : i < s.size ∧ s.get! i ≠ 32
      · have HBN : Hid (blankFrom s (s.size + 1 - (i + 1)) (i + 1) fr acc = wordSpans s) := by
          show _ = _
          rw [HB1.out, ← HBL.out, hg, blankFrom, if_pos hsk]
        have HNE : Hid (byteOf s i ≠ 32) := fun e => hsk.2 (byte_get e)
        have i1 : (i : Int) < (s.size : Int) := by omega
        have hidx : ∀ wx, (Instr.index 9 (.string s) (.int .i64 i)).run Tryz.prog wx = .ok (.int .u8 (byteOf s i)) wx := fun wx => run_index_text s i hsk.1 wx
        generalize byteOf s i = x at *
        have hx : ¬ (x : Int) = 32 := fun e => HNE.out (by omega)
        clear hsk hg
        go_wp2
        refine ⟨⟨i + 1, fr, acc, rfl, by go_num, by omega, by omega, by omega, HBN.out, HOW.out, HBE.out⟩, by simp [intOf]; omega⟩
      · have HBN : Hid (blankFrom s (s.size + 1 - (i + 1)) (i + 1) (i + 1) (if fr < i then acc ++ [(fr, i)] else acc) = wordSpans s) := by
          show _ = _
          rw [HB1.out, ← HBL.out, hg, blankFrom, if_neg hsk]
        have HX : Hid (i < s.size → byteOf s i = 32) := fun h => by
          have : s.get! i = 32 := Decidable.by_contra fun e => hsk ⟨h, e⟩
          exact get_byte this
        clear hsk hg HB1 HBL
        by_cases hfr2 : fr < i
        · rw [if_pos hfr2] at HBN
          have hfr3 : (fr : Int) < (i : Int) := by omega
          by_cases hin : i < s.size
          · have i1 : (i : Int) < (s.size : Int) := by omega
            have hidx : ∀ wx, (Instr.index 9 (.string s) (.int .i64 i)).run Tryz.prog wx = .ok (.int .u8 32) wx := fun wx => by rw [run_index_text s i hin wx, HX.out hin]; rfl
            clear HX
            go_wp2_with (at_builtin; refine wpList_append_own _ rfl (.tmp 45) (.tmp 50) 32 rfl w.heap.size 9 ti (.string ⟨#[]⟩) 1 16 Tryz.underlying32 HTI.out.1 HTI.out.2.2.2 HTI.out.2.1 HTI.out.2.2.1 rfl (by decide) _ acc.length _ rfl (by exact rkeep HOW.out (fun k hk => heapA_old wr _ k (rblock HOW.out k hk).2)) ⟨wr.heap.size, 0, none⟩ 1 1 [.string (s.extract fr i)] rfl rfl (by exact words_cells wr _ _) (by simp [Value.oneCell']) (by unfold maxLen; omega) (by omega) (by simp; omega) ?_; intro v5 w5 hv5 hg5 hn5; refine Hid.out ?_)
            have HO5 : Hid (w5.ownsRow w.heap.size 9 1 v5 (acc ++ [(fr, i)]).length (((acc ++ [(fr, i)]).map fun x => s.extract x.1 x.2).map Value.string)) := by
              rw [List.map_append, List.map_append, List.length_append]; exact hv5
            have HB5 : Hid (Below w.heap.size w w5) := (HBE.out.alloc HBE.out.size _).grown hg5 (by have := HBE.out.size; simp; omega) (fun k hk => by have := (rblock HOW.out k hk).1; omega)
            have HAL : Hid ((acc ++ [(fr, i)]).length ≤ i + 1) := by show _ ≤ _; simp; omega
            clear hv5 hg5 hn5 HOW HBE
            unfold Hid
            go_wp2
            refine ⟨⟨i + 1, i + 1, acc ++ [(fr, i)], by go_num, by go_num, by omega, by omega, HAL.out, HBN.out, HO5.out, HB5.out⟩, by simp [intOf]; omega⟩
          · have i1 : ¬ (i : Int) < (s.size : Int) := by omega
            clear HX
            go_wp2_with (at_builtin; refine wpList_append_own _ rfl (.tmp 45) (.tmp 50) 32 rfl w.heap.size 9 ti (.string ⟨#[]⟩) 1 16 Tryz.underlying32 HTI.out.1 HTI.out.2.2.2 HTI.out.2.1 HTI.out.2.2.1 rfl (by decide) _ acc.length _ rfl (by exact rkeep HOW.out (fun k hk => heapA_old wr _ k (rblock HOW.out k hk).2)) ⟨wr.heap.size, 0, none⟩ 1 1 [.string (s.extract fr i)] rfl rfl (by exact words_cells wr _ _) (by simp [Value.oneCell']) (by unfold maxLen; omega) (by omega) (by simp; omega) ?_; intro v5 w5 hv5 hg5 hn5; refine Hid.out ?_)
            have HO5 : Hid (w5.ownsRow w.heap.size 9 1 v5 (acc ++ [(fr, i)]).length (((acc ++ [(fr, i)]).map fun x => s.extract x.1 x.2).map Value.string)) := by
              rw [List.map_append, List.map_append, List.length_append]; exact hv5
            have HB5 : Hid (Below w.heap.size w w5) := (HBE.out.alloc HBE.out.size _).grown hg5 (by have := HBE.out.size; simp; omega) (fun k hk => by have := (rblock HOW.out k hk).1; omega)
            have HAL : Hid ((acc ++ [(fr, i)]).length ≤ i + 1) := by show _ ≤ _; simp; omega
            clear hv5 hg5 hn5 HOW HBE
            unfold Hid
            go_wp2
            refine ⟨⟨i + 1, i + 1, acc ++ [(fr, i)], by go_num, by go_num, by omega, by omega, HAL.out, HBN.out, HO5.out, HB5.out⟩, by simp [intOf]; omega⟩
        · rw [if_neg hfr2] at HBN
          have hfr3 : ¬ (fr : Int) < (i : Int) := by omega
          by_cases hin : i < s.size
          · have i1 : (i : Int) < (s.size : Int) := by omega
            have hidx : ∀ wx, (Instr.index 9 (.string s) (.int .i64 i)).run Tryz.prog wx = .ok (.int .u8 32) wx := fun wx => by rw [run_index_text s i hin wx, HX.out hin]; rfl
            clear HX
            go_wp2
            refine ⟨⟨i + 1, i + 1, acc, by go_num, by go_num, by omega, by omega, by omega, HBN.out, HOW.out, HBE.out⟩, by simp [intOf]; omega⟩
          · have i1 : ¬ (i : Int) < (s.size : Int) := by omega
            clear HX
            go_wp2
            refine ⟨⟨i + 1, i + 1, acc, by go_num, by go_num, by omega, by omega, by omega, HBN.out, HOW.out, HBE.out⟩, by simp [intOf]; omega⟩
    · obtain rfl : i = s.size + 1 := by omega
      have HW : Hid (acc = wordSpans s) := by
        have h := HBL.out
        rw [Nat.sub_self] at h
        exact h
      have hle' : ¬ ((s.size + 1 : Nat) : Int) ≤ (s.size : Int) := by omega
      have HTW : Hid (TextsAt wr u10 (wordsB s)) := by
        unfold wordsB
        rw [← HW.out]
        exact texts_of_row (base := w.heap.size) (by rw [List.length_map]; exact HOW.out)
      have HWL : Hid ((wordsB s).length ≤ s.size + 1) := by
        unfold wordsB
        rw [← HW.out, List.length_map]; exact hacc
      have HNR : Hid (TextsAt wr vn names) := HNA.out.keepB HBE.out
      have HDR : Hid (TextsAt wr vd data) := HDA.out.keepB HBE.out
      clear HBL HOW hacc HW hi hfr hfi i0 hle f0 HNA HDA
      have HWS : Hid (∀ y ∈ wordsB s, y.size ≤ 1048576) := fun y hy => by
        obtain ⟨p, _, rfl⟩ := List.mem_map.1 hy
        rw [ByteArray.size_extract]; omega
      obtain ⟨W, hWE⟩ : ∃ W, wordsB s = W := ⟨_, rfl⟩
      have HWE : Hid (wordsB s = W) := hWE
      rw [hWE] at HTW HWL HWS
      clear hWE
      obtain ⟨ao, cap, rfl, hcap, hcell⟩ := HTW.out
      have HCELL : Hid (((ao = none → cap = 0) ∧ W = [] ∧ True) ∨ ∃ b o, ao = some ⟨b, o, none⟩ ∧ ∀ k s, W[k]? = some s → wr.cell? ⟨b, o + k, none⟩ = some (.string s)) := hcell
      clear hcell HTW
      obtain ⟨ad, cd, hvd, hcd, hcelld⟩ := HDR.out
      subst hvd
      have HDC : Hid (((ad = none → cd = 0) ∧ data = [] ∧ True) ∨ ∃ b o, ad = some ⟨b, o, none⟩ ∧ ∀ k s, data[k]? = some s → wr.cell? ⟨b, o + k, none⟩ = some (.string s)) := hcelld
      clear hcelld
      have d0 : (data.length : Int) ≤ 1048576 := by omega
      generalize hDL : data.length = DL at *
      have HDL : Hid (data.length = DL) := hDL
      clear hDL
      have HKP : Hid (Keeps w.heap.size w wr) := Keeps.of HBE.out
      cases W with
      | nil =>
        have HR : Hid (refRun names data (wordsB s) = none) := congrArg (refRun names data) HWE.out
        go_wp2
        go_ret2
        exact ⟨by rw [HR.out]; rfl, HKP.out⟩
      | cons x r =>
        obtain ⟨b, o, rfl, hcell⟩ : ∃ b o, ao = some ⟨b, o, none⟩ ∧ ∀ k s, (x :: r)[k]? = some s → wr.cell? ⟨b, o + k, none⟩ = some (.string s) := by
          rcases HCELL.out with e | e
          · exact absurd e.2.1 (by simp)
          · exact e
        have c0 : wr.cell? ⟨b, o, none⟩ = some (.string x) := hcell 0 x rfl
        have HC : Hid (∀ k s, (x :: r)[k]? = some s → wr.cell? ⟨b, o + k, none⟩ = some (.string s)) := hcell
        clear hcell HCELL
        have l0 : (0 : Int) < ((x :: r).length : Int) := by simp
        have HLN : Hid ((x :: r).length ≤ s.size + 1) := HWL.out
        generalize hLN : (x :: r).length = L at *
        have HLE : Hid (r.length + 1 = L) := hLN
        clear HWL hLN
        have l1 : ¬ (L : Int) = 0 := by omega
        have l2 : (L : Int) ≤ 1048577 := by have := HLN.out; omega
        cases q1 : (x.toList == [99, 97, 116]) with
        | true =>
          have HR : Hid (refRun names data (wordsB s) = catAll names data r ⟨#[]⟩) := by
            show _ = _
            rw [HWE.out, refRun, if_pos q1]
          go_wp2_with fail
          go_loop [13, 14] (fun a k => ∃ (j : Nat) (out : ByteArray), a = .string out ∧ k = .int .i64 j ∧ 1 ≤ j ∧ j ≤ L ∧ out.size ≤ j * 1048576 ∧ catAll names data ((x :: r).drop j) out = catAll names data r ⟨#[]⟩) (fun _ k => L - (intOf k).toNat)
          case atStart => exact ⟨1, ⟨#[]⟩, rfl, rfl, by omega, by omega, Nat.zero_le _, rfl⟩
          case round =>
            obtain ⟨j, out, rfl, rfl, hj1, hjL, hos, hcat⟩ := hrel
            have HCT : Hid (catAll names data ((x :: r).drop j) out = catAll names data r ⟨#[]⟩) := hcat
            clear hcat
            have j0 : (0 : Int) ≤ (j : Int) := by omega
            by_cases hlt : j < L
            · have j1 : (j : Int) < (L : Int) := by omega
              obtain ⟨y, hy⟩ : ∃ y, (x :: r)[j]? = some y := ⟨(x :: r)[j]'(by have := HLE.out; simp; omega), by simp⟩
              have cj := HC.out j y hy
              have HDP : Hid ((x :: r).drop j = y :: (x :: r).drop (j + 1)) := by
                obtain ⟨h1, h2⟩ := List.getElem?_eq_some_iff.1 hy
                show _ = _
                rw [List.drop_eq_getElem_cons h1, h2]
              have HLA : Hid (Calls Tryz.prog 138 #[vn, .string y] wr fun e w' => e = .returned (.int .i64 (idxInt (firstIdx y names))) ∧ w' = wr) := last_any names vn y wr HNR.out (by omega)
              clear hy
              cases hfi : firstIdx y names with
              | none =>
                have HN : Hid (refRun names data (wordsB s) = none) := by
                  show _ = _
                  rw [HR.out, ← HCT.out, HDP.out, catAll, fileOf, hfi]; rfl
                rw [hfi] at HLA
                clear hfi
                go_wp2_with fail
                refine HLA.out.mono ?_
                rintro e w' ⟨rfl, rfl⟩
                simp only [idxInt]
                go_wp2
                go_ret2
                exact ⟨by rw [HN.out]; rfl, HKP.out⟩
              | some k =>
                rw [hfi] at HLA
                have k0 : (0 : Int) ≤ (k : Int) := by omega
                have k9 : ¬ (k : Int) < 0 := by omega
                by_cases hk : k < DL
                · obtain ⟨d, hd⟩ : ∃ d, data[k]? = some d := ⟨data[k]'(by have := HDL.out; omega), by simp⟩
                  obtain ⟨bd, od, rfl, hcd2⟩ : ∃ b o, ad = some ⟨b, o, none⟩ ∧ ∀ k s, data[k]? = some s → wr.cell? ⟨b, o + k, none⟩ = some (.string s) := by
                    rcases HDC.out with e | e
                    · rw [e.2.1] at hd; simp at hd
                    · exact e
                  have ck := hcd2 k d hd
                  have k1 : (k : Int) < (DL : Int) := by omega
                  have HNX : Hid (catAll names data ((x :: r).drop (j + 1)) (out ++ d) = catAll names data r ⟨#[]⟩) := by
                    show _ = _
                    rw [← HCT.out, HDP.out, catAll, fileOf, hfi]
                    simp only [Option.bind_some, hd]
                  have hds := HSZ.out d (List.mem_of_getElem? hd)
                  have hcs : ¬ 9223372036854775807 < out.size + d.size := by omega
                  have HOS : Hid ((out ++ d).size ≤ (j + 1) * 1048576) := by
                    show _ ≤ _
                    rw [ByteArray.size_append]; omega
                  clear hfi hd hcd2
                  go_wp2_with fail
                  refine HLA.out.mono ?_
                  rintro e w' ⟨rfl, rfl⟩
                  simp only [idxInt]
                  go_wp2
                  exact ⟨⟨j + 1, out ++ d, rfl, by go_num, by omega, by omega, HOS.out, HNX.out⟩, by simp [intOf]; omega⟩
                · have k1 : ¬ (k : Int) < (DL : Int) := by omega
                  have k2 : (DL : Int) ≤ (k : Int) := by omega
                  have HN : Hid (refRun names data (wordsB s) = none) := by
                    show _ = _
                    rw [HR.out, ← HCT.out, HDP.out, catAll, fileOf, hfi]
                    simp only [Option.bind_some]
                    rw [List.getElem?_eq_none (by have := HDL.out; omega)]
                  clear hfi
                  go_wp2_with fail
                  refine HLA.out.mono ?_
                  rintro e w' ⟨rfl, rfl⟩
                  simp only [idxInt]
                  go_wp2
                  go_ret2
                  exact ⟨by rw [HN.out]; rfl, HKP.out⟩
            · obtain rfl : j = L := by omega
              have HN : Hid (refRun names data (wordsB s) = some out) := by
                show _ = _
                rw [HR.out, ← HCT.out, List.drop_of_length_le (by have := HLE.out; simp; omega), catAll]
              go_wp2
              go_ret2
              exact ⟨by rw [HN.out]; rfl, HKP.out⟩
        | false =>
          cases q2 : (x.toList == [104, 97, 115, 104]) with
          | true =>
            have HR : Hid (refRun names data (wordsB s) = hashOf names data r) := by
              show _ = _
              rw [HWE.out, refRun, if_neg (by rw [q1]; decide), if_pos q2]
            cases r with
            | nil =>
              have HN : Hid (refRun names data (wordsB s) = none) := HR.out
              obtain rfl : L = 1 := HLE.out.symm
              go_wp2
              go_ret2
              exact ⟨by rw [HN.out]; rfl, HKP.out⟩
            | cons y q =>
              have l3 : (2 : Int) ≤ (L : Int) := by have := HLE.out; simp at this; omega
              have l4 : (1 : Int) < (L : Int) := by omega
              have c1 : wr.cell? ⟨b, o + 1, none⟩ = some (.string y) := HC.out 1 y rfl
              have hys := HWS.out y (by simp)
              have z0 : (ByteArray.mk #[0]).size = 1 := rfl
              have hcs0 : ¬ 9223372036854775807 < y.size + 1 := by omega
              have HR2 : Hid (refRun names data (wordsB s) = (hashAll names data q (y ++ ⟨#[0]⟩)).map fun t => hexUpTo (outStr (codeSum keyAt t.data.toList).byte) 32) := HR.out
              have HT0 : Hid ((y ++ ⟨#[0]⟩).size ≤ 2 * 1048581) := by
                show _ ≤ _
                rw [ByteArray.size_append, z0]; omega
              obtain ⟨wl, rfl⟩ : ∃ wl, wl = wr := ⟨_, rfl⟩
              go_wp2_with fail
              go_loopw [16, 17] (fun a k wr => ∃ (j : Nat) (t : ByteArray), a = .string t ∧ k = .int .i64 j ∧ 2 ≤ j ∧ j ≤ L ∧ t.size ≤ j * 1048581 ∧ hashAll names data ((x :: y :: q).drop j) t = hashAll names data q (y ++ ⟨#[0]⟩) ∧ Below wl.heap.size wl wr) (fun _ k _ => L - (intOf k).toNat)
              case atStart => exact ⟨2, _, rfl, rfl, by omega, by omega, HT0.out, rfl, Below.refl _ _⟩
              case round =>
                obtain ⟨j, t, rfl, rfl, hj2, hjL, hts, hha, hbw⟩ := hrel
                have HHA : Hid (hashAll names data ((x :: y :: q).drop j) t = hashAll names data q (y ++ ⟨#[0]⟩)) := hha
                have HBW : Hid (Below wl.heap.size wl wr) := hbw
                clear hha hbw c0 c1
                have j0 : (0 : Int) ≤ (j : Int) := by omega
                by_cases hlt : j < L
                · have j1 : (j : Int) < (L : Int) := by omega
                  obtain ⟨z, hz⟩ : ∃ z, (x :: y :: q)[j]? = some z := ⟨(x :: y :: q)[j]'(by have := HLE.out; simp at this; simp; omega), by simp⟩
                  have cj : wr.cell? ⟨b, o + j, none⟩ = some (.string z) := (HBW.out.cell (p := ⟨b, o + j, none⟩) (block_lt_of_cell (HC.out j z hz))).trans (HC.out j z hz)
                  have HDP : Hid ((x :: y :: q).drop j = z :: (x :: y :: q).drop (j + 1)) := by
                    obtain ⟨h1, h2⟩ := List.getElem?_eq_some_iff.1 hz
                    show _ = _
                    rw [List.drop_eq_getElem_cons h1, h2]
                  have HLA : Hid (Calls Tryz.prog 138 #[vn, .string z] wr fun e w' => e = .returned (.int .i64 (idxInt (firstIdx z names))) ∧ w' = wr) := last_any names vn z wr (HNR.out.keepB HBW.out) (by omega)
                  have HKR : Hid (Keeps w.heap.size w wr) := HKP.out.trans ((Keeps.of HBW.out).mono hsz)
                  clear hz
                  cases hfi : firstIdx z names with
                  | none =>
                    have HN : Hid (refRun names data (wordsB s) = none) := by
                      show _ = _
                      rw [HR2.out, ← HHA.out, HDP.out, hashAll, fileOf, hfi]; rfl
                    rw [hfi] at HLA
                    clear hfi
                    go_wp2_with fail
                    refine HLA.out.mono ?_
                    rintro e w' ⟨rfl, rfl⟩
                    simp only [idxInt]
                    go_wp2
                    go_ret2
                    exact ⟨by rw [HN.out]; rfl, HKR.out⟩
                  | some k =>
                    rw [hfi] at HLA
                    have k0 : (0 : Int) ≤ (k : Int) := by omega
                    have k9 : ¬ (k : Int) < 0 := by omega
                    by_cases hk : k < DL
                    · obtain ⟨d, hd⟩ : ∃ d, data[k]? = some d := ⟨data[k]'(by have := HDL.out; omega), by simp⟩
                      obtain ⟨bd, od, rfl, hcd2⟩ : ∃ b o, ad = some ⟨b, o, none⟩ ∧ ∀ k s, data[k]? = some s → wl.cell? ⟨b, o + k, none⟩ = some (.string s) := by
                        rcases HDC.out with e | e
                        · rw [e.2.1] at hd; simp at hd
                        · exact e
                      have ck : wr.cell? ⟨bd, od + k, none⟩ = some (.string d) := (HBW.out.cell (p := ⟨bd, od + k, none⟩) (block_lt_of_cell (hcd2 k d hd))).trans (hcd2 k d hd)
                      have k1 : (k : Int) < (DL : Int) := by omega
                      have HNX : Hid (hashAll names data ((x :: y :: q).drop (j + 1)) ((t ++ fourStr d.size) ++ d) = hashAll names data q (y ++ ⟨#[0]⟩)) := by
                        show _ = _
                        rw [← HHA.out, HDP.out, hashAll, fileOf, hfi]
                        simp only [Option.bind_some, hd]
                      have hds := HSZ.out d (List.mem_of_getElem? hd)
                      have z4 : (fourStr d.size).size = 4 := rfl
                      have zt : (t ++ fourStr d.size).size = t.size + 4 := by rw [ByteArray.size_append, z4]
                      have hcs1 : ¬ 9223372036854775807 < t.size + 4 := by omega
                      have hcs2 : ¬ 9223372036854775807 < t.size + 4 + d.size := by omega
                      have HTS : Hid (((t ++ fourStr d.size) ++ d).size ≤ (j + 1) * 1048581) := by
                        show _ ≤ _
                        rw [ByteArray.size_append, zt]; omega
                      clear hfi hd hcd2
                      go_wp2_with fail
                      refine HLA.out.mono ?_
                      rintro e w' ⟨rfl, rfl⟩
                      simp only [idxInt]
                      go_wp2_with fail
                      refine (four_any d.size (by omega) _).mono ?_
                      rintro e w4 ⟨rfl, hb4⟩
                      have ck4 : w4.cell? ⟨bd, od + k, none⟩ = some (.string d) := (hb4.cell (p := ⟨bd, od + k, none⟩) (block_lt_of_cell ck)).trans ck
                      have HB4 : Hid (Below wl.heap.size wl w4) := HBW.out.trans (hb4.mono HBW.out.size)
                      clear hb4 ck cj HLA HBW HKR
                      generalize fourStr d.size = n4 at *
                      go_wp2
                      go_roundw
                      case rel =>
                        first
                          | exact ⟨j + 1, _, rfl, by go_num, by omega, by omega, HTS.out, HNX.out, HB4.out⟩
                          | ((repeat apply Exists.intro); exact ⟨⟨j + 1, _, rfl, by go_num, by omega, by omega, HTS.out, HNX.out, HB4.out⟩, rfl⟩)
                      case measure => simp [intOf]; omega
                    · have k1 : ¬ (k : Int) < (DL : Int) := by omega
                      have k2 : (DL : Int) ≤ (k : Int) := by omega
                      have HN : Hid (refRun names data (wordsB s) = none) := by
                        show _ = _
                        rw [HR2.out, ← HHA.out, HDP.out, hashAll, fileOf, hfi]
                        simp only [Option.bind_some]
                        rw [List.getElem?_eq_none (by have := HDL.out; omega)]
                        rfl
                      clear hfi
                      go_wp2_with fail
                      refine HLA.out.mono ?_
                      rintro e w' ⟨rfl, rfl⟩
                      simp only [idxInt]
                      go_wp2
                      go_ret2
                      exact ⟨by rw [HN.out]; rfl, HKR.out⟩
                · obtain rfl : j = L := by omega
                  have HTT : Hid (hashAll names data q (y ++ ⟨#[0]⟩) = some t) := by
                    show _ = _
                    rw [← HHA.out, List.drop_of_length_le (by have := HLE.out; simp at this; simp; omega), hashAll]
                  have HKR : Hid (Keeps w.heap.size w wr) := HKP.out.trans ((Keeps.of HBW.out).mono hsz)
                  obtain ⟨kb, kc, hb0, hc0, m1, m2, m3, m4⟩ := (HMK.out.later HKR.out.block).ex
                  have M1 : Hid (wr.cell? ⟨mb, 0, none⟩ = some (.slice (some ⟨kb, 0, none⟩) 64 kc)) := m1
                  have M2 : Hid (wr.cell? ⟨mb, 1, none⟩ = some (.slice (some ⟨hb0, 0, none⟩) 8 hc0)) := m2
                  have M3 : Hid (∀ i, i < 64 → wr.cell? ⟨kb, i, none⟩ = some (.int .i64 (keyAt i))) := m3
                  have M4 : Hid (∀ i, i < 8 → wr.cell? ⟨hb0, i, none⟩ = some (.int .i64 (Sha.H0.get i))) := m4
                  clear m1 m2 m3 m4 HHA
                  go_wp2_with fail
                  refine (msum_any t (by omega) mb 0 kb kc hb0 hc0 keyAt _ M1.out M2.out M3.out M4.out keyAt_lt).mono ?_
                  rintro e w5 ⟨S, HS, rfl, hk5⟩
                  have HK5 : Hid (Keeps w.heap.size w w5) := HKR.out.trans (hk5.mono HKR.out.size)
                  have HN : Hid (refRun names data (wordsB s) = some (hexUpTo (outStr S.byte) 32)) := by
                    show _ = _
                    rw [HR2.out, HTT.out, HS.out]; rfl
                  have ho : (outStr S.byte).size = 32 := by simp [outStr, ByteArray.size]
                  clear hk5 M1 M2 M3 M4 HS HTT HKR
                  have HHS : Hid (∀ j, j ≤ 32 → (hexUpTo (outStr S.byte) j).size = 2 * j) := fun j _ => hexUpTo_size _ j
                  generalize outStr S.byte = T at *
                  go_wp2_with fail
                  have HDX : Hid (∀ h, h < 16 → (ByteArray.mk #[48, 49, 50, 51, 52, 53, 54, 55, 56, 57, 97, 98, 99, 100, 101, 102]).extract h (h + 1) = ⟨#[hexByte h]⟩) := digits_at
                  have dg : (ByteArray.mk #[48, 49, 50, 51, 52, 53, 54, 55, 56, 57, 97, 98, 99, 100, 101, 102]).size = 16 := rfl
                  generalize (ByteArray.mk #[48, 49, 50, 51, 52, 53, 54, 55, 56, 57, 97, 98, 99, 100, 101, 102]) = DG at *
                  go_loopw [13, 22] (fun a k wr => ∃ j : Nat, a = .string (hexUpTo T j) ∧ k = .int .i64 j ∧ j ≤ 32 ∧ ∃ m, wr = w5.drewN m) (fun _ k _ => 32 - (intOf k).toNat)
                  case atStart => exact ⟨0, rfl, rfl, by omega, 0, rfl⟩
                  case round =>
                    obtain ⟨j, rfl, rfl, hj, m, rfl⟩ := hrel
                    have j0 : (0 : Int) ≤ (j : Int) := by omega
                    have hoi : (T.size : Int) = 32 := by omega
                    by_cases hlt : j < 32
                    · have j1 : (j : Int) < 32 := by omega
                      have j2 : (j : Int) < (T.size : Int) := by omega
                      have hidx : ∀ wx, (Instr.index 9 (.string T) (.int .i64 j)).run Tryz.prog wx = .ok (.int .u8 (byteOf T j)) wx := fun wx => run_index_text T j (by omega) wx
                      have HX : Hid (hexUpTo T (j + 1) = (hexUpTo T j ++ ⟨#[hexByte (byteOf T j / 16)]⟩) ++ ⟨#[hexByte (byteOf T j % 16)]⟩) := by
                        show _ = _
                        rw [hexUpTo, get_byteOf]
                      have hb := byteOf_lt T j
                      have hsz5 := HHS.out j hj
                      generalize byteOf T j = X at *
                      generalize hexUpTo T j = A at *
                      have x1 : (X : Int) < 256 := by omega
                      go_wp2_with fail
                      have e1 : (X : Int) / 16 = ((X / 16 : Nat) : Int) := by omega
                      have e2 : (X : Int) % 16 = ((X % 16 : Nat) : Int) := by omega
                      rw [e1, e2]
                      clear hidx
                      have hH : X / 16 < 16 := by omega
                      have hL : X % 16 < 16 := by omega
                      have D1 := HDX.out _ hH
                      have D2 := HDX.out _ hL
                      generalize X / 16 = XH at *
                      generalize X % 16 = XL at *
                      have s1 : (ByteArray.mk #[hexByte XH]).size = 1 := rfl
                      have s2 : (ByteArray.mk #[hexByte XL]).size = 1 := rfl
                      have s3 : (A ++ (ByteArray.mk #[hexByte XH])).size = 2 * j + 1 := by rw [ByteArray.size_append, hsz5]; rfl
                      generalize (ByteArray.mk #[hexByte XH]) = B1 at *
                      generalize (ByteArray.mk #[hexByte XL]) = B2 at *
                      have h1 : ((XH : Nat) : Int) < 16 := by omega
                      have h2 : ((XL : Nat) : Int) < 16 := by omega
                      have w1 : IntKind.i64.wrap ((XH : Int) + 1) = (XH : Int) + 1 := by rw [IntKind.wrap_i64]; omega
                      have w2 : IntKind.i64.wrap ((XL : Int) + 1) = (XL : Int) + 1 := by rw [IntKind.wrap_i64]; omega
                      have L1 : ∀ wx, (Instr.slice 9 (.string DG) (some (.int .i64 XH)) (some (.int .i64 ((XH : Int) + 1))) none).run Tryz.prog wx = .ok (.string B1) wx := fun wx => by
                        rw [run_slice_string (P := Tryz.prog) wx 9 DG .i64 .i64 XH ((XH : Int) + 1) Tryz.underlying9 (by omega) (by omega) (by omega)]
                        simp only [Int.toNat_natCast, show ((XH : Int) + 1).toNat = XH + 1 by omega, D1]
                      have L2 : ∀ wx, (Instr.slice 9 (.string DG) (some (.int .i64 XL)) (some (.int .i64 ((XL : Int) + 1))) none).run Tryz.prog wx = .ok (.string B2) wx := fun wx => by
                        rw [run_slice_string (P := Tryz.prog) wx 9 DG .i64 .i64 XL ((XL : Int) + 1) Tryz.underlying9 (by omega) (by omega) (by omega)]
                        simp only [Int.toNat_natCast, show ((XL : Int) + 1).toNat = XL + 1 by omega, D2]
                      have t1 : ¬ 9223372036854775807 < A.size + B1.size := by omega
                      have t2 : ¬ 9223372036854775807 < A.size + B1.size + B2.size := by omega
                      clear e1 e2 D1 D2 s3 hsz5 s1 s2
                      go_region_held3 (fun w' => True) (exact trivial) (fail)
                      all_goals
                        clear L1 L2 w1 w2 t1 t2
                        go_wp2
                        refine ⟨⟨j + 1, by rw [HX.out], by go_num, by omega, m + 1, rfl⟩, by simp [intOf]; omega⟩
                    · obtain rfl : j = 32 := by omega
                      have HK6 : Hid (Keeps w.heap.size w (w5.drewN m)) := ⟨HK5.out.os, HK5.out.output, HK5.out.size, HK5.out.block⟩
                      go_wp2
                      go_ret2
                      exact ⟨by rw [HN.out]; rfl, HK6.out⟩
          | false =>
            cases q3 : (x.toList == [101, 99, 104, 111]) with
            | true =>
              have HR : Hid (refRun names data (wordsB s) = some (echoOf r)) := by
                show _ = _
                rw [HWE.out, refRun, if_neg (by rw [q1]; decide), if_neg (by rw [q2]; decide), if_pos q3]
              go_wp2_with fail
              go_loop [13, 25] (fun a k => ∃ (j : Nat) (out : ByteArray), a = .string out ∧ k = .int .i64 j ∧ 1 ≤ j ∧ j ≤ L ∧ out.size ≤ j * 1048577 ∧ EchoAt r j out) (fun _ k => L - (intOf k).toNat)
              case atStart => exact ⟨1, ⟨#[]⟩, rfl, rfl, by omega, by omega, Nat.zero_le _, Or.inl ⟨rfl, rfl⟩⟩
              case round =>
                obtain ⟨j, out, rfl, rfl, hj1, hjL, hos, hec⟩ := hrel
                have j0 : (0 : Int) ≤ (j : Int) := by omega
                by_cases hlt : j < L
                · have j1 : (j : Int) < (L : Int) := by omega
                  obtain ⟨y, hy⟩ : ∃ y, (x :: r)[j]? = some y := ⟨(x :: r)[j]'(by have := HLE.out; simp; omega), by simp⟩
                  have cj := HC.out j y hy
                  have hys := HWS.out y (List.mem_of_getElem? hy)
                  have hyr : r[j - 1]? = some y := by
                    rw [show j = (j - 1) + 1 by omega] at hy
                    simpa using hy
                  by_cases h1 : j = 1
                  · subst h1
                    have HE : Hid (EchoAt r 2 (out ++ y)) := hec.first hyr
                    have hcs : ¬ 9223372036854775807 < out.size + y.size := by omega
                    have HOS : Hid ((out ++ y).size ≤ 2 * 1048577) := by
                      show _ ≤ _
                      rw [ByteArray.size_append]; omega
                    clear hec hyr hy
                    go_wp2
                    exact ⟨⟨2, out ++ y, rfl, by go_num, by omega, by omega, HOS.out, HE.out⟩, by simp [intOf]; omega⟩
                  · have h2 : (1 : Int) < (j : Int) := by omega
                    have HE : Hid (EchoAt r (j + 1) ((out ++ ⟨#[32]⟩) ++ y)) := hec.more (by omega) hyr
                    have z1 : (ByteArray.mk #[32]).size = 1 := rfl
                    have zs : (out ++ ⟨#[32]⟩).size = out.size + 1 := by rw [ByteArray.size_append]; rfl
                    have hcs0 : ¬ 9223372036854775807 < out.size + 1 := by omega
                    have hcs : ¬ 9223372036854775807 < (out ++ ⟨#[32]⟩).size + y.size := by rw [zs]; omega
                    have HOS : Hid (((out ++ ⟨#[32]⟩) ++ y).size ≤ (j + 1) * 1048577) := by
                      show _ ≤ _
                      rw [ByteArray.size_append, zs]; omega
                    clear hec hyr hy zs
                    go_wp2
                    exact ⟨⟨j + 1, (out ++ ⟨#[32]⟩) ++ y, rfl, by go_num, by omega, by omega, HOS.out, HE.out⟩, by simp [intOf]; omega⟩
                · obtain rfl : j = L := by omega
                  have HN : Hid (refRun names data (wordsB s) = some (out ++ ⟨#[10]⟩)) := by
                    show _ = _
                    rw [HR.out, hec.end HLE.out]
                  have hcs0 : ¬ 9223372036854775807 < out.size + 1 := by omega
                  have z1 : (ByteArray.mk #[10]).size = 1 := rfl
                  clear hec
                  go_wp2
                  go_ret2
                  exact ⟨by rw [HN.out]; simp [runBool, ByteArray.size_append, z1], HKP.out⟩
            | false =>
              have HR : Hid (refRun names data (wordsB s) = none) := by
                show _ = _
                rw [HWE.out, refRun, if_neg (by rw [q1]; decide), if_neg (by rw [q2]; decide), if_neg (by rw [q3]; decide)]
              go_wp2
              go_ret2
              exact ⟨by rw [HR.out]; rfl, HKP.out⟩
end Go.Proofs.YthhbpebihgjpjaaGreatDoor
