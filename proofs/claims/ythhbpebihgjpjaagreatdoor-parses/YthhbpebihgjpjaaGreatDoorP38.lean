import Derived.Test.YthhbpebihgjpjaaGreatDoorP30
import Derived.Test.YthhbpebihgjpjaaGreatDoorP34
import Derived.Test.YthhbpebihgjpjaaGreatDoorP37
import Derived.Deep.QuietTactic
import Derived.BigQuiet
import Derived.Deep.AppendLies
import Derived.Deep.RegionLaw
import Derived.Deep.CutRange
namespace Go.Proofs.YthhbpebihgjpjaaGreatDoor
open Go.RowKit
set_option maxRecDepth 1000000

set_option maxHeartbeats 16000000 in
theorem rbuild_done : RBuildDone := by
 intro r ds cc B w rb L S m x t h0 hx ht
 obtain ⟨c, hW, h⟩ := h0.fresh
 clear h0 cc
 have H : Hid (RSt r ds c B w rb L S (m + 1)) := h
 have HW : Hid (∀ k, w.heap.size ≤ k → c k = 8) := hW
 have HX : Hid (L[r.at']? = some x) := hx
 have HFL : Hid (Calls Tryz.prog 283 #[.pointer (some ⟨rb, 0, none⟩), .int .i64 5] w fun e w' => e = .returned (.tuple #[]) ∧ RRow (r.failed 5 x.1) w' rb ∧ w.grownBy w' (some rb)) := rfail_any 5 (h.at hx).row (h.at hx).lines (h.at hx).at' (h.at hx).ne
 have tz : (t.size : Int) ≤ 4000 := by omega
 clear h hx hW
 have hinf : (Tryz.prog.info? 233).map (fun i => (i.size, i.bytes, i.zero)) = some (6, 128, some (.agg #[.slice none 0 0, .slice none 0 0, .slice none 0 0, .slice none 0 0, .string ⟨#[]⟩, .string ⟨#[]⟩])) := by kernel_rfl
 obtain ⟨te, hte, htf⟩ := Option.map_eq_some_iff.1 hinf
 simp only [Prod.mk.injEq] at htf
 have HTE : Hid (Tryz.prog.info? 233 = some te ∧ te.size = 6 ∧ te.bytes = 128 ∧ te.zero = some (.agg #[.slice none 0 0, .slice none 0 0, .slice none 0 0, .slice none 0 0, .string ⟨#[]⟩, .string ⟨#[]⟩])) := ⟨hte, htf.1, htf.2.1, htf.2.2⟩
 clear hinf hte htf
 have hinf : (Tryz.prog.info? 327).map (fun i => (i.size, i.bytes, i.zero)) = some (1, 24, some (.slice none 0 0)) := by kernel_rfl
 obtain ⟨tb, htb, htf⟩ := Option.map_eq_some_iff.1 hinf
 simp only [Prod.mk.injEq] at htf
 have HTB : Hid (Tryz.prog.info? 327 = some tb ∧ tb.size = 1 ∧ tb.bytes = 24 ∧ tb.zero = some (.slice none 0 0)) := ⟨htb, htf.1, htf.2.1, htf.2.2⟩
 clear hinf htb htf
 go_enter Tryz.func285, Tryz.ntmps285
 go_wp2_with fail
 go_loop [4] (fun z => ∃ j : Nat, z = .int .i64 j ∧ j ≤ t.size + 1 ∧ scanAt isColon t j = scanB isColon t) (fun z => t.size + 1 - (intOf z).toNat)
 case atStart => exact ⟨0, rfl, Nat.zero_le _, rfl⟩
 case round =>
  obtain ⟨j, rfl, hle, hag⟩ := hrel
  have HAG : Hid (scanAt isColon t j = scanB isColon t) := hag
  clear hag
  have j0 : (0 : Int) ≤ (j : Int) := by omega
  by_cases hlt : j < t.size
  ·have j1 : (j : Int) < (t.size : Int) := by omega
   have hidx : ∀ wx, (Instr.index 9 (.string t) (.int .i64 j)).run Tryz.prog wx = .ok (.int .u8 (byteOf t j)) wx := fun wx => run_index_text t j hlt wx
   have hb := byteOf_lt t j
   by_cases g58 : byteOf t j = 58
   ·have HK : Hid (scanB isColon t = j) := HAG.out.symm.trans (scanAt_hit isColon t j hlt (by omega) (by unfold isColon; simp; omega))
    rw [g58] at hidx
    have hs1 : ∀ wx, (Instr.slice 9 (.string t) none (some (.int .i64 j)) none).run Tryz.prog wx = .ok (.string (t.extract 0 j)) wx := fun wx => slice_head t j (by omega) wx
    have hs2 : ∀ wx, (Instr.slice 9 (.string t) (some (.int .i64 ((j : Int) + 1))) none none).run Tryz.prog wx = .ok (.string (t.extract (j + 1) t.size)) wx := fun wx => slice_next t (j + 1) _ (by omega) (by omega) wx
    have HBS : Hid (buildS S x.1 t (said (L.drop (r.at' + 1))) = restS S x.1 (said (L.drop (r.at' + 1))) (leftB (t.extract (j + 1) t.size)) (pathsS (envOf [] S.top) [tBar] (t.extract 0 j)) (pathsS (envOf [] S.top) [tBar, tBars] (tailB (leftB (t.extract (j + 1) t.size))))) := by
     show _ = _
     rw [buildS_is (by rw [HK.out]; omega), HK.out, envOf_one]
    have HT1 : Hid ((t.extract 0 j).size ≤ 4000 ∧ (t.extract (j + 1) t.size).size ≤ 4000) := by
     constructor <;> rw [ByteArray.size_extract] <;> omega
    clear g58 hb HAG
    generalize t.extract 0 j = T1 at *
    generalize t.extract (j + 1) t.size = T0 at *
    have HLF : Hid (∀ wx, Calls Tryz.prog 280 #[.string T0] wx fun e w' => e = .returned (.string (leftB T0)) ∧ w' = wx) := fun wx => rleft_any T0 (by have := HT1.out.2; omega) wx
    have HUS : Hid ((leftB T0).size ≤ 4000) := Nat.le_trans (leftB_le T0) HT1.out.2
    generalize leftB T0 = U at *
    have HWL : Hid (∀ wx, Calls Tryz.prog 289 #[.string U] wx fun e w' => e = .returned (.int .i64 (wordLenB U)) ∧ w' = wx) := fun wx => rwordLen_any U (by have := HUS.out; omega) wx
    have hle : wordLenB U ≤ U.size := spanLen_le _ _
    have hs3 : ∀ wx, (Instr.slice 9 (.string U) (some (.int .i64 (wordLenB U))) none none).run Tryz.prog wx = .ok (.string (tailB U)) wx := fun wx => slice_from U _ hle wx
    have hs4 : ∀ wx, (Instr.slice 9 (.string U) none (some (.int .i64 (wordLenB U))) none).run Tryz.prog wx = .ok (.string (headB U)) wx := fun wx => slice_head U _ hle wx
    have HTS : Hid ((tailB U).size ≤ 4000) := by have := tailB_size U; have := HUS.out; show _ ≤ _; omega
    have n0 : (0 : Int) ≤ (wordLenB U : Int) := by omega
    have n1 : (wordLenB U : Int) ≤ 4000 := by have := HUS.out; omega
    obtain ⟨TL, hTL⟩ : ∃ TL, TL = tailB U := ⟨_, rfl⟩
    obtain ⟨HD, hHD⟩ : ∃ HD, HD = headB U := ⟨_, rfl⟩
    obtain ⟨N, hN⟩ : ∃ N, N = wordLenB U := ⟨_, rfl⟩
    have HNU : Hid (N = wordLenB U ∧ HD = headB U) := ⟨hN, hHD⟩
    rw [← hTL] at HBS hs3 HTS
    rw [← hHD] at hs4
    rw [← hN] at hs3 hs4 n0 n1 HWL
    clear hTL hHD hN hle
    have HP1 : Hid (Calls Tryz.prog 286 #[.pointer (some ⟨rb, 0, none⟩), .string T1, .bool true, .bool false] w (RPathsAny (envOf [] S.top) [tBar] T1 r x.1 rb w)) := rpaths_both (top := S.top) T1 true false (H.out.at HX.out) H.out.binds.1 (fun g o n c' e q => by have h1 := H.out.c2 g (by rw [e]; rfl); have h2 := H.out.c1; rw [q] at h1; omega) (by have := H.out.ok.tops; omega) HT1.out.1 H.out.ok.top
    go_wp2_with fail
    refine HP1.out.mono ?_
    rintro e w1 ⟨vl1, vq1, ll1, sl1, r1, rfl, hl1, htq1, hlen1, hm1, hz1, hr1, hg1, ho1⟩
    obtain ⟨g1, cap1, rfl, hc1, hgw1, hcell1⟩ := hl1
    obtain ⟨l0, hl0⟩ : ∃ l0, ll1[0]? = some l0 := ⟨ll1[0]'(by omega), by simp⟩
    have HO1 : Hid ((r.e ≠ 0 ∧ r1 = r) ∨ r.e = 0 ∧ ((r1 = r ∧ ∃ A : Secs, A ≠ [] ∧ A.map (·.2) = ll1 ∧ A.tail.map (·.1) = sl1 ∧ pathsS (envOf [] S.top) [tBar] T1 = .ok A) ∨ ∃ b, r1 = r.failed ((badK b : Nat) + 1) x.1 ∧ pathsS (envOf [] S.top) [tBar] T1 = .error b)) := ho1
    have HG1 : Hid (w.grownBy w1 (some rb)) := hg1
    have HR1 : Hid (RRow r1 w1 rb ∧ r1.like r) := ⟨hr1, by
     rcases ho1 with ⟨_, e⟩ | ⟨_, ⟨e, _⟩ | ⟨b, e, _⟩⟩
     ·rw [e]; rfl
     ·rw [e]; rfl
     ·rw [e]; exact RV.like_failed (RV.like_refl _) _ _⟩
    have HC1 : Hid (∀ (i : Nat) y, ll1[i]? = some y → ∃ pv, w1.cell? ⟨g1, i, none⟩ = some pv ∧ TextsF w.heap.size w1 pv y) := hcell1
    have HL0 : Hid (ll1[0]? = some l0) := hl0
    have HLS1 : Hid (ll1.length ≤ 10001 ∧ (∀ l ∈ ll1, l.length ≤ 10000) ∧ ll1.length ≤ cap1 ∧ w.heap.size ≤ g1) := ⟨hm1, hz1, hc1, hgw1⟩
    have n10 : ¬ ll1.length = 0 := by omega
    obtain ⟨aoq1, capq1, rfl, _, _⟩ := htq1.1
    clear ho1 hg1 hr1 hcell1 hl0 hlen1 hm1 hz1 htq1 hc1 hgw1
    generalize hN1 : ll1.length = N1 at *
    have HN1 : Hid (ll1.length = N1) := hN1
    clear hN1
    go_wp2_with fail
    refine (HLF.out _).mono ?_
    rintro e w1' ⟨rfl, hw⟩
    rw [hw]
    clear hw w1'
    go_wp2_with fail
    refine (HWL.out _).mono ?_
    rintro e w1' ⟨rfl, hw⟩
    rw [hw]
    clear hw w1'
    go_wp2_with fail
    obtain ⟨eb, heb⟩ : ∃ eb, eb = w1.heap.size := ⟨_, rfl⟩
    obtain ⟨w2, hw2⟩ : ∃ w2, w2 = w1.alloc (.cells #[.slice none 0 0, .slice none 0 0, .slice none 0 0, .slice none 0 0, .string HD, .string ⟨#[]⟩] 233) := ⟨_, rfl⟩
    rw [← hw2, ← heb]
    have HE2 : Hid (ERow eb (.slice none 0 0) (.slice none 0 0) (.slice none 0 0) (.slice none 0 0) HD w2) := by rw [hw2, heb]; exact heapA_new _ _ _ rfl
    have HG2 : Hid (w.grownBy w2 (some rb)) := by rw [hw2]; exact grown_alloc HG1.out _
    have HR2 : Hid (RRow r1 w2 rb) := by rw [hw2]; exact (heapA_old _ _ rb HR1.out.1.lt).trans HR1.out.1
    have HW2 : Hid (w1.heap.size = eb ∧ w2.heap.size = eb + 1 ∧ ∀ k, k < eb → w2.heap[k]? = w1.heap[k]?) := by
     refine ⟨heb.symm, by rw [hw2, heb]; simp, fun k hk => ?_⟩
     rw [hw2]
     exact heapA_old _ _ k (by omega)
    have HEB : Hid (w.heap.size ≤ eb ∧ ¬ eb = rb) := by
     have h1 := HG1.out.size
     have h2 := H.out.row.lt
     constructor <;> omega
    have HST2 : Hid (RAt r1 w2 rb L x ∧ BindsAt w2 r1.vt S.top) := by
     refine ⟨(H.out.at HX.out).grown HG2.out HR2.out (by rw [HR1.out.2]; exact ⟨rfl, rfl⟩), ?_⟩
     rw [show r1.vt = r.vt by rw [HR1.out.2]]
     exact binds_of_row (base := B) (rkeep H.out.top (fun k hk => HG2.out.block k (rblock H.out.top k hk).2 (fun e => by have h1 := H.out.c2 k hk; have h2 := H.out.c1; rw [Option.some.inj e] at h1; omega)))
    clear hw2 heb
    have HP2 : Hid (Calls Tryz.prog 286 #[.pointer (some ⟨rb, 0, none⟩), .string TL, .bool true, .bool true] w2 (RPathsAny (envOf [] S.top) [tBar, tBars] TL r1 x.1 rb w2)) := rpaths_both (top := S.top) TL true true HST2.out.1 HST2.out.2 (fun g o n c' e q => by have h1 := H.out.c2 g (by rw [show r.vt = r1.vt by rw [HR1.out.2], e]; rfl); have h2 := H.out.c1; rw [q] at h1; omega) (by have := H.out.ok.tops; omega) HTS.out H.out.ok.top
    refine HP2.out.mono ?_
    rintro e w3 ⟨vl2, vq2, ll2, sl2, r2, rfl, hl2, htq2, hlen2, hm2, hz2, hr2, hg2, ho2⟩
    obtain ⟨g2, cap2, rfl, hc2, hgw2, hcell2⟩ := hl2
    have HO2 : Hid ((r1.e ≠ 0 ∧ r2 = r1) ∨ r1.e = 0 ∧ ((r2 = r1 ∧ ∃ A : Secs, A ≠ [] ∧ A.map (·.2) = ll2 ∧ A.tail.map (·.1) = sl2 ∧ pathsS (envOf [] S.top) [tBar, tBars] TL = .ok A) ∨ ∃ b, r2 = r1.failed ((badK b : Nat) + 1) x.1 ∧ pathsS (envOf [] S.top) [tBar, tBars] TL = .error b)) := ho2
    have HFT : Hid (r2.like r ∧ ((r2 = r ∧ ∃ A1 A2 : Secs, A1.map (·.2) = ll1 ∧ A2.map (·.2) = ll2 ∧ A2.tail.map (·.1) = sl2 ∧ SecsOk [tBar] A1 ∧ countS A1 ≤ T1.size ∧ SecsOk [tBar, tBars] A2 ∧ countS A2 ≤ TL.size ∧ buildS S x.1 t (said (L.drop (r.at' + 1))) = restS S x.1 (said (L.drop (r.at' + 1))) U (.ok A1) (.ok A2)) ∨ ∃ b, r2.e = ((badK b : Nat) : Int) + 1 ∧ r2.line = (x.1 : Nat) ∧ buildS S x.1 t (said (L.drop (r.at' + 1))) = .error (b, x.1))) := both_fate HBS.out H.out.e0 HO1.out HO2.out
    have hg3 : w.grownBy w3 (some rb) := grown_more HG2.out hg2 (fun k hk => Or.inr (Option.some.inj hk).symm)
    have HG3 : Hid (w.grownBy w3 (some rb)) := hg3
    have HR3 : Hid (RRow r2 w3 rb) := hr2
    have HA3 : Hid (RAt r2 w3 rb L x) := (H.out.at HX.out).grown hg3 hr2 (by rw [HFT.out.1]; exact ⟨rfl, rfl⟩)
    have HB3 : Hid (Below B w w3) := grown_below hg3 H.out.rlow H.out.bw
    have HEB3 : Hid (w2.heap.size ≤ w3.heap.size) := hg2.size
    have HE3 : Hid (ERow eb (.slice none 0 0) (.slice none 0 0) (.slice none 0 0) (.slice none 0 0) HD w3) := (hg2.block eb HE2.out.lt (fun e => HEB.out.2 (Option.some.inj e))).trans HE2.out
    obtain ⟨PV1, hpv1⟩ := lists_ahead (W0 := w.heap.size) (w1 := w1) (w3 := w3) (g := g1) (cap := eb) HLS1.out.2.2.2 HC1.out ⟨Nat.le_trans (by have := HW2.out; omega) hg2.size, fun k h1 h2 => (hg2.block k (by have := HW2.out; omega) (fun e => by have := Option.some.inj e; have := H.out.row.lt; omega)).trans (HW2.out.2.2 k (by have := HW2.out; omega))⟩ (by have := HW2.out; omega)
    have HQ1 : Hid (∀ (i : Nat) y, ll1[i]? = some y → TextsK w.heap.size eb w3 (PV1 i) y ∧ ∀ wr, BKept w.heap.size eb w3 wr → wr.cell? ⟨g1, i, none⟩ = some (PV1 i)) := hpv1
    obtain ⟨PV2, hpv2⟩ := lists_behind (W0 := w.heap.size) (W2 := w2.heap.size) (w3 := w3) (g := g2) (eb := eb) hgw2 hcell2 (by have := HW2.out; have := HEB.out.1; omega) (by have := HW2.out; omega)
    have HQ2 : Hid (∀ (i : Nat) y, ll2[i]? = some y → TextsK w.heap.size eb w3 (PV2 i) y ∧ ∀ wr, BKept w.heap.size eb w3 wr → wr.cell? ⟨g2, i, none⟩ = some (PV2 i)) := hpv2
    have HQS : Hid (TextsK w.heap.size eb w3 vq2 sl2) := texts_behind htq2 (by have := HW2.out; have := HEB.out.1; omega) (by have := HW2.out; omega)
    have HLS2 : Hid (ll2.length = sl2.length + 1 ∧ ll2.length ≤ 10001 ∧ (∀ l ∈ ll2, l.length ≤ 10000) ∧ ll2.length ≤ cap2) := ⟨hlen2, hm2, hz2, hc2⟩
    obtain ⟨aoq2, capq2, rfl, hcq2, hq2⟩ := htq2.1
    have hqs : sl2 = [] ∨ ∃ g o, aoq2 = some ⟨g, o, none⟩ ∧ ∀ (k : Nat) s, sl2[k]? = some s → w3.cell? ⟨g, o + k, none⟩ = some (.string s) := by
     rcases hq2 with ⟨_, q, _⟩ | q
     ·exact Or.inl q
     ·exact Or.inr q
    have HQC : Hid (sl2 = [] ∨ ∃ g o, aoq2 = some ⟨g, o, none⟩ ∧ ∀ (k : Nat) s, sl2[k]? = some s → w3.cell? ⟨g, o + k, none⟩ = some (.string s)) := hqs
    obtain ⟨aoP, cpP, hP0, _, _⟩ := (((HQ1.out 0 l0 HL0.out).1 w3 (fun _ _ _ _ => rfl)).1 : TextsAt w3 (PV1 0) l0)
    have c10 : w3.cell? ⟨g1, 0, none⟩ = some (.slice aoP l0.length cpP) := by rw [(HQ1.out 0 l0 HL0.out).2 w3 (fun _ _ _ _ => rfl), hP0]
    obtain ⟨aoe, cape, hve, _, _⟩ := row_form H.out.edges
    obtain ⟨aor, capr, hvr, _, _⟩ := row_form H.out.rules
    have HVE : Hid (r.ve = .slice aoe S.edges.length cape) := hve
    have HVR : Hid (r.vr = .slice aor S.rules.length capr) := hvr
    have c53 : w3.cell? ⟨rb, 5, none⟩ = some (.slice aoe S.edges.length cape) := by rw [cell_of_row _ _ _ _ _ _ HR3.out]; exact congrArg some (by rw [HFT.out.1]; exact hve)
    have HRU3 : Hid (w3.ownsRow B 338 2 (.slice aor S.rules.length capr) S.rules.length (bcellsB S.rules)) := by
     have h := H.out.rules
     rw [hvr] at h
     exact rkeep h (fun k hk => HG3.out.block k (rblock h k hk).2 (fun e => by have h1 := H.out.c3 k (by rw [hvr]; exact hk); have h2 := H.out.c1; rw [Option.some.inj e] at h1; omega))
    have el64 : (S.edges.length : Int) ≤ 64 := by have := H.out.ok.edges; omega
    have m2z : (sl2.length : Int) ≤ 10000 := by have := HLS2.out; omega
    have n1z : (N1 : Int) ≤ 10001 := by have := HLS1.out; have := HN1.out; omega
    have l0z : (l0.length : Int) ≤ 10000 := by have := HLS1.out.2.1 l0 (List.mem_of_getElem? HL0.out); omega
    clear hlen2 hm2 hz2 hr2 hg2 ho2 hc2 hgw2 hcell2 hg3 hpv1 hpv2 htq2 hcq2 hq2 hqs hP0 hve hvr HO1 HO2 HP1 HP2 HC1 HST2 HR2 HLF HWL hs1 hs2 hs3 hs4 hidx HFL
    generalize hEL : S.edges.length = EL at *
    have HEL : Hid (S.edges.length = EL) := hEL
    clear hEL
    generalize hRL : S.rules.length = RL at *
    have HRL : Hid (S.rules.length = RL) := hRL
    clear hRL
    generalize hXL : l0.length = XL at *
    have HXL : Hid (l0.length = XL) := hXL
    clear hXL
    generalize hM2 : sl2.length = M2 at *
    have HM2 : Hid (sl2.length = M2) := hM2
    clear hM2
    generalize hN2 : ll2.length = N2 at *
    have HN2 : Hid (ll2.length = N2) := hN2
    clear hN2
    go_upto_region 12 with fail
    go_cut [118] from 74 to 118 (fun s118 wx => ∃ b : Bool, s118 = .bool b ∧ (b = true ↔ T12 N1 l0 N sl2 EL) ∧ w3 = wx)
    case first =>
     by_cases t1 : 2 < N1
     ·have u1 : (2 : Int) < (N1 : Int) := by omega
      have HT : Hid (T12 N1 l0 N sl2 EL) := Or.inl t1
      clear t1
      go_wp2_with fail
      go_meet
      exact ⟨true, rfl, ⟨fun _ => HT.out, fun _ => rfl⟩, rfl⟩
     have u1 : ¬ (2 : Int) < (N1 : Int) := by omega
     by_cases t2 : XL = 0
     ·have u2 : ((XL : Int) == 0) = true := by simp [t2]
      have HT : Hid (T12 N1 l0 N sl2 EL) := Or.inr (Or.inl (List.length_eq_zero_iff.1 (HXL.out.trans t2)))
      clear t1 t2
      go_wp2_with fail
      go_meet
      exact ⟨true, rfl, ⟨fun _ => HT.out, fun _ => rfl⟩, rfl⟩
     have u2 : ((XL : Int) == 0) = false := by simpa using t2
     by_cases t3 : N = 0
     ·have u3 : ((N : Int) == 0) = true := by simp [t3]
      have HT : Hid (T12 N1 l0 N sl2 EL) := Or.inr (Or.inr (Or.inl t3))
      clear t1 t2 t3
      go_wp2_with fail
      go_meet
      exact ⟨true, rfl, ⟨fun _ => HT.out, fun _ => rfl⟩, rfl⟩
     have u3 : ((N : Int) == 0) = false := by simpa using t3
     by_cases t4 : 2 < M2
     ·have u4 : (2 : Int) < (M2 : Int) := by omega
      have HT : Hid (T12 N1 l0 N sl2 EL) := Or.inr (Or.inr (Or.inr (Or.inl (by rw [HM2.out]; exact t4))))
      clear t1 t2 t3 t4
      go_wp2_with fail
      go_meet
      exact ⟨true, rfl, ⟨fun _ => HT.out, fun _ => rfl⟩, rfl⟩
     have u4 : ¬ (2 : Int) < (M2 : Int) := by omega
     by_cases t5 : M2 = 2
     ·obtain ⟨s0, s1, hs01⟩ : ∃ s0 s1, sl2 = [s0, s1] := by
       have := HM2.out.trans t5
       match sl2, this with
       | [a, b], _ => exact ⟨a, b, rfl⟩
      have hqc := HQC.out
      rw [hs01] at hqc
      obtain ⟨gq, oq, rfl, hq⟩ : ∃ g o, aoq2 = some ⟨g, o, none⟩ ∧ ∀ (k : Nat) s, [s0, s1][k]? = some s → w3.cell? ⟨g, o + k, none⟩ = some (.string s) := by
       rcases hqc with q | q
       ·cases q
       ·exact q
      have d0 : w3.cell? ⟨gq, oq, none⟩ = some (.string s0) := hq 0 s0 rfl
      have d1 : w3.cell? ⟨gq, oq + 1, none⟩ = some (.string s1) := hq 1 s1 rfl
      have u5 : ((M2 : Int) == 2) = true := by simp [t5]
      have u6 : (0 : Int) < (M2 : Int) := by omega
      have u7 : (1 : Int) < (M2 : Int) := by omega
      have HS01 : Hid (sl2 = [s0, s1]) := hs01
      clear hq hqc hs01
      by_cases hc0 : s0 = tBars
      ·have hb0 : (s0.toList == [124, 124]) = true := text_is hc0
       have HT : Hid (T12 N1 l0 N sl2 EL) := Or.inr (Or.inr (Or.inr (Or.inr (Or.inl ⟨s0, s1, HS01.out, Or.inl hc0⟩))))
       clear t1 t2 t3 t4 t5 hc0
       go_wp2_with fail
       go_meet
       exact ⟨true, rfl, ⟨fun _ => HT.out, fun _ => rfl⟩, rfl⟩
      ·have hb0 : (s0.toList == [124, 124]) = false := text_differ hc0
       by_cases hc1 : s1 = tBar
       ·have hb1 : (s1.toList == [124]) = true := text_is hc1
        have HT : Hid (T12 N1 l0 N sl2 EL) := Or.inr (Or.inr (Or.inr (Or.inr (Or.inl ⟨s0, s1, HS01.out, Or.inr hc1⟩))))
        clear t1 t2 t3 t4 t5 hc0 hc1
        go_wp2_with fail
        go_meet
        exact ⟨true, rfl, ⟨fun _ => HT.out, fun _ => rfl⟩, rfl⟩
       ·have hb1 : (s1.toList == [124]) = false := text_differ hc1
        have HNE : Hid (s0 ≠ tBars ∧ s1 ≠ tBar) := ⟨hc0, hc1⟩
        clear hc0 hc1
        by_cases t6 : EL = 64
        ·have u8 : ((EL : Int) == 64) = true := by simp [t6]
         have HT : Hid (T12 N1 l0 N sl2 EL) := Or.inr (Or.inr (Or.inr (Or.inr (Or.inr t6))))
         clear t1 t2 t3 t4 t5 t6
         go_wp2_with fail
         go_meet
         exact ⟨true, rfl, ⟨fun _ => HT.out, fun _ => rfl⟩, rfl⟩
        ·have u8 : ((EL : Int) == 64) = false := by simp; omega
         have HT : Hid (¬ T12 N1 l0 N sl2 EL) := by
          rintro (q | q | q | q | ⟨a, b, q, q2⟩ | q)
          ·exact t1 q
          ·exact t2 (by rw [← HXL.out, q]; rfl)
          ·exact t3 q
          ·rw [HM2.out] at q; exact t4 q
          ·rw [HS01.out] at q
           simp only [List.cons.injEq, and_true] at q
           obtain ⟨rfl, rfl⟩ := q
           exact q2.elim HNE.out.1 HNE.out.2
          ·exact t6 q
         clear t1 t2 t3 t4 t5 t6
         go_wp2_with fail
         go_meet
         exact ⟨false, rfl, ⟨fun e => (by cases e), fun e => absurd e HT.out⟩, rfl⟩
     ·have u5 : ((M2 : Int) == 2) = false := by simp; omega
      by_cases t6 : EL = 64
      ·have u8 : ((EL : Int) == 64) = true := by simp [t6]
       have HT : Hid (T12 N1 l0 N sl2 EL) := Or.inr (Or.inr (Or.inr (Or.inr (Or.inr t6))))
       clear t1 t2 t3 t4 t5 t6
       go_wp2_with fail
       go_meet
       exact ⟨true, rfl, ⟨fun _ => HT.out, fun _ => rfl⟩, rfl⟩
      ·have u8 : ((EL : Int) == 64) = false := by simp; omega
       have HT : Hid (¬ T12 N1 l0 N sl2 EL) := by
        rintro (q | q | q | q | ⟨a, b, q, q2⟩ | q)
        ·exact t1 q
        ·exact t2 (by rw [← HXL.out, q]; rfl)
        ·exact t3 q
        ·rw [HM2.out] at q; exact t4 q
        ·exact t5 (by rw [← HM2.out, q]; rfl)
        ·exact t6 q
       clear t1 t2 t3 t4 t5 t6
       go_wp2_with fail
       go_meet
       exact ⟨false, rfl, ⟨fun e => (by cases e), fun e => absurd e HT.out⟩, rfl⟩
    case rest =>
     obtain ⟨b, rfl, hb, rfl⟩ := hcut
     cases b with
     | true =>
      have HT : Hid (T12 N1 l0 N sl2 EL) := hb.1 rfl
      have HF5 : Hid (Calls Tryz.prog 283 #[.pointer (some ⟨rb, 0, none⟩), .int .i64 5] w3 fun e w' => e = .returned (.tuple #[]) ∧ RRow (r2.failed 5 x.1) w' rb ∧ w3.grownBy w' (some rb)) := rfail_any 5 HA3.out.row HA3.out.lines HA3.out.at' HA3.out.ne
      clear hb
      go_wp2_with fail
      refine HF5.out.mono ?_
      rintro e w4 ⟨rfl, hr4, hg4⟩
      obtain ⟨r4, hr4e⟩ : ∃ r4, r4 = r2.failed 5 x.1 := ⟨_, rfl⟩
      rw [← hr4e] at hr4
      obtain ⟨b, HBX⟩ : ∃ b, r4.e = ((badK b : Nat) : Int) + 1 ∧ r4.line = (x.1 : Nat) ∧ buildS S x.1 t (said (L.drop (r.at' + 1))) = .error (b, x.1) := by
       rcases HFT.out.2 with ⟨q0, A1, A2, q1, q2, q3, q4, q5, q6, q7, q8⟩ | ⟨b, q1, q2, q3⟩
       ·have q0e : r2.e = 0 := by rw [q0]; exact H.out.e0
        refine ⟨.syn, by rw [hr4e]; exact RV.failed_e q0e, by rw [hr4e]; exact RV.failed_line q0e, ?_⟩
        rw [q8]
        refine restS_worse (test_syn (l0 := l0) q6 ?_ (by have := H.out.ok.edges; omega) ?_)
        ·obtain ⟨y, hy0, hfs, _⟩ := q4.firstS
         rw [hfs]
         have : (A1.map (·.2))[0]? = some y.2 := by rw [List.getElem?_map, hy0]; rfl
         rw [q1, HL0.out] at this
         exact (Option.some.inj this).symm
        ·have e1 : A1.length = N1 := by rw [← HN1.out, ← q1, List.length_map]
         rw [e1, ← HNU.out.1, q3, HEL.out]
         exact HT.out
       ·exact ⟨b, by rw [hr4e, RV.failed_same (by rw [q1]; omega)]; exact q1, by rw [hr4e, RV.failed_same (by rw [q1]; omega)]; exact q2, q3⟩
      have HR4 : Hid (RRow r4 w4 rb ∧ r4.e = ((badK b : Nat) : Int) + 1 ∧ r4.line = (x.1 : Nat) ∧ r4.like r) := ⟨hr4, HBX.1, HBX.2.1, by rw [hr4e]; exact RV.like_failed HFT.out.1 _ _⟩
      have HBB : Hid (buildS S x.1 t (said (L.drop (r.at' + 1))) = .error (b, x.1)) := HBX.2.2
      have HA4 : Hid (RAt r4 w4 rb L x) := HA3.out.grown hg4 hr4 (by rw [hr4e]; exact ⟨(RV.failed_vl _ _ _).1, (RV.failed_vl _ _ _).2.1⟩)
      have HB4 : Hid (Below B w w4) := HB3.out.trans (grown_below hg4 H.out.rlow (Nat.le_trans H.out.bw HB3.out.size))
      have HE4 : Hid (ERow eb (.slice none 0 0) (.slice none 0 0) (.slice none 0 0) (.slice none 0 0) HD w4) := (hg4.block eb HE3.out.lt (fun e => HEB.out.2 (Option.some.inj e))).trans HE3.out
      have HBR4 : Hid (BindsAt w4 (.slice aor RL capr) S.rules) := (HRL.out ▸ binds_of_row (base := B) (l := S.rules) (v := .slice aor RL capr) (HRL.out.symm ▸ rkeep HRU3.out (fun k hk => hg4.block k (rblock HRU3.out k hk).2 (fun e => by have h1 := H.out.c3 k (by rw [HVR.out]; exact hk); have h2 := H.out.c1; rw [Option.some.inj e] at h1; omega))))
      clear hr4 hg4 hr4e HBX HF5 HT
      have c34 : w4.cell? ⟨rb, 3, none⟩ = some (.slice aor RL capr) := by rw [cell_of_row _ _ _ _ _ _ HR4.out.1]; exact congrArg some (by rw [HR4.out.2.2.2]; exact HVR.out)
      have c74 : w4.cell? ⟨rb, 7, none⟩ = some (.int .i64 r4.e) := by rw [cell_of_row _ _ _ _ _ _ HR4.out.1]; rfl
      have ce4 : w4.cell? ⟨eb, 4, none⟩ = some (.string HD) := HE4.out.cell 4
      have HFD4 : Hid (∀ q, Calls Tryz.prog 214 #[.slice aor RL capr, .string HD] (w4.drewN q) fun e w' => e = .returned (.int .i64 (idxI (bindIdx S.rules HD))) ∧ w' = w4.drewN q) := fun q => rfind_any S.rules _ HD (w4.drewN q) (HBR4.out.keep (fun _ _ => rfl)) (by have := H.out.ok.rulen; omega)
      have HFS : Hid (∀ q, Calls Tryz.prog 283 #[.pointer (some ⟨rb, 0, none⟩), .int .i64 6] (w4.drewN q) fun e w' => e = .returned (.tuple #[]) ∧ RRow (r4.failed 6 x.1) w' rb ∧ (w4.drewN q).grownBy w' (some rb)) := fun q => rfail_any (L := L) 6 (show RRow r4 (w4.drewN q) rb from HR4.out.1) (show RLinesAt (w4.drewN q) r4.vl L from HA4.out.lines) HA4.out.at' HA4.out.ne
      have HEN : Hid (r4.e ≠ 0) := by show _ ≠ _; rw [HR4.out.2.1]; omega
      have e4 : (r4.e == 0) = false := by have := HEN.out; simpa using this
      have e5 : ¬ r4.e = 0 := HEN.out
      have HF4 : Hid (∀ wx, RRow r4 wx rb → Below B w4 wx → rstmtEnd B rb m L w (buildS S x.1 t (said (L.drop (r.at' + 1)))) (.returned (.tuple #[])) wx) := fun wx h1 h2 => by
       refine ⟨rfl, HB4.out.trans h2, ?_⟩
       rw [HBB.out]
       exact ⟨_, h1, HR4.out.2.1, HR4.out.2.2.1, by rw [HR4.out.2.2.2]; exact H.out.sl⟩
      cases hbi : bindIdx S.rules HD with
      | some k =>
       rw [hbi] at HFD4
       have HFD4 : Hid (∀ q, Calls Tryz.prog 214 #[.slice aor RL capr, .string HD] (w4.drewN q) fun e w' => e = .returned (.int .i64 (k : Nat)) ∧ w' = w4.drewN q) := HFD4
       have k0 : (0 : Int) ≤ (k : Int) := by omega
       clear hbi
       generalize r4.e = E4 at *
       go_wp2_with fail
       go_quiet ((go_at_call 214; exact Calls.quiet_of_same (HFD4.out _)))
       have HFIN : Hid (rstmtEnd B rb m L w (buildS S x.1 t (said (L.drop (r.at' + 1)))) (.returned (.tuple #[])) (w4.drewN nq)) := HF4.out _ HR4.out.1 (below_drewN (Below.refl _ _) nq)
       go_wp2_with fail
       first | go_end0 | refine bodyPost_ret (results_none rfl _ _ _) rfl ?_
       exact HFIN.out
      | none =>
       rw [hbi] at HFD4
       have HFD4 : Hid (∀ q, Calls Tryz.prog 214 #[.slice aor RL capr, .string HD] (w4.drewN q) fun e w' => e = .returned (.int .i64 (-1)) ∧ w' = w4.drewN q) := HFD4
       clear hbi
       go_wp2_with fail
       go_quiet ((go_at_call 214; exact Calls.quiet_of_same (HFD4.out _)))
       go_wp2_with fail
       refine (HFS.out _).mono ?_
       rintro e w5 ⟨rfl, hr5, hg5⟩
       rw [RV.failed_same HEN.out] at hr5
       have c75 : w5.cell? ⟨rb, 7, none⟩ = some (.int .i64 r4.e) := by rw [cell_of_row _ _ _ _ _ _ hr5]; rfl
       have HFIN : Hid (rstmtEnd B rb m L w (buildS S x.1 t (said (L.drop (r.at' + 1)))) (.returned (.tuple #[])) w5) := HF4.out _ hr5 ((below_drewN (Below.refl _ _) nq).trans (grown_below hg5 H.out.rlow (Nat.le_trans H.out.bw HB4.out.size)))
       clear hr5 hg5
       generalize r4.e = E4 at *
       go_wp2_with fail
       first | go_end0 | refine bodyPost_ret (results_none rfl _ _ _) rfl ?_
       exact HFIN.out
     | false =>
      have HT : Hid (¬ T12 N1 l0 N sl2 EL) := fun q => by have := hb.2 q; cases this
      clear hb
      by_cases hre : r2.e = 0
      ·obtain ⟨q0, A1, A2, q1, q2, q3, q4, q5, q6, q7, q8⟩ : r2 = r ∧ ∃ A1 A2 : Secs, A1.map (·.2) = ll1 ∧ A2.map (·.2) = ll2 ∧ A2.tail.map (·.1) = sl2 ∧ SecsOk [tBar] A1 ∧ countS A1 ≤ T1.size ∧ SecsOk [tBar, tBars] A2 ∧ countS A2 ≤ TL.size ∧ buildS S x.1 t (said (L.drop (r.at' + 1))) = restS S x.1 (said (L.drop (r.at' + 1))) U (.ok A1) (.ok A2) := by
        rcases HFT.out.2 with q | ⟨b, q1, _⟩
        ·exact q
        ·rw [hre] at q1; omega
       obtain rfl := q0.symm
       have hf0 : firstS A1 = l0 := by
        obtain ⟨y, hy0, hfs, _⟩ := q4.firstS
        rw [hfs]
        have : (A1.map (·.2))[0]? = some y.2 := by rw [List.getElem?_map, hy0]; rfl
        rw [q1, HL0.out] at this
        exact (Option.some.inj this).symm
       have hA1 : A1.length = N1 := by rw [← HN1.out, ← q1, List.length_map]
       have HGD := test_good (S := S) (A1 := A1) (A2 := A2) (u := U) (l0 := l0) q6 hf0 (by have := H.out.ok.edges; omega) (by rw [hA1, ← HNU.out.1, q3, HEL.out]; exact HT.out)
       have HGD : Hid _ := HGD
       have HAA : Hid (A1.map (·.2) = ll1 ∧ A2.map (·.2) = ll2 ∧ A2.tail.map (·.1) = sl2 ∧ SecsOk [tBar] A1 ∧ countS A1 ≤ T1.size ∧ SecsOk [tBar, tBars] A2 ∧ countS A2 ≤ TL.size ∧ firstS A1 = l0 ∧ A1.length = N1) := ⟨q1, q2, q3, q4, q5, q6, q7, hf0, hA1⟩
       have HRS : Hid (buildS S x.1 t (said (L.drop (r.at' + 1))) = restS S x.1 (said (L.drop (r.at' + 1))) U (.ok A1) (.ok A2)) := q8
       clear hre q1 q2 q3 q4 q5 q6 q7 q8 hf0 hA1 HT HFT
       have c33 : w3.cell? ⟨rb, 3, none⟩ = some (.slice aor RL capr) := by rw [cell_of_row _ _ _ _ _ _ HR3.out]; exact congrArg some HVR.out
       have c73 : w3.cell? ⟨rb, 7, none⟩ = some (.int .i64 0) := by rw [cell_of_row _ _ _ _ _ _ HR3.out]; exact congrArg (fun z => some (Value.int .i64 z)) H.out.e0
       have ce3 : w3.cell? ⟨eb, 4, none⟩ = some (.string HD) := HE3.out.cell 4
       have HBR3 : Hid (BindsAt w3 (.slice aor RL capr) S.rules) := (HRL.out ▸ binds_of_row (base := B) (l := S.rules) (v := .slice aor RL capr) (HRL.out.symm ▸ HRU3.out))
       have HFD : Hid (∀ q, Calls Tryz.prog 214 #[.slice aor RL capr, .string HD] (w3.drewN q) fun e w' => e = .returned (.int .i64 (idxI (bindIdx S.rules HD))) ∧ w' = w3.drewN q) := fun q => rfind_any S.rules _ HD (w3.drewN q) (HBR3.out.keep (fun _ _ => rfl)) (by have := H.out.ok.rulen; omega)
       have HBST : Hid (BSt r ds c B w w3 rb eb L S (m + 1) w3) := ⟨H.out.moved (j := r.at') (w' := w3) HG3.out HR3.out, HB3.out, fun _ _ _ _ => rfl, Nat.le_refl _⟩
       cases hbi : bindIdx S.rules HD with
       | none =>
        rw [hbi] at HFD
        have HFD : Hid (∀ q, Calls Tryz.prog 214 #[.slice aor RL capr, .string HD] (w3.drewN q) fun e w' => e = .returned (.int .i64 (-1)) ∧ w' = w3.drewN q) := HFD
        have HFS : Hid (∀ q, Calls Tryz.prog 283 #[.pointer (some ⟨rb, 0, none⟩), .int .i64 6] (w3.drewN q) fun e w' => e = .returned (.tuple #[]) ∧ RRow (r.failed 6 x.1) w' rb ∧ (w3.drewN q).grownBy w' (some rb)) := fun q => rfail_any (L := L) 6 (show RRow r (w3.drewN q) rb from HR3.out) (show RLinesAt (w3.drewN q) r.vl L from HA3.out.lines) HA3.out.at' HA3.out.ne
        have HBB : Hid (buildS S x.1 t (said (L.drop (r.at' + 1))) = .error (.rul, x.1)) := by
         show _ = _
         rw [HRS.out]
         refine restS_worse ?_
         rw [HGD.out.1, ← HNU.out.2, bindOf_none hbi, if_pos (show (none : Option ByteArray).isSome = false from rfl)]
        clear hbi
        go_wp2_with fail
        go_quiet ((go_at_call 214; exact Calls.quiet_of_same (HFD.out _)))
        go_wp2_with fail
        refine (HFS.out _).mono ?_
        rintro e w5 ⟨rfl, hr5, hg5⟩
        have c75 : w5.cell? ⟨rb, 7, none⟩ = some (.int .i64 6) := by rw [cell_of_row _ _ _ _ _ _ hr5]; exact congrArg (fun z => some (Value.int .i64 z)) (RV.failed_e H.out.e0)
        have HFIN : Hid (rstmtEnd B rb m L w (buildS S x.1 t (said (L.drop (r.at' + 1)))) (.returned (.tuple #[])) w5) := by
         refine ⟨rfl, HB3.out.trans ((below_drewN (Below.refl _ _) nq).trans (grown_below hg5 H.out.rlow (Nat.le_trans H.out.bw HB3.out.size))), ?_⟩
         rw [HBB.out]
         exact ⟨_, hr5, RV.failed_e H.out.e0, RV.failed_line H.out.e0, RV.failed_sl H.out.sl⟩
        clear hr5 hg5
        go_wp2_with fail
        first | go_end0 | refine bodyPost_ret (results_none rfl _ _ _) rfl ?_
        exact HFIN.out
       | some k =>
        rw [hbi] at HFD
        have HFD : Hid (∀ q, Calls Tryz.prog 214 #[.slice aor RL capr, .string HD] (w3.drewN q) fun e w' => e = .returned (.int .i64 (k : Nat)) ∧ w' = w3.drewN q) := HFD
        have k0 : (0 : Int) ≤ (k : Int) := by omega
        have HED : Hid (edgeBad S A1 A2 U = if twiceS (madeS S) ll1.flatten = true then some .twi else none) := by
         show _ = _
         obtain ⟨y, _, hy⟩ := bindOf_idx hbi
         rw [HGD.out.1, ← HNU.out.2, hy, if_neg (show ¬ (some y.2).isSome = false by simp), outs_flat HAA.out.2.2.2.1 HAA.out.1 HGD.out.2.2.1]
        clear hbi
        go_wp2_with fail
        go_quiet ((go_at_call 214; exact Calls.quiet_of_same (HFD.out _)))
        have HBS6 : Hid (BSt r ds c B w w3 rb eb L S (m + 1) (w3.drewN nq)) := HBST.out.below (below_drewN (Below.refl _ _) nq)
        have HE6 : Hid (ERow eb (.slice none 0 0) (.slice none 0 0) (.slice none 0 0) (.slice none 0 0) HD (w3.drewN nq)) := HE3.out
        have hw36 : w3.heap.size ≤ (w3.drewN nq).heap.size := Nat.le_refl _
        clear HBST HFD c10 c53 c33 c73 ce3 HA3 HE3 HBR3 HRU3 HR3
        generalize w3.drewN nq = w6 at *
        obtain ⟨i0', hi0⟩ : ∃ i0', ll2[0]? = some i0' := ⟨ll2[0]'(by have := HLS2.out; have := HN2.out; omega), by simp⟩
        obtain ⟨aoI, cpI, hI0, _, _⟩ := (((HQ2.out 0 i0' hi0).1 w6 HBS6.out.kept).1 : TextsAt w6 (PV2 0) i0')
        have HTI : Hid (TextsK w.heap.size eb w3 (.slice aoI i0'.length cpI) i0') := by rw [← hI0]; exact (HQ2.out 0 i0' hi0).1
        have HI0 : Hid (ll2[0]? = some i0') := hi0
        have c20 : w6.cell? ⟨g2, 0, none⟩ = some (.slice aoI i0'.length cpI) := by rw [(HQ2.out 0 i0' hi0).2 w6 HBS6.out.kept, hI0]
        have c76 : w6.cell? ⟨rb, 7, none⟩ = some (.int .i64 0) := by rw [cell_of_row _ _ _ _ _ _ HBS6.out.st.row]; exact congrArg (fun z => some (Value.int .i64 z)) H.out.e0
        have ce6 : w6.cell? ⟨eb, 1, none⟩ = some (.slice none 0 0) := HE6.out.cell 1
        have fe6 : w6.frozen? ⟨eb, 1, none⟩ = false := HE6.out.frozen 1
        have n2z : (0 : Int) < (N2 : Int) := by have := HLS2.out; omega
        clear hi0 hI0 hw36
        generalize hXI : i0'.length = XI at *
        have HXI : Hid (i0'.length = XI) := hXI
        clear hXI
        go_wp2_with fail
        have HE7 : Hid (ERow eb (.slice none 0 0) (.slice aoI XI cpI) (.slice none 0 0) (.slice none 0 0) HD (w6.setCell ⟨eb, 1, none⟩ (.slice aoI XI cpI))) := HE6.out.set1 _
        have HBS7 : Hid (BSt r ds c B w w3 rb eb L S (m + 1) (w6.setCell ⟨eb, 1, none⟩ (.slice aoI XI cpI))) := HBS6.out.wrote HW.out ⟨H.out.bw, HG3.out.size⟩ (grown_cell w6 eb 1 _) (fun k hk => Or.inl ⟨(Option.some.inj hk).symm, HEB.out.1⟩)
        clear HE6 HBS6 c20 c76 ce6 fe6
        generalize w6.setCell ⟨eb, 1, none⟩ (.slice aoI XI cpI) = w7 at *
        go_loopw [12] (fun z wr => ∃ (i : Nat) (aoM aoR : Option Addr) (nM cM nR cR : Nat), z = .int .i64 i ∧ i ≤ M2 ∧ BSt r ds c B w w3 rb eb L S (m + 1) wr ∧ ERow eb (.slice none 0 0) (.slice aoI XI cpI) (.slice aoM nM cM) (.slice aoR nR cR) HD wr ∧ TextsK w.heap.size eb w3 (.slice aoM nM cM) (behindS (A2.take (i + 1)) tBar) ∧ TextsK w.heap.size eb w3 (.slice aoR nR cR) (behindS (A2.take (i + 1)) tBars)) (fun z _ => M2 - (intOf z).toNat)
        case atStart =>
         have hb1 : behindS (A2.take (0 + 1)) tBar = [] ∧ behindS (A2.take (0 + 1)) tBars = [] := behind_first HAA.out.2.2.2.2.2.1
         exact ⟨0, none, none, 0, 0, 0, 0, rfl, Nat.zero_le _, HBS7.out, HE7.out, by rw [hb1.1]; exact textsK_nil _ _ _, by rw [hb1.2]; exact textsK_nil _ _ _⟩
        case round =>
         obtain ⟨i, aoM, aoR, nM, cM, nR, cR, rfl, hiM, hbs, her, htm, htr⟩ := hrel
         have HBS8 : Hid (BSt r ds c B w w3 rb eb L S (m + 1) wr) := hbs
         have HE8 : Hid (ERow eb (.slice none 0 0) (.slice aoI XI cpI) (.slice aoM nM cM) (.slice aoR nR cR) HD wr) := her
         have HTM : Hid (TextsK w.heap.size eb w3 (.slice aoM nM cM) (behindS (A2.take (i + 1)) tBar)) := htm
         have HTR : Hid (TextsK w.heap.size eb w3 (.slice aoR nR cR) (behindS (A2.take (i + 1)) tBars)) := htr
         clear hbs her htm htr HBS7 HE7
         have i0 : (0 : Int) ≤ (i : Int) := by omega
         by_cases hlt : i < M2
         ·have i1 : (i : Int) < (M2 : Int) := by omega
          obtain ⟨s, hs⟩ : ∃ s, sl2[i]? = some s := ⟨sl2[i]'(by have := HM2.out; omega), by simp⟩
          obtain ⟨l, hl⟩ : ∃ l, ll2[i + 1]? = some l := ⟨ll2[i + 1]'(by have := HM2.out; have := HN2.out; have := HLS2.out; omega), by simp⟩
          obtain ⟨gq, oq, rfl, hq⟩ : ∃ g o, aoq2 = some ⟨g, o, none⟩ ∧ wr.cell? ⟨g, o + i, none⟩ = some (.string s) := by
           obtain ⟨ao, cap, e, _, q⟩ := ((HQS.out wr HBS8.out.kept).1 : TextsAt wr (.slice aoq2 M2 capq2) sl2)
           injection e with e1 e2 e3
           subst e1
           rcases q with ⟨_, q, _⟩ | ⟨g, o, q, q2⟩
           ·rw [q] at hs; simp at hs
           ·exact ⟨g, o, q, q2 i s hs⟩
          obtain ⟨aoX, cpX, hX, _, _⟩ := (((HQ2.out (i + 1) l hl).1 wr HBS8.out.kept).1 : TextsAt wr (PV2 (i + 1)) l)
          have HTX : Hid (TextsK w.heap.size eb w3 (.slice aoX l.length cpX) l) := by rw [← hX]; exact (HQ2.out (i + 1) l hl).1
          have cx : wr.cell? ⟨g2, i + 1, none⟩ = some (.slice aoX l.length cpX) := by rw [(HQ2.out (i + 1) l hl).2 wr HBS8.out.kept, hX]
          have HST := behind_step (A := A2) HGD.out.2.2.2 (i := i) (s := s) (l := l) (by rw [HAA.out.2.2.1]; exact hs) (by rw [HAA.out.2.1]; exact hl)
          have HST : Hid ((s = tBar → behindS (A2.take (i + 2)) tBar = l ∧ behindS (A2.take (i + 2)) tBars = behindS (A2.take (i + 1)) tBars) ∧ (s ≠ tBar → behindS (A2.take (i + 2)) tBars = l ∧ behindS (A2.take (i + 2)) tBar = behindS (A2.take (i + 1)) tBar)) := HST
          have i2 : ((i : Int) + 1) < (N2 : Int) := by have := HLS2.out; omega
          clear hs hl hX
          generalize hXX : l.length = XX at *
          clear hXX
          by_cases hc : s = tBar
          ·have hb : (s.toList == [124]) = true := text_is hc
           have ce : wr.cell? ⟨eb, 2, none⟩ = some (.slice aoM nM cM) := HE8.out.cell 2
           have fe : wr.frozen? ⟨eb, 2, none⟩ = false := HE8.out.frozen 2
           have HNX : Hid (BSt r ds c B w w3 rb eb L S (m + 1) (wr.setCell ⟨eb, 2, none⟩ (.slice aoX XX cpX)) ∧ ERow eb (.slice none 0 0) (.slice aoI XI cpI) (.slice aoX XX cpX) (.slice aoR nR cR) HD (wr.setCell ⟨eb, 2, none⟩ (.slice aoX XX cpX)) ∧ TextsK w.heap.size eb w3 (.slice aoX XX cpX) (behindS (A2.take (i + 1 + 1)) tBar) ∧ TextsK w.heap.size eb w3 (.slice aoR nR cR) (behindS (A2.take (i + 1 + 1)) tBars)) := ⟨HBS8.out.wrote HW.out ⟨H.out.bw, HG3.out.size⟩ (grown_cell wr eb 2 _) (fun k hk => Or.inl ⟨(Option.some.inj hk).symm, HEB.out.1⟩), HE8.out.set2 _, by rw [(HST.out.1 hc).1]; exact HTX.out, by rw [(HST.out.1 hc).2]; exact HTR.out⟩
           clear hc
           go_wp2_with fail
           exact ⟨⟨i + 1, aoX, aoR, XX, cpX, nR, cR, by go_num, by omega, HNX.out⟩, by simp [intOf]; omega⟩
          ·have hb : (s.toList == [124]) = false := text_differ hc
           have ce : wr.cell? ⟨eb, 3, none⟩ = some (.slice aoR nR cR) := HE8.out.cell 3
           have fe : wr.frozen? ⟨eb, 3, none⟩ = false := HE8.out.frozen 3
           have HNX : Hid (BSt r ds c B w w3 rb eb L S (m + 1) (wr.setCell ⟨eb, 3, none⟩ (.slice aoX XX cpX)) ∧ ERow eb (.slice none 0 0) (.slice aoI XI cpI) (.slice aoM nM cM) (.slice aoX XX cpX) HD (wr.setCell ⟨eb, 3, none⟩ (.slice aoX XX cpX)) ∧ TextsK w.heap.size eb w3 (.slice aoM nM cM) (behindS (A2.take (i + 1 + 1)) tBar) ∧ TextsK w.heap.size eb w3 (.slice aoX XX cpX) (behindS (A2.take (i + 1 + 1)) tBars)) := ⟨HBS8.out.wrote HW.out ⟨H.out.bw, HG3.out.size⟩ (grown_cell wr eb 3 _) (fun k hk => Or.inl ⟨(Option.some.inj hk).symm, HEB.out.1⟩), HE8.out.set3 _, by rw [(HST.out.2 hc).2]; exact HTM.out, by rw [(HST.out.2 hc).1]; exact HTX.out⟩
           clear hc
           go_wp2_with fail
           exact ⟨⟨i + 1, aoM, aoX, nM, cM, XX, cpX, by go_num, by omega, HNX.out⟩, by simp [intOf]; omega⟩
         ·have i1 : ¬ (i : Int) < (M2 : Int) := by omega
          have htk : A2.take (i + 1) = A2 := List.take_of_length_le (by have h1 := congrArg List.length HAA.out.2.1; rw [List.length_map] at h1; have := HN2.out; have := HLS2.out; omega)
          rw [htk] at HTM HTR
          clear htk
          go_wp2_with fail
          obtain ⟨w8, hw8⟩ : ∃ w8, w8 = wr := ⟨_, rfl⟩
          subst hw8
          clear hiM i0 hlt i1
          go_loopw [13] (fun z wr => ∃ (i : Nat) (aoO : Option Addr) (nO cO : Nat), z = .int .i64 i ∧ i ≤ N1 ∧ BSt r ds c B w w3 rb eb L S (m + 1) wr ∧ ERow eb (.slice aoO nO cO) (.slice aoI XI cpI) (.slice aoM nM cM) (.slice aoR nR cR) HD wr ∧ nO = (ll1.take i).flatten.length ∧ wr.ownsRow w3.heap.size 9 1 (.slice aoO nO cO) nO ((ll1.take i).flatten.map Value.string)) (fun z _ => N1 - (intOf z).toNat)
          case atStart => exact ⟨0, none, 0, 0, rfl, Nat.zero_le _, HBS8.out, HE8.out, rfl, World.ownsRow_nil _ _ _ _⟩
          case round =>
           obtain ⟨i, aoO, nO, cO, rfl, hiN, hbs, her, hnO, hro⟩ := hrel
           have HBS9 : Hid (BSt r ds c B w w3 rb eb L S (m + 1) wr) := hbs
           have HE9 : Hid (ERow eb (.slice aoO nO cO) (.slice aoI XI cpI) (.slice aoM nM cM) (.slice aoR nR cR) HD wr) := her
           have HNO : Hid (nO = (ll1.take i).flatten.length) := hnO
           have HO9 : Hid (wr.ownsRow w3.heap.size 9 1 (.slice aoO nO cO) nO ((ll1.take i).flatten.map Value.string)) := hro
           clear hbs her hnO hro HBS8 HE8
           have i0 : (0 : Int) ≤ (i : Int) := by omega
           by_cases hlt : i < N1
           ·have i1 : (i : Int) < (N1 : Int) := by omega
            obtain ⟨l, hl⟩ : ∃ l, ll1[i]? = some l := ⟨ll1[i]'(by have := HN1.out; omega), by simp⟩
            obtain ⟨aoX, cpX, hX, _, _⟩ := (((HQ1.out i l hl).1 wr HBS9.out.kept).1 : TextsAt wr (PV1 i) l)
            have HTX : Hid (TextsK w.heap.size eb w3 (.slice aoX l.length cpX) l) := by rw [← hX]; exact (HQ1.out i l hl).1
            have cx : wr.cell? ⟨g1, i, none⟩ = some (.slice aoX l.length cpX) := by rw [(HQ1.out i l hl).2 wr HBS9.out.kept, hX]
            have ce : wr.cell? ⟨eb, 0, none⟩ = some (.slice aoO nO cO) := HE9.out.cell 0
            have HFS2 : Hid ((ll1.take (i + 1)).flatten = (ll1.take i).flatten ++ l) := flat_step hl
            have hXb : l.length ≤ 10000 := HLS1.out.2.1 l (List.mem_of_getElem? hl)
            have hOb : nO ≤ 20000 := by rw [HNO.out]; exact flat_le (by have := HN1.out; have := HGD.out.2.2.1; have := HAA.out.2.2.2.2.2.2.2.2; omega) HLS1.out.2.1 i
            clear hl hX
            generalize hXX : l.length = XX at *
            have HXX : Hid (l.length = XX) := hXX
            clear hXX
            generalize hFL : (ll1.take i).flatten = FL at *
            clear hFL
            go_wp2_with fail
            refine wp_region_any (by kernel_rfl) ?_
            change wpAny _ _ _ _ _ _ _ (World.drew _)
            refine wpAny_take (i := 0) (v := .pointer (some ⟨eb, 0, none⟩)) rfl (by kernel_rfl) (by kernel_rfl) (by kernel_rfl) (fun _ _ _ h => h) (Or.inl ⟨by rfl, ?_⟩) ?_
            ·intro w
             go_simp
            refine wpAny_take (i := 2) (v := .slice (some ⟨g1, 0, none⟩) N1 cap1) rfl (by kernel_rfl) (by kernel_rfl) (by kernel_rfl) (fun _ _ _ h => h) (Or.inl ⟨by rfl, ?_⟩) ?_
            ·intro w
             go_simp
            refine wpAny_take (i := 3) (v := .int .i64 (i : Nat)) rfl (by kernel_rfl) (by kernel_rfl) (by kernel_rfl) (fun _ _ _ h => h) (Or.inl ⟨by rfl, ?_⟩) ?_
            ·intro w
             go_simp
            refine wpAny_take (i := 4) (v := .pointer (some ⟨g1, i, none⟩)) rfl (by kernel_rfl) (by kernel_rfl) (by kernel_rfl) (fun _ _ _ h => h) (Or.inl ⟨by rfl, ?_⟩) ?_
            ·intro w
             go_simp
            refine wpAny_ready (rs := [1, 5]) (by kernel_rfl) (by simp) ?_
            refine AllReady.cons rfl (fun K hK => ?_) (AllReady.cons rfl (fun K hK => ?_) AllReady.nil)
            case' _ =>
             go_simp
             refine hK _ _ ?_
             clear hK K
             refine wpAny_ready (rs := [5]) (by kernel_rfl) (by simp) ?_
             refine AllReady.cons rfl (fun K hK => ?_) AllReady.nil
             go_simp
            rotate_left
            case' _ =>
             go_simp
             refine hK _ _ ?_
             clear hK K
             refine wpAny_ready (rs := [1]) (by kernel_rfl) (by simp) ?_
             refine AllReady.cons rfl (fun K hK => ?_) AllReady.nil
             go_simp
            all_goals
             refine hK _ _ ?_
             clear hK K
             have HD9 : Hid (wr.drew.ownsRow w3.heap.size 9 1 (.slice aoO nO cO) nO (FL.map Value.string)) := HO9.out
             have HT9 : Hid (TextsAt wr.drew (.slice aoX XX cpX) l) := (HTX.out wr HBS9.out.kept).1
             refine wpAny_ready (rs := [6]) (by kernel_rfl) (by simp) ?_
             refine AllReady.cons rfl (fun K hK => ?_) AllReady.nil
             refine step_append_texts rfl (.tmp 171) (.tmp 175) rfl w3.heap.size _ nO (FL.map Value.string) rfl HD9.out _ l rfl HT9.out (by rw [HXX.out]; omega) HBS9.out.sz ?_
             rw [HXX.out]
             intro ao7 cap7 w7' hv7 hg7 hat7
             have hbk : ∀ k, (Value.slice aoO nO cO).ownBlock = some k → w3.heap.size ≤ k := fun k hk => (rblock HO9.out k hk).1
             have heb3 : eb < w3.heap.size := by have := HW2.out; have := HEB3.out; omega
             have hrow7 : w7'.heap[eb]? = wr.heap[eb]? := hg7.block eb HE9.out.lt (fun e => by have := hbk eb e.symm; omega)
             have HE10 : ERow eb (.slice aoO nO cO) (.slice aoI XI cpI) (.slice aoM nM cM) (.slice aoR nR cR) HD w7' := hrow7.trans HE9.out
             have d7 : w7'.cell? ⟨eb, 0, none⟩ = some (.slice aoO nO cO) := HE10.cell 0
             have f7 : w7'.frozen? ⟨eb, 0, none⟩ = false := HE10.frozen 0
             have HNX : Hid (BSt r ds c B w w3 rb eb L S (m + 1) (w7'.setCell ⟨eb, 0, none⟩ (.slice ao7 (nO + XX) cap7)) ∧ ERow eb (.slice ao7 (nO + XX) cap7) (.slice aoI XI cpI) (.slice aoM nM cM) (.slice aoR nR cR) HD (w7'.setCell ⟨eb, 0, none⟩ (.slice ao7 (nO + XX) cap7)) ∧ nO + XX = (ll1.take (i + 1)).flatten.length ∧ (w7'.setCell ⟨eb, 0, none⟩ (.slice ao7 (nO + XX) cap7)).ownsRow w3.heap.size 9 1 (.slice ao7 (nO + XX) cap7) (nO + XX) ((ll1.take (i + 1)).flatten.map Value.string)) := by
              have hb7 : BSt r ds c B w w3 rb eb L S (m + 1) w7' := HBS9.out.wrote HW.out ⟨H.out.bw, HG3.out.size⟩ (b := (Value.slice aoO nO cO).ownBlock) ⟨hg7.os, hg7.tape, hg7.output, hg7.size, hg7.block⟩ (fun k hk => Or.inr (hbk k hk))
              refine ⟨hb7.wrote HW.out ⟨H.out.bw, HG3.out.size⟩ (grown_cell w7' eb 0 _) (fun k hk => Or.inl ⟨(Option.some.inj hk).symm, HEB.out.1⟩), HE10.set0 _, by rw [HFS2.out, List.length_append, HXX.out, ← HNO.out], ?_⟩
              rw [HFS2.out, List.map_append]
              exact rkeep hv7 (fun k hk => heap_setCell_other _ _ _ _ (show k ≠ eb from fun e => by have := (rblock hv7 k hk).1; omega))
             clear hv7 hg7 hat7 hrow7 HE10 hbk
             refine hK _ _ ?_
             clear hK K
             refine wpAny_take (i := 7) (v := .pointer (some ⟨eb, 0, none⟩)) rfl (by kernel_rfl) (by kernel_rfl) (by kernel_rfl) (fun _ _ _ h => h) (Or.inl ⟨by rfl, ?_⟩) ?_
             ·intro w
              go_simp
             refine wpAny_ready (rs := [8]) (by kernel_rfl) (by simp) ?_
             refine AllReady.cons rfl (fun K hK => ?_) AllReady.nil
             go_simp
             refine hK _ _ ?_
             clear hK K
             refine wpAny_done (by kernel_rfl) ?_ _
             generalize w7'.setCell ⟨eb, 0, none⟩ (.slice ao7 (nO + XX) cap7) = w10 at *
             clear d7 f7
             go_wp2_with fail
             exact ⟨⟨i + 1, ao7, nO + XX, cap7, by go_num, by omega, HNX.out⟩, by simp [intOf]; omega⟩
           ·have i1 : ¬ (i : Int) < (N1 : Int) := by omega
            have htk : ll1.take i = ll1 := List.take_of_length_le (by have := HN1.out; omega)
            rw [htk] at HNO HO9
            clear htk
            go_wp2_with fail
            obtain ⟨w9, hw9⟩ : ∃ w9, w9 = wr := ⟨_, rfl⟩
            subst hw9
            clear hiN i0 hlt i1
            generalize hOS : ll1.flatten = OS at *
            have HOS : Hid (ll1.flatten = OS) := hOS
            clear hOS
            have nOb : (nO : Int) ≤ 20000 := by
             have h1 := HNO.out
             have h2 := flat_le (n := 10000) (by have := HN1.out; have := HGD.out.2.2.1; have := HAA.out.2.2.2.2.2.2.2.2; omega) HLS1.out.2.1 ll1.length
             rw [List.take_length, HOS.out] at h2
             omega
            go_loopw [14] (fun z wr => ∃ (i : Nat) (r' : RV), z = .int .i64 i ∧ i ≤ nO ∧ RRow r' wr rb ∧ w9.grownBy wr (some rb) ∧ ((r' = r ∧ ∀ q, q < i → ¬ badAt (madeS S) OS q) ∨ (r' = r.failed 7 x.1 ∧ ∃ q, badAt (madeS S) OS q))) (fun z _ => nO - (intOf z).toNat)
            case atStart => exact ⟨0, r, rfl, Nat.zero_le _, HBS9.out.st.row, grown_of_below (Below.refl _ _), Or.inl ⟨rfl, fun q hq => absurd hq (Nat.not_lt_zero q)⟩⟩
            case round =>
             obtain ⟨i, r', rfl, hiN, hrr, hgr, hfate⟩ := hrel
             have HRR : Hid (RRow r' wr rb ∧ w9.grownBy wr (some rb)) := ⟨hrr, hgr⟩
             have HFA : Hid ((r' = r ∧ ∀ q, q < i → ¬ badAt (madeS S) OS q) ∨ (r' = r.failed 7 x.1 ∧ ∃ q, badAt (madeS S) OS q)) := hfate
             have HLK : Hid (r'.like r) := by
              rcases hfate with ⟨e, _⟩ | ⟨e, _⟩
              ·rw [e]; exact RV.like_refl _
              ·rw [e]; exact RV.like_failed (RV.like_refl _) _ _
             have i0 : (0 : Int) ≤ (i : Int) := by omega
             have HEW : Hid (∀ wx, w9.grownBy wx (some rb) → wx.cell? ⟨eb, 0, none⟩ = some (.slice aoO nO cO)) := fun wx hx => (World.cell?_of_block (w := w9) (a := ⟨eb, 0, none⟩) (hx.block eb HE9.out.lt (fun e => HEB.out.2 (Option.some.inj e)))).trans (HE9.out.cell 0)
             have ce : wr.cell? ⟨eb, 0, none⟩ = some (.slice aoO nO cO) := HEW.out wr hgr
             clear hrr hgr hfate
             by_cases hlt : i < nO
             ·have i1 : (i : Int) < (nO : Int) := by omega
              obtain ⟨o, ho⟩ : ∃ o, OS[i]? = some o := ⟨OS[i]'(by have := HNO.out; omega), by simp⟩
              obtain ⟨aoO2, cO2, e, _, hg⟩ := row_form HO9.out
              injection e with e1 e2 e3
              subst e1 e3
              obtain ⟨gO, rfl⟩ := hg (by omega)
              have HCO : Hid (∀ wx, w9.grownBy wx (some rb) → ∀ (q : Nat) p, OS[q]? = some p → wx.cell? ⟨gO, q, none⟩ = some (.string p)) := fun wx hx q p hp => by
               have h1 := (row_cell HO9.out q (.string p) (by rw [List.getElem?_map, hp]; rfl)).1
               have h2 := rblock HO9.out gO rfl
               exact (World.cell?_of_block (w := w9) (a := ⟨gO, q, none⟩) (hx.block gO h2.2 (fun e => by have := Option.some.inj e; have := H.out.row.lt; have := HG3.out.size; omega))).trans h1
              have cO : wr.cell? ⟨gO, i, none⟩ = some (.string o) := HCO.out wr HRR.out.2 i o ho
              have HO : Hid (OS[i]? = some o) := ho
              have HMD : Hid (∀ n, Calls Tryz.prog 219 #[.slice aoe EL cape, .string o] (wr.drewN n) fun e w' => e = .returned (.int .i64 (idxI (madeIdx (S.edges.map (·.outs)) o))) ∧ w' = wr.drewN n) := fun n => HBS9.out.st.made (grown_more HRR.out.2 (grown_of_below (b := some rb) (below_drewN (Below.refl _ _) n)) (fun k hk => Or.inr (Option.some.inj hk).symm)) HVE.out HEL.out o
              have c5r : wr.cell? ⟨rb, 5, none⟩ = some (.slice aoe EL cape) := by rw [cell_of_row _ _ _ _ _ _ HRR.out.1]; exact congrArg some (by rw [HLK.out]; exact HVE.out)
              have HY := made_said S o
              generalize idxI (madeIdx (S.edges.map (·.outs)) o) = Y at *
              have HY : Hid (0 ≤ Y ↔ memB o (madeS S) = true) := HY
              clear ho hg
              go_wp2_with fail
              go_quiet ((go_at_call 219; exact Calls.quiet_of_same (HMD.out _)))
              have HR10 : Hid (RRow r' (wr.drewN nq) rb ∧ w9.grownBy (wr.drewN nq) (some rb)) := ⟨HRR.out.1, grown_more HRR.out.2 (grown_of_below (b := some rb) (below_drewN (Below.refl _ _) nq)) (fun k hk => Or.inr (Option.some.inj hk).symm)⟩
              clear HRR HMD ce cO c5r
              generalize wr.drewN nq = w10 at *
              go_wp2_with fail
              go_loopw [15, 16] (fun z15 z16 wx => ∃ (Y' : Int) (q : Nat), z15 = .int .i64 Y' ∧ z16 = .int .i64 q ∧ q ≤ i ∧ (0 ≤ Y' ↔ memB o (madeS S) = true ∨ ∃ p, p < q ∧ OS[p]? = some o) ∧ RRow r' wx rb ∧ w9.grownBy wx (some rb)) (fun _ z16 _ => i - (intOf z16).toNat)
              case atStart => exact ⟨Y, 0, rfl, rfl, Nat.zero_le _, HY.out.trans ⟨Or.inl, fun h => h.elim id (fun ⟨p, hp, _⟩ => absurd hp (Nat.not_lt_zero p))⟩, HR10.out⟩
              case round =>
               obtain ⟨wx, hwx⟩ : ∃ wx, wx = wr := ⟨_, rfl⟩
               subst hwx
               obtain ⟨Y', q, rfl, rfl, hqi, hY', hrx, hgx⟩ := hrel
               have HRX : Hid (RRow r' wx rb ∧ w9.grownBy wx (some rb)) := ⟨hrx, hgx⟩
               have HYX : Hid (0 ≤ Y' ↔ memB o (madeS S) = true ∨ ∃ p, p < q ∧ OS[p]? = some o) := hY'
               have q0 : (0 : Int) ≤ (q : Int) := by omega
               clear hY' HR10 HY
               by_cases hqlt : q < i
               ·have q1 : (q : Int) < (i : Int) := by omega
                have q2 : (q : Int) < (nO : Int) := by omega
                obtain ⟨p, hp⟩ : ∃ p, OS[q]? = some p := ⟨OS[q]'(by have := HNO.out; omega), by simp⟩
                have ce : wx.cell? ⟨eb, 0, none⟩ = some (.slice (some ⟨gO, 0, none⟩) nO cO) := HEW.out wx hgx
                have cp : wx.cell? ⟨gO, q, none⟩ = some (.string p) := HCO.out wx hgx q p hp
                have co : wx.cell? ⟨gO, i, none⟩ = some (.string o) := HCO.out wx hgx i o HO.out
                clear hrx hgx
                by_cases hpo : p = o
                ·have hb : (p.toList == o.toList) = true := by rw [hpo]; simp
                 have HNY : Hid (0 ≤ (0 : Int) ↔ memB o (madeS S) = true ∨ ∃ p, p < q + 1 ∧ OS[p]? = some o) := ⟨fun _ => Or.inr ⟨q, Nat.lt_succ_self q, by rw [hp, hpo]⟩, fun _ => Int.le_refl 0⟩
                 clear hpo hp
                 go_wp2_with fail
                 go_quiet (fail)
                 go_wp2_with fail
                 exact ⟨⟨0, q + 1, by go_num, by go_num, by omega, HNY.out, HRX.out.1, grown_more HRX.out.2 (grown_of_below (b := some rb) (below_drewN (Below.refl _ _) _)) (fun k hk => Or.inr (Option.some.inj hk).symm)⟩, by simp [intOf]; omega⟩
                ·have hb : (p.toList == o.toList) = false := by
                  cases hq : (p.toList == o.toList) with
                  | true => exact absurd (text_same hq) hpo
                  | false => rfl
                 have HNY : Hid (0 ≤ Y' ↔ memB o (madeS S) = true ∨ ∃ p, p < q + 1 ∧ OS[p]? = some o) := HYX.out.trans ⟨fun h => h.elim Or.inl (fun ⟨a, h1, h2⟩ => Or.inr ⟨a, by omega, h2⟩), fun h => h.elim Or.inl (fun ⟨a, h1, h2⟩ => Or.inr ⟨a, by
                  rcases Nat.lt_or_ge a q with h3 | h3
                  ·exact h3
                  ·have : a = q := by omega
                   subst this
                   rw [hp] at h2
                   exact absurd (Option.some.inj h2) hpo, h2⟩)⟩
                 clear hpo hp
                 go_wp2_with fail
                 go_quiet (fail)
                 go_wp2_with fail
                 exact ⟨⟨Y', q + 1, by go_num, by go_num, by omega, HNY.out, HRX.out.1, grown_more HRX.out.2 (grown_of_below (b := some rb) (below_drewN (Below.refl _ _) _)) (fun k hk => Or.inr (Option.some.inj hk).symm)⟩, by simp [intOf]; omega⟩
               ·have q1 : ¬ (q : Int) < (i : Int) := by omega
                have hqe : q = i := by omega
                clear hrx hgx
                by_cases hY0 : 0 ≤ Y'
                ·have HFL7 : Hid (Calls Tryz.prog 283 #[.pointer (some ⟨rb, 0, none⟩), .int .i64 7] wx fun e w' => e = .returned (.tuple #[]) ∧ RRow (r'.failed 7 x.1) w' rb ∧ wx.grownBy w' (some rb)) := by
                  have ha := (HBS9.out.st.at HX.out).grown HRX.out.2 HRX.out.1 (by rw [HLK.out]; exact ⟨rfl, rfl⟩)
                  exact rfail_any 7 ha.row ha.lines ha.at' ha.ne
                 have HBAD : Hid (∃ q, badAt (madeS S) OS q) := ⟨i, o, HO.out, by have := HYX.out.1 hY0; rw [hqe] at this; exact this⟩
                 have HSM : Hid (r'.failed 7 x.1 = r.failed 7 x.1) := by
                  rcases HFA.out with ⟨e, _⟩ | ⟨e, _⟩
                  ·show _ = _; rw [e]
                  ·show _ = _; rw [e]; exact RV.failed_twice H.out.e0 (by decide)
                 clear hqe
                 go_wp2_with fail
                 refine HFL7.out.mono ?_
                 rintro e w11 ⟨rfl, hr11, hg11⟩
                 have HNX : Hid (RRow (r.failed 7 x.1) w11 rb ∧ w9.grownBy w11 (some rb)) := ⟨by rw [← HSM.out]; exact hr11, grown_more HRX.out.2 hg11 (fun k hk => Or.inr (Option.some.inj hk).symm)⟩
                 clear hr11 hg11
                 go_wp2_with fail
                 exact ⟨⟨i + 1, r.failed 7 x.1, by go_num, by omega, HNX.out.1, HNX.out.2, Or.inr ⟨rfl, HBAD.out⟩⟩, by simp [intOf]; omega⟩
                ·have HNB : Hid (¬ badAt (madeS S) OS i) := by
                  rintro ⟨o2, h1, h2⟩
                  rw [HO.out] at h1
                  obtain rfl := Option.some.inj h1
                  rw [← hqe] at h2
                  exact hY0 (HYX.out.2 h2)
                 have HNF : Hid ((r' = r ∧ ∀ q, q < i + 1 → ¬ badAt (madeS S) OS q) ∨ (r' = r.failed 7 x.1 ∧ ∃ q, badAt (madeS S) OS q)) := by
                  rcases HFA.out with ⟨e, h⟩ | h
                  ·refine Or.inl ⟨e, fun a ha => ?_⟩
                   rcases Nat.lt_or_ge a i with h3 | h3
                   ·exact h a h3
                   ·rw [show a = i by omega]; exact HNB.out
                  ·exact Or.inr h
                 clear hqe
                 go_wp2_with fail
                 exact ⟨⟨i + 1, r', by go_num, by omega, HRX.out.1, HRX.out.2, HNF.out⟩, by simp [intOf]; omega⟩
             ·have i1 : ¬ (i : Int) < (nO : Int) := by omega
              have hie : i = nO := by omega
              go_wp2_with fail
              obtain ⟨w12, hw12⟩ : ∃ w12, w12 = wr := ⟨_, rfl⟩
              subst hw12
              obtain ⟨aoo, capo, hvo, _, _⟩ := row_form H.out.owns
              rw [HEL.out] at hvo
              have HVO : Hid (r.vo = .slice aoo EL capo) := hvo
              have h123 : w3.heap.size ≤ w12.heap.size := Nat.le_trans HBS9.out.sz HRR.out.2.size
              have HTWO : Hid (TwoRows r B w w12 rb) := H.out.two (Nat.le_trans HG3.out.size h123)
              have hk12 : ∀ k, w.heap.size ≤ k → k < w9.heap.size → w12.heap[k]? = w9.heap[k]? := fun k h1 h2 => HRR.out.2.block k h2 (fun e => by have := Option.some.inj e; have := H.out.row.lt; omega)
              have hk3 : ∀ k, w.heap.size ≤ k → k < w3.heap.size → k ≠ eb → w12.heap[k]? = w3.heap[k]? := fun k h1 h2 h3 => (hk12 k h1 (by have := HBS9.out.sz; omega)).trans (HBS9.out.kept k h1 h2 h3)
              have HTK : Hid (TextsK w.heap.size rb w12 (.slice aoO nO cO) OS ∧ TextsK w.heap.size rb w12 (.slice aoI XI cpI) i0' ∧ TextsK w.heap.size rb w12 (.slice aoM nM cM) (behindS A2 tBar) ∧ TextsK w.heap.size rb w12 (.slice aoR nR cR) (behindS A2 tBars)) := ⟨textsK_row HO9.out HNO.out H.out.row.lt HG3.out.size HRR.out.2.size hk12, HTI.out.later H.out.row.lt h123 hk3, HTM.out.later H.out.row.lt h123 hk3, HTR.out.later H.out.row.lt h123 hk3⟩
              have HE12 : Hid (ERow eb (.slice aoO nO cO) (.slice aoI XI cpI) (.slice aoM nM cM) (.slice aoR nR cR) HD w12) := (hk12 eb HEB.out.1 HE9.out.lt).trans HE9.out
              have HOW12 : Hid (OwnSt r r' ds B w w12 rb EL [] (.slice none 0 0) w12) := by
               have h1 := HBS9.out.st.edges
               have h2 := HBS9.out.st.owns
               rw [HEL.out] at h1 h2
               exact {
                row := HRR.out.1
                ve := by rw [HLK.out]
                vo := by rw [HLK.out]
                vl := by rw [HLK.out]
                edges := rkeep h1 (fun k hk => HRR.out.2.block k (rblock h1 k hk).2 (fun e => (HTWO.out.ve k hk).1 (Option.some.inj e)))
                owns := rkeep h2 (fun k hk => HRR.out.2.block k (rblock h2 k hk).2 (fun e => (HTWO.out.vo k hk).1 (Option.some.inj e)))
                bl := HBS9.out.bl.trans (grown_below HRR.out.2 H.out.rlow HBS9.out.st.bw)
                kept := fun _ _ _ => rfl
                sz := Nat.le_refl _
                own := World.ownsRow_nil _ _ _ _ }
              have HST12 : Hid ((∃ (jj : Nat) (y : Line), r' = { r with at' := jj } ∧ RSt { r with at' := jj } ds c B w12 rb L S (m + 1) ∧ L[jj]? = some y ∧ ownS S.top (said (L.drop (jj + 1))) [] = ownS S.top (said (L.drop (r.at' + 1))) [] ∧ BOk [] ∧ ([] : Binds).length ≤ jj ∧ edgeBad S A1 A2 U = none) ∨ ∃ bk : Bad × Nat, r'.e = ((badK bk.1 : Nat) : Int) + 1 ∧ r'.line = (bk.2 : Nat) ∧ buildS S x.1 t (said (L.drop (r.at' + 1))) = .error bk) := by
               rcases HFA.out with ⟨e, hq⟩ | ⟨e, hq⟩
               ·left
                subst e
                refine ⟨_, x, rfl, HBS9.out.st.moved HRR.out.2 HRR.out.1, HX.out, rfl, fun y hy => (by cases hy), Nat.zero_le _, ?_⟩
                rw [HED.out, if_neg]
                intro hq2
                obtain ⟨q, hb⟩ := (twice_bad _ _).1 hq2
                obtain ⟨o, ho, _⟩ := id hb
                have := (List.getElem?_eq_some_iff.1 ho).1
                exact hq q (by rw [hie, HNO.out]; exact this) hb
               ·right
                refine ⟨(.twi, x.1), by rw [e]; exact RV.failed_e H.out.e0, by rw [e]; exact RV.failed_line H.out.e0, ?_⟩
                rw [HRS.out]
                refine restS_worse ?_
                rw [HED.out, if_pos ((twice_bad _ _).2 hq)]
              clear hvo h123 hk12 hk3 hie HRR HFA HLK HEW HE9 HO9 HTM HTR HTI HBS9 HED ce
              go_loopw [17] (fun z wr => ∃ (r' : RV) (own : Binds) (aoB : Option Addr) (nB cB : Nat), z = .slice aoB nB cB ∧ OwnSt r r' ds B w w12 rb EL own (.slice aoB nB cB) wr ∧ ((∃ (jj : Nat) (y : Line), r' = { r with at' := jj } ∧ RSt { r with at' := jj } ds c B wr rb L S (m + 1) ∧ L[jj]? = some y ∧ ownS S.top (said (L.drop (jj + 1))) own = ownS S.top (said (L.drop (r.at' + 1))) [] ∧ BOk own ∧ own.length ≤ jj ∧ edgeBad S A1 A2 U = none) ∨ ∃ bk : Bad × Nat, r'.e = ((badK bk.1 : Nat) : Int) + 1 ∧ r'.line = (bk.2 : Nat) ∧ buildS S x.1 t (said (L.drop (r.at' + 1))) = .error bk)) (fun _ wr => L.length - atOf wr rb)
              case atStart => exact ⟨r', [], none, 0, 0, rfl, HOW12.out, HST12.out⟩
              case round =>
               clear HOW12 HST12
               obtain ⟨r20, own, aoB, nB, cB, rfl, hos, hst⟩ := hrel
               have HOS20 : Hid (OwnSt r r20 ds B w w12 rb EL own (.slice aoB nB cB) wr) := hos
               cases hst
               case' inl hst =>
                obtain ⟨jj, y, rfl, hst, hjy, hown, hbok, hlen, hnb⟩ := hst
                have HST : Hid (RSt { r with at' := jj } ds c B wr rb L S (m + 1)) := hst
                have HJY : Hid (L[jj]? = some y) := hjy
                have HOWN : Hid (ownS S.top (said (L.drop (jj + 1))) own = ownS S.top (said (L.drop (r.at' + 1))) [] ∧ BOk own ∧ own.length ≤ jj ∧ edgeBad S A1 A2 U = none) := ⟨hown, hbok, hlen, hnb⟩
                have c7 : wr.cell? ⟨rb, 7, none⟩ = some (.int .i64 0) := by rw [cell_of_row _ _ _ _ _ _ hst.row]; exact congrArg (fun z => some (Value.int .i64 z)) H.out.e0
                clear hos hst hjy hown hbok hlen hnb
                have HNX : Hid (Calls Tryz.prog 326 #[.pointer (some ⟨rb, 0, none⟩)] wr (nextEnd { r with at' := jj } rb L wr)) := rnext_any (HST.out.at HJY.out) (by have := HST.out.len.1; omega) (fun z hz => by have := HST.out.len.2 z hz; omega)
                have HMJ : Hid (atOf wr rb = jj) := HST.out.row.atOf
                go_wp2_with fail
                refine HNX.out.mono ?_
                rintro e w13 ⟨j2, hr13, hj1, hj2, hsd, hne, he, hg13⟩
                obtain ⟨bb, hbb⟩ : ∃ bb, bb = (indented (said (L.drop (jj + 1)))).isSome := ⟨_, rfl⟩
                have he2 : e = .returned (.bool bb) := by rw [he, hbb]
                subst he2
                have HST13 : Hid (RSt { r with at' := j2 } ds c B w13 rb L S (m + 1)) := HST.out.moved (j := j2) hg13 hr13
                have HOS13 : Hid (OwnSt r { r with at' := j2 } ds B w w12 rb EL own (.slice aoB nB cB) w13) := HOS20.out.again HTWO.out hg13 hr13 ⟨rfl, rfl, rfl⟩
                have HJ : Hid (jj + 1 ≤ j2 ∧ j2 ≤ L.length ∧ said (L.drop j2) = said (L.drop (jj + 1)) ∧ ∀ x, L[j2]? = some x → emptyB x.2 = false) := ⟨hj1, hj2, hsd, hne⟩
                have HBBQ : Hid (bb = (indented (said (L.drop (jj + 1)))).isSome) := hbb
                have HL5 : Hid (jj < L.length ∧ L.length ≤ 5000) := ⟨(List.getElem?_eq_some_iff.1 HJY.out).1, HST.out.len.1⟩
                clear he hr13 hg13 hsd hne hbb HNX HOS20 HST c7 hj1 hj2
                cases bb
                case' false =>
                 have HEND : Hid (∀ wF, EdgeTail { r with at' := j2 } ds B rb EL ⟨.slice aoO nO cO, .slice aoI XI cpI, .slice aoM nM cM, .slice aoR nR cR, HD, .slice aoB nB cB⟩ w13 wF → rstmtEnd B rb m L w (buildS S x.1 t (said (L.drop (r.at' + 1)))) (.returned (.tuple #[])) wF) := fun wF hF => by
                  have h1 := HAA.out
                  have hT1 := HT1.out.1
                  have hTS := HTS.out
                  have ho : (edgeOf A1 A2 HD own).outs = OS := (outs_flat h1.2.2.2.1 h1.1 HGD.out.2.2.1).trans HOS.out
                  have hi : (edgeOf A1 A2 HD own).ins = i0' := by
                   obtain ⟨y, hy0, hfs, _⟩ := h1.2.2.2.2.2.1.firstS
                   show firstS A2 = _
                   rw [hfs]
                   have : (A2.map (·.2))[0]? = some y.2 := by rw [List.getElem?_map, hy0]; rfl
                   rw [h1.2.1, HI0.out] at this
                   exact (Option.some.inj this).symm
                  refine edge_tail_ok (c := c) (w8 := w12) (d := ⟨.slice aoO nO cO, .slice aoI XI cpI, .slice aoM nM cM, .slice aoR nR cR, HD, .slice aoB nB cB⟩) (e := edgeOf A1 A2 HD own) (rest := said (L.drop j2)) ⟨HST13.out, HOS13.out.bl, fun k h1 h2 _ => HOS13.out.kept k h1 h2, HOS13.out.sz⟩ H.out.row.lt H.out.bw HW.out HTWO.out.w12 HOS13.out.own ⟨by rw [ho]; exact HTK.out.1, by rw [hi]; exact HTK.out.2.1, HTK.out.2.2.1, HTK.out.2.2.2, rfl⟩ ⟨HOWN.out.2.1, ?_, ?_, ?_, ?_, ?_, ?_, ?_⟩ HGD.out.2.1 ?_ rfl (by rw [HEL.out]; exact hF)
                  ·show own.length ≤ 5000
                   have := HOWN.out.2.2.1
                   have := HL5.out
                   omega
                  ·show (firstS A1 ++ behindS A1 tBar).length ≤ 8000
                   have q1 := firstS_len h1.2.2.2.1
                   have q2 := behindS_len A1 tBar
                   have q3 := h1.2.2.2.2.1
                   rw [List.length_append]; omega
                  ·have q1 := firstS_len h1.2.2.2.2.2.1
                   have q3 := h1.2.2.2.2.2.2.1
                   show (firstS A2).length ≤ 4000
                   omega
                  ·intro z hz
                   rcases List.mem_append.1 (show z ∈ firstS A1 ++ behindS A1 tBar from hz) with hz | hz
                   ·exact firstS_small h1.2.2.2.1 z hz
                   ·exact behindS_small h1.2.2.2.1 tBar z hz
                  ·exact firstS_small h1.2.2.2.2.2.1
                  ·have q2 := behindS_len A2 tBar
                   have q3 := h1.2.2.2.2.2.2.1
                   show (behindS A2 tBar).length ≤ 4000
                   omega
                  ·have q2 := behindS_len A2 tBars
                   have q3 := h1.2.2.2.2.2.2.1
                   show (behindS A2 tBars).length ≤ 4000
                   omega
                  ·rw [HRS.out, restS_good HOWN.out.2.2.2, ← HOWN.out.1, ownS_stop HBBQ.out.symm, ← HJ.out.2.2.1, ← HNU.out.2]
                 clear HBBQ
                 go_wp2_with fail
                 obtain ⟨w20, hw20⟩ : ∃ w20, w20 = w13 := ⟨_, rfl⟩
                 subst hw20
                 obtain ⟨r20, hr20⟩ : ∃ r20, r20 = ({ r with at' := j2 } : RV) := ⟨_, rfl⟩
                 rw [← hr20] at HEND HOS13
                 have HOS20 : Hid (OwnSt r r20 ds B w w12 rb EL own (.slice aoB nB cB) w20) := HOS13
                 clear hr20 HOS13 HST13 HOWN HJ HL5 HMJ HJY
                case' true =>
                 obtain ⟨yr, hin⟩ : ∃ yr, indented (said (L.drop (jj + 1))) = some yr := Option.isSome_iff_exists.1 HBBQ.out.symm
                 obtain ⟨hys, hyi⟩ := indented_is hin
                 obtain ⟨hlj, hlr⟩ := at_said (L := L) (j := j2) (x := yr.1) (rest := yr.2) (HJ.out.2.2.1.trans hys) HJ.out.2.2.2
                 have HLJ : Hid (L[j2]? = some yr.1 ∧ said (L.drop (j2 + 1)) = yr.2 ∧ begins yr.1.2 32 = true ∧ said (L.drop (jj + 1)) = yr.1 :: yr.2) := ⟨hlj, hlr, hyi, hys⟩
                 obtain ⟨aol, capl, hvl, hcl, hll⟩ := HST13.out.const.now.1
                 obtain ⟨gl, ol, rfl, hl2⟩ : ∃ g o, aol = some ⟨g, o, none⟩ ∧ ∀ (k : Nat) x, L[k]? = some x → w13.cell? ⟨g, o + k * 2, none⟩ = some (.string x.2) ∧ w13.cell? ⟨g, o + k * 2 + 1, none⟩ = some (.int .i64 (x.1 : Nat)) := by
                  rcases hll with e | e
                  ·rw [e] at hlj; simp at hlj
                  ·exact e
                 have d1 := (hl2 j2 yr.1 hlj).1
                 have c20 : w13.cell? ⟨rb, 0, none⟩ = some (.slice (some ⟨gl, ol, none⟩) L.length capl) := by rw [cell_of_row _ _ _ _ _ _ HST13.out.row]; exact congrArg some hvl
                 have c21 : w13.cell? ⟨rb, 1, none⟩ = some (.int .i64 (j2 : Nat)) := by rw [cell_of_row _ _ _ _ _ _ HST13.out.row]; rfl
                 have hjl : j2 < L.length := (List.getElem?_eq_some_iff.1 hlj).1
                 have j20 : (0 : Int) ≤ (j2 : Int) := by omega
                 have jl : (j2 : Int) < (L.length : Int) := by omega
                 have ll5 : (L.length : Int) ≤ 5000 := by have := HL5.out; omega
                 have hy4 : yr.1.2.size ≤ 4000 := HST13.out.len.2 yr.1 (List.mem_of_getElem? hlj)
                 have HLF3 : Hid (∀ q, Calls Tryz.prog 280 #[.string yr.1.2] (w13.drewN q) fun e w' => e = .returned (.string (leftB yr.1.2)) ∧ w' = w13.drewN q) := fun q => rleft_any yr.1.2 (by omega) (w13.drewN q)
                 have HBSL : Hid (bindS yr.1.2 = bindR (leftB yr.1.2)) := bindS_left yr.1.2
                 have hlz := leftB_le yr.1.2
                 clear hvl hcl hll hl2 hin hyi hys hlj hlr HBBQ
                 generalize leftB yr.1.2 = YL at *
                 generalize hYT : yr.1.2 = YT at *
                 have HYT : Hid (yr.1.2 = YT) := hYT
                 clear hYT
                 go_wp2_with fail
                 go_quiet ((go_at_call 280; exact Calls.quiet_of_same (HLF3.out _)))
                 have HST14 : Hid (RSt { r with at' := j2 } ds c B (w13.drewN nq) rb L S (m + 1)) := HST13.out.below (below_drewN (Below.refl _ _) nq)
                 have HOS14 : Hid (OwnSt r { r with at' := j2 } ds B w w12 rb EL own (.slice aoB nB cB) (w13.drewN nq)) := HOS13.out.below HTWO.out (below_drewN (Below.refl _ _) nq)
                 clear HST13 HOS13 c20 c21 d1 HLF3
                 generalize w13.drewN nq = w14 at *
                 have HA14 : Hid (RAt { r with at' := j2 } w14 rb L yr.1) := HST14.out.at HLJ.out.1
                 have HBN := rbound_any YL HA14.out (by omega)
                 rw [← HBSL.out] at HBN
                 have HEE : Hid (∀ y, (envOf own S.top y).size ≤ 1048576) := fun y => by
                  rw [envOf_two]
                  have := envL_size (ls := [own, S.top]) (fun l hl => by
                   rcases List.mem_cons.1 hl with rfl | hl
                   ·exact HOWN.out.2.1
                   ·obtain rfl := List.mem_singleton.1 hl; exact H.out.ok.top) y
                  omega
                 have HOL : Hid (own.length ≤ 5000) := by have := HOWN.out.2.2.1; have := HL5.out; show _ ≤ _; omega
                 have HTL5 : Hid (S.top.length ≤ 5000) := by have := H.out.ok.tops; show _ ≤ _; omega
                 cases hbs : bindS YT with
                 | none =>
                  rw [hbs] at HBN
                  have HBN : Hid (Calls Tryz.prog 287 #[.pointer (some ⟨rb, 0, none⟩), .string YL] w14 fun e w' => e = .returned (.tuple #[.string ⟨#[]⟩, .string ⟨#[]⟩]) ∧ RRow (({ r with at' := j2 } : RV).failed 5 yr.1.1) w' rb ∧ w14.grownBy w' (some rb)) := HBN
                  have HRES : Hid (buildS S x.1 t (said (L.drop (r.at' + 1))) = .error (.syn, yr.1.1)) := by
                   show _ = _
                   rw [HRS.out, restS_good HOWN.out.2.2.2, ← HOWN.out.1, HLJ.out.2.2.2, ownS_none (by rw [HYT.out]; exact HLJ.out.2.2.1) (by rw [HYT.out]; exact hbs)]
                  clear hbs
                  go_wp2_with fail
                  refine HBN.out.mono ?_
                  rintro e w15 ⟨rfl, hr15, hg15⟩
                  obtain ⟨r15, hr15e⟩ : ∃ r15, r15 = ({ r with at' := j2 } : RV).failed 5 yr.1.1 := ⟨_, rfl⟩
                  rw [← hr15e] at hr15
                  have HOS15 : Hid (OwnSt r r15 ds B w w12 rb EL own (.slice aoB nB cB) w15) := HOS14.out.again HTWO.out hg15 hr15 (by rw [hr15e]; exact RV.failed_rows _ _ _)
                  have HA15 : Hid (RAt r15 w15 rb L yr.1) := HA14.out.grown hg15 hr15 (by rw [hr15e]; exact ⟨(RV.failed_vl _ _ _).1, (RV.failed_vl _ _ _).2.1⟩)
                  have HF15 : Hid (r15.e = 5 ∧ r15.line = (yr.1.1 : Nat) ∧ r15.at' = j2) := by rw [hr15e]; exact ⟨RV.failed_e H.out.e0, RV.failed_line H.out.e0, (RV.failed_vl _ _ _).2.1⟩
                  have HBT : BindsAt w15 r15.vt S.top := by
                   rw [show r15.vt = r.vt by rw [hr15e]; exact (RV.failed_vl _ _ _).2.2]
                   have h := HST14.out.top
                   exact binds_of_row (base := B) (rkeep h (fun k hk => hg15.block k (rblock h k hk).2 (fun e => by have h1 := HST14.out.c2 k hk; have h2 := HST14.out.c1; rw [Option.some.inj e] at h1; omega)))
                  have HVA : Hid (Calls Tryz.prog 288 #[.pointer (some ⟨rb, 0, none⟩), .string ⟨#[]⟩, .slice aoB nB cB] w15 fun e w' => e = .returned (.string ⟨#[]⟩) ∧ w' = w15) := rvalue_any ⟨#[]⟩ own S.top (.slice aoB nB cB) HA15.out (binds_of_row HOS15.out.own) HBT (by have := HOL.out; omega) (by have := HTL5.out; omega) (by decide) HEE.out
                  clear hr15 hg15 hr15e HBT HBN
                  go_wp2_with fail
                  refine HVA.out.mono ?_
                  rintro e w16 ⟨rfl, hw⟩
                  rw [hw]
                  clear hw w16
                  have HSE : Hid (Calls Tryz.prog 213 #[.slice aoB nB cB, .string ⟨#[]⟩, .string ⟨#[]⟩] w15 fun e w' => ∃ v', e = .returned v' ∧ w'.ownsRow w12.heap.size 338 2 v' (setB own ⟨#[]⟩ ⟨#[]⟩).length (bcellsB (setB own ⟨#[]⟩ ⟨#[]⟩)) ∧ w15.grownBy w' (Value.slice aoB nB cB).ownBlock ∧ (∀ k, v'.ownBlock = some k → (Value.slice aoB nB cB).ownBlock = some k ∨ w15.heap.size ≤ k)) := rset_any own (.slice aoB nB cB) ⟨#[]⟩ ⟨#[]⟩ w12.heap.size w15 HOS15.out.own (by have := HOL.out; omega) HOS15.out.sz
                  go_wp2_with fail
                  refine HSE.out.mono ?_
                  rintro e w16 ⟨v', rfl, hv16, hg16, hat16⟩
                  obtain ⟨aoB', cB', rfl, _, _⟩ := row_form hv16
                  have HOS16 : Hid (OwnSt r r15 ds B w w12 rb EL (setB own ⟨#[]⟩ ⟨#[]⟩) (.slice aoB' (setB own ⟨#[]⟩ ⟨#[]⟩).length cB') w16) := HOS15.out.set HTWO.out hg16 hv16
                  have HM16 : Hid (atOf w16 rb = j2) := HOS16.out.row.atOf.trans HF15.out.2.2
                  clear hv16 hg16 hat16
                  generalize (setB own ⟨#[]⟩ ⟨#[]⟩).length = nB' at *
                  go_wp2_with fail
                  exact ⟨⟨r15, setB own ⟨#[]⟩ ⟨#[]⟩, aoB', nB', cB', rfl, HOS16.out, Or.inr ⟨(.syn, yr.1.1), HF15.out.1, HF15.out.2.1, HRES.out⟩⟩, by rw [HM16.out, HMJ.out]; have := HJ.out.1; omega⟩
                 | some nv =>
                  obtain ⟨nk, nvv⟩ := nv
                  rw [hbs] at HBN
                  have HBN : Hid (Calls Tryz.prog 287 #[.pointer (some ⟨rb, 0, none⟩), .string YL] w14 fun e w' => e = .returned (.tuple #[.string nk, .string nvv]) ∧ w' = w14) := HBN
                  have hnz := bindS_size hbs
                  have hv4 : nvv.size ≤ 4000 := by have := hnz.2.1; simp only at this; omega
                  have HNP : Hid (0 < nk.size) := hnz.2.2
                  have HVA := rvalue_any nvv own S.top (.slice aoB nB cB) HA14.out (binds_of_row HOS14.out.own) HST14.out.binds.1 (by have := HOL.out; omega) (by have := HTL5.out; omega) (by omega) HEE.out
                  have HBQ : Hid (bindS yr.1.2 = some (nk, nvv)) := by show _ = _; rw [HYT.out]; exact hbs
                  clear hbs hnz
                  cases hex : expandS (envOf own S.top) nvv with
                  | none =>
                   rw [hex] at HVA
                   have HVA : Hid (Calls Tryz.prog 288 #[.pointer (some ⟨rb, 0, none⟩), .string nvv, .slice aoB nB cB] w14 fun e w' => e = .returned (.string ⟨#[]⟩) ∧ RRow (({ r with at' := j2 } : RV).failed 5 yr.1.1) w' rb ∧ w14.grownBy w' (some rb)) := HVA
                   have HRES : Hid (buildS S x.1 t (said (L.drop (r.at' + 1))) = .error (.syn, yr.1.1)) := by
                    show _ = _
                    rw [HRS.out, restS_good HOWN.out.2.2.2, ← HOWN.out.1, HLJ.out.2.2.2, ownS_bad (by rw [HYT.out]; exact HLJ.out.2.2.1) HBQ.out hex]
                   clear hex
                   go_wp2_with fail
                   refine HBN.out.mono ?_
                   rintro e w15 ⟨rfl, hw⟩
                   rw [hw]
                   clear hw w15
                   go_wp2_with fail
                   refine HVA.out.mono ?_
                   rintro e w15 ⟨rfl, hr15, hg15⟩
                   obtain ⟨r15, hr15e⟩ : ∃ r15, r15 = ({ r with at' := j2 } : RV).failed 5 yr.1.1 := ⟨_, rfl⟩
                   rw [← hr15e] at hr15
                   have HOS15 : Hid (OwnSt r r15 ds B w w12 rb EL own (.slice aoB nB cB) w15) := HOS14.out.again HTWO.out hg15 hr15 (by rw [hr15e]; exact RV.failed_rows _ _ _)
                   have HF15 : Hid (r15.e = 5 ∧ r15.line = (yr.1.1 : Nat) ∧ r15.at' = j2) := by rw [hr15e]; exact ⟨RV.failed_e H.out.e0, RV.failed_line H.out.e0, (RV.failed_vl _ _ _).2.1⟩
                   clear hr15 hg15 hr15e HBN HVA
                   have HSE : Hid (Calls Tryz.prog 213 #[.slice aoB nB cB, .string nk, .string ⟨#[]⟩] w15 fun e w' => ∃ v', e = .returned v' ∧ w'.ownsRow w12.heap.size 338 2 v' (setB own nk ⟨#[]⟩).length (bcellsB (setB own nk ⟨#[]⟩)) ∧ w15.grownBy w' (Value.slice aoB nB cB).ownBlock ∧ (∀ k, v'.ownBlock = some k → (Value.slice aoB nB cB).ownBlock = some k ∨ w15.heap.size ≤ k)) := rset_any own (.slice aoB nB cB) nk ⟨#[]⟩ w12.heap.size w15 HOS15.out.own (by have := HOL.out; omega) HOS15.out.sz
                   go_wp2_with fail
                   refine HSE.out.mono ?_
                   rintro e w16 ⟨v', rfl, hv16, hg16, hat16⟩
                   obtain ⟨aoB', cB', rfl, _, _⟩ := row_form hv16
                   have HOS16 : Hid (OwnSt r r15 ds B w w12 rb EL (setB own nk ⟨#[]⟩) (.slice aoB' (setB own nk ⟨#[]⟩).length cB') w16) := HOS15.out.set HTWO.out hg16 hv16
                   have HM16 : Hid (atOf w16 rb = j2) := HOS16.out.row.atOf.trans HF15.out.2.2
                   clear hv16 hg16 hat16
                   generalize (setB own nk ⟨#[]⟩).length = nB' at *
                   go_wp2_with fail
                   exact ⟨⟨r15, setB own nk ⟨#[]⟩, aoB', nB', cB', rfl, HOS16.out, Or.inr ⟨(.syn, yr.1.1), HF15.out.1, HF15.out.2.1, HRES.out⟩⟩, by rw [HM16.out, HMJ.out]; have := HJ.out.1; omega⟩
                  | some yv =>
                   rw [hex] at HVA
                   have HVA : Hid (Calls Tryz.prog 288 #[.pointer (some ⟨rb, 0, none⟩), .string nvv, .slice aoB nB cB] w14 fun e w' => e = .returned (.string yv) ∧ w' = w14) := HVA
                   have HMR : Hid (ownS S.top (said (L.drop (j2 + 1))) (setB own nk yv) = ownS S.top (said (L.drop (r.at' + 1))) []) := by
                    show _ = _
                    rw [← HOWN.out.1, HLJ.out.2.2.2, ownS_more (by rw [HYT.out]; exact HLJ.out.2.2.1) HBQ.out hex, HLJ.out.2.1]
                   have hyz := expandS_size hex
                   clear hex
                   go_wp2_with fail
                   refine HBN.out.mono ?_
                   rintro e w15 ⟨rfl, hw⟩
                   rw [hw]
                   clear hw w15
                   go_wp2_with fail
                   refine HVA.out.mono ?_
                   rintro e w15 ⟨rfl, hw⟩
                   rw [hw]
                   clear hw w15
                   have HSE : Hid (Calls Tryz.prog 213 #[.slice aoB nB cB, .string nk, .string yv] w14 fun e w' => ∃ v', e = .returned v' ∧ w'.ownsRow w12.heap.size 338 2 v' (setB own nk yv).length (bcellsB (setB own nk yv)) ∧ w14.grownBy w' (Value.slice aoB nB cB).ownBlock ∧ (∀ k, v'.ownBlock = some k → (Value.slice aoB nB cB).ownBlock = some k ∨ w14.heap.size ≤ k)) := rset_any own (.slice aoB nB cB) nk yv w12.heap.size w14 HOS14.out.own (by have := HOL.out; omega) HOS14.out.sz
                   go_wp2_with fail
                   refine HSE.out.mono ?_
                   rintro e w16 ⟨v', rfl, hv16, hg16, hat16⟩
                   obtain ⟨aoB', cB', rfl, _, _⟩ := row_form hv16
                   have HOS16 : Hid (OwnSt r { r with at' := j2 } ds B w w12 rb EL (setB own nk yv) (.slice aoB' (setB own nk yv).length cB') w16) := HOS14.out.set HTWO.out hg16 hv16
                   have HST16 : Hid (RSt { r with at' := j2 } ds c B w16 rb L S (m + 1)) := HST14.out.wrote hg16 (fun k hk => Or.inl (HW.out k (Nat.le_trans HTWO.out.w12 (rblock HOS14.out.own k hk).1)))
                   have HM16 : Hid (atOf w16 rb = j2) := HST16.out.row.atOf
                   have HO16L : Hid ((setB own nk yv).length ≤ j2) := by have h1 := setB_length nk yv own; have h2 := HOWN.out.2.2.1; have h3 := HJ.out.1; show _ ≤ _; omega
                   have HO16 : Hid (BOk (setB own nk yv) ∧ True) := ⟨setB_ok HOWN.out.2.1 (by omega) HNP.out, trivial⟩
                   clear hv16 hg16 hat16
                   obtain ⟨nB', hnB'⟩ : ∃ n, n = (setB own nk yv).length := ⟨_, rfl⟩
                   rw [← hnB'] at HOS16
                   rw [← hnB']
                   clear hnB'
                   go_wp2_with fail
                   exact ⟨⟨{ r with at' := j2 }, setB own nk yv, aoB', nB', cB', rfl, HOS16.out, Or.inl ⟨j2, yr.1, rfl, HST16.out, HLJ.out.1, HMR.out, HO16.out.1, HO16L.out, HOWN.out.2.2.2⟩⟩, by rw [HM16.out, HMJ.out]; have := HJ.out.1; omega⟩
               case' inr hst =>
                obtain ⟨bk, q1, q2, q3⟩ := hst
                have c7 : wr.cell? ⟨rb, 7, none⟩ = some (.int .i64 r20.e) := by rw [cell_of_row _ _ _ _ _ _ hos.row]; rfl
                have e1 : (r20.e == 0) = false := by rw [q1]; simp; omega
                have HEND : Hid (∀ wF, EdgeTail r20 ds B rb EL ⟨.slice aoO nO cO, .slice aoI XI cpI, .slice aoM nM cM, .slice aoR nR cR, HD, .slice aoB nB cB⟩ wr wF → rstmtEnd B rb m L w (buildS S x.1 t (said (L.drop (r.at' + 1)))) (.returned (.tuple #[])) wF) := fun wF hF => edge_tail_bad hos.bl q3 ⟨q1, q2⟩ (by rw [hos.vl]; exact H.out.sl) hF
                clear hos q1 q2 q3
                generalize r20.e = E20 at *
                go_wp2_with fail
                clear c7 e1
                obtain ⟨w20, hw20⟩ : ∃ w20, w20 = wr := ⟨_, rfl⟩
                subst hw20
               all_goals
                have c5 : w20.cell? ⟨rb, 5, none⟩ = some (.slice aoe EL cape) := by rw [cell_of_row _ _ _ _ _ _ HOS20.out.row]; exact congrArg some (HOS20.out.ve.trans HVE.out)
                have HE20 : Hid (ERow eb (.slice aoO nO cO) (.slice aoI XI cpI) (.slice aoM nM cM) (.slice aoR nR cR) HD w20) := (HOS20.out.kept eb HEB.out.1 HE12.out.lt).trans HE12.out
                have z0 : w20.cell? ⟨eb, 0, none⟩ = some (.slice aoO nO cO) := HE20.out.cell 0
                have z1 : w20.cell? ⟨eb, 1, none⟩ = some (.slice aoI XI cpI) := HE20.out.cell 1
                have z2 : w20.cell? ⟨eb, 2, none⟩ = some (.slice aoM nM cM) := HE20.out.cell 2
                have z3 : w20.cell? ⟨eb, 3, none⟩ = some (.slice aoR nR cR) := HE20.out.cell 3
                have z4 : w20.cell? ⟨eb, 4, none⟩ = some (.string HD) := HE20.out.cell 4
                have z5 : w20.cell? ⟨eb, 5, none⟩ = some (.string ⟨#[]⟩) := HE20.out.cell 5
                have c5a : (w20.alloc (.cells #[.slice aoO nO cO, .slice aoI XI cpI, .slice aoM nM cM, .slice aoR nR cR, .string HD, .string ⟨#[]⟩] 233)).cell? ⟨rb, 5, none⟩ = some (.slice aoe EL cape) := (World.cell?_of_block (w := w20) (a := ⟨rb, 5, none⟩) (heapA_old _ _ rb HOS20.out.row.lt)).trans c5
                refine wp_region_any (by kernel_rfl) ?_
                change wpAny _ _ _ _ _ _ _ (World.drew _)
                refine wpAny_take (i := 0) (v := .pointer (some ⟨rb, 0, none⟩)) rfl (by kernel_rfl) (by kernel_rfl) (by kernel_rfl) (fun _ _ _ h => h) (Or.inl ⟨by rfl, ?_⟩) ?_
                ·intro w
                 go_simp
                refine wpAny_take (i := 1) (v := .pointer (some ⟨rb, 0, none⟩)) rfl (by kernel_rfl) (by kernel_rfl) (by kernel_rfl) (fun _ _ _ h => h) (Or.inl ⟨by rfl, ?_⟩) ?_
                ·intro w
                 go_simp
                refine wpAny_take (i := 2) (v := .pointer (some ⟨rb, 0, none⟩)) rfl (by kernel_rfl) (by kernel_rfl) (by kernel_rfl) (fun _ _ _ h => h) (Or.inl ⟨by rfl, ?_⟩) ?_
                ·intro w
                 go_simp
                refine wpAny_take (i := 3) (v := .pointer (some ⟨rb, 5, none⟩)) rfl (by kernel_rfl) (by kernel_rfl) (by kernel_rfl) (fun _ _ _ h => h) (Or.inl ⟨by rfl, ?_⟩) ?_
                ·intro w
                 go_simp
                refine wpAny_take (i := 4) (v := .pointer (some ⟨rb, 5, none⟩)) rfl (by kernel_rfl) (by kernel_rfl) (by kernel_rfl) (fun _ _ _ h => h) (Or.inl ⟨by rfl, ?_⟩) ?_
                ·intro w
                 go_simp
                refine wpAny_ready (rs := [5, 6]) (by kernel_rfl) (by simp) ?_
                refine AllReady.cons rfl (fun K hK => ?_) (AllReady.cons rfl (fun K hK => ?_) AllReady.nil)
                case' _ =>
                 go_simp
                 refine hK _ _ ?_
                 clear hK K
                 refine wpAny_ready (rs := [6]) (by kernel_rfl) (by simp) ?_
                 refine AllReady.cons rfl (fun K hK => ?_) AllReady.nil
                 go_simp
                 refine hK _ _ ?_
                 clear hK K
                 refine wpAny_ready (rs := [7]) (by kernel_rfl) (by simp) ?_
                 refine AllReady.cons rfl (fun K hK => ?_) AllReady.nil
                 go_simp
                rotate_left
                case' _ =>
                 go_simp
                 refine hK _ _ ?_
                 clear hK K
                 refine wpAny_ready (rs := [5, 7]) (by kernel_rfl) (by simp) ?_
                 refine AllReady.cons rfl (fun K hK => ?_) (AllReady.cons rfl (fun K hK => ?_) AllReady.nil)
                 case' _ =>
                  go_simp
                  refine hK _ _ ?_
                  clear hK K
                  refine wpAny_ready (rs := [7]) (by kernel_rfl) (by simp) ?_
                  refine AllReady.cons rfl (fun K hK => ?_) AllReady.nil
                  go_simp
                 rotate_left
                 case' _ =>
                  go_simp
                  refine hK _ _ ?_
                  clear hK K
                  refine wpAny_ready (rs := [5]) (by kernel_rfl) (by simp) ?_
                  refine AllReady.cons rfl (fun K hK => ?_) AllReady.nil
                  go_simp
                all_goals
                 refine hK _ _ ?_
                 clear hK K
                 obtain ⟨W8, hW8⟩ : ∃ W8, W8 = (w20.alloc (.cells #[.slice aoO nO cO, .slice aoI XI cpI, .slice aoM nM cM, .slice aoR nR cR, .string HD, .string ⟨#[]⟩] 233)).drew := ⟨_, rfl⟩
                 have HL8 : Hid (Below w20.heap.size w20 W8) := by rw [hW8]; exact ((Below.refl _ _).alloc (Nat.le_refl _) _).drew
                 have HN8 : Hid (∀ j u, ([.slice aoO nO cO, .slice aoI XI cpI, .slice aoM nM cM, .slice aoR nR cR, .string HD, .string ⟨#[]⟩] : List Value)[j]? = some u → W8.cell? ((⟨w20.heap.size, 0, none⟩ : Addr).add j) = some u) := by rw [hW8]; exact newCells w20 _ _
                 rw [← hW8]
                 clear hW8 c5a
                 have HD8 : Hid (W8.ownsRow B 233 6 (.slice aoe EL cape) EL (recells ds)) := by
                  have h := HOS20.out.edges
                  rw [HVE.out] at h
                  exact rkeep h (fun k hk => HL8.out.block k (rblock h k hk).2)
                 have hB8 : B ≤ W8.heap.size := Nat.le_trans H.out.bw (Nat.le_trans HOS20.out.bl.size HL8.out.size)
                 refine wpAny_ready (rs := [8]) (by kernel_rfl) (by simp) ?_
                 refine AllReady.cons rfl (fun K hK => ?_) AllReady.nil
                 refine step_append_lies _ rfl (.tmp 256) (.tmp 258) 230 rfl B 233 te (.agg #[.slice none 0 0, .slice none 0 0, .slice none 0 0, .slice none 0 0, .string ⟨#[]⟩, .string ⟨#[]⟩]) 6 128 Tryz.underlying230 HTE.out.1 HTE.out.2.2.2 HTE.out.2.1 HTE.out.2.2.1 rfl (by decide) _ EL (recells ds) rfl HD8.out ⟨w20.heap.size, 0, none⟩ 1 1 [.slice aoO nO cO, .slice aoI XI cpI, .slice aoM nM cM, .slice aoR nR cR, .string HD, .string ⟨#[]⟩] rfl rfl HN8.out (by intro u hu; simp only [List.mem_cons, List.not_mem_nil, or_false] at hu; rcases hu with rfl | rfl | rfl | rfl | rfl | rfl <;> rfl) (by decide) (by unfold maxLen; omega) (by omega) hB8 _ rfl ?_
                 intro g6 cap6 w6' hv6 hg6 hat6 hlt6
                 have hrow6 : RRow r20 w6' rb := (hg6.block rb (Nat.lt_of_lt_of_le HOS20.out.row.lt HL8.out.size) (fun e => (HTWO.out.ve rb (by rw [HVE.out]; exact e.symm)).1 rfl)).trans ((HL8.out.block rb HOS20.out.row.lt).trans HOS20.out.row)
                 have d6 : w6'.cell? ⟨rb, 5, none⟩ = some (.slice aoe EL cape) := by rw [cell_of_row _ _ _ _ _ _ hrow6]; exact congrArg some (HOS20.out.ve.trans HVE.out)
                 have f6 : w6'.frozen? ⟨rb, 5, none⟩ = false := frozen_of_row _ _ _ _ _ hrow6
                 have HV6 : Hid (w6'.ownsRow B 233 6 (.slice (some ⟨g6, 0, none⟩) (EL + 1) cap6) (EL + 1) (recells ds ++ [.slice aoO nO cO, .slice aoI XI cpI, .slice aoM nM cM, .slice aoR nR cR, .string HD, .string ⟨#[]⟩])) := hv6
                 have HG6 : Hid (W8.grownBy w6' r.ve.ownBlock ∧ (r.ve.ownBlock = some g6 ∨ g6 = W8.heap.size)) := by rw [HVE.out]; exact ⟨hg6, hat6⟩
                 have HR6 : Hid (RRow r20 w6' rb) := hrow6
                 clear hv6 hg6 hat6 hlt6 hrow6
                 refine hK _ _ ?_
                 clear hK K
                 refine wpAny_take (i := 9) (v := .pointer (some ⟨rb, 0, none⟩)) rfl (by kernel_rfl) (by kernel_rfl) (by kernel_rfl) (fun _ _ _ h => h) (Or.inl ⟨by rfl, ?_⟩) ?_
                 ·intro w
                  go_simp
                 refine wpAny_take (i := 10) (v := .pointer (some ⟨rb, 5, none⟩)) rfl (by kernel_rfl) (by kernel_rfl) (by kernel_rfl) (fun _ _ _ h => h) (Or.inl ⟨by rfl, ?_⟩) ?_
                 ·intro w
                  go_simp
                 refine wpAny_take (i := 11) (v := .pointer (some ⟨rb, 5, none⟩)) rfl (by kernel_rfl) (by kernel_rfl) (by kernel_rfl) (fun _ _ _ h => h) (Or.inl ⟨by rfl, ?_⟩) ?_
                 ·intro w
                  go_simp
                 refine wpAny_ready (rs := [12]) (by kernel_rfl) (by simp) ?_
                 refine AllReady.cons rfl (fun K hK => ?_) AllReady.nil
                 go_simp
                 refine hK _ _ ?_
                 clear hK K
                 refine wpAny_done (by kernel_rfl) ?_ _
                 obtain ⟨w21, hw21⟩ : ∃ w21, w21 = w6'.setCell ⟨rb, 5, none⟩ (.slice (some ⟨g6, 0, none⟩) (EL + 1) cap6) := ⟨_, rfl⟩
                 have HW21 : Hid (w21 = w6'.setCell ⟨rb, 5, none⟩ (.slice (some ⟨g6, 0, none⟩) (EL + 1) cap6)) := hw21
                 rw [← hw21]
                 have HR21 : Hid (RRow { r20 with ve := .slice (some ⟨g6, 0, none⟩) (EL + 1) cap6 } w21 rb) := by
                  rw [hw21]
                  unfold RRow; rw [heap_setCell_same _ _ _ _ _ _ HR6.out]; rfl
                 clear hw21 d6 f6 c5 z0 z1 z2 z3 z4 z5
                 have c4 : w21.cell? ⟨rb, 4, none⟩ = some (.slice aoo EL capo) := by rw [cell_of_row _ _ _ _ _ _ HR21.out]; exact congrArg some (HOS20.out.vo.trans HVO.out)
                 have HS21 : Hid (w20.heap.size ≤ w21.heap.size) := by
                  have h1 := HL8.out.size
                  have h2 := HG6.out.1.size
                  rw [HW21.out]
                  show _ ≤ (w6'.setCell _ _).heap.size
                  simp; omega
                 have HD9 : Hid ((w21.alloc (.cells #[.slice aoB nB cB] 327)).ownsRow B 327 1 (.slice aoo EL capo) EL (ds.map (·.vb))) := by
                  have h := HOS20.out.owns
                  rw [HVO.out] at h
                  refine rkeep h (fun k hk => ?_)
                  have hkk := (rblock h k hk).2
                  have h1 := HTWO.out.vo k (by rw [HVO.out]; exact hk)
                  rw [heapA_old _ _ k (by have := HS21.out; omega), HW21.out, heap_setCell_other _ _ _ _ (show k ≠ rb from h1.1)]
                  exact (HG6.out.1.block k (Nat.lt_of_lt_of_le hkk HL8.out.size) (fun e => HTWO.out.ne k e.symm (by rw [HVO.out]; exact hk))).trans (HL8.out.block k hkk)
                 have hB9 : B ≤ (w21.alloc (.cells #[.slice aoB nB cB] 327)).heap.size := by
                  have := HS21.out; have := HOS20.out.bl.size; have := H.out.bw
                  simp; omega
                 go_wp2_with (at_builtin; refine wpList_append_lies _ rfl (.tmp 267) (.tmp 269) 328 rfl B 327 tb (.slice none 0 0) 1 24 Tryz.underlying328 HTB.out.1 HTB.out.2.2.2 HTB.out.2.1 HTB.out.2.2.1 rfl (by decide) _ EL (ds.map fun (d : REdgeV) => d.vb) rfl HD9.out ⟨w21.heap.size, 0, none⟩ 1 1 [.slice aoB nB cB] rfl rfl (by exact newCells w21 _ _) (by intro u hu; simp only [List.mem_cons, List.not_mem_nil, or_false] at hu; subst hu; rfl) (by decide) (by unfold maxLen; omega) (by omega) hB9 _ rfl ?_; intro g7 cap7 w7 hv7 hg7 hat7 hlt7; refine Hid.out ?_)
                 have hrow7 : RRow { r20 with ve := .slice (some ⟨g6, 0, none⟩) (EL + 1) cap6 } w7 rb := (hg7.block rb (by simp; have := HR21.out.lt; omega) (fun e => (HTWO.out.vo rb (by rw [HVO.out]; exact e.symm)).1 rfl)).trans ((heapA_old _ _ rb HR21.out.lt).trans HR21.out)
                 have d7 : w7.cell? ⟨rb, 4, none⟩ = some (.slice aoo EL capo) := by rw [cell_of_row _ _ _ _ _ _ hrow7]; exact congrArg some (HOS20.out.vo.trans HVO.out)
                 have f7 : w7.frozen? ⟨rb, 4, none⟩ = false := frozen_of_row _ _ _ _ _ hrow7
                 have HET : EdgeTail r20 ds B rb EL ⟨.slice aoO nO cO, .slice aoI XI cpI, .slice aoM nM cM, .slice aoR nR cR, HD, .slice aoB nB cB⟩ w20 (w7.setCell ⟨rb, 4, none⟩ (.slice (some ⟨g7, 0, none⟩) (EL + 1) cap7)) := by
                  refine edge_tail (r := r) (w := w) (w12 := w12) (own := own) (W8 := W8) (w6 := w6') (W9 := w21.alloc (.cells #[.slice aoB nB cB] 327)) (d := ⟨.slice aoO nO cO, .slice aoI XI cpI, .slice aoM nM cM, .slice aoR nR cR, HD, .slice aoB nB cB⟩) (g6 := g6) (cap6 := cap6) (g7 := g7) (cap7 := cap7) HOS20.out HTWO.out HL8.out HG6.out.1 HV6.out HG6.out.2 ?_ ?_ hv7 ?_
                  ·rw [← HW21.out]; exact (Below.refl _ _).alloc (Nat.le_refl _) _
                  ·rw [HVO.out]; exact hg7
                  ·rw [HVO.out]; exact hat7
                 have HFIN : Hid (rstmtEnd B rb m L w (buildS S x.1 t (said (L.drop (r.at' + 1)))) (.returned (.tuple #[])) (w7.setCell ⟨rb, 4, none⟩ (.slice (some ⟨g7, 0, none⟩) (EL + 1) cap7))) := HEND.out _ HET
                 clear HET
                 clear hv7 hg7 hat7 hlt7 hrow7
                 unfold Hid
                 go_wp2_with fail
                 first | go_end0 | refine bodyPost_ret (results_none rfl _ _ _) rfl ?_
                 exact HFIN.out
      ·obtain ⟨b, HBX⟩ : ∃ b, r2.e = ((badK b : Nat) : Int) + 1 ∧ r2.line = (x.1 : Nat) ∧ buildS S x.1 t (said (L.drop (r.at' + 1))) = .error (b, x.1) := by
        rcases HFT.out.2 with ⟨q, _⟩ | q
        ·exact absurd (by rw [q]; exact H.out.e0) hre
        ·exact q
       obtain ⟨w4, hw4⟩ : ∃ w4, w4 = w3 := ⟨_, rfl⟩
       obtain ⟨r4, hr4⟩ : ∃ r4, r4 = r2 := ⟨_, rfl⟩
       have HR4 : Hid (RRow r4 w4 rb ∧ r4.e = ((badK b : Nat) : Int) + 1 ∧ r4.line = (x.1 : Nat) ∧ r4.like r) := by rw [hw4, hr4]; exact ⟨HR3.out, HBX.1, HBX.2.1, HFT.out.1⟩
       have HBB : Hid (buildS S x.1 t (said (L.drop (r.at' + 1))) = .error (b, x.1)) := HBX.2.2
       have HA4 : Hid (RAt r4 w4 rb L x) := by rw [hw4, hr4]; exact HA3.out
       have HB4 : Hid (Below B w w4) := by rw [hw4]; exact HB3.out
       have HE4 : Hid (ERow eb (.slice none 0 0) (.slice none 0 0) (.slice none 0 0) (.slice none 0 0) HD w4) := by rw [hw4]; exact HE3.out
       have HBR4 : Hid (BindsAt w4 (.slice aor RL capr) S.rules) := by rw [hw4]; exact (HRL.out ▸ binds_of_row (base := B) (l := S.rules) (v := .slice aor RL capr) (HRL.out.symm ▸ HRU3.out))
       rw [← hw4]
       clear hw4 hr4 HBX HT hre c10 c53
       have c34 : w4.cell? ⟨rb, 3, none⟩ = some (.slice aor RL capr) := by rw [cell_of_row _ _ _ _ _ _ HR4.out.1]; exact congrArg some (by rw [HR4.out.2.2.2]; exact HVR.out)
       have c74 : w4.cell? ⟨rb, 7, none⟩ = some (.int .i64 r4.e) := by rw [cell_of_row _ _ _ _ _ _ HR4.out.1]; rfl
       have ce4 : w4.cell? ⟨eb, 4, none⟩ = some (.string HD) := HE4.out.cell 4
       have HFD4 : Hid (∀ q, Calls Tryz.prog 214 #[.slice aor RL capr, .string HD] (w4.drewN q) fun e w' => e = .returned (.int .i64 (idxI (bindIdx S.rules HD))) ∧ w' = w4.drewN q) := fun q => rfind_any S.rules _ HD (w4.drewN q) (HBR4.out.keep (fun _ _ => rfl)) (by have := H.out.ok.rulen; omega)
       have HFS : Hid (∀ q, Calls Tryz.prog 283 #[.pointer (some ⟨rb, 0, none⟩), .int .i64 6] (w4.drewN q) fun e w' => e = .returned (.tuple #[]) ∧ RRow (r4.failed 6 x.1) w' rb ∧ (w4.drewN q).grownBy w' (some rb)) := fun q => rfail_any (L := L) 6 (show RRow r4 (w4.drewN q) rb from HR4.out.1) (show RLinesAt (w4.drewN q) r4.vl L from HA4.out.lines) HA4.out.at' HA4.out.ne
       have HEN : Hid (r4.e ≠ 0) := by show _ ≠ _; rw [HR4.out.2.1]; omega
       have e4 : (r4.e == 0) = false := by have := HEN.out; simpa using this
       have e5 : ¬ r4.e = 0 := HEN.out
       have HF4 : Hid (∀ wx, RRow r4 wx rb → Below B w4 wx → rstmtEnd B rb m L w (buildS S x.1 t (said (L.drop (r.at' + 1)))) (.returned (.tuple #[])) wx) := fun wx h1 h2 => by
        refine ⟨rfl, HB4.out.trans h2, ?_⟩
        rw [HBB.out]
        exact ⟨_, h1, HR4.out.2.1, HR4.out.2.2.1, by rw [HR4.out.2.2.2]; exact H.out.sl⟩
       cases hbi : bindIdx S.rules HD with
       | some k =>
        rw [hbi] at HFD4
        have HFD4 : Hid (∀ q, Calls Tryz.prog 214 #[.slice aor RL capr, .string HD] (w4.drewN q) fun e w' => e = .returned (.int .i64 (k : Nat)) ∧ w' = w4.drewN q) := HFD4
        have k0 : (0 : Int) ≤ (k : Int) := by omega
        clear hbi
        generalize r4.e = E4 at *
        go_wp2_with fail
        go_quiet ((go_at_call 214; exact Calls.quiet_of_same (HFD4.out _)))
        have HFIN : Hid (rstmtEnd B rb m L w (buildS S x.1 t (said (L.drop (r.at' + 1)))) (.returned (.tuple #[])) (w4.drewN nq)) := HF4.out _ HR4.out.1 (below_drewN (Below.refl _ _) nq)
        go_wp2_with fail
        first | go_end0 | refine bodyPost_ret (results_none rfl _ _ _) rfl ?_
        exact HFIN.out
       | none =>
        rw [hbi] at HFD4
        have HFD4 : Hid (∀ q, Calls Tryz.prog 214 #[.slice aor RL capr, .string HD] (w4.drewN q) fun e w' => e = .returned (.int .i64 (-1)) ∧ w' = w4.drewN q) := HFD4
        clear hbi
        go_wp2_with fail
        go_quiet ((go_at_call 214; exact Calls.quiet_of_same (HFD4.out _)))
        go_wp2_with fail
        refine (HFS.out _).mono ?_
        rintro e w5 ⟨rfl, hr5, hg5⟩
        rw [RV.failed_same HEN.out] at hr5
        have c75 : w5.cell? ⟨rb, 7, none⟩ = some (.int .i64 r4.e) := by rw [cell_of_row _ _ _ _ _ _ hr5]; rfl
        have HFIN : Hid (rstmtEnd B rb m L w (buildS S x.1 t (said (L.drop (r.at' + 1)))) (.returned (.tuple #[])) w5) := HF4.out _ hr5 ((below_drewN (Below.refl _ _) nq).trans (grown_below hg5 H.out.rlow (Nat.le_trans H.out.bw HB4.out.size)))
        clear hr5 hg5
        generalize r4.e = E4 at *
        go_wp2_with fail
        first | go_end0 | refine bodyPost_ret (results_none rfl _ _ _) rfl ?_
        exact HFIN.out
   ·by_cases g36 : byteOf t j = 36
    ·have HN : Hid (scanAt isColon t (j + 2) = scanB isColon t) := (scanAt_dol isColon t j hlt g36).symm.trans HAG.out
     rw [g36] at hidx
     clear HFL
     go_wp2_with fail
     exact ⟨⟨j + 2, by go_num, by omega, HN.out⟩, by simp [intOf]; omega⟩
    ·have HN : Hid (scanAt isColon t (j + 1) = scanB isColon t) := (scanAt_step isColon t j hlt g36 (by unfold isColon; simp; omega)).symm.trans HAG.out
     generalize byteOf t j = y at *
     have y1 : ((y : Int) == 58) = false := by simp; omega
     have y2 : ((y : Int) == 36) = false := by simp; omega
     clear HFL
     go_wp2_with fail
     exact ⟨⟨j + 1, by go_num, by omega, HN.out⟩, by simp [intOf]; omega⟩
  ·have HF : Hid (buildS S x.1 t (said (L.drop (r.at' + 1))) = .error (.syn, x.1)) := by
    show _ = _
    unfold buildS
    rw [if_pos (by rw [← HAG.out, scanAt_end _ _ _ (by omega)]; omega)]
   have j1 : ¬ (j : Int) < (t.size : Int) := by omega
   have j2 : (t.size : Int) ≤ (j : Int) := by omega
   go_wp2_with fail
   refine HFL.out.mono ?_
   rintro e w3 ⟨rfl, hr3, hg3⟩
   have HFIN : Hid (rstmtEnd B rb m L w (buildS S x.1 t (said (L.drop (r.at' + 1)))) (.returned (.tuple #[])) w3) := by
    refine ⟨rfl, grown_below hg3 H.out.rlow H.out.bw, ?_⟩
    rw [HF.out]
    exact ⟨_, hr3, RV.failed_e H.out.e0, RV.failed_line H.out.e0, RV.failed_sl H.out.sl⟩
   clear hr3 hg3
   go_wp2_with fail
   first | go_end0 | refine bodyPost_ret (results_none rfl _ _ _) rfl ?_
   exact HFIN.out
end Go.Proofs.YthhbpebihgjpjaaGreatDoor
