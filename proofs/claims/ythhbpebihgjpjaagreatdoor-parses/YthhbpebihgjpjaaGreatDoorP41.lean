import Derived.Test.YthhbpebihgjpjaaGreatDoorP16
import Derived.Deep.QuietTactic
import Derived.BigQuiet
import Derived.Deep.RegionHeld3
import Derived.Deep.CutRange
namespace Go.Proofs.YthhbpebihgjpjaaGreatDoor
open Go.RowKit Go.Maps
set_option maxRecDepth 1000000

theorem restS_bad {S : St} {no : Nat} {ls : List Line} {u : ByteArray} {outs ins : Secs} {b : Bad} (h : edgeBad S outs ins u = some b) : restS S no ls u (.ok outs) (.ok ins) = .error (b, no) := by
 unfold restS
 simp only [h]
def EdgeAt (p : PV) (a : Nat → Addr) (B : Nat) (w0 : World) (rb no : Nat) (ls : List Line) (S : St) (m : Nat) (outs ins : Secs) (hd : ByteArray) (s : Value) (w : World) : Prop :=
 ∃ eb aoO nO cO aoI nI cI aoM nM cM aoR nR cR, s = .pointer (some ⟨eb, 0, none⟩) ∧ w0.heap.size ≤ eb ∧ w.heap[eb]? = some (.cells #[.slice aoO nO cO, .slice aoI nI cI, .slice aoM nM cM, .slice aoR nR cR, .string hd, .string ⟨#[]⟩] 63 (0, 0)) ∧ TextsF w0.heap.size w (.slice aoO nO cO) (firstS outs ++ behindS outs tBar) ∧ TextsF w0.heap.size w (.slice aoI nI cI) (firstS ins) ∧ TextsF w0.heap.size w (.slice aoM nM cM) (behindS ins tBar) ∧ TextsF w0.heap.size w (.slice aoR nR cR) (behindS ins tBars) ∧ PStC p a B w rb (no : Nat) ls S m ∧ Below w0.heap.size w0 w
theorem edge_at {p : PV} {a : Nat → Addr} {B : Nat} {w0 w10 W : World} {rb no : Nat} {ls : List Line} {S : St} {m : Nat} {outs ins : Secs} {hd : ByteArray} {l0 l1 : List ByteArray} {eb : Nat} {aoO aoI aoM aoR : Option Addr} {nO cO nI cI nM cM nR cR : Nat} (h0 : firstS outs = l0) (h1 : firstS ins = l1) (hst : PStC p a B w10 rb (no : Nat) ls S m) (hbl : Below w0.heap.size w0 w10) (hrow : W.heap[eb]? = some (.cells #[.slice none 0 0, .slice none 0 0, .slice none 0 0, .slice none 0 0, .string ⟨#[]⟩, .string ⟨#[]⟩] 63 (0, 0))) (hn : w10.heap.size ≤ eb) (hon : ∀ k, (Value.slice aoO nO cO).ownBlock = some k → k ≠ eb) (tO : TextsF w0.heap.size W (.slice aoO nO cO) (l0 ++ behindS outs tBar)) (tI : TextsF w0.heap.size w10 (.slice aoI nI cI) l1) (tM : TextsF w0.heap.size w10 (.slice aoM nM cM) (behindS ins tBar)) (tR : TextsF w0.heap.size w10 (.slice aoR nR cR) (behindS ins tBars)) (hfin : Below w10.heap.size w10 ((((((W.setCell ⟨eb, 0, none⟩ (.slice aoO nO cO)).setCell ⟨eb, 1, none⟩ (.slice aoI nI cI)).setCell ⟨eb, 2, none⟩ (.slice aoM nM cM)).setCell ⟨eb, 3, none⟩ (.slice aoR nR cR)).setCell ⟨eb, 4, none⟩ (.string hd)).setCell ⟨eb, 5, none⟩ (.string ⟨#[]⟩))) : EdgeAt p a B w0 rb no ls S m outs ins hd (.pointer (some ⟨eb, 0, none⟩)) ((((((W.setCell ⟨eb, 0, none⟩ (.slice aoO nO cO)).setCell ⟨eb, 1, none⟩ (.slice aoI nI cI)).setCell ⟨eb, 2, none⟩ (.slice aoM nM cM)).setCell ⟨eb, 3, none⟩ (.slice aoR nR cR)).setCell ⟨eb, 4, none⟩ (.string hd)).setCell ⟨eb, 5, none⟩ (.string ⟨#[]⟩)) := by
 refine ⟨eb, aoO, nO, cO, aoI, nI, cI, aoM, nM, cM, aoR, nR, cR, rfl, Nat.le_trans hbl.size hn, ?_, ?_, ?_, tM.keep hfin.block, tR.keep hfin.block, hst.below hfin, hbl.trans (hfin.mono hbl.size)⟩
 ·rw [heap_setCell_same _ _ _ _ _ _ (heap_setCell_same _ _ _ _ _ _ (heap_setCell_same _ _ _ _ _ _ (heap_setCell_same _ _ _ _ _ _ (heap_setCell_same _ _ _ _ _ _ (heap_setCell_same _ _ _ _ _ _ hrow)))))]
  rfl
 ·rw [h0]
  refine ⟨?_, tO.2⟩
  obtain ⟨ao, cap, e, hc, q | ⟨b, o, rfl, q⟩⟩ := tO.1
  ·exact ⟨ao, cap, e, hc, Or.inl q⟩
  ·refine ⟨_, cap, e, hc, Or.inr ⟨b, o, rfl, fun k s hs => ?_⟩⟩
   have hq := q k s hs
   have hne : b ≠ eb := hon b (by injection e with e1 _ _; rw [e1]; rfl)
   refine (World.cell?_of_block (w := W) (a := ⟨b, o + k, none⟩) ?_).trans hq
   show _ = W.heap[b]?
   rw [heap_setCell_other _ _ _ _ hne, heap_setCell_other _ _ _ _ hne, heap_setCell_other _ _ _ _ hne, heap_setCell_other _ _ _ _ hne, heap_setCell_other _ _ _ _ hne, heap_setCell_other _ _ _ _ hne]
 ·rw [h1]; exact tI.keep hfin.block
set_option maxHeartbeats 16000000 in
theorem edge_done : EdgeDone := by
 intro p0 a B w rb no ls S m t h0 ht
 have hinf : (Tryz.prog.info? 311).map (fun i => (i.size, i.bytes, i.zero)) = some (7, 136, some (.agg #[.slice none 0 0, .slice none 0 0, .slice none 0 0, .slice none 0 0, .string ⟨#[]⟩, .string ⟨#[]⟩, .pointer none])) := by kernel_rfl
 obtain ⟨ti, hti, htj⟩ := Option.map_eq_some_iff.1 hinf
 simp only [Prod.mk.injEq] at htj
 have HTI : Hid (Tryz.prog.info? 311 = some ti ∧ ti.size = 7 ∧ ti.bytes = 136 ∧ ti.zero = some (.agg #[.slice none 0 0, .slice none 0 0, .slice none 0 0, .slice none 0 0, .string ⟨#[]⟩, .string ⟨#[]⟩, .pointer none])) := ⟨hti, htj.1, htj.2.1, htj.2.2⟩
 clear hinf hti htj
 obtain ⟨p, hc7, h⟩ := h0.fresh
 clear h0
 have HC7 : Hid (∀ k, w.heap.size ≤ k → p.c k = 7) := hc7
 have H : Hid (PStC p a B w rb (no : Nat) ls S (m + 1)) := h
 have HFI : Hid (∀ wx, Calls Tryz.prog 265 #[.string t, .string ⟨#[58]⟩] wx fun e w' => e = .returned (.int .i64 ((min (scanB isColon t) t.size : Nat) : Int)) ∧ w' = wx) := fun wx => freeIndex_any isColon t ⟨#[58]⟩ idx_colon (by omega) wx
 have HNO : Hid (∀ wx, PStC p a B wx rb (no : Nat) ls S (m + 1) → Below w.heap.size w wx → Calls Tryz.prog 112 #[.pointer (some ⟨rb, 0, none⟩), .bool false, .iface 472 (.pointer (some (a 4)))] wx fun e w' => Stopped (no : Nat) (reasonV a 4) e w' ∧ Below B w w') := fun wx hp hb => (need_no rb (no : Nat) _ _ wx hp.at0).mono (fun e w' h => ⟨h.1, (hb.mono H.out.bw).trans (h.2.mono hp.bw)⟩)
 have HNR : Hid (∀ wx, PStC p a B wx rb (no : Nat) ls S (m + 1) → Below w.heap.size w wx → Calls Tryz.prog 112 #[.pointer (some ⟨rb, 0, none⟩), .bool false, .iface 472 (.pointer (some (a 5)))] wx fun e w' => Stopped (no : Nat) (reasonV a 5) e w' ∧ Below B w w') := fun wx hp hb => (need_no rb (no : Nat) _ _ wx hp.at0).mono (fun e w' h => ⟨h.1, (hb.mono H.out.bw).trans (h.2.mono hp.bw)⟩)
 have c4 : w.cell? ⟨4, 0, none⟩ = some (.iface 472 (.pointer (some (a 4)))) := h.gl.errs 4 (by decide)
 clear h hc7
 by_cases hk : t.size ≤ scanB isColon t
 ·have HF : Hid (buildS S no t ls = .error (.syn, no)) := by show _ = _; unfold buildS; rw [if_pos hk]
  rw [Nat.min_eq_right hk] at HFI
  clear hk
  have k1 : ¬ (t.size : Int) < (t.size : Int) := by omega
  go_enter Tryz.func196, Tryz.ntmps196
  go_wp2_with fail
  refine (HFI.out _).mono ?_
  rintro e w1 ⟨rfl, rfl⟩
  go_wp2_with fail
  refine (HNO.out _ H.out (Below.refl _ _)).mono ?_
  rintro e w8 ⟨⟨b, rfl, s0, s1⟩, hb8⟩
  exact ⟨rfl, (by rw [HF.out]; exact ⟨⟨b, rfl, s0, s1⟩, hb8⟩)⟩
 ·have HS : Hid (buildS S no t ls = _) := buildS_is hk
  have hk2 : scanB isColon t < t.size := by omega
  rw [Nat.min_eq_left (by omega)] at HFI
  generalize scanB isColon t = K at *
  have k1 : (K : Int) < (t.size : Int) := by omega
  have hslO : ∀ wx, (Instr.slice 9 (.string t) none (some (.int .i64 K)) none).run Tryz.prog wx = .ok (.string (t.extract 0 K)) wx := fun wx => slice_head t K (by omega) wx
  have hslR : ∀ wx, (Instr.slice 9 (.string t) (some (.int .i64 ((K : Int) + 1))) none none).run Tryz.prog wx = .ok (.string (t.extract (K + 1) t.size)) wx := fun wx => by
   have := slice_from t (K + 1) (by omega) wx
   rw [show (((K + 1 : Nat) : Int)) = (K : Int) + 1 by omega] at this
   exact this
  have hTO : (t.extract 0 K).size ≤ 4000 := by rw [ByteArray.size_extract]; omega
  have hTR : (t.extract (K + 1) t.size).size ≤ 4000 := by rw [ByteArray.size_extract]; omega
  generalize t.extract 0 K = TO at *
  generalize t.extract (K + 1) t.size = TR at *
  have HWB : Hid (∀ wx, Calls Tryz.prog 191 #[.string TR] wx fun e w' => e = .returned (.string (leftB TR)) ∧ w' = wx) := fun wx => withoutBlanks_any TR wx
  have hU : (leftB TR).size ≤ 4000 := Nat.le_trans (leftB_le TR) hTR
  generalize leftB TR = U at *
  have HCW : Hid (∀ wx, Calls Tryz.prog 194 #[.string U] wx fun e w' => e = .returned (.tuple #[.string (headB U), .string (tailB U)]) ∧ ∃ n, w' = wx.drewN n) := fun wx => cutWord_any U (by omega) wx
  have hTL : (tailB U).size ≤ 4000 := by rw [tailB_size]; omega
  have HHD : Hid ((headB U).size = wordLenB U) := headB_size U
  generalize tailB U = TL at *
  have HRO := (H.out.below ((Below.refl _ w).alloc (Nat.le_refl _) (.cells ([tBar].map Value.string).toArray 9))).paths hTO (texts_lit w [tBar] 9) (by decide)
  have k0 : (K : Int) ≤ 4000 := by omega
  have HTO : Hid (TO.size ≤ 4000) := hTO
  clear hk hTR hTO
  go_enter Tryz.func196, Tryz.ntmps196
  go_wp2_with fail
  refine (HFI.out _).mono ?_
  rintro e w1 ⟨rfl, hw⟩
  rw [hw]
  clear hw
  go_wp2_with fail
  refine (need_yes _ _ _).mono ?_
  rintro e w2 ⟨rfl, hw⟩
  rw [hw]
  clear hw
  go_wp2_with fail
  refine HRO.mono ?_
  rintro e w1 ⟨hend, hb1⟩
  have HBL1 : Hid (Below w.heap.size w w1) := ((Below.refl _ w).alloc (Nat.le_refl _) _).trans (hb1.mono (by simp))
  cases ho : pathsS (envL [S.top]) [tBar] TO with
  | error b =>
   rw [ho] at hend
   have HF : Hid (buildS S no t ls = .error (b, no)) := by rw [HS.out, ho]; rfl
   obtain ⟨b', rfl, s0, s1⟩ := hend
   exact ⟨rfl, (by rw [HF.out]; exact ⟨⟨b', rfl, s0, s1⟩, HBL1.out.mono H.out.bw⟩)⟩
  | ok outs =>
  rw [ho] at hend
  obtain ⟨v1, rfl, hso⟩ := hend
  have HSO : Hid (SecsAt w.heap.size w1 v1 outs) := hso.mono (by simp)
  have HOK : Hid (SecsOk [tBar] outs ∧ countS outs ≤ TO.size ∧ outs.length ≤ 1 + TO.size) := pathsS_ok ho
  rw [ho] at HS
  have HP1 : Hid (PStC p a B w1 rb (no : Nat) ls S (m + 1)) := H.out.below HBL1.out
  clear ho hso hb1 HRO c4
  go_wp2_with fail
  refine (HWB.out _).mono ?_
  rintro e w2 ⟨rfl, rfl⟩
  go_wp2_with fail
  refine (HCW.out _).mono ?_
  rintro e w3 ⟨rfl, k3, hw3⟩
  have HP3 : Hid (PStC p a B w3 rb (no : Nat) ls S (m + 1)) := by rw [hw3]; exact HP1.out.below (below_drewN (Below.refl _ _) k3)
  have HSO3 : Hid (SecsAt w.heap.size w3 v1 outs) := HSO.out.keep (fun k _ => by rw [hw3]; rfl)
  have HBL3 : Hid (Below w.heap.size w w3) := by rw [hw3]; exact below_drewN HBL1.out k3
  have HRI := (HP3.out.below ((Below.refl _ w3).alloc (Nat.le_refl _) (.cells ([tBar, tBars].map Value.string).toArray 9))).paths hTL (texts_lit w3 [tBar, tBars] 9) (by decide)
  clear hw3 HSO HP1 HBL1
  generalize hHE : headB U = HD at *
  have HHE : Hid (headB U = HD) := hHE
  clear hHE
  go_wp2_with fail
  refine HRI.mono ?_
  rintro e w4 ⟨hend, hb4⟩
  have hbl4 : Below w3.heap.size w3 w4 := ((Below.refl _ w3).alloc (Nat.le_refl _) _).trans (hb4.mono (by simp))
  have HBL4 : Hid (Below w.heap.size w w4) := HBL3.out.trans (hbl4.mono HBL3.out.size)
  cases hi : pathsS (envL [S.top]) [tBar, tBars] TL with
  | error b =>
   rw [hi] at hend
   have HF : Hid (buildS S no t ls = .error (b, no)) := by rw [HS.out, hi]; rfl
   obtain ⟨b', rfl, s0, s1⟩ := hend
   exact ⟨rfl, (by rw [HF.out]; exact ⟨⟨b', rfl, s0, s1⟩, HBL4.out.mono H.out.bw⟩)⟩
  | ok ins =>
  rw [hi] at hend
  obtain ⟨v2, rfl, hsi⟩ := hend
  have HIK : Hid (SecsOk [tBar, tBars] ins ∧ countS ins ≤ TL.size ∧ ins.length ≤ 1 + TL.size) := pathsS_ok hi
  rw [hi] at HS
  have HM4 : Hid (EdgeMid p a B w rb no ls S (m + 1) v1 outs v2 ins w4) := ⟨HP3.out.below hbl4, HSO3.out.keep hbl4.block, hsi.mono (by have := HBL3.out.size; simp; omega), HBL4.out⟩
  clear hi hsi hb4 hbl4 HRI HP3 HSO3 HBL3 HBL4
  obtain ⟨xo, hxo, hfo, hxom⟩ := HOK.out.1.firstS
  obtain ⟨g1, cap1, rfl, hcap1, hcell1⟩ := HM4.out.so.cell
  obtain ⟨pv, _, cp, htx⟩ := hcell1 0 xo hxo
  rw [Nat.zero_mul, Nat.zero_add] at cp
  obtain ⟨aop, pcap, hpv, hpc, _⟩ := htx.1
  subst hpv
  have HXO : Hid (outs[0]? = some xo ∧ firstS outs = xo.2) := ⟨hxo, hfo⟩
  have sl : (0 : Int) < (outs.length : Int) := by have := (List.getElem?_eq_some_iff.1 hxo).1; omega
  have c4 : w4.cell? ⟨4, 0, none⟩ = some (.iface 472 (.pointer (some (a 4)))) := HM4.out.st.gl.errs 4 (by decide)
  have HXL : Hid (xo.2.length ≤ 4000) := by have := countS_mem hxom; have := HOK.out; have : TO.size ≤ 4000 := HTO.out; show _ ≤ _; omega
  have hxl := HXL.out
  clear hcell1 htx hxo hfo hxom hpc hcap1
  obtain ⟨xo1, xo2⟩ := xo
  simp only at cp hxl
  generalize hOL : List.length outs = OL at *
  have HOL : Hid (List.length outs = OL) := hOL
  have ol0 : ¬ OL = 0 := by omega
  clear hOL
  by_cases h50 : xo2 = []
  ·have HF : Hid (buildS S no t ls = .error (.syn, no)) := by
    rw [HS.out]
    exact restS_bad (by unfold edgeBad; rw [if_pos (Or.inl (HXO.out.2.trans h50))])
   subst h50
   simp only [List.length_nil] at cp
   have HNO4 := HNO.out w4.drew (HM4.out.st.below (Below.refl _ _).drew) HM4.out.bl.drew
   go_wp2_with fail
   refine wp_region_held (S := fun w' => w' = w4.drew) (by kernel_rfl) ?_
   change wpAnyH _ _ _ _ _ _ _ _ (World.drew _)
   refine wpAnyH_take (i := 0) (v := .pointer (some ⟨rb, 0, none⟩)) rfl (by kernel_rfl) (by kernel_rfl) (by kernel_rfl) (fun _ _ _ h => h) (Or.inl ⟨by kernel_rfl, ?_⟩) rfl ?_
   ·rintro _ rfl
    go_simp
   refine wpAnyH_take (i := 1) (v := .slice (some ⟨g1, 0, none⟩) OL cap1) rfl (by kernel_rfl) (by kernel_rfl) (by kernel_rfl) (fun _ _ _ h => h) (Or.inl ⟨by kernel_rfl, ?_⟩) rfl ?_
   ·rintro _ rfl
    go_simp
   refine wpAnyH_take (i := 2) (v := .pointer (some ⟨g1, 0, none⟩)) rfl (by kernel_rfl) (by kernel_rfl) (by kernel_rfl) (fun _ _ _ h => h) (Or.inl ⟨by kernel_rfl, ?_⟩) rfl ?_
   ·rintro _ rfl
    go_simp
   refine wpAnyH_take (i := 3) (v := .pointer (some ⟨g1, 1, none⟩)) rfl (by kernel_rfl) (by kernel_rfl) (by kernel_rfl) (fun _ _ _ h => h) (Or.inl ⟨by kernel_rfl, ?_⟩) rfl ?_
   ·rintro _ rfl
    go_simp
   refine wpAnyH_take (i := 4) (v := .slice aop 0 pcap) rfl (by kernel_rfl) (by kernel_rfl) (by kernel_rfl) (fun _ _ _ h => h) (Or.inl ⟨by kernel_rfl, ?_⟩) rfl ?_
   ·rintro _ rfl
    go_simp
   refine wpAnyH_take (i := 5) (v := .int .i64 0) rfl (by kernel_rfl) (by kernel_rfl) (by kernel_rfl) (fun _ _ _ h => h) (Or.inl ⟨by kernel_rfl, ?_⟩) rfl ?_
   ·rintro _ rfl
    go_simp
   refine wpAnyH_take (i := 6) (v := .bool false) rfl (by kernel_rfl) (by kernel_rfl) (by kernel_rfl) (fun _ _ _ h => h) (Or.inl ⟨by kernel_rfl, ?_⟩) rfl ?_
   ·rintro _ rfl
    go_simp
   refine wpAnyH_take (i := 7) (v := .bool false) rfl (by kernel_rfl) (by kernel_rfl) (by kernel_rfl) (fun _ _ _ h => h) (Or.inl ⟨by kernel_rfl, ?_⟩) rfl ?_
   ·rintro _ rfl
    go_simp
   refine wpAnyH_take (i := 8) (v := undef) rfl (by kernel_rfl) (by kernel_rfl) (by kernel_rfl) (fun _ _ _ h => h) (Or.inr ⟨by kernel_rfl, rfl⟩) rfl ?_
   refine wpAnyH_take (i := 9) (v := undef) rfl (by kernel_rfl) (by kernel_rfl) (by kernel_rfl) (fun _ _ _ h => h) (Or.inr ⟨by kernel_rfl, rfl⟩) rfl ?_
   refine wpAnyH_take (i := 10) (v := undef) rfl (by kernel_rfl) (by kernel_rfl) (by kernel_rfl) (fun _ _ _ h => h) (Or.inr ⟨by kernel_rfl, rfl⟩) rfl ?_
   refine wpAnyH_take (i := 11) (v := .bool false) rfl (by kernel_rfl) (by kernel_rfl) (by kernel_rfl) (fun _ _ _ h => h) (Or.inl ⟨by kernel_rfl, ?_⟩) rfl ?_
   ·rintro _ rfl
    go_simp
   refine wpAnyH_take (i := 12) (v := .iface 472 (.pointer (some (a 4)))) rfl (by kernel_rfl) (by kernel_rfl) (by kernel_rfl) (fun _ _ _ h => h) (Or.inl ⟨by kernel_rfl, ?_⟩) rfl ?_
   ·rintro _ rfl
    go_simp
   refine wpAnyH_ready (rs := [13]) (by kernel_rfl) (by simp) ?_
   refine AllReadyH.cons rfl (fun K hK => ?_) AllReadyH.nil
   go_simp
   refine HNO4.mono ?_
   rintro e w8 ⟨⟨b, rfl, s0, s1⟩, hb8⟩
   exact ⟨rfl, (by rw [HF.out]; exact ⟨⟨b, rfl, s0, s1⟩, hb8⟩)⟩
  have xl0 : 0 < xo2.length := List.length_pos_iff.2 h50
  have xl : (0 : Int) < (xo2.length : Int) := by omega
  by_cases h51 : 2 < OL
  ·have HF : Hid (buildS S no t ls = .error (.syn, no)) := by
    rw [HS.out]
    exact restS_bad (by unfold edgeBad; rw [if_pos (Or.inr (by rw [HOL.out]; exact h51))])
   have o3 : ¬ (OL : Int) ≤ 2 := by omega
   have HNO4 := HNO.out w4.drew (HM4.out.st.below (Below.refl _ _).drew) HM4.out.bl.drew
   go_wp2_with fail
   refine wp_region_held (S := fun w' => w' = w4.drew) (by kernel_rfl) ?_
   change wpAnyH _ _ _ _ _ _ _ _ (World.drew _)
   refine wpAnyH_take (i := 0) (v := .pointer (some ⟨rb, 0, none⟩)) rfl (by kernel_rfl) (by kernel_rfl) (by kernel_rfl) (fun _ _ _ h => h) (Or.inl ⟨by kernel_rfl, ?_⟩) rfl ?_
   ·rintro _ rfl
    go_simp
   refine wpAnyH_take (i := 1) (v := .slice (some ⟨g1, 0, none⟩) OL cap1) rfl (by kernel_rfl) (by kernel_rfl) (by kernel_rfl) (fun _ _ _ h => h) (Or.inl ⟨by kernel_rfl, ?_⟩) rfl ?_
   ·rintro _ rfl
    go_simp
   refine wpAnyH_take (i := 2) (v := .pointer (some ⟨g1, 0, none⟩)) rfl (by kernel_rfl) (by kernel_rfl) (by kernel_rfl) (fun _ _ _ h => h) (Or.inl ⟨by kernel_rfl, ?_⟩) rfl ?_
   ·rintro _ rfl
    go_simp
   refine wpAnyH_take (i := 3) (v := .pointer (some ⟨g1, 1, none⟩)) rfl (by kernel_rfl) (by kernel_rfl) (by kernel_rfl) (fun _ _ _ h => h) (Or.inl ⟨by kernel_rfl, ?_⟩) rfl ?_
   ·rintro _ rfl
    go_simp
   refine wpAnyH_take (i := 4) (v := .slice aop xo2.length pcap) rfl (by kernel_rfl) (by kernel_rfl) (by kernel_rfl) (fun _ _ _ h => h) (Or.inl ⟨by kernel_rfl, ?_⟩) rfl ?_
   ·rintro _ rfl
    go_simp
   refine wpAnyH_take (i := 5) (v := .int .i64 (xo2.length : Nat)) rfl (by kernel_rfl) (by kernel_rfl) (by kernel_rfl) (fun _ _ _ h => h) (Or.inl ⟨by kernel_rfl, ?_⟩) rfl ?_
   ·rintro _ rfl
    go_simp
   refine wpAnyH_take (i := 6) (v := .bool true) rfl (by kernel_rfl) (by kernel_rfl) (by kernel_rfl) (fun _ _ _ h => h) (Or.inl ⟨by kernel_rfl, ?_⟩) rfl ?_
   ·rintro _ rfl
    go_simp
   refine wpAnyH_take (i := 7) (v := .bool true) rfl (by kernel_rfl) (by kernel_rfl) (by kernel_rfl) (fun _ _ _ h => h) (Or.inl ⟨by kernel_rfl, ?_⟩) rfl ?_
   ·rintro _ rfl
    go_simp
   refine wpAnyH_take (i := 8) (v := .slice (some ⟨g1, 0, none⟩) OL cap1) rfl (by kernel_rfl) (by kernel_rfl) (by kernel_rfl) (fun _ _ _ h => h) (Or.inl ⟨by kernel_rfl, ?_⟩) rfl ?_
   ·rintro _ rfl
    go_simp
   refine wpAnyH_take (i := 9) (v := .int .i64 (OL : Nat)) rfl (by kernel_rfl) (by kernel_rfl) (by kernel_rfl) (fun _ _ _ h => h) (Or.inl ⟨by kernel_rfl, ?_⟩) rfl ?_
   ·rintro _ rfl
    go_simp
   refine wpAnyH_take (i := 10) (v := .bool false) rfl (by kernel_rfl) (by kernel_rfl) (by kernel_rfl) (fun _ _ _ h => h) (Or.inl ⟨by kernel_rfl, ?_⟩) rfl ?_
   ·rintro _ rfl
    go_simp
   refine wpAnyH_take (i := 11) (v := .bool false) rfl (by kernel_rfl) (by kernel_rfl) (by kernel_rfl) (fun _ _ _ h => h) (Or.inl ⟨by kernel_rfl, ?_⟩) rfl ?_
   ·rintro _ rfl
    go_simp
   refine wpAnyH_take (i := 12) (v := .iface 472 (.pointer (some (a 4)))) rfl (by kernel_rfl) (by kernel_rfl) (by kernel_rfl) (fun _ _ _ h => h) (Or.inl ⟨by kernel_rfl, ?_⟩) rfl ?_
   ·rintro _ rfl
    go_simp
   refine wpAnyH_ready (rs := [13]) (by kernel_rfl) (by simp) ?_
   refine AllReadyH.cons rfl (fun K hK => ?_) AllReadyH.nil
   go_simp
   refine HNO4.mono ?_
   rintro e w8 ⟨⟨b, rfl, s0, s1⟩, hb8⟩
   exact ⟨rfl, (by rw [HF.out]; exact ⟨⟨b, rfl, s0, s1⟩, hb8⟩)⟩
  have o3 : (OL : Int) ≤ 2 := by omega
  go_wp2_with fail
  go_quiet ((go_at_call 112; exact Calls.quiet_of_same (need_yes _ _ _)))
  go_wp2_with fail
  have HM5 : Hid (EdgeMid p a B w rb no ls S (m + 1) (.slice (some ⟨g1, 0, none⟩) OL cap1) outs v2 ins (w4.drewN nq)) := HM4.out.later (below_drewN (Below.refl _ _) nq)
  generalize w4.drewN nq = w5 at *
  have HB5' : Hid (¬ (firstS outs = [] ∨ 2 < List.length outs)) := fun q => by
   rcases q with q | q
   ·exact h50 (HXO.out.2.symm.trans q)
   ·rw [HOL.out] at q; exact h51 q
  have c5 : w5.cell? ⟨4, 0, none⟩ = some (.iface 472 (.pointer (some (a 4)))) := HM5.out.st.gl.errs 4 (by decide)
  have hNO5 : ∀ q, Calls Tryz.prog 112 #[.pointer (some ⟨rb, 0, none⟩), .bool false, .iface 472 (.pointer (some (a 4)))] (w5.drewN q) fun e w' => Stopped (no : Nat) (reasonV a 4) e w' ∧ Below B w w' := fun q => HNO.out (w5.drewN q) (HM5.out.st.below (below_drewN (Below.refl _ _) q)) (below_drewN HM5.out.bl q)
  have HNO5 : Hid (∀ q, Calls Tryz.prog 112 #[.pointer (some ⟨rb, 0, none⟩), .bool false, .iface 472 (.pointer (some (a 4)))] (w5.drewN q) fun e w' => Stopped (no : Nat) (reasonV a 4) e w' ∧ Below B w w') := hNO5
  clear HM4 c4 cp hNO5 HXL sl
  by_cases h60 : HD.size = 0
  ·have HF : Hid (buildS S no t ls = .error (.syn, no)) := by
    rw [HS.out]
    exact restS_bad (by unfold edgeBad; rw [if_neg HB5'.out, if_pos (Or.inl (HHD.out.symm.trans h60))])
   obtain rfl : HD = ⟨#[]⟩ := ByteArray.size_eq_zero_iff.1 h60
   refine wp_region_held (S := fun w' => w' = w5.drew) (by kernel_rfl) ?_
   change wpAnyH _ _ _ _ _ _ _ _ (World.drew _)
   refine wpAnyH_take (i := 0) (v := .pointer (some ⟨rb, 0, none⟩)) rfl (by kernel_rfl) (by kernel_rfl) (by kernel_rfl) (fun _ _ _ h => h) (Or.inl ⟨by kernel_rfl, ?_⟩) rfl ?_
   ·rintro _ rfl
    go_simp
   refine wpAnyH_take (i := 1) (v := .string ⟨#[]⟩) rfl (by kernel_rfl) (by kernel_rfl) (by kernel_rfl) (fun _ _ _ h => h) (Or.inl ⟨by kernel_rfl, ?_⟩) rfl ?_
   ·rintro _ rfl
    go_simp
   refine wpAnyH_take (i := 2) (v := .bool false) rfl (by kernel_rfl) (by kernel_rfl) (by kernel_rfl) (fun _ _ _ h => h) (Or.inl ⟨by kernel_rfl, ?_⟩) rfl ?_
   ·rintro _ rfl
    go_simp
   refine wpAnyH_take (i := 3) (v := .bool false) rfl (by kernel_rfl) (by kernel_rfl) (by kernel_rfl) (fun _ _ _ h => h) (Or.inl ⟨by kernel_rfl, ?_⟩) rfl ?_
   ·rintro _ rfl
    go_simp
   refine wpAnyH_take (i := 4) (v := undef) rfl (by kernel_rfl) (by kernel_rfl) (by kernel_rfl) (fun _ _ _ h => h) (Or.inr ⟨by kernel_rfl, rfl⟩) rfl ?_
   refine wpAnyH_take (i := 5) (v := undef) rfl (by kernel_rfl) (by kernel_rfl) (by kernel_rfl) (fun _ _ _ h => h) (Or.inr ⟨by kernel_rfl, rfl⟩) rfl ?_
   refine wpAnyH_take (i := 6) (v := .bool false) rfl (by kernel_rfl) (by kernel_rfl) (by kernel_rfl) (fun _ _ _ h => h) (Or.inl ⟨by kernel_rfl, ?_⟩) rfl ?_
   ·rintro _ rfl
    go_simp
   refine wpAnyH_take (i := 7) (v := .iface 472 (.pointer (some (a 4)))) rfl (by kernel_rfl) (by kernel_rfl) (by kernel_rfl) (fun _ _ _ h => h) (Or.inl ⟨by kernel_rfl, ?_⟩) rfl ?_
   ·rintro _ rfl
    go_simp
   refine wpAnyH_ready (rs := [8]) (by kernel_rfl) (by simp) ?_
   refine AllReadyH.cons rfl (fun K hK => ?_) AllReadyH.nil
   go_simp
   refine (HNO5.out 1).mono ?_
   rintro e w8 ⟨⟨b, rfl, s0, s1⟩, hb8⟩
   exact ⟨rfl, (by rw [HF.out]; exact ⟨⟨b, rfl, s0, s1⟩, hb8⟩)⟩
  have hnn := nil_iff HD
  rw [decide_eq_false h60] at hnn
  have HRS : Hid (∀ q, Calls Tryz.prog 267 #[v2] (w5.drewN q) fun e w' => e = .returned (.bool (risingS ins)) ∧ ∃ q2, w' = (w5.drewN q).drewN q2) := fun q => rising_any w.heap.size ins v2 (w5.drewN q) (HM5.out.si.keep (fun _ _ => rfl)) (by have := HIK.out; omega) (fun x hx => by
   have := HIK.out.1
   rcases List.mem_cons.1 (show x ∈ ins.head (HIK.out.1.ne) :: ins.tail by rw [List.cons_head_tail]; exact hx) with q | q
   ·have h1 := this.first
    have h2 : x.1 = ⟨#[]⟩ := by
     rw [q]
     rw [List.head?_eq_some_head this.ne] at h1
     exact Option.some.inj h1
    rw [h2]; exact Nat.zero_le _
   ·have h1 := this.marks x q
    unfold memB at h1
    obtain ⟨y, hy, hyx⟩ := List.any_eq_true.1 h1
    have e := of_decide_eq_true hyx
    rw [← e]
    rcases List.mem_cons.1 hy with rfl | hy
    ·decide
    ·obtain rfl := List.mem_singleton.1 hy
     decide)
  cases h61 : risingS ins with
  | false =>
   have HF : Hid (buildS S no t ls = .error (.syn, no)) := by
    rw [HS.out]
    exact restS_bad (by unfold edgeBad; rw [if_neg HB5'.out, if_pos (Or.inr h61)])
   rw [h61] at HRS
   refine wp_region_held (S := fun w' => ∃ q, w' = w5.drewN q) (by kernel_rfl) ?_
   change wpAnyH _ _ _ _ _ _ _ _ (World.drewN _ 1)
   refine wpAnyH_take (i := 0) (v := .pointer (some ⟨rb, 0, none⟩)) rfl (by kernel_rfl) (by kernel_rfl) (by kernel_rfl) (fun _ _ _ h => h) (Or.inl ⟨by kernel_rfl, ?_⟩) ⟨_, rfl⟩ ?_
   ·rintro _ ⟨q, rfl⟩
    go_simp
   refine wpAnyH_take (i := 1) (v := .string HD) rfl (by kernel_rfl) (by kernel_rfl) (by kernel_rfl) (fun _ _ _ h => h) (Or.inl ⟨by kernel_rfl, ?_⟩) ⟨_, rfl⟩ ?_
   ·rintro _ ⟨q, rfl⟩
    go_simp
   refine wpAnyH_take (i := 2) (v := .bool true) rfl (by kernel_rfl) (by kernel_rfl) (by kernel_rfl) (fun _ _ _ h => h) (Or.inl ⟨by kernel_rfl, ?_⟩) ⟨_, rfl⟩ ?_
   ·rintro _ ⟨q, rfl⟩
    go_simp
   refine wpAnyH_take (i := 3) (v := .bool true) rfl (by kernel_rfl) (by kernel_rfl) (by kernel_rfl) (fun _ _ _ h => h) (Or.inl ⟨by kernel_rfl, ?_⟩) ⟨_, rfl⟩ ?_
   ·rintro _ ⟨q, rfl⟩
    go_simp
   refine wpAnyH_take (i := 4) (v := v2) rfl (by kernel_rfl) (by kernel_rfl) (by kernel_rfl) (fun _ _ _ h => h) (Or.inl ⟨by kernel_rfl, ?_⟩) ⟨_, rfl⟩ ?_
   ·rintro _ ⟨q, rfl⟩
    go_simp
   refine wpAnyH_take (i := 7) (v := .iface 472 (.pointer (some (a 4)))) rfl (by kernel_rfl) (by kernel_rfl) (by kernel_rfl) (fun _ _ _ h => h) (Or.inl ⟨by kernel_rfl, ?_⟩) ⟨_, rfl⟩ ?_
   ·rintro _ ⟨q, rfl⟩
    go_simp
   refine wpAnyH_ready (rs := [5]) (by kernel_rfl) (by simp) ?_
   refine AllReadyH.cons rfl (fun K hK => ?_) AllReadyH.nil
   go_simp
   refine (HRS.out 1).mono ?_
   rintro e w8 ⟨rfl, q2, rfl⟩
   refine hK.out _ _ ⟨1 + q2, by rw [World.drewN_drewN]⟩ (fun _ => ?_)
   clear hK K
   rw [World.drewN_drewN]
   refine wpAnyH_take (i := 6) (v := .bool false) rfl (by kernel_rfl) (by kernel_rfl) (by kernel_rfl) (fun _ _ _ h => h) (Or.inl ⟨by kernel_rfl, ?_⟩) ⟨_, rfl⟩ ?_
   ·rintro _ ⟨q, rfl⟩
    go_simp
   refine wpAnyH_ready (rs := [8]) (by kernel_rfl) (by simp) ?_
   refine AllReadyH.cons rfl (fun K hK => ?_) AllReadyH.nil
   go_simp
   refine (HNO5.out _).mono ?_
   rintro e w8 ⟨⟨b, rfl, s0, s1⟩, hb8⟩
   exact ⟨rfl, (by rw [HF.out]; exact ⟨⟨b, rfl, s0, s1⟩, hb8⟩)⟩
  | true =>
  rw [h61] at HRS
  go_quiet ((first | (go_at_call 267; exact Calls.quiet_of (HRS.out _)) | (go_at_call 112; exact Calls.quiet_of_same (need_yes _ _ _))))
  go_wp2_with fail
  have HM6 : Hid (EdgeMid p a B w rb no ls S (m + 1) (.slice (some ⟨g1, 0, none⟩) OL cap1) outs v2 ins (w5.drewN nq)) := HM5.out.later (below_drewN (Below.refl _ _) nq)
  generalize w5.drewN nq = w6 at *
  have HB6' : Hid (¬ (wordLenB U = 0 ∨ risingS ins = false)) := fun q => by
   rcases q with q | q
   ·exact h60 (HHD.out.trans q)
   ·rw [h61] at q; cases q
  have c6 : w6.cell? ⟨4, 0, none⟩ = some (.iface 472 (.pointer (some (a 4)))) := HM6.out.st.gl.errs 4 (by decide)
  have HNO6 := HNO.out w6.drew (HM6.out.st.below (Below.refl _ _).drew) HM6.out.bl.drew
  obtain ⟨aod, capd, hvd, hcd, hgd⟩ := row_form HM6.out.st.drafts
  have c65 : w6.cell? ⟨rb, 5, none⟩ = some (.slice aod S.edges.length capd) := by rw [cell_of_row _ _ _ _ _ _ HM6.out.st.row]; exact congrArg some hvd
  have HVD : Hid (p.vd = .slice aod S.edges.length capd) := hvd
  clear HM5 c5 HNO5 HRS hvd hcd hgd
  generalize hEL : S.edges.length = EL at *
  have HEL : Hid (S.edges.length = EL) := hEL
  clear hEL
  by_cases h70 : 64 ≤ EL
  ·have HF : Hid (buildS S no t ls = .error (.syn, no)) := by
    rw [HS.out]
    exact restS_bad (by unfold edgeBad; rw [if_neg HB5'.out, if_neg HB6'.out, if_pos (by rw [HEL.out]; exact h70)])
   have e1 : ¬ EL < 64 := by omega
   have e2 : (64 : Int) ≤ (EL : Int) := by omega
   refine wp_region_held (S := fun w' => w' = w6.drew) (by kernel_rfl) ?_
   change wpAnyH _ _ _ _ _ _ _ _ (World.drew _)
   refine wpAnyH_take (i := 0) (v := .pointer (some ⟨rb, 0, none⟩)) rfl (by kernel_rfl) (by kernel_rfl) (by kernel_rfl) (fun _ _ _ h => h) (Or.inl ⟨by kernel_rfl, ?_⟩) rfl ?_
   ·rintro _ rfl
    go_simp
   refine wpAnyH_take (i := 1) (v := .pointer (some ⟨rb, 0, none⟩)) rfl (by kernel_rfl) (by kernel_rfl) (by kernel_rfl) (fun _ _ _ h => h) (Or.inl ⟨by kernel_rfl, ?_⟩) rfl ?_
   ·rintro _ rfl
    go_simp
   refine wpAnyH_take (i := 2) (v := .pointer (some ⟨rb, 0, none⟩)) rfl (by kernel_rfl) (by kernel_rfl) (by kernel_rfl) (fun _ _ _ h => h) (Or.inl ⟨by kernel_rfl, ?_⟩) rfl ?_
   ·rintro _ rfl
    go_simp
   refine wpAnyH_take (i := 3) (v := .pointer (some ⟨rb, 5, none⟩)) rfl (by kernel_rfl) (by kernel_rfl) (by kernel_rfl) (fun _ _ _ h => h) (Or.inl ⟨by kernel_rfl, ?_⟩) rfl ?_
   ·rintro _ rfl
    go_simp
   refine wpAnyH_take (i := 4) (v := .slice aod EL capd) rfl (by kernel_rfl) (by kernel_rfl) (by kernel_rfl) (fun _ _ _ h => h) (Or.inl ⟨by kernel_rfl, ?_⟩) rfl ?_
   ·rintro _ rfl
    go_simp
   refine wpAnyH_take (i := 5) (v := .int .i64 (EL : Nat)) rfl (by kernel_rfl) (by kernel_rfl) (by kernel_rfl) (fun _ _ _ h => h) (Or.inl ⟨by kernel_rfl, ?_⟩) rfl ?_
   ·rintro _ rfl
    go_simp
   refine wpAnyH_take (i := 6) (v := .bool false) rfl (by kernel_rfl) (by kernel_rfl) (by kernel_rfl) (fun _ _ _ h => h) (Or.inl ⟨by kernel_rfl, ?_⟩) rfl ?_
   ·rintro _ rfl
    go_simp
   refine wpAnyH_take (i := 7) (v := .iface 472 (.pointer (some (a 4)))) rfl (by kernel_rfl) (by kernel_rfl) (by kernel_rfl) (fun _ _ _ h => h) (Or.inl ⟨by kernel_rfl, ?_⟩) rfl ?_
   ·rintro _ rfl
    go_simp
   refine wpAnyH_ready (rs := [8]) (by kernel_rfl) (by simp) ?_
   refine AllReadyH.cons rfl (fun K hK => ?_) AllReadyH.nil
   go_simp
   refine HNO6.mono ?_
   rintro e w8 ⟨⟨b, rfl, s0, s1⟩, hb8⟩
   exact ⟨rfl, (by rw [HF.out]; exact ⟨⟨b, rfl, s0, s1⟩, hb8⟩)⟩
  have e1 : EL < 64 := by omega
  have e2 : (EL : Int) < 64 := by omega
  go_quiet ((go_at_call 112; exact Calls.quiet_of_same (need_yes _ _ _)))
  have HM7 : Hid (EdgeMid p a B w rb no ls S (m + 1) (.slice (some ⟨g1, 0, none⟩) OL cap1) outs v2 ins (w6.drewN nq)) := HM6.out.later (below_drewN (Below.refl _ _) nq)
  generalize w6.drewN nq = w7 at *
  have HB7' : Hid (¬ 64 ≤ S.edges.length) := by rw [HEL.out]; show ¬ _; omega
  have HZ : Hid (∀ w, (zeroValue 316).run Tryz.prog w = .ok textZ w) := fun w => by kernel_rfl
  have hHD : HD.size ≤ 4000 := by have h1 := HHD.out; have h2 : wordLenB U ≤ U.size := spanLen_le _ _; omega
  have hlk : (Instr.lookup 197 (.map (some p.rm)) (.string HD) true).run Tryz.prog w7 = .ok (.tuple #[((bindOf S.rules HD).map textV).getD textZ, .bool ((bindOf S.rules HD).map textV).isSome]) w7 := TMap.look_ok HM7.out.st.rules Tryz.underlying197 HZ.out HD (by unfold maxLen; omega)
  have c73 : w7.cell? ⟨rb, 3, none⟩ = some (.map (some p.rm)) := by rw [cell_of_row _ _ _ _ _ _ HM7.out.st.row]; rfl
  have c75 : w7.cell? ⟨5, 0, none⟩ = some (.iface 472 (.pointer (some (a 5)))) := HM7.out.st.gl.errs 5 (by decide)
  clear HM6 c6 HNO6 c65 HZ
  cases hbr : bindOf S.rules HD with
  | none =>
   have HF : Hid (buildS S no t ls = .error (.rul, no)) := by
    rw [HS.out]
    exact restS_bad (by unfold edgeBad; rw [if_neg HB5'.out, if_neg HB6'.out, if_neg HB7'.out, if_pos (by rw [HHE.out, hbr]; rfl)])
   rw [hbr] at hlk
   have hlk2 : (Instr.lookup 197 (.map (some p.rm)) (.string HD) true).run Tryz.prog w7 = .ok (.tuple #[.agg #[.string ⟨#[]⟩], .bool false]) w7 := hlk
   have HNR7 := HNR.out (w7.alloc (.cells #[.string ⟨#[]⟩] 316)) (HM7.out.st.below ((Below.refl _ _).alloc (Nat.le_refl _) _)) (HM7.out.bl.alloc HM7.out.bl.size _)
   have c8 : (w7.alloc (.cells #[.string ⟨#[]⟩] 316)).cell? ⟨5, 0, none⟩ = some (.iface 472 (.pointer (some (a 5)))) := (HM7.out.st.below ((Below.refl _ _).alloc (Nat.le_refl _) _)).gl.errs 5 (by decide)
   clear hlk c75
   go_wp2_with fail
   refine HNR7.mono ?_
   rintro e w8 ⟨⟨b, rfl, s0, s1⟩, hb8⟩
   exact ⟨rfl, (by rw [HF.out]; exact ⟨⟨b, rfl, s0, s1⟩, hb8⟩)⟩
  | some ry =>
  rw [hbr] at hlk
  have hlk2 : (Instr.lookup 197 (.map (some p.rm)) (.string HD) true).run Tryz.prog w7 = .ok (.tuple #[.agg #[.string ry], .bool true]) w7 := hlk
  have HB8' : Hid (¬ (bindOf S.rules (headB U)).isSome = false) := by rw [HHE.out, hbr]; show ¬ _; simp
  have HM8 : Hid (EdgeMid p a B w rb no ls S (m + 1) (.slice (some ⟨g1, 0, none⟩) OL cap1) outs v2 ins (w7.alloc (.cells #[.string ry] 316))) := HM7.out.later ((Below.refl _ _).alloc (Nat.le_refl _) _)
  have c8 : (w7.alloc (.cells #[.string ry] 316)).cell? ⟨5, 0, none⟩ = some (.iface 472 (.pointer (some (a 5)))) := HM8.out.st.gl.errs 5 (by decide)
  clear hlk hbr HM7 c75
  go_wp2_with fail
  refine (need_yes _ _ _).mono ?_
  rintro e w10 ⟨rfl, hw⟩
  rw [← hw] at HM8
  clear hw hlk2 c73 c8
  obtain ⟨g2, cap2, rfl, hcap2, hcell2⟩ := HM8.out.si.cell
  obtain ⟨xi, hxi, hfi, hxim⟩ := HIK.out.1.firstS
  obtain ⟨pvi, _, u2, hti⟩ := hcell2 0 xi hxi
  rw [Nat.zero_mul, Nat.zero_add] at u2
  have hcell1 : ∀ (i : Nat) y, outs[i]? = some y → ∃ pv, w10.cell? ⟨g1, i * 2, none⟩ = some (.string y.1) ∧ w10.cell? ⟨g1, i * 2 + 1, none⟩ = some pv ∧ TextsF w.heap.size w10 pv y.2 := by
   obtain ⟨g1', cap1', hgg, _, hc⟩ := HM8.out.so.cell
   injection hgg with hgg1 hgg2 hgg3
   injection hgg1 with hgg1
   injection hgg1 with hgg1 _ _
   subst hgg1
   exact hc
  obtain ⟨pvo, _, u1, hto⟩ := hcell1 0 (xo1, xo2) HXO.out.1
  rw [Nat.zero_mul, Nat.zero_add] at u1
  obtain ⟨xi1, xi2⟩ := xi
  have HTP0 : Hid (TextsF w.heap.size w10 pvo xo2) := hto
  have HTQ0 : Hid (TextsF w.heap.size w10 pvi xi2) := hti
  have HFI2 : Hid (firstS ins = xi2) := hfi
  obtain ⟨aop, pcap, hpvo, _, _⟩ := hto.1
  obtain ⟨aoq, qcap, hpvi, _, _⟩ := hti.1
  simp only at hpvo hpvi
  rw [hpvo] at u1 HTP0
  rw [hpvi] at u2 HTQ0
  have HW10 : Hid (w.heap.size ≤ w10.heap.size) := HM8.out.bl.size
  have HTO4 : TO.size ≤ 4000 := HTO.out
  have hxi4 : xi2.length ≤ 4000 := by have h1 := countS_mem hxim; have h2 := HIK.out.2.1; simp only at h1; omega
  have HXI4 : Hid (xi2.length ≤ 4000) := hxi4
  have HPB1 : Hid (∀ wx, Below w10.heap.size w10 wx → Calls Tryz.prog 268 #[.slice (some ⟨g1, 0, none⟩) OL cap1, .string ⟨#[124]⟩] wx fun e w' => ∃ pv, e = .returned pv ∧ TextsF w.heap.size w10 pv (behindS outs tBar) ∧ Below wx.heap.size wx w') := fun wx hb => pathsBehind_any w.heap.size outs _ tBar w10 wx HM8.out.so hb (by have := HOL.out; have := HOK.out; omega)
  have HPB2 : Hid (∀ wx, Below w10.heap.size w10 wx → Calls Tryz.prog 268 #[.slice (some ⟨g2, 0, none⟩) ins.length cap2, .string ⟨#[124]⟩] wx fun e w' => ∃ pv, e = .returned pv ∧ TextsF w.heap.size w10 pv (behindS ins tBar) ∧ Below wx.heap.size wx w') := fun wx hb => pathsBehind_any w.heap.size ins _ tBar w10 wx HM8.out.si hb (by have := HIK.out; omega)
  have HPB3 : Hid (∀ wx, Below w10.heap.size w10 wx → Calls Tryz.prog 268 #[.slice (some ⟨g2, 0, none⟩) ins.length cap2, .string ⟨#[124, 124]⟩] wx fun e w' => ∃ pv, e = .returned pv ∧ TextsF w.heap.size w10 pv (behindS ins tBars) ∧ Below wx.heap.size wx w') := fun wx hb => pathsBehind_any w.heap.size ins _ tBars w10 wx HM8.out.si hb (by have := HIK.out; omega)
  have HBLs : Hid ((behindS outs tBar).length ≤ 10000) := by have := behindS_len outs tBar; have := HOK.out; show _ ≤ _; omega
  have il0 : ¬ List.length ins = 0 := by have := (List.getElem?_eq_some_iff.1 hxi).1; omega
  have HST8 : Hid (PStC p a B w10 rb (no : Nat) ls S (m + 1) ∧ Below w.heap.size w w10) := ⟨HM8.out.st, HM8.out.bl⟩
  clear hcell1 hcell2 hto hti hpvo hpvi hfi hxi hxim hcap2 HM8 HTO4 hxi4
  generalize hIL : List.length ins = IL at *
  generalize hXL : xo2.length = XL at *
  generalize hYL : xi2.length = YL at *
  have HIL : Hid (List.length ins = IL) := hIL
  have HXLe : Hid (xo2.length = XL) := hXL
  have HYLe : Hid (xi2.length = YL) := hYL
  have HXLs : Hid (xo2.length ≤ 10000) := by show _ ≤ _; omega
  clear hIL hXL hYL
  have HTP : Hid (TextsF w.heap.size w10 (.slice aop XL pcap) xo2) := HTP0
  have HTQ : Hid (TextsF w.heap.size w10 (.slice aoq YL qcap) xi2) := HTQ0
  clear HTP0 HTQ0
  have ol1 : (0 : Int) < (OL : Int) := by omega
  have il1 : (0 : Int) < (IL : Int) := by omega
  go_wp2_with fail
  go_cut [11] from 86 (fun s11 wx => EdgeAt p a B w rb no ls S (m + 1) outs ins HD s11 wx)
  case first =>
   refine wp_region_held (S := fun w' => Below w10.heap.size w10 w') (by kernel_rfl) ?_
   change wpAnyH _ _ _ _ _ _ _ _ (World.drew _)
   obtain ⟨wd, hwd⟩ : ∃ wd, wd = w10.drew := ⟨_, rfl⟩
   rw [← hwd]
   have HBc : Hid (Below w10.heap.size w10 wd) := by rw [hwd]; exact (Below.refl _ _).drew
   clear hwd
   refine wpAnyH_take (i := 0) (v := .slice (some ⟨g1, 0, none⟩) OL cap1) rfl (by kernel_rfl) (by kernel_rfl) (by kernel_rfl) (fun _ _ _ h => h) (Or.inl ⟨by kernel_rfl, ?_⟩) HBc.out ?_
   ·intro w' hS
    have q1 : w'.cell? ⟨g1, 1, none⟩ = some (.slice aop XL pcap) := (hS.cell (p := ⟨g1, 1, none⟩) (block_lt_of_cell u1)).trans u1
    have q2 : w'.cell? ⟨g2, 1, none⟩ = some (.slice aoq YL qcap) := (hS.cell (p := ⟨g2, 1, none⟩) (block_lt_of_cell u2)).trans u2
    clear hS
    go_simp
   refine wpAnyH_take (i := 1) (v := .pointer (some ⟨g1, 0, none⟩)) rfl (by kernel_rfl) (by kernel_rfl) (by kernel_rfl) (fun _ _ _ h => h) (Or.inl ⟨by kernel_rfl, ?_⟩) HBc.out ?_
   ·intro w' hS
    have q1 : w'.cell? ⟨g1, 1, none⟩ = some (.slice aop XL pcap) := (hS.cell (p := ⟨g1, 1, none⟩) (block_lt_of_cell u1)).trans u1
    have q2 : w'.cell? ⟨g2, 1, none⟩ = some (.slice aoq YL qcap) := (hS.cell (p := ⟨g2, 1, none⟩) (block_lt_of_cell u2)).trans u2
    clear hS
    go_simp
   refine wpAnyH_take (i := 2) (v := .pointer (some ⟨g1, 1, none⟩)) rfl (by kernel_rfl) (by kernel_rfl) (by kernel_rfl) (fun _ _ _ h => h) (Or.inl ⟨by kernel_rfl, ?_⟩) HBc.out ?_
   ·intro w' hS
    have q1 : w'.cell? ⟨g1, 1, none⟩ = some (.slice aop XL pcap) := (hS.cell (p := ⟨g1, 1, none⟩) (block_lt_of_cell u1)).trans u1
    have q2 : w'.cell? ⟨g2, 1, none⟩ = some (.slice aoq YL qcap) := (hS.cell (p := ⟨g2, 1, none⟩) (block_lt_of_cell u2)).trans u2
    clear hS
    go_simp
   refine wpAnyH_take (i := 3) (v := .slice aop XL pcap) rfl (by kernel_rfl) (by kernel_rfl) (by kernel_rfl) (fun _ _ _ h => h) (Or.inl ⟨by kernel_rfl, ?_⟩) HBc.out ?_
   ·intro w' hS
    have q1 : w'.cell? ⟨g1, 1, none⟩ = some (.slice aop XL pcap) := (hS.cell (p := ⟨g1, 1, none⟩) (block_lt_of_cell u1)).trans u1
    have q2 : w'.cell? ⟨g2, 1, none⟩ = some (.slice aoq YL qcap) := (hS.cell (p := ⟨g2, 1, none⟩) (block_lt_of_cell u2)).trans u2
    clear hS
    go_simp
   refine wpAnyH_take (i := 4) (v := .slice (some ⟨g1, 0, none⟩) OL cap1) rfl (by kernel_rfl) (by kernel_rfl) (by kernel_rfl) (fun _ _ _ h => h) (Or.inl ⟨by kernel_rfl, ?_⟩) HBc.out ?_
   ·intro w' hS
    have q1 : w'.cell? ⟨g1, 1, none⟩ = some (.slice aop XL pcap) := (hS.cell (p := ⟨g1, 1, none⟩) (block_lt_of_cell u1)).trans u1
    have q2 : w'.cell? ⟨g2, 1, none⟩ = some (.slice aoq YL qcap) := (hS.cell (p := ⟨g2, 1, none⟩) (block_lt_of_cell u2)).trans u2
    clear hS
    go_simp
   refine wpAnyH_take (i := 8) (v := .slice (some ⟨g2, 0, none⟩) IL cap2) rfl (by kernel_rfl) (by kernel_rfl) (by kernel_rfl) (fun _ _ _ h => h) (Or.inl ⟨by kernel_rfl, ?_⟩) HBc.out ?_
   ·intro w' hS
    have q1 : w'.cell? ⟨g1, 1, none⟩ = some (.slice aop XL pcap) := (hS.cell (p := ⟨g1, 1, none⟩) (block_lt_of_cell u1)).trans u1
    have q2 : w'.cell? ⟨g2, 1, none⟩ = some (.slice aoq YL qcap) := (hS.cell (p := ⟨g2, 1, none⟩) (block_lt_of_cell u2)).trans u2
    clear hS
    go_simp
   refine wpAnyH_take (i := 9) (v := .pointer (some ⟨g2, 0, none⟩)) rfl (by kernel_rfl) (by kernel_rfl) (by kernel_rfl) (fun _ _ _ h => h) (Or.inl ⟨by kernel_rfl, ?_⟩) HBc.out ?_
   ·intro w' hS
    have q1 : w'.cell? ⟨g1, 1, none⟩ = some (.slice aop XL pcap) := (hS.cell (p := ⟨g1, 1, none⟩) (block_lt_of_cell u1)).trans u1
    have q2 : w'.cell? ⟨g2, 1, none⟩ = some (.slice aoq YL qcap) := (hS.cell (p := ⟨g2, 1, none⟩) (block_lt_of_cell u2)).trans u2
    clear hS
    go_simp
   refine wpAnyH_take (i := 10) (v := .pointer (some ⟨g2, 1, none⟩)) rfl (by kernel_rfl) (by kernel_rfl) (by kernel_rfl) (fun _ _ _ h => h) (Or.inl ⟨by kernel_rfl, ?_⟩) HBc.out ?_
   ·intro w' hS
    have q1 : w'.cell? ⟨g1, 1, none⟩ = some (.slice aop XL pcap) := (hS.cell (p := ⟨g1, 1, none⟩) (block_lt_of_cell u1)).trans u1
    have q2 : w'.cell? ⟨g2, 1, none⟩ = some (.slice aoq YL qcap) := (hS.cell (p := ⟨g2, 1, none⟩) (block_lt_of_cell u2)).trans u2
    clear hS
    go_simp
   refine wpAnyH_take (i := 11) (v := .slice aoq YL qcap) rfl (by kernel_rfl) (by kernel_rfl) (by kernel_rfl) (fun _ _ _ h => h) (Or.inl ⟨by kernel_rfl, ?_⟩) HBc.out ?_
   ·intro w' hS
    have q1 : w'.cell? ⟨g1, 1, none⟩ = some (.slice aop XL pcap) := (hS.cell (p := ⟨g1, 1, none⟩) (block_lt_of_cell u1)).trans u1
    have q2 : w'.cell? ⟨g2, 1, none⟩ = some (.slice aoq YL qcap) := (hS.cell (p := ⟨g2, 1, none⟩) (block_lt_of_cell u2)).trans u2
    clear hS
    go_simp
   refine wpAnyH_take (i := 12) (v := .slice (some ⟨g2, 0, none⟩) IL cap2) rfl (by kernel_rfl) (by kernel_rfl) (by kernel_rfl) (fun _ _ _ h => h) (Or.inl ⟨by kernel_rfl, ?_⟩) HBc.out ?_
   ·intro w' hS
    have q1 : w'.cell? ⟨g1, 1, none⟩ = some (.slice aop XL pcap) := (hS.cell (p := ⟨g1, 1, none⟩) (block_lt_of_cell u1)).trans u1
    have q2 : w'.cell? ⟨g2, 1, none⟩ = some (.slice aoq YL qcap) := (hS.cell (p := ⟨g2, 1, none⟩) (block_lt_of_cell u2)).trans u2
    clear hS
    go_simp
   refine wpAnyH_take (i := 14) (v := .slice (some ⟨g2, 0, none⟩) IL cap2) rfl (by kernel_rfl) (by kernel_rfl) (by kernel_rfl) (fun _ _ _ h => h) (Or.inl ⟨by kernel_rfl, ?_⟩) HBc.out ?_
   ·intro w' hS
    have q1 : w'.cell? ⟨g1, 1, none⟩ = some (.slice aop XL pcap) := (hS.cell (p := ⟨g1, 1, none⟩) (block_lt_of_cell u1)).trans u1
    have q2 : w'.cell? ⟨g2, 1, none⟩ = some (.slice aoq YL qcap) := (hS.cell (p := ⟨g2, 1, none⟩) (block_lt_of_cell u2)).trans u2
    clear hS
    go_simp
   refine wpAnyH_take (i := 16) (v := .string HD) rfl (by kernel_rfl) (by kernel_rfl) (by kernel_rfl) (fun _ _ _ h => h) (Or.inl ⟨by kernel_rfl, ?_⟩) HBc.out ?_
   ·intro w' hS
    have q1 : w'.cell? ⟨g1, 1, none⟩ = some (.slice aop XL pcap) := (hS.cell (p := ⟨g1, 1, none⟩) (block_lt_of_cell u1)).trans u1
    have q2 : w'.cell? ⟨g2, 1, none⟩ = some (.slice aoq YL qcap) := (hS.cell (p := ⟨g2, 1, none⟩) (block_lt_of_cell u2)).trans u2
    clear hS
    go_simp
   refine wpAnyH_ready (rs := [5, 18]) (by kernel_rfl) (by simp) ?_
   refine AllReadyH.cons rfl (fun K hK => ?pA1) (AllReadyH.cons rfl (fun K hK => ?pB1) AllReadyH.nil)
   case' pA1 =>
    go_simp
    refine (HPB1.out _ HBc.out).mono ?_
    rintro e x11 ⟨pv, rfl, htB, hbl⟩
    obtain ⟨aoB, nB, cB, rfl⟩ : ∃ ao n c, pv = .slice ao n c := by obtain ⟨ao, c, e, _⟩ := htB.1; exact ⟨ao, _, c, e⟩
    have HTB : Hid (TextsF w.heap.size w10 (.slice aoB nB cB) (behindS outs tBar)) := htB
    have HBL : Hid (Below wd.heap.size wd x11) := hbl
    refine hK.out _ _ (HBc.out.trans (hbl.mono HBc.out.size)) (fun _ => ?_)
    clear hK K htB hbl
    replace HBc : Hid (Below w10.heap.size w10 x11) := HBc.out.trans (HBL.out.mono HBc.out.size)
    clear HBL
    refine wpAnyH_ready (rs := [6, 18]) (by kernel_rfl) (by simp) ?_
    refine AllReadyH.cons rfl (fun K hK => ?pA2) (AllReadyH.cons rfl (fun K hK => ?pB2) AllReadyH.nil)
    case' pA2 =>
     go_simp
     refine hK.out _ _ (HBc.out.alloc HBc.out.size _) (fun _ => ?_)
     clear hK K
     obtain ⟨cb, hcb⟩ : ∃ cb, cb = x11.heap.size := ⟨_, rfl⟩
     obtain ⟨x12, hx12⟩ : ∃ x, x = x11.alloc (.cells #[.slice aop XL pcap, .slice aoB nB cB] 32) := ⟨_, rfl⟩
     rw [← hx12, ← hcb]
     have HCB : Hid (x12.heap[cb]? = some (.cells #[.slice aop XL pcap, .slice aoB nB cB] 32 (0, 0))) := by rw [hcb, hx12]; exact heapA_new _ _ _ rfl
     have HBL : Hid (Below x11.heap.size x11 x12) := by rw [hx12]; exact (Below.refl _ _).alloc (Nat.le_refl _) _
     replace HBc : Hid (Below w10.heap.size w10 x12) := HBc.out.trans (HBL.out.mono HBc.out.size)
     clear hcb hx12 HBL
     refine wpAnyH_ready (rs := [7, 18]) (by kernel_rfl) (by simp) ?_
     refine AllReadyH.cons rfl (fun K hK => ?pA3) (AllReadyH.cons rfl (fun K hK => ?pB3) AllReadyH.nil)
     case' pA3 =>
      go_simp
      refine (concat_two (by rw [cell_of_row _ _ _ _ _ _ HCB.out]; rfl) (by rw [cell_of_row _ _ _ _ _ _ HCB.out]; rfl) (HTP.out.1.keepB HBc.out) (HTB.out.1.keepB HBc.out) HXLs.out HBLs.out).mono ?_
      rintro e x13 ⟨pv, rfl, htO, hlo, hbl⟩
      obtain ⟨aoO, nO, cO, rfl⟩ : ∃ ao n c, pv = .slice ao n c := by obtain ⟨ao, c, e, _⟩ := htO.1; exact ⟨ao, _, c, e⟩
      have HTO : Hid (TextsF w.heap.size x13 (.slice aoO nO cO) (xo2 ++ behindS outs tBar)) := ⟨htO.1, fun k hk => Nat.le_trans (Nat.le_trans HW10.out HBc.out.size) (htO.2 k hk)⟩
      have HBL : Hid (Below x12.heap.size x12 x13) := hbl
      refine hK.out _ _ (HBc.out.trans (hbl.mono HBc.out.size)) (fun _ => ?_)
      have HOB : Hid (∀ k, (Value.slice aoO nO cO).ownBlock = some k → x12.heap.size ≤ k ∧ k < x13.heap.size) := fun k hk => ⟨htO.2 k hk, hlo k hk⟩
      clear hK K htO hbl HCB hlo
      replace HBc : Hid (Below w10.heap.size w10 x13) := HBc.out.trans (HBL.out.mono HBc.out.size)
      clear HBL
      refine wpAnyH_ready (rs := [13, 18]) (by kernel_rfl) (by simp) ?_
      refine AllReadyH.cons rfl (fun K hK => ?pA4) (AllReadyH.cons rfl (fun K hK => ?pB4) AllReadyH.nil)
      case' pA4 =>
       go_simp
       refine (HPB2.out _ HBc.out).mono ?_
       rintro e x14 ⟨pv, rfl, htM, hbl⟩
       obtain ⟨aoM, nM, cM, rfl⟩ : ∃ ao n c, pv = .slice ao n c := by obtain ⟨ao, c, e, _⟩ := htM.1; exact ⟨ao, _, c, e⟩
       have HTM : Hid (TextsF w.heap.size w10 (.slice aoM nM cM) (behindS ins tBar)) := htM
       have HBL : Hid (Below x13.heap.size x13 x14) := hbl
       refine hK.out _ _ (HBc.out.trans (hbl.mono HBc.out.size)) (fun _ => ?_)
       clear hK K htM hbl
       replace HOB : Hid (∀ k, (Value.slice aoO nO cO).ownBlock = some k → 0 ≤ k ∧ k < x14.heap.size) := fun k hk => ⟨Nat.zero_le _, Nat.lt_of_lt_of_le (HOB.out k hk).2 HBL.out.size⟩
       replace HTO : Hid (TextsF w.heap.size x14 (.slice aoO nO cO) (xo2 ++ behindS outs tBar)) := HTO.out.keep HBL.out.block
       replace HBc : Hid (Below w10.heap.size w10 x14) := HBc.out.trans (HBL.out.mono HBc.out.size)
       clear HBL
       refine wpAnyH_ready (rs := [15, 18]) (by kernel_rfl) (by simp) ?_
       refine AllReadyH.cons rfl (fun K hK => ?pA5) (AllReadyH.cons rfl (fun K hK => ?pB5) AllReadyH.nil)
       case' pA5 =>
        go_simp
        refine (HPB3.out _ HBc.out).mono ?_
        rintro e x15 ⟨pv, rfl, htR, hbl⟩
        obtain ⟨aoR, nR, cR, rfl⟩ : ∃ ao n c, pv = .slice ao n c := by obtain ⟨ao, c, e, _⟩ := htR.1; exact ⟨ao, _, c, e⟩
        have HTR : Hid (TextsF w.heap.size w10 (.slice aoR nR cR) (behindS ins tBars)) := htR
        have HBL : Hid (Below x14.heap.size x14 x15) := hbl
        refine hK.out _ _ (HBc.out.trans (hbl.mono HBc.out.size)) (fun _ => ?_)
        clear hK K htR hbl
        replace HOB : Hid (∀ k, (Value.slice aoO nO cO).ownBlock = some k → 0 ≤ k ∧ k < x15.heap.size) := fun k hk => ⟨Nat.zero_le _, Nat.lt_of_lt_of_le (HOB.out k hk).2 HBL.out.size⟩
        replace HTO : Hid (TextsF w.heap.size x15 (.slice aoO nO cO) (xo2 ++ behindS outs tBar)) := HTO.out.keep HBL.out.block
        replace HBc : Hid (Below w10.heap.size w10 x15) := HBc.out.trans (HBL.out.mono HBc.out.size)
        clear HBL
        refine wpAnyH_take (i := 17) (v := .agg #[.slice aoO nO cO, .slice aoq YL qcap, .slice aoM nM cM, .slice aoR nR cR, .string HD, .string ⟨#[]⟩]) rfl (by kernel_rfl) (by kernel_rfl) (by kernel_rfl) (fun _ _ _ h => h) (Or.inl ⟨by kernel_rfl, ?_⟩) HBc.out ?_
        ·intro w' _
         go_simp
        refine wpAnyH_ready (rs := [18]) (by kernel_rfl) (by simp) ?_
        refine AllReadyH.cons rfl (fun K hK => ?_) AllReadyH.nil
        go_simp
        refine hK.out _ _ (HBc.out.alloc HBc.out.size _) (fun _ => ?_)
        clear hK K
        obtain ⟨eb, heb⟩ : ∃ eb, eb = x15.heap.size := ⟨_, rfl⟩
        obtain ⟨x16, hx16⟩ : ∃ x, x = x15.alloc (.cells #[.slice none 0 0, .slice none 0 0, .slice none 0 0, .slice none 0 0, .string ⟨#[]⟩, .string ⟨#[]⟩] 63) := ⟨_, rfl⟩
        rw [← hx16, ← heb]
        have HEB : Hid (x16.heap[eb]? = some (.cells #[.slice none 0 0, .slice none 0 0, .slice none 0 0, .slice none 0 0, .string ⟨#[]⟩, .string ⟨#[]⟩] 63 (0, 0))) := by rw [heb, hx16]; exact heapA_new _ _ _ rfl
        have HEN : Hid (w10.heap.size ≤ eb) := by rw [heb]; exact HBc.out.size
        have HBL : Hid (Below x15.heap.size x15 x16) := by rw [hx16]; exact (Below.refl _ _).alloc (Nat.le_refl _) _
        have HON : Hid (∀ k, (Value.slice aoO nO cO).ownBlock = some k → k ≠ eb) := fun k hk e => by have h1 := (HOB.out k hk).2; omega
        replace HTO : Hid (TextsF w.heap.size x16 (.slice aoO nO cO) (xo2 ++ behindS outs tBar)) := HTO.out.keep HBL.out.block
        replace HBc : Hid (Below w10.heap.size w10 x16) := HBc.out.trans (HBL.out.mono HBc.out.size)
        clear heb hx16 HBL
       case' pB5 =>
        go_simp
        refine hK.out _ _ (HBc.out.alloc HBc.out.size _) (fun _ => ?_)
        clear hK K
        obtain ⟨eb, heb⟩ : ∃ eb, eb = x14.heap.size := ⟨_, rfl⟩
        obtain ⟨x15, hx15⟩ : ∃ x, x = x14.alloc (.cells #[.slice none 0 0, .slice none 0 0, .slice none 0 0, .slice none 0 0, .string ⟨#[]⟩, .string ⟨#[]⟩] 63) := ⟨_, rfl⟩
        rw [← hx15, ← heb]
        have HEB : Hid (x15.heap[eb]? = some (.cells #[.slice none 0 0, .slice none 0 0, .slice none 0 0, .slice none 0 0, .string ⟨#[]⟩, .string ⟨#[]⟩] 63 (0, 0))) := by rw [heb, hx15]; exact heapA_new _ _ _ rfl
        have HEN : Hid (w10.heap.size ≤ eb) := by rw [heb]; exact HBc.out.size
        have HBL : Hid (Below x14.heap.size x14 x15) := by rw [hx15]; exact (Below.refl _ _).alloc (Nat.le_refl _) _
        have HON : Hid (∀ k, (Value.slice aoO nO cO).ownBlock = some k → k ≠ eb) := fun k hk e => by have h1 := (HOB.out k hk).2; omega
        replace HTO : Hid (TextsF w.heap.size x15 (.slice aoO nO cO) (xo2 ++ behindS outs tBar)) := HTO.out.keep HBL.out.block
        replace HBc : Hid (Below w10.heap.size w10 x15) := HBc.out.trans (HBL.out.mono HBc.out.size)
        clear heb hx15 HBL
        refine wpAnyH_ready (rs := [15]) (by kernel_rfl) (by simp) ?_
        refine AllReadyH.cons rfl (fun K hK => ?_) AllReadyH.nil
        go_simp
        refine (HPB3.out _ HBc.out).mono ?_
        rintro e x16 ⟨pv, rfl, htR, hbl⟩
        obtain ⟨aoR, nR, cR, rfl⟩ : ∃ ao n c, pv = .slice ao n c := by obtain ⟨ao, c, e, _⟩ := htR.1; exact ⟨ao, _, c, e⟩
        have HTR : Hid (TextsF w.heap.size w10 (.slice aoR nR cR) (behindS ins tBars)) := htR
        have HBL : Hid (Below x15.heap.size x15 x16) := hbl
        refine hK.out _ _ (HBc.out.trans (hbl.mono HBc.out.size)) (fun _ => ?_)
        clear hK K htR hbl
        replace HTO : Hid (TextsF w.heap.size x16 (.slice aoO nO cO) (xo2 ++ behindS outs tBar)) := HTO.out.keep HBL.out.block
        replace HEB : Hid (x16.heap[eb]? = some (.cells #[.slice none 0 0, .slice none 0 0, .slice none 0 0, .slice none 0 0, .string ⟨#[]⟩, .string ⟨#[]⟩] 63 (0, 0))) := (HBL.out.block _ (heap_lt HEB.out)).trans HEB.out
        replace HBc : Hid (Below w10.heap.size w10 x16) := HBc.out.trans (HBL.out.mono HBc.out.size)
        clear HBL
        refine wpAnyH_take (i := 17) (v := .agg #[.slice aoO nO cO, .slice aoq YL qcap, .slice aoM nM cM, .slice aoR nR cR, .string HD, .string ⟨#[]⟩]) rfl (by kernel_rfl) (by kernel_rfl) (by kernel_rfl) (fun _ _ _ h => h) (Or.inl ⟨by kernel_rfl, ?_⟩) HBc.out ?_
        ·intro w' _
         go_simp
      case' pB4 =>
       go_simp
       refine hK.out _ _ (HBc.out.alloc HBc.out.size _) (fun _ => ?_)
       clear hK K
       obtain ⟨eb, heb⟩ : ∃ eb, eb = x13.heap.size := ⟨_, rfl⟩
       obtain ⟨x14, hx14⟩ : ∃ x, x = x13.alloc (.cells #[.slice none 0 0, .slice none 0 0, .slice none 0 0, .slice none 0 0, .string ⟨#[]⟩, .string ⟨#[]⟩] 63) := ⟨_, rfl⟩
       rw [← hx14, ← heb]
       have HEB : Hid (x14.heap[eb]? = some (.cells #[.slice none 0 0, .slice none 0 0, .slice none 0 0, .slice none 0 0, .string ⟨#[]⟩, .string ⟨#[]⟩] 63 (0, 0))) := by rw [heb, hx14]; exact heapA_new _ _ _ rfl
       have HEN : Hid (w10.heap.size ≤ eb) := by rw [heb]; exact HBc.out.size
       have HBL : Hid (Below x13.heap.size x13 x14) := by rw [hx14]; exact (Below.refl _ _).alloc (Nat.le_refl _) _
       have HON : Hid (∀ k, (Value.slice aoO nO cO).ownBlock = some k → k ≠ eb) := fun k hk e => by have h1 := (HOB.out k hk).2; omega
       replace HTO : Hid (TextsF w.heap.size x14 (.slice aoO nO cO) (xo2 ++ behindS outs tBar)) := HTO.out.keep HBL.out.block
       replace HBc : Hid (Below w10.heap.size w10 x14) := HBc.out.trans (HBL.out.mono HBc.out.size)
       clear heb hx14 HBL
       refine wpAnyH_ready (rs := [13]) (by kernel_rfl) (by simp) ?_
       refine AllReadyH.cons rfl (fun K hK => ?_) AllReadyH.nil
       go_simp
       refine (HPB2.out _ HBc.out).mono ?_
       rintro e x15 ⟨pv, rfl, htM, hbl⟩
       obtain ⟨aoM, nM, cM, rfl⟩ : ∃ ao n c, pv = .slice ao n c := by obtain ⟨ao, c, e, _⟩ := htM.1; exact ⟨ao, _, c, e⟩
       have HTM : Hid (TextsF w.heap.size w10 (.slice aoM nM cM) (behindS ins tBar)) := htM
       have HBL : Hid (Below x14.heap.size x14 x15) := hbl
       refine hK.out _ _ (HBc.out.trans (hbl.mono HBc.out.size)) (fun _ => ?_)
       clear hK K htM hbl
       replace HTO : Hid (TextsF w.heap.size x15 (.slice aoO nO cO) (xo2 ++ behindS outs tBar)) := HTO.out.keep HBL.out.block
       replace HEB : Hid (x15.heap[eb]? = some (.cells #[.slice none 0 0, .slice none 0 0, .slice none 0 0, .slice none 0 0, .string ⟨#[]⟩, .string ⟨#[]⟩] 63 (0, 0))) := (HBL.out.block _ (heap_lt HEB.out)).trans HEB.out
       replace HBc : Hid (Below w10.heap.size w10 x15) := HBc.out.trans (HBL.out.mono HBc.out.size)
       clear HBL
       refine wpAnyH_ready (rs := [15]) (by kernel_rfl) (by simp) ?_
       refine AllReadyH.cons rfl (fun K hK => ?_) AllReadyH.nil
       go_simp
       refine (HPB3.out _ HBc.out).mono ?_
       rintro e x16 ⟨pv, rfl, htR, hbl⟩
       obtain ⟨aoR, nR, cR, rfl⟩ : ∃ ao n c, pv = .slice ao n c := by obtain ⟨ao, c, e, _⟩ := htR.1; exact ⟨ao, _, c, e⟩
       have HTR : Hid (TextsF w.heap.size w10 (.slice aoR nR cR) (behindS ins tBars)) := htR
       have HBL : Hid (Below x15.heap.size x15 x16) := hbl
       refine hK.out _ _ (HBc.out.trans (hbl.mono HBc.out.size)) (fun _ => ?_)
       clear hK K htR hbl
       replace HTO : Hid (TextsF w.heap.size x16 (.slice aoO nO cO) (xo2 ++ behindS outs tBar)) := HTO.out.keep HBL.out.block
       replace HEB : Hid (x16.heap[eb]? = some (.cells #[.slice none 0 0, .slice none 0 0, .slice none 0 0, .slice none 0 0, .string ⟨#[]⟩, .string ⟨#[]⟩] 63 (0, 0))) := (HBL.out.block _ (heap_lt HEB.out)).trans HEB.out
       replace HBc : Hid (Below w10.heap.size w10 x16) := HBc.out.trans (HBL.out.mono HBc.out.size)
       clear HBL
       refine wpAnyH_take (i := 17) (v := .agg #[.slice aoO nO cO, .slice aoq YL qcap, .slice aoM nM cM, .slice aoR nR cR, .string HD, .string ⟨#[]⟩]) rfl (by kernel_rfl) (by kernel_rfl) (by kernel_rfl) (fun _ _ _ h => h) (Or.inl ⟨by kernel_rfl, ?_⟩) HBc.out ?_
       ·intro w' _
        go_simp
     case' pB3 =>
      go_simp
      refine hK.out _ _ (HBc.out.alloc HBc.out.size _) (fun _ => ?_)
      clear hK K
      obtain ⟨eb, heb⟩ : ∃ eb, eb = x12.heap.size := ⟨_, rfl⟩
      obtain ⟨x13, hx13⟩ : ∃ x, x = x12.alloc (.cells #[.slice none 0 0, .slice none 0 0, .slice none 0 0, .slice none 0 0, .string ⟨#[]⟩, .string ⟨#[]⟩] 63) := ⟨_, rfl⟩
      rw [← hx13, ← heb]
      have HEB : Hid (x13.heap[eb]? = some (.cells #[.slice none 0 0, .slice none 0 0, .slice none 0 0, .slice none 0 0, .string ⟨#[]⟩, .string ⟨#[]⟩] 63 (0, 0))) := by rw [heb, hx13]; exact heapA_new _ _ _ rfl
      have HEN : Hid (w10.heap.size ≤ eb) := by rw [heb]; exact HBc.out.size
      have HBL : Hid (Below x12.heap.size x12 x13) := by rw [hx13]; exact (Below.refl _ _).alloc (Nat.le_refl _) _
      replace HCB : Hid (x13.heap[cb]? = some (.cells #[.slice aop XL pcap, .slice aoB nB cB] 32 (0, 0))) := (HBL.out.block _ (heap_lt HCB.out)).trans HCB.out
      replace HBc : Hid (Below w10.heap.size w10 x13) := HBc.out.trans (HBL.out.mono HBc.out.size)
      clear heb hx13 HBL
      refine wpAnyH_ready (rs := [7]) (by kernel_rfl) (by simp) ?_
      refine AllReadyH.cons rfl (fun K hK => ?_) AllReadyH.nil
      go_simp
      refine (concat_two (by rw [cell_of_row _ _ _ _ _ _ HCB.out]; rfl) (by rw [cell_of_row _ _ _ _ _ _ HCB.out]; rfl) (HTP.out.1.keepB HBc.out) (HTB.out.1.keepB HBc.out) HXLs.out HBLs.out).mono ?_
      rintro e x14 ⟨pv, rfl, htO, hlo, hbl⟩
      obtain ⟨aoO, nO, cO, rfl⟩ : ∃ ao n c, pv = .slice ao n c := by obtain ⟨ao, c, e, _⟩ := htO.1; exact ⟨ao, _, c, e⟩
      have HTO : Hid (TextsF w.heap.size x14 (.slice aoO nO cO) (xo2 ++ behindS outs tBar)) := ⟨htO.1, fun k hk => Nat.le_trans (Nat.le_trans HW10.out HBc.out.size) (htO.2 k hk)⟩
      have HBL : Hid (Below x13.heap.size x13 x14) := hbl
      refine hK.out _ _ (HBc.out.trans (hbl.mono HBc.out.size)) (fun _ => ?_)
      have HOB : Hid (∀ k, (Value.slice aoO nO cO).ownBlock = some k → x13.heap.size ≤ k ∧ k < x14.heap.size) := fun k hk => ⟨htO.2 k hk, hlo k hk⟩
      have HON : Hid (∀ k, (Value.slice aoO nO cO).ownBlock = some k → k ≠ eb) := fun k hk e => by have h1 := (HOB.out k hk).1; have h2 := heap_lt HEB.out; omega
      clear hK K htO hbl HCB hlo
      replace HEB : Hid (x14.heap[eb]? = some (.cells #[.slice none 0 0, .slice none 0 0, .slice none 0 0, .slice none 0 0, .string ⟨#[]⟩, .string ⟨#[]⟩] 63 (0, 0))) := (HBL.out.block _ (heap_lt HEB.out)).trans HEB.out
      replace HBc : Hid (Below w10.heap.size w10 x14) := HBc.out.trans (HBL.out.mono HBc.out.size)
      clear HBL
      refine wpAnyH_ready (rs := [13]) (by kernel_rfl) (by simp) ?_
      refine AllReadyH.cons rfl (fun K hK => ?_) AllReadyH.nil
      go_simp
      refine (HPB2.out _ HBc.out).mono ?_
      rintro e x15 ⟨pv, rfl, htM, hbl⟩
      obtain ⟨aoM, nM, cM, rfl⟩ : ∃ ao n c, pv = .slice ao n c := by obtain ⟨ao, c, e, _⟩ := htM.1; exact ⟨ao, _, c, e⟩
      have HTM : Hid (TextsF w.heap.size w10 (.slice aoM nM cM) (behindS ins tBar)) := htM
      have HBL : Hid (Below x14.heap.size x14 x15) := hbl
      refine hK.out _ _ (HBc.out.trans (hbl.mono HBc.out.size)) (fun _ => ?_)
      clear hK K htM hbl
      replace HTO : Hid (TextsF w.heap.size x15 (.slice aoO nO cO) (xo2 ++ behindS outs tBar)) := HTO.out.keep HBL.out.block
      replace HEB : Hid (x15.heap[eb]? = some (.cells #[.slice none 0 0, .slice none 0 0, .slice none 0 0, .slice none 0 0, .string ⟨#[]⟩, .string ⟨#[]⟩] 63 (0, 0))) := (HBL.out.block _ (heap_lt HEB.out)).trans HEB.out
      replace HBc : Hid (Below w10.heap.size w10 x15) := HBc.out.trans (HBL.out.mono HBc.out.size)
      clear HBL
      refine wpAnyH_ready (rs := [15]) (by kernel_rfl) (by simp) ?_
      refine AllReadyH.cons rfl (fun K hK => ?_) AllReadyH.nil
      go_simp
      refine (HPB3.out _ HBc.out).mono ?_
      rintro e x16 ⟨pv, rfl, htR, hbl⟩
      obtain ⟨aoR, nR, cR, rfl⟩ : ∃ ao n c, pv = .slice ao n c := by obtain ⟨ao, c, e, _⟩ := htR.1; exact ⟨ao, _, c, e⟩
      have HTR : Hid (TextsF w.heap.size w10 (.slice aoR nR cR) (behindS ins tBars)) := htR
      have HBL : Hid (Below x15.heap.size x15 x16) := hbl
      refine hK.out _ _ (HBc.out.trans (hbl.mono HBc.out.size)) (fun _ => ?_)
      clear hK K htR hbl
      replace HTO : Hid (TextsF w.heap.size x16 (.slice aoO nO cO) (xo2 ++ behindS outs tBar)) := HTO.out.keep HBL.out.block
      replace HEB : Hid (x16.heap[eb]? = some (.cells #[.slice none 0 0, .slice none 0 0, .slice none 0 0, .slice none 0 0, .string ⟨#[]⟩, .string ⟨#[]⟩] 63 (0, 0))) := (HBL.out.block _ (heap_lt HEB.out)).trans HEB.out
      replace HBc : Hid (Below w10.heap.size w10 x16) := HBc.out.trans (HBL.out.mono HBc.out.size)
      clear HBL
      refine wpAnyH_take (i := 17) (v := .agg #[.slice aoO nO cO, .slice aoq YL qcap, .slice aoM nM cM, .slice aoR nR cR, .string HD, .string ⟨#[]⟩]) rfl (by kernel_rfl) (by kernel_rfl) (by kernel_rfl) (fun _ _ _ h => h) (Or.inl ⟨by kernel_rfl, ?_⟩) HBc.out ?_
      ·intro w' _
       go_simp
    case' pB2 =>
     go_simp
     refine hK.out _ _ (HBc.out.alloc HBc.out.size _) (fun _ => ?_)
     clear hK K
     obtain ⟨eb, heb⟩ : ∃ eb, eb = x11.heap.size := ⟨_, rfl⟩
     obtain ⟨x12, hx12⟩ : ∃ x, x = x11.alloc (.cells #[.slice none 0 0, .slice none 0 0, .slice none 0 0, .slice none 0 0, .string ⟨#[]⟩, .string ⟨#[]⟩] 63) := ⟨_, rfl⟩
     rw [← hx12, ← heb]
     have HEB : Hid (x12.heap[eb]? = some (.cells #[.slice none 0 0, .slice none 0 0, .slice none 0 0, .slice none 0 0, .string ⟨#[]⟩, .string ⟨#[]⟩] 63 (0, 0))) := by rw [heb, hx12]; exact heapA_new _ _ _ rfl
     have HEN : Hid (w10.heap.size ≤ eb) := by rw [heb]; exact HBc.out.size
     have HBL : Hid (Below x11.heap.size x11 x12) := by rw [hx12]; exact (Below.refl _ _).alloc (Nat.le_refl _) _
     replace HBc : Hid (Below w10.heap.size w10 x12) := HBc.out.trans (HBL.out.mono HBc.out.size)
     clear heb hx12 HBL
     refine wpAnyH_ready (rs := [6]) (by kernel_rfl) (by simp) ?_
     refine AllReadyH.cons rfl (fun K hK => ?_) AllReadyH.nil
     go_simp
     refine hK.out _ _ (HBc.out.alloc HBc.out.size _) (fun _ => ?_)
     clear hK K
     obtain ⟨cb, hcb⟩ : ∃ cb, cb = x12.heap.size := ⟨_, rfl⟩
     obtain ⟨x13, hx13⟩ : ∃ x, x = x12.alloc (.cells #[.slice aop XL pcap, .slice aoB nB cB] 32) := ⟨_, rfl⟩
     rw [← hx13, ← hcb]
     have HCB : Hid (x13.heap[cb]? = some (.cells #[.slice aop XL pcap, .slice aoB nB cB] 32 (0, 0))) := by rw [hcb, hx13]; exact heapA_new _ _ _ rfl
     have HBL : Hid (Below x12.heap.size x12 x13) := by rw [hx13]; exact (Below.refl _ _).alloc (Nat.le_refl _) _
     replace HEB : Hid (x13.heap[eb]? = some (.cells #[.slice none 0 0, .slice none 0 0, .slice none 0 0, .slice none 0 0, .string ⟨#[]⟩, .string ⟨#[]⟩] 63 (0, 0))) := (HBL.out.block _ (heap_lt HEB.out)).trans HEB.out
     replace HBc : Hid (Below w10.heap.size w10 x13) := HBc.out.trans (HBL.out.mono HBc.out.size)
     clear hcb hx13 HBL
     refine wpAnyH_ready (rs := [7]) (by kernel_rfl) (by simp) ?_
     refine AllReadyH.cons rfl (fun K hK => ?_) AllReadyH.nil
     go_simp
     refine (concat_two (by rw [cell_of_row _ _ _ _ _ _ HCB.out]; rfl) (by rw [cell_of_row _ _ _ _ _ _ HCB.out]; rfl) (HTP.out.1.keepB HBc.out) (HTB.out.1.keepB HBc.out) HXLs.out HBLs.out).mono ?_
     rintro e x14 ⟨pv, rfl, htO, hlo, hbl⟩
     obtain ⟨aoO, nO, cO, rfl⟩ : ∃ ao n c, pv = .slice ao n c := by obtain ⟨ao, c, e, _⟩ := htO.1; exact ⟨ao, _, c, e⟩
     have HTO : Hid (TextsF w.heap.size x14 (.slice aoO nO cO) (xo2 ++ behindS outs tBar)) := ⟨htO.1, fun k hk => Nat.le_trans (Nat.le_trans HW10.out HBc.out.size) (htO.2 k hk)⟩
     have HBL : Hid (Below x13.heap.size x13 x14) := hbl
     refine hK.out _ _ (HBc.out.trans (hbl.mono HBc.out.size)) (fun _ => ?_)
     have HOB : Hid (∀ k, (Value.slice aoO nO cO).ownBlock = some k → x13.heap.size ≤ k ∧ k < x14.heap.size) := fun k hk => ⟨htO.2 k hk, hlo k hk⟩
     have HON : Hid (∀ k, (Value.slice aoO nO cO).ownBlock = some k → k ≠ eb) := fun k hk e => by have h1 := (HOB.out k hk).1; have h2 := heap_lt HEB.out; omega
     clear hK K htO hbl HCB hlo
     replace HEB : Hid (x14.heap[eb]? = some (.cells #[.slice none 0 0, .slice none 0 0, .slice none 0 0, .slice none 0 0, .string ⟨#[]⟩, .string ⟨#[]⟩] 63 (0, 0))) := (HBL.out.block _ (heap_lt HEB.out)).trans HEB.out
     replace HBc : Hid (Below w10.heap.size w10 x14) := HBc.out.trans (HBL.out.mono HBc.out.size)
     clear HBL
     refine wpAnyH_ready (rs := [13]) (by kernel_rfl) (by simp) ?_
     refine AllReadyH.cons rfl (fun K hK => ?_) AllReadyH.nil
     go_simp
     refine (HPB2.out _ HBc.out).mono ?_
     rintro e x15 ⟨pv, rfl, htM, hbl⟩
     obtain ⟨aoM, nM, cM, rfl⟩ : ∃ ao n c, pv = .slice ao n c := by obtain ⟨ao, c, e, _⟩ := htM.1; exact ⟨ao, _, c, e⟩
     have HTM : Hid (TextsF w.heap.size w10 (.slice aoM nM cM) (behindS ins tBar)) := htM
     have HBL : Hid (Below x14.heap.size x14 x15) := hbl
     refine hK.out _ _ (HBc.out.trans (hbl.mono HBc.out.size)) (fun _ => ?_)
     clear hK K htM hbl
     replace HTO : Hid (TextsF w.heap.size x15 (.slice aoO nO cO) (xo2 ++ behindS outs tBar)) := HTO.out.keep HBL.out.block
     replace HEB : Hid (x15.heap[eb]? = some (.cells #[.slice none 0 0, .slice none 0 0, .slice none 0 0, .slice none 0 0, .string ⟨#[]⟩, .string ⟨#[]⟩] 63 (0, 0))) := (HBL.out.block _ (heap_lt HEB.out)).trans HEB.out
     replace HBc : Hid (Below w10.heap.size w10 x15) := HBc.out.trans (HBL.out.mono HBc.out.size)
     clear HBL
     refine wpAnyH_ready (rs := [15]) (by kernel_rfl) (by simp) ?_
     refine AllReadyH.cons rfl (fun K hK => ?_) AllReadyH.nil
     go_simp
     refine (HPB3.out _ HBc.out).mono ?_
     rintro e x16 ⟨pv, rfl, htR, hbl⟩
     obtain ⟨aoR, nR, cR, rfl⟩ : ∃ ao n c, pv = .slice ao n c := by obtain ⟨ao, c, e, _⟩ := htR.1; exact ⟨ao, _, c, e⟩
     have HTR : Hid (TextsF w.heap.size w10 (.slice aoR nR cR) (behindS ins tBars)) := htR
     have HBL : Hid (Below x15.heap.size x15 x16) := hbl
     refine hK.out _ _ (HBc.out.trans (hbl.mono HBc.out.size)) (fun _ => ?_)
     clear hK K htR hbl
     replace HTO : Hid (TextsF w.heap.size x16 (.slice aoO nO cO) (xo2 ++ behindS outs tBar)) := HTO.out.keep HBL.out.block
     replace HEB : Hid (x16.heap[eb]? = some (.cells #[.slice none 0 0, .slice none 0 0, .slice none 0 0, .slice none 0 0, .string ⟨#[]⟩, .string ⟨#[]⟩] 63 (0, 0))) := (HBL.out.block _ (heap_lt HEB.out)).trans HEB.out
     replace HBc : Hid (Below w10.heap.size w10 x16) := HBc.out.trans (HBL.out.mono HBc.out.size)
     clear HBL
     refine wpAnyH_take (i := 17) (v := .agg #[.slice aoO nO cO, .slice aoq YL qcap, .slice aoM nM cM, .slice aoR nR cR, .string HD, .string ⟨#[]⟩]) rfl (by kernel_rfl) (by kernel_rfl) (by kernel_rfl) (fun _ _ _ h => h) (Or.inl ⟨by kernel_rfl, ?_⟩) HBc.out ?_
     ·intro w' _
      go_simp
   case' pB1 =>
    go_simp
    refine hK.out _ _ (HBc.out.alloc HBc.out.size _) (fun _ => ?_)
    clear hK K
    obtain ⟨eb, heb⟩ : ∃ eb, eb = wd.heap.size := ⟨_, rfl⟩
    obtain ⟨x11, hx11⟩ : ∃ x, x = wd.alloc (.cells #[.slice none 0 0, .slice none 0 0, .slice none 0 0, .slice none 0 0, .string ⟨#[]⟩, .string ⟨#[]⟩] 63) := ⟨_, rfl⟩
    rw [← hx11, ← heb]
    have HEB : Hid (x11.heap[eb]? = some (.cells #[.slice none 0 0, .slice none 0 0, .slice none 0 0, .slice none 0 0, .string ⟨#[]⟩, .string ⟨#[]⟩] 63 (0, 0))) := by rw [heb, hx11]; exact heapA_new _ _ _ rfl
    have HEN : Hid (w10.heap.size ≤ eb) := by rw [heb]; exact HBc.out.size
    have HBL : Hid (Below wd.heap.size wd x11) := by rw [hx11]; exact (Below.refl _ _).alloc (Nat.le_refl _) _
    replace HBc : Hid (Below w10.heap.size w10 x11) := HBc.out.trans (HBL.out.mono HBc.out.size)
    clear heb hx11 HBL
    refine wpAnyH_ready (rs := [5]) (by kernel_rfl) (by simp) ?_
    refine AllReadyH.cons rfl (fun K hK => ?_) AllReadyH.nil
    go_simp
    refine (HPB1.out _ HBc.out).mono ?_
    rintro e x12 ⟨pv, rfl, htB, hbl⟩
    obtain ⟨aoB, nB, cB, rfl⟩ : ∃ ao n c, pv = .slice ao n c := by obtain ⟨ao, c, e, _⟩ := htB.1; exact ⟨ao, _, c, e⟩
    have HTB : Hid (TextsF w.heap.size w10 (.slice aoB nB cB) (behindS outs tBar)) := htB
    have HBL : Hid (Below x11.heap.size x11 x12) := hbl
    refine hK.out _ _ (HBc.out.trans (hbl.mono HBc.out.size)) (fun _ => ?_)
    clear hK K htB hbl
    replace HEB : Hid (x12.heap[eb]? = some (.cells #[.slice none 0 0, .slice none 0 0, .slice none 0 0, .slice none 0 0, .string ⟨#[]⟩, .string ⟨#[]⟩] 63 (0, 0))) := (HBL.out.block _ (heap_lt HEB.out)).trans HEB.out
    replace HBc : Hid (Below w10.heap.size w10 x12) := HBc.out.trans (HBL.out.mono HBc.out.size)
    clear HBL
    refine wpAnyH_ready (rs := [6]) (by kernel_rfl) (by simp) ?_
    refine AllReadyH.cons rfl (fun K hK => ?_) AllReadyH.nil
    go_simp
    refine hK.out _ _ (HBc.out.alloc HBc.out.size _) (fun _ => ?_)
    clear hK K
    obtain ⟨cb, hcb⟩ : ∃ cb, cb = x12.heap.size := ⟨_, rfl⟩
    obtain ⟨x13, hx13⟩ : ∃ x, x = x12.alloc (.cells #[.slice aop XL pcap, .slice aoB nB cB] 32) := ⟨_, rfl⟩
    rw [← hx13, ← hcb]
    have HCB : Hid (x13.heap[cb]? = some (.cells #[.slice aop XL pcap, .slice aoB nB cB] 32 (0, 0))) := by rw [hcb, hx13]; exact heapA_new _ _ _ rfl
    have HBL : Hid (Below x12.heap.size x12 x13) := by rw [hx13]; exact (Below.refl _ _).alloc (Nat.le_refl _) _
    replace HEB : Hid (x13.heap[eb]? = some (.cells #[.slice none 0 0, .slice none 0 0, .slice none 0 0, .slice none 0 0, .string ⟨#[]⟩, .string ⟨#[]⟩] 63 (0, 0))) := (HBL.out.block _ (heap_lt HEB.out)).trans HEB.out
    replace HBc : Hid (Below w10.heap.size w10 x13) := HBc.out.trans (HBL.out.mono HBc.out.size)
    clear hcb hx13 HBL
    refine wpAnyH_ready (rs := [7]) (by kernel_rfl) (by simp) ?_
    refine AllReadyH.cons rfl (fun K hK => ?_) AllReadyH.nil
    go_simp
    refine (concat_two (by rw [cell_of_row _ _ _ _ _ _ HCB.out]; rfl) (by rw [cell_of_row _ _ _ _ _ _ HCB.out]; rfl) (HTP.out.1.keepB HBc.out) (HTB.out.1.keepB HBc.out) HXLs.out HBLs.out).mono ?_
    rintro e x14 ⟨pv, rfl, htO, hlo, hbl⟩
    obtain ⟨aoO, nO, cO, rfl⟩ : ∃ ao n c, pv = .slice ao n c := by obtain ⟨ao, c, e, _⟩ := htO.1; exact ⟨ao, _, c, e⟩
    have HTO : Hid (TextsF w.heap.size x14 (.slice aoO nO cO) (xo2 ++ behindS outs tBar)) := ⟨htO.1, fun k hk => Nat.le_trans (Nat.le_trans HW10.out HBc.out.size) (htO.2 k hk)⟩
    have HBL : Hid (Below x13.heap.size x13 x14) := hbl
    refine hK.out _ _ (HBc.out.trans (hbl.mono HBc.out.size)) (fun _ => ?_)
    have HOB : Hid (∀ k, (Value.slice aoO nO cO).ownBlock = some k → x13.heap.size ≤ k ∧ k < x14.heap.size) := fun k hk => ⟨htO.2 k hk, hlo k hk⟩
    have HON : Hid (∀ k, (Value.slice aoO nO cO).ownBlock = some k → k ≠ eb) := fun k hk e => by have h1 := (HOB.out k hk).1; have h2 := heap_lt HEB.out; omega
    clear hK K htO hbl HCB hlo
    replace HEB : Hid (x14.heap[eb]? = some (.cells #[.slice none 0 0, .slice none 0 0, .slice none 0 0, .slice none 0 0, .string ⟨#[]⟩, .string ⟨#[]⟩] 63 (0, 0))) := (HBL.out.block _ (heap_lt HEB.out)).trans HEB.out
    replace HBc : Hid (Below w10.heap.size w10 x14) := HBc.out.trans (HBL.out.mono HBc.out.size)
    clear HBL
    refine wpAnyH_ready (rs := [13]) (by kernel_rfl) (by simp) ?_
    refine AllReadyH.cons rfl (fun K hK => ?_) AllReadyH.nil
    go_simp
    refine (HPB2.out _ HBc.out).mono ?_
    rintro e x15 ⟨pv, rfl, htM, hbl⟩
    obtain ⟨aoM, nM, cM, rfl⟩ : ∃ ao n c, pv = .slice ao n c := by obtain ⟨ao, c, e, _⟩ := htM.1; exact ⟨ao, _, c, e⟩
    have HTM : Hid (TextsF w.heap.size w10 (.slice aoM nM cM) (behindS ins tBar)) := htM
    have HBL : Hid (Below x14.heap.size x14 x15) := hbl
    refine hK.out _ _ (HBc.out.trans (hbl.mono HBc.out.size)) (fun _ => ?_)
    clear hK K htM hbl
    replace HTO : Hid (TextsF w.heap.size x15 (.slice aoO nO cO) (xo2 ++ behindS outs tBar)) := HTO.out.keep HBL.out.block
    replace HEB : Hid (x15.heap[eb]? = some (.cells #[.slice none 0 0, .slice none 0 0, .slice none 0 0, .slice none 0 0, .string ⟨#[]⟩, .string ⟨#[]⟩] 63 (0, 0))) := (HBL.out.block _ (heap_lt HEB.out)).trans HEB.out
    replace HBc : Hid (Below w10.heap.size w10 x15) := HBc.out.trans (HBL.out.mono HBc.out.size)
    clear HBL
    refine wpAnyH_ready (rs := [15]) (by kernel_rfl) (by simp) ?_
    refine AllReadyH.cons rfl (fun K hK => ?_) AllReadyH.nil
    go_simp
    refine (HPB3.out _ HBc.out).mono ?_
    rintro e x16 ⟨pv, rfl, htR, hbl⟩
    obtain ⟨aoR, nR, cR, rfl⟩ : ∃ ao n c, pv = .slice ao n c := by obtain ⟨ao, c, e, _⟩ := htR.1; exact ⟨ao, _, c, e⟩
    have HTR : Hid (TextsF w.heap.size w10 (.slice aoR nR cR) (behindS ins tBars)) := htR
    have HBL : Hid (Below x15.heap.size x15 x16) := hbl
    refine hK.out _ _ (HBc.out.trans (hbl.mono HBc.out.size)) (fun _ => ?_)
    clear hK K htR hbl
    replace HTO : Hid (TextsF w.heap.size x16 (.slice aoO nO cO) (xo2 ++ behindS outs tBar)) := HTO.out.keep HBL.out.block
    replace HEB : Hid (x16.heap[eb]? = some (.cells #[.slice none 0 0, .slice none 0 0, .slice none 0 0, .slice none 0 0, .string ⟨#[]⟩, .string ⟨#[]⟩] 63 (0, 0))) := (HBL.out.block _ (heap_lt HEB.out)).trans HEB.out
    replace HBc : Hid (Below w10.heap.size w10 x16) := HBc.out.trans (HBL.out.mono HBc.out.size)
    clear HBL
    refine wpAnyH_take (i := 17) (v := .agg #[.slice aoO nO cO, .slice aoq YL qcap, .slice aoM nM cM, .slice aoR nR cR, .string HD, .string ⟨#[]⟩]) rfl (by kernel_rfl) (by kernel_rfl) (by kernel_rfl) (fun _ _ _ h => h) (Or.inl ⟨by kernel_rfl, ?_⟩) HBc.out ?_
    ·intro w' _
     go_simp
   all_goals
    refine wpAnyH_ready (rs := [19]) (by kernel_rfl) (by simp) ?_
    refine AllReadyH.cons rfl (fun K hK => ?_) AllReadyH.nil
    have z0 : x16.cell? ⟨eb, 0, none⟩ = some (.slice none 0 0) := by rw [cell_of_row _ _ _ _ _ _ HEB.out]; rfl
    have z1 : x16.cell? ⟨eb, 1, none⟩ = some (.slice none 0 0) := by rw [cell_of_row _ _ _ _ _ _ HEB.out]; rfl
    have z2 : x16.cell? ⟨eb, 2, none⟩ = some (.slice none 0 0) := by rw [cell_of_row _ _ _ _ _ _ HEB.out]; rfl
    have z3 : x16.cell? ⟨eb, 3, none⟩ = some (.slice none 0 0) := by rw [cell_of_row _ _ _ _ _ _ HEB.out]; rfl
    have z4 : x16.cell? ⟨eb, 4, none⟩ = some (.string ⟨#[]⟩) := by rw [cell_of_row _ _ _ _ _ _ HEB.out]; rfl
    have z5 : x16.cell? ⟨eb, 5, none⟩ = some (.string ⟨#[]⟩) := by rw [cell_of_row _ _ _ _ _ _ HEB.out]; rfl
    have f0 : x16.frozen? ⟨eb, 0, none⟩ = false := frozen_of_row _ _ _ _ _ HEB.out
    have f1 : x16.frozen? ⟨eb, 1, none⟩ = false := frozen_of_row _ _ _ _ _ HEB.out
    have f2 : x16.frozen? ⟨eb, 2, none⟩ = false := frozen_of_row _ _ _ _ _ HEB.out
    have f3 : x16.frozen? ⟨eb, 3, none⟩ = false := frozen_of_row _ _ _ _ _ HEB.out
    have f4 : x16.frozen? ⟨eb, 4, none⟩ = false := frozen_of_row _ _ _ _ _ HEB.out
    have f5 : x16.frozen? ⟨eb, 5, none⟩ = false := frozen_of_row _ _ _ _ _ HEB.out
    go_simp
    refine hK.out _ _ ((((((HBc.out.setCell (p := ⟨eb, 0, none⟩) HEN.out _).setCell (p := ⟨eb, 1, none⟩) HEN.out _).setCell (p := ⟨eb, 2, none⟩) HEN.out _).setCell (p := ⟨eb, 3, none⟩) HEN.out _).setCell (p := ⟨eb, 4, none⟩) HEN.out _).setCell (p := ⟨eb, 5, none⟩) HEN.out _) (fun hfin => ?_)
    clear hK K
    refine wpAnyH_done (by kernel_rfl) ?_ _
    have HEND : Hid (EdgeAt p a B w rb no ls S (m + 1) outs ins HD (.pointer (some ⟨eb, 0, none⟩)) ((((((x16.setCell ⟨eb, 0, none⟩ (.slice aoO nO cO)).setCell ⟨eb, 1, none⟩ (.slice aoq YL qcap)).setCell ⟨eb, 2, none⟩ (.slice aoM nM cM)).setCell ⟨eb, 3, none⟩ (.slice aoR nR cR)).setCell ⟨eb, 4, none⟩ (.string HD)).setCell ⟨eb, 5, none⟩ (.string ⟨#[]⟩))) := edge_at HXO.out.2 HFI2.out HST8.out.1 HST8.out.2 HEB.out HEN.out HON.out HTO.out HTQ.out HTM.out HTR.out hfin
    clear hfin z0 z1 z2 z3 z4 z5 f0 f1 f2 f3 f4 f5
    generalize (((((x16.setCell ⟨eb, 0, none⟩ (.slice aoO nO cO)).setCell ⟨eb, 1, none⟩ (.slice aoq YL qcap)).setCell ⟨eb, 2, none⟩ (.slice aoM nM cM)).setCell ⟨eb, 3, none⟩ (.slice aoR nR cR)).setCell ⟨eb, 4, none⟩ (.string HD)).setCell ⟨eb, 5, none⟩ (.string ⟨#[]⟩) = WF at *
    go_wp2_with fail
    go_meet
    exact HEND.out
  case rest =>
   obtain ⟨eb, aoO, nO, cO, aoI, nI, cI, aoM, nM, cM, aoR, nR, cR, rfl, heb, hrow, tO, tI, tM, tR, hst, hbl⟩ := hcut
   have HOU : Hid ((firstS outs ++ behindS outs tBar).length ≤ 8000 ∧ (∀ y ∈ firstS outs ++ behindS outs tBar, y.size ≤ 32)) := by
    have h1 := firstS_len HOK.out.1
    have h2 := behindS_len outs tBar
    have h3 := HOK.out.2.1
    have h4 : TO.size ≤ 4000 := HTO.out
    refine ⟨by rw [List.length_append]; omega, fun y hy => ?_⟩
    rcases List.mem_append.1 hy with hy | hy
    ·exact firstS_small HOK.out.1 y hy
    ·exact behindS_small HOK.out.1 _ y hy
   have HIU : Hid ((firstS ins).length ≤ 4000 ∧ (behindS ins tBar).length ≤ 4000 ∧ (behindS ins tBars).length ≤ 4000 ∧ ∀ y ∈ firstS ins, y.size ≤ 32) := by
    have h1 := firstS_len HIK.out.1
    have h2 := behindS_len ins tBar
    have h3 := behindS_len ins tBars
    have h4 := HIK.out.2.1
    exact ⟨by omega, by omega, by omega, firstS_small HIK.out.1⟩
   have hmw : p.mm < w.heap.size := H.out.made.lt
   have HCL := claim_any hst tO.1 (fun e => by have := tO.2 p.mm e; omega) (by have := HOU.out.1; omega) (fun y hy => by have := HOU.out.2 y hy; omega)
   have HTX : Hid (TextsF w.heap.size wc (.slice aoO nO cO) (firstS outs ++ behindS outs tBar) ∧ TextsF w.heap.size wc (.slice aoI nI cI) (firstS ins) ∧ TextsF w.heap.size wc (.slice aoM nM cM) (behindS ins tBar) ∧ TextsF w.heap.size wc (.slice aoR nR cR) (behindS ins tBars)) := ⟨tO, tI, tM, tR⟩
   have HST : Hid (PStC p a B wc rb (no : Nat) ls S (m + 1) ∧ Below w.heap.size w wc) := ⟨hst, hbl⟩
   have HRW : Hid (w.heap.size ≤ eb ∧ wc.heap[eb]? = some (.cells #[.slice aoO nO cO, .slice aoI nI cI, .slice aoM nM cM, .slice aoR nR cR, .string HD, .string ⟨#[]⟩] 63 (0, 0))) := ⟨heb, hrow⟩
   have z0 : wc.cell? ⟨eb, 0, none⟩ = some (.slice aoO nO cO) := by rw [cell_of_row _ _ _ _ _ _ hrow]; rfl
   have HBD : Hid (edgeBad S outs ins U = if twiceS (madeS S) (firstS outs ++ behindS outs tBar) = true then some .twi else none) := by
    show _ = _
    unfold edgeBad
    rw [if_neg HB5'.out, if_neg HB6'.out, if_neg HB7'.out, if_neg HB8'.out]
   clear tO tI tM tR hst hbl heb hrow HPB1 HPB2 HPB3 HTP HTQ HBLs HXLs HST8 u1 u2 HB5' HB6' HB7' HB8' HXO HFI2 HW10 HXI4
   go_wp2_with fail
   refine HCL.mono ?_
   intro e w11 hend
   unfold claimEnd at hend
   by_cases htw : twiceS (madeS S) (firstS outs ++ behindS outs tBar) = true
   ·have HF : Hid (buildS S no t ls = .error (.twi, no)) := by
     rw [HS.out]
     exact restS_bad (by rw [HBD.out, if_pos htw])
    rw [if_pos htw] at hend
    obtain ⟨⟨b, rfl, s0, s1⟩, hb8⟩ := hend
    exact ⟨rfl, (by rw [HF.out]; exact ⟨⟨b, rfl, s0, s1⟩, (HST.out.2.mono H.out.bw).trans hb8⟩)⟩
   rw [if_neg htw] at hend
   obtain ⟨rfl, hu, hg⟩ := hend
   have HF : Hid (buildS S no t ls = match ownS S.top ls [] with
    | .error e => .error e
    | .ok ol => .ok ({ S with edges := S.edges ++ [edgeOf outs ins HD ol.1] }, ol.2)) := by
    rw [HS.out, restS_good (by rw [HBD.out, if_neg htw]), HHE.out]; rfl
   have hsz11 := hg.size
   have hsz1 := HST.out.2.size
   have hmr : p.mm ≠ rb := fun e => by have h1 := H.out.c1; have h2 := H.out.c4; rw [e] at h2; omega
   have o11 : ∀ k, w.heap.size ≤ k → k < wc.heap.size → w11.heap[k]? = wc.heap[k]? := fun k h1 h2 => hg.block k h2 (fun e => by have := Option.some.inj e; omega)
   have HTX1 : Hid (TextsF w.heap.size w11 (.slice aoO nO cO) (firstS outs ++ behindS outs tBar) ∧ TextsF w.heap.size w11 (.slice aoI nI cI) (firstS ins) ∧ TextsF w.heap.size w11 (.slice aoM nM cM) (behindS ins tBar) ∧ TextsF w.heap.size w11 (.slice aoR nR cR) (behindS ins tBars)) := ⟨HTX.out.1.same o11, HTX.out.2.1.same o11, HTX.out.2.2.1.same o11, HTX.out.2.2.2.same o11⟩
   have HRW1 : Hid (w.heap.size ≤ eb ∧ w11.heap[eb]? = some (.cells #[.slice aoO nO cO, .slice aoI nI cI, .slice aoM nM cM, .slice aoR nR cR, .string HD, .string ⟨#[]⟩] 63 (0, 0))) := ⟨HRW.out.1, (o11 eb HRW.out.1 (heap_lt HRW.out.2)).trans HRW.out.2⟩
   have HST1 : Hid (PStB p a B w11 rb (no : Nat) ls S (m + 1)) := HST.out.1.toPStB.wrote hg (Or.inl H.out.c4)
   have HBM : Hid (B ≤ p.mm) := by
    rcases Nat.lt_or_ge p.mm B with q | q
    ·have h1 := H.out.low p.mm q; have h2 := H.out.c4; omega
    ·exact q
   have HBL1 : Hid (Below B w w11) := (HST.out.2.mono H.out.bw).grown hg HST.out.1.bw (fun k hk => by have h1 := Option.some.inj hk; have h2 := HBM.out; omega)
   have HU1 : Hid (UMap w11 p.mm (p.n3 + (firstS outs ++ behindS outs tBar).length) ((firstS outs ++ behindS outs tBar).reverse ++ madeS S)) := hu
   have c2 : w11.cell? ⟨rb, 2, none⟩ = some (.pointer (some ⟨p.sb, 0, none⟩)) := by rw [cell_of_row _ _ _ _ _ _ HST1.out.row]; rfl
   have HSZ : Hid (w.heap.size ≤ w11.heap.size) := by show _ ≤ _; omega
   clear hu hg o11 z0 HTX HRW HST htw HCL HBD HBM hsz11 hsz1
   generalize hOU : firstS outs ++ behindS outs tBar = OU at *
   have HOUe : Hid (firstS outs ++ behindS outs tBar = OU) := hOU
   clear hOU
   go_wp2_with fail
   refine (newScope_any (.pointer (some ⟨p.sb, 0, none⟩)) ⟨_, rfl⟩ w11).mono ?_
   rintro e w12 ⟨sb2, tb2, rfl, hs2, hm2, ht2, ht3, hb2⟩
   have HMD : Hid (OwnMid p a B w w11 rb ls S (m + 1) sb2 tb2 (OU.reverse ++ madeS S) (p.n3 + OU.length) w12 p.vl (no : Nat) ls [] 0) := {
    st := HST1.out.below hb2
    eqn := rfl
    map := hm2
    row := hs2
    same := fun k _ hk => hb2.block k hk
    umap := TMap.keep HU1.out (hb2.block _ HU1.out.lt)
    bl := HBL1.out.trans (hb2.mono (Nat.le_trans H.out.bw HSZ.out))
    few := by show 0 + ls.length ≤ ls.length ∧ 0 + ls.length ≤ ls.length; omega
    bok := fun x hx => by cases hx
    tb1 := ⟨ht2, ht3, heap_lt hs2⟩
    w01 := HSZ.out }
   have HCT : Hid (p.c tb2 = 7) := HC7.out tb2 (Nat.le_trans HSZ.out ht2)
   have HPS : Hid (p.sb < w.heap.size) := heap_lt H.out.const.now.2.1
   clear hs2 hm2 ht2 ht3 hb2 c2 HST1 HBL1 HU1
   go_wp2_with fail
   go_loopw [] (fun wr => ∃ (vl : Value) (n : Int) (rest : List Line) (own : Binds) (nn : Nat), OwnMid p a B w w11 rb ls S (m + 1) sb2 tb2 (OU.reverse ++ madeS S) (p.n3 + OU.length) wr vl n rest own nn) (fun wr => lenVP (wr.cell? ⟨rb, 1, none⟩))
   case atStart => exact ⟨_, _, _, _, _, HMD.out⟩
   case round =>
    obtain ⟨vl, n, rest, own, nn, hmd⟩ := hrel
    have HM : Hid (OwnMid p a B w w11 rb ls S (m + 1) sb2 tb2 (OU.reverse ++ madeS S) (p.n3 + OU.length) wr vl n rest own nn) := hmd
    have HBA : Hid (Calls Tryz.prog 263 #[.pointer (some ⟨rb, 0, none⟩)] wr fun e w' => e = .returned (.bool (indented rest).isSome) ∧ w' = wr) := boundB_any hmd.st
    clear hmd
    cases hin : (indented rest).isSome with
    | true =>
     rw [hin] at HBA
     obtain ⟨x, r, rfl⟩ : ∃ x r, rest = x :: r := by
      cases rest with
      | nil => cases hin
      | cons x r => exact ⟨x, r, rfl⟩
     have HIN : Hid ((indented (x :: r)).isSome = true) := hin
     have HTK := takeB_any HM.out.st
     have hx4 : x.2.size ≤ 4000 := HM.out.st.ok.lines x List.mem_cons_self
     have HLE : Hid (lenVP (wr.cell? ⟨rb, 1, none⟩) = r.length + 1) := by
      show _ = _
      obtain ⟨ao, cap, hv, _, _⟩ := HM.out.st.const.now.1
      rw [cell_of_row _ _ _ _ _ _ HM.out.st.row]
      show lenVP (some vl) = _
      rw [show vl = _ from hv]; rfl
     clear hin
     go_wp2_with fail
     refine HBA.out.mono ?_
     rintro e w13 ⟨rfl, hw⟩
     rw [hw]
     clear hw
     go_wp2_with fail
     refine HTK.mono ?_
     rintro e w14 ⟨rfl, ⟨vl', hst⟩, hg⟩
     have h1 := HM.out.tb1
     have h2 := HSZ.out
     have hrb : rb < w.heap.size := H.out.rowlt
     have o13 : ∀ k, k < wr.heap.size → k ≠ rb → w14.heap[k]? = wr.heap[k]? := fun k hk hn => hg.block k hk (fun e => hn (Option.some.inj e))
     have hs14 := hg.size
     have hscp : ScopesAt w14 (.pointer (some ⟨sb2, 0, none⟩)) [own, S.top] := ⟨sb2, tb2, nn, .pointer (some ⟨p.sb, 0, none⟩), rfl, (by show p.sb + 1 ≤ sb2; have := HPS.out; omega), (o13 sb2 (by omega) (by omega)).trans HM.out.row, TMap.keep HM.out.map (o13 tb2 (by omega) (by omega)), p.sb, p.tb, p.n1, .pointer none, rfl, Nat.zero_le _, hst.const.now.2.1, hst.top, rfl⟩
     have HRV := readVariable_any (n := (x.1 : Nat)) (t := x.2) hst.at0 hst.gl hx4 ((o13 sb2 (by omega) (by omega)).trans HM.out.row) (TMap.keep HM.out.map (o13 tb2 (by omega) (by omega))) (by have := HM.out.few; have := H.out.ok.count; omega) hscp (fun l hl => by
      rcases List.mem_cons.1 hl with rfl | hl
      ·exact HM.out.bok
      ·obtain rfl := List.mem_singleton.1 hl
       exact H.out.ok.top)
     have HST4 : Hid (PStB { p with vl := vl' } a B w14 rb (x.1 : Nat) r S (m + 1) ∧ wr.grownBy w14 (some rb)) := ⟨hst, hg⟩
     have HEQ := HM.out.eqn.trans (ownS_step HIN.out)
     clear hst hg h1 h2 o13 hs14 hscp HTK
     generalize hvr : varR (envL [own, S.top]) x.2 = VR at *
     go_wp2_with fail
     refine HRV.mono ?_
     intro e w15 hend
     cases VR with
     | none =>
      obtain ⟨⟨b, rfl, s0, s1⟩, hb8⟩ := hend
      refine ⟨rfl, ?_⟩
      rw [HF.out, HEQ]
      exact ⟨⟨b, rfl, s0, s1⟩, (HM.out.bl.grown HST4.out.2 HM.out.st.bw (fun k hk => by have h1 := Option.some.inj hk; have h2 := H.out.lowrb; omega)).trans (hb8.mono HST4.out.1.bw)⟩
     | some xy =>
      obtain ⟨rfl, hm15, hg15⟩ := hend
      have HMN : Hid (OwnMid p a B w w11 rb ls S (m + 1) sb2 tb2 (OU.reverse ++ madeS S) (p.n3 + OU.length) w15 vl' (x.1 : Nat) r (setB own xy.1 xy.2) (nn + 1)) := HM.out.bound HST4.out.1 HST4.out.2 hm15 hg15 hvr HIN.out HCT.out hrb H.out.lowrb hmw hmr hx4
      clear hm15 hg15
      go_wp2_with fail
      refine ⟨⟨_, _, _, _, _, HMN.out⟩, ?_⟩
      rw [HLE.out]
      obtain ⟨ao, cap, hv, _, _⟩ := HMN.out.st.const.now.1
      rw [cell_of_row _ _ _ _ _ _ HMN.out.st.row]
      show lenVP (some vl') < _
      rw [show vl' = _ from hv]
      exact Nat.lt_succ_self _
    | false =>
     rw [hin] at HBA
     have HFN : Hid (buildS S no t ls = .ok ({ S with edges := S.edges ++ [edgeOf outs ins HD own] }, rest)) := by
      rw [HF.out, HM.out.eqn, ownS_stop hin]; rfl
     clear hin
     go_wp2_with fail
     refine HBA.out.mono ?_
     rintro e w13 ⟨rfl, hw⟩
     rw [hw]
     clear hw
     have h1 := HM.out.tb1
     have h2 := HSZ.out
     have h3 : eb < w11.heap.size := heap_lt HRW1.out.2
     have HRE : Hid (wr.heap[eb]? = some (.cells #[.slice aoO nO cO, .slice aoI nI cI, .slice aoM nM cM, .slice aoR nR cR, .string HD, .string ⟨#[]⟩] 63 (0, 0))) := (HM.out.same eb HRW1.out.1 h3).trans HRW1.out.2
     have e0 : wr.cell? ⟨eb, 0, none⟩ = some (.slice aoO nO cO) := by rw [cell_of_row _ _ _ _ _ _ HRE.out]; rfl
     have e1 : wr.cell? ⟨eb, 1, none⟩ = some (.slice aoI nI cI) := by rw [cell_of_row _ _ _ _ _ _ HRE.out]; rfl
     have e2 : wr.cell? ⟨eb, 2, none⟩ = some (.slice aoM nM cM) := by rw [cell_of_row _ _ _ _ _ _ HRE.out]; rfl
     have e3 : wr.cell? ⟨eb, 3, none⟩ = some (.slice aoR nR cR) := by rw [cell_of_row _ _ _ _ _ _ HRE.out]; rfl
     have e4 : wr.cell? ⟨eb, 4, none⟩ = some (.string HD) := by rw [cell_of_row _ _ _ _ _ _ HRE.out]; rfl
     have e5 : wr.cell? ⟨eb, 5, none⟩ = some (.string ⟨#[]⟩) := by rw [cell_of_row _ _ _ _ _ _ HRE.out]; rfl
     have d5 : wr.cell? ⟨rb, 5, none⟩ = some (.slice aod EL capd) := by rw [cell_of_row _ _ _ _ _ _ HM.out.st.row]; exact congrArg some HVD.out
     have HLT : Hid (sb2 < wr.heap.size ∧ w11.heap.size ≤ tb2 ∧ tb2 < sb2) := ⟨h1.2.2, h1.1, h1.2.1⟩
     clear h1 h2 h3
     go_wp2_with fail
     refine wp_region_any (by kernel_rfl) ?_
     change wpAny _ _ _ _ _ _ _ (World.drew _)
     refine wpAny_take (i := 0) (v := .pointer (some ⟨rb, 0, none⟩)) rfl (by kernel_rfl) (by kernel_rfl) (by kernel_rfl) (fun _ _ _ h => h) (Or.inl ⟨by rfl, ?_⟩) ?_
     ·intro w
      go_simp
     refine wpAny_take (i := 1) (v := .pointer (some ⟨rb, 0, none⟩)) rfl (by kernel_rfl) (by kernel_rfl) (by kernel_rfl) (fun _ _ _ h => h) (Or.inl ⟨by rfl, ?_⟩) ?_
     ·intro w
      go_simp
     refine wpAny_take (i := 2) (v := .pointer (some ⟨rb, 0, none⟩)) rfl (by kernel_rfl) (by kernel_rfl) (by kernel_rfl) (fun _ _ _ h => h) (Or.inl ⟨by rfl, ?_⟩) ?_
     ·intro w
      go_simp
     refine wpAny_take (i := 3) (v := .pointer (some ⟨rb, 5, none⟩)) rfl (by kernel_rfl) (by kernel_rfl) (by kernel_rfl) (fun _ _ _ h => h) (Or.inl ⟨by rfl, ?_⟩) ?_
     ·intro w
      go_simp
     refine wpAny_take (i := 6) (v := .pointer (some ⟨sb2, 0, none⟩)) rfl (by kernel_rfl) (by kernel_rfl) (by kernel_rfl) (fun _ _ _ h => h) (Or.inl ⟨by rfl, ?_⟩) ?_
     ·intro w
      go_simp
     have d5a : (wr.alloc (.cells #[.slice aoO nO cO, .slice aoI nI cI, .slice aoM nM cM, .slice aoR nR cR, .string HD, .string ⟨#[]⟩, .pointer (some ⟨sb2, 0, none⟩)] 311)).cell? ⟨rb, 5, none⟩ = some (.slice aod EL capd) := (((Below.refl wr.heap.size wr).alloc (Nat.le_refl _) _).cell (p := ⟨rb, 5, none⟩) HM.out.st.rowlt).trans d5
     refine wpAny_ready (rs := [4, 5]) (by kernel_rfl) (by simp) ?_
     refine AllReady.cons rfl (fun K hK => ?ordA) (AllReady.cons rfl (fun K hK => ?ordB) AllReady.nil)
     case' ordA =>
      go_simp
      refine hK _ _ ?_
      clear hK K
      refine wpAny_ready (rs := [5]) (by kernel_rfl) (by simp) ?_
      refine AllReady.cons rfl (fun K hK => ?_) AllReady.nil
      go_simp
      refine hK _ _ ?_
      clear hK K
      refine wpAny_ready (rs := [7]) (by kernel_rfl) (by simp) ?_
      refine AllReady.cons rfl (fun K hK => ?_) AllReady.nil
      go_simp
      refine hK _ _ ?_
      clear hK K
      refine wpAny_ready (rs := [8]) (by kernel_rfl) (by simp) ?_
      refine AllReady.cons rfl (fun K hK => ?_) AllReady.nil
      go_simp
     case' ordB =>
      go_simp
      refine hK _ _ ?_
      clear hK K
      refine wpAny_take (i := 7) (v := .agg #[.slice aoO nO cO, .slice aoI nI cI, .slice aoM nM cM, .slice aoR nR cR, .string HD, .string ⟨#[]⟩, .pointer (some ⟨sb2, 0, none⟩)]) rfl (by kernel_rfl) (by kernel_rfl) (by kernel_rfl) (fun _ _ _ h => h) (Or.inl ⟨by rfl, ?_⟩) ?_
      ·intro w
       go_simp
      refine wpAny_ready (rs := [4, 8]) (by kernel_rfl) (by simp) ?_
      refine AllReady.cons rfl (fun K hK => ?ordC) (AllReady.cons rfl (fun K hK => ?ordD) AllReady.nil)
      case' ordC =>
       go_simp
       refine hK _ _ ?_
       clear hK K
       refine wpAny_ready (rs := [8]) (by kernel_rfl) (by simp) ?_
       refine AllReady.cons rfl (fun K hK => ?_) AllReady.nil
       go_simp
      case' ordD =>
       go_simp
       refine hK _ _ ?_
       clear hK K
       refine wpAny_ready (rs := [4]) (by kernel_rfl) (by simp) ?_
       refine AllReady.cons rfl (fun K hK => ?_) AllReady.nil
       go_simp
     all_goals
      refine hK _ _ ?_
      clear hK K d5a
      obtain ⟨W8, hW8⟩ : ∃ W8, W8 = (wr.alloc (.cells #[.slice aoO nO cO, .slice aoI nI cI, .slice aoM nM cM, .slice aoR nR cR, .string HD, .string ⟨#[]⟩, .pointer (some ⟨sb2, 0, none⟩)] 311)).drew := ⟨_, rfl⟩
      have HL8 : Hid (Below wr.heap.size wr W8) := by rw [hW8]; exact ((Below.refl _ _).alloc (Nat.le_refl _) _).drew
      have HN8 : Hid (∀ j u, ([.slice aoO nO cO, .slice aoI nI cI, .slice aoM nM cM, .slice aoR nR cR, .string HD, .string ⟨#[]⟩, .pointer (some ⟨sb2, 0, none⟩)] : List Value)[j]? = some u → W8.cell? ((⟨wr.heap.size, 0, none⟩ : Addr).add j) = some u) := by rw [hW8]; exact newCells wr _ _
      rw [← hW8]
      clear hW8
      have HP8 : Hid (PStB { p with vl := vl } a B W8 rb n rest S (m + 1)) := HM.out.st.below HL8.out
      have HD8 : Hid (W8.ownsRow B 311 7 (.slice aod EL capd) EL (dcells p.ds)) := by
       have h := HP8.out.drafts
       rw [show ({ p with vl := vl } : PV).vd = _ from HVD.out, HEL.out] at h
       exact h
      refine wpAny_ready (rs := [9]) (by kernel_rfl) (by simp) ?_
      refine AllReady.cons rfl (fun K hK => ?_) AllReady.nil
      refine step_append_lies _ rfl (.tmp 124) (.tmp 128) 199 rfl B 311 ti (.agg #[.slice none 0 0, .slice none 0 0, .slice none 0 0, .slice none 0 0, .string ⟨#[]⟩, .string ⟨#[]⟩, .pointer none]) 7 136 Tryz.underlying199 HTI.out.1 HTI.out.2.2.2 HTI.out.2.1 HTI.out.2.2.1 rfl (by decide) _ EL (dcells p.ds) rfl HD8.out ⟨wr.heap.size, 0, none⟩ 1 1 [.slice aoO nO cO, .slice aoI nI cI, .slice aoM nM cM, .slice aoR nR cR, .string HD, .string ⟨#[]⟩, .pointer (some ⟨sb2, 0, none⟩)] rfl rfl HN8.out (by intro u hu; simp only [List.mem_cons, List.not_mem_nil, or_false] at hu; rcases hu with rfl | rfl | rfl | rfl | rfl | rfl | rfl <;> rfl) (by decide) (by unfold maxLen; omega) (by omega) (by have h1 := HP8.out.bw; exact h1) _ rfl ?_
      intro g6 cap6 w6' hv6 hg6 hat6 hlt6
      have HPF : Hid (PStC { p with vl := vl, vd := .slice (some ⟨g6, 0, none⟩) (EL + 1) cap6, c := fun k => if (Value.slice (some ⟨g6, 0, none⟩) (EL + 1) cap6).ownBlock = some k then 5 else if p.c k = 7 then 0 else p.c k, n3 := p.n3 + OU.length, ds := p.ds ++ [⟨.slice aoO nO cO, .slice aoI nI cI, .slice aoM nM cM, .slice aoR nR cR, HD, sb2⟩] } a B (w6'.setCell ⟨rb, 5, none⟩ (.slice (some ⟨g6, 0, none⟩) (EL + 1) cap6)) rb n rest { S with edges := S.edges ++ [edgeOf outs ins HD own] } m) := by
       have hou : (edgeOf outs ins HD own).outs = OU := HOUe.out
       have hadd := HP8.out.addEdge (W0 := w.heap.size) (w3 := w6') (vd' := .slice (some ⟨g6, 0, none⟩) (EL + 1) cap6) (d := ⟨.slice aoO nO cO, .slice aoI nI cI, .slice aoM nM cM, .slice aoR nR cR, HD, sb2⟩) (e := edgeOf outs ins HD own) (by rw [hou]; exact TMap.keep HM.out.umap (HL8.out.block _ HM.out.umap.lt)) HC7.out (fun w'' hk => by
         have hlt := HLT.out
         have h2 := HSZ.out
         have h8 := HL8.out.size
         have h4 : ∀ k, w.heap.size ≤ k → k < wr.heap.size → w''.heap[k]? = wr.heap[k]? := fun k h1 h3 => (hk k h1 (by omega)).trans (HL8.out.block k h3)
         have h5 : ∀ k, w.heap.size ≤ k → k < w11.heap.size → w''.heap[k]? = w11.heap[k]? := fun k h1 h3 => (h4 k h1 (by omega)).trans (HM.out.same k h1 h3)
         refine ⟨?_, (HTX1.out.2.1.same h5).1, (HTX1.out.2.2.1.same h5).1, (HTX1.out.2.2.2.same h5).1, rfl, tb2, nn, ?_, (h4 sb2 (by omega) hlt.1).trans HM.out.row, TMap.keep HM.out.map (h4 tb2 (by omega) (by omega))⟩
         ·rw [hou]; exact (HTX1.out.1.same h5).1
         ·show p.sb < sb2
          have := HPS.out
          omega) (by rw [show ({ p with vl := vl } : PV).vd = _ from HVD.out]; exact hg6) (by rw [HEL.out]; exact hv6) (fun k hk => by
         have e : g6 = k := Option.some.inj hk
         subst e
         rw [show ({ p with vl := vl } : PV).vd = _ from HVD.out]
         rcases hat6 with e2 | e2
         ·exact Or.inl e2
         ·right; rw [e2]; exact Nat.le_refl _) ⟨HM.out.bok, (by have h1 := HM.out.few; have h2 := H.out.ok.count; show own.length ≤ 5000; omega), (by rw [hou]; have h1 := HOU.out.1; omega), HIU.out.1, (by rw [hou]; exact HOU.out.2), HIU.out.2.2.2, HIU.out.2.1, HIU.out.2.2.1⟩ (by rw [HEL.out]; omega)
       rw [hou] at hadd
       exact hadd
      have HB6 : Hid (Below B w (w6'.setCell ⟨rb, 5, none⟩ (.slice (some ⟨g6, 0, none⟩) (EL + 1) cap6))) := ((HM.out.bl.trans (HL8.out.mono HM.out.st.bw)).grown hg6 HP8.out.bw (fun k hk => (rblock HD8.out k hk).1)).setCell (p := ⟨rb, 5, none⟩) H.out.lowrb _
      have hrow6 : w6'.heap[rb]? = W8.heap[rb]? := hg6.block rb HP8.out.rowlt (fun e => by
       have h1 := HP8.out.c5 rb (by rw [show ({ p with vl := vl } : PV).vd = _ from HVD.out]; exact e.symm)
       have h2 := HP8.out.c1
       omega)
      have d6 : w6'.cell? ⟨rb, 5, none⟩ = some (.slice aod EL capd) := by
       rw [World.cell?_of_block (w := W8) (a := ⟨rb, 5, none⟩) hrow6, cell_of_row _ _ _ _ _ _ HP8.out.row]; exact congrArg some HVD.out
      have f6 : w6'.frozen? ⟨rb, 5, none⟩ = false := frozen_of_row _ _ _ _ _ (hrow6.trans HP8.out.row)
      clear hv6 hg6 hat6 hlt6 hrow6
      refine hK _ _ ?_
      clear hK K
      refine wpAny_take (i := 10) (v := .pointer (some ⟨rb, 0, none⟩)) rfl (by kernel_rfl) (by kernel_rfl) (by kernel_rfl) (fun _ _ _ h => h) (Or.inl ⟨by rfl, ?_⟩) ?_
      ·intro w
       go_simp
      refine wpAny_take (i := 11) (v := .pointer (some ⟨rb, 5, none⟩)) rfl (by kernel_rfl) (by kernel_rfl) (by kernel_rfl) (fun _ _ _ h => h) (Or.inl ⟨by rfl, ?_⟩) ?_
      ·intro w
       go_simp
      refine wpAny_ready (rs := [12]) (by kernel_rfl) (by simp) ?_
      refine AllReady.cons rfl (fun K hK => ?_) AllReady.nil
      go_simp
      refine hK _ _ ?_
      clear hK K
      refine wpAny_done (by kernel_rfl) ?_ _
      generalize w6'.setCell ⟨rb, 5, none⟩ (.slice (some ⟨g6, 0, none⟩) (EL + 1) cap6) = w7' at *
      clear d6 f6
      go_wp2_with fail
      go_end0
      rw [HFN.out]
      exact ⟨rfl, ⟨_, _, HPF.out⟩, HB6.out⟩
end Go.Proofs.YthhbpebihgjpjaaGreatDoor
