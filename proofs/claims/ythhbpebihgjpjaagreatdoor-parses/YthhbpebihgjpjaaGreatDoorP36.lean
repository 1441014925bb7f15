import Derived.Test.YthhbpebihgjpjaaGreatDoorP28
import Derived.Test.YthhbpebihgjpjaaGreatDoorP29
import Derived.Test.YthhbpebihgjpjaaGreatDoorP26
import Derived.Test.YthhbpebihgjpjaaGreatDoorP33
import Derived.Test.YthhbpebihgjpjaaGreatDoorP35
namespace Go.Proofs.YthhbpebihgjpjaaGreatDoor
open Go.RowKit
set_option maxRecDepth 1000000

def RBuildDone : Prop := ∀ (r : RV) (ds : List REdgeV) (c : Nat → Nat) (B : Nat) (w : World) (rb : Nat) (L : List Line) (S : St) (m : Nat) (x : Line) (t : ByteArray), RSt r ds c B w rb L S (m + 1) → L[r.at']? = some x → t.size ≤ 4000 → Calls Tryz.prog 285 #[.pointer (some ⟨rb, 0, none⟩), .string t] w (rstmtEnd B rb m L w (buildS S x.1 t (said (L.drop (r.at' + 1)))))
def rstepEnd (r : RV) (ds : List REdgeV) (c : Nat → Nat) (B rb m : Nat) (L : List Line) (w : World) (S : St) (x : Line) (e : Ending) (w' : World) : Prop :=
 if emptyB x.2 = true then e = .returned (.tuple #[]) ∧ RSt { r with at' := r.at' + 1 } ds c B w' rb L S (m + 1) ∧ Below B w w' else rstmtEnd B rb m L w (stmtS S x.1 x.2 (said (L.drop (r.at' + 1)))) e w'
theorem rstmtEnd.from {B rb m : Nat} {L : List Line} {w w1 w' : World} {res : Res} {e : Ending} (h : rstmtEnd B rb m L w1 res e w') (hb : Below B w w1) : rstmtEnd B rb m L w res e w' := ⟨h.1, hb.trans h.2.1, h.2.2⟩
set_option maxHeartbeats 16000000 in
theorem rstatement_other (hBD : RBuildDone) {r : RV} {ds : List REdgeV} {c : Nat → Nat} {B : Nat} {w : World} {rb : Nat} {L : List Line} {S : St} {m : Nat} {x : Line} (h : RSt r ds c B w rb L S (m + 1)) (hx : L[r.at']? = some x) (hnd : keywordB x.2 tDefault = false) :
  Calls Tryz.prog 211 #[.pointer (some ⟨rb, 0, none⟩)] w (rstepEnd r ds c B rb m L w S x) := by
 have HBD : Hid RBuildDone := hBD
 have HND : Hid (keywordB x.2 tDefault = false) := hnd
 clear hnd
 have H : Hid (RSt r ds c B w rb L S (m + 1)) := h
 have HX : Hid (L[r.at']? = some x) := hx
 have hts : x.2.size ≤ 4000 := h.len.2 x (List.mem_of_getElem? hx)
 obtain ⟨aol, capl, hvl, hcl, hll⟩ := h.const.now.1
 obtain ⟨gl, ol, rfl, hl2⟩ : ∃ g o, aol = some ⟨g, o, none⟩ ∧ ∀ (k : Nat) x, L[k]? = some x → w.cell? ⟨g, o + k * 2, none⟩ = some (.string x.2) ∧ w.cell? ⟨g, o + k * 2 + 1, none⟩ = some (.int .i64 (x.1 : Nat)) := by
  rcases hll with e | e
  ·rw [e] at hx; simp at hx
  ·exact e
 have d1 := (hl2 r.at' x hx).1
 have c0 : w.cell? ⟨rb, 0, none⟩ = some (.slice (some ⟨gl, ol, none⟩) L.length capl) := by rw [cell_of_row _ _ _ _ _ _ h.row]; exact congrArg some hvl
 have c1 : w.cell? ⟨rb, 1, none⟩ = some (.int .i64 (r.at' : Nat)) := by rw [cell_of_row _ _ _ _ _ _ h.row]; rfl
 have hjl : r.at' < L.length := (List.getElem?_eq_some_iff.1 hx).1
 have j0 : (0 : Int) ≤ (r.at' : Int) := by omega
 have jl : (r.at' : Int) < (L.length : Int) := by omega
 have ll5 : (L.length : Int) ≤ 5000 := by have := h.len.1; omega
 have HST : Hid (stmtS S x.1 x.2 (said (L.drop (r.at' + 1))) = if begins x.2 32 = true then .error (.syn, x.1)
  else if keywordB x.2 tRule = true then ruleS S x.1 (x.2.extract 4 x.2.size) (said (L.drop (r.at' + 1)))
  else if keywordB x.2 tBuild = true then buildS S x.1 (x.2.extract 5 x.2.size) (said (L.drop (r.at' + 1)))
  else if keywordB x.2 tDefault = true then defaultS S x.1 (x.2.extract 7 x.2.size) (said (L.drop (r.at' + 1)))
  else varS S x.1 x.2 (said (L.drop (r.at' + 1)))) := rfl
 have HEM : Hid (∀ wx, Calls Tryz.prog 281 #[.string x.2] wx fun e w' => e = .returned (.bool (emptyB x.2)) ∧ w' = wx) := fun wx => rempty_any x.2 (by omega) wx
 have HK1 : Hid (∀ wx, Calls Tryz.prog 282 #[.string x.2, .string ⟨#[114, 117, 108, 101]⟩] wx fun e w' => e = .returned (.bool (keywordB x.2 tRule)) ∧ w' = wx) := fun wx => rkeyword_any x.2 tRule (by omega) wx
 have HK2 : Hid (∀ wx, Calls Tryz.prog 282 #[.string x.2, .string ⟨#[98, 117, 105, 108, 100]⟩] wx fun e w' => e = .returned (.bool (keywordB x.2 tBuild)) ∧ w' = wx) := fun wx => rkeyword_any x.2 tBuild (by omega) wx
 have HK3 : Hid (∀ wx, Calls Tryz.prog 282 #[.string x.2, .string ⟨#[100, 101, 102, 97, 117, 108, 116]⟩] wx fun e w' => e = .returned (.bool (keywordB x.2 tDefault)) ∧ w' = wx) := fun wx => rkeyword_any x.2 tDefault (by omega) wx
 clear h hx hvl hcl hll hl2 hBD
 cases hem : emptyB x.2 with
 | true =>
  rw [hem] at HEM
  have HG : Hid (∀ e w', (e = .returned (.tuple #[]) ∧ RSt { r with at' := r.at' + 1 } ds c B w' rb L S (m + 1) ∧ Below B w w') → rstepEnd r ds c B rb m L w S x e w') := fun e w' hq => by unfold rstepEnd; rw [if_pos hem]; exact hq
  clear hem
  go_enter Tryz.func211, Tryz.ntmps211
  go_wp2_with fail
  go_quiet (fail)
  have HS1 : Hid (RSt r ds c B (w.drewN nq) rb L S (m + 1)) := H.out.below (below_drewN (Below.refl _ _) nq)
  have HB1 : Hid (Below B w (w.drewN nq)) := below_drewN (Below.refl _ _) nq
  generalize w.drewN nq = w1 at *
  clear c0 c1 d1
  go_wp2_with fail
  refine (HEM.out _).mono ?_
  rintro e w2 ⟨rfl, hw⟩
  rw [hw]
  clear hw w2
  go_wp2_with fail
  refine (HK1.out _).mono ?_
  rintro e w2 ⟨rfl, hw⟩
  rw [hw]
  clear hw w2
  go_wp2_with fail
  refine (HK2.out _).mono ?_
  rintro e w2 ⟨rfl, hw⟩
  rw [hw]
  clear hw w2
  go_wp2_with fail
  refine (HK3.out _).mono ?_
  rintro e w2 ⟨rfl, hw⟩
  rw [hw]
  clear hw w2
  have c11 : w1.cell? ⟨rb, 1, none⟩ = some (.int .i64 (r.at' : Nat)) := by rw [cell_of_row _ _ _ _ _ _ HS1.out.row]; rfl
  have f11 : w1.frozen? ⟨rb, 1, none⟩ = false := frozen_of_row _ _ _ _ _ HS1.out.row
  have HS3 : Hid (RSt { r with at' := r.at' + 1 } ds c B (w1.setCell ⟨rb, 1, none⟩ (.int .i64 ((r.at' : Int) + 1))) rb L S (m + 1)) := HS1.out.moved (j := r.at' + 1) ⟨rfl, rfl, rfl, by simp, fun k hk hn => heap_setCell_other _ _ _ _ (fun e => hn (by rw [e]))⟩ (RRow.setAt HS1.out.row (r.at' + 1) _ (by omega))
  have HB3 : Hid (Below B w (w1.setCell ⟨rb, 1, none⟩ (.int .i64 ((r.at' : Int) + 1)))) := HB1.out.setCell (p := ⟨rb, 1, none⟩) HS1.out.rlow _
  go_wp2_with fail
  go_end0
  exact HG.out _ _ ⟨rfl, HS3.out, HB3.out⟩
 | false =>
  have HG : Hid (∀ e w', rstmtEnd B rb m L w (stmtS S x.1 x.2 (said (L.drop (r.at' + 1)))) e w' → rstepEnd r ds c B rb m L w S x e w') := fun e w' hq => by unfold rstepEnd; rw [if_neg (by rw [hem]; decide)]; exact hq
  have hpos : 0 < x.2.size := by
   rcases Nat.eq_zero_or_pos x.2.size with q | q
   ·exfalso
    have h1 := leftB_le x.2
    have h2 : (leftB x.2).size = 0 := by omega
    unfold emptyB at hem
    simp [h2] at hem
   ·exact q
  have hix0 : ∀ wx, (Instr.index 9 (.string x.2) (.int .i64 0)).run Tryz.prog wx = .ok (.int .u8 (byteOf x.2 0)) wx := fun wx => run_index_text x.2 0 hpos wx
  have hp1 : (0 : Int) < (x.2.size : Int) := by omega
  rw [hem] at HEM
  clear hem
  have hbs := begins_spec x.2 32
  cases hbg : begins x.2 32 with
  | true =>
   have HF : Hid (stmtS S x.1 x.2 (said (L.drop (r.at' + 1))) = .error (.syn, x.1)) := by rw [HST.out, if_pos hbg]; rfl
   rw [hbg] at hbs
   have hb32 : byteOf x.2 0 = 32 := (of_decide_eq_true hbs.symm).2
   have b1 : (((byteOf x.2 0 : Nat) : Int) == 32) = true := by simp; omega
   clear hbs hbg hb32 HST
   generalize keywordB x.2 tRule = k1 at *
   generalize keywordB x.2 tBuild = k2 at *
   generalize keywordB x.2 tDefault = k3 at *
   generalize byteOf x.2 0 = b0 at *
   go_enter Tryz.func211, Tryz.ntmps211
   go_wp2_with fail
   go_quiet (fail)
   have HS1 : Hid (RSt r ds c B (w.drewN nq) rb L S (m + 1)) := H.out.below (below_drewN (Below.refl _ _) nq)
   have HB1 : Hid (Below B w (w.drewN nq)) := below_drewN (Below.refl _ _) nq
   generalize w.drewN nq = w1 at *
   clear c0 c1 d1
   go_wp2_with fail
   refine (HEM.out _).mono ?_
   rintro e w2 ⟨rfl, hw⟩
   rw [hw]
   clear hw w2
   go_wp2_with fail
   refine (HK1.out _).mono ?_
   rintro e w2 ⟨rfl, hw⟩
   rw [hw]
   clear hw w2
   go_wp2_with fail
   refine (HK2.out _).mono ?_
   rintro e w2 ⟨rfl, hw⟩
   rw [hw]
   clear hw w2
   go_wp2_with fail
   refine (HK3.out _).mono ?_
   rintro e w2 ⟨rfl, hw⟩
   rw [hw]
   clear hw w2
   have HA1 := HS1.out.at HX.out
   have HFL : Hid (Calls Tryz.prog 283 #[.pointer (some ⟨rb, 0, none⟩), .int .i64 5] w1 fun e w' => e = .returned (.tuple #[]) ∧ RRow (r.failed 5 x.1) w' rb ∧ w1.grownBy w' (some rb)) := rfail_any 5 HA1.row HA1.lines HA1.at' HA1.ne
   clear HA1
   go_wp2_with fail
   refine HFL.out.mono ?_
   rintro e w3 ⟨rfl, hr3, hg3⟩
   have HFIN : Hid (rstmtEnd B rb m L w (stmtS S x.1 x.2 (said (L.drop (r.at' + 1)))) (.returned (.tuple #[])) w3) := by
    refine ⟨rfl, HB1.out.trans (grown_below hg3 HS1.out.rlow HS1.out.bw), ?_⟩
    rw [HF.out]
    exact ⟨_, hr3, RV.failed_e H.out.e0, RV.failed_line H.out.e0, RV.failed_sl H.out.sl⟩
   clear hr3 hg3
   go_wp2_with fail
   go_end0
   exact HG.out _ _ HFIN.out
  | false =>
   have hb32 : byteOf x.2 0 ≠ 32 := fun e => by rw [hbg] at hbs; exact (of_decide_eq_false hbs.symm) ⟨hpos, e⟩
   have b1 : (((byteOf x.2 0 : Nat) : Int) == 32) = false := by simp; omega
   have HST2 : Hid (stmtS S x.1 x.2 (said (L.drop (r.at' + 1))) = if keywordB x.2 tRule = true then ruleS S x.1 (x.2.extract 4 x.2.size) (said (L.drop (r.at' + 1)))
    else if keywordB x.2 tBuild = true then buildS S x.1 (x.2.extract 5 x.2.size) (said (L.drop (r.at' + 1)))
    else if keywordB x.2 tDefault = true then defaultS S x.1 (x.2.extract 7 x.2.size) (said (L.drop (r.at' + 1)))
    else varS S x.1 x.2 (said (L.drop (r.at' + 1)))) := HST.out.trans (if_neg (by rw [hbg]; decide))
   have HLS : Hid (leftB x.2 = x.2) := left_self (fun _ => hb32)
   have hkz : ∀ k, keywordB x.2 k = true → k.size ≤ x.2.size := fun k hk => by
    rw [keyword_is] at hk
    have h1 := of_decide_eq_true (Bool.and_eq_true_iff.1 hk).2
    have h2 := headB_size x.2
    have h3 : wordLenB x.2 ≤ x.2.size := spanLen_le _ _
    rw [← h1]; omega
   clear hbs hbg hb32 HST
   generalize byteOf x.2 0 = b0 at *
   cases hk1 : keywordB x.2 tRule with
   | true =>
    have hz : 4 ≤ x.2.size := hkz tRule hk1
    have HF : Hid (stmtS S x.1 x.2 (said (L.drop (r.at' + 1))) = ruleS S x.1 (x.2.extract 4 x.2.size) (said (L.drop (r.at' + 1)))) := HST2.out.trans (if_pos hk1)
    have hsl : ∀ wx, (Instr.slice 9 (.string x.2) (some (.int .i64 4)) none none).run Tryz.prog wx = .ok (.string (x.2.extract 4 x.2.size)) wx := fun wx => slice_from x.2 4 hz wx
    have hes : (x.2.extract 4 x.2.size).size ≤ 4000 := by rw [ByteArray.size_extract]; omega
    rw [hk1] at HK1
    clear hk1 hkz HST2
    generalize keywordB x.2 tBuild = k2 at *
    generalize keywordB x.2 tDefault = k3 at *
    generalize x.2.extract 4 x.2.size = T4 at *
    go_enter Tryz.func211, Tryz.ntmps211
    go_wp2_with fail
    go_quiet (fail)
    have HS1 : Hid (RSt r ds c B (w.drewN nq) rb L S (m + 1)) := H.out.below (below_drewN (Below.refl _ _) nq)
    have HB1 : Hid (Below B w (w.drewN nq)) := below_drewN (Below.refl _ _) nq
    generalize w.drewN nq = w1 at *
    clear c0 c1 d1
    go_wp2_with fail
    refine (HEM.out _).mono ?_
    rintro e w2 ⟨rfl, hw⟩
    rw [hw]
    clear hw w2
    go_wp2_with fail
    refine (HK1.out _).mono ?_
    rintro e w2 ⟨rfl, hw⟩
    rw [hw]
    clear hw w2
    go_wp2_with fail
    refine (HK2.out _).mono ?_
    rintro e w2 ⟨rfl, hw⟩
    rw [hw]
    clear hw w2
    go_wp2_with fail
    refine (HK3.out _).mono ?_
    rintro e w2 ⟨rfl, hw⟩
    rw [hw]
    clear hw w2
    go_wp2_with fail
    refine (rrule_any T4 HS1.out HX.out hes).mono ?_
    intro e w3 hend
    have HFIN : Hid (rstmtEnd B rb m L w (stmtS S x.1 x.2 (said (L.drop (r.at' + 1)))) (.returned (.tuple #[])) w3) := by rw [HF.out]; have h := hend.from HB1.out; exact ⟨rfl, h.2⟩
    obtain rfl := hend.1
    clear hend
    go_wp2_with fail
    go_end0
    exact HG.out _ _ HFIN.out
   | false =>
    rw [hk1] at HK1
    cases hk2 : keywordB x.2 tBuild with
    | true =>
     have hz : 5 ≤ x.2.size := hkz tBuild hk2
     have HF : Hid (stmtS S x.1 x.2 (said (L.drop (r.at' + 1))) = buildS S x.1 (x.2.extract 5 x.2.size) (said (L.drop (r.at' + 1)))) := (HST2.out.trans (if_neg (by rw [hk1]; decide))).trans (if_pos hk2)
     have hsl : ∀ wx, (Instr.slice 9 (.string x.2) (some (.int .i64 5)) none none).run Tryz.prog wx = .ok (.string (x.2.extract 5 x.2.size)) wx := fun wx => slice_from x.2 5 hz wx
     have hes : (x.2.extract 5 x.2.size).size ≤ 4000 := by rw [ByteArray.size_extract]; omega
     rw [hk2] at HK2
     clear hk1 hk2 hkz HST2
     generalize keywordB x.2 tDefault = k3 at *
     generalize x.2.extract 5 x.2.size = T4 at *
     go_enter Tryz.func211, Tryz.ntmps211
     go_wp2_with fail
     go_quiet (fail)
     have HS1 : Hid (RSt r ds c B (w.drewN nq) rb L S (m + 1)) := H.out.below (below_drewN (Below.refl _ _) nq)
     have HB1 : Hid (Below B w (w.drewN nq)) := below_drewN (Below.refl _ _) nq
     generalize w.drewN nq = w1 at *
     clear c0 c1 d1
     go_wp2_with fail
     refine (HEM.out _).mono ?_
     rintro e w2 ⟨rfl, hw⟩
     rw [hw]
     clear hw w2
     go_wp2_with fail
     refine (HK1.out _).mono ?_
     rintro e w2 ⟨rfl, hw⟩
     rw [hw]
     clear hw w2
     go_wp2_with fail
     refine (HK2.out _).mono ?_
     rintro e w2 ⟨rfl, hw⟩
     rw [hw]
     clear hw w2
     go_wp2_with fail
     refine (HK3.out _).mono ?_
     rintro e w2 ⟨rfl, hw⟩
     rw [hw]
     clear hw w2
     go_wp2_with fail
     refine (HBD.out _ _ _ _ _ _ _ _ _ _ T4 HS1.out HX.out hes).mono ?_
     intro e w3 hend
     have HFIN : Hid (rstmtEnd B rb m L w (stmtS S x.1 x.2 (said (L.drop (r.at' + 1)))) (.returned (.tuple #[])) w3) := by rw [HF.out]; have h := hend.from HB1.out; exact ⟨rfl, h.2⟩
     obtain rfl := hend.1
     clear hend
     go_wp2_with fail
     go_end0
     exact HG.out _ _ HFIN.out
    | false =>
     rw [hk2] at HK2
     cases hk3 : keywordB x.2 tDefault with
     | true =>
      have h := HND.out
      rw [hk3] at h
      cases h
     | false =>
      rw [hk3] at HK3
      have HF : Hid (stmtS S x.1 x.2 (said (L.drop (r.at' + 1))) = varS S x.1 x.2 (said (L.drop (r.at' + 1)))) := ((HST2.out.trans (if_neg (by rw [hk1]; decide))).trans (if_neg (by rw [hk2]; decide))).trans (if_neg (by rw [hk3]; decide))
      have HBS : Hid (bindS x.2 = bindR x.2) := by rw [bindS_left, HLS.out]; rfl
      obtain ⟨aot, capt, hvt, _, _⟩ := row_form H.out.top
      have HVT : Hid (r.vt = .slice aot S.top.length capt) := hvt
      have HTL : Hid (S.top.length ≤ 5000) := by have := H.out.ok.tops; show _ ≤ _; omega
      have HEE : Hid (∀ y, (envOf [] S.top y).size ≤ 1048576) := fun y => by
       rw [envOf_one]
       have := envL_size (ls := [S.top]) (fun l hl => by obtain rfl := List.mem_singleton.1 hl; exact H.out.ok.top) y
       omega
      clear hk1 hk2 hk3 hkz HST2 HLS hvt
      go_enter Tryz.func211, Tryz.ntmps211
      go_wp2_with fail
      go_quiet (fail)
      have HS1 : Hid (RSt r ds c B (w.drewN nq) rb L S (m + 1)) := H.out.below (below_drewN (Below.refl _ _) nq)
      have HB1 : Hid (Below B w (w.drewN nq)) := below_drewN (Below.refl _ _) nq
      generalize w.drewN nq = w1 at *
      clear c0 c1 d1
      go_wp2_with fail
      refine (HEM.out _).mono ?_
      rintro e w2 ⟨rfl, hw⟩
      rw [hw]
      clear hw w2
      go_wp2_with fail
      refine (HK1.out _).mono ?_
      rintro e w2 ⟨rfl, hw⟩
      rw [hw]
      clear hw w2
      go_wp2_with fail
      refine (HK2.out _).mono ?_
      rintro e w2 ⟨rfl, hw⟩
      rw [hw]
      clear hw w2
      go_wp2_with fail
      refine (HK3.out _).mono ?_
      rintro e w2 ⟨rfl, hw⟩
      rw [hw]
      clear hw w2
      have HA1 : Hid (RAt r w1 rb L x) := HS1.out.at HX.out
      have HBN := rbound_any x.2 HA1.out (by omega)
      go_wp2_with fail
      cases hbd : bindR x.2 with
      | none =>
       rw [hbd] at HBN
       have HV : Hid (varS S x.1 x.2 (said (L.drop (r.at' + 1))) = .error (.syn, x.1)) := by show _ = _; unfold varS; rw [HBS.out, hbd]
       clear hbd
       refine HBN.mono ?_
       rintro e w5 ⟨rfl, hr5, hg5⟩
       obtain ⟨r5, hr5e⟩ : ∃ r5, r5 = r.failed 5 x.1 := ⟨_, rfl⟩
       rw [← hr5e] at hr5
       have HA5 : Hid (RAt r5 w5 rb L x) := HA1.out.grown hg5 hr5 (by rw [hr5e]; exact ⟨(RV.failed_vl _ _ _).1, (RV.failed_vl _ _ _).2.1⟩)
       have HS5 : Hid (SlV r5.vl) := by rw [hr5e]; exact RV.failed_sl H.out.sl
       have H5 : Hid (RRow r5 w5 rb ∧ (r5.e = 5 ∧ r5.line = (x.1 : Nat)) ∧ r5.vt = r.vt ∧ r5.at' = r.at') := ⟨hr5, ⟨by rw [hr5e]; exact RV.failed_e H.out.e0, by rw [hr5e]; exact RV.failed_line H.out.e0⟩, by rw [hr5e]; exact (RV.failed_vl _ _ _).2.2, by rw [hr5e]; exact (RV.failed_vl _ _ _).2.1⟩
       have HOW : Hid (w5.ownsRow B 338 2 r.vt S.top.length (bcellsB S.top)) := rkeep HS1.out.top (fun k hk => hg5.block k (rblock HS1.out.top k hk).2 (fun e => by have h1 := HS1.out.c2 k hk; have h2 := HS1.out.c1; rw [Option.some.inj e] at h1; omega))
       have HB5 : Hid (Below B w w5) := HB1.out.trans (grown_below hg5 HS1.out.rlow HS1.out.bw)
       clear hr5 hg5 hr5e
       have HBT : BindsAt w5 r5.vt S.top := by rw [H5.out.2.2.1]; exact binds_of_row HOW.out
       have HVA := rvalue_any ⟨#[]⟩ [] S.top (.slice none 0 0) HA5.out ⟨none, 0, rfl, Nat.le_refl _, Or.inl ⟨rfl, trivial⟩⟩ HBT (Nat.zero_le _) (by have := HTL.out; omega) (by decide) HEE.out
       have HVA : Hid (Calls Tryz.prog 288 #[.pointer (some ⟨rb, 0, none⟩), .string ⟨#[]⟩, .slice none 0 0] w5 fun e w' => e = .returned (.string ⟨#[]⟩) ∧ w' = w5) := HVA
       clear HBT
       go_wp2_with fail
       refine HVA.out.mono ?_
       rintro e w6 ⟨rfl, hw⟩
       rw [hw]
       clear hw w6
       have HOW2 : Hid (w5.ownsRow B 338 2 (.slice aot S.top.length capt) S.top.length (bcellsB S.top)) := by rw [← HVT.out]; exact HOW.out
       have HSE := rset_any S.top (.slice aot S.top.length capt) ⟨#[]⟩ ⟨#[]⟩ B w5 HOW2.out (by have := HTL.out; omega) (Nat.le_trans H.out.bw HB5.out.size)
       have c25 : w5.cell? ⟨rb, 2, none⟩ = some (.slice aot S.top.length capt) := by rw [cell_of_row _ _ _ _ _ _ H5.out.1]; exact congrArg some (H5.out.2.2.1.trans HVT.out)
       go_wp2_with fail
       refine HSE.mono ?_
       rintro e w6 ⟨v', rfl, hv6, hg6, hat6⟩
       obtain ⟨ao6, cap6, rfl, _, _⟩ := row_form hv6
       have hrow6 : w6.heap[rb]? = w5.heap[rb]? := hg6.block rb H5.out.1.lt (fun e => by
        have h1 := H.out.c2 rb (by rw [HVT.out]; exact e.symm)
        have h2 := H.out.c1
        omega)
       have hr6 : RRow r5 w6 rb := hrow6.trans H5.out.1
       have c26 : w6.cell? ⟨rb, 2, none⟩ = some (.slice aot S.top.length capt) := (World.cell?_of_block (w := w5) (a := ⟨rb, 2, none⟩) hrow6).trans c25
       have f26 : w6.frozen? ⟨rb, 2, none⟩ = false := frozen_of_row _ _ _ _ _ hr6
       have HR7 : Hid (RRow { r5 with vt := (.slice ao6 (setB S.top ⟨#[]⟩ ⟨#[]⟩).length cap6) } (w6.setCell ⟨rb, 2, none⟩ (.slice ao6 (setB S.top ⟨#[]⟩ ⟨#[]⟩).length cap6)) rb) := by
        show (w6.setCell ⟨rb, 2, none⟩ (.slice ao6 (setB S.top ⟨#[]⟩ ⟨#[]⟩).length cap6)).heap[rb]? = _
        rw [heap_setCell_same _ _ _ _ _ _ hr6]; rfl
       have c17 : (w6.setCell ⟨rb, 2, none⟩ (.slice ao6 (setB S.top ⟨#[]⟩ ⟨#[]⟩).length cap6)).cell? ⟨rb, 1, none⟩ = some (.int .i64 (r.at' : Nat)) := by rw [cell_of_row _ _ _ _ _ _ HR7.out]; exact congrArg (fun z : Nat => some (Value.int .i64 (z : Nat))) H5.out.2.2.2
       have f17 : (w6.setCell ⟨rb, 2, none⟩ (.slice ao6 (setB S.top ⟨#[]⟩ ⟨#[]⟩).length cap6)).frozen? ⟨rb, 1, none⟩ = false := frozen_of_row _ _ _ _ _ HR7.out
       have HFIN : Hid (rstmtEnd B rb m L w (stmtS S x.1 x.2 (said (L.drop (r.at' + 1)))) (.returned (.tuple #[])) ((w6.setCell ⟨rb, 2, none⟩ (.slice ao6 (setB S.top ⟨#[]⟩ ⟨#[]⟩).length cap6)).setCell ⟨rb, 1, none⟩ (.int .i64 ((r.at' : Int) + 1)))) := by
        refine ⟨rfl, ((HB5.out.grown hg6 (Nat.le_trans H.out.bw HB5.out.size) (fun k hk => (rblock HOW2.out k hk).1)).setCell (p := ⟨rb, 2, none⟩) H.out.rlow _).setCell (p := ⟨rb, 1, none⟩) H.out.rlow _, ?_⟩
        rw [HF.out, HV.out]
        exact ⟨_, RRow.setAt HR7.out (r.at' + 1) _ (by omega), H5.out.2.1.1, H5.out.2.1.2, HS5.out⟩
       clear hv6 hg6 hat6 hrow6 hr6 HSE c25
       go_wp2_with fail
       go_end0
       exact HG.out _ _ HFIN.out
      | some nv =>
       obtain ⟨nk, nvv⟩ := nv
       rw [hbd] at HBN
       have HBN : Hid (Calls Tryz.prog 287 #[.pointer (some ⟨rb, 0, none⟩), .string x.2] w1 fun e w' => e = .returned (.tuple #[.string nk, .string nvv]) ∧ w' = w1) := HBN
       have hnz := bindS_size (HBS.out.trans hbd)
       have hv4 : nvv.size ≤ 4000 := by have := hnz.2.1; simp only at this; omega
       have HNP : Hid (0 < nk.size) := hnz.2.2
       have HV0 : Hid (varS S x.1 x.2 (said (L.drop (r.at' + 1))) = match expandS (envOf [] S.top) nvv with
        | none => .error (.syn, x.1)
        | some y => .ok ({ S with top := setB S.top nk y }, said (L.drop (r.at' + 1)))) := by
        show _ = _
        unfold varS
        rw [HBS.out, hbd]
        simp only
        cases expandS (envOf [] S.top) nvv <;> rfl
       have HVA := rvalue_any nvv [] S.top (.slice none 0 0) HA1.out ⟨none, 0, rfl, Nat.le_refl _, Or.inl ⟨rfl, trivial⟩⟩ (HS1.out.binds.1) (Nat.zero_le _) (by have := HTL.out; omega) (by omega) HEE.out
       clear hbd hnz HBS
       cases hex : expandS (envOf [] S.top) nvv with
       | none =>
        rw [hex] at HVA
        have HV : Hid (varS S x.1 x.2 (said (L.drop (r.at' + 1))) = .error (.syn, x.1)) := by rw [HV0.out, hex]; rfl
        have HVA : Hid (Calls Tryz.prog 288 #[.pointer (some ⟨rb, 0, none⟩), .string nvv, .slice none 0 0] w1 fun e w' => e = .returned (.string ⟨#[]⟩) ∧ RRow (r.failed 5 x.1) w' rb ∧ w1.grownBy w' (some rb)) := HVA
        clear hex HV0
        refine HBN.out.mono ?_
        rintro e w4 ⟨rfl, hw⟩
        rw [hw]
        clear hw w4
        go_wp2_with fail
        refine HVA.out.mono ?_
        rintro e w5 ⟨rfl, hr5, hg5⟩
        obtain ⟨r5, hr5e⟩ : ∃ r5, r5 = r.failed 5 x.1 := ⟨_, rfl⟩
        rw [← hr5e] at hr5
        have HS5 : Hid (SlV r5.vl) := by rw [hr5e]; exact RV.failed_sl H.out.sl
        have H5 : Hid (RRow r5 w5 rb ∧ (r5.e = 5 ∧ r5.line = (x.1 : Nat)) ∧ r5.vt = r.vt ∧ r5.at' = r.at') := ⟨hr5, ⟨by rw [hr5e]; exact RV.failed_e H.out.e0, by rw [hr5e]; exact RV.failed_line H.out.e0⟩, by rw [hr5e]; exact (RV.failed_vl _ _ _).2.2, by rw [hr5e]; exact (RV.failed_vl _ _ _).2.1⟩
        have HOW : Hid (w5.ownsRow B 338 2 r.vt S.top.length (bcellsB S.top)) := rkeep HS1.out.top (fun k hk => hg5.block k (rblock HS1.out.top k hk).2 (fun e => by have h1 := HS1.out.c2 k hk; have h2 := HS1.out.c1; rw [Option.some.inj e] at h1; omega))
        have HB5 : Hid (Below B w w5) := HB1.out.trans (grown_below hg5 HS1.out.rlow HS1.out.bw)
        clear hr5 hg5 hr5e
        have HOW2 : Hid (w5.ownsRow B 338 2 (.slice aot S.top.length capt) S.top.length (bcellsB S.top)) := by rw [← HVT.out]; exact HOW.out
        have HSE := rset_any S.top (.slice aot S.top.length capt) nk ⟨#[]⟩ B w5 HOW2.out (by have := HTL.out; omega) (Nat.le_trans H.out.bw HB5.out.size)
        have c25 : w5.cell? ⟨rb, 2, none⟩ = some (.slice aot S.top.length capt) := by rw [cell_of_row _ _ _ _ _ _ H5.out.1]; exact congrArg some (H5.out.2.2.1.trans HVT.out)
        go_wp2_with fail
        refine HSE.mono ?_
        rintro e w6 ⟨v', rfl, hv6, hg6, hat6⟩
        obtain ⟨ao6, cap6, rfl, _, _⟩ := row_form hv6
        have hrow6 : w6.heap[rb]? = w5.heap[rb]? := hg6.block rb H5.out.1.lt (fun e => by
         have h1 := H.out.c2 rb (by rw [HVT.out]; exact e.symm)
         have h2 := H.out.c1
         omega)
        have hr6 : RRow r5 w6 rb := hrow6.trans H5.out.1
        have c26 : w6.cell? ⟨rb, 2, none⟩ = some (.slice aot S.top.length capt) := (World.cell?_of_block (w := w5) (a := ⟨rb, 2, none⟩) hrow6).trans c25
        have f26 : w6.frozen? ⟨rb, 2, none⟩ = false := frozen_of_row _ _ _ _ _ hr6
        have HR7 : Hid (RRow { r5 with vt := (.slice ao6 (setB S.top nk ⟨#[]⟩).length cap6) } (w6.setCell ⟨rb, 2, none⟩ (.slice ao6 (setB S.top nk ⟨#[]⟩).length cap6)) rb) := by
         show (w6.setCell ⟨rb, 2, none⟩ (.slice ao6 (setB S.top nk ⟨#[]⟩).length cap6)).heap[rb]? = _
         rw [heap_setCell_same _ _ _ _ _ _ hr6]; rfl
        have c17 : (w6.setCell ⟨rb, 2, none⟩ (.slice ao6 (setB S.top nk ⟨#[]⟩).length cap6)).cell? ⟨rb, 1, none⟩ = some (.int .i64 (r.at' : Nat)) := by rw [cell_of_row _ _ _ _ _ _ HR7.out]; exact congrArg (fun z : Nat => some (Value.int .i64 (z : Nat))) H5.out.2.2.2
        have f17 : (w6.setCell ⟨rb, 2, none⟩ (.slice ao6 (setB S.top nk ⟨#[]⟩).length cap6)).frozen? ⟨rb, 1, none⟩ = false := frozen_of_row _ _ _ _ _ HR7.out
        have HFIN : Hid (rstmtEnd B rb m L w (stmtS S x.1 x.2 (said (L.drop (r.at' + 1)))) (.returned (.tuple #[])) ((w6.setCell ⟨rb, 2, none⟩ (.slice ao6 (setB S.top nk ⟨#[]⟩).length cap6)).setCell ⟨rb, 1, none⟩ (.int .i64 ((r.at' : Int) + 1)))) := by
         refine ⟨rfl, ((HB5.out.grown hg6 (Nat.le_trans H.out.bw HB5.out.size) (fun k hk => (rblock HOW2.out k hk).1)).setCell (p := ⟨rb, 2, none⟩) H.out.rlow _).setCell (p := ⟨rb, 1, none⟩) H.out.rlow _, ?_⟩
         rw [HF.out, HV.out]
         exact ⟨_, RRow.setAt HR7.out (r.at' + 1) _ (by omega), H5.out.2.1.1, H5.out.2.1.2, HS5.out⟩
        clear hv6 hg6 hat6 hrow6 hr6 HSE c25
        go_wp2_with fail
        go_end0
        exact HG.out _ _ HFIN.out
       | some y =>
        rw [hex] at HVA
        have HVA : Hid (Calls Tryz.prog 288 #[.pointer (some ⟨rb, 0, none⟩), .string nvv, .slice none 0 0] w1 fun e w' => e = .returned (.string y) ∧ w' = w1) := HVA
        have HV : Hid (varS S x.1 x.2 (said (L.drop (r.at' + 1))) = .ok ({ S with top := setB S.top nk y }, said (L.drop (r.at' + 1)))) := by rw [HV0.out, hex]; rfl
        have hys : y.size ≤ 10000 := by have := expandS_size hex; omega
        have HOW2 : Hid (w1.ownsRow B 338 2 (.slice aot S.top.length capt) S.top.length (bcellsB S.top)) := by rw [← HVT.out]; exact HS1.out.top
        have HSE := rset_any S.top (.slice aot S.top.length capt) nk y B w1 HOW2.out (by have := HTL.out; omega) HS1.out.bw
        have c25 : w1.cell? ⟨rb, 2, none⟩ = some (.slice aot S.top.length capt) := by rw [cell_of_row _ _ _ _ _ _ HS1.out.row]; exact congrArg some HVT.out
        clear hex HV0
        refine HBN.out.mono ?_
        rintro e w4 ⟨rfl, hw⟩
        rw [hw]
        clear hw w4
        go_wp2_with fail
        refine HVA.out.mono ?_
        rintro e w4 ⟨rfl, hw⟩
        rw [hw]
        clear hw w4
        go_wp2_with fail
        refine HSE.mono ?_
        rintro e w6 ⟨v', rfl, hv6, hg6, hat6⟩
        obtain ⟨ao6, cap6, rfl, _, _⟩ := row_form hv6
        have hrow6 : w6.heap[rb]? = w1.heap[rb]? := hg6.block rb HS1.out.row.lt (fun e => by
         have h1 := HS1.out.c2 rb (by rw [HVT.out]; exact e.symm)
         have h2 := HS1.out.c1
         omega)
        have c26 : w6.cell? ⟨rb, 2, none⟩ = some (.slice aot S.top.length capt) := (World.cell?_of_block (w := w1) (a := ⟨rb, 2, none⟩) hrow6).trans c25
        have f26 : w6.frozen? ⟨rb, 2, none⟩ = false := frozen_of_row _ _ _ _ _ (hrow6.trans HS1.out.row)
        have HS7 : Hid (RSt { r with vt := .slice ao6 (setB S.top nk y).length cap6 } ds (fun k => if (Value.slice ao6 (setB S.top nk y).length cap6).ownBlock = some k then 2 else c k) B (w6.setCell ⟨rb, 2, none⟩ (.slice ao6 (setB S.top nk y).length cap6)) rb L { S with top := setB S.top nk y } m) := HS1.out.setTop (by rw [HVT.out]; exact hg6) hv6 (by rw [HVT.out]; exact hat6) hys HNP.out
        have HB7 : Hid (Below B w (w6.setCell ⟨rb, 2, none⟩ (.slice ao6 (setB S.top nk y).length cap6))) := (HB1.out.grown hg6 HS1.out.bw (fun k hk => (rblock HOW2.out k hk).1)).setCell (p := ⟨rb, 2, none⟩) HS1.out.rlow _
        have c17 : (w6.setCell ⟨rb, 2, none⟩ (.slice ao6 (setB S.top nk y).length cap6)).cell? ⟨rb, 1, none⟩ = some (.int .i64 (r.at' : Nat)) := by rw [cell_of_row _ _ _ _ _ _ HS7.out.row]; rfl
        have f17 : (w6.setCell ⟨rb, 2, none⟩ (.slice ao6 (setB S.top nk y).length cap6)).frozen? ⟨rb, 1, none⟩ = false := frozen_of_row _ _ _ _ _ HS7.out.row
        have HFIN : Hid (rstmtEnd B rb m L w (stmtS S x.1 x.2 (said (L.drop (r.at' + 1)))) (.returned (.tuple #[])) ((w6.setCell ⟨rb, 2, none⟩ (.slice ao6 (setB S.top nk y).length cap6)).setCell ⟨rb, 1, none⟩ (.int .i64 ((r.at' : Int) + 1)))) := by
         refine ⟨rfl, HB7.out.setCell (p := ⟨rb, 1, none⟩) H.out.rlow _, ?_⟩
         rw [HF.out, HV.out]
         exact ⟨_, _, _, HS7.out.moved (j := r.at' + 1) ⟨rfl, rfl, rfl, by simp, fun k hk hn => heap_setCell_other _ _ _ _ (fun e => hn (by rw [e]))⟩ (RRow.setAt HS7.out.row (r.at' + 1) _ (by omega)), rfl⟩
        clear hv6 hg6 hat6 hrow6 HSE c25
        go_wp2_with fail
        go_end0
        exact HG.out _ _ HFIN.out
end Go.Proofs.YthhbpebihgjpjaaGreatDoor
