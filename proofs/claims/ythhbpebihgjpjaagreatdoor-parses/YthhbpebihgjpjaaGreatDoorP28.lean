import Derived.Test.YthhbpebihgjpjaaGreatDoorP27
import Derived.Deep.QuietTactic
import Derived.BigQuiet
import Derived.Deep.AppendLies
import Derived.Deep.RegionLaw
namespace Go.Proofs.YthhbpebihgjpjaaGreatDoor
open Go.RowKit
set_option maxRecDepth 1000000

theorem RV.failed_line {r : RV} {k : Int} {n : Nat} (h : r.e = 0) : (r.failed k n).line = (n : Nat) := by unfold RV.failed; rw [if_pos h]
theorem indented_is {ls : List Line} {xr : Line × List Line} (h : indented ls = some xr) : ls = xr.1 :: xr.2 ∧ begins xr.1.2 32 = true := by
 cases ls with
 | nil => cases h
 | cons x r =>
  rw [show indented (x :: r) = if begins x.2 32 = true then some (x, r) else none from rfl] at h
  split at h
  ·rename_i q
   obtain rfl := Option.some.inj h
   exact ⟨rfl, q⟩
  ·cases h
theorem at_said {L : List Line} {j : Nat} {x : Line} {rest : List Line} (h : said (L.drop j) = x :: rest) (hn : ∀ y, L[j]? = some y → emptyB y.2 = false) : L[j]? = some x ∧ said (L.drop (j + 1)) = rest := by
 rcases Nat.lt_or_ge j L.length with q | q
 ·have h1 : L[j]? = some L[j] := List.getElem?_eq_getElem q
  rw [said_head h1 (hn _ h1)] at h
  injection h with h2 h3
  exact ⟨by rw [h1, h2], h3⟩
 ·rw [List.drop_of_length_le q] at h
  cases h
theorem env_none : envOf [] [] = noVars := by funext y; rfl
def boolM : Value → Nat
 | .bool true => 0
 | _ => 1
set_option maxHeartbeats 8000000 in
theorem rrule_any {r : RV} {ds : List REdgeV} {c : Nat → Nat} {B : Nat} {w : World} {rb : Nat} {L : List Line} {S : St} {m : Nat} {x : Line} (t : ByteArray) (h : RSt r ds c B w rb L S (m + 1)) (hx : L[r.at']? = some x) (ht : t.size ≤ 4000) :
  Calls Tryz.prog 284 #[.pointer (some ⟨rb, 0, none⟩), .string t] w (rstmtEnd B rb m L w (ruleS S x.1 t (said (L.drop (r.at' + 1))))) := by
 have hinf : (Tryz.prog.info? 338).map (fun i => (i.size, i.bytes, i.zero)) = some (2, 32, some (.agg #[.string ⟨#[]⟩, .string ⟨#[]⟩])) := by kernel_rfl
 obtain ⟨ti, hti, htj⟩ := Option.map_eq_some_iff.1 hinf
 simp only [Prod.mk.injEq] at htj
 have HTI : Hid (Tryz.prog.info? 338 = some ti ∧ ti.size = 2 ∧ ti.bytes = 32 ∧ ti.zero = some (.agg #[.string ⟨#[]⟩, .string ⟨#[]⟩])) := ⟨hti, htj.1, htj.2.1, htj.2.2⟩
 clear hinf hti htj
 have H : Hid (RSt r ds c B w rb L S (m + 1)) := h
 have HX : Hid (L[r.at']? = some x) := hx
 have HR : Hid (ruleS S x.1 t (said (L.drop (r.at' + 1))) = if wordLenB (leftB t) = 0 ∨ (leftB (tailB (leftB t))).size ≠ 0 then .error (.syn, x.1)
  else if (bindOf S.rules (headB (leftB t))).isSome = true then .error (.rul, x.1)
  else match indented (said (L.drop (r.at' + 1))) with
   | none => .error (.syn, x.1)
   | some xr => match bindS xr.1.2 with
     | none => .error (.syn, xr.1.1)
     | some nv =>
      if nv.1 ≠ tCommand ∨ expandS noVars nv.2 = none then .error (.syn, xr.1.1)
      else match indented xr.2 with
       | some y => .error (.syn, y.1.1)
       | none => .ok ({ S with rules := S.rules ++ [(headB (leftB t), nv.2)] }, xr.2)) := rfl
 have HFL : Hid (Calls Tryz.prog 283 #[.pointer (some ⟨rb, 0, none⟩), .int .i64 5] w fun e w' => e = .returned (.tuple #[]) ∧ RRow (r.failed 5 x.1) w' rb ∧ w.grownBy w' (some rb)) := rfail_any 5 (h.at hx).row (h.at hx).lines (h.at hx).at' (h.at hx).ne
 have HLF1 : Hid (∀ wx, Calls Tryz.prog 280 #[.string t] wx fun e w' => e = .returned (.string (leftB t)) ∧ w' = wx) := fun wx => rleft_any t (by omega) wx
 have hls := leftB_le t
 generalize hU : leftB t = U at *
 have HWL : Hid (∀ wx, Calls Tryz.prog 289 #[.string U] wx fun e w' => e = .returned (.int .i64 (wordLenB U)) ∧ w' = wx) := fun wx => rwordLen_any U (by omega) wx
 have hle : wordLenB U ≤ U.size := spanLen_le _ _
 have hs1 : ∀ wx, (Instr.slice 9 (.string U) (some (.int .i64 (wordLenB U))) none none).run Tryz.prog wx = .ok (.string (tailB U)) wx := fun wx => slice_from U _ hle wx
 have hs2 : ∀ wx, (Instr.slice 9 (.string U) none (some (.int .i64 (wordLenB U))) none).run Tryz.prog wx = .ok (.string (headB U)) wx := fun wx => slice_head U _ hle wx
 have hts := tailB_size U
 have HLF2 : Hid (∀ wx, Calls Tryz.prog 280 #[.string (tailB U)] wx fun e w' => e = .returned (.string (leftB (tailB U))) ∧ w' = wx) := fun wx => rleft_any (tailB U) (by omega) wx
 have hls2 := leftB_le (tailB U)
 generalize leftB (tailB U) = R at *
 generalize tailB U = TL at *
 have hhs := headB_size U
 generalize headB U = HD at *
 generalize wordLenB U = N at *
 have n0 : (0 : Int) ≤ (N : Int) := by omega
 have n1 : (N : Int) ≤ 4000 := by omega
 have hnR := nil_iff R
 clear h hx hU
 by_cases hN : N = 0
 ·have HF : Hid (ruleS S x.1 t (said (L.drop (r.at' + 1))) = .error (.syn, x.1)) := by rw [HR.out, if_pos (Or.inl hN)]; rfl
  have t1 : ((N : Int) == 0) = true := by simp; omega
  clear hN
  go_enter Tryz.func284, Tryz.ntmps284
  go_wp2_with fail
  refine (HLF1.out _).mono ?_
  rintro e w1 ⟨rfl, hw⟩
  rw [hw]
  clear hw w1
  go_wp2_with fail
  refine (HWL.out _).mono ?_
  rintro e w1 ⟨rfl, hw⟩
  rw [hw]
  clear hw w1
  go_wp2_with fail
  refine (HLF2.out _).mono ?_
  rintro e w1 ⟨rfl, hw⟩
  rw [hw]
  clear hw w1
  go_wp2_with fail
  refine HFL.out.mono ?_
  rintro e w3 ⟨rfl, hr3, hg3⟩
  have HFIN : Hid (rstmtEnd B rb m L w (ruleS S x.1 t (said (L.drop (r.at' + 1)))) (.returned (.tuple #[])) w3) := by
   refine ⟨rfl, grown_below hg3 H.out.rlow H.out.bw, ?_⟩
   rw [HF.out]
   exact ⟨_, hr3, RV.failed_e H.out.e0, RV.failed_line H.out.e0, RV.failed_sl H.out.sl⟩
  clear hr3 hg3
  go_wp2_with fail
  first | go_end0 | refine bodyPost_ret (results_none rfl _ _ _) rfl ?_
  exact HFIN.out
 have t1 : ((N : Int) == 0) = false := by simp; omega
 by_cases hR0 : R.size = 0
 ·rw [decide_eq_true hR0] at hnR
  obtain rfl : R = ⟨#[]⟩ := ByteArray.size_eq_zero_iff.1 hR0
  have HR2 : Hid (ruleS S x.1 t (said (L.drop (r.at' + 1))) = if (bindOf S.rules HD).isSome = true then .error (.rul, x.1)
   else match indented (said (L.drop (r.at' + 1))) with
    | none => .error (.syn, x.1)
    | some xr => match bindS xr.1.2 with
      | none => .error (.syn, xr.1.1)
      | some nv =>
       if nv.1 ≠ tCommand ∨ expandS noVars nv.2 = none then .error (.syn, xr.1.1)
       else match indented xr.2 with
        | some y => .error (.syn, y.1.1)
        | none => .ok ({ S with rules := S.rules ++ [(HD, nv.2)] }, xr.2)) := HR.out.trans (if_neg (fun q => by rcases q with q | q; exact hN q; exact q rfl))
  have HFD : Hid (∀ q, Calls Tryz.prog 214 #[r.vr, .string HD] (w.drewN q) fun e w' => e = .returned (.int .i64 (idxI (bindIdx S.rules HD))) ∧ w' = w.drewN q) := fun q => rfind_any S.rules r.vr HD (w.drewN q) (H.out.binds.2.keep (fun _ _ => rfl)) (by have := H.out.ok.rulen; omega)
  have c3 : w.cell? ⟨rb, 3, none⟩ = some r.vr := by rw [cell_of_row _ _ _ _ _ _ H.out.row]; rfl
  obtain ⟨aor, capr, hvr, _, _⟩ := row_form H.out.rules
  rw [hvr] at c3 HFD
  have HVR : Hid (r.vr = .slice aor S.rules.length capr) := hvr
  clear hnR hR0 HR hvr
  generalize hRL : S.rules.length = RL at *
  have HRL : Hid (S.rules.length = RL) := hRL
  clear hRL
  cases hbi : bindIdx S.rules HD with
  | some k =>
   have HF : Hid (ruleS S x.1 t (said (L.drop (r.at' + 1))) = .error (.rul, x.1)) := by
    obtain ⟨y, _, hy⟩ := bindOf_idx hbi
    rw [HR2.out, hy, if_pos (show (some y.2).isSome = true from rfl)]; rfl
   rw [hbi] at HFD
   have HFD : Hid (∀ q, Calls Tryz.prog 214 #[.slice aor RL capr, .string HD] (w.drewN q) fun e w' => e = .returned (.int .i64 (k : Nat)) ∧ w' = w.drewN q) := HFD
   have k0 : (0 : Int) ≤ (k : Int) := by omega
   clear hbi HR2
   go_enter Tryz.func284, Tryz.ntmps284
   go_wp2_with fail
   refine (HLF1.out _).mono ?_
   rintro e w1 ⟨rfl, hw⟩
   rw [hw]
   clear hw w1
   go_wp2_with fail
   refine (HWL.out _).mono ?_
   rintro e w1 ⟨rfl, hw⟩
   rw [hw]
   clear hw w1
   go_wp2_with fail
   refine (HLF2.out _).mono ?_
   rintro e w1 ⟨rfl, hw⟩
   rw [hw]
   clear hw w1
   go_wp2_with fail
   go_quiet ((go_at_call 214; exact Calls.quiet_of_same (HFD.out _)))
   have HA1 : Hid (RAt r (w.drewN nq) rb L x) := (H.out.below (below_drewN (Below.refl _ _) nq)).at HX.out
   have HB1 : Hid (Below B w (w.drewN nq)) := below_drewN (Below.refl _ _) nq
   generalize w.drewN nq = w1 at *
   have HF6 : Hid (Calls Tryz.prog 283 #[.pointer (some ⟨rb, 0, none⟩), .int .i64 6] w1 fun e w' => e = .returned (.tuple #[]) ∧ RRow (r.failed 6 x.1) w' rb ∧ w1.grownBy w' (some rb)) := rfail_any 6 HA1.out.row HA1.out.lines HA1.out.at' HA1.out.ne
   go_wp2_with fail
   refine HF6.out.mono ?_
   rintro e w3 ⟨rfl, hr3, hg3⟩
   have HFIN : Hid (rstmtEnd B rb m L w (ruleS S x.1 t (said (L.drop (r.at' + 1)))) (.returned (.tuple #[])) w3) := by
    refine ⟨rfl, HB1.out.trans (grown_below hg3 H.out.rlow (Nat.le_trans H.out.bw HB1.out.size)), ?_⟩
    rw [HF.out]
    exact ⟨_, hr3, RV.failed_e H.out.e0, RV.failed_line H.out.e0, RV.failed_sl H.out.sl⟩
   clear hr3 hg3
   go_wp2_with fail
   first | go_end0 | refine bodyPost_ret (results_none rfl _ _ _) rfl ?_
   exact HFIN.out
  | none =>
   have HR3 : Hid (ruleS S x.1 t (said (L.drop (r.at' + 1))) = match indented (said (L.drop (r.at' + 1))) with
    | none => .error (.syn, x.1)
    | some xr => match bindS xr.1.2 with
      | none => .error (.syn, xr.1.1)
      | some nv =>
       if nv.1 ≠ tCommand ∨ expandS noVars nv.2 = none then .error (.syn, xr.1.1)
       else match indented xr.2 with
        | some y => .error (.syn, y.1.1)
        | none => .ok ({ S with rules := S.rules ++ [(HD, nv.2)] }, xr.2)) := HR2.out.trans (if_neg (by rw [bindOf_none hbi]; decide))
   rw [hbi] at HFD
   have HFD : Hid (∀ q, Calls Tryz.prog 214 #[.slice aor RL capr, .string HD] (w.drewN q) fun e w' => e = .returned (.int .i64 (-1)) ∧ w' = w.drewN q) := HFD
   clear hbi HR2
   go_enter Tryz.func284, Tryz.ntmps284
   go_wp2_with fail
   refine (HLF1.out _).mono ?_
   rintro e w1 ⟨rfl, hw⟩
   rw [hw]
   clear hw w1
   go_wp2_with fail
   refine (HWL.out _).mono ?_
   rintro e w1 ⟨rfl, hw⟩
   rw [hw]
   clear hw w1
   go_wp2_with fail
   refine (HLF2.out _).mono ?_
   rintro e w1 ⟨rfl, hw⟩
   rw [hw]
   clear hw w1
   go_wp2_with fail
   go_quiet ((go_at_call 214; exact Calls.quiet_of_same (HFD.out _)))
   have HST1 : Hid (RSt r ds c B (w.drewN nq) rb L S (m + 1)) := H.out.below (below_drewN (Below.refl _ _) nq)
   have HB1 : Hid (Below B w (w.drewN nq)) := below_drewN (Below.refl _ _) nq
   generalize w.drewN nq = w1 at *
   have c11 : w1.cell? ⟨rb, 1, none⟩ = some (.int .i64 (r.at' : Nat)) := by rw [cell_of_row _ _ _ _ _ _ HST1.out.row]; rfl
   clear c3 HFD
   go_wp2_with fail
   go_loopw [8, 9] (fun v8 v9 wr => ∃ (r1 : RV) (told : Bool) (cmd : ByteArray), v8 = .string cmd ∧ v9 = .bool told ∧ RSt r1 ds c B wr rb L S (m + 1) ∧ Below B w wr ∧ (told = false → r1 = r) ∧ (∃ y, L[r1.at']? = some y) ∧ r1.vr = r.vr ∧ (told = true → ∃ xr, indented (said (L.drop (r.at' + 1))) = some xr ∧ said (L.drop (r1.at' + 1)) = xr.2 ∧ bindS xr.1.2 = some (tCommand, cmd) ∧ expandS noVars cmd ≠ none ∧ cmd.size ≤ 4000)) (fun _ v9 _ => boolM v9)
   case atStart => exact ⟨r, false, ⟨#[]⟩, rfl, rfl, HST1.out, HB1.out, fun _ => rfl, ⟨x, HX.out⟩, rfl, fun h => by cases h⟩
   case round =>
    obtain ⟨r1, told, cmd, rfl, rfl, hst, hbl, hto, ⟨y, hy⟩, hvr1, htt⟩ := hrel
    have HST : Hid (RSt r1 ds c B wr rb L S (m + 1)) := hst
    have HBL : Hid (Below B w wr) := hbl
    have HTO : Hid ((told = false → r1 = r) ∧ (told = true → ∃ xr, indented (said (L.drop (r.at' + 1))) = some xr ∧ said (L.drop (r1.at' + 1)) = xr.2 ∧ bindS xr.1.2 = some (tCommand, cmd) ∧ expandS noVars cmd ≠ none ∧ cmd.size ≤ 4000)) := ⟨hto, htt⟩
    have HV1 : Hid (r1.vr = r.vr) := hvr1
    have HNX := rnext_any (hst.at hy) (by have := hst.len.1; omega) (fun z hz => by have := hst.len.2 z hz; omega)
    clear hst hbl hto hy hvr1 htt
    go_wp2_with fail
    refine HNX.mono ?_
    rintro e w2 ⟨j, hr2, hj1, hj2, hsd, hne, rfl, hg2⟩
    have HS2 : Hid (RSt { r1 with at' := j } ds c B w2 rb L S (m + 1)) := HST.out.moved hg2 hr2
    have HB2 : Hid (Below B w w2) := HBL.out.trans (grown_below hg2 HST.out.rlow HST.out.bw)
    have HSD : Hid (said (L.drop j) = said (L.drop (r1.at' + 1)) ∧ (∀ x, L[j]? = some x → emptyB x.2 = false)) := ⟨hsd, hne⟩
    clear hr2 hg2 HNX hsd hne
    have HIN : Hid (indented (said (L.drop (r1.at' + 1))) = indented (said (L.drop (r1.at' + 1)))) := rfl
    cases hin : indented (said (L.drop (r1.at' + 1))) with
    | none =>
     have c21 : w2.cell? ⟨rb, 1, none⟩ = some (.int .i64 (j : Nat)) := by rw [cell_of_row _ _ _ _ _ _ HS2.out.row]; rfl
     have f21 : w2.frozen? ⟨rb, 1, none⟩ = false := frozen_of_row _ _ _ _ _ HS2.out.row
     cases told with
     | false =>
      obtain rfl := HTO.out.1 rfl
      have HF : Hid (ruleS S x.1 t (said (L.drop (r1.at' + 1))) = .error (.syn, x.1)) := by rw [HR3.out, hin]; rfl
      have HS3 : Hid (RSt r1 ds c B (w2.setCell ⟨rb, 1, none⟩ (.int .i64 (r1.at' : Nat))) rb L S (m + 1)) := HS2.out.moved (j := r1.at') ⟨rfl, rfl, rfl, by simp, fun k hk hn => heap_setCell_other _ _ _ _ (fun e => hn (by rw [e]))⟩ (RRow.setAt HS2.out.row r1.at' _ rfl)
      have HB3 : Hid (Below B w (w2.setCell ⟨rb, 1, none⟩ (.int .i64 (r1.at' : Nat)))) := HB2.out.setCell (p := ⟨rb, 1, none⟩) HS2.out.rlow _
      clear hin HR3 HIN
      go_wp2_with fail
      generalize w2.setCell ⟨rb, 1, none⟩ (.int .i64 (r1.at' : Nat)) = w3 at *
      clear c21 f21
      have HA3 := HS3.out.at HX.out
      refine (rfail_any 5 HA3.row HA3.lines HA3.at' HA3.ne).mono ?_
      rintro e w4 ⟨rfl, hr4, hg4⟩
      have HFIN : Hid (rstmtEnd B rb m L w (ruleS S x.1 t (said (L.drop (r1.at' + 1)))) (.returned (.tuple #[])) w4) := by
       refine ⟨rfl, HB3.out.trans (grown_below hg4 HS3.out.rlow HS3.out.bw), ?_⟩
       rw [HF.out]
       exact ⟨_, hr4, RV.failed_e HS3.out.e0, RV.failed_line HS3.out.e0, RV.failed_sl HS3.out.sl⟩
      clear hr4 hg4
      go_wp2_with fail
      first | go_end0 | refine bodyPost_ret (results_none rfl _ _ _) rfl ?_
      exact HFIN.out
     | true =>
      obtain ⟨xr, hx1, hx2, hx3, hx4, hx5⟩ := HTO.out.2 rfl
      have HF : Hid (ruleS S x.1 t (said (L.drop (r.at' + 1))) = .ok ({ S with rules := S.rules ++ [(HD, cmd)] }, xr.2)) := by
       rw [HR3.out, hx1]
       simp only
       rw [hx3]
       simp only
       rw [if_neg (fun q => by rcases q with q | q; exact q rfl; exact hx4 q), ← hx2, hin]
       rfl
      have HLFT : Hid (said (L.drop j) = xr.2) := HSD.out.1.trans hx2
      have c23 : w2.cell? ⟨rb, 3, none⟩ = some (.slice aor RL capr) := by rw [cell_of_row _ _ _ _ _ _ HS2.out.row]; exact congrArg some (HV1.out.trans HVR.out)
      have HC5 : Hid (cmd.size ≤ 4000) := hx5
      clear hin hx1 hx2 hx3 hx4 hx5 HR3 HIN c21 f21
      have c23a : (w2.alloc (.cells #[.string HD, .string cmd] 338)).cell? ⟨rb, 3, none⟩ = some (.slice aor RL capr) := (((Below.refl w2.heap.size w2).alloc (Nat.le_refl _) _).cell (p := ⟨rb, 3, none⟩) HS2.out.row.lt).trans c23
      go_wp2_with fail
      refine wp_region_any (by kernel_rfl) ?_
      change wpAny _ _ _ _ _ _ _ (World.drew _)
      refine wpAny_take (i := 0) (v := .pointer (some ⟨rb, 0, none⟩)) rfl (by kernel_rfl) (by kernel_rfl) (by kernel_rfl) (fun _ _ _ h => h) (Or.inl ⟨by rfl, ?_⟩) ?_
      ·intro w
       go_simp
      refine wpAny_take (i := 1) (v := .pointer (some ⟨rb, 0, none⟩)) rfl (by kernel_rfl) (by kernel_rfl) (by kernel_rfl) (fun _ _ _ h => h) (Or.inl ⟨by rfl, ?_⟩) ?_
      ·intro w
       go_simp
      refine wpAny_take (i := 2) (v := .pointer (some ⟨rb, 0, none⟩)) rfl (by kernel_rfl) (by kernel_rfl) (by kernel_rfl) (fun _ _ _ h => h) (Or.inl ⟨by rfl, ?_⟩) ?_
      ·intro w
       go_simp
      refine wpAny_take (i := 3) (v := .pointer (some ⟨rb, 3, none⟩)) rfl (by kernel_rfl) (by kernel_rfl) (by kernel_rfl) (fun _ _ _ h => h) (Or.inl ⟨by rfl, ?_⟩) ?_
      ·intro w
       go_simp
      refine wpAny_take (i := 5) (v := .string U) rfl (by kernel_rfl) (by kernel_rfl) (by kernel_rfl) (fun _ _ _ h => h) (Or.inl ⟨by rfl, ?_⟩) ?_
      ·intro w
       go_simp
      refine wpAny_take (i := 6) (v := .int .i64 N) rfl (by kernel_rfl) (by kernel_rfl) (by kernel_rfl) (fun _ _ _ h => h) (Or.inl ⟨by rfl, ?_⟩) ?_
      ·intro w
       go_simp
      refine wpAny_take (i := 7) (v := .string HD) rfl (by kernel_rfl) (by kernel_rfl) (by kernel_rfl) (fun _ _ _ h => h) (Or.inl ⟨by rfl, ?_⟩) ?_
      ·intro w
       go_simp
      refine wpAny_take (i := 8) (v := .string cmd) rfl (by kernel_rfl) (by kernel_rfl) (by kernel_rfl) (fun _ _ _ h => h) (Or.inl ⟨by rfl, ?_⟩) ?_
      ·intro w
       go_simp
      refine wpAny_take (i := 9) (v := .agg #[.string HD, .string cmd]) rfl (by kernel_rfl) (by kernel_rfl) (by kernel_rfl) (fun _ _ _ h => h) (Or.inl ⟨by rfl, ?_⟩) ?_
      ·intro w
       go_simp
      refine wpAny_ready (rs := [4, 10]) (by kernel_rfl) (by simp) ?_
      refine AllReady.cons rfl (fun K hK => ?ordA) (AllReady.cons rfl (fun K hK => ?ordB) AllReady.nil)
      case' ordA =>
       go_simp
       refine hK _ _ ?_
       clear hK K
       refine wpAny_ready (rs := [10]) (by kernel_rfl) (by simp) ?_
       refine AllReady.cons rfl (fun K hK => ?_) AllReady.nil
       go_simp
      case' ordB =>
       go_simp
       refine hK _ _ ?_
       clear hK K
       refine wpAny_ready (rs := [4]) (by kernel_rfl) (by simp) ?_
       refine AllReady.cons rfl (fun K hK => ?_) AllReady.nil
       go_simp
      all_goals
       refine hK _ _ ?_
       clear hK K c23a
       obtain ⟨W8, hW8⟩ : ∃ W8, W8 = (w2.alloc (.cells #[.string HD, .string cmd] 338)).drew := ⟨_, rfl⟩
       have HL8 : Hid (Below w2.heap.size w2 W8) := by rw [hW8]; exact ((Below.refl _ _).alloc (Nat.le_refl _) _).drew
       have HN8 : Hid (∀ j u, ([.string HD, .string cmd] : List Value)[j]? = some u → W8.cell? ((⟨w2.heap.size, 0, none⟩ : Addr).add j) = some u) := by rw [hW8]; exact newCells w2 _ _
       rw [← hW8]
       clear hW8
       have HP8 : Hid (RSt { r1 with at' := j } ds c B W8 rb L S (m + 1)) := HS2.out.below HL8.out
       have HVR1 : Hid (({ r1 with at' := j } : RV).vr = .slice aor RL capr) := HV1.out.trans HVR.out
       have HD8 : Hid (W8.ownsRow B 338 2 (.slice aor RL capr) RL (bcellsB S.rules)) := by
        have h := HP8.out.rules
        rw [HVR1.out, HRL.out] at h
        exact h
       have hrl5 : RL ≤ 5000 := by have h1 := HP8.out.ok.rulen; have h2 := HRL.out; omega
       refine wpAny_ready (rs := [11]) (by kernel_rfl) (by simp) ?_
       refine AllReady.cons rfl (fun K hK => ?_) AllReady.nil
       refine step_append_lies _ rfl (.tmp 104) (.tmp 110) 327 rfl B 338 ti (.agg #[.string ⟨#[]⟩, .string ⟨#[]⟩]) 2 32 Tryz.underlying327 HTI.out.1 HTI.out.2.2.2 HTI.out.2.1 HTI.out.2.2.1 rfl (by decide) _ RL (bcellsB S.rules) rfl HD8.out ⟨w2.heap.size, 0, none⟩ 1 1 [.string HD, .string cmd] rfl rfl HN8.out (by intro u hu; simp only [List.mem_cons, List.not_mem_nil, or_false] at hu; rcases hu with rfl | rfl <;> rfl) (by decide) (by unfold maxLen; omega) (by omega) (by have h1 := HP8.out.bw; exact h1) _ rfl ?_
       intro g6 cap6 w6' hv6 hg6 hat6 hlt6
       have HPF : Hid (RSt { { r1 with at' := j } with vr := .slice (some ⟨g6, 0, none⟩) (RL + 1) cap6 } ds (fun k => if (Value.slice (some ⟨g6, 0, none⟩) (RL + 1) cap6).ownBlock = some k then 3 else c k) B (w6'.setCell ⟨rb, 3, none⟩ (.slice (some ⟨g6, 0, none⟩) (RL + 1) cap6)) rb L { S with rules := S.rules ++ [(HD, cmd)] } m) := by
        refine HP8.out.addRule (by rw [HVR1.out]; exact hg6) (by rw [HRL.out]; exact hv6) (fun k hk => ?_) HC5.out
        have e : g6 = k := Option.some.inj hk
        subst e
        rw [HVR1.out]
        rcases hat6 with e2 | e2
        ·exact Or.inl e2
        ·right; rw [e2]; exact Nat.le_refl _
       have HB6 : Hid (Below B w (w6'.setCell ⟨rb, 3, none⟩ (.slice (some ⟨g6, 0, none⟩) (RL + 1) cap6))) := ((HB2.out.trans (HL8.out.mono HS2.out.bw)).grown hg6 HP8.out.bw (fun k hk => (rblock HD8.out k hk).1)).setCell (p := ⟨rb, 3, none⟩) HP8.out.rlow _
       have hrow6 : w6'.heap[rb]? = W8.heap[rb]? := hg6.block rb HP8.out.row.lt (fun e => by
        have h1 := HP8.out.c3 rb (by rw [HVR1.out]; exact e.symm)
        have h2 := HP8.out.c1
        omega)
       have d6 : w6'.cell? ⟨rb, 3, none⟩ = some (.slice aor RL capr) := by
        rw [World.cell?_of_block (w := W8) (a := ⟨rb, 3, none⟩) hrow6, cell_of_row _ _ _ _ _ _ HP8.out.row]; exact congrArg some HVR1.out
       have f6 : w6'.frozen? ⟨rb, 3, none⟩ = false := frozen_of_row _ _ _ _ _ (hrow6.trans HP8.out.row)
       clear hv6 hg6 hat6 hlt6 hrow6
       refine hK _ _ ?_
       clear hK K
       refine wpAny_take (i := 12) (v := .pointer (some ⟨rb, 0, none⟩)) rfl (by kernel_rfl) (by kernel_rfl) (by kernel_rfl) (fun _ _ _ h => h) (Or.inl ⟨by rfl, ?_⟩) ?_
       ·intro w
        go_simp
       refine wpAny_take (i := 13) (v := .pointer (some ⟨rb, 3, none⟩)) rfl (by kernel_rfl) (by kernel_rfl) (by kernel_rfl) (fun _ _ _ h => h) (Or.inl ⟨by rfl, ?_⟩) ?_
       ·intro w
        go_simp
       refine wpAny_ready (rs := [14]) (by kernel_rfl) (by simp) ?_
       refine AllReady.cons rfl (fun K hK => ?_) AllReady.nil
       go_simp
       refine hK _ _ ?_
       clear hK K
       refine wpAny_done (by kernel_rfl) ?_ _
       generalize w6'.setCell ⟨rb, 3, none⟩ (.slice (some ⟨g6, 0, none⟩) (RL + 1) cap6) = w7' at *
       clear d6 f6
       go_wp2_with fail
       go_end0
       refine ⟨rfl, HB6.out, ?_⟩
       rw [HF.out]
       exact ⟨_, _, _, HPF.out, HLFT.out⟩
    | some yr =>
     have hyi := indented_is hin
     have hys : said (L.drop j) = yr.1 :: yr.2 := HSD.out.1.trans hyi.1
     obtain ⟨hlj, hlr⟩ := at_said hys HSD.out.2
     have HLJ : Hid (L[j]? = some yr.1 ∧ said (L.drop (j + 1)) = yr.2) := ⟨hlj, hlr⟩
     have HBAD : Hid (∀ q : Prop, (told = true ∨ bindS yr.1.2 = none ∨ ∃ nv, bindS yr.1.2 = some nv ∧ (nv.1 ≠ tCommand ∨ expandS noVars nv.2 = none)) → ruleS S x.1 t (said (L.drop (r.at' + 1))) = .error (.syn, yr.1.1)) := fun _ hq => by
      cases ht2 : told with
      | true =>
       obtain ⟨xr, hx1, hx2, hx3, hx4, _⟩ := HTO.out.2 ht2
       rw [HR3.out, hx1]
       simp only
       rw [hx3]
       simp only
       rw [if_neg (fun q => by rcases q with q | q; exact q rfl; exact hx4 q), ← hx2, hin]
      | false =>
       have hrr := HTO.out.1 ht2
       rw [hrr] at hin
       rw [HR3.out, hin]
       simp only
       rcases hq with q | q | ⟨nv, q1, q2⟩
       ·rw [ht2] at q; cases q
       ·rw [q]
       ·rw [q1]
        simp only
        rw [if_pos q2]
     have HA2 : Hid (RAt { r1 with at' := j } w2 rb L yr.1) := HS2.out.at hlj
     obtain ⟨aol, capl, hvl, hcl, hll⟩ := HS2.out.const.now.1
     obtain ⟨gl, ol, rfl, hl2⟩ : ∃ g o, aol = some ⟨g, o, none⟩ ∧ ∀ (k : Nat) x, L[k]? = some x → w2.cell? ⟨g, o + k * 2, none⟩ = some (.string x.2) ∧ w2.cell? ⟨g, o + k * 2 + 1, none⟩ = some (.int .i64 (x.1 : Nat)) := by
      rcases hll with e | e
      ·rw [e] at hlj; simp at hlj
      ·exact e
     have d1 := (hl2 j yr.1 hlj).1
     have c20 : w2.cell? ⟨rb, 0, none⟩ = some (.slice (some ⟨gl, ol, none⟩) L.length capl) := by rw [cell_of_row _ _ _ _ _ _ HS2.out.row]; exact congrArg some hvl
     have c21 : w2.cell? ⟨rb, 1, none⟩ = some (.int .i64 (j : Nat)) := by rw [cell_of_row _ _ _ _ _ _ HS2.out.row]; rfl
     have hjl : j < L.length := (List.getElem?_eq_some_iff.1 hlj).1
     have j0 : (0 : Int) ≤ (j : Int) := by omega
     have jl : (j : Int) < (L.length : Int) := by omega
     have hy4 : yr.1.2.size ≤ 4000 := HS2.out.len.2 yr.1 (List.mem_of_getElem? hlj)
     have HLF3 : Hid (∀ q, Calls Tryz.prog 280 #[.string yr.1.2] (w2.drewN q) fun e w' => e = .returned (.string (leftB yr.1.2)) ∧ w' = w2.drewN q) := fun q => rleft_any yr.1.2 (by omega) (w2.drewN q)
     have HBS := bindS_left yr.1.2
     have hlz := leftB_le yr.1.2
     have HIND : Hid (told = false → indented (said (L.drop (r.at' + 1))) = some yr) := fun hq => by rw [← HTO.out.1 hq]; exact hin
     clear hvl hcl hll hl2 hin hyi hys hlj hlr HIN HR3
     generalize leftB yr.1.2 = Y at *
     generalize hYT : yr.1.2 = YT at *
     have HYT : Hid (yr.1.2 = YT) := hYT
     clear hYT
     go_wp2_with fail
     go_quiet ((go_at_call 280; exact Calls.quiet_of_same (HLF3.out _)))
     have HS3 : Hid (RSt { r1 with at' := j } ds c B (w2.drewN nq) rb L S (m + 1)) := HS2.out.below (below_drewN (Below.refl _ _) nq)
     have HB3 : Hid (Below B w (w2.drewN nq)) := below_drewN HB2.out nq
     generalize w2.drewN nq = w3 at *
     have HA3 : Hid (RAt { r1 with at' := j } w3 rb L yr.1) := HS3.out.at HLJ.out.1
     have HBN := rbound_any Y HA3.out (by omega)
     rw [← HBS] at HBN
     clear c20 c21 d1 HLF3 HA2
     cases hbs : bindS YT with
     | none =>
      rw [hbs] at HBN
      have HF : Hid (ruleS S x.1 t (said (L.drop (r.at' + 1))) = .error (.syn, yr.1.1)) := HBAD.out True (Or.inr (Or.inl hbs))
      clear hbs HBS HBAD
      go_wp2_with fail
      refine HBN.mono ?_
      rintro e w4 ⟨rfl, hr4, hg4⟩
      obtain ⟨r4, hr4e⟩ : ∃ r4, r4 = ({ r1 with at' := j } : RV).failed 5 yr.1.1 := ⟨_, rfl⟩
      rw [← hr4e] at hr4
      have HA4 : Hid (RAt r4 w4 rb L yr.1) := HA3.out.grown hg4 hr4 (by rw [hr4e]; exact ⟨(RV.failed_vl _ _ _).1, (RV.failed_vl _ _ _).2.1⟩)
      have HE4 : Hid (r4.e = 5 ∧ r4.line = (yr.1.1 : Nat)) := ⟨by rw [hr4e]; exact RV.failed_e HS3.out.e0, by rw [hr4e]; exact RV.failed_line HS3.out.e0⟩
      have HB4 : Hid (Below B w w4) := HB3.out.trans (grown_below hg4 HS3.out.rlow HS3.out.bw)
      have HF4 : Hid (Calls Tryz.prog 283 #[.pointer (some ⟨rb, 0, none⟩), .int .i64 5] w4 fun e w' => e = .returned (.tuple #[]) ∧ RRow (r4.failed 5 yr.1.1) w' rb ∧ w4.grownBy w' (some rb)) := rfail_any 5 HA4.out.row HA4.out.lines HA4.out.at' HA4.out.ne
      have HTW4 : Hid (r4.failed 5 yr.1.1 = r4) := by
       show (if r4.e = 0 then _ else r4) = r4
       rw [HE4.out.1, if_neg (by decide)]
      clear hr4 hg4 hr4e HBN
      go_wp2_with fail
      refine HF4.out.mono ?_
      rintro e w5 ⟨rfl, hr5, hg5⟩
      rw [HTW4.out] at hr5
      obtain ⟨r5, hr5e⟩ : ∃ r5, r5 = r4 := ⟨_, rfl⟩
      rw [← hr5e] at hr5 HE4
      have HR5 : Hid (RRow r5 w5 rb ∧ r5.e = 5 ∧ r5.line = (yr.1.1 : Nat)) := ⟨hr5, HE4.out⟩
      have HA5 : Hid (RAt r5 w5 rb L yr.1) := HA4.out.grown hg5 hr5 (by rw [hr5e]; exact ⟨rfl, rfl⟩)
      have HB5 : Hid (Below B w w5) := HB4.out.trans (grown_below hg5 H.out.rlow (Nat.le_trans H.out.bw HB4.out.size))
      have hvs : (⟨#[]⟩ : ByteArray).size ≤ 1048576 := by decide
      clear hr5 hg5 hr5e HF4 HTW4 HE4
      have c75 : w5.cell? ⟨rb, 7, none⟩ = some (.int .i64 5) := by rw [cell_of_row _ _ _ _ _ _ HR5.out.1]; exact congrArg (fun z => some (Value.int .i64 z)) HR5.out.2.1
      have HXP := rexpand_any ⟨#[]⟩ [] [] (.slice none 0 0) (.slice none 0 0) w5 ⟨none, 0, rfl, Nat.le_refl _, Or.inl ⟨rfl, trivial⟩⟩ ⟨none, 0, rfl, Nat.le_refl _, Or.inl ⟨rfl, trivial⟩⟩ (Nat.zero_le _) (Nat.zero_le _) hvs (fun z => Nat.zero_le _)
      cases hex : expandS (envOf [] []) ⟨#[]⟩ with
      | none =>
       rw [hex] at HXP
       have HXP : Hid (Calls Tryz.prog 215 #[.string ⟨#[]⟩, .slice none 0 0, .slice none 0 0] w5 fun e w' => e = .returned (.tuple #[.string ⟨#[]⟩, .bool false]) ∧ w' = w5) := HXP
       have HF5 : Hid (Calls Tryz.prog 283 #[.pointer (some ⟨rb, 0, none⟩), .int .i64 5] w5 fun e w' => e = .returned (.tuple #[]) ∧ RRow (r5.failed 5 yr.1.1) w' rb ∧ w5.grownBy w' (some rb)) := rfail_any 5 HA5.out.row HA5.out.lines HA5.out.at' HA5.out.ne
       have HTW : Hid (r5.failed 5 yr.1.1 = r5) := by
        show (if r5.e = 0 then _ else r5) = r5
        rw [HR5.out.2.1, if_neg (by decide)]
       clear hex
       go_wp2_with fail
       refine HXP.out.mono ?_
       rintro e w6 ⟨rfl, hw⟩
       rw [hw]
       clear hw w6
       go_wp2_with fail
       refine HF5.out.mono ?_
       rintro e w6 ⟨rfl, hr6, hg6⟩
       rw [HTW.out] at hr6
       have c76 : w6.cell? ⟨rb, 7, none⟩ = some (.int .i64 5) := by rw [cell_of_row _ _ _ _ _ _ hr6]; exact congrArg (fun z => some (Value.int .i64 z)) HR5.out.2.1
       have HFIN : Hid (rstmtEnd B rb m L w (ruleS S x.1 t (said (L.drop (r.at' + 1)))) (.returned (.tuple #[])) w6) := by
        refine ⟨rfl, HB5.out.trans (grown_below hg6 H.out.rlow (Nat.le_trans H.out.bw HB5.out.size)), ?_⟩
        rw [HF.out]
        exact ⟨_, hr6, HR5.out.2.1, HR5.out.2.2, HA5.out.lines.sl⟩
       clear hr6 hg6
       go_wp2_with fail
       first | go_end0 | refine bodyPost_ret (results_none rfl _ _ _) rfl ?_
       exact HFIN.out
      | some z =>
       rw [hex] at HXP
       have HXP : Hid (Calls Tryz.prog 215 #[.string ⟨#[]⟩, .slice none 0 0, .slice none 0 0] w5 fun e w' => e = .returned (.tuple #[.string z, .bool true]) ∧ w' = w5) := HXP
       have HFIN : Hid (rstmtEnd B rb m L w (ruleS S x.1 t (said (L.drop (r.at' + 1)))) (.returned (.tuple #[])) w5) := by
        refine ⟨rfl, HB5.out, ?_⟩
        rw [HF.out]
        exact ⟨_, HR5.out.1, HR5.out.2.1, HR5.out.2.2, HA5.out.lines.sl⟩
       clear hex
       go_wp2_with fail
       refine HXP.out.mono ?_
       rintro e w6 ⟨rfl, hw⟩
       rw [hw]
       clear hw w6
       go_wp2_with fail
       first | go_end0 | refine bodyPost_ret (results_none rfl _ _ _) rfl ?_
       exact HFIN.out
     | some nv =>
      obtain ⟨nk, nvv⟩ := nv
      rw [hbs] at HBN
      have HBN : Hid (Calls Tryz.prog 287 #[.pointer (some ⟨rb, 0, none⟩), .string Y] w3 fun e w' => e = .returned (.tuple #[.string nk, .string nvv]) ∧ w' = w3) := HBN
      have hnz := bindS_size hbs
      have hvs : nvv.size ≤ 1048576 := by have := hnz.2.1; simp only at this; omega
      have hv4 : nvv.size ≤ 4000 := by have := hnz.2.1; simp only at this; omega
      have HNV : Hid (bindS YT = some (nk, nvv)) := hbs
      clear hbs HBS hnz
      by_cases hcm : nk = tCommand
      ·subst hcm
       cases told with
       | true =>
        have HF : Hid (ruleS S x.1 t (said (L.drop (r.at' + 1))) = .error (.syn, yr.1.1)) := HBAD.out True (Or.inl rfl)
        unfold tCommand at HBN
        clear HBAD
        go_wp2_with fail
        refine HBN.out.mono ?_
        rintro e w4 ⟨rfl, hw⟩
        rw [hw]
        clear hw w4
        have HF5 : Hid (Calls Tryz.prog 283 #[.pointer (some ⟨rb, 0, none⟩), .int .i64 5] w3 fun e w' => e = .returned (.tuple #[]) ∧ RRow (({ r1 with at' := j } : RV).failed 5 yr.1.1) w' rb ∧ w3.grownBy w' (some rb)) := rfail_any 5 HA3.out.row HA3.out.lines HA3.out.at' HA3.out.ne
        go_wp2_with fail
        refine HF5.out.mono ?_
        rintro e w5 ⟨rfl, hr5, hg5⟩
        obtain ⟨r5, hr5e⟩ : ∃ r5, r5 = ({ r1 with at' := j } : RV).failed 5 yr.1.1 := ⟨_, rfl⟩
        rw [← hr5e] at hr5
        have HR5 : Hid (RRow r5 w5 rb ∧ r5.e = 5 ∧ r5.line = (yr.1.1 : Nat)) := ⟨hr5, by rw [hr5e]; exact RV.failed_e HS3.out.e0, by rw [hr5e]; exact RV.failed_line HS3.out.e0⟩
        have HA5 : Hid (RAt r5 w5 rb L yr.1) := HA3.out.grown hg5 hr5 (by rw [hr5e]; exact ⟨(RV.failed_vl _ _ _).1, (RV.failed_vl _ _ _).2.1⟩)
        have HB5 : Hid (Below B w w5) := HB3.out.trans (grown_below hg5 HS3.out.rlow HS3.out.bw)
        clear hr5 hg5 hr5e HF5
        have c75 : w5.cell? ⟨rb, 7, none⟩ = some (.int .i64 5) := by rw [cell_of_row _ _ _ _ _ _ HR5.out.1]; exact congrArg (fun z => some (Value.int .i64 z)) HR5.out.2.1
        have HXP := rexpand_any nvv [] [] (.slice none 0 0) (.slice none 0 0) w5 ⟨none, 0, rfl, Nat.le_refl _, Or.inl ⟨rfl, trivial⟩⟩ ⟨none, 0, rfl, Nat.le_refl _, Or.inl ⟨rfl, trivial⟩⟩ (Nat.zero_le _) (Nat.zero_le _) hvs (fun z => Nat.zero_le _)
        cases hex : expandS (envOf [] []) nvv with
        | none =>
         rw [hex] at HXP
         have HXP : Hid (Calls Tryz.prog 215 #[.string nvv, .slice none 0 0, .slice none 0 0] w5 fun e w' => e = .returned (.tuple #[.string ⟨#[]⟩, .bool false]) ∧ w' = w5) := HXP
         have HF5 : Hid (Calls Tryz.prog 283 #[.pointer (some ⟨rb, 0, none⟩), .int .i64 5] w5 fun e w' => e = .returned (.tuple #[]) ∧ RRow (r5.failed 5 yr.1.1) w' rb ∧ w5.grownBy w' (some rb)) := rfail_any 5 HA5.out.row HA5.out.lines HA5.out.at' HA5.out.ne
         have HTW : Hid (r5.failed 5 yr.1.1 = r5) := by
          show (if r5.e = 0 then _ else r5) = r5
          rw [HR5.out.2.1, if_neg (by decide)]
         clear hex
         go_wp2_with fail
         refine HXP.out.mono ?_
         rintro e w6 ⟨rfl, hw⟩
         rw [hw]
         clear hw w6
         go_wp2_with fail
         refine HF5.out.mono ?_
         rintro e w6 ⟨rfl, hr6, hg6⟩
         rw [HTW.out] at hr6
         have c76 : w6.cell? ⟨rb, 7, none⟩ = some (.int .i64 5) := by rw [cell_of_row _ _ _ _ _ _ hr6]; exact congrArg (fun z => some (Value.int .i64 z)) HR5.out.2.1
         have HFIN : Hid (rstmtEnd B rb m L w (ruleS S x.1 t (said (L.drop (r.at' + 1)))) (.returned (.tuple #[])) w6) := by
          refine ⟨rfl, HB5.out.trans (grown_below hg6 H.out.rlow (Nat.le_trans H.out.bw HB5.out.size)), ?_⟩
          rw [HF.out]
          exact ⟨_, hr6, HR5.out.2.1, HR5.out.2.2, HA5.out.lines.sl⟩
         clear hr6 hg6
         go_wp2_with fail
         first | go_end0 | refine bodyPost_ret (results_none rfl _ _ _) rfl ?_
         exact HFIN.out
        | some z =>
         rw [hex] at HXP
         have HXP : Hid (Calls Tryz.prog 215 #[.string nvv, .slice none 0 0, .slice none 0 0] w5 fun e w' => e = .returned (.tuple #[.string z, .bool true]) ∧ w' = w5) := HXP
         have HFIN : Hid (rstmtEnd B rb m L w (ruleS S x.1 t (said (L.drop (r.at' + 1)))) (.returned (.tuple #[])) w5) := by
          refine ⟨rfl, HB5.out, ?_⟩
          rw [HF.out]
          exact ⟨_, HR5.out.1, HR5.out.2.1, HR5.out.2.2, HA5.out.lines.sl⟩
         clear hex
         go_wp2_with fail
         refine HXP.out.mono ?_
         rintro e w6 ⟨rfl, hw⟩
         rw [hw]
         clear hw w6
         go_wp2_with fail
         first | go_end0 | refine bodyPost_ret (results_none rfl _ _ _) rfl ?_
         exact HFIN.out
       | false =>
        have HIND2 : Hid (indented (said (L.drop (r.at' + 1))) = some yr) := HIND.out rfl
        clear HIND
        have HXP := rexpand_any nvv [] [] (.slice none 0 0) (.slice none 0 0) w3 ⟨none, 0, rfl, Nat.le_refl _, Or.inl ⟨rfl, trivial⟩⟩ ⟨none, 0, rfl, Nat.le_refl _, Or.inl ⟨rfl, trivial⟩⟩ (Nat.zero_le _) (Nat.zero_le _) hvs (fun z => Nat.zero_le _)
        cases hex : expandS (envOf [] []) nvv with
        | none =>
         rw [hex] at HXP
         have HXP : Hid (Calls Tryz.prog 215 #[.string nvv, .slice none 0 0, .slice none 0 0] w3 fun e w' => e = .returned (.tuple #[.string ⟨#[]⟩, .bool false]) ∧ w' = w3) := HXP
         have HF : Hid (ruleS S x.1 t (said (L.drop (r.at' + 1))) = .error (.syn, yr.1.1)) := HBAD.out True (Or.inr (Or.inr ⟨_, HNV.out, Or.inr (by rw [← env_none]; exact hex)⟩))
         have HF5 : Hid (Calls Tryz.prog 283 #[.pointer (some ⟨rb, 0, none⟩), .int .i64 5] w3 fun e w' => e = .returned (.tuple #[]) ∧ RRow (({ r1 with at' := j } : RV).failed 5 yr.1.1) w' rb ∧ w3.grownBy w' (some rb)) := rfail_any 5 HA3.out.row HA3.out.lines HA3.out.at' HA3.out.ne
         unfold tCommand at HBN
         clear HBAD hex
         go_wp2_with fail
         refine HBN.out.mono ?_
         rintro e w4 ⟨rfl, hw⟩
         rw [hw]
         clear hw w4
         go_wp2_with fail
         refine HXP.out.mono ?_
         rintro e w4 ⟨rfl, hw⟩
         rw [hw]
         clear hw w4
         go_wp2_with fail
         refine HF5.out.mono ?_
         rintro e w5 ⟨rfl, hr5, hg5⟩
         have he5 : (({ r1 with at' := j } : RV).failed 5 yr.1.1).e = 5 := RV.failed_e HS3.out.e0
         have c75 : w5.cell? ⟨rb, 7, none⟩ = some (.int .i64 5) := by rw [cell_of_row _ _ _ _ _ _ hr5]; exact congrArg (fun z => some (Value.int .i64 z)) he5
         have HFIN : Hid (rstmtEnd B rb m L w (ruleS S x.1 t (said (L.drop (r.at' + 1)))) (.returned (.tuple #[])) w5) := by
          refine ⟨rfl, HB3.out.trans (grown_below hg5 HS3.out.rlow HS3.out.bw), ?_⟩
          rw [HF.out]
          exact ⟨_, hr5, he5, RV.failed_line HS3.out.e0, RV.failed_sl HS3.out.sl⟩
         clear hr5 hg5 he5
         go_wp2_with fail
         first | go_end0 | refine bodyPost_ret (results_none rfl _ _ _) rfl ?_
         exact HFIN.out
        | some z =>
         rw [hex] at HXP
         have HXP : Hid (Calls Tryz.prog 215 #[.string nvv, .slice none 0 0, .slice none 0 0] w3 fun e w' => e = .returned (.tuple #[.string z, .bool true]) ∧ w' = w3) := HXP
         have HEX : Hid (expandS noVars nvv ≠ none) := by rw [← env_none, hex]; exact fun q => by cases q
         have c73 : w3.cell? ⟨rb, 7, none⟩ = some (.int .i64 0) := by rw [cell_of_row _ _ _ _ _ _ HS3.out.row]; exact congrArg (fun z => some (Value.int .i64 z)) HS3.out.e0
         have HBN2 : Hid (Calls Tryz.prog 287 #[.pointer (some ⟨rb, 0, none⟩), .string Y] w3 fun e w' => e = .returned (.tuple #[.string ⟨#[99, 111, 109, 109, 97, 110, 100]⟩, .string nvv]) ∧ w' = w3) := HBN.out
         clear HBAD hex HBN
         go_wp2_with fail
         refine HBN2.out.mono ?_
         rintro e w4 ⟨rfl, hw⟩
         rw [hw]
         clear hw w4
         go_wp2_with fail
         refine HXP.out.mono ?_
         rintro e w4 ⟨rfl, hw⟩
         rw [hw]
         clear hw w4
         go_wp2_with fail
         exact ⟨⟨{ r1 with at' := j }, true, nvv, rfl, rfl, HS3.out, HB3.out, (fun q => by cases q), ⟨yr.1, HLJ.out.1⟩, HV1.out, fun _ => ⟨yr, HIND2.out, HLJ.out.2, by rw [HYT.out]; exact HNV.out, HEX.out, hv4⟩⟩, by decide⟩
      ·have HF : Hid (ruleS S x.1 t (said (L.drop (r.at' + 1))) = .error (.syn, yr.1.1)) := HBAD.out True (Or.inr (Or.inr ⟨_, HNV.out, Or.inl hcm⟩))
       have q1 : (nk.toList == [99, 111, 109, 109, 97, 110, 100]) = false := text_differ hcm
       clear hcm HBAD
       go_wp2_with fail
       refine HBN.out.mono ?_
       rintro e w4 ⟨rfl, hw⟩
       rw [hw]
       clear hw w4
       have HF5 : Hid (Calls Tryz.prog 283 #[.pointer (some ⟨rb, 0, none⟩), .int .i64 5] w3 fun e w' => e = .returned (.tuple #[]) ∧ RRow (({ r1 with at' := j } : RV).failed 5 yr.1.1) w' rb ∧ w3.grownBy w' (some rb)) := rfail_any 5 HA3.out.row HA3.out.lines HA3.out.at' HA3.out.ne
       go_wp2_with fail
       refine HF5.out.mono ?_
       rintro e w5 ⟨rfl, hr5, hg5⟩
       obtain ⟨r5, hr5e⟩ : ∃ r5, r5 = ({ r1 with at' := j } : RV).failed 5 yr.1.1 := ⟨_, rfl⟩
       rw [← hr5e] at hr5
       have HR5 : Hid (RRow r5 w5 rb ∧ r5.e = 5 ∧ r5.line = (yr.1.1 : Nat)) := ⟨hr5, by rw [hr5e]; exact RV.failed_e HS3.out.e0, by rw [hr5e]; exact RV.failed_line HS3.out.e0⟩
       have HA5 : Hid (RAt r5 w5 rb L yr.1) := HA3.out.grown hg5 hr5 (by rw [hr5e]; exact ⟨(RV.failed_vl _ _ _).1, (RV.failed_vl _ _ _).2.1⟩)
       have HB5 : Hid (Below B w w5) := HB3.out.trans (grown_below hg5 HS3.out.rlow HS3.out.bw)
       clear hr5 hg5 hr5e HF5
       have c75 : w5.cell? ⟨rb, 7, none⟩ = some (.int .i64 5) := by rw [cell_of_row _ _ _ _ _ _ HR5.out.1]; exact congrArg (fun z => some (Value.int .i64 z)) HR5.out.2.1
       have HXP := rexpand_any nvv [] [] (.slice none 0 0) (.slice none 0 0) w5 ⟨none, 0, rfl, Nat.le_refl _, Or.inl ⟨rfl, trivial⟩⟩ ⟨none, 0, rfl, Nat.le_refl _, Or.inl ⟨rfl, trivial⟩⟩ (Nat.zero_le _) (Nat.zero_le _) hvs (fun z => Nat.zero_le _)
       cases hex : expandS (envOf [] []) nvv with
       | none =>
        rw [hex] at HXP
        have HXP : Hid (Calls Tryz.prog 215 #[.string nvv, .slice none 0 0, .slice none 0 0] w5 fun e w' => e = .returned (.tuple #[.string ⟨#[]⟩, .bool false]) ∧ w' = w5) := HXP
        have HF5 : Hid (Calls Tryz.prog 283 #[.pointer (some ⟨rb, 0, none⟩), .int .i64 5] w5 fun e w' => e = .returned (.tuple #[]) ∧ RRow (r5.failed 5 yr.1.1) w' rb ∧ w5.grownBy w' (some rb)) := rfail_any 5 HA5.out.row HA5.out.lines HA5.out.at' HA5.out.ne
        have HTW : Hid (r5.failed 5 yr.1.1 = r5) := by
         show (if r5.e = 0 then _ else r5) = r5
         rw [HR5.out.2.1, if_neg (by decide)]
        clear hex
        go_wp2_with fail
        refine HXP.out.mono ?_
        rintro e w6 ⟨rfl, hw⟩
        rw [hw]
        clear hw w6
        go_wp2_with fail
        refine HF5.out.mono ?_
        rintro e w6 ⟨rfl, hr6, hg6⟩
        rw [HTW.out] at hr6
        have c76 : w6.cell? ⟨rb, 7, none⟩ = some (.int .i64 5) := by rw [cell_of_row _ _ _ _ _ _ hr6]; exact congrArg (fun z => some (Value.int .i64 z)) HR5.out.2.1
        have HFIN : Hid (rstmtEnd B rb m L w (ruleS S x.1 t (said (L.drop (r.at' + 1)))) (.returned (.tuple #[])) w6) := by
         refine ⟨rfl, HB5.out.trans (grown_below hg6 H.out.rlow (Nat.le_trans H.out.bw HB5.out.size)), ?_⟩
         rw [HF.out]
         exact ⟨_, hr6, HR5.out.2.1, HR5.out.2.2, HA5.out.lines.sl⟩
        clear hr6 hg6
        go_wp2_with fail
        first | go_end0 | refine bodyPost_ret (results_none rfl _ _ _) rfl ?_
        exact HFIN.out
       | some z =>
        rw [hex] at HXP
        have HXP : Hid (Calls Tryz.prog 215 #[.string nvv, .slice none 0 0, .slice none 0 0] w5 fun e w' => e = .returned (.tuple #[.string z, .bool true]) ∧ w' = w5) := HXP
        have HFIN : Hid (rstmtEnd B rb m L w (ruleS S x.1 t (said (L.drop (r.at' + 1)))) (.returned (.tuple #[])) w5) := by
         refine ⟨rfl, HB5.out, ?_⟩
         rw [HF.out]
         exact ⟨_, HR5.out.1, HR5.out.2.1, HR5.out.2.2, HA5.out.lines.sl⟩
        clear hex
        go_wp2_with fail
        refine HXP.out.mono ?_
        rintro e w6 ⟨rfl, hw⟩
        rw [hw]
        clear hw w6
        go_wp2_with fail
        first | go_end0 | refine bodyPost_ret (results_none rfl _ _ _) rfl ?_
        exact HFIN.out
 ·rw [decide_eq_false hR0] at hnR
  have HF : Hid (ruleS S x.1 t (said (L.drop (r.at' + 1))) = .error (.syn, x.1)) := by rw [HR.out, if_pos (Or.inr hR0)]; rfl
  clear hR0
  go_enter Tryz.func284, Tryz.ntmps284
  go_wp2_with fail
  refine (HLF1.out _).mono ?_
  rintro e w1 ⟨rfl, hw⟩
  rw [hw]
  clear hw w1
  go_wp2_with fail
  refine (HWL.out _).mono ?_
  rintro e w1 ⟨rfl, hw⟩
  rw [hw]
  clear hw w1
  go_wp2_with fail
  refine (HLF2.out _).mono ?_
  rintro e w1 ⟨rfl, hw⟩
  rw [hw]
  clear hw w1
  go_wp2_with fail
  refine HFL.out.mono ?_
  rintro e w3 ⟨rfl, hr3, hg3⟩
  have HFIN : Hid (rstmtEnd B rb m L w (ruleS S x.1 t (said (L.drop (r.at' + 1)))) (.returned (.tuple #[])) w3) := by
   refine ⟨rfl, grown_below hg3 H.out.rlow H.out.bw, ?_⟩
   rw [HF.out]
   exact ⟨_, hr3, RV.failed_e H.out.e0, RV.failed_line H.out.e0, RV.failed_sl H.out.sl⟩
  clear hr3 hg3
  go_wp2_with fail
  first | go_end0 | refine bodyPost_ret (results_none rfl _ _ _) rfl ?_
  exact HFIN.out
end Go.Proofs.YthhbpebihgjpjaaGreatDoor
