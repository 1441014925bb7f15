import Derived.Test.YthhbpebihgjpjaaGreatDoorP38
import Derived.Test.YthhbpebihgjpjaaGreatDoorP32
import Derived.Deep.QuietTactic
import Derived.BigQuiet
import Derived.Deep.CutRange
namespace Go.Proofs.YthhbpebihgjpjaaGreatDoor
open Go.RowKit

theorem rstatement_any {r : RV} {ds : List REdgeV} {c : Nat → Nat} {B : Nat} {w : World} {rb : Nat} {L : List Line} {S : St} {m : Nat} {x : Line} (h : RSt r ds c B w rb L S (m + 1)) (hx : L[r.at']? = some x) :
  Calls Tryz.prog 211 #[.pointer (some ⟨rb, 0, none⟩)] w (rstepEnd r ds c B rb m L w S x) := by
 cases hnd : keywordB x.2 tDefault with
 | true => exact rstatement_default h hx hnd
 | false => exact rstatement_other rbuild_done h hx hnd
end Go.Proofs.YthhbpebihgjpjaaGreatDoor

namespace Go.Proofs.YthhbpebihgjpjaaGreatDoor
open Go.RowKit
set_option maxRecDepth 1000000

def rparseEnd (W0 : Nat) (res : Except (Bad × Nat) (St × List ByteArray)) (e : Ending) (w' : World) : Prop := match res with
 | .error bk => e = .returned (.tuple #[.pointer none, .int .i64 ((badK bk.1 : Nat) + 1), .int .i64 (bk.2 : Nat)])
 | .ok Sc => ∃ rb, e = .returned (.tuple #[.pointer (some ⟨rb, 5, none⟩), .int .i64 0, .int .i64 (-1)]) ∧ RManAt W0 Sc.1 Sc.2 rb w' ∧ SOk Sc.1 0 []
theorem parse_so (t : ByteArray) (ht : t.size ≤ 4000) : parseS t = match runAll St.none (saidS t) with
  | .error e => .error e
  | .ok S => match commandsS S S.edges with
    | .none => .error (.syn, 0)
    | some cs => .ok (S, cs) := by
 unfold parseS runAll
 rw [if_neg (by omega)]
 rfl
set_option maxHeartbeats 16000000 in
theorem rparse_any (t : ByteArray) (w : World) (ht : t.size ≤ 140737488351232) :
  Calls Tryz.prog 132 #[.string t] w fun e w' => rparseEnd w.heap.size (parseS t) e w' ∧ Below w.heap.size w w' := by
 have tz : (t.size : Int) ≤ 140737488351232 := by omega
 by_cases h4 : 4000 < t.size
 ·have HP : Hid (parseS t = .error (.syn, 0)) := by show _ = _; unfold parseS; rw [if_pos h4]
  have HB : Hid (Below w.heap.size w w) := Below.refl _ _
  have i4 : (4000 : Int) < (t.size : Int) := by omega
  clear ht h4
  go_enter Tryz.func132, Tryz.ntmps132
  go_wp2_with fail
  go_ret3
  rw [HP.out]
  exact ⟨rfl, HB.out⟩
 have HPS : Hid (parseS t = match runAll St.none (saidS t) with
  | .error e => .error e
  | .ok S => match commandsS S S.edges with
    | .none => .error (.syn, 0)
    | some cs => .ok (S, cs)) := parse_so t (by omega)
 have HLN : Hid (∀ wx, Calls Tryz.prog 210 #[.string t] wx fun e w' => ∃ v, e = .returned v ∧ w'.ownsRow wx.heap.size 417 2 v (linesS t).length (rlcells (linesS t)) ∧ Below wx.heap.size wx w') := fun wx => rlines_any t (by omega) wx
 have hlo := lines_ok t
 have hso := said_ok t
 have HLO : Hid ((linesS t).length ≤ 5000 ∧ (∀ x ∈ linesS t, x.2.size ≤ 4000) ∧ (saidS t).length ≤ 4001) := ⟨by omega, fun x hx => by have := hlo.2 x hx; omega, by omega⟩
 have HSD : Hid (saidS t = said (linesS t)) := rfl
 have i4 : ¬ (4000 : Int) < (t.size : Int) := by omega
 clear hlo hso ht h4
 generalize saidS t = LS at *
 generalize linesS t = L at *
 go_enter Tryz.func132, Tryz.ntmps132
 go_wp2_with fail
 obtain ⟨rb, hrb⟩ : ∃ rb, rb = w.heap.size := ⟨_, rfl⟩
 refine (HLN.out _).mono ?_
 rintro e w4 ⟨v, rfl, hv, hb⟩
 obtain ⟨aol, capl, rfl, _, _⟩ := row_form hv
 have hv' : w4.ownsRow (w.heap.size + 1) 417 2 (.slice aol L.length capl) L.length (rlcells L) := by simpa using hv
 have hb' : Below (w.heap.size + 1) (w.alloc (.cells #[.slice none 0 0, .int .i64 0, .slice none 0 0, .slice none 0 0, .slice none 0 0, .slice none 0 0, .slice none 0 0, .int .i64 0, .int .i64 0] 330)) w4 := by simpa using hb
 have HS0 : Hid (RSt (rvStart (.slice aol L.length capl)) [] (fun k => if k = w.heap.size then 1 else 0) w.heap.size (w4.setCell ⟨w.heap.size, 0, none⟩ (.slice aol L.length capl)) w.heap.size L St.none 5000) := rstate_start hv' hb' HLO.out.2.1 HLO.out.1
 have hrow : w4.heap[w.heap.size]? = some (.cells #[.slice none 0 0, .int .i64 0, .slice none 0 0, .slice none 0 0, .slice none 0 0, .slice none 0 0, .slice none 0 0, .int .i64 0, .int .i64 0] 330 (0, 0)) := (hb'.block _ (Nat.lt_succ_self _)).trans (heapA_new _ _ _ rfl)
 have c0 : w4.cell? ⟨w.heap.size, 0, none⟩ = some (.slice none 0 0) := by rw [cell_of_row _ _ _ _ _ _ hrow]; rfl
 have f0 : w4.frozen? ⟨w.heap.size, 0, none⟩ = false := frozen_of_row _ _ _ _ _ hrow
 have HB0 : Hid (Below w.heap.size w (w4.setCell ⟨w.heap.size, 0, none⟩ (.slice aol L.length capl))) := (((Below.refl _ _).alloc (Nat.le_refl _) _).trans (hb'.mono (Nat.le_succ _))).setCell (p := ⟨w.heap.size, 0, none⟩) (Nat.le_refl _) _
 clear hv hb hv' hb' hrow
 go_wp2_with fail
 rw [← hrb] at HS0 HB0 c0 f0
 rw [← hrb]
 have HRB : Hid (rb = w.heap.size) := hrb
 clear hrb c0 f0
 generalize w4.setCell ⟨rb, 0, none⟩ (.slice aol L.length capl) = w5 at *
 go_loopw [] (fun wr => (∃ (r : RV) (ds : List REdgeV) (c : Nat → Nat) (S : St) (m : Nat), RSt r ds c rb wr rb L S m ∧ (said (L.drop r.at')).length + 1 ≤ m ∧ runAll S (said (L.drop r.at')) = runAll St.none LS ∧ Ruled S ∧ Below rb w wr) ∨ (∃ (r : RV) (bk : Bad × Nat), RRow r wr rb ∧ r.e = ((badK bk.1 : Nat) : Int) + 1 ∧ r.line = (bk.2 : Nat) ∧ SlV r.vl ∧ runAll St.none LS = .error bk ∧ Below rb w wr)) (fun wr => parseM L rb wr)
 case atStart =>
  left
  refine ⟨_, _, _, _, _, HS0.out, ?_, ?_, fun e he => (by cases he), HB0.out⟩
  ·have := HLO.out.2.2
   rw [HSD.out] at this
   show (said (L.drop 0)).length + 1 ≤ 5000
   rw [List.drop_zero]
   omega
  ·show runAll St.none (said (L.drop 0)) = _
   rw [List.drop_zero, HSD.out]
 case round =>
  rcases hrel with ⟨r, ds, c, S, m, hst, hm, hrun, hru, hbl⟩ | ⟨r, bk, hrr, he, hl, hsl, hrun, hbl⟩
  ·have HST : Hid (RSt r ds c rb wr rb L S m) := hst
   have HM : Hid ((said (L.drop r.at')).length + 1 ≤ m) := hm
   have HRUN : Hid (runAll S (said (L.drop r.at')) = runAll St.none LS) := hrun
   have HRU : Hid (Ruled S) := hru
   have HBL : Hid (Below rb w wr) := hbl
   obtain ⟨ao, cp, hvl, _, _⟩ := hst.const.now.1
   have c0 : wr.cell? ⟨rb, 0, none⟩ = some (.slice ao L.length cp) := by rw [cell_of_row _ _ _ _ _ _ hst.row]; exact congrArg some hvl
   have c1 : wr.cell? ⟨rb, 1, none⟩ = some (.int .i64 (r.at' : Nat)) := by rw [cell_of_row _ _ _ _ _ _ hst.row]; rfl
   have c7 : wr.cell? ⟨rb, 7, none⟩ = some (.int .i64 0) := by rw [cell_of_row _ _ _ _ _ _ hst.row]; exact congrArg (fun z => some (Value.int .i64 z)) hst.e0
   clear hst hm hrun hru hbl hvl HS0 HB0 HLN
   by_cases hat : r.at' < L.length
   ·have a1 : (r.at' : Int) < (L.length : Int) := by omega
    obtain ⟨x, hx⟩ : ∃ x, L[r.at']? = some x := ⟨L[r.at'], by simp⟩
    have HX : Hid (L[r.at']? = some x) := hx
    clear hx
    obtain ⟨m', rfl⟩ : ∃ m', m = m' + 1 := ⟨m - 1, by have := HM.out; omega⟩
    have HPM : Hid (parseM L rb wr = 1 + (said (L.drop r.at')).length * (L.length + 1) + (L.length - r.at')) := by rw [HST.out.row.parseM, if_pos HST.out.e0]; rfl
    have HSM : Hid (∀ q, Calls Tryz.prog 211 #[.pointer (some ⟨rb, 0, none⟩)] (wr.drewN q) (rstepEnd r ds c rb rb m' L (wr.drewN q) S x)) := fun q => rstatement_any (HST.out.below (below_drewN (Below.refl _ _) q)) HX.out
    go_wp2_with fail
    go_quiet (fail)
    go_wp2_with fail
    refine (HSM.out _).mono ?_
    intro e w6 hend
    have HB1 : Hid (Below rb w (wr.drewN nq)) := below_drewN HBL.out nq
    unfold rstepEnd at hend
    by_cases hem : emptyB x.2 = true
    ·rw [if_pos hem] at hend
     obtain ⟨rfl, hst6, hb6⟩ := hend
     have HST6 : Hid (RSt { r with at' := r.at' + 1 } ds c rb w6 rb L S (m' + 1)) := hst6
     have HB6 : Hid (Below rb w w6) := HB1.out.trans hb6
     have HSK : Hid (said (L.drop (r.at' + 1)) = said (L.drop r.at')) := said_skip HX.out hem
     have HPM6 : Hid (parseM L rb w6 = 1 + (said (L.drop (r.at' + 1))).length * (L.length + 1) + (L.length - (r.at' + 1))) := by rw [HST6.out.row.parseM, if_pos HST6.out.e0]; rfl
     clear hst6 hb6 hem
     go_wp2_with fail
     refine ⟨Or.inl ⟨_, _, _, S, m' + 1, HST6.out, ?_, ?_, HRU.out, HB6.out⟩, ?_⟩
     ·show (said (L.drop (r.at' + 1))).length + 1 ≤ m' + 1
      rw [HSK.out]; exact HM.out
     ·show runAll S (said (L.drop (r.at' + 1))) = _
      rw [HSK.out]; exact HRUN.out
     ·rw [HPM6.out, HPM.out, HSK.out]; omega
    ·rw [if_neg hem] at hend
     have HSH : Hid (said (L.drop r.at') = x :: said (L.drop (r.at' + 1))) := said_head HX.out (by simpa using hem)
     obtain ⟨rfl, hb6, hres⟩ := hend
     have HB6 : Hid (Below rb w w6) := HB1.out.trans hb6
     have HRC := HRUN.out
     rw [HSH.out, runAll_cons] at HRC
     cases hq : stmtS S x.1 x.2 (said (L.drop (r.at' + 1))) with
     | error bk =>
      rw [hq] at hres HRC
      obtain ⟨r', h1, h2, h3, h4⟩ := hres
      have HF6 : Hid (RRow r' w6 rb ∧ r'.e = ((badK bk.1 : Nat) : Int) + 1 ∧ r'.line = (bk.2 : Nat) ∧ SlV r'.vl ∧ runAll St.none LS = .error bk) := ⟨h1, h2, h3, h4, HRC.symm⟩
      have HPM6 : Hid (parseM L rb w6 = 0) := by rw [h1.parseM, if_neg (by rw [h2]; omega)]; rfl
      clear hq HRC h1 h2 h3 h4 hb6
      go_wp2_with fail
      refine ⟨Or.inr ⟨r', bk, HF6.out.1, HF6.out.2.1, HF6.out.2.2.1, HF6.out.2.2.2.1, HF6.out.2.2.2.2, HB6.out⟩, ?_⟩
      rw [HPM6.out, HPM.out]; omega
     | ok Sr =>
      obtain ⟨S', rest'⟩ := Sr
      have hle := stmtS_rest hq
      have hru := stmtS_ruled hq HRU.out
      rw [hq] at hres HRC
      obtain ⟨r', ds', c', h1, h2⟩ := hres
      have h2 : said (L.drop r'.at') = rest' := h2
      have h1 : RSt r' ds' c' rb w6 rb L S' m' := h1
      have HF6 : Hid (RSt r' ds' c' rb w6 rb L S' m' ∧ said (L.drop r'.at') = rest' ∧ runAll S' rest' = runAll St.none LS ∧ Ruled S' ∧ rest'.length ≤ (said (L.drop (r.at' + 1))).length) := ⟨h1, h2, HRC, hru, hle⟩
      have HPM6 : Hid (parseM L rb w6 = 1 + rest'.length * (L.length + 1) + (L.length - r'.at')) := by rw [h1.row.parseM, if_pos h1.e0, h2]; rfl
      clear hq HRC h1 h2 hb6 hle hru
      go_wp2_with fail
      have hl1 : (said (L.drop r.at')).length = (said (L.drop (r.at' + 1))).length + 1 := by rw [HSH.out]; rfl
      have hl2 := HF6.out.2.2.2.2
      refine ⟨Or.inl ⟨r', ds', c', S', m', HF6.out.1, ?_, ?_, HF6.out.2.2.2.1, HB6.out⟩, ?_⟩
      ·rw [HF6.out.2.1]
       have := HM.out
       omega
      ·rw [HF6.out.2.1]; exact HF6.out.2.2.1
      ·rw [HPM6.out, HPM.out, hl1]
       have h3 : rest'.length * (L.length + 1) ≤ (said (L.drop (r.at' + 1))).length * (L.length + 1) := Nat.mul_le_mul_right _ hl2
       rw [Nat.add_mul]
       omega
   ·have a1 : ¬ (r.at' : Int) < (L.length : Int) := by omega
    have HRS : Hid (runAll St.none LS = .ok S) := by
     show _ = _
     rw [← HRUN.out, List.drop_of_length_le (by omega)]
     rfl
    go_wp2_with fail
    go_quiet (fail)
    have HST1 : Hid (RSt r ds c rb (wr.drewN nq) rb L S m) := HST.out.below (below_drewN (Below.refl _ _) nq)
    have HB1 : Hid (Below rb w (wr.drewN nq)) := below_drewN HBL.out nq
    clear HST HBL HM HRUN
    go_wp2_with fail
    generalize wr.drewN nq = w6 at *
    have HC0 : Hid (CmdSt r ds c rb w6 rb S 0 (List.replicate ds.length ⟨#[]⟩) w6) := ⟨Nat.le_refl _, Below.refl _ _, fun _ _ _ _ => rfl, by rw [← recellsC_none]; exact HST1.out.edges, by rw [List.length_replicate]; exact HST1.out.const.now.2.1⟩
    have HDL : Hid (ds.length = S.edges.length) := HST1.out.const.now.2.1
    obtain ⟨aoe, cape, hve, _, hgve⟩ := row_form HST1.out.edges
    have HVE : Hid (r.ve = .slice aoe S.edges.length cape ∧ (0 < S.edges.length → ∃ g, aoe = some ⟨g, 0, none⟩)) := ⟨hve, hgve⟩
    have el64 : S.edges.length ≤ 64 := HST1.out.ok.edges
    clear hve hgve
    generalize hEL : S.edges.length = EL at *
    have HEL : Hid (S.edges.length = EL) := hEL
    clear hEL
    go_loopw [6] (fun z wr => ∃ (i : Nat) (done cs : List ByteArray), z = .int .i64 i ∧ i ≤ EL ∧ CmdSt r ds c rb w6 rb S i cs wr ∧ commandsS S (S.edges.take i) = some done ∧ done.length = i ∧ cs.take i = done) (fun z _ => EL - (intOf z).toNat)
    case atStart => exact ⟨0, [], _, rfl, Nat.zero_le _, HC0.out, rfl, rfl, rfl⟩
    case round =>
     obtain ⟨i, done, cs, rfl, hiE, hcs, hcm, hdl, htk⟩ := hrel
     have HCS : Hid (CmdSt r ds c rb w6 rb S i cs wr) := hcs
     have HCM : Hid (commandsS S (S.edges.take i) = some done ∧ done.length = i ∧ cs.take i = done) := ⟨hcm, hdl, htk⟩
     obtain ⟨h1, h2, h3, h4, h5, h6, h7⟩ := hcs.rest HST1.out
     have HRW : Hid (RRow r wr rb) := h1
     have HTP : Hid (BindsAt wr r.vt S.top) := h2
     have HRL : Hid (BindsAt wr r.vr S.rules) := h3
     have HOW : Hid (wr.ownsRow rb 327 1 r.vo S.edges.length (ds.map (·.vb))) := h4
     have HLS : Hid (RListsAt wr ds S.edges) := h5
     have HDF : Hid (wr.ownsRow rb 9 1 r.vf S.defs.length (S.defs.map Value.string)) := h6
     have HO7 : Hid (∀ (j : Nat) d e, i ≤ j → ds[j]? = some d → S.edges[j]? = some e → wr.ownsRow rb 338 2 d.vb e.own.length (bcellsB e.own)) := h7
     have c5 : wr.cell? ⟨rb, 5, none⟩ = some (.slice aoe EL cape) := by rw [cell_of_row _ _ _ _ _ _ h1]; exact congrArg some HVE.out.1
     clear hcs hcm hdl htk h1 h2 h3 h4 h5 h6 h7 HC0
     have i0 : (0 : Int) ≤ (i : Int) := by omega
     by_cases hlt : i < EL
     ·have i1 : (i : Int) < (EL : Int) := by omega
      obtain ⟨d, hd⟩ : ∃ d, ds[i]? = some d := ⟨ds[i]'(by have := HDL.out; omega), by simp⟩
      obtain ⟨e, he⟩ : ∃ e, S.edges[i]? = some e := ⟨S.edges[i]'(by have := HEL.out; omega), by simp⟩
      obtain ⟨y0, hy0⟩ : ∃ y, cs[i]? = some y := ⟨cs[i]'(by have := HCS.out.len; have := HEL.out; omega), by simp⟩
      have hem : e ∈ S.edges := List.mem_of_getElem? he
      have hok := HST1.out.ok.edge e hem
      obtain ⟨ht1, ht2, _, _, hrule⟩ := HLS.out.2 i d e hd he
      obtain ⟨g, rfl⟩ := HVE.out.2 (by omega)
      have hrw := HCS.out.edges
      rw [HVE.out.1, HEL.out] at hrw
      have ho7 := HO7.out i d e (Nat.le_refl _) hd he
      obtain ⟨aoX, cpX, hvo, _, _⟩ := id ht1
      obtain ⟨aoI, cpI, hvi, _, _⟩ := id ht2
      obtain ⟨aoB, cpB, hvb, _, _⟩ := row_form ho7
      have z0 : wr.cell? ⟨g, i * 6, none⟩ = some (.slice aoX e.outs.length cpX) := by
       have := (row_cell hrw (i * 6 + 0) d.vo (by rw [recellsC_at ds cs i d y0 0 hd hy0 (by omega)]; rfl)).1
       rw [Nat.add_zero, hvo] at this
       exact this
      have z1 : wr.cell? ⟨g, i * 6 + 1, none⟩ = some (.slice aoI e.ins.length cpI) := by
       have := (row_cell hrw (i * 6 + 1) d.vi (by rw [recellsC_at ds cs i d y0 1 hd hy0 (by omega)]; rfl)).1
       rw [hvi] at this
       exact this
      obtain ⟨aoo, capo, hvoo, _, hgo⟩ := row_form HOW.out
      have how := HOW.out
      rw [hvoo, HEL.out] at how
      obtain ⟨go, rfl⟩ := hgo (by rw [HEL.out]; omega)
      have z4 : wr.cell? ⟨rb, 4, none⟩ = some (.slice (some ⟨go, 0, none⟩) EL capo) := by rw [cell_of_row _ _ _ _ _ _ HRW.out]; exact congrArg some (hvoo.trans (by rw [HEL.out]))
      have zb : wr.cell? ⟨go, i, none⟩ = some (.slice aoB e.own.length cpB) := by
       have := (row_cell how i d.vb (by rw [List.getElem?_map, hd]; rfl)).1
       rw [hvb] at this
       exact this
      rw [hvo] at ht1
      rw [hvi] at ht2
      rw [hvb] at ho7
      have HJI : Hid (Calls Tryz.prog 212 #[.slice aoI e.ins.length cpI] wr fun x w' => x = .returned (.string (joinP e.ins)) ∧ w' = wr) := joined_any e.ins _ wr ht2 (by omega) (fun y hy => by have := hok.2.2.2.2.2.1 y hy; omega)
      have HJO : Hid (Calls Tryz.prog 212 #[.slice aoX e.outs.length cpX] wr fun x w' => x = .returned (.string (joinP e.outs)) ∧ w' = wr) := joined_any e.outs _ wr ht1 (by omega) (fun y hy => by have := hok.2.2.2.2.1 y hy; omega)
      have HO8 : Hid (wr.ownsRow rb 338 2 (.slice aoB e.own.length cpB) e.own.length (bcellsB e.own)) := ho7
      have HDE : Hid (ds[i]? = some d ∧ S.edges[i]? = some e ∧ cs[i]? = some y0 ∧ d.vb = .slice aoB e.own.length cpB ∧ d.rule = e.rule ∧ e ∈ S.edges ∧ e.own.length ≤ 5000) := ⟨hd, he, hy0, hvb, hrule, hem, hok.2.1⟩
      have hrbw : rb ≤ wr.heap.size := Nat.le_of_lt HRW.out.lt
      have HSE : Hid (Calls Tryz.prog 213 #[.slice aoB e.own.length cpB, .string ⟨#[105, 110]⟩, .string (joinP e.ins)] wr fun x w' => ∃ v', x = .returned v' ∧ w'.ownsRow rb 338 2 v' (setB e.own tIn (joinP e.ins)).length (bcellsB (setB e.own tIn (joinP e.ins))) ∧ wr.grownBy w' (Value.slice aoB e.own.length cpB).ownBlock ∧ (∀ k, v'.ownBlock = some k → (Value.slice aoB e.own.length cpB).ownBlock = some k ∨ wr.heap.size ≤ k)) := rset_any e.own _ tIn (joinP e.ins) rb wr ho7 (by have := hok.2.1; omega) hrbw
      clear hd he hy0 hem hok ht1 ht2 hrule hrw ho7 hvo hvi hvb hvoo hgo how
      generalize e.ins.length = NI at *
      generalize e.outs.length = NX at *
      generalize hOL : e.own.length = OL at *
      have HOL : Hid (e.own.length = OL) := hOL
      clear hOL
      go_wp2_with fail
      refine HJI.out.mono ?_
      rintro x2 w7 ⟨rfl, hw⟩
      rw [hw]
      clear hw w7
      go_wp2_with fail
      refine HJO.out.mono ?_
      rintro x2 w7 ⟨rfl, hw⟩
      rw [hw]
      clear hw w7
      go_wp2_with fail
      refine HSE.out.mono ?_
      rintro x2 w7 ⟨v1, rfl, hv7, hg7, hat7⟩
      obtain ⟨ao1, cp1, rfl, _, _⟩ := row_form hv7
      have HSE2 : Hid (Calls Tryz.prog 213 #[.slice ao1 (setB e.own tIn (joinP e.ins)).length cp1, .string ⟨#[111, 117, 116]⟩, .string (joinP e.outs)] w7 fun x w' => ∃ v', x = .returned v' ∧ w'.ownsRow rb 338 2 v' (ownAll e).length (bcellsB (ownAll e)) ∧ w7.grownBy w' (Value.slice ao1 (setB e.own tIn (joinP e.ins)).length cp1).ownBlock ∧ (∀ k, v'.ownBlock = some k → (Value.slice ao1 (setB e.own tIn (joinP e.ins)).length cp1).ownBlock = some k ∨ w7.heap.size ≤ k)) := rset_any (setB e.own tIn (joinP e.ins)) _ tOut (joinP e.outs) rb w7 hv7 (by have h1 := setB_length tIn (joinP e.ins) e.own; have h2 := HDE.out.2.2.2.2.2.2; have h3 := HOL.out; omega) (Nat.le_trans hrbw hg7.size)
      have HG7 : Hid (wr.grownBy w7 d.vb.ownBlock ∧ ∀ k, (Value.slice ao1 (setB e.own tIn (joinP e.ins)).length cp1).ownBlock = some k → d.vb.ownBlock = some k ∨ wr.heap.size ≤ k) := by rw [HDE.out.2.2.2.1]; exact ⟨hg7, hat7⟩
      clear hv7 hg7 hat7 z0 z1 z4 zb c5
      go_wp2_with fail
      refine HSE2.out.mono ?_
      rintro x2 w8 ⟨v2, rfl, hv8, hg8, hat8⟩
      obtain ⟨ao2, cp2, rfl, _, _⟩ := row_form hv8
      have HC8 : Hid (CmdSt r ds c rb w6 rb S (i + 1) cs w8) := HCS.out.half HST1.out HDE.out.1 HG7.out.1 HG7.out.2 hg8
      have HV8 : Hid (BindsAt w8 (.slice ao2 (ownAll e).length cp2) (ownAll e)) := binds_of_row hv8
      clear hv8 hg8 hat8 HG7 HSE HSE2 HJI HJO HO8 HCS HRW HTP HRL HOW HLS HDF HO7
      obtain ⟨h1, h2, h3, _, _, _, _⟩ := HC8.out.rest HST1.out
      have HRW : Hid (RRow r w8 rb) := h1
      obtain ⟨k, hk⟩ : ∃ k, bindIdx S.rules e.rule = some k := by
       cases hq : bindIdx S.rules e.rule with
       | none =>
        have := HRU.out e HDE.out.2.2.2.2.2.1
        rw [bindOf_none hq] at this
        cases this
       | some k => exact ⟨k, rfl⟩
      obtain ⟨y, hky, hby⟩ := bindOf_idx hk
      have HCMD : Hid (commandS S e = expandS (envOf (ownAll e) S.top) y.2) := by show _ = _; unfold commandS; rw [hby]; rfl
      have hyz : y.2.size ≤ 4000 := HST1.out.ok.rules y (List.mem_of_getElem? hky)
      obtain ⟨aor, capr, hvr, hcr, hrr⟩ := id h3
      obtain ⟨gr, orr, rfl, hrc⟩ : ∃ b o, aor = some ⟨b, o, none⟩ ∧ ∀ k x, S.rules[k]? = some x → w8.cell? ⟨b, o + k * 2, none⟩ = some (.string x.1) ∧ w8.cell? ⟨b, o + k * 2 + 1, none⟩ = some (.string x.2) := by
       rcases hrr with ⟨q, _⟩ | q
       ·rw [q] at hky; simp at hky
       ·exact q
      obtain ⟨aot, capt, hvt, _, _⟩ := id h2
      have c3 : w8.cell? ⟨rb, 3, none⟩ = some (.slice (some ⟨gr, orr, none⟩) S.rules.length capr) := by rw [cell_of_row _ _ _ _ _ _ h1]; exact congrArg some hvr
      have c2 : w8.cell? ⟨rb, 2, none⟩ = some (.slice aot S.top.length capt) := by rw [cell_of_row _ _ _ _ _ _ h1]; exact congrArg some hvt
      have ct := (hrc k y hky).2
      have hrw := HC8.out.edges
      rw [HVE.out.1, HEL.out] at hrw
      have z4 : w8.cell? ⟨g, i * 6 + 4, none⟩ = some (.string e.rule) := by
       have := (row_cell hrw (i * 6 + 4) (.string d.rule) (by rw [recellsC_at ds cs i d y0 4 HDE.out.1 HDE.out.2.2.1 (by omega)]; rfl)).1
       rw [HDE.out.2.2.2.2.1] at this
       exact this
      have hz5 := row_cell hrw (i * 6 + 5) (.string y0) (by rw [recellsC_at ds cs i d y0 5 HDE.out.1 HDE.out.2.2.1 (by omega)]; rfl)
      have z5 : w8.cell? ⟨g, i * 6 + 5, none⟩ = some (.string y0) := hz5.1
      have f5 : w8.frozen? ⟨g, i * 6 + 5, none⟩ = false := hz5.2
      have hkl : k < S.rules.length := (List.getElem?_eq_some_iff.1 hky).1
      have k0 : (0 : Int) ≤ (k : Int) := by omega
      have k1 : (k : Int) < (S.rules.length : Int) := by omega
      have r5 : (S.rules.length : Int) ≤ 5000 := by have := HST1.out.ok.rulen; omega
      have HFD : Hid (∀ q, Calls Tryz.prog 214 #[.slice (some ⟨gr, orr, none⟩) S.rules.length capr, .string e.rule] (w8.drewN q) fun x w' => x = .returned (.int .i64 (k : Nat)) ∧ w' = w8.drewN q) := fun q => by
       have := rfind_any S.rules (.slice (some ⟨gr, orr, none⟩) S.rules.length capr) e.rule (w8.drewN q) (by rw [← hvr]; exact h3.keep (fun _ _ => rfl)) (by omega)
       rw [hk] at this
       exact this
      have HEX : Hid (∀ q q', Calls Tryz.prog 215 #[.string y.2, .slice ao2 (ownAll e).length cp2, .slice aot S.top.length capt] ((w8.drewN q).drewN q') fun x w' => x = .returned (expPost (expandS (envOf (ownAll e) S.top) y.2)) ∧ w' = (w8.drewN q).drewN q') := fun q q' => rexpand_any y.2 (ownAll e) S.top _ _ ((w8.drewN q).drewN q') (HV8.out.keep (fun _ _ => rfl)) (by rw [← hvt]; exact h2.keep (fun _ _ => rfl)) (by
       have a1 := setB_length tIn (joinP e.ins) e.own
       have a2 := setB_length tOut (joinP e.outs) (setB e.own tIn (joinP e.ins))
       have a3 := HDE.out.2.2.2.2.2.2
       have a4 := HOL.out
       show (setB (setB e.own tIn (joinP e.ins)) tOut (joinP e.outs)).length ≤ _
       omega) (by have := HST1.out.ok.tops; omega) (by omega) (fun z => env_edge HST1.out.ok HDE.out.2.2.2.2.2.1 z)
      clear h1 h2 h3 hk hky hby hvr hcr hrr hrc hvt hrw hz5 hkl HV8
      generalize S.rules.length = RL at *
      generalize S.top.length = TL at *
      generalize (ownAll e).length = NA at *
      generalize y.2 = YT at *
      cases hex : expandS (envOf (ownAll e) S.top) YT with
      | none =>
       rw [hex] at HEX HCMD
       have HEX : Hid (∀ q q', Calls Tryz.prog 215 #[.string YT, .slice ao2 NA cp2, .slice aot TL capt] ((w8.drewN q).drewN q') fun x w' => x = .returned (.tuple #[.string ⟨#[]⟩, .bool false]) ∧ w' = (w8.drewN q).drewN q') := HEX
       have HP : Hid (parseS t = .error (.syn, 0)) := by
        have h1 := commands_step (S := S) HDE.out.2.1 HCM.out.1
        rw [HCMD.out] at h1
        have h2 := commands_fail (i := i + 1) h1
        show _ = _
        rw [HPS.out, HRS.out]
        simp only
        rw [h2]
       clear hex
       go_wp2_with fail
       go_quiet ((go_at_call 214; exact Calls.quiet_of_same (HFD.out _)))
       have HEX2 : Hid (∀ q', Calls Tryz.prog 215 #[.string YT, .slice ao2 NA cp2, .slice aot TL capt] ((w8.drewN nq).drewN q') fun x w' => x = .returned (.tuple #[.string ⟨#[]⟩, .bool false]) ∧ w' = (w8.drewN nq).drewN q') := fun q' => HEX.out nq q'
       have d2 : (w8.drewN nq).cell? ⟨rb, 2, none⟩ = some (.slice aot TL capt) := c2
       have d3 : (w8.drewN nq).cell? ⟨rb, 3, none⟩ = some (.slice (some ⟨gr, orr, none⟩) RL capr) := c3
       have dt : (w8.drewN nq).cell? ⟨gr, orr + k * 2 + 1, none⟩ = some (.string YT) := ct
       have e5 : (w8.drewN nq).cell? ⟨g, i * 6 + 5, none⟩ = some (.string y0) := z5
       have g5 : (w8.drewN nq).frozen? ⟨g, i * 6 + 5, none⟩ = false := f5
       have HC9 : Hid (CmdSt r ds c rb w6 rb S (i + 1) cs (w8.drewN nq)) := HC8.out.below HST1.out.bw (below_drewN (Below.refl _ _) nq)
       clear c2 c3 ct z4 z5 f5 HEX HFD HC8 HRW
       generalize w8.drewN nq = w9 at *
       go_wp2_with fail
       go_quiet ((go_at_call 215; exact Calls.quiet_of_same (HEX2.out _)))
       have HFIN : Hid (Below rb w (w9.drewN nq)) := below_drewN (HB1.out.trans HC9.out.bl) _
       go_wp2_with fail
       go_ret3
       rw [HP.out]
       refine ⟨rfl, ?_⟩
       rw [← HRB.out]
       exact HFIN.out
      | some yv =>
       rw [hex] at HEX HCMD
       have HEX : Hid (∀ q q', Calls Tryz.prog 215 #[.string YT, .slice ao2 NA cp2, .slice aot TL capt] ((w8.drewN q).drewN q') fun x w' => x = .returned (.tuple #[.string yv, .bool true]) ∧ w' = (w8.drewN q).drewN q') := HEX
       have HNX : Hid (commandsS S (S.edges.take (i + 1)) = some (done ++ [yv]) ∧ (done ++ [yv]).length = i + 1 ∧ (cs.set i yv).take (i + 1) = done ++ [yv]) := by
        have h1 := commands_step (S := S) HDE.out.2.1 HCM.out.1
        rw [HCMD.out] at h1
        refine ⟨h1, by rw [List.length_append, HCM.out.2.1]; rfl, ?_⟩
        rw [take_set cs i yv (List.getElem?_eq_some_iff.1 HDE.out.2.2.1).1, HCM.out.2.2]
       clear hex
       go_wp2_with fail
       go_quiet ((go_at_call 214; exact Calls.quiet_of_same (HFD.out _)))
       have HEX2 : Hid (∀ q', Calls Tryz.prog 215 #[.string YT, .slice ao2 NA cp2, .slice aot TL capt] ((w8.drewN nq).drewN q') fun x w' => x = .returned (.tuple #[.string yv, .bool true]) ∧ w' = (w8.drewN nq).drewN q') := fun q' => HEX.out nq q'
       have d2 : (w8.drewN nq).cell? ⟨rb, 2, none⟩ = some (.slice aot TL capt) := c2
       have d3 : (w8.drewN nq).cell? ⟨rb, 3, none⟩ = some (.slice (some ⟨gr, orr, none⟩) RL capr) := c3
       have dt : (w8.drewN nq).cell? ⟨gr, orr + k * 2 + 1, none⟩ = some (.string YT) := ct
       have e5 : (w8.drewN nq).cell? ⟨g, i * 6 + 5, none⟩ = some (.string y0) := z5
       have g5 : (w8.drewN nq).frozen? ⟨g, i * 6 + 5, none⟩ = false := f5
       have HC9 : Hid (CmdSt r ds c rb w6 rb S (i + 1) cs (w8.drewN nq)) := HC8.out.below HST1.out.bw (below_drewN (Below.refl _ _) nq)
       clear c2 c3 ct z4 z5 f5 HEX HFD HC8 HRW
       generalize w8.drewN nq = w9 at *
       go_wp2_with fail
       go_quiet ((go_at_call 215; exact Calls.quiet_of_same (HEX2.out _)))
       have HFIN : Hid (CmdSt r ds c rb w6 rb S (i + 1) (cs.set i yv) ((w9.drewN nq).setCell ⟨g, i * 6 + 5, none⟩ (.string yv))) := (HC9.out.below HST1.out.bw (below_drewN (Below.refl _ _) nq)).cmd HST1.out (List.getElem?_eq_some_iff.1 HDE.out.1).1 (by rw [HEL.out]; exact HVE.out.1)
       go_wp2_with fail
       exact ⟨⟨i + 1, done ++ [yv], cs.set i yv, by go_num, by omega, HFIN.out, HNX.out⟩, by simp [intOf]; omega⟩
     ·have i1 : ¬ (i : Int) < (EL : Int) := by omega
      have hie : i = EL := by omega
      have HFIN : Hid (rparseEnd w.heap.size (parseS t) (.returned (.tuple #[.pointer (some ⟨rb, 5, none⟩), .int .i64 0, .int .i64 (-1)])) wr ∧ Below w.heap.size w wr) := by
       have htk : S.edges.take i = S.edges := List.take_of_length_le (by rw [HEL.out, hie]; exact Nat.le_refl _)
       have hq := HCM.out.1
       rw [htk] at hq
       have hcs : cs = done := by rw [← HCM.out.2.2]; exact (List.take_of_length_le (by rw [HCS.out.len, HEL.out, hie]; exact Nat.le_refl _)).symm
       refine ⟨?_, by rw [← HRB.out]; exact HB1.out.trans HCS.out.bl⟩
       rw [HPS.out, HRS.out]
       simp only
       rw [hq]
       have hok := HST1.out.ok
       refine ⟨rb, rfl, ⟨r.ve, r.vf, ds, ?_, ?_, by rw [HRB.out]; exact Nat.le_refl _, ?_, ?_, HLS.out, ?_, ?_⟩, { top := hok.top, tops := (by have := hok.tops; show S.top.length + 0 ≤ 5000; omega), rules := hok.rules, rulen := (by have := hok.rulen; show S.rules.length + 0 ≤ 5000; omega), edges := hok.edges, edge := hok.edge, defs := (by have := hok.defs; show S.defs.length + 4000 * 0 ≤ 20000000; omega), lines := (fun x hx => by cases hx), count := Nat.zero_le _ }⟩
       ·rw [cell_of_row _ _ _ _ _ _ HRW.out]; rfl
       ·rw [cell_of_row _ _ _ _ _ _ HRW.out]; rfl
       ·rw [← hcs, ← HRB.out]; exact HCS.out.edges
       ·rw [← hcs]; exact HCS.out.len
       ·rw [← HRB.out]; exact HST1.out.high
       ·rw [← HRB.out]; exact HDF.out
      clear hie
      go_wp2_with fail
      go_ret3
      exact HFIN.out
  ·obtain ⟨ao, n, cp, hvl⟩ := hsl
   have c0 : wr.cell? ⟨rb, 0, none⟩ = some (.slice ao n cp) := by rw [cell_of_row _ _ _ _ _ _ hrr]; exact congrArg some hvl
   have c1 : wr.cell? ⟨rb, 1, none⟩ = some (.int .i64 (r.at' : Nat)) := by rw [cell_of_row _ _ _ _ _ _ hrr]; rfl
   have c7 : wr.cell? ⟨rb, 7, none⟩ = some (.int .i64 r.e) := by rw [cell_of_row _ _ _ _ _ _ hrr]; rfl
   have c8 : wr.cell? ⟨rb, 8, none⟩ = some (.int .i64 r.line) := by rw [cell_of_row _ _ _ _ _ _ hrr]; rfl
   have e0 : (r.e == 0) = false := by rw [he]; simp; omega
   have e1 : ¬ r.e = 0 := by rw [he]; omega
   have HP : Hid (parseS t = .error bk) := by show _ = _; rw [HPS.out, hrun]
   have HEL : Hid (r.e = ((badK bk.1 : Nat) : Int) + 1 ∧ r.line = (bk.2 : Nat)) := ⟨he, hl⟩
   have HBL : Hid (Below rb w wr) := hbl
   clear hrr he hl hrun hbl hvl HS0 HB0 HLN
   generalize hE : r.e = E at *
   generalize hLI : r.line = LI at *
   generalize hAT : r.at' = AT at *
   clear hE hLI hAT
   by_cases hat : AT < n
   ·have a1 : (AT : Int) < (n : Int) := by omega
    go_wp2_with fail
    go_quiet (fail)
    go_wp2_with fail
    go_quiet (fail)
    go_wp2_with fail
    go_ret3
    rw [HP.out]
    refine ⟨?_, ?_⟩
    ·show Ending.returned _ = Ending.returned _
     rw [← HEL.out.1, ← HEL.out.2]
     rfl
    ·rw [← HRB.out]
     exact below_drewN (below_drewN HBL.out _) _
   ·have a1 : ¬ (AT : Int) < (n : Int) := by omega
    go_wp2_with fail
    go_quiet (fail)
    go_wp2_with fail
    go_quiet (fail)
    go_wp2_with fail
    go_ret3
    rw [HP.out]
    refine ⟨?_, ?_⟩
    ·show Ending.returned _ = Ending.returned _
     rw [← HEL.out.1, ← HEL.out.2]
     rfl
    ·rw [← HRB.out]
     exact below_drewN (below_drewN HBL.out _) _
end Go.Proofs.YthhbpebihgjpjaaGreatDoor
