import Derived.Test.YthhbpebihgjpjaaGreatDoorP10
import Derived.Test.YthhbpebihgjpjaaGreatDoorP05
namespace Go.Proofs.YthhbpebihgjpjaaGreatDoor
open Go.RowKit Go.Maps
set_option maxRecDepth 1000000

theorem bindOf_cons (y : ByteArray × ByteArray) (l : Binds) (x : ByteArray) : bindOf (y :: l) x = if y.1 = x then some y.2 else bindOf l x := by
 unfold bindOf
 rw [List.find?_cons]
 by_cases h : y.1 = x
 ·rw [if_pos h, decide_eq_true h]; rfl
 ·rw [if_neg h, decide_eq_false h]
theorem bindOf_set (x v y : ByteArray) : ∀ l : Binds, bindOf (setB l x v) y = if y = x then some v else bindOf l y
 | [] => by
  rw [setB, bindOf_cons]
  by_cases h : x = y
  ·rw [if_pos h, if_pos h.symm]
  ·rw [if_neg h, if_neg (fun e => h e.symm)]
 | z :: l => by
  rw [setB]
  by_cases hz : z.1 = x
  ·rw [if_pos hz, bindOf_cons, bindOf_cons]
   by_cases h : x = y
   ·rw [if_pos h, if_pos h.symm]
   ·rw [if_neg h, if_neg (fun e => h e.symm), if_neg (fun e => h (hz.symm.trans e))]
  ·rw [if_neg hz, bindOf_cons, bindOf_set x v y l, bindOf_cons]
   by_cases h : z.1 = y
   ·rw [if_pos h, if_neg (fun e => hz (h.trans e)), if_pos h]
   ·rw [if_neg h, if_neg h]
theorem BMap.set {w' : World} {b n : Nat} {l : Binds} {x v : ByteArray} (h : TMap textC textZ w' b n (fun y => if y = x then some (textV v) else (bindOf l y).map textV)) : BMap w' b n (setB l x v) := by
 have e : (fun y => if y = x then some (textV v) else (bindOf l y).map textV) = fun y => (bindOf (setB l x v) y).map textV := by
  funext y
  rw [bindOf_set]
  by_cases h : y = x
  ·rw [if_pos h, if_pos h]; rfl
  ·rw [if_neg h, if_neg h]
 unfold BMap
 rw [← e]; exact h
theorem grown_after {w w1 w2 : World} {b : Nat} (hb : Below w.heap.size w w1) (hg : w1.grownBy w2 (some b)) : w.grownBy w2 (some b) :=
 ⟨hg.os.trans hb.os, hg.tape.trans hb.tape, hg.output.trans hb.output, Nat.le_trans hb.size hg.size, fun k hk hn => (hg.block k (Nat.lt_of_lt_of_le hk hb.size) hn).trans (hb.block k hk)⟩
theorem grown_then {w w1 w2 : World} {b : Nat} (hg : w.grownBy w1 (some b)) (hb : Below w1.heap.size w1 w2) : w.grownBy w2 (some b) :=
 ⟨hb.os.trans hg.os, hb.tape.trans hg.tape, hb.output.trans hg.output, Nat.le_trans hg.size hb.size, fun k hk hn => (hb.block k (Nat.lt_of_lt_of_le hk hg.size)).trans (hg.block k hk hn)⟩
theorem set_any {sb tb n : Nat} {q : Value} {l : Binds} {x v : ByteArray} {w : World} (hr : w.heap[sb]? = some (.cells #[.map (some tb), q] 302 (0, 0))) (hm : BMap w tb n l) (hn : n ≤ 1048576) (hx : x.size ≤ 1048576) :
  Calls Tryz.prog 199 #[.pointer (some ⟨sb, 0, none⟩), .string x, .string v] w fun e w' => e = .returned (.tuple #[]) ∧ BMap w' tb (n + 1) (setB l x v) ∧ w.grownBy w' (some tb) := by
 obtain ⟨w2, hrun, hst, hg⟩ := TMap.store hm (t := 300) Tryz.underlying300 (by unfold maxLen; omega) x (by unfold maxLen; omega) (textV v) (textV_ok v)
 have hrun2 : (Instr.mapUpdate 300 (.map (some tb)) (.string x) (.agg #[.string v])).run Tryz.prog w = .ok () w2 := hrun
 have HB : Hid (BMap w2 tb (n + 1) (setB l x v) ∧ w.grownBy w2 (some tb)) := ⟨BMap.set hst, hg⟩
 have c0 : w.cell? ⟨sb, 0, none⟩ = some (.map (some tb)) := by rw [cell_of_row _ _ _ _ _ _ hr]; rfl
 clear hrun hst hg hr hm
 go_enter Tryz.func199, Tryz.ntmps199
 go_wp2
 go_end0
 exact ⟨rfl, HB.out⟩
def varR (E : ByteArray → ByteArray) (t : ByteArray) : Option (ByteArray × ByteArray) := match bindS t with
 | none => none
 | some nv => (expandS E nv.2).map fun y => (nv.1, y)
theorem bindS_size {t : ByteArray} {nv : ByteArray × ByteArray} (h : bindS t = some nv) : nv.1.size ≤ t.size ∧ nv.2.size ≤ t.size ∧ 0 < nv.1.size := by
 unfold bindS at h
 split at h
 ·cases h
 ·rename_i hc
  obtain rfl := Option.some.inj h
  have h1 := leftB_le t
  have h2 : wordLenB (leftB t) ≤ (leftB t).size := spanLen_le _ _
  have h3 := leftB_le ((leftB (tailB (leftB t))).extract 1 (leftB (tailB (leftB t))).size)
  have h4 := leftB_le (tailB (leftB t))
  have h5 := tailB_size (leftB t)
  rw [ByteArray.size_extract] at h3
  refine ⟨?_, ?_, ?_⟩
  ·show (headB (leftB t)).size ≤ _
   rw [headB_size]; omega
  ·show (leftB _).size ≤ _
   omega
  ·show 0 < (headB (leftB t)).size
   rw [headB_size]; omega
set_option maxHeartbeats 4000000 in
theorem readVariable_any {rb : Nat} {n : Int} {t : ByteArray} {a : Nat → Addr} {w : World} {sb tb n0 : Nat} {q : Value} {l : Binds} {ls : List Binds} (h0 : w.cell? ⟨rb, 0, none⟩ = some (.int .i64 n)) (hg : Gl a w) (ht : t.size ≤ 4000) (hr : w.heap[sb]? = some (.cells #[.map (some tb), q] 302 (0, 0))) (hm : BMap w tb n0 l) (hn : n0 ≤ 5000) (hs : ScopesAt w (.pointer (some ⟨sb, 0, none⟩)) (l :: ls)) (hE : ∀ m ∈ l :: ls, BOk m) :
  Calls Tryz.prog 198 #[.pointer (some ⟨rb, 0, none⟩), .string t, .pointer (some ⟨sb, 0, none⟩)] w fun e w' => match varR (envL (l :: ls)) t with
   | none => Stopped n (reasonV a 4) e w' ∧ Below w.heap.size w w'
   | some xy => e = .returned (.tuple #[]) ∧ BMap w' tb (n0 + 1) (setB l xy.1 xy.2) ∧ w.grownBy w' (some tb) := by
 have HCB : Hid (Calls Tryz.prog 270 #[.pointer (some ⟨rb, 0, none⟩), .string t] w fun e w' => bindEnd a n (bindS t) e w' ∧ Below w.heap.size w w') := cutBinding_any rb n t a w h0 hg (by omega)
 have HV : Hid (varR (envL (l :: ls)) t = match bindS t with
  | none => none
  | some nv => (expandS (envL (l :: ls)) nv.2).map fun y => (nv.1, y)) := rfl
 have HSZ : Hid (∀ nv, bindS t = some nv → nv.1.size ≤ t.size ∧ nv.2.size ≤ t.size) := fun nv h => ⟨(bindS_size h).1, (bindS_size h).2.1⟩
 cases hb : bindS t with
 | none =>
  rw [hb] at HCB HV
  rw [HV.out]
  go_enter Tryz.func198, Tryz.ntmps198
  go_wp2_with fail
  refine HCB.out.mono ?_
  rintro e w1 ⟨⟨b, rfl, s0, s1⟩, hb1⟩
  exact ⟨rfl, ⟨b, rfl, s0, s1⟩, hb1⟩
 | some nv =>
  obtain ⟨x, v⟩ := nv
  have hsz := HSZ.out _ hb
  rw [hb] at HCB HV
  simp only at hsz
  have HX : Hid (∀ w1, Below w.heap.size w w1 → Calls Tryz.prog 201 #[.pointer (some ⟨rb, 0, none⟩), .string v, .pointer (some ⟨sb, 0, none⟩)] w1 fun e w' => expEnd a n (expandS (envL (l :: ls)) v) e w' ∧ Below w1.heap.size w1 w') := fun w1 hb1 =>
   expand_any rb n v (l :: ls) _ a w1 ((hb1.cell (p := ⟨rb, 0, none⟩) (block_lt_of_cell h0)).trans h0) (hs.keep hb1.block) (hg.keep hb1.size (fun k hk => hb1.block k (Nat.lt_of_lt_of_le hk hg.size))) (by omega) (fun y => Nat.le_trans (envL_size hE y) (by omega)) (envL_nil hE)
  have HSET : Hid (∀ w2 y, Below w.heap.size w w2 → Calls Tryz.prog 199 #[.pointer (some ⟨sb, 0, none⟩), .string x, .string y] w2 fun e w' => e = .returned (.tuple #[]) ∧ BMap w' tb (n0 + 1) (setB l x y) ∧ w2.grownBy w' (some tb)) := fun w2 y hb2 =>
   set_any ((hb2.block sb (heap_lt hr)).trans hr) (TMap.keep hm (hb2.block tb hm.lt)) (by omega) (by omega)
  clear hs hE h0 hg hr hm
  cases hx : expandS (envL (l :: ls)) v with
  | none =>
   rw [hx] at HX
   have HVN : Hid (varR (envL (l :: ls)) t = none) := by rw [HV.out]; show (expandS (envL (l :: ls)) v).map _ = _; rw [hx]; rfl
   rw [HVN.out]
   go_enter Tryz.func198, Tryz.ntmps198
   go_wp2_with fail
   refine HCB.out.mono ?_
   rintro e w1 ⟨rfl, hb1⟩
   go_wp2_with fail
   refine (HX.out w1 hb1).mono ?_
   rintro e w2 ⟨⟨b, rfl, s0, s1⟩, hb2⟩
   exact ⟨rfl, ⟨b, rfl, s0, s1⟩, hb1.trans (hb2.mono hb1.size)⟩
  | some y =>
   rw [hx] at HX
   have HVN : Hid (varR (envL (l :: ls)) t = some (x, y)) := by rw [HV.out]; show (expandS (envL (l :: ls)) v).map _ = _; rw [hx]; rfl
   rw [HVN.out]
   go_enter Tryz.func198, Tryz.ntmps198
   go_wp2_with fail
   refine HCB.out.mono ?_
   rintro e w1 ⟨rfl, hb1⟩
   go_wp2_with fail
   refine (HX.out w1 hb1).mono ?_
   rintro e w2 ⟨rfl, hb2⟩
   go_wp2_with fail
   refine (HSET.out w2 y (hb1.trans (hb2.mono hb1.size))).mono ?_
   rintro e w3 ⟨rfl, hm3, hg3⟩
   have HF : Hid (BMap w3 tb (n0 + 1) (setB l x y) ∧ w.grownBy w3 (some tb)) := ⟨hm3, grown_after (hb1.trans (hb2.mono hb1.size)) hg3⟩
   clear hm3 hg3 hb1 hb2
   go_wp2_with fail
   go_end0
   exact ⟨rfl, HF.out⟩
theorem envOf_one (top : Binds) : envOf [] top = envL [top] := by
 funext x
 show ((bindOf [] x).or (bindOf top x)).getD _ = (bindOf top x).getD _
 rfl
theorem envOf_two (own top : Binds) : envOf own top = envL [own, top] := by
 funext x
 show ((bindOf own x).or (bindOf top x)).getD _ = (bindOf own x).getD ((bindOf top x).getD _)
 cases bindOf own x <;> rfl
end Go.Proofs.YthhbpebihgjpjaaGreatDoor

namespace Go.Proofs.YthhbpebihgjpjaaGreatDoor
open Go.RowKit Go.Maps
set_option maxRecDepth 1000000

def cmdS (t : ByteArray) : Option ByteArray := match bindS t with
 | none => none
 | some nv => if nv.1 ≠ tCommand ∨ expandS noVars nv.2 = none then none else some nv.2
theorem envL_none : envL [] = noVars := rfl
set_option maxHeartbeats 4000000 in
theorem readCommand_any {p : PV} {a : Nat → Addr} {B : Nat} {w : World} {rb : Nat} {n : Int} {x : Line} {rest : List Line} {S : St} {m : Nat} (h : PStC p a B w rb n (x :: rest) S m) :
  Calls Tryz.prog 264 #[.pointer (some ⟨rb, 0, none⟩)] w fun e w' => match cmdS x.2 with
   | none => Stopped (x.1 : Nat) (reasonV a 4) e w' ∧ Below B w w'
   | some v => e = .returned (.string v) ∧ (∃ vl', PStC { p with vl := vl' } a B w' rb (x.1 : Nat) rest S m) ∧ w.grownBy w' (some rb) := by
 have HT : Hid (Calls Tryz.prog 192 #[.pointer (some ⟨rb, 0, none⟩)] w fun e w' => e = .returned (.string x.2) ∧ (∃ vl', PStC { p with vl := vl' } a B w' rb (x.1 : Nat) rest S m) ∧ w.grownBy w' (some rb)) := take_any h
 have hts : x.2.size ≤ 4000 := h.ok.lines x List.mem_cons_self
 have HBB : Hid (∀ w', w.grownBy w' (some rb) → Below B w w') := fun w' hg => grown_below hg h.lowrb (Nat.le_trans h.lowrb (Nat.le_of_lt h.rowlt))
 have HBw : Hid (B ≤ w.heap.size) := Nat.le_trans h.lowrb (Nat.le_of_lt h.rowlt)
 have HC : Hid (cmdS x.2 = match bindS x.2 with
  | none => none
  | some nv => if nv.1 ≠ tCommand ∨ expandS noVars nv.2 = none then none else some nv.2) := rfl
 have HSZ : Hid (∀ nv, bindS x.2 = some nv → nv.2.size ≤ x.2.size) := fun nv h => (bindS_size h).2.1
 obtain ⟨xn, xt⟩ := x
 simp only at hts HC HSZ HT
 show Calls _ _ _ _ fun e w' => match cmdS xt with
  | none => Stopped (xn : Nat) (reasonV a 4) e w' ∧ Below B w w'
  | some v => e = .returned (.string v) ∧ (∃ vl', PStC { p with vl := vl' } a B w' rb (xn : Nat) rest S m) ∧ w.grownBy w' (some rb)
 clear h
 cases hb : bindS xt with
 | none =>
  rw [hb] at HC
  rw [HC.out]
  go_enter Tryz.func264, Tryz.ntmps264
  go_wp2_with fail
  refine HT.out.mono ?_
  rintro e w1 ⟨rfl, ⟨vl', hp1⟩, hg1⟩
  have HCB := cutBinding_any rb (xn : Nat) xt a w1 hp1.at0 hp1.gl (by omega)
  rw [hb] at HCB
  have HB1 : Hid (Below B w w1) := HBB.out w1 hg1
  clear hp1 hg1
  go_wp2_with fail
  refine HCB.mono ?_
  rintro e w2 ⟨⟨b, rfl, s0, s1⟩, hb2⟩
  exact ⟨rfl, ⟨b, rfl, s0, s1⟩, HB1.out.trans (hb2.mono (Nat.le_trans HBw.out HB1.out.size))⟩
 | some nv =>
  obtain ⟨k, v⟩ := nv
  have hvs := HSZ.out _ hb
  rw [hb] at HC
  simp only at HC hvs
  by_cases hk : k = tCommand
  ·subst hk
   cases hx : expandS noVars v with
   | none =>
    have HN : Hid (cmdS xt = none) := by rw [HC.out, if_pos (Or.inr hx)]; rfl
    rw [HN.out]
    go_enter Tryz.func264, Tryz.ntmps264
    go_wp2_with fail
    refine HT.out.mono ?_
    rintro e w1 ⟨rfl, ⟨vl', hp1⟩, hg1⟩
    have HCB := cutBinding_any rb (xn : Nat) xt a w1 hp1.at0 hp1.gl (by omega)
    rw [hb] at HCB
    have HB1 : Hid (Below B w w1) := HBB.out w1 hg1
    have HP1 : Hid (PStC { p with vl := vl' } a B w1 rb (xn : Nat) rest S m) := hp1
    clear hp1 hg1
    go_wp2_with fail
    refine HCB.mono ?_
    rintro e w2 ⟨rfl, hb2⟩
    have HP2 := HP1.out.below hb2
    have c4 : w2.cell? ⟨4, 0, none⟩ = some (.iface 472 (.pointer (some (a 4)))) := HP2.gl.errs 4 (by decide)
    have HX := expand_any rb (xn : Nat) v [] (.pointer none) a w2 HP2.at0 rfl HP2.gl (by omega) (fun x => Nat.zero_le _) rfl
    rw [envL_none, hx] at HX
    have HB2 : Hid (Below B w w2) := HB1.out.trans (hb2.mono (Nat.le_trans HBw.out HB1.out.size))
    clear HP2 hb2 HCB HP1
    unfold tCommand
    go_wp2_with fail
    refine (need_yes _ _ _).mono ?_
    rintro e w3 ⟨rfl, rfl⟩
    go_wp2_with fail
    refine HX.mono ?_
    rintro e w4 ⟨⟨b, rfl, s0, s1⟩, hb4⟩
    exact ⟨rfl, ⟨b, rfl, s0, s1⟩, HB2.out.trans (hb4.mono (Nat.le_trans HBw.out HB2.out.size))⟩
   | some y =>
    have HN : Hid (cmdS xt = some v) := by rw [HC.out, if_neg (by rw [hx]; simp)]; rfl
    rw [HN.out]
    go_enter Tryz.func264, Tryz.ntmps264
    go_wp2_with fail
    refine HT.out.mono ?_
    rintro e w1 ⟨rfl, ⟨vl', hp1⟩, hg1⟩
    have HCB := cutBinding_any rb (xn : Nat) xt a w1 hp1.at0 hp1.gl (by omega)
    rw [hb] at HCB
    have HP1 : Hid (PStC { p with vl := vl' } a B w1 rb (xn : Nat) rest S m) := hp1
    have HG1 : Hid (w.grownBy w1 (some rb)) := hg1
    clear hp1 hg1
    go_wp2_with fail
    refine HCB.mono ?_
    rintro e w2 ⟨rfl, hb2⟩
    have HP2 := HP1.out.below hb2
    have HP2' : Hid (PStC { p with vl := vl' } a B w2 rb (xn : Nat) rest S m) := HP2
    have c4 : w2.cell? ⟨4, 0, none⟩ = some (.iface 472 (.pointer (some (a 4)))) := HP2.gl.errs 4 (by decide)
    have HX := expand_any rb (xn : Nat) v [] (.pointer none) a w2 HP2.at0 rfl HP2.gl (by omega) (fun x => Nat.zero_le _) rfl
    rw [envL_none, hx] at HX
    have HG2 : Hid (w.grownBy w2 (some rb)) := grown_then HG1.out hb2
    clear HP2 hb2 HCB HP1 HG1
    unfold tCommand
    go_wp2_with fail
    refine (need_yes _ _ _).mono ?_
    rintro e w3 ⟨rfl, rfl⟩
    go_wp2_with fail
    refine HX.mono ?_
    rintro e w4 ⟨rfl, hb4⟩
    have HF : Hid ((∃ vl', PStC { p with vl := vl' } a B w4 rb (xn : Nat) rest S m) ∧ w.grownBy w4 (some rb)) := ⟨⟨vl', HP2'.out.below hb4⟩, grown_then HG2.out hb4⟩
    clear hb4 HX
    go_wp2_with fail
    go_ret
    exact ⟨rfl, HF.out⟩
  ·have HN : Hid (cmdS xt = none) := by rw [HC.out, if_pos (Or.inl hk)]; rfl
   have hq : (k.toList == [99, 111, 109, 109, 97, 110, 100]) = false := by
    have e : (⟨#[99, 111, 109, 109, 97, 110, 100]⟩ : ByteArray).toList = [99, 111, 109, 109, 97, 110, 100] := by rw [ByteArray.toList_eq]
    rw [← e]
    cases hq : (k.toList == (⟨#[99, 111, 109, 109, 97, 110, 100]⟩ : ByteArray).toList) with
    | true => exact absurd (text_same hq) hk
    | false => rfl
   rw [HN.out]
   go_enter Tryz.func264, Tryz.ntmps264
   go_wp2_with fail
   refine HT.out.mono ?_
   rintro e w1 ⟨rfl, ⟨vl', hp1⟩, hg1⟩
   have HCB := cutBinding_any rb (xn : Nat) xt a w1 hp1.at0 hp1.gl (by omega)
   rw [hb] at HCB
   have HB1 : Hid (Below B w w1) := HBB.out w1 hg1
   have HP1 : Hid (PStC { p with vl := vl' } a B w1 rb (xn : Nat) rest S m) := hp1
   clear hp1 hg1
   go_wp2_with fail
   refine HCB.mono ?_
   rintro e w2 ⟨rfl, hb2⟩
   have HP2 := HP1.out.below hb2
   have c4 : w2.cell? ⟨4, 0, none⟩ = some (.iface 472 (.pointer (some (a 4)))) := HP2.gl.errs 4 (by decide)
   have HNO := need_no rb (xn : Nat) 472 (.pointer (some (a 4))) w2 HP2.at0
   have HB2 : Hid (Below B w w2) := HB1.out.trans (hb2.mono (Nat.le_trans HBw.out HB1.out.size))
   clear HP2 hb2 HCB HP1
   go_wp2_with fail
   refine HNO.mono ?_
   rintro e w4 ⟨⟨b, rfl, s0, s1⟩, hb4⟩
   exact ⟨rfl, ⟨b, rfl, s0, s1⟩, HB2.out.trans (hb4.mono (Nat.le_trans HBw.out HB2.out.size))⟩
end Go.Proofs.YthhbpebihgjpjaaGreatDoor

namespace Go.Proofs.YthhbpebihgjpjaaGreatDoor
open Go.RowKit Go.Maps
set_option maxRecDepth 1000000

def badK (b : Bad) : Nat := Fin.val b
def stmtEnd (a : Nat → Addr) (B rb m : Nat) (w : World) (r : Res) (e : Ending) (w' : World) : Prop := match r with
 | .error bk => Stopped (bk.2 : Nat) (reasonV a (badK bk.1)) e w' ∧ Below B w w'
 | .ok Sr => e = .returned (.tuple #[]) ∧ (∃ p n, PStC p a B w' rb n Sr.2 Sr.1 m) ∧ Below B w w'
theorem setB_new {l : Binds} {x v : ByteArray} (h : bindOf l x = none) : setB l x v = l ++ [(x, v)] := by
 induction l with
 | nil => rfl
 | cons y l ih =>
  rw [bindOf_cons] at h
  by_cases hy : y.1 = x
  ·rw [if_pos hy] at h; cases h
  ·rw [if_neg hy] at h
   rw [setB, if_neg hy, ih h]; rfl
theorem PStB.off {p : PV} {a : Nat → Addr} {B : Nat} {w w' : World} {rb : Nat} {n : Int} {ls : List Line} {S : St} {m : Nat} (_ : PStB p a B w rb n ls S m) {b i : Nat} (hg : w.grownBy w' (some b)) (hb : p.c b = i) {k : Nat} (hk : k < w.heap.size) (hc : p.c k ≠ i) : w'.heap[k]? = w.heap[k]? := hg.block k hk (fun e => hc (by rw [Option.some.inj e]; exact hb))
theorem PStC.addRule {p : PV} {a : Nat → Addr} {B : Nat} {w w' : World} {rb : Nat} {n : Int} {ls : List Line} {S : St} {m : Nat} {x v : ByteArray} (h : PStC p a B w rb n ls S (m + 1)) (hg : w.grownBy w' (some p.rm)) (hm : BMap w' p.rm (p.n2 + 1) (setB S.rules x v)) (hx : bindOf S.rules x = none) (hv : v.size ≤ 4000) : PStC { p with n2 := p.n2 + 1 } a B w' rb n ls { S with rules := S.rules ++ [(x, v)] } m := by
 have off := fun {k : Nat} (hk : k < w.heap.size) (hc : p.c k ≠ 3) => h.off hg h.c3 hk hc
 exact {
  gl := h.gl.keep hg.size (fun k hk => off (Nat.lt_of_lt_of_le hk h.gl.size) (by rw [h.low k (Nat.lt_of_lt_of_le hk h.base)]; decide))
  base := h.base
  row := (off h.rowlt (by rw [h.c1]; decide)).trans h.row
  const := h.const.step hg.size (fun k hk h0 => ⟨off hk (by rw [h0]; decide), h0⟩)
  top := TMap.keep h.top (off h.top.lt (by rw [h.c2]; decide))
  rules := by rw [setB_new hx] at hm; exact hm
  mlt := Nat.lt_of_lt_of_le h.mlt (hg.size)
  made := TMap.keep h.made (off h.made.lt (by rw [h.c4]; decide))
  drafts := rkeep h.drafts (fun k hk => off (rblock h.drafts k hk).2 (by rw [h.c5 k hk]; decide))
  defs := rkeep h.defs (fun k hk => off (rblock h.defs k hk).2 (by rw [h.c6 k hk]; decide))
  c1 := h.c1, c2 := h.c2, c3 := h.c3, c4 := h.c4, c5 := h.c5, c6 := h.c6, low := h.low
  few := by show p.n1 + m ≤ 5000 ∧ p.n2 + 1 + m ≤ 5000 ∧ p.n3 + 8000 * m ≤ 40000000; have := h.few; omega
  ok := { top := h.ok.top, tops := (by show S.top.length + m ≤ 5000; have := h.ok.tops; omega), rules := (fun y hy => by
       rcases List.mem_append.1 hy with hy | hy
       ·exact h.ok.rules y hy
       ·obtain rfl := List.mem_singleton.1 hy
        exact hv), rulen := (by show (S.rules ++ [(x, v)]).length + m ≤ 5000; rw [List.length_append]; have := h.ok.rulen; show _ + 1 + m ≤ _; omega), edges := h.ok.edges, edge := h.ok.edge, defs := (by show S.defs.length + 4000 * m ≤ _; have := h.ok.defs; omega), lines := h.ok.lines, count := h.ok.count } }
theorem PStB.fewer {p : PV} {a : Nat → Addr} {B : Nat} {w : World} {rb : Nat} {n : Int} {ls : List Line} {S : St} {m m' : Nat} (h : PStB p a B w rb n ls S m) (hm : m' ≤ m) : PStB p a B w rb n ls S m' :=
 { h with
  few := by have := h.few; omega
  ok := { h.ok with tops := (by have := h.ok.tops; omega), rulen := (by have := h.ok.rulen; omega), defs := (by have := h.ok.defs; omega) } }
theorem PStC.fewer {p : PV} {a : Nat → Addr} {B : Nat} {w : World} {rb : Nat} {n : Int} {ls : List Line} {S : St} {m m' : Nat} (h : PStC p a B w rb n ls S m) (hm : m' ≤ m) : PStC p a B w rb n ls S m' := ⟨h.toPStB.fewer hm, h.made⟩
theorem PStB.bw {p : PV} {a : Nat → Addr} {B : Nat} {w : World} {rb : Nat} {n : Int} {ls : List Line} {S : St} {m : Nat} (h : PStB p a B w rb n ls S m) : B ≤ w.heap.size := Nat.le_trans h.lowrb (Nat.le_of_lt h.rowlt)
end Go.Proofs.YthhbpebihgjpjaaGreatDoor

namespace Go.Proofs.YthhbpebihgjpjaaGreatDoor
open Go.RowKit Go.Shelf
set_option maxRecDepth 1000000

theorem prefix_two (t : ByteArray) (c d : UInt8) : Lib.hasPrefix t.data.toList [c, d] = decide (1 < t.size ∧ byteOf t 0 = c.toNat ∧ byteOf t 1 = d.toNat) := by
 unfold Lib.hasPrefix byteOf
 rw [← Array.getElem?_toList, ← Array.getElem?_toList]
 have hs : t.size = t.data.toList.length := by rw [Array.length_toList]; rfl
 rw [hs]
 cases t.data.toList with
 | nil => rfl
 | cons x l =>
  cases l with
  | nil =>
   show (c == x && false) = _
   simp
  | cons y l =>
   show (c == x && (d == y && ([] : List UInt8).isPrefixOf l)) = _
   rw [Bool.eq_iff_iff]
   simp
   exact ⟨fun e => ⟨by rw [e.1], by rw [e.2]⟩, fun e => ⟨(UInt8.toNat_inj.1 e.1).symm, (UInt8.toNat_inj.1 e.2).symm⟩⟩
theorem extract_one (t : ByteArray) (c : UInt8) (h : 0 < t.size) (hc : byteOf t 0 = c.toNat) : t.extract 0 1 = ⟨#[c]⟩ := by
 apply ByteArray.ext
 apply Array.toList_inj.1
 rw [ByteArray.data_extract, Array.toList_extract]
 unfold byteOf at hc
 rw [← Array.getElem?_toList] at hc
 have hs : t.size = t.data.toList.length := by rw [Array.length_toList]; rfl
 rw [hs] at h
 cases hl : t.data.toList with
 | nil => rw [hl] at h; exact absurd h (by simp)
 | cons x l =>
  rw [hl] at hc
  have : x = c := UInt8.toNat_inj.1 (by simpa using hc)
  rw [this]; rfl
theorem text_differ {p : ByteArray} {l : List UInt8} (h : ¬ p = ⟨l.toArray⟩) : (p.toList == l) = false := by
 cases hq : (p.toList == l) with
 | true => exact absurd (text_same (by rw [ByteArray.toList_eq ⟨l.toArray⟩]; exact hq)) h
 | false => rfl
theorem begins_spec (t : ByteArray) (c : Nat) : begins t c = decide (0 < t.size ∧ byteOf t 0 = c) := rfl
set_option maxHeartbeats 2000000 in
theorem markOf_any (u : ByteArray) (w : World) :
  Calls Tryz.prog 319 #[.string u] w fun e w' => e = .returned (.string (markB u)) ∧ w' = w := by
 have HP2 : Hid (∀ wx, Calls Tryz.prog 193 #[.string u, .string ⟨#[124, 124]⟩] wx fun e w' => e = .returned (.bool (decide (1 < u.size ∧ byteOf u 0 = 124 ∧ byteOf u 1 = 124))) ∧ w' = wx) := fun wx => by
  have := Any.strings_HasPrefix Tryz.lays99 u ⟨#[124, 124]⟩ wx
  rw [show (⟨#[124, 124]⟩ : ByteArray).data.toList = [124, 124] from rfl, prefix_two] at this
  exact this
 have HP1 : Hid (∀ wx, Calls Tryz.prog 193 #[.string u, .string ⟨#[124]⟩] wx fun e w' => e = .returned (.bool (begins u 124)) ∧ w' = wx) := fun wx => hasPrefix_any u 124 wx
 have HP3 : Hid (∀ wx, Calls Tryz.prog 193 #[.string u, .string ⟨#[58]⟩] wx fun e w' => e = .returned (.bool (begins u 58)) ∧ w' = wx) := fun wx => hasPrefix_any u 58 wx
 have HM : Hid (markB u = if begins u 124 = true then (if 1 < u.size ∧ byteOf u 1 = 124 then tBars else tBar) else if begins u 58 = true then tColon else ⟨#[]⟩) := rfl
 by_cases h2 : 1 < u.size ∧ byteOf u 0 = 124 ∧ byteOf u 1 = 124
 ·have HF : Hid (markB u = ⟨#[124, 124]⟩) := by
   rw [HM.out, begins_spec, decide_eq_true (show 0 < u.size ∧ byteOf u 0 = 124 from ⟨by omega, h2.2.1⟩), if_pos rfl, if_pos ⟨h2.1, h2.2.2⟩]; rfl
  rw [decide_eq_true h2] at HP2
  go_enter Tryz.func319, Tryz.ntmps319
  go_wp2_with fail
  refine (HP2.out _).mono ?_
  rintro e w1 ⟨rfl, rfl⟩
  go_wp2_with fail
  go_ret
  exact ⟨by rw [HF.out]; rfl, rfl⟩
 ·rw [decide_eq_false h2] at HP2
  by_cases h1 : 0 < u.size ∧ byteOf u 0 = 124
  ·have hb : begins u 124 = true := decide_eq_true h1
   have HF : Hid (markB u = ⟨#[124]⟩) := by rw [HM.out, if_pos hb, if_neg (fun h => h2 ⟨h.1, h1.2, h.2⟩)]; rfl
   have hsl : ∀ wx, (Instr.slice 9 (.string u) none (some (.int .i64 1)) none).run Tryz.prog wx = .ok (.string ⟨#[124]⟩) wx := fun wx => by
    have := slice_head u 1 (by omega) wx
    rw [extract_one u 124 h1.1 h1.2] at this
    exact this
   rw [hb] at HP1
   go_enter Tryz.func319, Tryz.ntmps319
   go_wp2_with fail
   refine (HP2.out _).mono ?_
   rintro e w1 ⟨rfl, rfl⟩
   go_wp2_with fail
   refine (HP1.out _).mono ?_
   rintro e w1 ⟨rfl, rfl⟩
   go_wp2_with fail
   go_ret
   exact ⟨by rw [HF.out]; rfl, rfl⟩
  ·have hb : begins u 124 = false := decide_eq_false h1
   rw [hb] at HP1
   by_cases h3 : 0 < u.size ∧ byteOf u 0 = 58
   ·have hb3 : begins u 58 = true := decide_eq_true h3
    have HF : Hid (markB u = ⟨#[58]⟩) := by rw [HM.out, hb, if_neg (by decide), if_pos hb3]; rfl
    have hsl : ∀ wx, (Instr.slice 9 (.string u) none (some (.int .i64 1)) none).run Tryz.prog wx = .ok (.string ⟨#[58]⟩) wx := fun wx => by
     have := slice_head u 1 (by omega) wx
     rw [extract_one u 58 h3.1 h3.2] at this
     exact this
    rw [hb3] at HP3
    go_enter Tryz.func319, Tryz.ntmps319
    go_wp2_with fail
    refine (HP2.out _).mono ?_
    rintro e w1 ⟨rfl, rfl⟩
    go_wp2_with fail
    refine (HP1.out _).mono ?_
    rintro e w1 ⟨rfl, rfl⟩
    go_wp2_with fail
    refine (HP3.out _).mono ?_
    rintro e w1 ⟨rfl, rfl⟩
    go_wp2_with fail
    go_ret
    exact ⟨by rw [HF.out]; rfl, rfl⟩
   ·have hb3 : begins u 58 = false := decide_eq_false h3
    have HF : Hid (markB u = ⟨#[]⟩) := by rw [HM.out, hb, hb3, if_neg (by decide), if_neg (by decide)]; rfl
    rw [hb3] at HP3
    go_enter Tryz.func319, Tryz.ntmps319
    go_wp2_with fail
    refine (HP2.out _).mono ?_
    rintro e w1 ⟨rfl, rfl⟩
    go_wp2_with fail
    refine (HP1.out _).mono ?_
    rintro e w1 ⟨rfl, rfl⟩
    go_wp2_with fail
    refine (HP3.out _).mono ?_
    rintro e w1 ⟨rfl, rfl⟩
    go_wp2_with fail
    go_ret
    exact ⟨by rw [HF.out]; rfl, rfl⟩
end Go.Proofs.YthhbpebihgjpjaaGreatDoor

namespace Go.Proofs.YthhbpebihgjpjaaGreatDoor
set_option maxRecDepth 1000000

theorem spanL_stop (p : Nat → Bool) : ∀ (l : List UInt8) (c : UInt8), l[spanL p l]? = some c → p c.toNat = false
 | [], c, h => by cases h
 | x :: l, c, h => by
  rw [spanL] at h
  by_cases hp : p x.toNat = true
  ·rw [if_pos hp] at h
   exact spanL_stop p l c (by simpa using h)
  ·rw [if_neg hp] at h
   simp only [List.getElem?_cons_zero, Option.some.injEq] at h
   subst h
   exact Bool.eq_false_iff.2 hp
theorem left_first (t : ByteArray) (h : (leftB t).size ≠ 0) : byteOf (leftB t) 0 ≠ 32 := by
 rw [leftB_size] at h
 unfold leftB
 rw [byteOf_extract _ _ _ _ (by omega) (Nat.le_refl _), Nat.add_zero]
 have hl : blankLen t < t.data.toList.length := by rw [Array.length_toList]; show _ < t.size; omega
 have h1 := spanL_stop isBl t.data.toList (t.data.toList[blankLen t]) (by exact List.getElem?_eq_getElem hl)
 rw [byteOf_get (List.getElem?_eq_getElem hl)]
 intro e
 rw [e] at h1
 exact absurd h1 (by decide)
theorem mark_none {u : ByteArray} (h : markB u = ⟨#[]⟩) : begins u 124 = false ∧ begins u 58 = false := by
 unfold markB at h
 split at h
 ·split at h
  ·exact absurd h (by decide)
  ·exact absurd h (by decide)
 ·rename_i h1
  split at h
  ·exact absurd h (by decide)
  ·rename_i h2
   exact ⟨Bool.eq_false_iff.2 h1, Bool.eq_false_iff.2 h2⟩
theorem mark_size {u : ByteArray} (h : markB u ≠ ⟨#[]⟩) : 1 ≤ (markB u).size ∧ (markB u).size ≤ u.size := by
 unfold markB at *
 split
 ·rename_i h1
  have := of_decide_eq_true h1
  split
  ·rename_i h2
   exact ⟨by decide, by show 2 ≤ _; omega⟩
  ·exact ⟨by decide, by show 1 ≤ _; omega⟩
 ·rename_i h1
  split
  ·rename_i h2
   have := of_decide_eq_true h2
   exact ⟨by decide, by show 1 ≤ _; omega⟩
  ·rename_i h2
   rw [if_neg h1, if_neg h2] at h
   exact absurd rfl h
theorem pathEnd_pos (u : ByteArray) (h : (leftB u).size ≠ 0) (hm : markB (leftB u) = ⟨#[]⟩) : 1 ≤ pathEnd (leftB u) ∧ pathEnd (leftB u) ≤ (leftB u).size := by
 have h1 := left_first u h
 obtain ⟨h2, h3⟩ := mark_none hm
 have h2 := of_decide_eq_false h2
 have h3 := of_decide_eq_false h3
 unfold pathEnd
 refine ⟨?_, Nat.min_le_right _ _⟩
 have hs : 1 ≤ scanB isSep (leftB u) := by
  unfold scanB
  by_cases hd : byteOf (leftB u) 0 = 36
  ·rw [scanAt_dol _ _ _ (by omega) hd]
   have := (scanAt_le isSep (leftB u) _ (0 + 2) (Nat.le_refl _) (by omega)).1
   omega
  ·rw [scanAt_step _ _ _ (by omega) hd (by unfold isSep; exact decide_eq_false (by omega))]
   exact (scanAt_le isSep (leftB u) _ (0 + 1) (Nat.le_refl _) (by omega)).1
 omega
theorem pathsFrom_fuel (E : ByteArray → ByteArray) (ms : List ByteArray) : ∀ (g g' : Nat) (u : ByteArray) (a : Secs), u.size < g → u.size < g' → pathsFrom E ms g u a = pathsFrom E ms g' u a
 | 0, _, _, _, h, _ => by omega
 | _ + 1, 0, _, _, _, h => by omega
 | g + 1, g' + 1, u, a, h, h' => by
  rw [pathsFrom, pathsFrom]
  have hle := leftB_le u
  by_cases h0 : (leftB u).size = 0
  ·rw [if_pos h0, if_pos h0]
  ·rw [if_neg h0, if_neg h0]
   by_cases hm : markB (leftB u) = ⟨#[]⟩
   ·rw [if_pos hm, if_pos hm]
    have hp := pathEnd_pos u h0 hm
    cases pathS E ((leftB u).extract 0 (pathEnd (leftB u))) with
    | error e => rfl
    | ok p => exact pathsFrom_fuel E ms g g' _ _ (by rw [ByteArray.size_extract]; omega) (by rw [ByteArray.size_extract]; omega)
   ·rw [if_neg hm, if_neg hm]
    have hz := mark_size hm
    by_cases hb : memB (markB (leftB u)) ms = true
    ·rw [if_pos hb, if_pos hb]
     exact pathsFrom_fuel E ms g g' _ _ (by rw [ByteArray.size_extract]; omega) (by rw [ByteArray.size_extract]; omega)
    ·rw [if_neg hb, if_neg hb]
theorem pathsAt_end (E : ByteArray → ByteArray) (ms : List ByteArray) (u : ByteArray) (a : Secs) (h : (leftB u).size = 0) : pathsAt E ms u a = .ok a := by
 unfold pathsAt
 rw [pathsFrom, if_pos h]
theorem pathsAt_path (E : ByteArray → ByteArray) (ms : List ByteArray) (u : ByteArray) (a : Secs) (h : (leftB u).size ≠ 0) (hm : markB (leftB u) = ⟨#[]⟩) : pathsAt E ms u a = (match pathS E ((leftB u).extract 0 (pathEnd (leftB u))) with
  | .error e => .error e
  | .ok p => pathsAt E ms ((leftB u).extract (pathEnd (leftB u)) (leftB u).size) (addPath a p)) := by
 have hle := leftB_le u
 have hp := pathEnd_pos u h hm
 unfold pathsAt
 conv => lhs; rw [pathsFrom, if_neg h, if_pos hm]
 cases pathS E ((leftB u).extract 0 (pathEnd (leftB u))) with
 | error e => rfl
 | ok p => exact pathsFrom_fuel E ms _ _ _ _ (by rw [ByteArray.size_extract]; omega) (by omega)
theorem pathsAt_mark (E : ByteArray → ByteArray) (ms : List ByteArray) (u : ByteArray) (a : Secs) (h : (leftB u).size ≠ 0) (hm : markB (leftB u) ≠ ⟨#[]⟩) : pathsAt E ms u a = if memB (markB (leftB u)) ms = true then pathsAt E ms ((leftB u).extract (markB (leftB u)).size (leftB u).size) (a ++ [(markB (leftB u), [])]) else .error .syn := by
 have hle := leftB_le u
 have hz := mark_size hm
 unfold pathsAt
 conv => lhs; rw [pathsFrom, if_neg h, if_neg hm]
 by_cases hb : memB (markB (leftB u)) ms = true
 ·rw [if_pos hb, if_pos hb]
  exact pathsFrom_fuel E ms _ _ _ _ (by rw [ByteArray.size_extract]; omega) (by omega)
 ·rw [if_neg hb, if_neg hb]
theorem addPath_snoc (I : Secs) (mk : ByteArray) (l : List ByteArray) (p : ByteArray) : addPath (I ++ [(mk, l)]) p = I ++ [(mk, l ++ [p])] := by
 unfold addPath
 rw [List.getLast?_append, List.getLast?_singleton]
 simp
end Go.Proofs.YthhbpebihgjpjaaGreatDoor
