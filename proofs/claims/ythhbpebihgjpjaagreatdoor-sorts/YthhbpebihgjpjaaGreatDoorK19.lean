import Derived.Test.YthhbpebihgjpjaaGreatDoorK18
namespace Go.Proofs.YthhbpebihgjpjaaGreatDoor
open Go.RowKit Go.Maps
set_option maxRecDepth 1000000

theorem bindOf_cons (y : ByteArray × ByteArray) (l : Binds) (x : ByteArray) : bindOf (y :: l) x = if y.1 = x then some y.2 else bindOf l x := by
  unfold bindOf
  rw [List.find?_cons]
  by_cases h : y.1 = x
  · rw [if_pos h, decide_eq_true h]; rfl
  · rw [if_neg h, decide_eq_false h]
theorem bindOf_set (x v y : ByteArray) : ∀ l : Binds, bindOf (setB l x v) y = if y = x then some v else bindOf l y
  | [] => by
    rw [setB, bindOf_cons]
    by_cases h : x = y
    · rw [if_pos h, if_pos h.symm]
    · rw [if_neg h, if_neg (fun e => h e.symm)]
  | z :: l => by
    rw [setB]
    by_cases hz : z.1 = x
    · rw [if_pos hz, bindOf_cons, bindOf_cons]
      by_cases h : x = y
      · rw [if_pos h, if_pos h.symm]
      · rw [if_neg h, if_neg (fun e => h e.symm), if_neg (fun e => h (hz.symm.trans e))]
    · rw [if_neg hz, bindOf_cons, bindOf_set x v y l, bindOf_cons]
      by_cases h : z.1 = y
      · rw [if_pos h, if_neg (fun e => hz (h.trans e)), if_pos h]
      · rw [if_neg h, if_neg h]
theorem BMap.set {w' : World} {b n : Nat} {l : Binds} {x v : ByteArray} (h : TMap textC textZ w' b n (fun y => if y = x then some (textV v) else (bindOf l y).map textV)) : BMap w' b n (setB l x v) := by
  have e : (fun y => if y = x then some (textV v) else (bindOf l y).map textV) = fun y => (bindOf (setB l x v) y).map textV := by
    funext y
    rw [bindOf_set]
    by_cases h : y = x
    · rw [if_pos h, if_pos h]; rfl
    · rw [if_neg h, if_neg h]
  unfold BMap
  rw [← e]; exact h
theorem grown_after {w w1 w2 : World} {b : Nat} (hb : Below w.heap.size w w1) (hg : w1.grownBy w2 (some b)) : w.grownBy w2 (some b) :=
  ⟨hg.os.trans hb.os, hg.tape.trans hb.tape, hg.output.trans hb.output, Nat.le_trans hb.size hg.size, fun k hk hn => (hg.block k (Nat.lt_of_lt_of_le hk hb.size) hn).trans (hb.block k hk)⟩
theorem grown_then {w w1 w2 : World} {b : Nat} (hg : w.grownBy w1 (some b)) (hb : Below w1.heap.size w1 w2) : w.grownBy w2 (some b) :=
  ⟨hb.os.trans hg.os, hb.tape.trans hg.tape, hb.output.trans hg.output, Nat.le_trans hg.size hb.size, fun k hk hn => (hb.block k (Nat.lt_of_lt_of_le hk hg.size)).trans (hg.block k hk hn)⟩
theorem set_any {sb tb n : Nat} {q : Value} {l : Binds} {x v : ByteArray} {w : World} (hr : w.heap[sb]? = some (.cells #[.map (some tb), q] 302 (0, 0))) (hm : BMap w tb n l) (hn : n ≤ 1048576) (hx : x.size ≤ 1048576) :
    Calls Tryz.prog 199 #[.pointer (some ⟨sb, 0, none⟩), .string x, .string v] w fun e w' => e = .returned (.tuple #[]) ∧ BMap w' tb (n + 1) (setB l x v) ∧ w.grownBy w' (some tb) := by
  obtain ⟨w2, hrun, hst, hg⟩ := TMap.store hm (t := 300) Tryz.underlying300 (by unfold maxLen; omega) x (by unfold maxLen; omega) (textV v) (textV_ok v)
  have hrun2 : (Instr.mapUpdate 300 (.map (some tb)) (.string x) (.agg #[.string v])).run Tryz.prog w = .ok () w2 := hrun
  have HB : Hid (BMap w2 tb (n + 1) (setB l x v) ∧ w.grownBy w2 (some tb)) := ⟨BMap.set hst, hg⟩
  have c0 : w.cell? ⟨sb, 0, none⟩ = some (.map (some tb)) := by rw [cell_of_row _ _ _ _ _ _ hr]; rfl
  clear hrun hst hg hr hm
  go_enter Tryz.func199, Tryz.ntmps199
  go_wp2
  go_end0
  exact ⟨rfl, HB.out⟩
/-- A binding, with these variables. -/
def varR (E : ByteArray → ByteArray) (t : ByteArray) : Option (ByteArray × ByteArray) := match bindS t with
  | none => none
  | some nv => (expandS E nv.2).map fun y => (nv.1, y)
theorem bindS_size {t : ByteArray} {nv : ByteArray × ByteArray} (h : bindS t = some nv) : nv.1.size ≤ t.size ∧ nv.2.size ≤ t.size ∧ 0 < nv.1.size := by
  unfold bindS at h
  split at h
  · cases h
  · rename_i hc
    obtain rfl := Option.some.inj h
    have h1 := leftB_le t
    have h2 : wordLenB (leftB t) ≤ (leftB t).size := spanLen_le _ _
    have h3 := leftB_le ((leftB (tailB (leftB t))).extract 1 (leftB (tailB (leftB t))).size)
    have h4 := leftB_le (tailB (leftB t))
    have h5 := tailB_size (leftB t)
    rw [ByteArray.size_extract] at h3
    refine ⟨?_, ?_, ?_⟩
    · show (headB (leftB t)).size ≤ _
      rw [headB_size]; omega
    · show (leftB _).size ≤ _
      omega
    · show 0 < (headB (leftB t)).size
      rw [headB_size]; omega
set_option maxHeartbeats 4000000 in
theorem readVariable_any {rb : Nat} {n : Int} {t : ByteArray} {a : Nat → Addr} {w : World} {sb tb n0 : Nat} {q : Value} {l : Binds} {ls : List Binds} (h0 : w.cell? ⟨rb, 0, none⟩ = some (.int .i64 n)) (hg : Gl a w) (ht : t.size ≤ 4000) (hr : w.heap[sb]? = some (.cells #[.map (some tb), q] 302 (0, 0))) (hm : BMap w tb n0 l) (hn : n0 ≤ 5000) (hs : ScopesAt w (.pointer (some ⟨sb, 0, none⟩)) (l :: ls)) (hE : ∀ m ∈ l :: ls, BOk m) :
    Calls Tryz.prog 198 #[.pointer (some ⟨rb, 0, none⟩), .string t, .pointer (some ⟨sb, 0, none⟩)] w fun e w' => match varR (envL (l :: ls)) t with
      | none => Stopped n (reasonV a 4) e w' ∧ Below w.heap.size w w'
      | some xy => e = .returned (.tuple #[]) ∧ BMap w' tb (n0 + 1) (setB l xy.1 xy.2) ∧ w.grownBy w' (some tb) := by
  have HCB : Hid (Calls Tryz.prog 270 #[.pointer (some ⟨rb, 0, none⟩), .string t] w fun e w' => bindEnd a n (bindS t) e w' ∧ Below w.heap.size w w') := cutBinding_any rb n t a w h0 hg (by omega)
  have HV : Hid (varR (envL (l :: ls)) t = match bindS t with
    | none => none
    | some nv => (expandS (envL (l :: ls)) nv.2).map fun y => (nv.1, y)) := rfl
  have HSZ : Hid (∀ nv, bindS t = some nv → nv.1.size ≤ t.size ∧ nv.2.size ≤ t.size) := fun nv h => ⟨(bindS_size h).1, (bindS_size h).2.1⟩
  cases hb : bindS t with
  | none =>
    rw [hb] at HCB HV
    rw [HV.out]
    go_enter Tryz.func198, Tryz.ntmps198
    go_wp2_with fail
    refine HCB.out.mono ?_
    rintro e w1 ⟨⟨b, rfl, s0, s1⟩, hb1⟩
    exact ⟨rfl, ⟨b, rfl, s0, s1⟩, hb1⟩
  | some nv =>
    obtain ⟨x, v⟩ := nv
    have hsz := HSZ.out _ hb
    rw [hb] at HCB HV
    simp only at hsz
    have HX : Hid (∀ w1, Below w.heap.size w w1 → Calls Tryz.prog 201 #[.pointer (some ⟨rb, 0, none⟩), .string v, .pointer (some ⟨sb, 0, none⟩)] w1 fun e w' => expEnd a n (expandS (envL (l :: ls)) v) e w' ∧ Below w1.heap.size w1 w') := fun w1 hb1 =>
      expand_any rb n v (l :: ls) _ a w1 ((hb1.cell (p := ⟨rb, 0, none⟩) (block_lt_of_cell h0)).trans h0) (hs.keep hb1.block) (hg.keep hb1.size (fun k hk => hb1.block k (Nat.lt_of_lt_of_le hk hg.size))) (by omega) (fun y => Nat.le_trans (envL_size hE y) (by omega)) (envL_nil hE)
    have HSET : Hid (∀ w2 y, Below w.heap.size w w2 → Calls Tryz.prog 199 #[.pointer (some ⟨sb, 0, none⟩), .string x, .string y] w2 fun e w' => e = .returned (.tuple #[]) ∧ BMap w' tb (n0 + 1) (setB l x y) ∧ w2.grownBy w' (some tb)) := fun w2 y hb2 =>
      set_any ((hb2.block sb (heap_lt hr)).trans hr) (TMap.keep hm (hb2.block tb hm.lt)) (by omega) (by omega)
    clear hs hE h0 hg hr hm
    cases hx : expandS (envL (l :: ls)) v with
    | none =>
      rw [hx] at HX
      have HVN : Hid (varR (envL (l :: ls)) t = none) := by rw [HV.out]; show (expandS (envL (l :: ls)) v).map _ = _; rw [hx]; rfl
      rw [HVN.out]
      go_enter Tryz.func198, Tryz.ntmps198
      go_wp2_with fail
      refine HCB.out.mono ?_
      rintro e w1 ⟨rfl, hb1⟩
      go_wp2_with fail
      refine (HX.out w1 hb1).mono ?_
      rintro e w2 ⟨⟨b, rfl, s0, s1⟩, hb2⟩
      exact ⟨rfl, ⟨b, rfl, s0, s1⟩, hb1.trans (hb2.mono hb1.size)⟩
    | some y =>
      rw [hx] at HX
      have HVN : Hid (varR (envL (l :: ls)) t = some (x, y)) := by rw [HV.out]; show (expandS (envL (l :: ls)) v).map _ = _; rw [hx]; rfl
      rw [HVN.out]
      go_enter Tryz.func198, Tryz.ntmps198
      go_wp2_with fail
      refine HCB.out.mono ?_
      rintro e w1 ⟨rfl, hb1⟩
      go_wp2_with fail
      refine (HX.out w1 hb1).mono ?_
      rintro e w2 ⟨rfl, hb2⟩
      go_wp2_with fail
      refine (HSET.out w2 y (hb1.trans (hb2.mono hb1.size))).mono ?_
      rintro e w3 ⟨rfl, hm3, hg3⟩
      have HF : Hid (BMap w3 tb (n0 + 1) (setB l x y) ∧ w.grownBy w3 (some tb)) := ⟨hm3, grown_after (hb1.trans (hb2.mono hb1.size)) hg3⟩
      clear hm3 hg3 hb1 hb2
      go_wp2_with fail
      go_end0
      exact ⟨rfl, HF.out⟩
theorem envOf_one (top : Binds) : envOf [] top = envL [top] := by
  funext x
  show ((bindOf [] x).or (bindOf top x)).getD _ = (bindOf top x).getD _
  rfl
theorem envOf_two (own top : Binds) : envOf own top = envL [own, top] := by
  funext x
  show ((bindOf own x).or (bindOf top x)).getD _ = (bindOf own x).getD ((bindOf top x).getD _)
  cases bindOf own x <;> rfl
end Go.Proofs.YthhbpebihgjpjaaGreatDoor

namespace Go.Proofs.YthhbpebihgjpjaaGreatDoor
open Go.RowKit Go.Maps
set_option maxRecDepth 1000000

def cmdS (t : ByteArray) : Option ByteArray := match bindS t with
  | none => none
  | some nv => if nv.1 ≠ tCommand ∨ expandS noVars nv.2 = none then none else some nv.2
theorem envL_none : envL [] = noVars := rfl
set_option maxHeartbeats 4000000 in
theorem readCommand_any {p : PV} {a : Nat → Addr} {B : Nat} {w : World} {rb : Nat} {n : Int} {x : Line} {rest : List Line} {S : St} {m : Nat} (h : PStC p a B w rb n (x :: rest) S m) :
    Calls Tryz.prog 264 #[.pointer (some ⟨rb, 0, none⟩)] w fun e w' => match cmdS x.2 with
      | none => Stopped (x.1 : Nat) (reasonV a 4) e w' ∧ Below B w w'
      | some v => e = .returned (.string v) ∧ (∃ vl', PStC { p with vl := vl' } a B w' rb (x.1 : Nat) rest S m) ∧ w.grownBy w' (some rb) := by
  have HT : Hid (Calls Tryz.prog 192 #[.pointer (some ⟨rb, 0, none⟩)] w fun e w' => e = .returned (.string x.2) ∧ (∃ vl', PStC { p with vl := vl' } a B w' rb (x.1 : Nat) rest S m) ∧ w.grownBy w' (some rb)) := take_any h
  have hts : x.2.size ≤ 4000 := h.ok.lines x List.mem_cons_self
  have HBB : Hid (∀ w', w.grownBy w' (some rb) → Below B w w') := fun w' hg => grown_below hg h.lowrb (Nat.le_trans h.lowrb (Nat.le_of_lt h.rowlt))
  have HBw : Hid (B ≤ w.heap.size) := Nat.le_trans h.lowrb (Nat.le_of_lt h.rowlt)
  have HC : Hid (cmdS x.2 = match bindS x.2 with
    | none => none
    | some nv => if nv.1 ≠ tCommand ∨ expandS noVars nv.2 = none then none else some nv.2) := rfl
  have HSZ : Hid (∀ nv, bindS x.2 = some nv → nv.2.size ≤ x.2.size) := fun nv h => (bindS_size h).2.1
  obtain ⟨xn, xt⟩ := x
  simp only at hts HC HSZ HT
  show Calls _ _ _ _ fun e w' => match cmdS xt with
    | none => Stopped (xn : Nat) (reasonV a 4) e w' ∧ Below B w w'
    | some v => e = .returned (.string v) ∧ (∃ vl', PStC { p with vl := vl' } a B w' rb (xn : Nat) rest S m) ∧ w.grownBy w' (some rb)
  clear h
  cases hb : bindS xt with
  | none =>
    rw [hb] at HC
    rw [HC.out]
    go_enter Tryz.func264, Tryz.ntmps264
    go_wp2_with fail
    refine HT.out.mono ?_
    rintro e w1 ⟨rfl, ⟨vl', hp1⟩, hg1⟩
    have HCB := cutBinding_any rb (xn : Nat) xt a w1 hp1.at0 hp1.gl (by omega)
    rw [hb] at HCB
    have HB1 : Hid (Below B w w1) := HBB.out w1 hg1
    clear hp1 hg1
    go_wp2_with fail
    refine HCB.mono ?_
    rintro e w2 ⟨⟨b, rfl, s0, s1⟩, hb2⟩
    exact ⟨rfl, ⟨b, rfl, s0, s1⟩, HB1.out.trans (hb2.mono (Nat.le_trans HBw.out HB1.out.size))⟩
  | some nv =>
    obtain ⟨k, v⟩ := nv
    have hvs := HSZ.out _ hb
    rw [hb] at HC
    simp only at HC hvs
    by_cases hk : k = tCommand
    · subst hk
      cases hx : expandS noVars v with
      | none =>
        have HN : Hid (cmdS xt = none) := by rw [HC.out, if_pos (Or.inr hx)]; rfl
        rw [HN.out]
        go_enter Tryz.func264, Tryz.ntmps264
        go_wp2_with fail
        refine HT.out.mono ?_
        rintro e w1 ⟨rfl, ⟨vl', hp1⟩, hg1⟩
        have HCB := cutBinding_any rb (xn : Nat) xt a w1 hp1.at0 hp1.gl (by omega)
        rw [hb] at HCB
        have HB1 : Hid (Below B w w1) := HBB.out w1 hg1
        have HP1 : Hid (PStC { p with vl := vl' } a B w1 rb (xn : Nat) rest S m) := hp1
        clear hp1 hg1
        go_wp2_with fail
        refine HCB.mono ?_
        rintro e w2 ⟨rfl, hb2⟩
        have HP2 := HP1.out.below hb2
        have c4 : w2.cell? ⟨4, 0, none⟩ = some (.iface 472 (.pointer (some (a 4)))) := HP2.gl.errs 4 (by decide)
        have HX := expand_any rb (xn : Nat) v [] (.pointer none) a w2 HP2.at0 rfl HP2.gl (by omega) (fun x => Nat.zero_le _) rfl
        rw [envL_none, hx] at HX
        have HB2 : Hid (Below B w w2) := HB1.out.trans (hb2.mono (Nat.le_trans HBw.out HB1.out.size))
        clear HP2 hb2 HCB HP1
        unfold tCommand
        go_wp2_with fail
        refine (need_yes _ _ _).mono ?_
        rintro e w3 ⟨rfl, rfl⟩
        go_wp2_with fail
        refine HX.mono ?_
        rintro e w4 ⟨⟨b, rfl, s0, s1⟩, hb4⟩
        exact ⟨rfl, ⟨b, rfl, s0, s1⟩, HB2.out.trans (hb4.mono (Nat.le_trans HBw.out HB2.out.size))⟩
      | some y =>
        have HN : Hid (cmdS xt = some v) := by rw [HC.out, if_neg (by rw [hx]; simp)]; rfl
        rw [HN.out]
        go_enter Tryz.func264, Tryz.ntmps264
        go_wp2_with fail
        refine HT.out.mono ?_
        rintro e w1 ⟨rfl, ⟨vl', hp1⟩, hg1⟩
        have HCB := cutBinding_any rb (xn : Nat) xt a w1 hp1.at0 hp1.gl (by omega)
        rw [hb] at HCB
        have HP1 : Hid (PStC { p with vl := vl' } a B w1 rb (xn : Nat) rest S m) := hp1
        have HG1 : Hid (w.grownBy w1 (some rb)) := hg1
        clear hp1 hg1
        go_wp2_with fail
        refine HCB.mono ?_
        rintro e w2 ⟨rfl, hb2⟩
        have HP2 := HP1.out.below hb2
        have HP2' : Hid (PStC { p with vl := vl' } a B w2 rb (xn : Nat) rest S m) := HP2
        have c4 : w2.cell? ⟨4, 0, none⟩ = some (.iface 472 (.pointer (some (a 4)))) := HP2.gl.errs 4 (by decide)
        have HX := expand_any rb (xn : Nat) v [] (.pointer none) a w2 HP2.at0 rfl HP2.gl (by omega) (fun x => Nat.zero_le _) rfl
        rw [envL_none, hx] at HX
        have HG2 : Hid (w.grownBy w2 (some rb)) := grown_then HG1.out hb2
        clear HP2 hb2 HCB HP1 HG1
        unfold tCommand
        go_wp2_with fail
        refine (need_yes _ _ _).mono ?_
        rintro e w3 ⟨rfl, rfl⟩
        go_wp2_with fail
        refine HX.mono ?_
        rintro e w4 ⟨rfl, hb4⟩
        have HF : Hid ((∃ vl', PStC { p with vl := vl' } a B w4 rb (xn : Nat) rest S m) ∧ w.grownBy w4 (some rb)) := ⟨⟨vl', HP2'.out.below hb4⟩, grown_then HG2.out hb4⟩
        clear hb4 HX
        go_wp2_with fail
        go_ret
        exact ⟨rfl, HF.out⟩
    · have HN : Hid (cmdS xt = none) := by rw [HC.out, if_pos (Or.inl hk)]; rfl
      have hq : (k.toList == [99, 111, 109, 109, 97, 110, 100]) = false := by
        have e : (⟨#[99, 111, 109, 109, 97, 110, 100]⟩ : ByteArray).toList = [99, 111, 109, 109, 97, 110, 100] := by rw [ByteArray.toList_eq]
        rw [← e]
        cases hq : (k.toList == (⟨#[99, 111, 109, 109, 97, 110, 100]⟩ : ByteArray).toList) with
        | true => exact absurd (text_same hq) hk
        | false => rfl
      rw [HN.out]
      go_enter Tryz.func264, Tryz.ntmps264
      go_wp2_with fail
      refine HT.out.mono ?_
      rintro e w1 ⟨rfl, ⟨vl', hp1⟩, hg1⟩
      have HCB := cutBinding_any rb (xn : Nat) xt a w1 hp1.at0 hp1.gl (by omega)
      rw [hb] at HCB
      have HB1 : Hid (Below B w w1) := HBB.out w1 hg1
      have HP1 : Hid (PStC { p with vl := vl' } a B w1 rb (xn : Nat) rest S m) := hp1
      clear hp1 hg1
      go_wp2_with fail
      refine HCB.mono ?_
      rintro e w2 ⟨rfl, hb2⟩
      have HP2 := HP1.out.below hb2
      have c4 : w2.cell? ⟨4, 0, none⟩ = some (.iface 472 (.pointer (some (a 4)))) := HP2.gl.errs 4 (by decide)
      have HNO := need_no rb (xn : Nat) 472 (.pointer (some (a 4))) w2 HP2.at0
      have HB2 : Hid (Below B w w2) := HB1.out.trans (hb2.mono (Nat.le_trans HBw.out HB1.out.size))
      clear HP2 hb2 HCB HP1
      go_wp2_with fail
      refine HNO.mono ?_
      rintro e w4 ⟨⟨b, rfl, s0, s1⟩, hb4⟩
      exact ⟨rfl, ⟨b, rfl, s0, s1⟩, HB2.out.trans (hb4.mono (Nat.le_trans HBw.out HB2.out.size))⟩
end Go.Proofs.YthhbpebihgjpjaaGreatDoor
