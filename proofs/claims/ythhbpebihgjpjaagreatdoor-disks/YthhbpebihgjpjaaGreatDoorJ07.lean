import Derived.Test.YthhbpebihgjpjaaGreatDoorJ06
namespace Go.Proofs.YthhbpebihgjpjaaGreatDoor
open Go.RowKit
set_option maxRecDepth 1000000

/-- Nothing is too great. -/
structure RefOk (d : RefD) : Prop where
  seenL : d.seen.length ≤ 1048576
  waitL : d.wait.length ≤ 1048576
  sizes : ∀ i, (fileAt d.seen i).2.size ≤ 1099511627776
  lo : d.lit = true → -4611686018427387904 ≤ d.left
  hi : d.left ≤ 9223372036854775807
theorem RefOk.data {d : RefD} (h : RefOk d) (name : ByteArray) : (dataOf d.seen name).size ≤ 1099511627776 := by
  unfold dataOf
  split
  · decide
  · exact h.sizes _
/-- What a call on the document's files leaves. -/
def RefPost (w : World) (fb : Nat) (vs vn vw : Value) (r : Int × RefD) (e : Ending) (w' : World) : Prop :=
  ∃ vs' vn' vw', e = .returned (.int .i64 r.1) ∧ RefAt w' fb r.2 vs' vn' vw' ∧ Turns (RefFoot fb vs vn vw) w w' ∧ ∀ k, RefFoot fb vs' vn' vw' k → RefFoot fb vs vn vw k ∨ w.heap.size ≤ k

theorem do_post (d : RefD) (o : WaitV) (fb : Nat) (vs vn vw : Value) (w : World) (h : RefAt w fb d vs vn vw) (hok : RefOk d) (hk : 1 ≤ o.kind ∧ o.kind ≤ 4) (h3 : o.kind = 3 → posIn d.seen o.name ≠ -1) (hd : o.data.size ≤ 1099511627776) :
    Calls Tryz.prog 228 #[.pointer (some ⟨fb, 0, none⟩), .agg #[.int .i64 o.kind, .string o.name, .string o.data]] w (RefPost w fb vs vn vw (doD d o)) :=
  (do_any d o fb vs vn vw w h hok.lo hok.hi (by have := hok.seenL; omega) (by have := hok.waitL; omega) hk h3 hd (hok.data _)).mono (fun e w' ⟨vn', vw', h1, h2, h3, h4⟩ => ⟨vs, vn', vw', h1, h2, h3, h4⟩)

def refWrite (d : RefD) (name data : ByteArray) : Int × RefD :=
  if named name = false then (1, d)
  else if moreD d ((data.size : Int) - ((dataOf d.seen name).size : Int)) then (3, d)
  else doD d ⟨1, name, data⟩

set_option maxHeartbeats 4000000 in
theorem refWrite_any (d : RefD) (name data : ByteArray) (fb : Nat) (vs vn vw : Value) (w : World) (h : RefAt w fb d vs vn vw) (hok : RefOk d) (hn : name.size ≤ 140737488351232) (hd : data.size ≤ 140737488351232) (hfit : moreD d ((data.size : Int) - ((dataOf d.seen name).size : Int)) = false → data.size ≤ 1099511627776) :
    Calls Tryz.prog 143 #[.pointer (some ⟨fb, 0, none⟩), .string name, .string data] w (RefPost w fb vs vn vw (refWrite d name data)) := by
  have HR : Hid (RefAt w fb d vs vn vw) := h
  have HFIT : Hid (moreD d ((data.size : Int) - ((dataOf d.seen name).size : Int)) = false → data.size ≤ 1099511627776) := hfit
  clear hfit
  have HK : Hid (RefOk d) := hok
  obtain ⟨an, cn, hform⟩ := h.seen.form
  subst hform
  have c1 : w.cell? ⟨fb, 1, none⟩ = some (.slice an d.seen.length cn) := by rw [cell_of_row _ _ _ _ _ _ h.row]; rfl
  clear h hok
  go_enter Tryz.func143, Tryz.ntmps143
  go_wp2_with fail
  refine (named_any name hn w).mono ?_
  rintro e w' ⟨rfl, rfl⟩
  by_cases hnm : named name = true
  · rw [hnm]
    have d1 : (data.size : Int) ≤ 140737488351232 := by omega
    go_wp2_with fail
    refine (at_any d.seen name an cn (by have := HK.out.seenL; omega) w' HR.out.seen.at).mono ?_
    rintro e w'' ⟨rfl, rfl⟩
    have key : ∀ n : Int, n = (data.size : Int) - ((dataOf d.seen name).size : Int) → Hid (-1099511627776 ≤ n ∧ n ≤ 140737488351232 ∧ refWrite d name data = (if moreD d n then (3, d) else doD d ⟨1, name, data⟩) ∧ (moreD d n = false → data.size ≤ 1099511627776)) := fun n hn => by
      have := HK.out.data name
      refine ⟨by omega, by omega, ?_, fun hq => HFIT.out (by rw [← hn]; exact hq)⟩
      rw [refWrite, hnm, if_neg (by simp), hn]
    rcases posIn_cases d.seen name with ⟨j, x, hp, hx, hne⟩ | ⟨hp, hnone⟩
    · have hj : j < d.seen.length := (List.getElem?_eq_some_iff.1 hx).1
      obtain ⟨g, cur, rfl, _, hg, hh, _⟩ := HR.out.seen.row (by omega)
      have cd := (HR.out.seen.at.cell j x hx).2
      have HD : Hid (dataOf d.seen name = x.2) := by
        show _ = _
        rw [dataOf, if_neg (by rw [hp]; omega), hp]
        show (fileAt d.seen j).2 = _
        have := fileAt_eq d.seen j hj
        rw [hx] at this
        rw [← Option.some.inj this]
      have hz : x.2.size ≤ 1099511627776 := by rw [← HD.out]; exact HK.out.data name
      have k1 := key ((data.size : Int) - (x.2.size : Int)) (by rw [HD.out])
      obtain ⟨xn, xd⟩ := x
      simp only at cd hz k1
      have z1 : (xd.size : Int) ≤ 1099511627776 := by omega
      have i0 : (0 : Int) ≤ (j : Int) := by omega
      have i1 : (j : Int) < (d.seen.length : Int) := by omega
      have i2 : (d.seen.length : Int) ≤ 1048576 := by have := HK.out.seenL; omega
      rw [hp]
      clear hh hx hp key HD
      go_wp2_with fail
      refine (more_any d _ fb vs _ vw w'' HR.out ⟨k1.out.1, k1.out.2.1⟩ HK.out.seenL HK.out.sizes).mono ?_
      rintro e w3 ⟨rfl, rfl⟩
      have HE := k1.out.2.2.1
      have HBD : Hid (moreD d ((data.size : Int) - (xd.size : Int)) = false → data.size ≤ 1099511627776) := k1.out.2.2.2
      have HE2 : Hid (refWrite d name data = if moreD d ((data.size : Int) - (xd.size : Int)) then (3, d) else doD d ⟨1, name, data⟩) := HE
      clear HE k1
      generalize moreD d ((data.size : Int) - (xd.size : Int)) = mo at *
      cases mo
      · have HE2 : Hid (refWrite d name data = doD d ⟨1, name, data⟩) := HE2.out
        have hbd : data.size ≤ 1099511627776 := HBD.out rfl
        clear HBD
        go_wp2_with fail
        refine (do_post d ⟨1, name, data⟩ fb vs _ vw w3 HR.out HK.out (by simp) (by simp) hbd).mono ?_
        rintro e w4 ⟨vs', vn', vw', rfl, hr4, ht4, hf4⟩
        have HX : Hid (RefPost w3 fb vs (.slice (some ⟨g, 0, none⟩) d.seen.length cn) vw (refWrite d name data) (.returned (.int .i64 (doD d ⟨1, name, data⟩).1)) w4) := ⟨vs', vn', vw', by rw [HE2.out], by rw [HE2.out]; exact hr4, ht4, hf4⟩
        clear hr4 ht4 hf4
        generalize (doD d ⟨1, name, data⟩).1 = code at *
        go_wp2
        go_ret
        exact HX.out
      · go_wp2
        go_ret
        exact ⟨_, _, _, by rw [HE2.out]; rfl, by rw [HE2.out]; exact HR.out, Turns.refl _ _, fun k hk => Or.inl hk⟩
    · have k1 := key (data.size : Int) (by rw [dataOf, if_pos hp]; show (data.size : Int) = (data.size : Int) - ((0 : Nat) : Int); omega)
      rw [hp]
      clear hp key
      go_wp2_with fail
      refine (more_any d _ fb vs _ vw w'' HR.out ⟨k1.out.1, k1.out.2.1⟩ HK.out.seenL HK.out.sizes).mono ?_
      rintro e w3 ⟨rfl, rfl⟩
      have HE2 : Hid (refWrite d name data = if moreD d (data.size : Int) then (3, d) else doD d ⟨1, name, data⟩) := k1.out.2.2.1
      have HBD : Hid (moreD d (data.size : Int) = false → data.size ≤ 1099511627776) := k1.out.2.2.2
      clear k1
      generalize moreD d (data.size : Int) = mo at *
      cases mo
      · have HE2 : Hid (refWrite d name data = doD d ⟨1, name, data⟩) := HE2.out
        have hbd : data.size ≤ 1099511627776 := HBD.out rfl
        clear HBD
        go_wp2_with fail
        refine (do_post d ⟨1, name, data⟩ fb vs _ vw w3 HR.out HK.out (by simp) (by simp) hbd).mono ?_
        rintro e w4 ⟨vs', vn', vw', rfl, hr4, ht4, hf4⟩
        have HX : Hid (RefPost w3 fb vs (.slice an d.seen.length cn) vw (refWrite d name data) (.returned (.int .i64 (doD d ⟨1, name, data⟩).1)) w4) := ⟨vs', vn', vw', by rw [HE2.out], by rw [HE2.out]; exact hr4, ht4, hf4⟩
        clear hr4 ht4 hf4
        generalize (doD d ⟨1, name, data⟩).1 = code at *
        go_wp2
        go_ret
        exact HX.out
      · go_wp2
        go_ret
        exact ⟨_, _, _, by rw [HE2.out]; rfl, by rw [HE2.out]; exact HR.out, Turns.refl _ _, fun k hk => Or.inl hk⟩
  · have hnm2 : named name = false := by simpa using hnm
    have HE : Hid (refWrite d name data = (1, d)) := by show _ = _; rw [refWrite, if_pos hnm2]
    rw [hnm2]
    go_wp2
    go_ret
    exact ⟨_, _, _, by rw [HE.out]; rfl, by rw [HE.out]; exact HR.out, Turns.refl _ _, fun k hk => Or.inl hk⟩

def refAppend (d : RefD) (name data : ByteArray) : Int × RefD :=
  if named name = false then (1, d) else if moreD d (data.size : Int) then (3, d) else doD d ⟨2, name, data⟩

set_option maxHeartbeats 4000000 in
theorem refAppend_any (d : RefD) (name data : ByteArray) (fb : Nat) (vs vn vw : Value) (w : World) (h : RefAt w fb d vs vn vw) (hok : RefOk d) (hn : name.size ≤ 140737488351232) (hd : data.size ≤ 140737488351232) (hfit : moreD d (data.size : Int) = false → data.size ≤ 1099511627776) :
    Calls Tryz.prog 145 #[.pointer (some ⟨fb, 0, none⟩), .string name, .string data] w (RefPost w fb vs vn vw (refAppend d name data)) := by
  have HR : Hid (RefAt w fb d vs vn vw) := h
  have HBD : Hid (moreD d (data.size : Int) = false → data.size ≤ 1099511627776) := hfit
  clear hfit
  have HK : Hid (RefOk d) := hok
  have d1 : (data.size : Int) ≤ 140737488351232 := by omega
  clear h hok
  go_enter Tryz.func145, Tryz.ntmps145
  go_wp2_with fail
  refine (named_any name hn w).mono ?_
  rintro e w' ⟨rfl, rfl⟩
  by_cases hnm : named name = true
  · have HE : Hid (refAppend d name data = if moreD d (data.size : Int) then (3, d) else doD d ⟨2, name, data⟩) := by show _ = _; rw [refAppend, hnm, if_neg (by simp)]
    rw [hnm]
    go_wp2_with fail
    refine (more_any d _ fb vs _ vw w' HR.out ⟨by omega, by omega⟩ HK.out.seenL HK.out.sizes).mono ?_
    rintro e w3 ⟨rfl, rfl⟩
    generalize moreD d (data.size : Int) = mo at *
    cases mo
    · have HE2 : Hid (refAppend d name data = doD d ⟨2, name, data⟩) := HE.out
      have hbd : data.size ≤ 1099511627776 := HBD.out rfl
      clear HBD
      go_wp2_with fail
      refine (do_post d ⟨2, name, data⟩ fb vs _ vw w3 HR.out HK.out (by simp) (by simp) hbd).mono ?_
      rintro e w4 ⟨vs', vn', vw', rfl, hr4, ht4, hf4⟩
      have HX : Hid (RefPost w3 fb vs vn vw (refAppend d name data) (.returned (.int .i64 (doD d ⟨2, name, data⟩).1)) w4) := ⟨vs', vn', vw', by rw [HE2.out], by rw [HE2.out]; exact hr4, ht4, hf4⟩
      clear hr4 ht4 hf4
      generalize (doD d ⟨2, name, data⟩).1 = code at *
      go_wp2
      go_ret
      exact HX.out
    · go_wp2
      go_ret
      exact ⟨_, _, _, by rw [HE.out]; rfl, by rw [HE.out]; exact HR.out, Turns.refl _ _, fun k hk => Or.inl hk⟩
  · have hnm2 : named name = false := by simpa using hnm
    have HE : Hid (refAppend d name data = (1, d)) := by show _ = _; rw [refAppend, if_pos hnm2]
    rw [hnm2]
    go_wp2
    go_ret
    exact ⟨_, _, _, by rw [HE.out]; rfl, by rw [HE.out]; exact HR.out, Turns.refl _ _, fun k hk => Or.inl hk⟩

def refRemove (d : RefD) (name : ByteArray) : Int × RefD :=
  if named name = false then (1, d) else if posIn d.seen name = -1 then (2, d) else doD d ⟨4, name, ⟨#[]⟩⟩

set_option maxHeartbeats 4000000 in
theorem refRemove_any (d : RefD) (name : ByteArray) (fb : Nat) (vs vn vw : Value) (w : World) (h : RefAt w fb d vs vn vw) (hok : RefOk d) (hn : name.size ≤ 140737488351232) :
    Calls Tryz.prog 148 #[.pointer (some ⟨fb, 0, none⟩), .string name] w (RefPost w fb vs vn vw (refRemove d name)) := by
  have HR : Hid (RefAt w fb d vs vn vw) := h
  have HK : Hid (RefOk d) := hok
  obtain ⟨an, cn, hform⟩ := h.seen.form
  subst hform
  have c1 : w.cell? ⟨fb, 1, none⟩ = some (.slice an d.seen.length cn) := by rw [cell_of_row _ _ _ _ _ _ h.row]; rfl
  clear h hok
  go_enter Tryz.func148, Tryz.ntmps148
  go_wp2_with fail
  refine (named_any name hn w).mono ?_
  rintro e w' ⟨rfl, rfl⟩
  by_cases hnm : named name = true
  · have HE : Hid (refRemove d name = if posIn d.seen name = -1 then (2, d) else doD d ⟨4, name, ⟨#[]⟩⟩) := by show _ = _; rw [refRemove, hnm, if_neg (by simp)]
    rw [hnm]
    go_wp2_with fail
    refine (at_any d.seen name an cn (by have := HK.out.seenL; omega) w' HR.out.seen.at).mono ?_
    rintro e w3 ⟨rfl, rfl⟩
    rcases posIn_cases d.seen name with ⟨j, x, hp, hx, hne⟩ | ⟨hp, hnone⟩
    · have HE2 : Hid (refRemove d name = doD d ⟨4, name, ⟨#[]⟩⟩) := by show _ = _; rw [HE.out, if_neg (by rw [hp]; omega)]
      rw [hp]
      have i0 : ¬ (j : Int) < 0 := by omega
      clear hp
      go_wp2_with fail
      refine (do_post d ⟨4, name, ⟨#[]⟩⟩ fb vs _ vw w3 HR.out HK.out (by simp) (by simp) (Nat.zero_le _)).mono ?_
      rintro e w4 ⟨vs', vn', vw', rfl, hr4, ht4, hf4⟩
      have HX : Hid (RefPost w3 fb vs (.slice an d.seen.length cn) vw (refRemove d name) (.returned (.int .i64 (doD d ⟨4, name, ⟨#[]⟩⟩).1)) w4) := ⟨vs', vn', vw', by rw [HE2.out], by rw [HE2.out]; exact hr4, ht4, hf4⟩
      clear hr4 ht4 hf4
      generalize (doD d ⟨4, name, ⟨#[]⟩⟩).1 = code at *
      go_wp2
      go_ret
      exact HX.out
    · have HE2 : Hid (refRemove d name = (2, d)) := by show _ = _; rw [HE.out, if_pos hp]
      rw [hp]
      go_wp2
      go_ret
      exact ⟨_, _, _, by rw [HE2.out]; rfl, by rw [HE2.out]; exact HR.out, Turns.refl _ _, fun k hk => Or.inl hk⟩
  · have hnm2 : named name = false := by simpa using hnm
    have HE : Hid (refRemove d name = (1, d)) := by show _ = _; rw [refRemove, if_pos hnm2]
    rw [hnm2]
    go_wp2
    go_ret
    exact ⟨_, _, _, by rw [HE.out]; rfl, by rw [HE.out]; exact HR.out, Turns.refl _ _, fun k hk => Or.inl hk⟩
end Go.Proofs.YthhbpebihgjpjaaGreatDoor
