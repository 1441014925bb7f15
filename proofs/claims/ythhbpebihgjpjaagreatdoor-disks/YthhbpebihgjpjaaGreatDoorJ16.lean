import Derived.Test.YthhbpebihgjpjaaGreatDoorJ15
namespace Go.Proofs.YthhbpebihgjpjaaGreatDoor
open Go.RowKit Go.MuLone Go.Maps
set_option maxRecDepth 1000000

def renameNo (l : List FileV) (frm to : ByteArray) (vN vO : Value) : Option Value :=
  if named frm = true ∧ named to = true then (if posIn l frm = -1 then some vO else none) else some vN

set_option maxHeartbeats 4000000 in
theorem progRename_any (frm to : ByteArray) (hn : frm.size ≤ maxLen) (l : List FileV) (hdt : (dataOf l frm).size ≤ 1099511627776) (S : List KeptV) (vN vO vR vD : Value) (d : ProgD) (fb : Nat) (nb sb n : Nat) (sv : Value) (w : World)
    (h : OpIn l S vN vO vR vD d fb nb sb n sv 0 w) (hroom : n < maxLen) (hhi : d.fuse ≤ 9223372036854775807) (hSl : S.length ≤ 1048576) (hlow : 14 ≤ fb) (hne : sv.ownBlock ≠ some fb ∧ sv.ownBlock ≠ some nb ∧ fb ≠ nb) :
    Calls Tryz.prog 174 #[.pointer (some ⟨fb, 0, none⟩), .string frm, .string to] w (OpPost (renameNo l frm to vN vO) vD l ⟨3, frm, to⟩ S d fb nb sb n sv w) := by
  have hgd : 3 ≠ fb := by omega
  obtain ⟨w2, hw2⟩ : ∃ w2, w2 = (((w.alloc (.cells #[.pointer (some ⟨fb, 0, none⟩)] 31)).alloc (.cells #[.string frm] 9)).alloc (.cells #[.string to] 9)) := ⟨_, rfl⟩
  have hB : Below w.heap.size w w2 := by rw [hw2]; exact (((Below.refl _ _).alloc (Nat.le_refl _) _).alloc (by simp) _).alloc (by simp; omega) _
  have hI : OpIn l S vN vO vR vD d fb nb sb n sv 0 w2 := h.below hB
  have hb0 : w2.cell? ⟨w.heap.size, 0, none⟩ = some (.pointer (some ⟨fb, 0, none⟩)) := by
    rw [hw2, World.cell?_alloc_lt _ _ ⟨w.heap.size, 0, none⟩ (by simp; omega), World.cell?_alloc_lt _ _ ⟨w.heap.size, 0, none⟩ (by simp)]; exact cell_fresh w _ _ 0 _ rfl
  have hb1 : w2.cell? ⟨w.heap.size + 1, 0, none⟩ = some (.string frm) := by
    rw [hw2, World.cell?_alloc_lt _ _ ⟨w.heap.size + 1, 0, none⟩ (by simp)]; simp
  have hb2 : w2.cell? ⟨w.heap.size + 1 + 1, 0, none⟩ = some (.string to) := by
    have h1 := cell_fresh ((w.alloc (.cells #[.pointer (some ⟨fb, 0, none⟩)] 31)).alloc (.cells #[.string frm] 9)) #[.string to] 9 0 _ rfl
    rw [World.size_alloc, World.size_alloc] at h1
    rw [hw2]; exact h1
  have h0 : w2.cell? ⟨fb, 0, none⟩ = some (.int .i32 0) := by rw [cell_of_row _ _ _ _ _ _ hI.row]; rfl
  have f0 : w2.frozen? ⟨fb, 0, none⟩ = false := frozen_of_row _ _ _ _ _ hI.row
  have hfb : fb < w.heap.size := h.row.lt
  have HT : Hid (Turns (fun k => k = fb) w w2) := Turns.of_below _ hB
  have HI : Hid (OpIn l S vN vO vR vD d fb nb sb n sv 1 (w2.setCell ⟨fb, 0, none⟩ (.int .i32 1))) := hI.lock 1 hlow hne
  have HT1 : Hid (Turns (fun k => k = fb) w (w2.setCell ⟨fb, 0, none⟩ (.int .i32 1))) := HT.out.setCell ⟨fb, 0, none⟩ _ (Or.inl rfl)
  have b0 : (w2.setCell ⟨fb, 0, none⟩ (.int .i32 1)).cell? ⟨w.heap.size, 0, none⟩ = some (.pointer (some ⟨fb, 0, none⟩)) := by
    rw [World.cell?_of_block (w := w2) (a := ⟨w.heap.size, 0, none⟩) (heap_setCell_other _ _ _ _ (show w.heap.size ≠ fb by omega))]; exact hb0
  have b1 : (w2.setCell ⟨fb, 0, none⟩ (.int .i32 1)).cell? ⟨w.heap.size + 1, 0, none⟩ = some (.string frm) := by
    rw [World.cell?_of_block (w := w2) (a := ⟨w.heap.size + 1, 0, none⟩) (heap_setCell_other _ _ _ _ (show w.heap.size + 1 ≠ fb by omega))]; exact hb1
  have b2 : (w2.setCell ⟨fb, 0, none⟩ (.int .i32 1)).cell? ⟨w.heap.size + 1 + 1, 0, none⟩ = some (.string to) := by
    rw [World.cell?_of_block (w := w2) (a := ⟨w.heap.size + 1 + 1, 0, none⟩) (heap_setCell_other _ _ _ _ (show w.heap.size + 1 + 1 ≠ fb by omega))]; exact hb2
  have HH : Hid (OpIn l S vN vO vR vD d fb nb sb n sv 0 w) := h
  clear h hB hI HT hb0 hb1 hb2
  go_enter_defers Tryz.func174, Tryz.ntmps174
  go_wp2_with fail
  rw [← hw2]
  refine (lock_free muLib ⟨fb, 0, none⟩ _ h0 f0).mono ?_
  rintro e w1 ⟨rfl, rfl⟩
  refine Hid.out ?_
  clear h0 f0 hw2
  generalize w2.setCell ⟨fb, 0, none⟩ (.int .i32 1) = w3 at *
  unfold Hid
  have e0 : w3.cell? ⟨0, 0, none⟩ = some vN := HI.out.errs.name
  go_wp2_with fail
  refine (isName_any frm w3).mono ?_
  rintro e w4 ⟨rfl, rfl⟩
  by_cases hnm : named frm = true
  · rw [hnm]
    go_wp2_with fail
    refine (isName_any to w4).mono ?_
    rintro e w3 ⟨rfl, rfl⟩
    by_cases hnt : named to = true
    rotate_left
    · have hnt2 : named to = false := by simpa using hnt
      rw [hnt2]
      have HX : Hid (renameNo l frm to vN vO = some vN) := by show _ = _; rw [renameNo, if_neg (fun h => hnt h.2)]
      go_wp2
      have HR2 : Hid (ProgRow w3 fb d 1 nb sb sv) := HI.out.row
      refine leaves_cons (f := 59) (args := #[.pointer (some ⟨fb, 0, none⟩)]) (by simp) (by simp [go_sem]) ?_; refine (unlock_deferred muLib ⟨fb, 0, none⟩ .returning _ ?_ ?_).mono ?_; (rw [cell_of_row _ _ _ _ _ _ HR2.out]; rfl); (exact frozen_of_row _ _ _ _ _ HR2.out); rintro e u' w'' ⟨rfl, rfl, rfl⟩
      refine ⟨_, results_tmp rfl _ _ _, ?_⟩
      have hI9 := HI.out.lock 0 hlow hne
      exact ⟨(HT1.out.setCell ⟨fb, 0, none⟩ _ (Or.inl rfl)).mono (fun _ hk => Or.inl hk), Or.inl ⟨vN, HX.out, rfl, hI9.row, hI9.map, hI9.own⟩⟩
    have hn2 : to.size ≤ 1099511627776 := by have := (of_decide_eq_true hnt).2.1; omega
    rw [hnt]
    have HR4 : Hid (ProgRow w3 fb d 1 nb sb sv) := HI.out.row
    go_wp2_with fail
    refine (has_any frm hn l d fb 1 nb sb n sv w3 HI.out.row HI.out.map).mono ?_
    rintro e w5 ⟨rfl, hB5⟩
    have HI5 : Hid (OpIn l S vN vO vR vD d fb nb sb n sv 1 w5) := HI.out.below hB5
    have HT5 : Hid (Turns (fun k => k = fb) w w5) := HT1.out.trans (Turns.of_below (fun k => k = fb) hB5) (fun i hi => Or.inl hi)
    have b05 : w5.cell? ⟨w.heap.size, 0, none⟩ = some (.pointer (some ⟨fb, 0, none⟩)) := (World.cell?_of_block (w := w3) (a := ⟨w.heap.size, 0, none⟩) (hB5.block w.heap.size (block_lt_of_cell b0))).trans b0
    have b15 : w5.cell? ⟨w.heap.size + 1, 0, none⟩ = some (.string frm) := (World.cell?_of_block (w := w3) (a := ⟨w.heap.size + 1, 0, none⟩) (hB5.block (w.heap.size + 1) (block_lt_of_cell b1))).trans b1
    have b25 : w5.cell? ⟨w.heap.size + 1 + 1, 0, none⟩ = some (.string to) := (World.cell?_of_block (w := w3) (a := ⟨w.heap.size + 1 + 1, 0, none⟩) (hB5.block (w.heap.size + 1 + 1) (block_lt_of_cell b2))).trans b2
    have e25 : w5.cell? ⟨1, 0, none⟩ = some vO := HI5.out.errs.gone
    clear hB5 HI HT1 e0 b0 b1 b2 HR4
    by_cases hps : decide (posIn l frm ≠ -1) = true
    · rw [hps]
      have HX : Hid (renameNo l frm to vN vO = none) := by show _ = _; rw [renameNo, if_pos ⟨hnm, hnt⟩, if_neg (by simpa using hps)]
      have HL : Hid (nb < w.heap.size ∧ ∀ j, sv.ownBlock = some j → j < w.heap.size) := ⟨HH.out.map.lt, HH.out.own.lt⟩
      go_wp2_with fail
      refine (operate_post ⟨252, #[.pointer (some ⟨w.heap.size, 0, none⟩), .pointer (some ⟨w.heap.size + 1, 0, none⟩), .pointer (some ⟨w.heap.size + 1 + 1, 0, none⟩)], ⟨#[]⟩, false⟩ ⟨3, frm, to⟩ (fun h => by simp at h) S vD l d fb 1 nb sb n sv w5 HI5.out.row HI5.out.map hhi HI5.out.own hSl hne ⟨_, _, b05, b15, Or.inr (Or.inr (Or.inl ⟨rfl, _, b25, rfl⟩))⟩ ?_ hroom hn hn2 (Nat.zero_le _) hdt HI5.out.errs.down hgd).mono ?_
      · intro b hb
        simp [BoxOf] at hb
        have hlt := HL.out
        refine ⟨by omega, by omega, fun e => ?_⟩
        have := hlt.2 b e
        omega
      rintro e w6 hp
      have HP : Hid (OperPost ⟨252, #[.pointer (some ⟨w.heap.size, 0, none⟩), .pointer (some ⟨w.heap.size + 1, 0, none⟩), .pointer (some ⟨w.heap.size + 1 + 1, 0, none⟩)], ⟨#[]⟩, false⟩ ⟨3, frm, to⟩ vD l S d fb 1 nb sb n sv w5 e w6) := hp
      obtain ⟨v, rfl⟩ := HP.out.ret
      obtain ⟨sv2, hr2⟩ := HP.out.row
      have HR2 : Hid (ProgRow w6 fb (burnD d) 1 nb sb sv2) := hr2
      clear hp hr2
      go_wp2
      refine leaves_cons (f := 59) (args := #[.pointer (some ⟨fb, 0, none⟩)]) (by simp) (by simp [go_sem]) ?_; refine (unlock_deferred muLib ⟨fb, 0, none⟩ .returning _ ?_ ?_).mono ?_; (rw [cell_of_row _ _ _ _ _ _ HR2.out]; rfl); (exact frozen_of_row _ _ _ _ _ HR2.out); rintro e u' w'' ⟨rfl, rfl, rfl⟩
      refine ⟨_, results_tmp rfl _ _ _, ?_⟩
      exact op_done HX.out hfb HT5.out (fun b hb => by simp [BoxOf] at hb; omega) HP.out hne
    · have hps2 : decide (posIn l frm ≠ -1) = false := by simpa using hps
      rw [hps2]
      have HX : Hid (renameNo l frm to vN vO = some vO) := by show _ = _; rw [renameNo, if_pos ⟨hnm, hnt⟩, if_pos (by simpa using hps)]
      go_wp2
      have HR2 : Hid (ProgRow w5 fb d 1 nb sb sv) := HI5.out.row
      refine leaves_cons (f := 59) (args := #[.pointer (some ⟨fb, 0, none⟩)]) (by simp) (by simp [go_sem]) ?_; refine (unlock_deferred muLib ⟨fb, 0, none⟩ .returning _ ?_ ?_).mono ?_; (rw [cell_of_row _ _ _ _ _ _ HR2.out]; rfl); (exact frozen_of_row _ _ _ _ _ HR2.out); rintro e u' w'' ⟨rfl, rfl, rfl⟩
      refine ⟨_, results_tmp rfl _ _ _, ?_⟩
      have hI9 := HI5.out.lock 0 hlow hne
      exact ⟨(HT5.out.setCell ⟨fb, 0, none⟩ _ (Or.inl rfl)).mono (fun _ hk => Or.inl hk), Or.inl ⟨vO, HX.out, rfl, hI9.row, hI9.map, hI9.own⟩⟩
  · have hnm2 : named frm = false := by simpa using hnm
    rw [hnm2]
    have HX : Hid (renameNo l frm to vN vO = some vN) := by show _ = _; rw [renameNo, if_neg (fun h => hnm h.1)]
    go_wp2
    have HR2 : Hid (ProgRow w4 fb d 1 nb sb sv) := HI.out.row
    refine leaves_cons (f := 59) (args := #[.pointer (some ⟨fb, 0, none⟩)]) (by simp) (by simp [go_sem]) ?_; refine (unlock_deferred muLib ⟨fb, 0, none⟩ .returning _ ?_ ?_).mono ?_; (rw [cell_of_row _ _ _ _ _ _ HR2.out]; rfl); (exact frozen_of_row _ _ _ _ _ HR2.out); rintro e u' w'' ⟨rfl, rfl, rfl⟩
    refine ⟨_, results_tmp rfl _ _ _, ?_⟩
    have hI9 := HI.out.lock 0 hlow hne
    exact ⟨(HT1.out.setCell ⟨fb, 0, none⟩ _ (Or.inl rfl)).mono (fun _ hk => Or.inl hk), Or.inl ⟨vN, HX.out, rfl, hI9.row, hI9.map, hI9.own⟩⟩
end Go.Proofs.YthhbpebihgjpjaaGreatDoor

namespace Go.Proofs.YthhbpebihgjpjaaGreatDoor
open Go.RowKit Go.MuLone Go.Maps
set_option maxRecDepth 1000000

def appendNo (l : List FileV) (room : Int) (name data : ByteArray) (vN vR : Value) : Option Value :=
  if named name = true then (if room < (totalBytes l : Int) + data.size then some vR else none) else some vN

set_option maxHeartbeats 4000000 in
theorem progAppend_any (name data : ByteArray) (hn : name.size ≤ maxLen) (hdat : data.size ≤ 140737488351232) (l : List FileV) (hd : DistinctL l) (htot : totalBytes l ≤ 1099511627776) (hdt : (dataOf l name).size ≤ 1099511627776) (S : List KeptV) (vN vO vR vD : Value) (d : ProgD) (fb : Nat) (nb sb n : Nat) (sv : Value) (w : World)
    (h : OpIn l S vN vO vR vD d fb nb sb n sv 0 w) (hroom : n < maxLen) (hhi : d.fuse ≤ 9223372036854775807) (hrm : d.room ≤ 65536) (hSl : S.length ≤ 1048576) (hlow : 14 ≤ fb) (hne : sv.ownBlock ≠ some fb ∧ sv.ownBlock ≠ some nb ∧ fb ≠ nb) :
    Calls Tryz.prog 229 #[.pointer (some ⟨fb, 0, none⟩), .string name, .string data] w (OpPost (appendNo l d.room name data vN vR) vD l ⟨2, name, data⟩ S d fb nb sb n sv w) := by
  have hgd : 3 ≠ fb := by omega
  obtain ⟨w2, hw2⟩ : ∃ w2, w2 = ((w.alloc (.cells #[.pointer (some ⟨fb, 0, none⟩)] 31)).alloc (.cells #[.string name] 9)) := ⟨_, rfl⟩
  have hB : Below w.heap.size w w2 := by rw [hw2]; exact ((Below.refl _ _).alloc (Nat.le_refl _) _).alloc (by simp) _
  have hI : OpIn l S vN vO vR vD d fb nb sb n sv 0 w2 := h.below hB
  have hb0 : w2.cell? ⟨w.heap.size, 0, none⟩ = some (.pointer (some ⟨fb, 0, none⟩)) := by
    rw [hw2, World.cell?_alloc_lt _ _ ⟨w.heap.size, 0, none⟩ (by simp)]; exact cell_fresh w _ _ 0 _ rfl
  have hb1 : w2.cell? ⟨w.heap.size + 1, 0, none⟩ = some (.string name) := by
    rw [hw2]; simp
  have h0 : w2.cell? ⟨fb, 0, none⟩ = some (.int .i32 0) := by rw [cell_of_row _ _ _ _ _ _ hI.row]; rfl
  have f0 : w2.frozen? ⟨fb, 0, none⟩ = false := frozen_of_row _ _ _ _ _ hI.row
  have hfb : fb < w.heap.size := h.row.lt
  have HT : Hid (Turns (fun k => k = fb) w w2) := Turns.of_below _ hB
  have HI : Hid (OpIn l S vN vO vR vD d fb nb sb n sv 1 (w2.setCell ⟨fb, 0, none⟩ (.int .i32 1))) := hI.lock 1 hlow hne
  have HT1 : Hid (Turns (fun k => k = fb) w (w2.setCell ⟨fb, 0, none⟩ (.int .i32 1))) := HT.out.setCell ⟨fb, 0, none⟩ _ (Or.inl rfl)
  have b0 : (w2.setCell ⟨fb, 0, none⟩ (.int .i32 1)).cell? ⟨w.heap.size, 0, none⟩ = some (.pointer (some ⟨fb, 0, none⟩)) := by
    rw [World.cell?_of_block (w := w2) (a := ⟨w.heap.size, 0, none⟩) (heap_setCell_other _ _ _ _ (show w.heap.size ≠ fb by omega))]; exact hb0
  have b1 : (w2.setCell ⟨fb, 0, none⟩ (.int .i32 1)).cell? ⟨w.heap.size + 1, 0, none⟩ = some (.string name) := by
    rw [World.cell?_of_block (w := w2) (a := ⟨w.heap.size + 1, 0, none⟩) (heap_setCell_other _ _ _ _ (show w.heap.size + 1 ≠ fb by omega))]; exact hb1
  have HH : Hid (OpIn l S vN vO vR vD d fb nb sb n sv 0 w) := h
  clear h hB hI HT hb0 hb1
  go_enter_defers Tryz.func229, Tryz.ntmps229
  go_wp2_with fail
  rw [← hw2]
  refine (lock_free muLib ⟨fb, 0, none⟩ _ h0 f0).mono ?_
  rintro e w1 ⟨rfl, rfl⟩
  refine Hid.out ?_
  clear h0 f0 hw2
  generalize w2.setCell ⟨fb, 0, none⟩ (.int .i32 1) = w3 at *
  unfold Hid
  have e0 : w3.cell? ⟨0, 0, none⟩ = some vN := HI.out.errs.name
  have e2 : w3.cell? ⟨2, 0, none⟩ = some vR := HI.out.errs.room
  go_wp2_with fail
  refine (isName_any name w3).mono ?_
  rintro e w4 ⟨rfl, rfl⟩
  by_cases hnm : named name = true
  · rw [hnm]
    have c2 : w4.cell? ⟨fb, 2, none⟩ = some (.int .i64 d.room) := by rw [cell_of_row _ _ _ _ _ _ HI.out.row]; rfl
    have HW : Hid (appendNo l d.room name data vN vR = if d.room < (totalBytes l : Int) + data.size then some vR else none) := by show _ = _; rw [appendNo, if_pos hnm]
    have HBY : Hid (Calls Tryz.prog 74 #[.pointer (some ⟨fb, 0, none⟩)] w4.drew fun e w' => e = .returned (.int .i64 (totalBytes l)) ∧ Below w4.drew.heap.size w4.drew w') := bytes_any l hd (by omega) d fb 1 nb sb n sv w4.drew HI.out.row (HI.out.map.keep rfl)
    have HBT : Hid (∀ w5, Below w4.drew.heap.size w4.drew w5 → Turns (fun _ => False) w4 w5 ∧ ((w5.cell? ⟨w.heap.size, 0, none⟩ = some (.pointer (some ⟨fb, 0, none⟩)) ∧ w5.cell? ⟨w.heap.size + 1, 0, none⟩ = some (.string name) ∧ w5.cell? ⟨fb, 2, none⟩ = some (.int .i64 d.room)))) := fun w5 hb => by
      have hk : ∀ k v, w4.cell? k = some v → w5.cell? k = some v := fun k v hk => (World.cell?_of_block (w := w4) (hb.block k.block (block_lt_of_cell hk))).trans hk
      exact ⟨⟨hb.os, hb.output, hb.size, fun k hk _ => hb.block k hk⟩, hk _ _ b0, hk _ _ b1, hk _ _ c2⟩
    have HT4 : Hid (Turns (fun _ => False) w4 w4.drew) := ⟨rfl, rfl, Nat.le_refl _, fun _ _ _ => rfl⟩
    have hT0 : (0 : Int) ≤ (totalBytes l : Int) := by omega
    have hT1 : (totalBytes l : Int) ≤ 1099511627776 := by omega
    have hE0 : (data.size : Int) ≤ 140737488351232 := by omega
    clear htot
    generalize (totalBytes l : Int) = tot at *
    have k1 : IntKind.i64.wrap (tot + (data.size : Int)) = tot + (data.size : Int) := by rw [IntKind.wrap_i64]; omega
    go_wp2_with fail
    go_region_held3 (fun w' => Turns (fun _ => False) w4 w' ∧ (w'.cell? ⟨w.heap.size, 0, none⟩ = some (.pointer (some ⟨fb, 0, none⟩)) ∧ w'.cell? ⟨w.heap.size + 1, 0, none⟩ = some (.string name) ∧ w'.cell? ⟨fb, 2, none⟩ = some (.int .i64 d.room))) (first | exact ⟨HT4.out, b0, b1, c2⟩ | exact hS5) (first | (go_at_call 74; refine HBY.out.mono ?_; rintro e w5 ⟨rfl, hB5⟩; have hS5 := HBT.out w5 hB5))
    all_goals
      have HI5 : Hid (OpIn l S vN vO vR vD d fb nb sb n sv 1 w5) := HI.out.still hS5.1
      have HT5 : Hid (Turns (fun k => k = fb) w w5) := HT1.out.trans hS5.1 (fun i hi => hi.elim)
      have b05 := hS5.2.1
      have b15 := hS5.2.2.1
      have e25 : w5.cell? ⟨2, 0, none⟩ = some vR := HI5.out.errs.room
      clear hS5 hB5 HBY HBT HT4 HI HT1 e0 e2 b0 b1 c2
      by_cases hrm2 : d.room < tot + (data.size : Int)
      · have HX : Hid (appendNo l d.room name data vN vR = some vR) := by show _ = _; rw [HW.out, if_pos hrm2]
        clear HW
        go_wp2
        have HR2 : Hid (ProgRow w5 fb d 1 nb sb sv) := HI5.out.row
        refine leaves_cons (f := 59) (args := #[.pointer (some ⟨fb, 0, none⟩)]) (by simp) (by simp [go_sem]) ?_; refine (unlock_deferred muLib ⟨fb, 0, none⟩ .returning _ ?_ ?_).mono ?_; (rw [cell_of_row _ _ _ _ _ _ HR2.out]; rfl); (exact frozen_of_row _ _ _ _ _ HR2.out); rintro e u' w'' ⟨rfl, rfl, rfl⟩
        refine ⟨_, results_tmp rfl _ _ _, ?_⟩
        have hI9 := HI5.out.lock 0 hlow hne
        exact ⟨(HT5.out.setCell ⟨fb, 0, none⟩ _ (Or.inl rfl)).mono (fun _ hk => Or.inl hk), Or.inl ⟨vR, HX.out, rfl, hI9.row, hI9.map, hI9.own⟩⟩
      · have HX : Hid (appendNo l d.room name data vN vR = none) := by show _ = _; rw [HW.out, if_neg hrm2]
        clear HW
        have hdat2 : data.size ≤ 1099511627776 := by omega
        have HL : Hid (nb < w.heap.size ∧ ∀ j, sv.ownBlock = some j → j < w.heap.size) := ⟨HH.out.map.lt, HH.out.own.lt⟩
        go_wp2_with fail
        refine (operate_post ⟨303, #[.pointer (some ⟨w.heap.size, 0, none⟩), .pointer (some ⟨w.heap.size + 1, 0, none⟩)], data, true⟩ ⟨2, name, data⟩ (fun _ => rfl) S vD l d fb 1 nb sb n sv w5 HI5.out.row HI5.out.map hhi HI5.out.own hSl hne ⟨_, _, b05, b15, Or.inr (Or.inl ⟨rfl, rfl⟩)⟩ ?_ hroom hn hdat2 hdat2 hdt HI5.out.errs.down hgd).mono ?_
        · intro b hb
          simp [BoxOf] at hb
          have hlt := HL.out
          refine ⟨by omega, by omega, fun e => ?_⟩
          have := hlt.2 b e
          omega
        rintro e w6 hp
        have HP : Hid (OperPost ⟨303, #[.pointer (some ⟨w.heap.size, 0, none⟩), .pointer (some ⟨w.heap.size + 1, 0, none⟩)], data, true⟩ ⟨2, name, data⟩ vD l S d fb 1 nb sb n sv w5 e w6) := hp
        obtain ⟨v, rfl⟩ := HP.out.ret
        obtain ⟨sv2, hr2⟩ := HP.out.row
        have HR2 : Hid (ProgRow w6 fb (burnD d) 1 nb sb sv2) := hr2
        clear hp hr2
        go_wp2
        refine leaves_cons (f := 59) (args := #[.pointer (some ⟨fb, 0, none⟩)]) (by simp) (by simp [go_sem]) ?_; refine (unlock_deferred muLib ⟨fb, 0, none⟩ .returning _ ?_ ?_).mono ?_; (rw [cell_of_row _ _ _ _ _ _ HR2.out]; rfl); (exact frozen_of_row _ _ _ _ _ HR2.out); rintro e u' w'' ⟨rfl, rfl, rfl⟩
        refine ⟨_, results_tmp rfl _ _ _, ?_⟩
        exact op_done HX.out hfb HT5.out (fun b hb => by simp [BoxOf] at hb; omega) HP.out hne
  · have hnm2 : named name = false := by simpa using hnm
    rw [hnm2]
    have HX : Hid (appendNo l d.room name data vN vR = some vN) := by show _ = _; rw [appendNo, if_neg hnm]
    go_wp2
    have HR2 : Hid (ProgRow w4 fb d 1 nb sb sv) := HI.out.row
    refine leaves_cons (f := 59) (args := #[.pointer (some ⟨fb, 0, none⟩)]) (by simp) (by simp [go_sem]) ?_; refine (unlock_deferred muLib ⟨fb, 0, none⟩ .returning _ ?_ ?_).mono ?_; (rw [cell_of_row _ _ _ _ _ _ HR2.out]; rfl); (exact frozen_of_row _ _ _ _ _ HR2.out); rintro e u' w'' ⟨rfl, rfl, rfl⟩
    refine ⟨_, results_tmp rfl _ _ _, ?_⟩
    have hI9 := HI.out.lock 0 hlow hne
    exact ⟨(HT1.out.setCell ⟨fb, 0, none⟩ _ (Or.inl rfl)).mono (fun _ hk => Or.inl hk), Or.inl ⟨vN, HX.out, rfl, hI9.row, hI9.map, hI9.own⟩⟩
end Go.Proofs.YthhbpebihgjpjaaGreatDoor
