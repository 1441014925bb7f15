import Derived.Test.YthhbpebihgjpjaaGreatDoorJ14
import Derived.Test.YthhbpebihgjpjaaGreatDoorJ01
import Derived.Deep.RegionHeld3
namespace Go.Proofs.YthhbpebihgjpjaaGreatDoor
open Go.RowKit Go.MuLone Go.Maps
set_option maxRecDepth 1000000

/-- The four reasons that files answer, as the variables hold them. -/
structure ErrsAt (w : World) (vN vO vR vD : Value) : Prop where
  name : w.cell? ⟨0, 0, none⟩ = some vN
  gone : w.cell? ⟨1, 0, none⟩ = some vO
  room : w.cell? ⟨2, 0, none⟩ = some vR
  down : w.cell? ⟨3, 0, none⟩ = some vD
theorem ErrsAt.keep {w w' : World} {vN vO vR vD : Value} (h : ErrsAt w vN vO vR vD) (hb : ∀ k, k < 14 → w'.heap[k]? = w.heap[k]?) : ErrsAt w' vN vO vR vD :=
  ⟨(World.cell?_of_block (w := w) (a := ⟨0, 0, none⟩) (hb _ (by decide))).trans h.name, (World.cell?_of_block (w := w) (a := ⟨1, 0, none⟩) (hb _ (by decide))).trans h.gone, (World.cell?_of_block (w := w) (a := ⟨2, 0, none⟩) (hb _ (by decide))).trans h.room, (World.cell?_of_block (w := w) (a := ⟨3, 0, none⟩) (hb _ (by decide))).trans h.down⟩

/-- What an operation finds where it begins. -/
structure OpIn (l : List FileV) (S : List KeptV) (vN vO vR vD : Value) (d : ProgD) (fb nb sb n : Nat) (sv : Value) (lk : Int) (w : World) : Prop where
  row : ProgRow w fb d lk nb sb sv
  map : MapAt w nb n l
  own : OwnS sv S w
  errs : ErrsAt w vN vO vR vD
  glob : 14 ≤ w.heap.size
theorem OpIn.turns {l : List FileV} {S : List KeptV} {vN vO vR vD : Value} {d : ProgD} {fb nb sb n : Nat} {sv : Value} {lk : Int} {w w' : World} (h : OpIn l S vN vO vR vD d fb nb sb n sv lk w) (lk' : Int) (hr : ProgRow w' fb d lk' nb sb sv) (ht : Turns (fun k => k = fb) w w') (hlow : 14 ≤ fb) (hne : sv.ownBlock ≠ some fb ∧ sv.ownBlock ≠ some nb ∧ fb ≠ nb) : OpIn l S vN vO vR vD d fb nb sb n sv lk' w' :=
  ⟨hr, h.map.keep (ht.block nb h.map.lt (fun e => hne.2.2 e.symm)), h.own.keep (fun j hj => ht.block j (h.own.lt j hj) (fun e => hne.1 (by rw [hj, e]))), h.errs.keep (fun k hk => ht.block k (Nat.lt_of_lt_of_le hk h.glob) (by omega)), Nat.le_trans h.glob ht.size⟩
theorem OpIn.below {l : List FileV} {S : List KeptV} {vN vO vR vD : Value} {d : ProgD} {fb nb sb n : Nat} {sv : Value} {lk : Int} {w w' : World} (h : OpIn l S vN vO vR vD d fb nb sb n sv lk w) (hb : Below w.heap.size w w') : OpIn l S vN vO vR vD d fb nb sb n sv lk w' :=
  ⟨(hb.block fb h.row.lt).trans h.row, h.map.keep (hb.block nb h.map.lt), h.own.keep (fun j hj => hb.block j (h.own.lt j hj)), h.errs.keep (fun k hk => hb.block k (Nat.lt_of_lt_of_le hk h.glob)), Nat.le_trans h.glob hb.size⟩
theorem OpIn.still {l : List FileV} {S : List KeptV} {vN vO vR vD : Value} {d : ProgD} {fb nb sb n : Nat} {sv : Value} {lk : Int} {w w' : World} (h : OpIn l S vN vO vR vD d fb nb sb n sv lk w) (hb : Turns (fun _ => False) w w') : OpIn l S vN vO vR vD d fb nb sb n sv lk w' :=
  ⟨(hb.block fb h.row.lt id).trans h.row, h.map.keep (hb.block nb h.map.lt id), h.own.keep (fun j hj => hb.block j (h.own.lt j hj) id), h.errs.keep (fun k hk => hb.block k (Nat.lt_of_lt_of_le hk h.glob) id), Nat.le_trans h.glob hb.size⟩
theorem OpIn.lock {l : List FileV} {S : List KeptV} {vN vO vR vD : Value} {d : ProgD} {fb nb sb n : Nat} {sv : Value} {lk : Int} {w : World} (h : OpIn l S vN vO vR vD d fb nb sb n sv lk w) (x : Int) (hlow : 14 ≤ fb) (hne : sv.ownBlock ≠ some fb ∧ sv.ownBlock ≠ some nb ∧ fb ≠ nb) : OpIn l S vN vO vR vD d fb nb sb n sv x (w.setCell ⟨fb, 0, none⟩ (.int .i32 x)) :=
  h.turns x (h.row.setLock x) ((Turns.refl _ w).setCell ⟨fb, 0, none⟩ _ (Or.inl rfl)) hlow hne

def writeNo (l : List FileV) (room : Int) (name data : ByteArray) (vN vR : Value) : Option Value :=
  if named name = true then (if room < (totalBytes l : Int) - (dataOf l name).size + data.size then some vR else none) else some vN

set_option maxHeartbeats 4000000 in
theorem progWrite_any (name data : ByteArray) (hn : name.size ≤ maxLen) (hdat : data.size ≤ 140737488351232) (l : List FileV) (hd : DistinctL l) (htot : totalBytes l ≤ 1099511627776) (hdt : (dataOf l name).size ≤ 1099511627776) (S : List KeptV) (vN vO vR vD : Value) (d : ProgD) (fb : Nat) (nb sb n : Nat) (sv : Value) (w : World)
    (h : OpIn l S vN vO vR vD d fb nb sb n sv 0 w) (hroom : n < maxLen) (hhi : d.fuse ≤ 9223372036854775807) (hrm : d.room ≤ 65536) (hold : (dataOf l name).size ≤ totalBytes l) (hSl : S.length ≤ 1048576) (hlow : 14 ≤ fb) (hne : sv.ownBlock ≠ some fb ∧ sv.ownBlock ≠ some nb ∧ fb ≠ nb) :
    Calls Tryz.prog 49 #[.pointer (some ⟨fb, 0, none⟩), .string name, .string data] w (OpPost (writeNo l d.room name data vN vR) vD l ⟨1, name, data⟩ S d fb nb sb n sv w) := by
  have hgd : 3 ≠ fb := by omega
  obtain ⟨w2, hw2⟩ : ∃ w2, w2 = ((w.alloc (.cells #[.pointer (some ⟨fb, 0, none⟩)] 31)).alloc (.cells #[.string name] 9)) := ⟨_, rfl⟩
  have hB : Below w.heap.size w w2 := by rw [hw2]; exact ((Below.refl _ _).alloc (Nat.le_refl _) _).alloc (by simp) _
  have hI : OpIn l S vN vO vR vD d fb nb sb n sv 0 w2 := h.below hB
  have hb0 : w2.cell? ⟨w.heap.size, 0, none⟩ = some (.pointer (some ⟨fb, 0, none⟩)) := by
    rw [hw2, World.cell?_alloc_lt _ _ ⟨w.heap.size, 0, none⟩ (by simp)]; exact cell_fresh w _ _ 0 _ rfl
  have hb1 : w2.cell? ⟨w.heap.size + 1, 0, none⟩ = some (.string name) := by
    rw [hw2]; simp
  have h0 : w2.cell? ⟨fb, 0, none⟩ = some (.int .i32 0) := by rw [cell_of_row _ _ _ _ _ _ hI.row]; rfl
  have f0 : w2.frozen? ⟨fb, 0, none⟩ = false := frozen_of_row _ _ _ _ _ hI.row
  have hfb : fb < w.heap.size := h.row.lt
  have HT : Hid (Turns (fun k => k = fb) w w2) := Turns.of_below _ hB
  have HI : Hid (OpIn l S vN vO vR vD d fb nb sb n sv 1 (w2.setCell ⟨fb, 0, none⟩ (.int .i32 1))) := hI.lock 1 hlow hne
  have HT1 : Hid (Turns (fun k => k = fb) w (w2.setCell ⟨fb, 0, none⟩ (.int .i32 1))) := HT.out.setCell ⟨fb, 0, none⟩ _ (Or.inl rfl)
  have b0 : (w2.setCell ⟨fb, 0, none⟩ (.int .i32 1)).cell? ⟨w.heap.size, 0, none⟩ = some (.pointer (some ⟨fb, 0, none⟩)) := by
    rw [World.cell?_of_block (w := w2) (a := ⟨w.heap.size, 0, none⟩) (heap_setCell_other _ _ _ _ (show w.heap.size ≠ fb by omega))]; exact hb0
  have b1 : (w2.setCell ⟨fb, 0, none⟩ (.int .i32 1)).cell? ⟨w.heap.size + 1, 0, none⟩ = some (.string name) := by
    rw [World.cell?_of_block (w := w2) (a := ⟨w.heap.size + 1, 0, none⟩) (heap_setCell_other _ _ _ _ (show w.heap.size + 1 ≠ fb by omega))]; exact hb1
  have HH : Hid (OpIn l S vN vO vR vD d fb nb sb n sv 0 w) := h
  clear h hB hI HT hb0 hb1
  go_enter_defers Tryz.func49, Tryz.ntmps49
  go_wp2_with fail
  rw [← hw2]
  refine (lock_free muLib ⟨fb, 0, none⟩ _ h0 f0).mono ?_
  rintro e w1 ⟨rfl, rfl⟩
  refine Hid.out ?_
  clear h0 f0 hw2
  generalize w2.setCell ⟨fb, 0, none⟩ (.int .i32 1) = w3 at *
  unfold Hid
  have e0 : w3.cell? ⟨0, 0, none⟩ = some vN := HI.out.errs.name
  have e2 : w3.cell? ⟨2, 0, none⟩ = some vR := HI.out.errs.room
  go_wp2_with fail
  refine (isName_any name w3).mono ?_
  rintro e w4 ⟨rfl, rfl⟩
  by_cases hnm : named name = true
  · rw [hnm]
    have c2 : w4.cell? ⟨fb, 2, none⟩ = some (.int .i64 d.room) := by rw [cell_of_row _ _ _ _ _ _ HI.out.row]; rfl
    have c3 : w4.cell? ⟨fb, 3, none⟩ = some (.map (some nb)) := by rw [cell_of_row _ _ _ _ _ _ HI.out.row]; rfl
    have hl := (show MapAt w4.drew nb n l from HI.out.map.keep rfl).look name hn
    have HL5 : Hid (∀ w5 : World, Below w4.heap.size w4 w5 → (Instr.lookup 85 (.map (some nb)) (.string name) false).run Tryz.prog w5 = .ok (.agg #[.string (dataOf l name)]) w5) := fun w5 hb => (HI.out.map.keep (hb.block nb HI.out.map.lt)).look name hn
    have HW : Hid (writeNo l d.room name data vN vR = if d.room < (totalBytes l : Int) - (dataOf l name).size + data.size then some vR else none) := by show _ = _; rw [writeNo, if_pos hnm]
    have HC5 : Hid (∀ w5 : World, Below w4.heap.size w4 w5 → ∀ k v, w4.cell? k = some v → w5.cell? k = some v) := fun w5 hb k v hk => (World.cell?_of_block (w := w4) (hb.block k.block (block_lt_of_cell hk))).trans hk
    obtain ⟨dt, hdtE⟩ : ∃ dt, dt = dataOf l name := ⟨_, rfl⟩
    rw [← hdtE] at hl hdt
    have HDT : Hid (dataOf l name = dt) := hdtE.symm
    have hfd : ∀ w : World, (Instr.field 117 (.agg #[.string dt]) 0).run Tryz.prog w = .ok (.string dt) w := field_data dt
    have HBY : Hid (Calls Tryz.prog 74 #[.pointer (some ⟨fb, 0, none⟩)] w4.drew fun e w' => e = .returned (.int .i64 (totalBytes l)) ∧ Below w4.drew.heap.size w4.drew w') := bytes_any l hd (by omega) d fb 1 nb sb n sv w4.drew HI.out.row (HI.out.map.keep rfl)
    have HBT : Hid (∀ w5, Below w4.drew.heap.size w4.drew w5 → Turns (fun _ => False) w4 w5 ∧ ((w5.cell? ⟨w.heap.size, 0, none⟩ = some (.pointer (some ⟨fb, 0, none⟩)) ∧ w5.cell? ⟨w.heap.size + 1, 0, none⟩ = some (.string name) ∧ w5.cell? ⟨fb, 2, none⟩ = some (.int .i64 d.room) ∧ w5.cell? ⟨fb, 3, none⟩ = some (.map (some nb)) ∧ (Instr.lookup 85 (.map (some nb)) (.string name) false).run Tryz.prog w5 = .ok (.agg #[.string dt]) w5))) := fun w5 hb => by
      have hk : ∀ k v, w4.cell? k = some v → w5.cell? k = some v := fun k v hk => (World.cell?_of_block (w := w4) (hb.block k.block (block_lt_of_cell hk))).trans hk
      have hl5 := (HI.out.map.keep (hb.block nb HI.out.map.lt)).look name hn
      rw [HDT.out] at hl5
      exact ⟨⟨hb.os, hb.output, hb.size, fun k hk _ => hb.block k hk⟩, hk _ _ b0, hk _ _ b1, hk _ _ c2, hk _ _ c3, hl5⟩
    have HT4 : Hid (Turns (fun _ => False) w4 w4.drew) := ⟨rfl, rfl, Nat.le_refl _, fun _ _ _ => rfl⟩
    have hT0 : (0 : Int) ≤ (totalBytes l : Int) := by omega
    have hT1 : (totalBytes l : Int) ≤ 1099511627776 := by omega
    have hD0 : (dt.size : Int) ≤ 1099511627776 := by omega
    have hE0 : (data.size : Int) ≤ 140737488351232 := by omega
    have hOT : (dt.size : Int) ≤ (totalBytes l : Int) := by rw [HDT.out] at hold; omega
    clear hdtE HL5 HC5 htot hold
    generalize (totalBytes l : Int) = tot at *
    have k0 : IntKind.i64.wrap (tot - (dt.size : Int)) = tot - (dt.size : Int) := by rw [IntKind.wrap_i64]; omega
    have k1 : IntKind.i64.wrap (tot - (dt.size : Int) + (data.size : Int)) = tot - (dt.size : Int) + (data.size : Int) := by rw [IntKind.wrap_i64]; omega
    go_wp2_with fail
    go_region_held3 (fun w' => Turns (fun _ => False) w4 w' ∧ (w'.cell? ⟨w.heap.size, 0, none⟩ = some (.pointer (some ⟨fb, 0, none⟩)) ∧ w'.cell? ⟨w.heap.size + 1, 0, none⟩ = some (.string name) ∧ w'.cell? ⟨fb, 2, none⟩ = some (.int .i64 d.room) ∧ w'.cell? ⟨fb, 3, none⟩ = some (.map (some nb)) ∧ (Instr.lookup 85 (.map (some nb)) (.string name) false).run Tryz.prog w' = .ok (.agg #[.string dt]) w')) (first | exact ⟨HT4.out, b0, b1, c2, c3, hl⟩ | exact hS5) (first | (go_at_call 74; refine HBY.out.mono ?_; rintro e w5 ⟨rfl, hB5⟩; have hS5 := HBT.out w5 hB5))
    all_goals
      have HI5 : Hid (OpIn l S vN vO vR vD d fb nb sb n sv 1 w5) := HI.out.still hS5.1
      have HT5 : Hid (Turns (fun k => k = fb) w w5) := HT1.out.trans hS5.1 (fun i hi => hi.elim)
      have b05 := hS5.2.1
      have b15 := hS5.2.2.1
      have e25 : w5.cell? ⟨2, 0, none⟩ = some vR := HI5.out.errs.room
      rw [HDT.out] at HW
      clear hS5 hB5 HBY HBT HT4 HI HT1 e0 e2 b0 b1 c2 c3 hl hfd
      by_cases hrm2 : d.room < tot - (dt.size : Int) + (data.size : Int)
      · have HX : Hid (writeNo l d.room name data vN vR = some vR) := by show _ = _; rw [HW.out, if_pos hrm2]
        clear HW
        go_wp2
        have HR2 : Hid (ProgRow w5 fb d 1 nb sb sv) := HI5.out.row
        refine leaves_cons (f := 59) (args := #[.pointer (some ⟨fb, 0, none⟩)]) (by simp) (by simp [go_sem]) ?_; refine (unlock_deferred muLib ⟨fb, 0, none⟩ .returning _ ?_ ?_).mono ?_; (rw [cell_of_row _ _ _ _ _ _ HR2.out]; rfl); (exact frozen_of_row _ _ _ _ _ HR2.out); rintro e u' w'' ⟨rfl, rfl, rfl⟩
        refine ⟨_, results_tmp rfl _ _ _, ?_⟩
        have hI9 := HI5.out.lock 0 hlow hne
        exact ⟨(HT5.out.setCell ⟨fb, 0, none⟩ _ (Or.inl rfl)).mono (fun _ hk => Or.inl hk), Or.inl ⟨vR, HX.out, rfl, hI9.row, hI9.map, hI9.own⟩⟩
      · have HX : Hid (writeNo l d.room name data vN vR = none) := by show _ = _; rw [HW.out, if_neg hrm2]
        clear HW
        have hdat2 : data.size ≤ 1099511627776 := by omega
        have HL : Hid (nb < w.heap.size ∧ ∀ j, sv.ownBlock = some j → j < w.heap.size) := ⟨HH.out.map.lt, HH.out.own.lt⟩
        go_wp2_with fail
        refine (operate_post ⟨76, #[.pointer (some ⟨w.heap.size, 0, none⟩), .pointer (some ⟨w.heap.size + 1, 0, none⟩)], data, true⟩ ⟨1, name, data⟩ (fun _ => rfl) S vD l d fb 1 nb sb n sv w5 HI5.out.row HI5.out.map hhi HI5.out.own hSl hne ⟨_, _, b05, b15, Or.inl ⟨rfl, rfl⟩⟩ ?_ hroom hn hdat2 hdat2 (by simp only; rw [HDT.out]; exact hdt) HI5.out.errs.down hgd).mono ?_
        · intro b hb
          simp [BoxOf] at hb
          have hlt := HL.out
          refine ⟨by omega, by omega, fun e => ?_⟩
          have := hlt.2 b e
          omega
        rintro e w6 hp
        have HP : Hid (OperPost ⟨76, #[.pointer (some ⟨w.heap.size, 0, none⟩), .pointer (some ⟨w.heap.size + 1, 0, none⟩)], data, true⟩ ⟨1, name, data⟩ vD l S d fb 1 nb sb n sv w5 e w6) := hp
        obtain ⟨v, rfl⟩ := HP.out.ret
        obtain ⟨sv2, hr2⟩ := HP.out.row
        have HR2 : Hid (ProgRow w6 fb (burnD d) 1 nb sb sv2) := hr2
        clear hp hr2
        go_wp2
        refine leaves_cons (f := 59) (args := #[.pointer (some ⟨fb, 0, none⟩)]) (by simp) (by simp [go_sem]) ?_; refine (unlock_deferred muLib ⟨fb, 0, none⟩ .returning _ ?_ ?_).mono ?_; (rw [cell_of_row _ _ _ _ _ _ HR2.out]; rfl); (exact frozen_of_row _ _ _ _ _ HR2.out); rintro e u' w'' ⟨rfl, rfl, rfl⟩
        refine ⟨_, results_tmp rfl _ _ _, ?_⟩
        exact op_done HX.out hfb HT5.out (fun b hb => by simp [BoxOf] at hb; omega) HP.out hne
  · have hnm2 : named name = false := by simpa using hnm
    rw [hnm2]
    have HX : Hid (writeNo l d.room name data vN vR = some vN) := by show _ = _; rw [writeNo, if_neg hnm]
    go_wp2
    have HR2 : Hid (ProgRow w4 fb d 1 nb sb sv) := HI.out.row
    refine leaves_cons (f := 59) (args := #[.pointer (some ⟨fb, 0, none⟩)]) (by simp) (by simp [go_sem]) ?_; refine (unlock_deferred muLib ⟨fb, 0, none⟩ .returning _ ?_ ?_).mono ?_; (rw [cell_of_row _ _ _ _ _ _ HR2.out]; rfl); (exact frozen_of_row _ _ _ _ _ HR2.out); rintro e u' w'' ⟨rfl, rfl, rfl⟩
    refine ⟨_, results_tmp rfl _ _ _, ?_⟩
    have hI9 := HI.out.lock 0 hlow hne
    exact ⟨(HT1.out.setCell ⟨fb, 0, none⟩ _ (Or.inl rfl)).mono (fun _ hk => Or.inl hk), Or.inl ⟨vN, HX.out, rfl, hI9.row, hI9.map, hI9.own⟩⟩
end Go.Proofs.YthhbpebihgjpjaaGreatDoor
