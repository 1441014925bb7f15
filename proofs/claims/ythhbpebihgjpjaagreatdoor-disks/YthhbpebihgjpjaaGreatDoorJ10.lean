import Derived.Test.YthhbpebihgjpjaaGreatDoorJ09
import Derived.Conc.RwLib
import Derived.Conc.MuData
import Derived.Conc.MuLone
import Derived.KernelRfl
namespace Go.Proofs.YthhbpebihgjpjaaGreatDoor
open Go.RowKit
set_option maxRecDepth 1000000

/-- The program's files: what stands beside the maps. -/
structure ProgD where
  room : Int
  fuse : Int
  down : Bool
def ProgD.row (d : ProgD) (lk : Int) (nb sb : Nat) (sv : Value) : Array Value := #[.int .i32 lk, .int .u32 0, .int .i64 d.room, .map (some nb), .map (some sb), sv, .int .i64 d.fuse, .bool d.down]
def ProgRow (w : World) (fb : Nat) (d : ProgD) (lk : Int) (nb sb : Nat) (sv : Value) : Prop := w.heap[fb]? = some (.cells (d.row lk nb sb sv) 95 (0, 0))
theorem ProgRow.lt {w : World} {fb : Nat} {d : ProgD} {lk : Int} {nb sb : Nat} {sv : Value} (h : ProgRow w fb d lk nb sb sv) : fb < w.heap.size := by
  rcases Nat.lt_or_ge fb w.heap.size with c | c
  · exact c
  · unfold ProgRow at h; rw [Array.getElem?_eq_none c] at h; cases h
theorem ProgRow.setFuse {w : World} {fb : Nat} {d : ProgD} {lk : Int} {nb sb : Nat} {sv : Value} (h : ProgRow w fb d lk nb sb sv) (x : Int) : ProgRow (w.setCell ⟨fb, 6, none⟩ (.int .i64 x)) fb { d with fuse := x } lk nb sb sv := by
  unfold ProgRow; rw [heap_setCell_same _ _ _ _ _ _ h]; rfl
theorem ProgRow.setDown {w : World} {fb : Nat} {d : ProgD} {lk : Int} {nb sb : Nat} {sv : Value} (h : ProgRow w fb d lk nb sb sv) (x : Bool) : ProgRow (w.setCell ⟨fb, 7, none⟩ (.bool x)) fb { d with down := x } lk nb sb sv := by
  unfold ProgRow; rw [heap_setCell_same _ _ _ _ _ _ h]; rfl
theorem ProgRow.setRoom {w : World} {fb : Nat} {d : ProgD} {lk : Int} {nb sb : Nat} {sv : Value} (h : ProgRow w fb d lk nb sb sv) (x : Int) : ProgRow (w.setCell ⟨fb, 2, none⟩ (.int .i64 x)) fb { d with room := x } lk nb sb sv := by
  unfold ProgRow; rw [heap_setCell_same _ _ _ _ _ _ h]; rfl
/-- The fuse burns by one. -/
def burnD (d : ProgD) : ProgD := if 0 < d.fuse then { d with fuse := d.fuse - 1, down := d.down || decide (d.fuse - 1 = 0) } else d

set_option maxHeartbeats 2000000 in
theorem within_any (n : Int) (w : World) :
    Calls Tryz.prog 48 #[.int .i64 n] w fun e w' => e = .returned (.int .i64 (min (max n 0) 65536)) ∧ w' = w := by
  go_enter Tryz.func48, Tryz.ntmps48
  by_cases h0 : n < 0
  · have e : min (max n 0) 65536 = 0 := by omega
    rw [e]
    go_wp2
    go_ret
    exact ⟨rfl, rfl⟩
  · by_cases h1 : n ≤ 65536
    · have e : min (max n 0) 65536 = n := by omega
      rw [e]
      have h2 : 0 ≤ n := by omega
      go_wp2
      all_goals
        go_ret
        exact ⟨by first | rfl | (exfalso; omega) | (show Ending.returned (.int .i64 _) = _; congr 2; omega), rfl⟩
    · have e : min (max n 0) 65536 = 65536 := by omega
      rw [e]
      have h2 : 0 ≤ n := by omega
      go_wp2
      all_goals
        go_ret
        exact ⟨by first | rfl | (exfalso; omega) | (show Ending.returned (.int .i64 _) = _; congr 2; omega), rfl⟩

set_option maxHeartbeats 2000000 in
theorem burn_any (d : ProgD) (fb : Nat) (lk : Int) (nb sb : Nat) (sv : Value) (w : World) (h : ProgRow w fb d lk nb sb sv) (hhi : d.fuse ≤ 9223372036854775807) :
    Calls Tryz.prog 123 #[.pointer (some ⟨fb, 0, none⟩)] w fun e w' => e = .returned (.bool (burnD d).down) ∧ ProgRow w' fb (burnD d) lk nb sb sv ∧ Turns (fun k => k = fb) w w' := by
  have HR : Hid (ProgRow w fb d lk nb sb sv) := h
  have c6 : w.cell? ⟨fb, 6, none⟩ = some (.int .i64 d.fuse) := by rw [cell_of_row _ _ _ _ _ _ h]; rfl
  have c7 : w.cell? ⟨fb, 7, none⟩ = some (.bool d.down) := by rw [cell_of_row _ _ _ _ _ _ h]; rfl
  have f6 : w.frozen? ⟨fb, 6, none⟩ = false := frozen_of_row _ _ _ _ _ h
  have f7 : w.frozen? ⟨fb, 7, none⟩ = false := frozen_of_row _ _ _ _ _ h
  obtain ⟨room, fuse, down⟩ := d
  simp only at c6 c7 hhi
  clear h
  go_enter Tryz.func123, Tryz.ntmps123
  by_cases hz : 0 < fuse
  · have HD : Hid (burnD ⟨room, fuse, down⟩ = ⟨room, fuse - 1, down || decide (fuse - 1 = 0)⟩) := by show _ = _; simp [burnD, hz]
    have HR2 : Hid (∀ b, ProgRow ((w.setCell ⟨fb, 6, none⟩ (.int .i64 (fuse - 1))).setCell ⟨fb, 7, none⟩ (.bool b)) fb ⟨room, fuse - 1, b⟩ lk nb sb sv) := fun b => (HR.out.setFuse (fuse - 1)).setDown b
    have HT2 : Hid (∀ b, Turns (fun k => k = fb) w ((w.setCell ⟨fb, 6, none⟩ (.int .i64 (fuse - 1))).setCell ⟨fb, 7, none⟩ (.bool b))) := fun b => ((Turns.refl (fun k => k = fb) w).setCell ⟨fb, 6, none⟩ _ (Or.inl rfl)).setCell ⟨fb, 7, none⟩ _ (Or.inl rfl)
    cases down
    · go_wp2
      go_ret
      exact ⟨by rw [HD.out]; rfl, by rw [HD.out]; exact HR2.out _, HT2.out _⟩
    · have HD2 : Hid (burnD ⟨room, fuse, true⟩ = ⟨room, fuse - 1, true⟩) := by show _ = _; rw [HD.out]; rfl
      go_wp2
      go_ret
      exact ⟨by rw [HD2.out]; rfl, by rw [HD2.out]; exact HR2.out true, HT2.out true⟩
  · have HD : Hid (burnD ⟨room, fuse, down⟩ = ⟨room, fuse, down⟩) := by show _ = _; simp [burnD, hz]
    go_wp2
    go_ret
    exact ⟨by rw [HD.out]; rfl, by rw [HD.out]; exact HR.out, Turns.refl _ _⟩
end Go.Proofs.YthhbpebihgjpjaaGreatDoor

namespace Go.Proofs.YthhbpebihgjpjaaGreatDoor
open Go.RowKit Go.MuLone
set_option maxRecDepth 1000000

abbrev muLink : Go.Conc.Locks.MuLink := { lock := 58, unlock := 59, ilock := 94, iunlock := 95, lockSlow := 158, unlockSlow := 161, disable := 154, enable := 156, acquire := 157, relMerge := 159, cas32 := 155, add32 := 160, tMutex := 92, tIMutex := 90, tPMutex := 169, tPIMutex := 249, tPI32 := 251, tUP := 180, tNoCopy := 87, tU32 := 88 }
theorem muLib : Go.Conc.Locks.MuLib Tryz.prog muLink :=
  ⟨Tryz.func58, Tryz.func59, Tryz.func94, Tryz.func95, Tryz.func154, Tryz.func156, Tryz.func157, Tryz.func159, Tryz.func155, Tryz.func160, Tryz.underlying90, Tryz.runUnderlying90, Tryz.sizeOf90, Tryz.isAgg90, Tryz.zeroValue90, Tryz.underlying92, Tryz.runUnderlying92, Tryz.sizeOf92, Tryz.isAgg92, Tryz.zeroValue92, Tryz.underlying169, Tryz.runUnderlying169, Tryz.sizeOf169, Tryz.isAgg169, Tryz.zeroValue169, Tryz.underlying249, Tryz.runUnderlying249, Tryz.sizeOf249, Tryz.isAgg249, Tryz.zeroValue249, Tryz.underlying251, Tryz.runUnderlying251, Tryz.sizeOf251, Tryz.isAgg251, Tryz.zeroValue251, Tryz.underlying180, Tryz.runUnderlying180, Tryz.sizeOf180, Tryz.isAgg180, Tryz.zeroValue180, Tryz.underlying87, Tryz.runUnderlying87, Tryz.sizeOf87, Tryz.isAgg87, Tryz.zeroValue87, Tryz.underlying21, Tryz.runUnderlying21, Tryz.sizeOf21, Tryz.isAgg21, Tryz.zeroValue21, (by kernel_rfl)⟩

theorem ProgRow.setLock {w : World} {fb : Nat} {d : ProgD} {lk : Int} {nb sb : Nat} {sv : Value} (h : ProgRow w fb d lk nb sb sv) (x : Int) : ProgRow (w.setCell ⟨fb, 0, none⟩ (.int .i32 x)) fb d x nb sb sv := by
  unfold ProgRow; rw [heap_setCell_same _ _ _ _ _ _ h]; rfl



set_option maxHeartbeats 2000000 in
theorem progRoom_any (n : Int) (d : ProgD) (fb : Nat) (nb sb : Nat) (sv : Value) (w : World) (h : ProgRow w fb d 0 nb sb sv) :
    Calls Tryz.prog 41 #[.pointer (some ⟨fb, 0, none⟩), .int .i64 n] w fun e w' => e = .returned (.tuple #[]) ∧ ProgRow w' fb { d with room := min (max n 0) 65536 } 0 nb sb sv ∧ Turns (fun k => k = fb) w w' := by
  have HR1 : Hid (ProgRow (w.setCell ⟨fb, 0, none⟩ (.int .i32 1)) fb d 1 nb sb sv) := h.setLock 1
  have HT1 : Hid (Turns (fun k => k = fb) w (w.setCell ⟨fb, 0, none⟩ (.int .i32 1))) := (Turns.refl _ w).setCell ⟨fb, 0, none⟩ _ (Or.inl rfl)
  have h0 : w.cell? ⟨fb, 0, none⟩ = some (.int .i32 0) := by rw [cell_of_row _ _ _ _ _ _ h]; rfl
  have f0 : w.frozen? ⟨fb, 0, none⟩ = false := frozen_of_row _ _ _ _ _ h
  clear h
  go_enter_defers Tryz.func41, Tryz.ntmps41
  go_wp2_with (go_at_call 58; refine (lock_free muLib ⟨fb, 0, none⟩ _ h0 f0).mono ?_; rintro e w1 ⟨rfl, rfl⟩; refine Hid.out ?_)
  clear h0 f0
  generalize w.setCell ⟨fb, 0, none⟩ (.int .i32 1) = w1 at *
  have c2 : w1.cell? ⟨fb, 2, none⟩ = some (.int .i64 d.room) := by rw [cell_of_row _ _ _ _ _ _ HR1.out]; rfl
  have f2 : w1.frozen? ⟨fb, 2, none⟩ = false := frozen_of_row _ _ _ _ _ HR1.out
  unfold Hid
  go_wp2_with (go_at_call 48; refine (within_any n _).mono ?_; rintro e w2 ⟨rfl, rfl⟩)
  have HR2 : Hid (ProgRow (w2.setCell ⟨fb, 2, none⟩ (.int .i64 (min (max n 0) 65536))) fb { d with room := min (max n 0) 65536 } 1 nb sb sv) := HR1.out.setRoom _
  have HT2 : Hid (Turns (fun k => k = fb) w (w2.setCell ⟨fb, 2, none⟩ (.int .i64 (min (max n 0) 65536)))) := HT1.out.setCell ⟨fb, 2, none⟩ _ (Or.inl rfl)
  clear HR1 HT1 c2 f2
  generalize w2.setCell ⟨fb, 2, none⟩ (.int .i64 (min (max n 0) 65536)) = w3 at *
  refine leaves_cons (f := 59) (args := #[.pointer (some ⟨fb, 0, none⟩)]) (by simp) (by simp [go_sem]) ?_; refine (unlock_deferred muLib ⟨fb, 0, none⟩ .returning _ ?_ ?_).mono ?_; (rw [cell_of_row _ _ _ _ _ _ HR2.out]; rfl); (exact frozen_of_row _ _ _ _ _ HR2.out); rintro e u' w'' ⟨rfl, rfl, rfl⟩
  exact ⟨_, results_none rfl _ _ _, rfl, HR2.out.setLock 0, HT2.out.setCell ⟨fb, 0, none⟩ _ (Or.inl rfl)⟩

set_option maxHeartbeats 2000000 in
theorem progFuse_any (n : Int) (d : ProgD) (fb : Nat) (nb sb : Nat) (sv : Value) (w : World) (h : ProgRow w fb d 0 nb sb sv) :
    Calls Tryz.prog 52 #[.pointer (some ⟨fb, 0, none⟩), .int .i64 n] w fun e w' => e = .returned (.tuple #[]) ∧ ProgRow w' fb { d with fuse := max n 0 } 0 nb sb sv ∧ Turns (fun k => k = fb) w w' := by
  have HR1 : Hid (ProgRow (w.setCell ⟨fb, 0, none⟩ (.int .i32 1)) fb d 1 nb sb sv) := h.setLock 1
  have HT1 : Hid (Turns (fun k => k = fb) w (w.setCell ⟨fb, 0, none⟩ (.int .i32 1))) := (Turns.refl _ w).setCell ⟨fb, 0, none⟩ _ (Or.inl rfl)
  have h0 : w.cell? ⟨fb, 0, none⟩ = some (.int .i32 0) := by rw [cell_of_row _ _ _ _ _ _ h]; rfl
  have f0 : w.frozen? ⟨fb, 0, none⟩ = false := frozen_of_row _ _ _ _ _ h
  clear h
  go_enter_defers Tryz.func52, Tryz.ntmps52
  go_wp2_with (go_at_call 58; refine (lock_free muLib ⟨fb, 0, none⟩ _ h0 f0).mono ?_; rintro e w1 ⟨rfl, rfl⟩; refine Hid.out ?_)
  clear h0 f0
  generalize w.setCell ⟨fb, 0, none⟩ (.int .i32 1) = w2 at *
  have c6 : w2.cell? ⟨fb, 6, none⟩ = some (.int .i64 d.fuse) := by rw [cell_of_row _ _ _ _ _ _ HR1.out]; rfl
  have f6 : w2.frozen? ⟨fb, 6, none⟩ = false := frozen_of_row _ _ _ _ _ HR1.out
  have HR2 : Hid (∀ x, ProgRow (w2.setCell ⟨fb, 6, none⟩ (.int .i64 x)) fb { d with fuse := x } 1 nb sb sv) := fun x => HR1.out.setFuse x
  have HT2 : Hid (∀ x, Turns (fun k => k = fb) w (w2.setCell ⟨fb, 6, none⟩ (.int .i64 x))) := fun x => HT1.out.setCell ⟨fb, 6, none⟩ _ (Or.inl rfl)
  unfold Hid
  by_cases hn : n < 0
  · have HE : Hid (max n 0 = 0) := by show _ = _; omega
    go_wp2
    have HR2 := HR2.out 0
    have HT2 := HT2.out 0
    clear HR1 HT1 c6 f6
    generalize w2.setCell ⟨fb, 6, none⟩ (.int .i64 0) = w3 at *
    have HR2 : Hid (ProgRow w3 fb { d with fuse := 0 } 1 nb sb sv) := HR2
    refine leaves_cons (f := 59) (args := #[.pointer (some ⟨fb, 0, none⟩)]) (by simp) (by simp [go_sem]) ?_; refine (unlock_deferred muLib ⟨fb, 0, none⟩ .returning _ ?_ ?_).mono ?_; (rw [cell_of_row _ _ _ _ _ _ HR2.out]; rfl); (exact frozen_of_row _ _ _ _ _ HR2.out); rintro e u' w'' ⟨rfl, rfl, rfl⟩
    exact ⟨_, results_none rfl _ _ _, rfl, by rw [HE.out]; exact HR2.out.setLock 0, Turns.setCell HT2 ⟨fb, 0, none⟩ _ (Or.inl rfl)⟩
  · have HE : Hid (max n 0 = n) := by show _ = _; omega
    have h2 : 0 ≤ n := by omega
    go_wp2
    have HR2 := HR2.out n
    have HT2 := HT2.out n
    clear HR1 HT1 c6 f6
    generalize w2.setCell ⟨fb, 6, none⟩ (.int .i64 n) = w3 at *
    have HR2 : Hid (ProgRow w3 fb { d with fuse := n } 1 nb sb sv) := HR2
    refine leaves_cons (f := 59) (args := #[.pointer (some ⟨fb, 0, none⟩)]) (by simp) (by simp [go_sem]) ?_; refine (unlock_deferred muLib ⟨fb, 0, none⟩ .returning _ ?_ ?_).mono ?_; (rw [cell_of_row _ _ _ _ _ _ HR2.out]; rfl); (exact frozen_of_row _ _ _ _ _ HR2.out); rintro e u' w'' ⟨rfl, rfl, rfl⟩
    exact ⟨_, results_none rfl _ _ _, rfl, by rw [HE.out]; exact HR2.out.setLock 0, Turns.setCell HT2 ⟨fb, 0, none⟩ _ (Or.inl rfl)⟩
end Go.Proofs.YthhbpebihgjpjaaGreatDoor
