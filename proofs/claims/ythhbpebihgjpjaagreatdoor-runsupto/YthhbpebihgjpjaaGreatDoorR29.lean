import Derived.Test.YthhbpebihgjpjaaGreatDoorChecked
import Derived.WalkKit
import Derived.Outline
import Derived.WalkLawsBesides
import Derived.BigQuiet
import Derived.Deep.QuietTactic
namespace Go.Proofs.YthhbpebihgjpjaaGreatDoor
open Go.RowKit
set_option maxRecDepth 1000000

/-- A byte of a word; of a name. -/
def wordByte (c : Nat) : Bool := decide ((97 ≤ c ∧ c ≤ 122) ∨ (65 ≤ c ∧ c ≤ 90) ∨ (48 ≤ c ∧ c ≤ 57) ∨ c = 95 ∨ c = 45)
def nameByte (c : Nat) : Bool := wordByte c || decide (c = 46 ∨ c = 47)
def byteOf (t : ByteArray) (i : Nat) : Nat := (t.data[i]?.getD 0).toNat
theorem byteOf_lt (t : ByteArray) (i : Nat) : byteOf t i < 256 := UInt8.toNat_lt _
/-- A name (P4). -/
def named (t : ByteArray) : Bool := decide (1 ≤ t.size ∧ t.size ≤ 32 ∧ ∀ i, i < t.size → nameByte (byteOf t i) = true)

theorem wordByte_any (c : Nat) (hc : c < 256) (w : World) :
    Calls Tryz.prog 203 #[.int .u8 c] w fun e w' => e = .returned (.bool (wordByte c)) ∧ w' = w := by
  have c1 : (c : Int) < 256 := by omega
  go_enter Tryz.func203, Tryz.ntmps203
  go_wp2
  all_goals go_ret
  all_goals refine ⟨?_, rfl⟩
  all_goals simp only [beq_iff_eq, beq_eq_false_iff_ne, ne_eq] at *
  all_goals first
    | (have hx : wordByte c = true := by simp only [wordByte, decide_eq_true_eq]; omega
       rw [hx]; rfl)
    | (have hx : wordByte c = false := by simp only [wordByte, decide_eq_false_iff_not]; omega
       rw [hx]; rfl)

theorem nameByte_any (c : Nat) (hc : c < 256) (w : World) :
    Calls Tryz.prog 122 #[.int .u8 c] w fun e w' => e = .returned (.bool (nameByte c)) ∧ w' = w := by
  have c1 : (c : Int) < 256 := by omega
  go_enter Tryz.func122, Tryz.ntmps122
  go_wp2_with fail
  refine (wordByte_any c hc w).mono ?_
  rintro e w' ⟨rfl, rfl⟩
  have hn : nameByte c = (wordByte c || decide (c = 46 ∨ c = 47)) := rfl
  generalize wordByte c = b at *
  cases b
  · go_wp2
    · rename_i h46
      go_ret
      refine ⟨?_, rfl⟩
      rw [hn, show decide (c = 46 ∨ c = 47) = true by simp; omega]; rfl
    · go_ret
      refine ⟨?_, rfl⟩
      have hx : ((c : Int) == 46 || (c : Int) == 47) = decide (c = 46 ∨ c = 47) := by rw [Bool.eq_iff_iff]; simp; omega
      rw [hn, ← hx]; rfl
  · go_wp2
    go_ret
    exact ⟨by rw [hn]; rfl, rfl⟩

theorem named_short (t : ByteArray) (h : ¬ (1 ≤ t.size ∧ t.size ≤ 32)) : named t = false := by
  unfold named; simp only [decide_eq_false_iff_not]; intro hh; exact h ⟨hh.1, hh.2.1⟩
theorem named_bad (t : ByteArray) (i : Nat) (hi : i < t.size) (h : nameByte (byteOf t i) = false) : named t = false := by
  unfold named; simp only [decide_eq_false_iff_not]; intro hh; rw [hh.2.2 i hi] at h; cases h
theorem named_good (t : ByteArray) (h1 : 1 ≤ t.size) (h2 : t.size ≤ 32) (h : ∀ i, i < t.size → nameByte (byteOf t i) = true) : named t = true := by
  unfold named; simp only [decide_eq_true_eq]; exact ⟨h1, h2, h⟩
theorem byteOf_at (t : ByteArray) (i : Nat) (hi : i < t.size) : t.data[i]? = some (UInt8.ofNat (byteOf t i)) := by
  unfold byteOf
  rw [Array.getElem?_eq_getElem hi]; simp

theorem run_index_text (t : ByteArray) (j : Nat) (h : j < t.size) (wx : World) : (Instr.index 9 (.string t) (.int .i64 j)).run Tryz.prog wx = .ok (.int .u8 (byteOf t j)) wx := by
  have e : t[j]? = some t[j] := getElem?_pos t j h
  have e2 : (t.data[j]?.getD 0) = t[j] := by
    rw [Array.getElem?_eq_getElem h]; rfl
  simp [Instr.index, go_sem, byteOf, e, e2]

set_option maxHeartbeats 2000000 in
theorem isName_any (t : ByteArray) (w : World) :
    Calls Tryz.prog 73 #[.string t] w fun e w' => e = .returned (.bool (named t)) ∧ w' = w := by
  go_enter Tryz.func73, Tryz.ntmps73
  by_cases hs : 1 ≤ t.size ∧ t.size ≤ 32
  · obtain ⟨h1, h2⟩ := hs
    have z1 : ¬ (t.size : Int) < 1 := by omega
    have z2 : ¬ (32 : Int) < (t.size : Int) := by omega
    have z3 : (t.size : Int) ≤ 32 := by omega
    go_wp2
    go_loop [14] (fun c => ∃ j : Nat, j ≤ t.size ∧ c = .int .i64 j ∧ Hid (∀ i, i < j → nameByte (byteOf t i) = true)) (fun c => t.size - (intOf c).toNat)
    case atStart => exact ⟨0, by omega, rfl, fun i hi => by omega⟩
    case round =>
      obtain ⟨j, hj, rfl, HG⟩ := hrel
      by_cases hlt : j < t.size
      · have i0 : (0 : Int) ≤ (j : Int) := by omega
        have i1 : (j : Int) < (t.size : Int) := by omega
        have hb := byteOf_lt t j
        have hidx : ∀ wx, (Instr.index 9 (.string t) (.int .i64 j)).run Tryz.prog wx = .ok (.int .u8 (byteOf t j)) wx := by
          intro wx
          exact run_index_text t j hlt wx
        obtain ⟨x, hx⟩ : ∃ x, x = byteOf t j := ⟨_, rfl⟩
        rw [← hx] at hidx hb
        have HX : Hid (x = byteOf t j) := hx
        clear hx
        go_wp2_with fail
        refine (nameByte_any x hb _).mono ?_
        rintro e w' ⟨rfl, rfl⟩
        by_cases hgood : nameByte x = true
        · rw [hgood]
          have HG2 : Hid (∀ i, i < j + 1 → nameByte (byteOf t i) = true) := fun i hi => by
            by_cases e : i = j
            · subst e; rw [← HX.out]; exact hgood
            · exact HG.out i (by omega)
          go_wp2
          go_round
          case rel => exact ⟨j + 1, by omega, by go_num, HG2⟩
          case measure => simp [intOf]; omega
        · have hbad : nameByte x = false := by simpa using hgood
          rw [hbad]
          have HN : Hid (named t = false) := named_bad t j hlt (by rw [← HX.out]; exact hbad)
          go_wp2
          go_ret
          exact ⟨by rw [HN.out]; rfl, rfl⟩
      · have hjs : j = t.size := by omega
        subst hjs
        have HN : Hid (named t = true) := named_good t h1 h2 HG.out
        go_wp2
        go_ret
        exact ⟨by rw [HN.out]; rfl, rfl⟩
  · have hn := named_short t hs
    rw [hn]
    by_cases h1 : t.size < 1
    · have z1 : (t.size : Int) < 1 := by omega
      go_wp2
      go_ret
      exact ⟨rfl, rfl⟩
    · have z1 : ¬ (t.size : Int) < 1 := by omega
      have z2 : (32 : Int) < (t.size : Int) := by omega
      go_wp2
      go_ret
      exact ⟨rfl, rfl⟩
end Go.Proofs.YthhbpebihgjpjaaGreatDoor
