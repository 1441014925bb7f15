import Derived.Test.YthhbpebihgjpjaaGreatDoorChecked
import Derived.WalkKit
import Derived.Outline
import Derived.WalkLawsBesides
import Derived.BigQuiet
import Derived.Deep.QuietTactic
import Derived.Test.YthhbpebihgjpjaaGreatDoorShelf
import Derived.Lib.TrimByte
import Derived.BigRegion
namespace Go.Proofs.YthhbpebihgjpjaaGreatDoor
open Go.RowKit
set_option maxRecDepth 1000000

/-- A byte of a word; of a name. -/
def wordByte (c : Nat) : Bool := decide ((97 ≤ c ∧ c ≤ 122) ∨ (65 ≤ c ∧ c ≤ 90) ∨ (48 ≤ c ∧ c ≤ 57) ∨ c = 95 ∨ c = 45)
def nameByte (c : Nat) : Bool := wordByte c || decide (c = 46 ∨ c = 47)
def byteOf (t : ByteArray) (i : Nat) : Nat := (t.data[i]?.getD 0).toNat
theorem byteOf_lt (t : ByteArray) (i : Nat) : byteOf t i < 256 := UInt8.toNat_lt _
/-- A name (P4). -/
def named (t : ByteArray) : Bool := decide (1 ≤ t.size ∧ t.size ≤ 32 ∧ ∀ i, i < t.size → nameByte (byteOf t i) = true)

theorem wordByte_any (c : Nat) (hc : c < 256) (w : World) :
    Calls Tryz.prog 203 #[.int .u8 c] w fun e w' => e = .returned (.bool (wordByte c)) ∧ w' = w := by
  have c1 : (c : Int) < 256 := by omega
  go_enter Tryz.func203, Tryz.ntmps203
  go_wp2
  all_goals go_ret
  all_goals refine ⟨?_, rfl⟩
  all_goals simp only [beq_iff_eq, beq_eq_false_iff_ne, ne_eq] at *
  all_goals first
    | (have hx : wordByte c = true := by simp only [wordByte, decide_eq_true_eq]; omega
       rw [hx]; rfl)
    | (have hx : wordByte c = false := by simp only [wordByte, decide_eq_false_iff_not]; omega
       rw [hx]; rfl)

theorem nameByte_any (c : Nat) (hc : c < 256) (w : World) :
    Calls Tryz.prog 122 #[.int .u8 c] w fun e w' => e = .returned (.bool (nameByte c)) ∧ w' = w := by
  have c1 : (c : Int) < 256 := by omega
  go_enter Tryz.func122, Tryz.ntmps122
  go_wp2_with fail
  refine (wordByte_any c hc w).mono ?_
  rintro e w' ⟨rfl, rfl⟩
  have hn : nameByte c = (wordByte c || decide (c = 46 ∨ c = 47)) := rfl
  generalize wordByte c = b at *
  cases b
  · go_wp2
    · rename_i h46
      go_ret
      refine ⟨?_, rfl⟩
      rw [hn, show decide (c = 46 ∨ c = 47) = true by simp; omega]; rfl
    · go_ret
      refine ⟨?_, rfl⟩
      have hx : ((c : Int) == 46 || (c : Int) == 47) = decide (c = 46 ∨ c = 47) := by rw [Bool.eq_iff_iff]; simp; omega
      rw [hn, ← hx]; rfl
  · go_wp2
    go_ret
    exact ⟨by rw [hn]; rfl, rfl⟩

theorem named_short (t : ByteArray) (h : ¬ (1 ≤ t.size ∧ t.size ≤ 32)) : named t = false := by
  unfold named; simp only [decide_eq_false_iff_not]; intro hh; exact h ⟨hh.1, hh.2.1⟩
theorem named_bad (t : ByteArray) (i : Nat) (hi : i < t.size) (h : nameByte (byteOf t i) = false) : named t = false := by
  unfold named; simp only [decide_eq_false_iff_not]; intro hh; rw [hh.2.2 i hi] at h; cases h
theorem named_good (t : ByteArray) (h1 : 1 ≤ t.size) (h2 : t.size ≤ 32) (h : ∀ i, i < t.size → nameByte (byteOf t i) = true) : named t = true := by
  unfold named; simp only [decide_eq_true_eq]; exact ⟨h1, h2, h⟩
theorem byteOf_at (t : ByteArray) (i : Nat) (hi : i < t.size) : t.data[i]? = some (UInt8.ofNat (byteOf t i)) := by
  unfold byteOf
  rw [Array.getElem?_eq_getElem hi]; simp

theorem run_index_text (t : ByteArray) (j : Nat) (h : j < t.size) (wx : World) : (Instr.index 9 (.string t) (.int .i64 j)).run Tryz.prog wx = .ok (.int .u8 (byteOf t j)) wx := by
  have e : t[j]? = some t[j] := getElem?_pos t j h
  have e2 : (t.data[j]?.getD 0) = t[j] := by
    rw [Array.getElem?_eq_getElem h]; rfl
  simp [Instr.index, go_sem, byteOf, e, e2]

set_option maxHeartbeats 2000000 in
theorem isName_any (t : ByteArray) (w : World) :
    Calls Tryz.prog 73 #[.string t] w fun e w' => e = .returned (.bool (named t)) ∧ w' = w := by
  go_enter Tryz.func73, Tryz.ntmps73
  by_cases hs : 1 ≤ t.size ∧ t.size ≤ 32
  · obtain ⟨h1, h2⟩ := hs
    have z1 : ¬ (t.size : Int) < 1 := by omega
    have z2 : ¬ (32 : Int) < (t.size : Int) := by omega
    have z3 : (t.size : Int) ≤ 32 := by omega
    go_wp2
    go_loop [14] (fun c => ∃ j : Nat, j ≤ t.size ∧ c = .int .i64 j ∧ Hid (∀ i, i < j → nameByte (byteOf t i) = true)) (fun c => t.size - (intOf c).toNat)
    case atStart => exact ⟨0, by omega, rfl, fun i hi => by omega⟩
    case round =>
      obtain ⟨j, hj, rfl, HG⟩ := hrel
      by_cases hlt : j < t.size
      · have i0 : (0 : Int) ≤ (j : Int) := by omega
        have i1 : (j : Int) < (t.size : Int) := by omega
        have hb := byteOf_lt t j
        have hidx : ∀ wx, (Instr.index 9 (.string t) (.int .i64 j)).run Tryz.prog wx = .ok (.int .u8 (byteOf t j)) wx := by
          intro wx
          exact run_index_text t j hlt wx
        obtain ⟨x, hx⟩ : ∃ x, x = byteOf t j := ⟨_, rfl⟩
        rw [← hx] at hidx hb
        have HX : Hid (x = byteOf t j) := hx
        clear hx
        go_wp2_with fail
        refine (nameByte_any x hb _).mono ?_
        rintro e w' ⟨rfl, rfl⟩
        by_cases hgood : nameByte x = true
        · rw [hgood]
          have HG2 : Hid (∀ i, i < j + 1 → nameByte (byteOf t i) = true) := fun i hi => by
            by_cases e : i = j
            · subst e; rw [← HX.out]; exact hgood
            · exact HG.out i (by omega)
          go_wp2
          go_round
          case rel => exact ⟨j + 1, by omega, by go_num, HG2⟩
          case measure => simp [intOf]; omega
        · have hbad : nameByte x = false := by simpa using hgood
          rw [hbad]
          have HN : Hid (named t = false) := named_bad t j hlt (by rw [← HX.out]; exact hbad)
          go_wp2
          go_ret
          exact ⟨by rw [HN.out]; rfl, rfl⟩
      · have hjs : j = t.size := by omega
        subst hjs
        have HN : Hid (named t = true) := named_good t h1 h2 HG.out
        go_wp2
        go_ret
        exact ⟨by rw [HN.out]; rfl, rfl⟩
  · have hn := named_short t hs
    rw [hn]
    by_cases h1 : t.size < 1
    · have z1 : (t.size : Int) < 1 := by omega
      go_wp2
      go_ret
      exact ⟨rfl, rfl⟩
    · have z1 : ¬ (t.size : Int) < 1 := by omega
      have z2 : (32 : Int) < (t.size : Int) := by omega
      go_wp2
      go_ret
      exact ⟨rfl, rfl⟩
end Go.Proofs.YthhbpebihgjpjaaGreatDoor

namespace Go.Proofs.YthhbpebihgjpjaaGreatDoor
open Go.RowKit Go.Shelf
set_option maxRecDepth 1000000

/-- How many bytes a text begins with that are p. -/
def spanL (p : Nat → Bool) : List UInt8 → Nat
  | [] => 0
  | c :: r => if p c.toNat then spanL p r + 1 else 0
def spanLen (p : Nat → Bool) (t : ByteArray) : Nat := spanL p t.data.toList
theorem spanL_le (p : Nat → Bool) : ∀ l, spanL p l ≤ l.length
  | [] => Nat.le_refl _
  | c :: r => by
    rw [spanL]
    split
    · have := spanL_le p r; simp; omega
    · omega
theorem spanLen_le (p : Nat → Bool) (t : ByteArray) : spanLen p t ≤ t.size := spanL_le p t.data.toList
theorem spanL_eq (p : Nat → Bool) : ∀ (l : List UInt8) (n : Nat), n ≤ l.length → (∀ i c, i < n → l[i]? = some c → p c.toNat = true) → (∀ c, l[n]? = some c → p c.toNat = false) → spanL p l = n
  | [], n, h, _, _ => by
    obtain rfl : n = 0 := by simpa using h
    rfl
  | c :: r, 0, _, _, h2 => by
    rw [spanL, h2 c rfl]; rfl
  | c :: r, n + 1, h, h1, h2 => by
    rw [spanL, h1 0 c (by omega) rfl, if_pos rfl, spanL_eq p r n (by simpa using h) (fun i d hi hd => h1 (i + 1) d (by omega) (by simpa using hd)) (fun d hd => h2 d (by simpa using hd))]
theorem byteOf_get {t : ByteArray} {i : Nat} {c : UInt8} (h : t.data.toList[i]? = some c) : byteOf t i = c.toNat := by
  unfold byteOf
  rw [Array.getElem?_toList] at h
  rw [h]; rfl
theorem spanLen_eq (p : Nat → Bool) (t : ByteArray) (n : Nat) (hn : n ≤ t.size) (h1 : ∀ i, i < n → p (byteOf t i) = true) (h2 : n < t.size → p (byteOf t n) = false) : spanLen p t = n := by
  refine spanL_eq p _ n hn (fun i c hi hc => ?_) (fun c hc => ?_)
  · rw [← byteOf_get hc]; exact h1 i hi
  · rw [← byteOf_get hc]
    refine h2 ?_
    have := (List.getElem?_eq_some_iff.1 hc).1
    simpa using this
theorem spanL_drop (p : Nat → Bool) : ∀ l : List UInt8, l.drop (spanL p l) = l.dropWhile fun c => p c.toNat
  | [] => rfl
  | c :: r => by
    rw [spanL]
    by_cases h : p c.toNat = true
    · rw [if_pos h, List.drop_succ_cons, spanL_drop p r, List.dropWhile_cons, if_pos h]
    · rw [if_neg h, List.dropWhile_cons, if_neg h]; rfl
theorem extract_list (t : ByteArray) (a : Nat) : (t.extract a t.size).data.toList = t.data.toList.drop a := by
  rw [ByteArray.data_extract, Array.toList_extract]
  show (t.data.toList.drop a).take (t.data.size - a) = _
  exact List.take_of_length_le (by simp)

def isBl (c : Nat) : Bool := c == 32
/-- How many blanks a text begins with; it without them; its first word, and what stands behind it. -/
def blankLen (t : ByteArray) : Nat := spanLen isBl t
def leftB (t : ByteArray) : ByteArray := t.extract (blankLen t) t.size
def wordLenB (t : ByteArray) : Nat := spanLen wordByte t
def headB (t : ByteArray) : ByteArray := t.extract 0 (wordLenB t)
def tailB (t : ByteArray) : ByteArray := t.extract (wordLenB t) t.size
theorem leftB_size (t : ByteArray) : (leftB t).size = t.size - blankLen t := by unfold leftB; rw [ByteArray.size_extract]; omega
theorem leftB_le (t : ByteArray) : (leftB t).size ≤ t.size := by rw [leftB_size]; omega
theorem headB_size (t : ByteArray) : (headB t).size = wordLenB t := by
  unfold headB; rw [ByteArray.size_extract]; have := spanLen_le wordByte t; unfold wordLenB; omega
theorem tailB_size (t : ByteArray) : (tailB t).size = t.size - wordLenB t := by unfold tailB; rw [ByteArray.size_extract]; omega
theorem leftB_trim (t : ByteArray) : leftB t = ⟨(Lib.trimLeftB t.data.toList 32).toArray⟩ := by
  have h : (leftB t).data.toList = Lib.trimLeftB t.data.toList 32 := by
    unfold leftB blankLen spanLen
    rw [extract_list, spanL_drop]
    unfold Lib.trimLeftB
    congr 1
    funext c
    unfold isBl
    rw [Bool.eq_iff_iff]
    simp only [beq_iff_eq]
    exact ⟨fun e => UInt8.toNat_inj.1 e, fun e => by rw [e]; rfl⟩
  apply ByteArray.ext
  apply Array.toList_inj.1
  rw [h]

theorem slice_head (t : ByteArray) (n : Nat) (h : n ≤ t.size) (wx : World) : (Instr.slice 9 (.string t) none (some (.int .i64 n)) none).run Tryz.prog wx = .ok (.string (t.extract 0 n)) wx := by
  have h1 : (n : Int) ≤ (t.size : Int) := by omega
  simp [Instr.slice, run_underlying Tryz.underlying9, go_sem, h]
theorem slice_from (t : ByteArray) (n : Nat) (h : n ≤ t.size) (wx : World) : (Instr.slice 9 (.string t) (some (.int .i64 n)) none none).run Tryz.prog wx = .ok (.string (t.extract n t.size)) wx := by
  have h1 : (n : Int) ≤ (t.size : Int) := by omega
  simp [Instr.slice, run_underlying Tryz.underlying9, go_sem, h]

/-- The program's: without blanks. -/
theorem withoutBlanks_any (t : ByteArray) (w : World) :
    Calls Tryz.prog 191 #[.string t] w fun e w' => e = .returned (.string (leftB t)) ∧ w' = w := by
  have hC := Any.strings_TrimLeft_one Tryz.lays161 t 32 (by decide) w
  rw [← leftB_trim] at hC
  have HC : Hid (Calls Tryz.prog 261 #[.string t, .string ⟨#[32]⟩] w fun e w' => e = .returned (.string (leftB t)) ∧ w' = w) := hC
  clear hC
  go_enter Tryz.func191, Tryz.ntmps191
  go_wp2_with fail
  refine HC.out.mono ?_
  rintro e w' ⟨rfl, rfl⟩
  go_wp2
  go_ret
  exact ⟨rfl, rfl⟩

set_option maxHeartbeats 2000000 in
/-- .. cut behind its first word. -/
theorem cutWord_any (t : ByteArray) (ht : t.size ≤ 1099511627776) (w : World) :
    Calls Tryz.prog 194 #[.string t] w fun e w' => e = .returned (.tuple #[.string (headB t), .string (tailB t)]) ∧ ∃ n, w' = w.drewN n := by
  have t0 : (t.size : Int) ≤ 1099511627776 := by omega
  go_enter Tryz.func194, Tryz.ntmps194
  go_wp2_with fail
  go_loop [4] (fun i => ∃ j : Nat, i = .int .i64 j ∧ j ≤ t.size ∧ (∀ k, k < j → wordByte (byteOf t k) = true)) (fun i => t.size - (intOf i).toNat)
  case atStart => exact ⟨0, rfl, Nat.zero_le _, fun k hk => by omega⟩
  case round =>
    obtain ⟨j, rfl, hle, hag⟩ := hrel
    have HAG : Hid (∀ k, k < j → wordByte (byteOf t k) = true) := hag
    clear hag
    have j0 : (0 : Int) ≤ (j : Int) := by omega
    by_cases hlt : j < t.size
    · have j1 : (j : Int) < (t.size : Int) := by omega
      have hidx : ∀ wx, (Instr.index 9 (.string t) (.int .i64 j)).run Tryz.prog wx = .ok (.int .u8 (byteOf t j)) wx := fun wx => run_index_text t j hlt wx
      obtain ⟨x, hx⟩ : ∃ x, x = byteOf t j := ⟨_, rfl⟩
      have HX : Hid (x = byteOf t j) := hx
      have hb : x < 256 := by rw [hx]; exact byteOf_lt t j
      rw [← hx] at hidx
      clear hx
      go_wp2_with fail
      refine (wordByte_any x hb _).mono ?_
      rintro e w' ⟨rfl, rfl⟩
      cases hw : wordByte x with
      | true =>
        have HR : Hid (∀ k, k < j + 1 → wordByte (byteOf t k) = true) := fun k hk => by
          rcases Nat.lt_or_ge k j with c | c
          · exact HAG.out k c
          · obtain rfl : k = j := by omega
            rw [← HX.out]; exact hw
        go_wp2_with fail
        exact ⟨⟨j + 1, by go_num, hlt, HR.out⟩, by simp [intOf]; omega⟩
      | false =>
        have HW : Hid (wordLenB t = j) := spanLen_eq _ _ _ hle HAG.out (fun _ => by rw [← HX.out]; exact hw)
        have hs1 : ∀ wx, (Instr.slice 9 (.string t) none (some (.int .i64 j)) none).run Tryz.prog wx = .ok (.string (headB t)) wx := fun wx => by rw [slice_head t j hle wx, headB, HW.out]
        have hs2 : ∀ wx, (Instr.slice 9 (.string t) (some (.int .i64 j)) none none).run Tryz.prog wx = .ok (.string (tailB t)) wx := fun wx => by rw [slice_from t j hle wx, tailB, HW.out]
        generalize hHd : headB t = hd at *
        generalize hTl : tailB t = tl at *
        have HHd : Hid (headB t = hd) := hHd
        have HTl : Hid (tailB t = tl) := hTl
        clear hHd hTl
        go_wp2_with fail
        go_region
        all_goals
          go_wp2
          go_ret2
          exact ⟨by rw [HHd.out, HTl.out]; rfl, 1, rfl⟩
    · obtain rfl : j = t.size := by omega
      have HW : Hid (wordLenB t = t.size) := spanLen_eq _ _ _ hle HAG.out (fun h => absurd h (Nat.lt_irrefl _))
      have hs1 : ∀ wx, (Instr.slice 9 (.string t) none (some (.int .i64 t.size)) none).run Tryz.prog wx = .ok (.string (headB t)) wx := fun wx => by rw [slice_head t t.size (Nat.le_refl _) wx, headB, HW.out]
      have hs2 : ∀ wx, (Instr.slice 9 (.string t) (some (.int .i64 t.size)) none none).run Tryz.prog wx = .ok (.string (tailB t)) wx := fun wx => by rw [slice_from t t.size (Nat.le_refl _) wx, tailB, HW.out]
      generalize hHd : headB t = hd at *
      generalize hTl : tailB t = tl at *
      have HHd : Hid (headB t = hd) := hHd
      have HTl : Hid (tailB t = tl) := hTl
      clear hHd hTl
      go_wp2_with fail
      go_region
      all_goals
        go_wp2
        go_ret2
        exact ⟨by rw [HHd.out, HTl.out]; rfl, 1, rfl⟩
end Go.Proofs.YthhbpebihgjpjaaGreatDoor
