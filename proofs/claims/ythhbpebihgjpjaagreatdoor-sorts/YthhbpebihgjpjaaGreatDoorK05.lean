import Derived.Test.YthhbpebihgjpjaaGreatDoorK04
import Derived.BigRegion
import Derived.Test.YthhbpebihgjpjaaGreatDoorShelf
namespace Go.Proofs.YthhbpebihgjpjaaGreatDoor
open Go.RowKit Go.Shelf
set_option maxRecDepth 1000000

theorem byteOf_extract (t : ByteArray) (a b k : Nat) (h : a + k < b) (hb : b ≤ t.size) : byteOf (t.extract a b) k = byteOf t (a + k) := by
  unfold byteOf
  rw [ByteArray.data_extract, Array.getElem?_extract, if_pos (by show k < min b t.data.size - a; have : t.data.size = t.size := rfl; omega)]
theorem extract_of (t : ByteArray) (a b c d : Nat) (h : a + d ≤ b) : (t.extract a b).extract c d = t.extract (a + c) (a + d) := by
  rw [ByteArray.extract_extract, Nat.min_eq_left h]
theorem below_drewN {B : Nat} {a w : World} (h : Below B a w) (n : Nat) : Below B a (w.drewN n) := ⟨h.os, h.tape, h.output, h.size, h.block⟩
theorem below_store3 (w : World) (o : Obj) (n : Nat) (x y z : Value) : Below w.heap.size w (((((w.alloc o).drewN n).setCell ⟨w.heap.size, 0, none⟩ x).setCell ⟨w.heap.size, 1, none⟩ y).setCell ⟨w.heap.size, 2, none⟩ z) :=
  (((below_drewN ((Below.refl _ _).alloc (Nat.le_refl _) _) n).setCell (p := ⟨w.heap.size, 0, none⟩) (Nat.le_refl _) x).setCell (p := ⟨w.heap.size, 1, none⟩) (Nat.le_refl _) y).setCell (p := ⟨w.heap.size, 2, none⟩) (Nat.le_refl _) z
/-- Does a text begin with that byte? -/
def begins (t : ByteArray) (c : Nat) : Bool := decide (0 < t.size ∧ byteOf t 0 = c)
theorem begins_prefix (t : ByteArray) (c : UInt8) : Lib.hasPrefix t.data.toList [c] = begins t c.toNat := by
  unfold Lib.hasPrefix begins byteOf
  rw [← Array.getElem?_toList]
  have hs : t.size = t.data.toList.length := by rw [Array.length_toList]; rfl
  rw [hs]
  cases t.data.toList with
  | nil => rfl
  | cons d l =>
    show (c == d && ([] : List UInt8).isPrefixOf l) = _
    rw [Bool.eq_iff_iff]
    simp
    exact ⟨fun e => by rw [e], fun e => (UInt8.toNat_inj.1 e).symm⟩
/-- What stands behind a `$`, and how many bytes it has. -/
def formU (u : ByteArray) : Option (Form × Nat) :=
  if u.size = 0 then none
  else if byteOf u 0 = 36 ∨ byteOf u 0 = 32 ∨ byteOf u 0 = 58 ∨ byteOf u 0 = 124 then some (.inl (u.extract 0 1), 1)
  else if byteOf u 0 = 123 then
    (if wordLenB (u.extract 1 u.size) = 0 ∨ begins (tailB (u.extract 1 u.size)) 125 = false then none else some (.inr (headB (u.extract 1 u.size)), wordLenB (u.extract 1 u.size) + 2))
  else if wordLenB u = 0 then none
  else some (.inr (headB u), wordLenB u)
theorem formAt_u (t : ByteArray) (i : Nat) (h : i < t.size) : formAt t i = (formU (t.extract (i + 1) t.size)).map fun p => (p.1, i + 1 + p.2) := by
  have hsz : (t.extract (i + 1) t.size).size = t.size - (i + 1) := by rw [ByteArray.size_extract]; omega
  unfold formAt formU
  rw [hsz]
  by_cases h0 : t.size ≤ i + 1
  · rw [if_pos h0, if_pos (show t.size - (i + 1) = 0 by omega)]; rfl
  · rw [if_neg h0, if_neg (show ¬ t.size - (i + 1) = 0 by omega)]
    have hb0 : byteOf (t.extract (i + 1) t.size) 0 = byteOf t (i + 1) := by rw [byteOf_extract _ _ _ _ (by omega) (Nat.le_refl _)]
    rw [hb0]
    by_cases h1 : byteOf t (i + 1) = 36 ∨ byteOf t (i + 1) = 32 ∨ byteOf t (i + 1) = 58 ∨ byteOf t (i + 1) = 124
    · rw [if_pos h1, if_pos h1, extract_of _ _ _ _ _ (by omega)]; rfl
    · rw [if_neg h1, if_neg h1]
      have hx1 : (t.extract (i + 1) t.size).extract 1 (t.size - (i + 1)) = t.extract (i + 2) t.size := by
        rw [extract_of _ _ _ _ _ (by omega), show i + 1 + (t.size - (i + 1)) = t.size by omega]
      by_cases h2 : byteOf t (i + 1) = 123
      · rw [if_pos h2, if_pos h2, hx1]
        have hl : wordLenB (t.extract (i + 2) t.size) ≤ (t.extract (i + 2) t.size).size := spanLen_le _ _
        have hsz2 : (t.extract (i + 2) t.size).size = t.size - (i + 2) := by rw [ByteArray.size_extract]; omega
        have htl : tailB (t.extract (i + 2) t.size) = t.extract (i + 2 + wordLenB (t.extract (i + 2) t.size)) t.size := by
          unfold tailB
          rw [hsz2, extract_of _ _ _ _ _ (by omega), show i + 2 + (t.size - (i + 2)) = t.size by omega]
        have hhd : headB (t.extract (i + 2) t.size) = t.extract (i + 2) (i + 2 + wordLenB (t.extract (i + 2) t.size)) := by
          unfold headB
          rw [extract_of _ _ _ _ _ (by omega), Nat.add_zero]
        rw [htl, hhd]
        generalize wordLenB (t.extract (i + 2) t.size) = N at *
        have hbg : begins (t.extract (i + 2 + N) t.size) 125 = false ↔ (t.size ≤ i + 2 + N ∨ byteOf t (i + 2 + N) ≠ 125) := by
          unfold begins
          rw [decide_eq_false_iff_not, ByteArray.size_extract]
          by_cases hq : t.size ≤ i + 2 + N
          · exact ⟨fun _ => Or.inl hq, fun _ hc => by omega⟩
          · rw [byteOf_extract _ _ _ _ (by omega) (Nat.le_refl _)]
            show ¬ (_ ∧ byteOf t (i + 2 + N) = 125) ↔ _
            omega
        by_cases h3 : N = 0 ∨ t.size ≤ i + 2 + N ∨ byteOf t (i + 2 + N) ≠ 125
        · rw [if_pos h3, if_pos (h3.imp id hbg.2)]; rfl
        · rw [if_neg h3, if_neg (fun c => h3 (c.imp id hbg.1))]
          show some (_, _) = some (_, i + 1 + (N + 2))
          rw [show i + 1 + (N + 2) = i + N + 3 by omega]
      · rw [if_neg h2, if_neg h2]
        have hl : wordLenB (t.extract (i + 1) t.size) ≤ (t.extract (i + 1) t.size).size := spanLen_le _ _
        have hhd : headB (t.extract (i + 1) t.size) = t.extract (i + 1) (i + 1 + wordLenB (t.extract (i + 1) t.size)) := by
          unfold headB
          rw [extract_of _ _ _ _ _ (by omega), Nat.add_zero]
        rw [hhd]
        generalize wordLenB (t.extract (i + 1) t.size) = N at *
        by_cases h3 : N = 0
        · rw [if_pos h3, if_pos h3]; rfl
        · rw [if_neg h3, if_neg h3]; rfl
/-- How the program says so. -/
def FormIs : Option (Form × Nat) → ByteArray → ByteArray → Int → Prop
  | none, _, _, _ => True
  | some (.inl b, n), lit, var, k => lit = b ∧ var = ⟨#[]⟩ ∧ k = n
  | some (.inr x, n), lit, var, k => lit = ⟨#[]⟩ ∧ var = x ∧ k = n
def formPost (o : Option (Form × Nat)) (e : Ending) : Prop := ∃ lit var k, e = .returned (.tuple #[.agg #[.string lit, .string var, .int .i64 k], .bool o.isSome]) ∧ FormIs o lit var k
set_option maxHeartbeats 4000000 in
theorem formOf_any (u : ByteArray) (hu : u.size ≤ 1048576) (w : World) :
    Calls Tryz.prog 273 #[.string u] w fun e w' => formPost (formU u) e ∧ Below w.heap.size w w' := by
  have hn := nil_iff u
  have HU : Hid (u.size ≤ 1048576) := hu
  by_cases h0 : u.size = 0
  · have HF : Hid (formU u = none) := by show _ = _; unfold formU; rw [if_pos h0]
    rw [decide_eq_true h0] at hn
    go_enter Tryz.func273, Tryz.ntmps273
    go_wp2
    refine bodyPost_ret (v := .tuple #[.agg #[.string ⟨#[]⟩, .string ⟨#[]⟩, .int .i64 0], .bool false]) (by simp [results, Tryz.results273, go_sem]) rfl ⟨?_, ?_⟩
    · rw [HF.out]; exact ⟨_, _, _, rfl, trivial⟩
    · exact (Below.refl _ _).alloc (Nat.le_refl _) _
  · rw [decide_eq_false h0] at hn
    have u0 : (0 : Int) < (u.size : Int) := by omega
    have hidx : ∀ wx, (Instr.index 9 (.string u) (.int .i64 0)).run Tryz.prog wx = .ok (.int .u8 (byteOf u 0)) wx := fun wx => run_index_text u 0 (by omega) wx
    have HFU : Hid (formU u = (if byteOf u 0 = 36 ∨ byteOf u 0 = 32 ∨ byteOf u 0 = 58 ∨ byteOf u 0 = 124 then some (.inl (u.extract 0 1), 1)
        else if byteOf u 0 = 123 then
          (if wordLenB (u.extract 1 u.size) = 0 ∨ begins (tailB (u.extract 1 u.size)) 125 = false then none else some (.inr (headB (u.extract 1 u.size)), wordLenB (u.extract 1 u.size) + 2))
        else if wordLenB u = 0 then none
        else some (.inr (headB u), wordLenB u))) := by
      show _ = _
      conv => lhs; unfold formU
      rw [if_neg h0]
    by_cases h4 : byteOf u 0 = 36 ∨ byteOf u 0 = 32 ∨ byteOf u 0 = 58 ∨ byteOf u 0 = 124
    · have HF : Hid (formU u = some (.inl (u.extract 0 1), 1)) := by rw [HFU.out, if_pos h4]; rfl
      have hsl : ∀ wx, (Instr.slice 9 (.string u) none (some (.int .i64 1)) none).run Tryz.prog wx = .ok (.string (u.extract 0 1)) wx := fun wx => slice_head u 1 (by omega) wx
      clear HFU
      generalize u.extract 0 1 = V at *
      rcases h4 with h4 | h4 | h4 | h4
      all_goals
        rw [h4] at hidx
        clear h4
        go_enter Tryz.func273, Tryz.ntmps273
        go_wp2
        refine bodyPost_ret (v := .tuple #[.agg #[.string V, .string ⟨#[]⟩, .int .i64 1], .bool true]) (by simp [results, Tryz.results273, go_sem]) rfl ⟨?_, ?_⟩
        · rw [HF.out]; exact ⟨_, _, _, rfl, rfl, rfl, rfl⟩
        · exact (Below.refl _ _).alloc (Nat.le_refl _) _
    · rw [if_neg h4] at HFU
      have q1 : ((byteOf u 0 : Int) == 36) = false := by simp; omega
      have q2 : ((byteOf u 0 : Int) == 32) = false := by simp; omega
      have q3 : ((byteOf u 0 : Int) == 58) = false := by simp; omega
      have q4 : ((byteOf u 0 : Int) == 124) = false := by simp; omega
      clear h4
      by_cases h123 : byteOf u 0 = 123
      · rw [if_pos h123] at HFU
        rw [h123] at hidx
        clear q1 q2 q3 q4 h123
        have hs1 : ∀ wx, (Instr.slice 9 (.string u) (some (.int .i64 1)) none none).run Tryz.prog wx = .ok (.string (u.extract 1 u.size)) wx := fun wx => slice_from u 1 (by omega) wx
        have hsz : (u.extract 1 u.size).size ≤ 1048576 := by rw [ByteArray.size_extract]; omega
        generalize u.extract 1 u.size = S at *
        have HCW : Hid (∀ wx, Calls Tryz.prog 194 #[.string S] wx fun e w' => e = .returned (.tuple #[.string (headB S), .string (tailB S)]) ∧ ∃ n, w' = wx.drewN n) := fun wx => cutWord_any S (by omega) wx
        have hpre : ∀ wx, Calls Tryz.prog 193 #[.string (tailB S), .string ⟨#[125]⟩] wx fun e w' => e = .returned (.bool (begins (tailB S) 125)) ∧ w' = wx := fun wx => by
          have := Any.strings_HasPrefix Tryz.lays99 (tailB S) ⟨#[125]⟩ wx
          rw [show (⟨#[125]⟩ : ByteArray).data.toList = [125] from rfl, begins_prefix] at this
          exact this
        have HPRE : Hid (∀ wx, Calls Tryz.prog 193 #[.string (tailB S), .string ⟨#[125]⟩] wx fun e w' => e = .returned (.bool (begins (tailB S) 125)) ∧ w' = wx) := hpre
        have hl : wordLenB S ≤ S.size := spanLen_le _ _
        have hhs := headB_size S
        have hnn := nil_iff (headB S)
        rw [hhs] at hnn
        clear hpre
        generalize begins (tailB S) 125 = B at *
        generalize tailB S = TL at *
        generalize headB S = HD at *
        have hd0 : (HD.size : Int) ≤ 1048576 := by omega
        have hd1 : HD.size = wordLenB S := hhs
        rw [← hd1] at HFU hnn
        clear hhs hl
        generalize wordLenB S = N at *
        subst hd1
        by_cases hN : HD.size = 0
        · rw [decide_eq_true hN] at hnn
          have HF : Hid (formU u = none) := by rw [HFU.out, if_pos (Or.inl hN)]; rfl
          go_enter Tryz.func273, Tryz.ntmps273
          go_wp2_with fail
          refine (HCW.out _).mono ?_
          rintro e w2 ⟨rfl, n2, rfl⟩
          go_wp2_with fail
          refine bodyPost_ret (v := .tuple #[.agg #[.string ⟨#[]⟩, .string HD, .int .i64 2], .bool false]) (by simp [results, Tryz.results273, go_sem]) rfl ⟨?_, ?_⟩
          · rw [HF.out]; exact ⟨_, _, _, rfl, trivial⟩
          · exact below_store3 w _ n2 _ _ _
        · rw [decide_eq_false hN] at hnn
          go_enter Tryz.func273, Tryz.ntmps273
          go_wp2_with fail
          refine (HCW.out _).mono ?_
          rintro e w2 ⟨rfl, n2, rfl⟩
          go_wp2_with fail
          refine (HPRE.out _).mono ?_
          rintro e w3 ⟨rfl, rfl⟩
          cases B with
          | false =>
            have HF : Hid (formU u = none) := by rw [HFU.out, if_pos (Or.inr rfl)]; rfl
            go_wp2_with fail
            refine bodyPost_ret (v := .tuple #[.agg #[.string ⟨#[]⟩, .string HD, .int .i64 ((HD.size : Int) + 2)], .bool false]) (by simp [results, Tryz.results273, go_sem]) rfl ⟨?_, ?_⟩
            · rw [HF.out]; exact ⟨_, _, _, rfl, trivial⟩
            · exact below_store3 w _ n2 _ _ _
          | true =>
            have HF : Hid (formU u = some (.inr HD, HD.size + 2)) := by rw [HFU.out, if_neg (by simp [hN])]; rfl
            go_wp2_with fail
            refine bodyPost_ret (v := .tuple #[.agg #[.string ⟨#[]⟩, .string HD, .int .i64 ((HD.size : Int) + 2)], .bool true]) (by simp [results, Tryz.results273, go_sem]) rfl ⟨?_, ?_⟩
            · rw [HF.out]; exact ⟨_, _, _, rfl, rfl, rfl, by omega⟩
            · exact below_store3 w _ n2 _ _ _
      · rw [if_neg h123] at HFU
        have q5 : ((byteOf u 0 : Int) == 123) = false := by simp; omega
        generalize byteOf u 0 = y at *
        have HCW : Hid (∀ wx, Calls Tryz.prog 194 #[.string u] wx fun e w' => e = .returned (.tuple #[.string (headB u), .string (tailB u)]) ∧ ∃ n, w' = wx.drewN n) := fun wx => cutWord_any u (by omega) wx
        have hl : wordLenB u ≤ u.size := spanLen_le _ _
        have hhs := headB_size u
        have hnn := nil_iff (headB u)
        rw [hhs] at hnn
        generalize tailB u = TL at *
        generalize headB u = HD at *
        have hd0 : (HD.size : Int) ≤ 1048576 := by omega
        have hd1 : HD.size = wordLenB u := hhs
        rw [← hd1] at HFU hnn
        clear hhs hl
        generalize wordLenB u = N at *
        subst hd1
        by_cases hN : HD.size = 0
        · rw [decide_eq_true hN] at hnn
          have HF : Hid (formU u = none) := by rw [HFU.out, if_pos hN]; rfl
          go_enter Tryz.func273, Tryz.ntmps273
          go_wp2_with fail
          refine (HCW.out _).mono ?_
          rintro e w2 ⟨rfl, n2, rfl⟩
          go_wp2_with fail
          refine bodyPost_ret (v := .tuple #[.agg #[.string ⟨#[]⟩, .string HD, .int .i64 0], .bool false]) (by simp [results, Tryz.results273, go_sem]) rfl ⟨?_, ?_⟩
          · rw [HF.out]; exact ⟨_, _, _, rfl, trivial⟩
          · exact below_store3 w _ n2 _ _ _
        · rw [decide_eq_false hN] at hnn
          have HF : Hid (formU u = some (.inr HD, HD.size)) := by rw [HFU.out, if_neg hN]; rfl
          go_enter Tryz.func273, Tryz.ntmps273
          go_wp2_with fail
          refine (HCW.out _).mono ?_
          rintro e w2 ⟨rfl, n2, rfl⟩
          go_wp2_with fail
          refine bodyPost_ret (v := .tuple #[.agg #[.string ⟨#[]⟩, .string HD, .int .i64 HD.size], .bool true]) (by simp [results, Tryz.results273, go_sem]) rfl ⟨?_, ?_⟩
          · rw [HF.out]; exact ⟨_, _, _, rfl, rfl, rfl, rfl⟩
          · exact below_store3 w _ n2 _ _ _
end Go.Proofs.YthhbpebihgjpjaaGreatDoor

namespace Go.Proofs.YthhbpebihgjpjaaGreatDoor
open Go.RowKit Go.Shelf
set_option maxRecDepth 1000000

/-- Where a byte stands that is looked for, but behind a `$`; past the end, if a `$` is the last. -/
def scanFrom (p : Nat → Bool) (u : ByteArray) : Nat → Nat → Nat
  | 0, i => i
  | g + 1, i => if u.size ≤ i then i else if byteOf u i = 36 then scanFrom p u g (i + 2) else if p (byteOf u i) = true then i else scanFrom p u g (i + 1)
def scanAt (p : Nat → Bool) (u : ByteArray) (i : Nat) : Nat := scanFrom p u (u.size - i) i
def scanB (p : Nat → Bool) (u : ByteArray) : Nat := scanAt p u 0
def isColon (c : Nat) : Bool := decide (c = 58)
def isSep (c : Nat) : Bool := decide (c = 32 ∨ c = 58 ∨ c = 124)
theorem scanFrom_fuel (p : Nat → Bool) (u : ByteArray) : ∀ (g g' i : Nat), u.size ≤ i + g → u.size ≤ i + g' → scanFrom p u g i = scanFrom p u g' i
  | 0, 0, _, _, _ => rfl
  | 0, g' + 1, i, h, _ => by rw [scanFrom, scanFrom, if_pos (by omega)]
  | g + 1, 0, i, _, h => by rw [scanFrom, scanFrom, if_pos (by omega)]
  | g + 1, g' + 1, i, h, h' => by
    rw [scanFrom, scanFrom]
    by_cases c : u.size ≤ i
    · rw [if_pos c, if_pos c]
    · rw [if_neg c, if_neg c]
      by_cases d : byteOf u i = 36
      · rw [if_pos d, if_pos d]; exact scanFrom_fuel p u g g' _ (by omega) (by omega)
      · rw [if_neg d, if_neg d]
        by_cases q : p (byteOf u i) = true
        · rw [if_pos q, if_pos q]
        · rw [if_neg q, if_neg q]; exact scanFrom_fuel p u g g' _ (by omega) (by omega)
theorem scanAt_end (p : Nat → Bool) (u : ByteArray) (i : Nat) (h : u.size ≤ i) : scanAt p u i = i := by
  unfold scanAt
  rw [show u.size - i = 0 by omega, scanFrom]
theorem scanAt_dol (p : Nat → Bool) (u : ByteArray) (i : Nat) (h : i < u.size) (hd : byteOf u i = 36) : scanAt p u i = scanAt p u (i + 2) := by
  unfold scanAt
  rw [show u.size - i = (u.size - (i + 1)) + 1 by omega, scanFrom, if_neg (by omega), if_pos hd]
  exact scanFrom_fuel p u _ _ _ (by omega) (by omega)
theorem scanAt_hit (p : Nat → Bool) (u : ByteArray) (i : Nat) (h : i < u.size) (hd : byteOf u i ≠ 36) (hp : p (byteOf u i) = true) : scanAt p u i = i := by
  unfold scanAt
  rw [show u.size - i = (u.size - (i + 1)) + 1 by omega, scanFrom, if_neg (by omega), if_neg hd, if_pos hp]
theorem scanAt_step (p : Nat → Bool) (u : ByteArray) (i : Nat) (h : i < u.size) (hd : byteOf u i ≠ 36) (hp : p (byteOf u i) = false) : scanAt p u i = scanAt p u (i + 1) := by
  unfold scanAt
  rw [show u.size - i = (u.size - (i + 1)) + 1 by omega, scanFrom, if_neg (by omega), if_neg hd, if_neg (by rw [hp]; decide)]
theorem scanAt_le (p : Nat → Bool) (u : ByteArray) : ∀ (g i : Nat), u.size - i ≤ g → i ≤ u.size + 1 → i ≤ scanAt p u i ∧ scanAt p u i ≤ u.size + 1 := by
  intro g
  induction g with
  | zero => intro i h hi; rw [scanAt_end _ _ _ (by omega)]; omega
  | succ g ih =>
    intro i h hi
    by_cases c : u.size ≤ i
    · rw [scanAt_end _ _ _ c]; omega
    · by_cases d : byteOf u i = 36
      · rw [scanAt_dol _ _ _ (by omega) d]; have := ih (i + 2) (by omega) (by omega); omega
      · cases q : p (byteOf u i) with
        | true => rw [scanAt_hit _ _ _ (by omega) d q]; omega
        | false => rw [scanAt_step _ _ _ (by omega) d q]; have := ih (i + 1) (by omega) (by omega); omega
theorem scanB_le (p : Nat → Bool) (u : ByteArray) : scanB p u ≤ u.size + 1 := (scanAt_le p u _ 0 (Nat.le_refl _) (by omega)).2
theorem word_plain (t : ByteArray) (q : Nat) (h : q < wordLenB t) : byteOf t q ≠ 36 := by
  have hw : ∀ (l : List UInt8) (q : Nat), q < spanL wordByte l → ∃ c, l[q]? = some c ∧ wordByte c.toNat = true := by
    intro l
    induction l with
    | nil => intro q h; exact absurd h (Nat.not_lt_zero _)
    | cons c r ih =>
      intro q h
      rw [spanL] at h
      by_cases hc : wordByte c.toNat = true
      · rw [if_pos hc] at h
        cases q with
        | zero => exact ⟨c, rfl, hc⟩
        | succ q => exact ih q (by omega)
      · rw [if_neg hc] at h; omega
  obtain ⟨c, h1, h2⟩ := hw _ q h
  rw [byteOf_get h1]
  intro e
  rw [e] at h2
  exact absurd h2 (by decide)
theorem form_plain {u : ByteArray} {i k : Nat} {f : Form} (h : formAt u i = some (f, k)) (q : Nat) (a : i + 2 ≤ q) (b : q < k) : byteOf u q ≠ 36 := by
  have hk := formAt_le h
  unfold formAt at h
  split at h
  · cases h
  split at h
  · have := (Prod.mk.inj (Option.some.inj h)).2; omega
  split at h
  · split at h
    · cases h
    · rename_i h1 h2 h3 h4
      have e := (Prod.mk.inj (Option.some.inj h)).2
      rcases Nat.lt_or_ge q (i + 2 + wordLenB (u.extract (i + 2) u.size)) with c | c
      · have := word_plain (u.extract (i + 2) u.size) (q - (i + 2)) (by omega)
        rw [byteOf_extract _ _ _ _ (by omega) (Nat.le_refl _), show i + 2 + (q - (i + 2)) = q by omega] at this
        exact this
      · rw [show q = i + 2 + wordLenB (u.extract (i + 2) u.size) by omega]
        omega
  split at h
  · cases h
  · have e := (Prod.mk.inj (Option.some.inj h)).2
    have := word_plain (u.extract (i + 1) u.size) (q - (i + 1)) (by omega)
    rw [byteOf_extract _ _ _ _ (by omega) (Nat.le_refl _), show i + 1 + (q - (i + 1)) = q by omega] at this
    exact this
/-- If the last byte is a `$` that stands alone, nothing comes of the text. -/
theorem scan_past (E : ByteArray → ByteArray) (p : Nat → Bool) (u : ByteArray) : ∀ (g i : Nat), u.size - i ≤ g → i < u.size → scanAt p u i = u.size + 1 → ∀ out, expandAt E u i out = none := by
  intro g
  induction g with
  | zero => intro i h hi; omega
  | succ g ih =>
    intro i h hi hs out
    by_cases d : byteOf u i = 36
    · rw [scanAt_dol _ _ _ hi d] at hs
      cases hf : formAt u i with
      | none => exact expandAt_none _ _ _ _ hi d hf
      | some fk =>
        obtain ⟨f, k⟩ := fk
        have hle := formAt_le hf
        rw [expandAt_form _ _ _ _ _ _ hi d hf]
        have hk : scanAt p u (i + 2) = u.size + 1 → k < u.size ∧ scanAt p u k = u.size + 1 := by
          have hrun : ∀ (m j : Nat), j + m = k → (∀ q, j ≤ q → q < k → byteOf u q ≠ 36) → scanAt p u j = u.size + 1 → scanAt p u k = u.size + 1 := by
            intro m
            induction m with
            | zero => intro j hj _ h; rw [show k = j by omega]; exact h
            | succ m ihm =>
              intro j hj hq h
              refine ihm (j + 1) (by omega) (fun q a b => hq q (by omega) b) ?_
              have hd := hq j (Nat.le_refl _) (by omega)
              cases hp : p (byteOf u j) with
              | true => rw [scanAt_hit _ _ _ (by omega) hd hp] at h; omega
              | false => rw [scanAt_step _ _ _ (by omega) hd hp] at h; exact h
          intro h2
          have h3 : scanAt p u k = u.size + 1 := hrun (k - (i + 2)) (i + 2) (by omega) (fun q a b => form_plain hf q a b) h2
          refine ⟨?_, h3⟩
          rcases Nat.lt_or_ge k u.size with c | c
          · exact c
          · rw [scanAt_end _ _ _ c] at h3; omega
        have := hk hs
        split
        · rfl
        · exact ih k (by omega) this.1 this.2 _
    · rw [expandAt_plain _ _ _ _ hi d]
      cases q : p (byteOf u i) with
      | true => rw [scanAt_hit _ _ _ hi d q] at hs; omega
      | false =>
        rw [scanAt_step _ _ _ hi d q] at hs
        refine ih (i + 1) (by omega) ?_ hs _
        rcases Nat.lt_or_ge (i + 1) u.size with c | c
        · exact c
        · rw [scanAt_end _ _ _ c] at hs; omega
theorem indexByte_any (s : ByteArray) (c : Int) (w : World) :
    Calls Tryz.prog 318 #[.string s, .int .u8 c] w fun e w' => e = .returned (.int .i64 (Lib.indexByte s.data.toList c.toNat.toUInt8)) ∧ w' = w := by
  go_enter Tryz.func318, Tryz.ntmps318
  go_wp2_with fail
  refine (Any.stringslite_IndexByte Tryz.lays217 s c _).mono ?_
  rintro e w' ⟨rfl, rfl⟩
  go_wp2
  go_ret
  exact ⟨rfl, rfl⟩
set_option maxHeartbeats 2000000 in
theorem freeIndex_any (p : Nat → Bool) (u bs : ByteArray) (hp : ∀ c, c < 256 → decide ((0 : Int) ≤ Lib.indexByte bs.data.toList c.toUInt8) = p c) (hu : u.size ≤ 1048576) (w : World) :
    Calls Tryz.prog 265 #[.string u, .string bs] w fun e w' => e = .returned (.int .i64 ((min (scanB p u) u.size : Nat) : Int)) ∧ w' = w := by
  have HP : Hid (∀ c, c < 256 → decide ((0 : Int) ≤ Lib.indexByte bs.data.toList c.toUInt8) = p c) := hp
  have u0 : (u.size : Int) ≤ 1048576 := by omega
  clear hp
  go_enter Tryz.func265, Tryz.ntmps265
  go_wp2_with fail
  go_loop [5] (fun i => ∃ j : Nat, i = .int .i64 j ∧ j ≤ u.size + 1 ∧ scanAt p u j = scanB p u) (fun i => u.size + 1 - (intOf i).toNat)
  case atStart => exact ⟨0, rfl, Nat.zero_le _, rfl⟩
  case round =>
    obtain ⟨j, rfl, hle, hag⟩ := hrel
    have HAG : Hid (scanAt p u j = scanB p u) := hag
    clear hag
    have j0 : (0 : Int) ≤ (j : Int) := by omega
    by_cases hlt : j < u.size
    · have j1 : (j : Int) < (u.size : Int) := by omega
      have hidx : ∀ wx, (Instr.index 9 (.string u) (.int .i64 j)).run Tryz.prog wx = .ok (.int .u8 (byteOf u j)) wx := fun wx => run_index_text u j hlt wx
      have hb := byteOf_lt u j
      have HSC : Hid ((byteOf u j = 36 → scanAt p u (j + 2) = scanB p u) ∧ (byteOf u j ≠ 36 → p (byteOf u j) = true → scanB p u = j) ∧ (byteOf u j ≠ 36 → p (byteOf u j) = false → scanAt p u (j + 1) = scanB p u)) :=
        ⟨fun h => (scanAt_dol p u j hlt h).symm.trans HAG.out, fun h1 h2 => HAG.out.symm.trans (scanAt_hit p u j hlt h1 h2), fun h1 h2 => (scanAt_step p u j hlt h1 h2).symm.trans HAG.out⟩
      generalize byteOf u j = x at *
      by_cases hd : x = 36
      · subst hd
        have HN := HSC.out.1 rfl
        have HN : Hid (scanAt p u (j + 2) = scanB p u) := HN
        go_wp2_with fail
        exact ⟨⟨j + 2, by go_num, by omega, HN.out⟩, by simp [intOf]; omega⟩
      · have hd2 : ((x : Int) == 36) = false := by simp; omega
        have HIX : Hid (∀ wx, Calls Tryz.prog 318 #[.string bs, .int .u8 x] wx fun e w' => e = .returned (.int .i64 (Lib.indexByte bs.data.toList x.toUInt8)) ∧ w' = wx) := fun wx => by
          have := indexByte_any bs (x : Int) wx
          rw [show ((x : Int).toNat) = x from Int.toNat_natCast x] at this
          exact this
        have hpx := HP.out x hb
        cases hq : p x with
        | true =>
          rw [hq] at hpx
          have hpx2 := of_decide_eq_true hpx
          have HN : Hid (min (scanB p u) u.size = j) := by show _ = _; rw [HSC.out.2.1 hd hq]; omega
          clear hpx
          generalize Lib.indexByte bs.data.toList x.toUInt8 = ix at *
          go_wp2_with fail
          refine (HIX.out _).mono ?_
          rintro e w' ⟨rfl, rfl⟩
          go_wp2_with fail
          go_ret
          exact ⟨by rw [HN.out]; rfl, rfl⟩
        | false =>
          rw [hq] at hpx
          have hpx2 := of_decide_eq_false hpx
          have HN : Hid (scanAt p u (j + 1) = scanB p u) := HSC.out.2.2 hd hq
          clear hpx
          generalize Lib.indexByte bs.data.toList x.toUInt8 = ix at *
          go_wp2_with fail
          refine (HIX.out _).mono ?_
          rintro e w' ⟨rfl, rfl⟩
          go_wp2_with fail
          exact ⟨⟨j + 1, by go_num, by omega, HN.out⟩, by simp [intOf]; omega⟩
    · have HN : Hid (min (scanB p u) u.size = u.size) := by
        show _ = _
        rw [← HAG.out, scanAt_end _ _ _ (by omega)]; omega
      have j1 : ¬ (j : Int) < (u.size : Int) := by omega
      go_wp2_with fail
      go_ret
      exact ⟨by rw [HN.out]; rfl, rfl⟩
theorem idx_colon : ∀ c, c < 256 → decide ((0 : Int) ≤ Lib.indexByte (⟨#[58]⟩ : ByteArray).data.toList c.toUInt8) = isColon c := by decide
theorem idx_sep : ∀ c, c < 256 → decide ((0 : Int) ≤ Lib.indexByte (⟨#[32, 58, 124]⟩ : ByteArray).data.toList c.toUInt8) = isSep c := by decide
end Go.Proofs.YthhbpebihgjpjaaGreatDoor
