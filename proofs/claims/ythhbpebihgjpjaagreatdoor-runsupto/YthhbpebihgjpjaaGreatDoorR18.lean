import Derived.Test.YthhbpebihgjpjaaGreatDoorR17
namespace Go.Proofs.YthhbpebihgjpjaaGreatDoor
set_option maxRecDepth 1000000

/-! The document's answer pads the text and mixes it block by block: the same as the program's way. -/
theorem word_congr (b b' : Nat → Nat) (h : ∀ i, i < 64 → b i = b' i) (n : Nat) : Sha.word b n = Sha.word b' n := by
  induction n using Nat.strongRecOn with
  | ind n ih =>
    by_cases hn : n < 16
    · rw [Sha.word_low b n hn, Sha.word_low b' n hn, h _ (by omega), h _ (by omega), h _ (by omega), h _ (by omega)]
    · rw [Sha.word_high b n (by omega), Sha.word_high b' n (by omega), ih _ (by omega), ih _ (by omega), ih _ (by omega), ih _ (by omega)]
theorem mixed_congr (K : Nat → Nat) (s : Sha.St) (b b' : Nat → Nat) (h : ∀ i, i < 64 → b i = b' i) : Sha.mixed K s b = Sha.mixed K s b' := by
  unfold Sha.mixed
  rw [show Sha.word b = Sha.word b' from funext (word_congr b b' h)]

/-- How many zeros stand behind the mark. -/
def zeros (n : Nat) : Nat := (119 - n % 64) % 64
def len8 (n : Nat) : List UInt8 := (List.range 8).map fun j => UInt8.ofNat (n * 8 / 2 ^ (8 * (7 - j)))
def padded (l : List UInt8) : List UInt8 := l ++ (128 :: (List.replicate (zeros l.length) 0 ++ len8 l.length))
theorem len8_length (n : Nat) : (len8 n).length = 8 := by simp [len8]
theorem padded_length (l : List UInt8) : (padded l).length = l.length + 1 + zeros l.length + 8 := by
  simp [padded, len8_length]; omega
theorem byteAt_drop (l : List UInt8) (k i : Nat) : byteAt (l.drop k) i = byteAt l (k + i) := by
  unfold byteAt; rw [List.getElem?_drop]
theorem byteAt_left (l r : List UInt8) (i : Nat) (h : i < l.length) : byteAt (l ++ r) i = byteAt l i := by
  unfold byteAt; rw [List.getElem?_append_left h]
theorem byteAt_right (l r : List UInt8) (i : Nat) (h : l.length ≤ i) : byteAt (l ++ r) i = byteAt r (i - l.length) := by
  unfold byteAt; rw [List.getElem?_append_right h]
theorem padded_text (l : List UInt8) (i : Nat) (h : i < l.length) : byteAt (padded l) i = byteAt l i := byteAt_left _ _ _ h
theorem padded_mark (l : List UInt8) : byteAt (padded l) l.length = 128 := by
  unfold padded; rw [byteAt_right _ _ _ (Nat.le_refl _), Nat.sub_self]; rfl
theorem padded_zero (l : List UInt8) (i : Nat) (h1 : l.length < i) (h2 : i < l.length + 1 + zeros l.length) : byteAt (padded l) i = 0 := by
  unfold padded
  rw [byteAt_right _ _ _ (by omega)]
  unfold byteAt
  rw [show i - l.length = (i - l.length - 1) + 1 by omega, List.getElem?_cons_succ, List.getElem?_append_left (by simp; omega), List.getElem?_replicate_of_lt (by omega)]
  rfl
theorem padded_len (l : List UInt8) (j : Nat) (hj : j < 8) : byteAt (padded l) (l.length + 1 + zeros l.length + j) = l.length * 8 / 2 ^ (8 * (7 - j)) % 256 := by
  unfold padded
  rw [byteAt_right _ _ _ (by omega)]
  unfold byteAt
  rw [show l.length + 1 + zeros l.length + j - l.length = (zeros l.length + j) + 1 by omega, List.getElem?_cons_succ, List.getElem?_append_right (by simp), List.length_replicate, show zeros l.length + j - zeros l.length = j by omega]
  simp [len8, hj]

theorem blocks_text (K : Nat → Nat) (l : List UInt8) : ∀ n, 64 * n ≤ l.length → blocks K (padded l) n = blocks K l n := by
  intro n
  induction n with
  | zero => intro _; rfl
  | succ n ih =>
    intro h
    show Sha.mixed K (blocks K (padded l) n) _ = Sha.mixed K (blocks K l n) _
    rw [ih (by omega)]
    apply mixed_congr
    intro i hi
    rw [byteAt_drop, byteAt_drop, padded_text _ _ (by omega)]

/-- The two ways come to one. -/
theorem padded_sum (K : Nat → Nat) (l : List UInt8) : blocks K (padded l) ((padded l).length / 64) = codeSum K l := by
  have hz : zeros l.length < 64 ∧ (l.length + 1 + zeros l.length) % 64 = 56 := by unfold zeros; omega
  have hr : (l.drop (64 * (l.length / 64))).length = l.length % 64 := by rw [List.length_drop]; omega
  have hrb : ∀ i, byteAt (l.drop (64 * (l.length / 64))) i = byteAt l (64 * (l.length / 64) + i) := fun i => byteAt_drop _ _ _
  unfold codeSum codeEnd
  rw [hr, padded_length]
  by_cases hl : 56 < l.length % 64 + 1
  · rw [if_pos hl]
    have hz2 : zeros l.length = 119 - l.length % 64 := by unfold zeros; omega
    have hN : (l.length + 1 + zeros l.length + 8) / 64 = l.length / 64 + 1 + 1 := by omega
    rw [hN]
    show Sha.mixed K (Sha.mixed K (blocks K (padded l) (l.length / 64)) _) _ = _
    rw [blocks_text K l _ (by omega)]
    have e1 : Sha.mixed K (blocks K l (l.length / 64)) (byteAt ((padded l).drop (64 * (l.length / 64)))) = Sha.mixed K (blocks K l (l.length / 64)) (marked (l.drop (64 * (l.length / 64)))) := by
      apply mixed_congr
      intro i hi
      rw [byteAt_drop]; unfold marked; rw [hr, hrb]
      by_cases c : i = l.length % 64
      · rw [if_pos c, show 64 * (l.length / 64) + i = l.length by omega, padded_mark]
      · rw [if_neg c]
        by_cases c2 : i < l.length % 64
        · rw [padded_text _ _ (by omega)]
        · rw [padded_zero _ _ (by omega) (by omega), byteAt_past _ _ (by omega)]
    rw [e1]
    apply mixed_congr
    intro i hi
    rw [byteAt_drop]; unfold lenB
    by_cases c : 56 ≤ i ∧ i < 64
    · rw [if_pos c, show 64 * (l.length / 64 + 1) + i = l.length + 1 + zeros l.length + (i - 56) by omega, padded_len _ _ (by omega), show 7 - (i - 56) = 63 - i by omega]
    · rw [if_neg c, padded_zero _ _ (by omega) (by omega)]
  · rw [if_neg hl]
    have hz2 : zeros l.length = 55 - l.length % 64 := by unfold zeros; omega
    have hN : (l.length + 1 + zeros l.length + 8) / 64 = l.length / 64 + 1 := by omega
    rw [hN]
    show Sha.mixed K (blocks K (padded l) (l.length / 64)) _ = _
    rw [blocks_text K l _ (by omega)]
    apply mixed_congr
    intro i hi
    rw [byteAt_drop]; unfold lenB
    by_cases c : 56 ≤ i ∧ i < 64
    · rw [if_pos c, show 64 * (l.length / 64) + i = l.length + 1 + zeros l.length + (i - 56) by omega, padded_len _ _ (by omega), show 7 - (i - 56) = 63 - i by omega]
    · rw [if_neg c]; unfold marked; rw [hr, hrb]
      by_cases c1 : i = l.length % 64
      · rw [if_pos c1, show 64 * (l.length / 64) + i = l.length by omega, padded_mark]
      · rw [if_neg c1]
        by_cases c2 : i < l.length % 64
        · rw [padded_text _ _ (by omega)]
        · rw [padded_zero _ _ (by omega) (by omega), byteAt_past _ _ (by omega)]
end Go.Proofs.YthhbpebihgjpjaaGreatDoor
