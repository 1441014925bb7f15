import Derived.Test.YthhbpebihgjpjaaGreatDoorR33
namespace Go.Proofs.YthhbpebihgjpjaaGreatDoor
open Go.RowKit
set_option maxRecDepth 1000000

def readPost (o : Option ByteArray) : Value := .tuple #[.string (o.getD ⟨#[]⟩), .bool o.isSome]

theorem fileOf_hit {names data : List ByteArray} {x d : ByteArray} {j : Nat} (h : ∀ k, k < j → names[k]? = some x → data.length ≤ k) (hj : names[j]? = some x) (hd : data[j]? = some d) : fileOf names data x = some d := by
  have hjd := (List.getElem?_eq_some_iff.1 hd).1
  rw [fileOf, firstIdx_hit (fun k hk e => by have := h k hk e; omega) hj]
  exact hd
theorem fileOf_miss {names data : List ByteArray} {x : ByteArray} (h : ∀ k, k < names.length → names[k]? = some x → data.length ≤ k) : fileOf names data x = none := by
  unfold fileOf
  cases e : firstIdx x names with
  | none => rfl
  | some k =>
    obtain ⟨hk, hx, _⟩ := List.findIdx?_eq_some_iff_getElem.1 e
    have := h k hk (by rw [List.getElem?_eq_getElem hk]; exact congrArg some (of_decide_eq_true hx))
    show data[k]? = none
    exact List.getElem?_eq_none this

set_option maxHeartbeats 2000000 in
theorem read_any (names data : List ByteArray) (vn vd : Value) (x : ByteArray) (bn bd : Nat) (w : World) (hbn : w.cell? ⟨bn, 0, none⟩ = some vn) (hbd : w.cell? ⟨bd, 0, none⟩ = some vd) (hn : TextsAt w vn names) (hd : TextsAt w vd data) (hs : names.length ≤ 1048576) (hs2 : data.length ≤ 1048576) :
    Calls Tryz.prog 137 #[.string x, .pointer (some ⟨bn, 0, none⟩), .pointer (some ⟨bd, 0, none⟩)] w fun e w' => e = .returned (readPost (fileOf names data x)) ∧ w' = w := by
  obtain ⟨an, cn, rfl, hcn, hn⟩ := hn
  obtain ⟨ad, cd, rfl, hcd, hd⟩ := hd
  have HN : Hid (((an = none → cn = 0) ∧ names = [] ∧ True) ∨ ∃ b o, an = some ⟨b, o, none⟩ ∧ ∀ k s, names[k]? = some s → w.cell? ⟨b, o + k, none⟩ = some (.string s)) := hn
  have HD : Hid (((ad = none → cd = 0) ∧ data = [] ∧ True) ∨ ∃ b o, ad = some ⟨b, o, none⟩ ∧ ∀ k s, data[k]? = some s → w.cell? ⟨b, o + k, none⟩ = some (.string s)) := hd
  have n0 : (names.length : Int) ≤ 1048576 := by omega
  have n1 : (data.length : Int) ≤ 1048576 := by omega
  clear hn hd
  generalize hL : names.length = L at *
  have HL : Hid (names.length = L) := hL
  generalize hDL : data.length = DL at *
  have HDL : Hid (data.length = DL) := hDL
  clear hL hDL
  go_enter Tryz.func137, Tryz.ntmps137
  go_wp2
  go_loop [10] (fun i => ∃ j : Nat, i = .int .i64 j ∧ j ≤ L ∧ (∀ k, k < j → names[k]? = some x → data.length ≤ k)) (fun i => L - (intOf i).toNat)
  case atStart => exact ⟨0, rfl, Nat.zero_le _, fun k hk => by omega⟩
  case round =>
    obtain ⟨j, rfl, hle, hag⟩ := hrel
    have HAG : Hid (∀ k, k < j → names[k]? = some x → data.length ≤ k) := hag
    clear hag
    have i0 : (0 : Int) ≤ (j : Int) := by omega
    by_cases hlt : j < L
    · obtain ⟨y, hy⟩ : ∃ y, names[j]? = some y := ⟨names[j]'(by have := HL.out; omega), by simp⟩
      obtain ⟨g1, o1, rfl, q1⟩ : ∃ b o, an = some ⟨b, o, none⟩ ∧ ∀ k s, names[k]? = some s → w.cell? ⟨b, o + k, none⟩ = some (.string s) := by
        rcases HN.out with e | e
        · rw [e.2.1] at hy; simp at hy
        · exact e
      have r1 : w.cell? ⟨g1, o1 + j, none⟩ = some (.string y) := q1 j y hy
      have i1 : (j : Int) < (L : Int) := by omega
      have HY : Hid (names[j]? = some y) := hy
      clear q1 hy
      cases hq : (y.toList == x.toList) with
      | true =>
        have HYX : Hid (names[j]? = some x) := by rw [HY.out, text_same hq]; rfl
        by_cases hjd : j < DL
        · have i2 : (j : Int) < (DL : Int) := by omega
          obtain ⟨d, hd⟩ : ∃ d, data[j]? = some d := ⟨data[j]'(by have := HDL.out; omega), by simp⟩
          obtain ⟨g2, o2, rfl, q2⟩ : ∃ b o, ad = some ⟨b, o, none⟩ ∧ ∀ k s, data[k]? = some s → w.cell? ⟨b, o + k, none⟩ = some (.string s) := by
            rcases HD.out with e | e
            · rw [e.2.1] at hd; simp at hd
            · exact e
          have r2 : w.cell? ⟨g2, o2 + j, none⟩ = some (.string d) := q2 j d hd
          have HF : Hid (fileOf names data x = some d) := fileOf_hit HAG.out HYX.out hd
          clear q2 hd
          go_wp2
          go_ret2
          exact ⟨by rw [HF.out]; rfl, rfl⟩
        · have i2 : ¬ (j : Int) < (DL : Int) := by omega
          have HR : Hid (∀ k, k < j + 1 → names[k]? = some x → data.length ≤ k) := fun k hk e => by
            rcases Nat.lt_or_ge k j with c | c
            · exact HAG.out k c e
            · have := HDL.out; omega
          go_wp2
          exact ⟨⟨j + 1, by go_num, hlt, HR.out⟩, by simp [intOf]; omega⟩
      | false =>
        have HR : Hid (∀ k, k < j + 1 → names[k]? = some x → data.length ≤ k) := fun k hk e => by
          rcases Nat.lt_or_ge k j with c | c
          · exact HAG.out k c e
          · obtain rfl : k = j := by omega
            rw [HY.out] at e
            exact absurd (Option.some.inj e) (text_other hq)
        go_wp2
        exact ⟨⟨j + 1, by go_num, hlt, HR.out⟩, by simp [intOf]; omega⟩
    · obtain rfl : j = L := by omega
      have HF : Hid (fileOf names data x = none) := fileOf_miss (fun k hk e => HAG.out k (by have := HL.out; omega) e)
      go_wp2
      go_ret2
      exact ⟨by rw [HF.out]; rfl, rfl⟩
end Go.Proofs.YthhbpebihgjpjaaGreatDoor
