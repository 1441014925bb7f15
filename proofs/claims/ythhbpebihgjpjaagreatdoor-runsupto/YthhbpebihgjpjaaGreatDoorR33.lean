import Derived.Test.YthhbpebihgjpjaaGreatDoorR31
import Derived.Test.YthhbpebihgjpjaaGreatDoorR32
import Derived.Test.YthhbpebihgjpjaaGreatDoorR19
import Derived.Test.YthhbpebihgjpjaaGreatDoorR22
namespace Go.Proofs.YthhbpebihgjpjaaGreatDoor
open Go.RowKit
set_option maxRecDepth 1000000

/-- The first place of a text in a list. -/
def firstIdx (x : ByteArray) (l : List ByteArray) : Option Nat := l.findIdx? fun y => decide (y = x)
theorem firstIdx_hit {x : ByteArray} {l : List ByteArray} {j : Nat} (h : ∀ k, k < j → l[k]? ≠ some x) (hj : l[j]? = some x) : firstIdx x l = some j := by
  obtain ⟨hl, e⟩ := List.getElem?_eq_some_iff.1 hj
  refine List.findIdx?_eq_some_iff_getElem.2 ⟨hl, decide_eq_true e, fun k hk => ?_⟩
  have := h k hk
  rw [List.getElem?_eq_getElem (by omega)] at this
  simpa using this
theorem firstIdx_miss {x : ByteArray} {l : List ByteArray} (h : ∀ k, k < l.length → l[k]? ≠ some x) : firstIdx x l = none := by
  refine List.findIdx?_eq_none_iff.2 fun y hy => ?_
  obtain ⟨k, hk, rfl⟩ := List.getElem_of_mem hy
  have := h k hk
  rw [List.getElem?_eq_getElem hk] at this
  simpa using this
theorem firstIdx_lt {x : ByteArray} {l : List ByteArray} {j : Nat} (h : firstIdx x l = some j) : j < l.length := (List.findIdx?_eq_some_iff_getElem.1 h).1

/-- An index as an int: -1 where there is none. -/
def idxInt : Option Nat → Int
  | some k => k
  | none => -1

set_option maxHeartbeats 2000000 in
theorem last_any (l : List ByteArray) (v : Value) (x : ByteArray) (w : World) (h : TextsAt w v l) (hs : l.length ≤ 1099511627776) :
    Calls Tryz.prog 138 #[v, .string x] w fun e w' => e = .returned (.int .i64 (idxInt (firstIdx x l))) ∧ w' = w := by
  obtain ⟨ao, c, rfl, hc, h⟩ := h
  have H : Hid (((ao = none → c = 0) ∧ l = [] ∧ True) ∨ ∃ b o, ao = some ⟨b, o, none⟩ ∧ ∀ k s, l[k]? = some s → w.cell? ⟨b, o + k, none⟩ = some (.string s)) := h
  have n0 : (l.length : Int) ≤ 1099511627776 := by omega
  clear h
  generalize hL : l.length = L at *
  have HL : Hid (l.length = L) := hL
  clear hL
  go_enter Tryz.func138, Tryz.ntmps138
  go_wp2
  go_loop [5] (fun i => ∃ j : Nat, i = .int .i64 j ∧ j ≤ L ∧ (∀ k, k < j → l[k]? ≠ some x)) (fun i => L - (intOf i).toNat)
  case atStart => exact ⟨0, rfl, Nat.zero_le _, fun k hk => by omega⟩
  case round =>
    obtain ⟨j, rfl, hle, hag⟩ := hrel
    have HAG : Hid (∀ k, k < j → l[k]? ≠ some x) := hag
    clear hag
    by_cases hlt : j < L
    · obtain ⟨y, hy⟩ : ∃ y, l[j]? = some y := ⟨l[j]'(by have := HL.out; omega), by simp⟩
      obtain ⟨g1, o1, rfl, q1⟩ : ∃ b o, ao = some ⟨b, o, none⟩ ∧ ∀ k s, l[k]? = some s → w.cell? ⟨b, o + k, none⟩ = some (.string s) := by
        rcases H.out with e | e
        · rw [e.2.1] at hy; simp at hy
        · exact e
      have r1 : w.cell? ⟨g1, o1 + j, none⟩ = some (.string y) := q1 j y hy
      have i0 : (0 : Int) ≤ (j : Int) := by omega
      have i1 : (j : Int) < (L : Int) := by omega
      have HY : Hid (l[j]? = some y) := hy
      clear q1 hy
      have HRT : Hid ((y.toList == x.toList) = true → firstIdx x l = some j) := fun hq => firstIdx_hit HAG.out (by rw [HY.out, text_same hq])
      have HRF : Hid ((y.toList == x.toList) = false → ∀ k, k < j + 1 → l[k]? ≠ some x) := fun hq k hk => by
        rcases Nat.lt_or_ge k j with c | c
        · exact HAG.out k c
        · obtain rfl : k = j := by omega
          rw [HY.out]
          intro e
          exact text_other hq (Option.some.inj e)
      cases hq : (y.toList == x.toList) with
      | true =>
        have HR : Hid (firstIdx x l = some j) := HRT.out hq
        go_wp2
        go_ret
        exact ⟨by rw [HR.out]; rfl, rfl⟩
      | false =>
        have HR : Hid (∀ k, k < j + 1 → l[k]? ≠ some x) := HRF.out hq
        go_wp2
        exact ⟨⟨j + 1, by go_num, hlt, HR.out⟩, by simp [intOf]; omega⟩
    · obtain rfl : j = L := by omega
      have HE : Hid (firstIdx x l = none) := firstIdx_miss (fun k hk => HAG.out k (by have := HL.out; omega))
      go_wp2
      go_ret
      exact ⟨by rw [HE.out]; rfl, rfl⟩
end Go.Proofs.YthhbpebihgjpjaaGreatDoor

namespace Go.Proofs.YthhbpebihgjpjaaGreatDoor
open Go.RowKit
set_option maxRecDepth 1000000

def wordsB (s : ByteArray) : List ByteArray := (wordSpans s).map fun x => s.extract x.1 x.2
/-- The file that a name stands for. -/
def fileOf (names data : List ByteArray) (x : ByteArray) : Option ByteArray := (firstIdx x names).bind fun k => data[k]?
def catAll (names data : List ByteArray) : List ByteArray → ByteArray → Option ByteArray
  | [], out => some out
  | x :: r, out => match fileOf names data x with
    | some d => catAll names data r (out ++ d)
    | none => none
def hashAll (names data : List ByteArray) : List ByteArray → ByteArray → Option ByteArray
  | [], t => some t
  | x :: r, t => match fileOf names data x with
    | some d => hashAll names data r ((t ++ fourStr d.size) ++ d)
    | none => none
def echoAll : List ByteArray → ByteArray → ByteArray
  | [], out => out
  | x :: r, out => echoAll r ((out ++ ⟨#[32]⟩) ++ x)
def echoOf : List ByteArray → ByteArray
  | [] => ⟨#[10]⟩
  | x :: r => echoAll r x ++ ⟨#[10]⟩
/-- A digit to the base 16. -/
def hexByte (n : Nat) : UInt8 := UInt8.ofNat (if n < 10 then 48 + n else 87 + n)
def hexUpTo (s : ByteArray) : Nat → ByteArray
  | 0 => ⟨#[]⟩
  | n + 1 => (hexUpTo s n ++ ⟨#[hexByte ((s.get! n).toNat / 16)]⟩) ++ ⟨#[hexByte ((s.get! n).toNat % 16)]⟩
/-- What a command makes, whatever its size: of its words. -/
def hashOf (names data : List ByteArray) : List ByteArray → Option ByteArray
  | [] => none
  | y :: q => (hashAll names data q (y ++ ⟨#[0]⟩)).map fun t => hexUpTo (outStr (codeSum keyAt t.data.toList).byte) 32
def refRun (names data : List ByteArray) : List ByteArray → Option ByteArray
  | [] => none
  | x :: r => if (x.toList == [99, 97, 116]) = true then catAll names data r ⟨#[]⟩ else if (x.toList == [104, 97, 115, 104]) = true then hashOf names data r else if (x.toList == [101, 99, 104, 111]) = true then some (echoOf r) else none
def runBool : Option ByteArray → Bool
  | some out => decide ((out.size : Int) ≤ 4000)
  | none => false
/-- The loop of 'echo' at word j (from 1 on). -/
def EchoAt (r : List ByteArray) (j : Nat) (out : ByteArray) : Prop :=
  (j = 1 ∧ out = ⟨#[]⟩) ∨ ∃ x q, r = x :: q ∧ 2 ≤ j ∧ echoAll (q.drop (j - 2)) out = echoAll q x
theorem EchoAt.end {r : List ByteArray} {j : Nat} {out : ByteArray} (h : EchoAt r j out) (hl : r.length + 1 = j) : echoOf r = out ++ ⟨#[10]⟩ := by
  rcases h with ⟨rfl, rfl⟩ | ⟨x, q, rfl, h2, he⟩
  · obtain rfl : r = [] := List.eq_nil_of_length_eq_zero (by omega)
    rfl
  · rw [List.drop_of_length_le (by simp at hl; omega)] at he
    rw [echoOf, ← he, echoAll]
theorem EchoAt.first {r : List ByteArray} {y out : ByteArray} (h : EchoAt r 1 out) (hy : r[0]? = some y) : EchoAt r 2 (out ++ y) := by
  rcases h with ⟨_, rfl⟩ | ⟨x, q, rfl, h2, he⟩
  · cases r with
    | nil => simp at hy
    | cons x q =>
      simp at hy
      subst hy
      refine Or.inr ⟨x, q, rfl, Nat.le_refl _, ?_⟩
      show echoAll q (ByteArray.mk #[] ++ x) = _
      rw [show (ByteArray.mk #[]) = ByteArray.empty from rfl, ByteArray.empty_append]
  · omega
theorem EchoAt.more {r : List ByteArray} {j : Nat} {y out : ByteArray} (h : EchoAt r j out) (hj : 2 ≤ j) (hy : r[j - 1]? = some y) : EchoAt r (j + 1) ((out ++ ⟨#[32]⟩) ++ y) := by
  rcases h with ⟨rfl, rfl⟩ | ⟨x, q, rfl, h2, he⟩
  · omega
  · refine Or.inr ⟨x, q, rfl, by omega, ?_⟩
    have hy' : q[j - 2]? = some y := by
      rw [show j - 1 = (j - 2) + 1 by omega] at hy
      simpa using hy
    obtain ⟨h1, h3⟩ := List.getElem?_eq_some_iff.1 hy'
    rw [← he, List.drop_eq_getElem_cons h1, h3, echoAll, show j - 2 + 1 = j + 1 - 2 by omega]
/-- What the document's Run answers. -/
def RunPost (o : Option ByteArray) (w : World) (e : Ending) (w' : World) : Prop := e = .returned (.tuple #[.string (o.getD ⟨#[]⟩), .bool (runBool o)]) ∧ Keeps w.heap.size w w'
end Go.Proofs.YthhbpebihgjpjaaGreatDoor
