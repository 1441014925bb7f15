import Derived.Test.YthhbpebihgjpjaaGreatDoorR35
namespace Go.Proofs.YthhbpebihgjpjaaGreatDoor
open Go.RowKit Go.Shelf
set_option maxRecDepth 1000000

/-- Texts with a blank between. -/
def joinB : List ByteArray → ByteArray
  | [] => ⟨#[]⟩
  | x :: q => echoAll q x
theorem echoAll_join : ∀ (q : List ByteArray) (x : ByteArray), (echoAll q x).data.toList = x.data.toList ++ Lib.joinTail [32] (q.map (·.data.toList))
  | [], x => by simp [echoAll, Lib.joinTail]
  | y :: r, x => by
    rw [echoAll, echoAll_join r]
    simp [Lib.joinTail, ByteArray.data_append]
theorem echoAll_size (M : Nat) : ∀ (q : List ByteArray) (x : ByteArray), (∀ y ∈ q, y.size ≤ M) → (echoAll q x).size ≤ x.size + q.length * (M + 1)
  | [], x, _ => by simp [echoAll]
  | y :: r, x, h => by
    have h1 := echoAll_size M r ((x ++ ⟨#[32]⟩) ++ y) (fun z hz => h z (by simp [hz]))
    have h2 := h y (by simp)
    rw [echoAll]
    rw [ByteArray.size_append, ByteArray.size_append] at h1
    have h3 : (ByteArray.mk #[32]).size = 1 := rfl
    rw [List.length_cons, Nat.add_mul]
    omega
theorem joinB_size (M : Nat) (l : List ByteArray) (h : ∀ y ∈ l, y.size ≤ M) : (joinB l).size ≤ l.length * (M + 1) := by
  cases l with
  | nil => exact Nat.zero_le _
  | cons x q =>
    have h1 := echoAll_size M q x (fun z hz => h z (by simp [hz]))
    have h2 := h x (by simp)
    rw [joinB, List.length_cons, Nat.add_mul]
    omega

theorem join_any (l : List ByteArray) (v : Value) (w : World) (h : TextsAt w v l) (hl : l.length ≤ 1048577) (hs : ∀ y ∈ l, y.size ≤ 1048576) :
    Calls Tryz.prog 200 #[v, .string ⟨#[32]⟩] w fun e w' => e = .returned (.string (joinB l)) ∧ Below w.heap.size w w' := by
  obtain ⟨ao, cap, rfl, hcap, h⟩ := h
  cases l with
  | nil =>
    refine (Any.strings_Join_none Tryz.lays156 Tryz.Builder_Extra_156 ao cap ⟨#[32]⟩ w).mono ?_
    rintro e w' ⟨he, hw⟩
    exact ⟨he, by rw [hw]; exact Below.refl _ _⟩
  | cons x q =>
    obtain ⟨b, o, rfl, hc⟩ : ∃ b o, ao = some ⟨b, o, none⟩ ∧ ∀ k s, (x :: q)[k]? = some s → w.cell? ⟨b, o + k, none⟩ = some (.string s) := by
      rcases h with e | e
      · cases e.2.1
      · exact e
    have hj : Lib.join ((x :: q).map (·.data.toList)) (ByteArray.mk #[32]).data.toList = (echoAll q x).data.toList := by
      rw [List.map_cons, Lib.join_cons, echoAll_join]
    have hz := joinB_size 1048576 (x :: q) hs
    refine (Any.strings_Join Tryz.lays156 Tryz.Builder_Extra_156 b o cap (x :: q) ⟨#[32]⟩ w hc (block_lt_of_cell (hc 0 x rfl)) (by omega) hcap ?_).mono ?_
    · rw [hj]
      show (echoAll q x).size ≤ _
      have : (joinB (x :: q)).size = (echoAll q x).size := rfl
      omega
    · rintro e w' ⟨he, hw⟩
      refine ⟨?_, hw⟩
      rw [he, hj]
      rfl

set_option maxHeartbeats 2000000 in
theorem echo_any (r : List ByteArray) (vw rv : Value) (w : World) (hw : TextsAt w vw r) (hl : r.length ≤ 1048577) (hrs : ∀ d ∈ r, d.size ≤ 1048576) :
    Calls Tryz.prog 297 #[.agg #[vw, rv]] w fun e w' => e = .returned (readPost (some (echoOf r))) ∧ Below w.heap.size w w' := by
  have HW : Hid (TextsAt w vw r) := hw
  have HL : Hid (r.length ≤ 1048577) := hl
  have HS : Hid (∀ d ∈ r, d.size ≤ 1048576) := hrs
  have HE : Hid (joinB r ++ ⟨#[10]⟩ = echoOf r) := by
    cases r with
    | nil => rfl
    | cons x q => rfl
  have hz : ¬ 9223372036854775807 < (joinB r).size + 1 := by have := joinB_size 1048576 r hrs; omega
  clear hw hl hrs
  generalize hJ : joinB r = J at *
  have HJ : Hid (joinB r = J) := hJ
  clear hJ
  go_enter Tryz.func297, Tryz.ntmps297
  go_wp2_with fail
  refine (join_any r vw _ (HW.out.keepB ((Below.refl _ _).alloc (Nat.le_refl _) _)) HL.out HS.out).mono ?_
  rintro e w2 ⟨rfl, hb2⟩
  have HB : Hid (Below w.heap.size w w2) := ((Below.refl _ _).alloc (Nat.le_refl _) _).trans (hb2.mono (by simp))
  clear hb2
  rw [HJ.out]
  go_wp2_with fail
  go_ret2
  exact ⟨by rw [← HE.out]; rfl, HB.out⟩
end Go.Proofs.YthhbpebihgjpjaaGreatDoor
