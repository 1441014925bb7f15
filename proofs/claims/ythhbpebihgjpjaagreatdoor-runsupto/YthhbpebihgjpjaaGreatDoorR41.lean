import Derived.Test.YthhbpebihgjpjaaGreatDoorR40
import Derived.Laws.EntriesVeiled
import Derived.Test.YthhbpebihgjpjaaGreatDoorR33
import Derived.Shelf.Strings.FieldsFuncAny
import Derived.Test.YthhbpebihgjpjaaGreatDoorShelf
import Derived.Test.YthhbpebihgjpjaaGreatDoorR31
import Derived.BigRegion
import Derived.Deep.AppendLies
import Derived.Laws.AppendOwnNone
namespace Go.Proofs.YthhbpebihgjpjaaGreatDoor
open Go.RowKit Go.Maps
set_option maxRecDepth 1000000

def catV : Value := .func (.func 295) #[] #[]
def hashV : Value := .func (.func 296) #[] #[]
def echoV : Value := .func (.func 297) #[] #[]
def doerOf (x : ByteArray) : Option Value :=
  if x = ⟨#[101, 99, 104, 111]⟩ then some echoV else if x = ⟨#[104, 97, 115, 104]⟩ then some hashV else if x = ⟨#[99, 97, 116]⟩ then some catV else none

set_option maxHeartbeats 2000000 in
theorem doers_any (w : World) : Calls Tryz.prog 221 #[] w fun e w' => ∃ b, e = .returned (.map (some b)) ∧ TMap funC .nilFunc w' b 3 doerOf ∧ Below w.heap.size w w' := by
  have hmm := @run_makeMap Tryz.prog
  have m0 := TMap.made funC .nilFunc ⟨_, _, rfl⟩ w
  obtain ⟨w1, r1, m1, g1⟩ := m0.store Tryz.underlying346 (by decide) ⟨#[99, 97, 116]⟩ (by decide) catV ⟨_, _, rfl⟩
  obtain ⟨w2, r2, m2, g2⟩ := m1.store Tryz.underlying346 (by decide) ⟨#[104, 97, 115, 104]⟩ (by decide) hashV ⟨_, _, rfl⟩
  obtain ⟨w3, r3, m3, g3⟩ := m2.store Tryz.underlying346 (by decide) ⟨#[101, 99, 104, 111]⟩ (by decide) echoV ⟨_, _, rfl⟩
  have HM : Hid (TMap funC .nilFunc w3 w.heap.size 3 doerOf) := m3
  have HB : Hid (Below w.heap.size w w3) := (((Below.refl _ _).alloc (Nat.le_refl _) _).grown g1 (by simp) (fun k hk => by cases hk; exact Nat.le_refl _)).grown g2 (by have := g1.size; simp at this; omega) (fun k hk => by cases hk; exact Nat.le_refl _) |>.grown g3 (by have := g1.size; have := g2.size; simp at *; omega) (fun k hk => by cases hk; exact Nat.le_refl _)
  clear m0 m1 m2 m3 g1 g2 g3
  unfold catV at r1
  unfold hashV at r2
  unfold echoV at r3
  go_enter Tryz.func221, Tryz.ntmps221
  go_wp2_with fail
  go_ret
  exact ⟨w.heap.size, rfl, HM.out, HB.out⟩
end Go.Proofs.YthhbpebihgjpjaaGreatDoor

namespace Go.Proofs.YthhbpebihgjpjaaGreatDoor
open Go.RowKit Go.Shelf Go.Lib
set_option maxRecDepth 1000000

theorem blank_pred (w : World) : PredAt Tryz.prog 294 #[] encR isBlank w := fun W r _ => by
  unfold FnGives
  by_cases h : r = 32
  · subst h
    go_enter Tryz.func294, Tryz.ntmps294
    go_wp2
    go_ret
    exact ⟨rfl, 0, rfl⟩
  · have h1 : ¬ (r : Int) = 32 := by omega
    have h2 : isBlank r = false := by simpa [isBlank] using h
    go_enter Tryz.func294, Tryz.ntmps294
    go_wp2
    go_ret
    exact ⟨by rw [h2]; simp [h1], 0, rfl⟩

set_option maxHeartbeats 2000000 in
theorem wordsOf_any (s : ByteArray) (hs : s.size ≤ 1048576) (w : World) :
    Calls Tryz.prog 220 #[.string s] w fun e w' => ∃ A, e = .returned (.slice (some ⟨A, 0, none⟩) (wordsB s).length (wordsB s).length) ∧ w.heap.size ≤ A ∧ w'.ownsRow w.heap.size 9 1 (.slice (some ⟨A, 0, none⟩) (wordsB s).length (wordsB s).length) (wordsB s).length ((wordsB s).map Value.string) ∧ Below w.heap.size w w' := by
  have hC := Any.strings_FieldsFunc Tryz.lays229 294 #[] (enters_of Tryz.func294 (by kernel_rfl) rfl) isBlank s w (by omega) (blank_pred w) (by kernel_rfl) (by kernel_rfl)
  rw [fields_blank s, show ((wordSpans s).map fun x => s.extract x.1 x.2) = wordsB s from rfl] at hC
  change Calls Tryz.prog 293 _ _ _ at hC
  go_enter Tryz.func220, Tryz.ntmps220
  go_wp2_with (go_at_call 293; refine hC.mono ?_; rintro e w' ⟨A, rfl, hA, hown, hb⟩)
  go_ret
  exact ⟨A, rfl, hA, hown, hb⟩
end Go.Proofs.YthhbpebihgjpjaaGreatDoor

namespace Go.Proofs.YthhbpebihgjpjaaGreatDoor
open Go.RowKit
set_option maxRecDepth 1000000

/-- An owned row of texts is a list that is there. -/
theorem texts_of_row {w : World} {base : Nat} {v : Value} {l : List ByteArray} (h : w.ownsRow base 9 1 v l.length (l.map Value.string)) : TextsAt w v l := by
  obtain ⟨_, ⟨rfl, h0⟩ | ⟨g, cap, cur, rfl, _, hh, hc, _, _, htk⟩⟩ := h
  · have : l = [] := List.eq_nil_of_length_eq_zero h0
    subst this
    exact ⟨none, 0, rfl, Nat.le_refl _, Or.inl ⟨fun _ => rfl, rfl, trivial⟩⟩
  · refine ⟨_, cap, rfl, hc, Or.inr ⟨g, 0, rfl, fun k s hs => ?_⟩⟩
    have hk : k < l.length := (List.getElem?_eq_some_iff.1 hs).1
    rw [Nat.zero_add, cell_of_row _ _ _ _ _ _ hh, ← Array.getElem?_toList]
    have h2 : (l.map Value.string)[k]? = some (.string s) := by simp [hs]
    rw [← htk, List.getElem?_take, if_pos (by omega)] at h2
    exact h2

set_option maxHeartbeats 2000000 in
theorem texts_any (l : List ByteArray) (v : Value) (w : World) (h : TextsAt w v l) (hs : l.length ≤ 1048576) :
    Calls Tryz.prog 84 #[v] w fun e w' => ∃ v', e = .returned v' ∧ w'.ownsRow w.heap.size 9 1 v' l.length (l.map Value.string) ∧ Below w.heap.size w w' := by
  have hinf : (Tryz.prog.info? 9).map (fun i => (i.size, i.bytes, i.zero)) = some (1, 16, some (.string ⟨#[]⟩)) := by kernel_rfl
  obtain ⟨ti, hti, htj⟩ := Option.map_eq_some_iff.1 hinf
  simp only [Prod.mk.injEq] at htj
  have HTI : Hid (Tryz.prog.info? 9 = some ti ∧ ti.size = 1 ∧ ti.bytes = 16 ∧ ti.zero = some (.string ⟨#[]⟩)) := ⟨hti, htj.1, htj.2.1, htj.2.2⟩
  have HBA : Hid (Below w.heap.size w (w.alloc (.cells #[] 9))) := (Below.refl _ _).alloc (Nat.le_refl _) _
  have HOW : Hid ((w.alloc (.cells #[] 9)).ownsRow w.heap.size 9 1 (.slice (some ⟨w.heap.size, 0, none⟩) 0 0) 0 []) := ⟨rfl, Or.inr ⟨w.heap.size, 0, #[], rfl, Nat.le_refl _, heapA_new _ _ _ rfl, Nat.le_refl _, Nat.zero_le _, rfl, rfl⟩⟩
  clear hinf hti htj
  obtain ⟨ao, cap, rfl, hc, h⟩ := h
  rcases h with ⟨h0, rfl, _⟩ | ⟨b, o, rfl, h⟩
  · cases ao with
    | none =>
      obtain rfl := h0 rfl
      go_enter Tryz.func84, Tryz.ntmps84
      go_wp2_with (refine wpList_append_own_none rfl (.tmp 3) (.tmp 4) 32 rfl w.heap.size 9 ti 1 Tryz.underlying32 HTI.out.1 _ 0 [] rfl (by exact HOW.out) rfl ?_; refine Hid.out ?_)
      generalize w.alloc (.cells #[] 9) = w5 at *
      unfold Hid
      go_wp2
      go_ret
      exact ⟨_, rfl, HOW.out, HBA.out⟩
    | some a0 =>
      clear h0
      go_enter Tryz.func84, Tryz.ntmps84
      go_wp2_with (refine wpList_append_own _ rfl (.tmp 3) (.tmp 4) 32 rfl w.heap.size 9 ti (.string ⟨#[]⟩) 1 16 Tryz.underlying32 HTI.out.1 HTI.out.2.2.2 HTI.out.2.1 HTI.out.2.2.1 rfl (by decide) _ 0 [] rfl (by exact HOW.out) a0 0 cap [] rfl rfl (by intro j u hu; simp at hu) (by intro u hu; cases hu) (by unfold maxLen; omega) (by omega) (by simp) ?_; intro v5 w5 hv5 hg5 hn5; refine Hid.out ?_)
      have HB5 : Hid (Below w.heap.size w w5) := HBA.out.grown hg5 (by simp) (fun k hk => by have h : w.heap.size = k := Option.some.inj hk; omega)
      have HO5 : Hid (w5.ownsRow w.heap.size 9 1 v5 0 []) := hv5
      clear hv5 hg5 hn5
      unfold Hid
      go_wp2
      go_ret
      exact ⟨_, rfl, HO5.out, HB5.out⟩
  · have HNW : Hid (∀ (ob : Obj) (j : Nat) u, (l.map Value.string)[j]? = some u → (w.alloc ob).cell? ((⟨b, o, none⟩ : Addr).add j) = some u) := by
      intro ob j u hu
      have hadd : (⟨b, o, none⟩ : Addr).add j = ⟨b, o + j, none⟩ := by unfold Addr.add; split <;> simp_all
      obtain ⟨s, hs1, rfl⟩ : ∃ s, l[j]? = some s ∧ .string s = u := by simpa using hu
      have hcell := h j s hs1
      rw [hadd, World.cell?_alloc_lt _ _ ⟨b, o + j, none⟩ (block_lt_of_cell hcell)]; exact hcell
    have HONE : Hid (∀ u ∈ l.map Value.string, u.oneCell' = true) := by
      intro u hu
      obtain ⟨s, _, rfl⟩ := List.mem_map.1 hu
      rfl
    clear h
    go_enter Tryz.func84, Tryz.ntmps84
    go_wp2_with (refine wpList_append_own _ rfl (.tmp 3) (.tmp 4) 32 rfl w.heap.size 9 ti (.string ⟨#[]⟩) 1 16 Tryz.underlying32 HTI.out.1 HTI.out.2.2.2 HTI.out.2.1 HTI.out.2.2.1 rfl (by decide) _ 0 [] rfl (by exact HOW.out) ⟨b, o, none⟩ l.length cap (l.map Value.string) rfl (by simp) (by exact HNW.out _) (by exact HONE.out) (by unfold maxLen; omega) (by omega) (by simp) ?_; intro v5 w5 hv5 hg5 hn5; refine Hid.out ?_)
    have HB5 : Hid (Below w.heap.size w w5) := HBA.out.grown hg5 (by simp) (fun k hk => by have h : w.heap.size = k := Option.some.inj hk; omega)
    have HO5 : Hid (w5.ownsRow w.heap.size 9 1 v5 l.length (l.map Value.string)) := by have := hv5; rw [Nat.zero_add] at this; exact this
    clear hv5 hg5 hn5 HNW HONE
    unfold Hid
    go_wp2
    go_ret
    exact ⟨_, rfl, HO5.out, HB5.out⟩
end Go.Proofs.YthhbpebihgjpjaaGreatDoor
