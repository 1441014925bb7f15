import Derived.Test.YthhbpebihgjpjaaGreatDoorJ13
import Derived.Deep.AppendLies
import Derived.Test.YthhbpebihgjpjaaGreatDoorJ09
namespace Go.Proofs.YthhbpebihgjpjaaGreatDoor
open Go.RowKit Go.MuLone Go.Maps
set_option maxRecDepth 1000000

/-- An operation that the program keeps. -/
structure KeptV where
  fn : Nat
  cap : Array Value
  data : ByteArray
  cuts : Bool
def opcells (l : List KeptV) : List Value := l.flatMap fun x => [.func (.func x.fn) #[] x.cap, .string x.data, .bool x.cuts]
theorem opcells_append (l r : List KeptV) : opcells (l ++ r) = opcells l ++ opcells r := by simp [opcells]
structure OwnS (v : Value) (l : List KeptV) (w : World) : Prop where
  own : w.ownsRow 0 120 3 v l.length (opcells l)
theorem OwnS.form {v : Value} {l : List KeptV} {w : World} (h : OwnS v l w) : ∃ ao cap, v = .slice ao l.length cap := by
  obtain ⟨_, ⟨rfl, h0⟩ | ⟨g, cap, cur, rfl, _⟩⟩ := h.own
  · exact ⟨none, 0, by rw [h0]⟩
  · exact ⟨_, _, rfl⟩
theorem OwnS.keep {v : Value} {l : List KeptV} {w w' : World} (h : OwnS v l w) (hb : ∀ k, v.ownBlock = some k → w'.heap[k]? = w.heap[k]?) : OwnS v l w' := by
  obtain ⟨h1, ⟨rfl, h0⟩ | ⟨g, cap, cur, rfl, hg, hh, r⟩⟩ := h.own
  · exact ⟨⟨h1, Or.inl ⟨rfl, h0⟩⟩⟩
  · exact ⟨⟨h1, Or.inr ⟨g, cap, cur, rfl, hg, by rw [hb g rfl]; exact hh, r⟩⟩⟩
theorem OwnS.lt {v : Value} {l : List KeptV} {w : World} (h : OwnS v l w) (k : Nat) (hk : v.ownBlock = some k) : k < w.heap.size := by
  obtain ⟨h1, ⟨rfl, h0⟩ | ⟨g, cap, cur, rfl, hg, hh, r⟩⟩ := h.own
  · cases hk
  · have e : g = k := Option.some.inj hk
    subst e
    rcases Nat.lt_or_ge g w.heap.size with c | c
    · exact c
    · rw [Array.getElem?_eq_none c] at hh; cases hh

set_option maxHeartbeats 4000000 in
theorem operate_any (fn : Nat) (cap : Array Value) (data : ByteArray) (cuts : Bool) (S : List KeptV) (M : World → Prop) (d : ProgD) (fb : Nat) (lk : Int) (nb sb : Nat) (sv : Value) (w : World) (h : ProgRow w fb d lk nb sb sv) (hhi : d.fuse ≤ 9223372036854775807) (hdn : (burnD d).down = false)
    (hS : OwnS sv S w) (hSl : S.length ≤ 1048576) (hne : sv.ownBlock ≠ some fb ∧ sv.ownBlock ≠ some nb ∧ fb ≠ nb) (hnb : nb < w.heap.size)
    (hen : ∀ (w : World) (args : Array Value), (callFunc fn args).run Tryz.prog w = .ok (.enter fn args) w)
    (hcall : ∀ w2, ProgRow w2 fb (burnD d) lk nb sb sv → Turns (fun k => k = fb) w w2 → Calls Tryz.prog fn (#[.string data] ++ cap) w2 (fun e w' => e = .returned (.tuple #[]) ∧ M w' ∧ Turns (fun k => k = nb) w2 w'))
    (hM : ∀ w w' : World, M w → w'.heap[nb]? = w.heap[nb]? → M w') :
    Calls Tryz.prog 75 #[.pointer (some ⟨fb, 0, none⟩), .agg #[.func (.func fn) #[] cap, .string data, .bool cuts]] w fun e w' => ∃ sv', e = .returned .nilIface ∧ ProgRow w' fb (burnD d) lk nb sb sv' ∧ M w' ∧ OwnS sv' (S ++ [⟨fn, cap, data, cuts⟩]) w' ∧ Turns (fun k => k = fb ∨ k = nb ∨ sv.ownBlock = some k) w w' ∧ Lies sv sv' w := by
  have HR : Hid (ProgRow (w.alloc (.cells #[.func (.func fn) #[] cap, .string data, .bool cuts] 120)) fb d lk nb sb sv) := (heapA_old w _ fb h.lt).trans h
  have HC : Hid ((w.alloc (.cells #[.func (.func fn) #[] cap, .string data, .bool cuts] 120)).heap[w.heap.size]? = some (.cells #[.func (.func fn) #[] cap, .string data, .bool cuts] 120 (0, 0))) := heapA_new _ _ _ rfl
  have HT : Hid (Turns (fun k => k = fb) w (w.alloc (.cells #[.func (.func fn) #[] cap, .string data, .bool cuts] 120))) := Turns.of_below _ ((Below.refl _ _).alloc (Nat.le_refl _) _)
  have hlt := h.lt
  have HZ : Hid ((w.alloc (.cells #[.func (.func fn) #[] cap, .string data, .bool cuts] 120)).heap.size = w.heap.size + 1) := World.size_alloc _ _
  have HS : Hid (OwnS sv S w) := hS
  obtain ⟨asv, cs, hform⟩ := hS.form
  subst hform
  have HCALL : Hid (∀ w2, ProgRow w2 fb (burnD d) lk nb sb (.slice asv S.length cs) → Turns (fun k => k = fb) w w2 → Calls Tryz.prog fn (#[.string data] ++ cap) w2 (fun e w' => e = .returned (.tuple #[]) ∧ M w' ∧ Turns (fun k => k = nb) w2 w')) := hcall
  have HMK : Hid (∀ w w' : World, M w → w'.heap[nb]? = w.heap[nb]? → M w') := hM
  have HEN : Hid (∀ (w : World) (args : Array Value), (callFunc fn args).run Tryz.prog w = .ok (.enter fn args) w) := hen
  have hinf : (Tryz.prog.info? 120).map (fun i => (i.size, i.bytes, i.zero)) = some (3, 32, some (.agg #[.nilFunc, .string ⟨#[]⟩, .bool false])) := by kernel_rfl
  obtain ⟨ti, hti, htj⟩ := Option.map_eq_some_iff.1 hinf
  simp only [Prod.mk.injEq] at htj
  have HTI : Hid (Tryz.prog.info? 120 = some ti ∧ ti.size = 3 ∧ ti.bytes = 32 ∧ ti.zero = some (.agg #[.nilFunc, .string ⟨#[]⟩, .bool false])) := ⟨hti, htj.1, htj.2.1, htj.2.2⟩
  clear h hS hcall hM hen hinf hti htj
  go_enter Tryz.func75, Tryz.ntmps75
  go_wp2_with fail
  generalize w.alloc (.cells #[.func (.func fn) #[] cap, .string data, .bool cuts] 120) = w1 at *
  refine (burn_any d fb lk nb sb _ w1 HR.out hhi).mono ?_
  rintro e w2 ⟨rfl, hr2, ht2⟩
  rw [hdn]
  have HC2 : Hid (w2.heap[w.heap.size]? = some (.cells #[.func (.func fn) #[] cap, .string data, .bool cuts] 120 (0, 0))) := (ht2.block _ (by rw [HZ.out]; omega) (by omega)).trans HC.out
  have HR2 : Hid (ProgRow w2 fb (burnD d) lk nb sb (.slice asv S.length cs)) := hr2
  have HT2 : Hid (Turns (fun k => k = fb) w w2) := HT.out.trans ht2 (fun i hi => Or.inl hi)
  have hsz2 : w.heap.size < w2.heap.size := by have := ht2.size; rw [HZ.out] at this; omega
  have o0 : w2.cell? ⟨w.heap.size, 0, none⟩ = some (.func (.func fn) #[] cap) := by rw [cell_of_row _ _ _ _ _ _ HC2.out]; rfl
  have o1 : w2.cell? ⟨w.heap.size, 1, none⟩ = some (.string data) := by rw [cell_of_row _ _ _ _ _ _ HC2.out]; rfl
  clear hr2 ht2 HC HR HT
  go_wp2_with fail
  rw [HEN.out, Oper.upon_enter]
  refine (HCALL.out w2 HR2.out HT2.out).mono ?_
  rintro e w3 ⟨rfl, hm3, ht3⟩
  have HC3 : Hid (w3.heap[w.heap.size]? = some (.cells #[.func (.func fn) #[] cap, .string data, .bool cuts] 120 (0, 0))) := (ht3.block _ hsz2 (by omega)).trans HC2.out
  have HR3 : Hid (ProgRow w3 fb (burnD d) lk nb sb (.slice asv S.length cs)) := (ht3.block fb HR2.out.lt hne.2.2).trans HR2.out
  have HT3 : Hid (Turns (fun k => k = fb ∨ k = nb) w w3) := (HT2.out.mono (fun k hk => Or.inl hk)).trans ht3 (fun i hi => Or.inl (Or.inr hi))
  have HM3 : Hid (M w3) := hm3
  have p0 : w3.cell? ⟨w.heap.size, 0, none⟩ = some (.func (.func fn) #[] cap) := by rw [cell_of_row _ _ _ _ _ _ HC3.out]; rfl
  have p1 : w3.cell? ⟨w.heap.size, 1, none⟩ = some (.string data) := by rw [cell_of_row _ _ _ _ _ _ HC3.out]; rfl
  have p2 : w3.cell? ⟨w.heap.size, 2, none⟩ = some (.bool cuts) := by rw [cell_of_row _ _ _ _ _ _ HC3.out]; rfl
  have c5 : w3.cell? ⟨fb, 5, none⟩ = some (.slice asv S.length cs) := by rw [cell_of_row _ _ _ _ _ _ HR3.out]; rfl
  have f5 : w3.frozen? ⟨fb, 5, none⟩ = false := frozen_of_row _ _ _ _ _ HR3.out
  have HS3 : Hid (OwnS (.slice asv S.length cs) S w3) := HS.out.keep (fun k hk => HT3.out.block k (HS.out.lt k hk) (fun e => by rcases e with e | e; exact hne.1 (by rw [hk, e]); exact hne.2.1 (by rw [hk, e])))
  clear hm3 ht3 HC2 HR2 HT2 o0 o1 HS HCALL
  go_wp2_with fail
  have nfb5 : some fb ≠ (Value.slice asv S.length cs).ownBlock := fun e => hne.1 e.symm
  have hfb5 : fb < w3.heap.size := HR3.out.lt
  have hop5 : w.heap.size < w3.heap.size := block_lt_of_cell p0
  go_region_law (refine step_append_lies _ rfl (.tmp 17) (.tmp 19) 93 rfl 0 120 ti (.agg #[.nilFunc, .string ⟨#[]⟩, .bool false]) 3 32 Tryz.underlying93 HTI.out.1 HTI.out.2.2.2 HTI.out.2.1 HTI.out.2.2.1 rfl (by decide) _ S.length (opcells S) rfl (by exact (HS3.out.keep (fun k hk => heapA_old w3.drew _ k (HS3.out.lt k hk))).own) ⟨w3.heap.size, 0, none⟩ 1 1 [.func (.func fn) #[] cap, .string data, .bool cuts] rfl rfl (by exact new_cells w3.drew _ _) (by intro u hu; simp at hu; rcases hu with rfl | rfl | rfl <;> rfl) (by decide) (by unfold maxLen; omega) (by omega) (Nat.zero_le _) _ rfl ?_; intro g6 cap6 w6 hv6 hg6 hat6 hlt6; have hrow6 : w6.heap[fb]? = w3.heap[fb]? := (hg6.block fb (by simp; omega) nfb5).trans (heapA_old w3.drew _ fb hfb5); have c56 : w6.cell? ⟨fb, 5, none⟩ = some (.slice asv S.length cs) := (World.cell?_of_block (w := w3) (a := ⟨fb, 5, none⟩) hrow6).trans c5; have f56 : w6.frozen? ⟨fb, 5, none⟩ = false := (World.frozen?_of_block (w := w3) (a := ⟨fb, 5, none⟩) hrow6).trans f5)
  all_goals
    have hgb : ∀ k, k < w3.heap.size → some k ≠ (Value.slice asv S.length cs).ownBlock → w6.heap[k]? = w3.heap[k]? := fun k hk hn => (hg6.block k (by simp; omega) hn).trans (heapA_old w3.drew _ k hk)
    have hgf : g6 ≠ fb := by
      rcases hat6 with e | e
      · intro e2; exact hne.1 (by rw [← e2]; exact e)
      · rw [e]; simp; omega
    have HO : Hid (OwnS (.slice (some ⟨g6, 0, none⟩) (S.length + 1) cap6) (S ++ [⟨fn, cap, data, cuts⟩]) (w6.setCell ⟨fb, 5, none⟩ (.slice (some ⟨g6, 0, none⟩) (S.length + 1) cap6))) := by
      have h1 : OwnS (.slice (some ⟨g6, 0, none⟩) (S.length + 1) cap6) (S ++ [⟨fn, cap, data, cuts⟩]) w6 := ⟨by rw [List.length_append, opcells_append]; exact hv6⟩
      exact h1.keep (fun k hk => heap_setCell_other _ _ _ _ (by have e : g6 = k := Option.some.inj hk; subst e; exact hgf))
    have HR7 : Hid (ProgRow (w6.setCell ⟨fb, 5, none⟩ (.slice (some ⟨g6, 0, none⟩) (S.length + 1) cap6)) fb (burnD d) lk nb sb (.slice (some ⟨g6, 0, none⟩) (S.length + 1) cap6)) := ProgRow.setSince (sv := .slice asv S.length cs) (hrow6.trans HR3.out) _
    have HM7 : Hid (M (w6.setCell ⟨fb, 5, none⟩ (.slice (some ⟨g6, 0, none⟩) (S.length + 1) cap6))) := HMK.out _ _ HM3.out (by rw [heap_setCell_other _ _ _ _ (fun e => hne.2.2 e.symm)]; exact hgb nb (Nat.lt_of_lt_of_le hnb HT3.out.size) (fun e => hne.2.1 e.symm))
    have HT6 : Hid (Turns (fun k => k = fb ∨ k = nb ∨ (Value.slice asv S.length cs).ownBlock = some k) w w6) := (HT3.out.mono (fun k hk => by rcases hk with e | e; exact Or.inl e; exact Or.inr (Or.inl e))).trans (G := fun k => (Value.slice asv S.length cs).ownBlock = some k) ⟨hg6.os, hg6.output, by have := hg6.size; simp at this; omega, fun k hk hn => hgb k hk (fun e => hn e.symm)⟩ (fun i hi => Or.inl (Or.inr (Or.inr hi)))
    have HT7 : Hid (Turns (fun k => k = fb ∨ k = nb ∨ (Value.slice asv S.length cs).ownBlock = some k) w (w6.setCell ⟨fb, 5, none⟩ (.slice (some ⟨g6, 0, none⟩) (S.length + 1) cap6))) := HT6.out.setCell ⟨fb, 5, none⟩ _ (Or.inl (Or.inl rfl))
    have HL7 : Hid (Lies (.slice asv S.length cs) (.slice (some ⟨g6, 0, none⟩) (S.length + 1) cap6) w) := fun k hk => by
      have e : g6 = k := Option.some.inj hk
      subst e
      rcases hat6 with e2 | e2
      · exact Or.inl e2
      · right; rw [e2]; have := HT3.out.size; simp; omega
    clear hgb hv6 hg6 hat6 hlt6 hrow6 c56 f56 c5 f5 p0 p1 p2 hgf HR3 HT3 HM3 HS3 HC3 HT6
    generalize w6.setCell ⟨fb, 5, none⟩ (.slice (some ⟨g6, 0, none⟩) (S.length + 1) cap6) = w7 at *
    go_wp2
    go_ret
    exact ⟨_, rfl, HR7.out, HM7.out, HO.out, HT7.out, HL7.out⟩
end Go.Proofs.YthhbpebihgjpjaaGreatDoor

namespace Go.Proofs.YthhbpebihgjpjaaGreatDoor
open Go.RowKit Go.MuLone Go.Maps
set_option maxRecDepth 1000000

theorem enterWrite (w : World) (args : Array Value) : (callFunc 76 args).run Tryz.prog w = .ok (.enter 76 args) w := by kernel_rfl
theorem enterAppend (w : World) (args : Array Value) : (callFunc 303 args).run Tryz.prog w = .ok (.enter 303 args) w := by kernel_rfl
theorem enterRename (w : World) (args : Array Value) : (callFunc 252 args).run Tryz.prog w = .ok (.enter 252 args) w := by kernel_rfl
theorem enterRemove (w : World) (args : Array Value) : (callFunc 126 args).run Tryz.prog w = .ok (.enter 126 args) w := by kernel_rfl
end Go.Proofs.YthhbpebihgjpjaaGreatDoor

namespace Go.Proofs.YthhbpebihgjpjaaGreatDoor
open Go.RowKit Go.MuLone Go.Maps
set_option maxRecDepth 1000000

theorem MapAt.mono {w : World} {b n m : Nat} {l : List FileV} (h : MapAt w b n l) (hm : n ≤ m) : MapAt w b m l := by
  obtain ⟨D, ⟨es, clock, hb, F, hs, hD⟩, hh⟩ := h
  exact ⟨D, ⟨es, clock, hb, F, Nat.le_trans hs hm, hD⟩, hh⟩

/-- What the program keeps of an operation: the closure, and the boxes that it looks into. -/
def KeptTie (fb : Nat) (o : WaitV) (w : World) (k : KeptV) : Prop :=
  ∃ bf bn, w.cell? ⟨bf, 0, none⟩ = some (.pointer (some ⟨fb, 0, none⟩)) ∧ w.cell? ⟨bn, 0, none⟩ = some (.string o.name) ∧
    ((o.kind = 1 ∧ k = ⟨76, #[.pointer (some ⟨bf, 0, none⟩), .pointer (some ⟨bn, 0, none⟩)], o.data, true⟩) ∨
     (o.kind = 2 ∧ k = ⟨303, #[.pointer (some ⟨bf, 0, none⟩), .pointer (some ⟨bn, 0, none⟩)], o.data, true⟩) ∨
     (o.kind = 3 ∧ ∃ bt, w.cell? ⟨bt, 0, none⟩ = some (.string o.data) ∧ k = ⟨252, #[.pointer (some ⟨bf, 0, none⟩), .pointer (some ⟨bn, 0, none⟩), .pointer (some ⟨bt, 0, none⟩)], ⟨#[]⟩, false⟩) ∨
     (o.kind = 4 ∧ k = ⟨126, #[.pointer (some ⟨bf, 0, none⟩), .pointer (some ⟨bn, 0, none⟩)], ⟨#[]⟩, false⟩))
/-- The block is one of the closure's boxes. -/
def BoxOf (k : KeptV) (b : Nat) : Prop := Value.pointer (some ⟨b, 0, none⟩) ∈ k.cap.toList
theorem KeptTie.keep {fb : Nat} {o : WaitV} {w w' : World} {k : KeptV} (h : KeptTie fb o w k) (hb : ∀ b, BoxOf k b → w'.heap[b]? = w.heap[b]?) : KeptTie fb o w' k := by
  obtain ⟨bf, bn, h1, h2, h3⟩ := h
  have e : ∀ b, BoxOf k b → w'.cell? ⟨b, 0, none⟩ = w.cell? ⟨b, 0, none⟩ := fun b hk => World.cell?_of_block (w := w) (a := ⟨b, 0, none⟩) (hb b hk)
  refine ⟨bf, bn, ?_, ?_, ?_⟩
  · rw [e bf (by rcases h3 with ⟨_, rfl⟩ | ⟨_, rfl⟩ | ⟨_, _, _, rfl⟩ | ⟨_, rfl⟩ <;> simp [BoxOf])]; exact h1
  · rw [e bn (by rcases h3 with ⟨_, rfl⟩ | ⟨_, rfl⟩ | ⟨_, _, _, rfl⟩ | ⟨_, rfl⟩ <;> simp [BoxOf])]; exact h2
  · rcases h3 with h | h | ⟨hk, bt, h4, h5⟩ | h
    · exact Or.inl h
    · exact Or.inr (Or.inl h)
    · exact Or.inr (Or.inr (Or.inl ⟨hk, bt, by rw [e bt (by rw [h5]; simp [BoxOf])]; exact h4, h5⟩))
    · exact Or.inr (Or.inr (Or.inr h))
theorem KeptTie.box_lt {fb : Nat} {o : WaitV} {w : World} {k : KeptV} (h : KeptTie fb o w k) (b : Nat) (hb : BoxOf k b) : b < w.heap.size := by
  obtain ⟨bf, bn, h1, h2, h3⟩ := h
  have l1 := block_lt_of_cell h1
  have l2 := block_lt_of_cell h2
  rcases h3 with ⟨_, rfl⟩ | ⟨_, rfl⟩ | ⟨_, bt, h4, rfl⟩ | ⟨_, rfl⟩
  · simp [BoxOf] at hb; rcases hb with rfl | rfl <;> assumption
  · simp [BoxOf] at hb; rcases hb with rfl | rfl <;> assumption
  · have l3 := block_lt_of_cell h4
    simp [BoxOf] at hb; rcases hb with rfl | rfl | rfl <;> assumption
  · simp [BoxOf] at hb; rcases hb with rfl | rfl <;> assumption
theorem KeptTie.enters {fb : Nat} {o : WaitV} {w : World} {k : KeptV} (h : KeptTie fb o w k) : ∀ (w : World) (args : Array Value), (callFunc k.fn args).run Tryz.prog w = .ok (.enter k.fn args) w := by
  obtain ⟨bf, bn, h1, h2, h3⟩ := h
  rcases h3 with ⟨_, rfl⟩ | ⟨_, rfl⟩ | ⟨_, bt, h4, rfl⟩ | ⟨_, rfl⟩
  · exact enterWrite
  · exact enterAppend
  · exact enterRename
  · exact enterRemove
/-- The operation, with this in its data's place where a part of them may be done. -/
def partO (o : WaitV) (part : ByteArray) : WaitV := if o.kind ≤ 2 then { o with data := part } else o
theorem KeptTie.call {fb : Nat} {o : WaitV} {w : World} {k : KeptV} (h : KeptTie fb o w k) (part : ByteArray) (l : List FileV) (d : ProgD) (lk : Int) (nb sb n : Nat) (sv : Value) (hr : ProgRow w fb d lk nb sb sv) (hm : MapAt w nb n l) (hroom : n < maxLen) (hne : fb ≠ nb) (hbox : ∀ b, BoxOf k b → b ≠ nb)
    (hn : o.name.size ≤ maxLen) (hn2 : o.data.size ≤ 1099511627776) (hp : part.size ≤ 1099511627776) (hdt : (dataOf l o.name).size ≤ 1099511627776) :
    Calls Tryz.prog k.fn (#[.string part] ++ k.cap) w fun e w' => e = .returned (.tuple #[]) ∧ MapAt w' nb (n + 1) (applyL l (partO o part)) ∧ Turns (fun k => k = nb) w w' := by
  obtain ⟨bf, bn, h1, h2, h3⟩ := h
  rcases h3 with ⟨hk, rfl⟩ | ⟨hk, rfl⟩ | ⟨hk, bt, h4, rfl⟩ | ⟨hk, rfl⟩
  · rw [partO, if_pos (by omega), applyL, if_pos hk]
    exact doWrite_any o.name part hn l d fb lk nb sb n sv bf bn w hr hm hroom h1 h2
  · rw [partO, if_pos (by omega), applyL, if_neg (by simp only; omega), if_pos hk]
    exact doAppend_any o.name part hn l hp hdt d fb lk nb sb n sv bf bn w hr hm hroom h1 h2
  · rw [partO, if_neg (by omega), applyL, if_neg (by omega), if_neg (by omega), if_pos hk]
    exact doRename_any o.name o.data part hn (Nat.le_trans hn2 (by decide)) l d fb lk nb sb n sv bf bn bt w hr hm hroom ⟨hne, hbox bf (by simp [BoxOf]), hbox bn (by simp [BoxOf]), hbox bt (by simp [BoxOf])⟩ h1 h2 h4
  · rw [partO, if_neg (by omega), applyL, if_neg (by omega), if_neg (by omega), if_neg (by omega)]
    exact (doRemove_any o.name part hn l d fb lk nb sb n sv bf bn w hr hm h1 h2).mono (fun e w' ⟨a, b, c⟩ => ⟨a, b.mono (Nat.le_succ _), c⟩)

/-- What an operation leaves; 'no': what refuses it ahead of ErrDown. -/
def OpPost (no : Option Value) (vD : Value) (l : List FileV) (o : WaitV) (S : List KeptV) (d : ProgD) (fb nb sb n : Nat) (sv : Value) (w : World) (e : Ending) (w' : World) : Prop :=
  Turns (fun k => k = fb ∨ k = nb ∨ sv.ownBlock = some k) w w' ∧
  ((∃ v, no = some v ∧ e = .returned v ∧ ProgRow w' fb d 0 nb sb sv ∧ MapAt w' nb n l ∧ OwnS sv S w') ∨
   (no = none ∧ (burnD d).down = true ∧ e = .returned vD ∧ ProgRow w' fb (burnD d) 0 nb sb sv ∧ MapAt w' nb n l ∧ OwnS sv S w') ∨
   (no = none ∧ (burnD d).down = false ∧ e = .returned .nilIface ∧ ∃ sv' k, ProgRow w' fb (burnD d) 0 nb sb sv' ∧ MapAt w' nb (n + 1) (applyL l o) ∧ OwnS sv' (S ++ [k]) w' ∧ KeptTie fb o w' k ∧ (∀ b, BoxOf k b → w.heap.size ≤ b ∧ sv'.ownBlock ≠ some b) ∧ Lies sv sv' w))
/-- What operate leaves. -/
def OperPost (k : KeptV) (o : WaitV) (vD : Value) (l : List FileV) (S : List KeptV) (d : ProgD) (fb : Nat) (lk : Int) (nb sb n : Nat) (sv : Value) (w : World) (e : Ending) (w' : World) : Prop :=
  Turns (fun k => k = fb ∨ k = nb ∨ sv.ownBlock = some k) w w' ∧
  (((burnD d).down = true ∧ e = .returned vD ∧ ProgRow w' fb (burnD d) lk nb sb sv ∧ MapAt w' nb n l ∧ OwnS sv S w') ∨
   ((burnD d).down = false ∧ e = .returned .nilIface ∧ ∃ sv', ProgRow w' fb (burnD d) lk nb sb sv' ∧ MapAt w' nb (n + 1) (applyL l o) ∧ OwnS sv' (S ++ [k]) w' ∧ KeptTie fb o w' k ∧ (∀ b, BoxOf k b → sv'.ownBlock ≠ some b) ∧ Lies sv sv' w))
theorem OperPost.ret {k : KeptV} {o : WaitV} {vD : Value} {l : List FileV} {S : List KeptV} {d : ProgD} {fb : Nat} {lk : Int} {nb sb n : Nat} {sv : Value} {w : World} {e : Ending} {w' : World} (h : OperPost k o vD l S d fb lk nb sb n sv w e w') : ∃ v, e = .returned v := by
  rcases h.2 with ⟨_, e, _⟩ | ⟨_, e, _⟩
  · exact ⟨_, e⟩
  · exact ⟨_, e⟩
theorem OperPost.row {k : KeptV} {o : WaitV} {vD : Value} {l : List FileV} {S : List KeptV} {d : ProgD} {fb : Nat} {lk : Int} {nb sb n : Nat} {sv : Value} {w : World} {e : Ending} {w' : World} (h : OperPost k o vD l S d fb lk nb sb n sv w e w') : ∃ sv', ProgRow w' fb (burnD d) lk nb sb sv' := by
  rcases h.2 with ⟨_, _, h, _⟩ | ⟨_, _, sv', h, _⟩
  · exact ⟨_, h⟩
  · exact ⟨_, h⟩
/-- Behind operate and the Unlock. -/
theorem op_done {k : KeptV} {o : WaitV} {vD : Value} {l : List FileV} {S : List KeptV} {d : ProgD} {fb nb sb n : Nat} {sv : Value} {w w5 w6 : World} {e : Ending} {no : Option Value} (hno : no = none) (hfb : fb < w.heap.size) (ht5 : Turns (fun k => k = fb) w w5) (hb : ∀ b, BoxOf k b → w.heap.size ≤ b) (hp : OperPost k o vD l S d fb 1 nb sb n sv w5 e w6) (hne : sv.ownBlock ≠ some fb ∧ sv.ownBlock ≠ some nb ∧ fb ≠ nb) :
    OpPost no vD l o S d fb nb sb n sv w e (w6.setCell ⟨fb, 0, none⟩ (.int .i32 0)) := by
  obtain ⟨h1, h2⟩ := hp
  have hsz := ht5.size
  refine ⟨((ht5.mono (fun _ hk => Or.inl hk)).trans h1 (fun i hi => Or.inl hi)).setCell ⟨fb, 0, none⟩ _ (Or.inl (Or.inl rfl)), Or.inr ?_⟩
  rcases h2 with ⟨hd, rfl, hr, hm, ho⟩ | ⟨hd, rfl, sv', hr, hm, ho, ht, hx, hl⟩
  · exact Or.inl ⟨hno, hd, rfl, hr.setLock 0, hm.keep (heap_setCell_other _ _ _ _ (fun e => hne.2.2 e.symm)), ho.keep (fun j hj => heap_setCell_other _ _ _ _ (fun e => hne.1 (by rw [hj, e])))⟩
  · refine Or.inr ⟨hno, hd, rfl, sv', k, hr.setLock 0, hm.keep (heap_setCell_other _ _ _ _ (fun e => hne.2.2 e.symm)), ho.keep (fun j hj => heap_setCell_other _ _ _ _ (fun e => ?_)), ht.keep (fun b hk => heap_setCell_other _ _ _ _ (fun e => ?_)), fun b hk => ⟨hb b hk, hx b hk⟩, fun j hj => ?_⟩
    · rcases hl j hj with q | q
      · exact hne.1 (by rw [q, e])
      · rw [e] at q; simp only at q; omega
    · have := hb b hk
      rw [e] at this; simp only at this; omega
    · rcases hl j hj with q | q
      · exact Or.inl q
      · exact Or.inr (by omega)
/-- operate, at a closure that is tied to an operation, in one word for the files that are down and those that are up. -/
theorem operate_post (k : KeptV) (o : WaitV) (hdat : o.kind ≤ 2 → k.data = o.data) (S : List KeptV) (vD : Value) (l : List FileV) (d : ProgD) (fb : Nat) (lk : Int) (nb sb n : Nat) (sv : Value) (w : World) (h : ProgRow w fb d lk nb sb sv) (hm : MapAt w nb n l) (hhi : d.fuse ≤ 9223372036854775807)
    (hS : OwnS sv S w) (hSl : S.length ≤ 1048576) (hne : sv.ownBlock ≠ some fb ∧ sv.ownBlock ≠ some nb ∧ fb ≠ nb) (hk : KeptTie fb o w k) (hbox : ∀ b, BoxOf k b → b ≠ fb ∧ b ≠ nb ∧ sv.ownBlock ≠ some b) (hroom : n < maxLen)
    (hn : o.name.size ≤ maxLen) (hn2 : o.data.size ≤ 1099511627776) (hp : k.data.size ≤ 1099511627776) (hdt : (dataOf l o.name).size ≤ 1099511627776)
    (hv : w.cell? ⟨3, 0, none⟩ = some vD) (hg : 3 ≠ fb) :
    Calls Tryz.prog 75 #[.pointer (some ⟨fb, 0, none⟩), .agg #[.func (.func k.fn) #[] k.cap, .string k.data, .bool k.cuts]] w (OperPost k o vD l S d fb lk nb sb n sv w) := by
  by_cases hdn : (burnD d).down = true
  · refine (operate_down (.func (.func k.fn) #[] k.cap) k.data k.cuts vD d fb lk nb sb sv w h hhi hdn hv hg).mono ?_
    rintro e w' ⟨rfl, h1, h2⟩
    exact ⟨h2.mono (fun _ hk => Or.inl hk), Or.inl ⟨hdn, rfl, h1, hm.keep (h2.block nb hm.lt (fun e => hne.2.2 e.symm)), hS.keep (fun j hj => h2.block j (hS.lt j hj) (fun e => hne.1 (by rw [hj, e])))⟩⟩
  · have hdn2 : (burnD d).down = false := by simpa using hdn
    refine (operate_any k.fn k.cap k.data k.cuts S (fun w => MapAt w nb (n + 1) (applyL l o)) d fb lk nb sb sv w h hhi hdn2 hS hSl hne hm.lt hk.enters ?_ (fun w w' a b => a.keep b)).mono ?_
    · intro w2 hr2 ht2
      have hk2 := hk.keep (w' := w2) (fun b hb => ht2.block b (hk.box_lt b hb) (hbox b hb).1)
      have := hk2.call k.data l (burnD d) lk nb sb n sv hr2 (hm.keep (ht2.block nb hm.lt (fun e => hne.2.2 e.symm))) hroom hne.2.2 (fun b hb => (hbox b hb).2.1) hn hn2 hp hdt
      have e1 : partO o k.data = o := by
        unfold partO
        split
        · rw [hdat (by assumption)]
        · rfl
      rw [e1] at this
      exact this
    · rintro e w' ⟨sv', rfl, h1, h2, h3, h4, h5⟩
      refine ⟨h4, Or.inr ⟨hdn2, rfl, sv', h1, h2, h3, hk.keep (fun b hb => h4.block b (hk.box_lt b hb) ?_), fun b hb e => ?_, h5⟩⟩
      · rintro (e | e | e)
        · exact (hbox b hb).1 e
        · exact (hbox b hb).2.1 e
        · exact (hbox b hb).2.2 e
      · rcases h5 b e with e | e
        · exact (hbox b hb).2.2 e
        · have := hk.box_lt b hb; omega
end Go.Proofs.YthhbpebihgjpjaaGreatDoor
