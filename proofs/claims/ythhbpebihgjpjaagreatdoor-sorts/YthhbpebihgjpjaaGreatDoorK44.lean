import Derived.Test.YthhbpebihgjpjaaGreatDoorK10
import Derived.Test.YthhbpebihgjpjaaGreatDoorK43
namespace Go.Proofs.YthhbpebihgjpjaaGreatDoor
open Go.RowKit
set_option maxRecDepth 1000000

/-- The keeper's world, nothing built: a manifest's text, targets. -/
def KRow (w : World) (wb : Nat) (x : ByteArray) (vt : Value) : Prop := w.heap[wb]? = some (.cells #[.pointer none, .string x, vt, .slice none 0 0, .slice none 0 0, .bool false] 34 (0, 0))
structure KSt (w0 : World) (wb : Nat) (x : ByteArray) (vt : Value) (ts : List ByteArray) (w : World) : Prop where
  row : KRow w wb x vt
  own : w.ownsRow w0.heap.size 9 1 vt ts.length (ts.map Value.string)
  low : w0.heap.size ≤ wb
  bl : Below w0.heap.size w0 w
  text : x.size ≤ 140737488351232
  each : ∀ y ∈ ts, y.size ≤ 140737488351232
theorem KSt.below {w0 : World} {wb : Nat} {x : ByteArray} {vt : Value} {ts : List ByteArray} {w w' : World} (h : KSt w0 wb x vt ts w) (hb : Below w.heap.size w w') : KSt w0 wb x vt ts w' :=
  ⟨(hb.block wb (heap_lt h.row)).trans h.row, rkeep h.own (fun k hk => hb.block k (rblock h.own k hk).2), h.low, h.bl.trans (hb.mono h.bl.size), h.text, h.each⟩
set_option maxHeartbeats 4000000 in
theorem kstep_text {w0 : World} {wb : Nat} {x : ByteArray} {vt : Value} {ts : List ByteArray} {w : World} (h : KSt w0 wb x vt ts w) (a b : Int) (s t : ByteArray) (hs : s.size ≤ 140737488351232) :
    Calls Tryz.prog 32 #[.pointer (some ⟨wb, 0, none⟩), .agg #[.int .i64 1, .int .i64 a, .int .i64 b, .string s, .string t]] w fun e w' => e = .returned (.tuple #[]) ∧ KSt w0 wb s vt ts w' := by
  obtain ⟨W1, hW1⟩ : ∃ W1, W1 = w.alloc (.cells #[.int .i64 1, .int .i64 a, .int .i64 b, .string s, .string t] 58) := ⟨_, rfl⟩
  have hb1 : Below w.heap.size w W1 := by rw [hW1]; exact (Below.refl _ _).alloc (Nat.le_refl _) _
  have c0 : W1.cell? ⟨w.heap.size, 0, none⟩ = some (.int .i64 1) := by rw [hW1]; exact cell_fresh _ _ _ _ _ rfl
  have c3 : W1.cell? ⟨w.heap.size, 3, none⟩ = some (.string s) := by rw [hW1]; exact cell_fresh _ _ _ _ _ rfl
  have h1 := h.below hb1
  have d1 : W1.cell? ⟨wb, 1, none⟩ = some (.string x) := by rw [cell_of_row _ _ _ _ _ _ h1.row]; rfl
  have f1 : W1.frozen? ⟨wb, 1, none⟩ = false := frozen_of_row _ _ _ _ _ h1.row
  have HFIN : Hid (KSt w0 wb s vt ts (W1.setCell ⟨wb, 1, none⟩ (.string s))) :=
    ⟨by unfold KRow; rw [heap_setCell_same _ _ _ _ _ _ h1.row]; rfl, rkeep h1.own (fun k hk => heap_setCell_other _ _ _ _ (show k ≠ wb from fun e => obj_other h1.row h1.own (by decide) (by rw [← e]; exact hk))), h.low, h1.bl.setCell h.low _, hs, h.each⟩
  rw [hW1] at d1 f1 HFIN
  clear h h1 hb1 c0 c3 hW1
  go_enter Tryz.func32, Tryz.ntmps32
  go_wp2_with fail
  first | go_end0 | refine bodyPost_ret (results_none rfl _ _ _) rfl ?_
  exact ⟨rfl, HFIN.out⟩
set_option maxHeartbeats 4000000 in
theorem kstep_target {w0 : World} {wb : Nat} {x : ByteArray} {vt : Value} {ts : List ByteArray} {w : World} (h : KSt w0 wb x vt ts w) (hl : ts.length ≤ 1000000) (a b : Int) (s t : ByteArray) (hs : s.size ≤ 140737488351232) :
    Calls Tryz.prog 32 #[.pointer (some ⟨wb, 0, none⟩), .agg #[.int .i64 2, .int .i64 a, .int .i64 b, .string s, .string t]] w fun e w' => e = .returned (.tuple #[]) ∧ ∃ vt', KSt w0 wb x vt' (ts ++ [s]) w' := by
  have hinf : (Tryz.prog.info? 9).map (fun i => (i.size, i.bytes, i.zero)) = some (1, 16, some (.string ⟨#[]⟩)) := by kernel_rfl
  obtain ⟨ti, hti, htj⟩ := Option.map_eq_some_iff.1 hinf
  simp only [Prod.mk.injEq] at htj
  have HTI : Hid (Tryz.prog.info? 9 = some ti ∧ ti.size = 1 ∧ ti.bytes = 16 ∧ ti.zero = some (.string ⟨#[]⟩)) := ⟨hti, htj.1, htj.2.1, htj.2.2⟩
  clear hinf hti htj
  obtain ⟨aov, capv, hvt, _, _⟩ := row_form h.own
  subst hvt
  have HK : Hid (KSt w0 wb x (.slice aov ts.length capv) ts w) := h
  generalize hTL : ts.length = TL at *
  have HTL : Hid (ts.length = TL) := hTL
  clear hTL
  obtain ⟨W1, hW1⟩ : ∃ W1, W1 = w.alloc (.cells #[.int .i64 2, .int .i64 a, .int .i64 b, .string s, .string t] 58) := ⟨_, rfl⟩
  have HB1 : Hid (Below w.heap.size w W1) := by rw [hW1]; exact (Below.refl _ _).alloc (Nat.le_refl _) _
  have c0 : W1.cell? ⟨w.heap.size, 0, none⟩ = some (.int .i64 2) := by rw [hW1]; exact cell_fresh _ _ _ _ _ rfl
  have c3 : W1.cell? ⟨w.heap.size, 3, none⟩ = some (.string s) := by rw [hW1]; exact cell_fresh _ _ _ _ _ rfl
  have cs : W1.cell? ⟨wb, 2, none⟩ = some (.slice aov TL capv) := by rw [cell_of_row _ _ _ _ _ _ ((HB1.out.block wb (heap_lt h.row)).trans h.row)]; rfl
  have hsz1 : W1.heap.size = w.heap.size + 1 := by rw [hW1]; exact World.size_alloc _ _
  have csa : (W1.alloc (.cells #[.string s] 9)).cell? ⟨wb, 2, none⟩ = some (.slice aov TL capv) := (World.cell?_of_block (w := W1) (a := ⟨wb, 2, none⟩) (heapA_old _ _ wb (Nat.lt_of_lt_of_le (heap_lt h.row) HB1.out.size))).trans cs
  have HH1 : Hid (KSt w0 wb x (.slice aov TL capv) ts W1) := h.below HB1.out
  clear h
  go_enter Tryz.func32, Tryz.ntmps32
  go_wp2_with fail
  rw [← hW1]
  clear hW1
  refine wp_region_any (by kernel_rfl) ?_
  change wpAny _ _ _ _ _ _ _ (World.drew _)
  refine wpAny_take (i := 0) (v := .pointer (some ⟨wb, 0, none⟩)) rfl (by kernel_rfl) (by kernel_rfl) (by kernel_rfl) (fun _ _ _ h => h) (Or.inl ⟨by rfl, ?_⟩) ?_
  · intro w
    go_simp
  refine wpAny_take (i := 1) (v := .pointer (some ⟨wb, 0, none⟩)) rfl (by kernel_rfl) (by kernel_rfl) (by kernel_rfl) (fun _ _ _ h => h) (Or.inl ⟨by rfl, ?_⟩) ?_
  · intro w
    go_simp
  refine wpAny_take (i := 2) (v := .pointer (some ⟨wb, 0, none⟩)) rfl (by kernel_rfl) (by kernel_rfl) (by kernel_rfl) (fun _ _ _ h => h) (Or.inl ⟨by rfl, ?_⟩) ?_
  · intro w
    go_simp
  refine wpAny_take (i := 3) (v := .pointer (some ⟨wb, 2, none⟩)) rfl (by kernel_rfl) (by kernel_rfl) (by kernel_rfl) (fun _ _ _ h => h) (Or.inl ⟨by rfl, ?_⟩) ?_
  · intro w
    go_simp
  refine wpAny_take (i := 5) (v := .pointer (some ⟨w.heap.size, 3, none⟩)) rfl (by kernel_rfl) (by kernel_rfl) (by kernel_rfl) (fun _ _ _ h => h) (Or.inl ⟨by rfl, ?_⟩) ?_
  · intro w
    go_simp
  refine wpAny_ready (rs := [4, 6]) (by kernel_rfl) (by simp) ?_
  refine AllReady.cons rfl (fun K hK => ?ordA) (AllReady.cons rfl (fun K hK => ?ordB) AllReady.nil)
  case' ordA =>
    go_simp
    refine hK _ _ ?_
    clear hK K
    refine wpAny_ready (rs := [6]) (by kernel_rfl) (by simp) ?_
    refine AllReady.cons rfl (fun K hK => ?_) AllReady.nil
    go_simp
    refine hK _ _ ?_
    clear hK K
    refine wpAny_ready (rs := [7]) (by kernel_rfl) (by simp) ?_
    refine AllReady.cons rfl (fun K hK => ?_) AllReady.nil
    go_simp
  case' ordB =>
    go_simp
    refine hK _ _ ?_
    clear hK K
    refine wpAny_ready (rs := [4, 7]) (by kernel_rfl) (by simp) ?_
    refine AllReady.cons rfl (fun K hK => ?ordC) (AllReady.cons rfl (fun K hK => ?ordD) AllReady.nil)
    case' ordC =>
      go_simp
      refine hK _ _ ?_
      clear hK K
      refine wpAny_ready (rs := [7]) (by kernel_rfl) (by simp) ?_
      refine AllReady.cons rfl (fun K hK => ?_) AllReady.nil
      go_simp
    case' ordD =>
      go_simp
      refine hK _ _ ?_
      clear hK K
      refine wpAny_ready (rs := [4]) (by kernel_rfl) (by simp) ?_
      refine AllReady.cons rfl (fun K hK => ?_) AllReady.nil
      go_simp
  all_goals
    refine hK _ _ ?_
    clear hK K
    obtain ⟨W8, hW8⟩ : ∃ W8, W8 = (W1.alloc (.cells #[.string s] 9)).drew := ⟨_, rfl⟩
    have HL8 : Hid (Below W1.heap.size W1 W8) := by rw [hW8]; exact ((Below.refl _ _).alloc (Nat.le_refl _) _).drew
    have HN8 : Hid (∀ j u, ([.string s] : List Value)[j]? = some u → W8.cell? ((⟨w.heap.size + 1, 0, none⟩ : Addr).add j) = some u) := by rw [hW8, ← hsz1]; exact newCells W1 _ _
    rw [← hW8]
    clear hW8 csa
    have H8 : KSt w0 wb x (.slice aov TL capv) ts W8 := HH1.out.below HL8.out
    have HD8 : Hid (W8.ownsRow w0.heap.size 9 1 (.slice aov TL capv) TL (ts.map Value.string)) := by have := H8.own; rw [HTL.out] at this; exact this
    have hB8 : w0.heap.size ≤ W8.heap.size := H8.bl.size
    refine wpAny_ready (rs := [8]) (by kernel_rfl) (by simp) ?_
    refine AllReady.cons rfl (fun K hK => ?_) AllReady.nil
    refine step_append_lies _ rfl (.tmp 19) (.tmp 22) 32 rfl w0.heap.size 9 ti (.string ⟨#[]⟩) 1 16 Tryz.underlying32 HTI.out.1 HTI.out.2.2.2 HTI.out.2.1 HTI.out.2.2.1 rfl (by decide) _ TL (ts.map Value.string) rfl HD8.out ⟨w.heap.size + 1, 0, none⟩ 1 1 [.string s] rfl rfl HN8.out (by intro u hu; simp only [List.mem_cons, List.not_mem_nil, or_false] at hu; subst hu; rfl) (by decide) (by unfold maxLen; omega) (by omega) hB8 _ rfl ?_
    intro g6 cap6 w6 hv6 hg6 hat6 hlt6
    have hne : (Value.slice aov TL capv).ownBlock ≠ some wb := obj_other H8.row HD8.out (by decide)
    have hrow6 : KRow w6 wb x (.slice aov TL capv) := (hg6.block wb (heap_lt H8.row) (fun e => hne e.symm)).trans H8.row
    have d6 : w6.cell? ⟨wb, 2, none⟩ = some (.slice aov TL capv) := by rw [cell_of_row _ _ _ _ _ _ hrow6]; rfl
    have f6 : w6.frozen? ⟨wb, 2, none⟩ = false := frozen_of_row _ _ _ _ _ hrow6
    have HFIN : Hid (∃ vt', KSt w0 wb x vt' (ts ++ [s]) (w6.setCell ⟨wb, 2, none⟩ (.slice (some ⟨g6, 0, none⟩) (TL + 1) cap6))) := by
      refine ⟨.slice (some ⟨g6, 0, none⟩) (TL + 1) cap6, ⟨by unfold KRow; rw [heap_setCell_same _ _ _ _ _ _ hrow6]; rfl, ?_, HK.out.low, ?_, HK.out.text, fun y hy => ?_⟩⟩
      · rw [List.length_append, HTL.out, List.map_append]
        exact rkeep hv6 (fun k hk => heap_setCell_other _ _ _ _ (show k ≠ wb from fun e => obj_other hrow6 hv6 (by decide) (by rw [← e]; exact hk)))
      · exact (H8.bl.grown hg6 H8.bl.size (fun k hk => (rblock HD8.out k hk).1)).setCell HK.out.low _
      · rcases List.mem_append.1 hy with hy | hy
        · exact HK.out.each y hy
        · obtain rfl := List.mem_singleton.1 hy
          exact hs
    clear hv6 hg6 hat6 hlt6 hrow6 H8 hne
    refine hK _ _ ?_
    clear hK K
    refine wpAny_take (i := 9) (v := .pointer (some ⟨wb, 0, none⟩)) rfl (by kernel_rfl) (by kernel_rfl) (by kernel_rfl) (fun _ _ _ h => h) (Or.inl ⟨by rfl, ?_⟩) ?_
    · intro w
      go_simp
    refine wpAny_take (i := 10) (v := .pointer (some ⟨wb, 2, none⟩)) rfl (by kernel_rfl) (by kernel_rfl) (by kernel_rfl) (fun _ _ _ h => h) (Or.inl ⟨by rfl, ?_⟩) ?_
    · intro w
      go_simp
    refine wpAny_ready (rs := [11]) (by kernel_rfl) (by simp) ?_
    refine AllReady.cons rfl (fun K hK => ?_) AllReady.nil
    go_simp
    refine hK _ _ ?_
    clear hK K
    refine wpAny_done (by kernel_rfl) ?_ _
    go_wp2_with fail
    first | go_end0 | refine bodyPost_ret (results_none rfl _ _ _) rfl ?_
    exact ⟨rfl, HFIN.out⟩
end Go.Proofs.YthhbpebihgjpjaaGreatDoor

namespace Go.Proofs.YthhbpebihgjpjaaGreatDoor
open Go.RowKit Go.Maps
set_option maxRecDepth 1000000

/-- The closed case: two edges, one hangs on the other. -/
def sortsT : ByteArray := ⟨#[114, 117, 108, 101, 32, 114, 10, 32, 99, 111, 109, 109, 97, 110, 100, 32, 61, 32, 99, 97, 116, 32, 36, 105, 110, 10, 98, 117, 105, 108, 100, 32, 99, 58, 32, 114, 32, 98, 10, 98, 117, 105, 108, 100, 32, 98, 58, 32, 114, 32, 97, 10]⟩
def sortsB : Bool := match parseS sortsT with
  | .error _ => false
  | .ok Sc => match orderS Sc.1 [⟨#[99]⟩] with
    | .error _ => false
    | .ok o => o == [1, 0]
theorem sorts_closed : sortsB = true := by kernel_rfl
theorem sorts_case : ∃ S cs, parseS sortsT = .ok (S, cs) ∧ orderS S [⟨#[99]⟩] = .ok [1, 0] := by
  have h := sorts_closed
  unfold sortsB at h
  split at h
  · cases h
  · rename_i Sc hp
    split at h
    · cases h
    · rename_i o ho
      refine ⟨Sc.1, Sc.2, hp, ?_⟩
      rw [ho, eq_of_beq h]
set_option maxHeartbeats 4000000 in
theorem sorts_any (a : Nat → Addr) (tt : Nat → ByteArray) (w : World) (hg : Gl a w) (hS : Sents a tt w) :
    Calls Tryz.prog 33 #[] w fun e w' => e = .returned (.bool true) ∧ Below w.heap.size w w' := by
  obtain ⟨S, cs, hp, ho⟩ := sorts_case
  have HC : Hid (Calls Tryz.prog 24 #[.string sortsT] w fun e w' => plainEnd w.heap.size (.ok (S, cs)) e w' ∧ Below w.heap.size w w') := by
    have := plainParse_any sortsT a tt w hg hS (by decide)
    rw [hp] at this
    exact this
  have HG : Hid (Gl a w ∧ Sents a tt w) := ⟨hg, hS⟩
  have HP : Hid (parseS sortsT = .ok (S, cs) ∧ orderS S [⟨#[99]⟩] = .ok [1, 0]) := ⟨hp, ho⟩
  clear hg hS hp ho
  unfold sortsT at HC
  go_enter Tryz.func33, Tryz.ntmps33
  go_wp2_with fail
  refine HC.out.mono ?_
  rintro e w1 ⟨⟨mb, rfl, hk, hso⟩, hb1⟩
  have HB1 : Hid (Below w.heap.size w w1) := hb1
  have HM1 : Hid (ManK w.heap.size S cs mb w1 ∧ SOk S 0 []) := ⟨hk, hso⟩
  clear hk hso hb1 HC
  obtain ⟨W2, hW2⟩ : ∃ W2, W2 = w1.alloc (.cells #[.string ⟨#[99]⟩] 9) := ⟨_, rfl⟩
  have hb2 : Below w1.heap.size w1 W2 := by rw [hW2]; exact (Below.refl _ _).alloc (Nat.le_refl _) _
  have HB2 : Hid (Below w.heap.size w W2) := HB1.out.trans (hb2.mono HB1.out.size)
  have hc2 : W2.cell? ⟨w1.heap.size, 0, none⟩ = some (.string ⟨#[99]⟩) := by rw [hW2]; exact cell_fresh _ _ _ _ _ rfl
  have hT : TextsAt W2 (.slice (some ⟨w1.heap.size, 0, none⟩) 1 1) [⟨#[99]⟩] := ⟨_, 1, rfl, Nat.le_refl _, Or.inr ⟨_, _, rfl, fun k s hs => by
    cases k with
    | zero => simp only [List.getElem?_cons_zero, Option.some.injEq] at hs; subst hs; exact hc2
    | succ k => simp at hs⟩⟩
  have HO : Hid (Calls Tryz.prog 25 #[.pointer (some ⟨mb, 0, none⟩), .slice (some ⟨w1.heap.size, 0, none⟩) 1 1] W2 fun e w' => porderEnd W2.heap.size (.ok [1, 0]) e w' ∧ Below W2.heap.size W2 w') := by
    have := plainOrder_any (a := a) (tt := tt) (HM1.out.1.below hb2).now (HG.out.1.below HB2.out HG.out.1.size) (HG.out.2.below HB2.out) (good_of_parse HP.out.1 HM1.out.2) hT (by decide) (fun x hx => by obtain rfl := List.mem_singleton.1 hx; decide)
    rw [HP.out.2] at this
    exact this
  clear hb2 hc2 hT
  go_wp2_with fail
  rw [← hW2]
  clear hW2
  go_wp2_with fail
  refine HO.out.mono ?_
  rintro e w3 ⟨⟨v, rfl, hv⟩, hb3⟩
  have HB3 : Hid (Below w.heap.size w w3) := HB2.out.trans (hb3.mono HB2.out.size)
  obtain ⟨ao, cap, hvv, _, hgo⟩ := row_form hv
  obtain ⟨g, rfl⟩ := hgo (by decide)
  subst hvv
  have c0 : w3.cell? ⟨g, 0, none⟩ = some (.int .i64 1) := (row_cell hv 0 _ rfl).1
  have c1 : w3.cell? ⟨g, 1, none⟩ = some (.int .i64 0) := (row_cell hv 1 _ rfl).1
  clear hv hb3 HO hgo
  go_wp2
  go_ret
  exact ⟨rfl, HB3.out⟩
end Go.Proofs.YthhbpebihgjpjaaGreatDoor

namespace Go.Proofs.YthhbpebihgjpjaaGreatDoor
set_option maxRecDepth 1000000

/-- What the edges of an order make; what they hang on. -/
def outsOf (es : List EdgeS) (o : List Nat) : List ByteArray := o.flatMap fun p => (es[p]?.map (·.outs)).getD []
def hangsOf (es : List EdgeS) (o : List Nat) : List ByteArray := o.flatMap fun p => (es[p]?.map depsS).getD []
theorem outsOf_snoc {es : List EdgeS} {o : List Nat} {i p : Nat} {e : EdgeS} (hp : o[i]? = some p) (he : es[p]? = some e) : outsOf es (o.take (i + 1)) = outsOf es (o.take i) ++ e.outs := by
  unfold outsOf
  rw [List.take_add_one, hp, List.flatMap_append]
  simp [he]
theorem hangsOf_snoc {es : List EdgeS} {o : List Nat} {i p : Nat} {e : EdgeS} (hp : o[i]? = some p) (he : es[p]? = some e) : hangsOf es (o.take (i + 1)) = hangsOf es (o.take i) ++ depsS e := by
  unfold hangsOf
  rw [List.take_add_one, hp, List.flatMap_append]
  simp [he]
theorem mem_outsOf {es : List EdgeS} {o : List Nat} {x : ByteArray} : x ∈ outsOf es o ↔ ∃ p ∈ o, ∃ e, es[p]? = some e ∧ x ∈ e.outs := by
  unfold outsOf
  rw [List.mem_flatMap]
  constructor
  · rintro ⟨p, hp, hx⟩
    cases he : es[p]? with
    | none => rw [he] at hx; cases hx
    | some e => rw [he] at hx; exact ⟨p, hp, e, he, hx⟩
  · rintro ⟨p, hp, e, he, hx⟩
    exact ⟨p, hp, by rw [he]; exact hx⟩
theorem mem_hangsOf {es : List EdgeS} {o : List Nat} {x : ByteArray} {p : Nat} {e : EdgeS} (hp : p ∈ o) (he : es[p]? = some e) (hx : x ∈ depsS e) : x ∈ hangsOf es o := by
  unfold hangsOf
  rw [List.mem_flatMap]
  exact ⟨p, hp, by rw [he]; exact hx⟩
theorem makerS_out {es : List EdgeS} {x : ByteArray} {p : Nat} (h : makerS es x = some p) : ∃ e, es[p]? = some e ∧ x ∈ e.outs := by
  unfold makerS at h
  obtain ⟨hlt, h1, _⟩ := List.findIdx?_eq_some_iff_getElem.1 h
  exact ⟨es[p], by simp, mem_memB.1 h1⟩
theorem outs_apart : ∀ {es : List EdgeS} {p q : Nat} {e f : EdgeS} {x : ByteArray}, (es.flatMap (·.outs)).Nodup → es[p]? = some e → es[q]? = some f → x ∈ e.outs → x ∈ f.outs → p = q
  | [], p, q, e, f, x, _, h, _, _, _ => by simp at h
  | y :: es, 0, 0, e, f, x, _, _, _, _, _ => rfl
  | y :: es, 0, q + 1, e, f, x, hn, he, hf, hx, hz => by
    rw [List.flatMap_cons, List.nodup_append] at hn
    obtain rfl : y = e := by simpa using he
    exact absurd rfl (hn.2.2 x hx x (List.mem_flatMap.2 ⟨f, List.mem_of_getElem? (by simpa using hf), hz⟩))
  | y :: es, p + 1, 0, e, f, x, hn, he, hf, hx, hz => by
    rw [List.flatMap_cons, List.nodup_append] at hn
    obtain rfl : y = f := by simpa using hf
    exact absurd rfl (hn.2.2 x hz x (List.mem_flatMap.2 ⟨e, List.mem_of_getElem? (by simpa using he), hx⟩))
  | y :: es, p + 1, q + 1, e, f, x, hn, he, hf, hx, hz => by
    rw [List.flatMap_cons, List.nodup_append] at hn
    exact congrArg Nat.succ (outs_apart hn.2.1 (show es[p]? = some e by simpa using he) (show es[q]? = some f by simpa using hf) hx hz)
/-- What an edge makes was not made by those ahead of it. -/
theorem not_old {S : St} {ts : List ByteArray} {o : List Nat} (h : OrderOk S ts o) (hk : SKept S) {i p : Nat} {e : EdgeS} (hp : o[i]? = some p) (he : S.edges[p]? = some e) {x : ByteArray} (hx : x ∈ e.outs) : memB x (outsOf S.edges (o.take i)) = false := by
  refine Bool.eq_false_iff.2 fun hm => ?_
  obtain ⟨q, hq, f, hf, hz⟩ := mem_outsOf.1 (mem_memB.1 hm)
  obtain rfl := outs_apart hk.once he hf hx hz
  obtain ⟨j, hj⟩ := List.mem_iff_getElem?.1 hq
  rw [List.getElem?_take] at hj
  split at hj
  · rename_i hji
    have := (List.getElem?_inj (List.getElem?_eq_some_iff.1 hj).1 h.nd).1 (hj.trans hp.symm)
    omega
  · cases hj
/-- What an edge hangs on and an edge makes is there. -/
theorem is_there {S : St} {ts : List ByteArray} {o : List Nat} (h : OrderOk S ts o) {i p : Nat} {e : EdgeS} (hp : o[i]? = some p) (he : S.edges[p]? = some e) {x : ByteArray} (hx : x ∈ depsS e) (hm : makerS S.edges x ≠ none) : memB x (outsOf S.edges (o.take i)) = true := by
  cases hq : makerS S.edges x with
  | none => exact absurd hq hm
  | some m =>
    obtain ⟨f, hf, hxf⟩ := makerS_out hq
    exact mem_memB.2 (mem_outsOf.2 ⟨m, h.ahead i p e hp he x hx m hq, f, hf, hxf⟩)
/-- The targets are made. -/
theorem targets_made {S : St} {ts : List ByteArray} {o : List Nat} (h : OrderOk S ts o) {x : ByteArray} (hx : x ∈ ts) : memB x (outsOf S.edges o) = true := by
  have hg : goalsS S ts = ts := by unfold goalsS; rw [if_pos (fun e => by rw [e] at hx; cases hx)]
  obtain ⟨p, hm, hp⟩ := h.goals x (by rw [hg]; exact hx)
  obtain ⟨f, hf, hxf⟩ := makerS_out hm
  exact mem_memB.2 (mem_outsOf.2 ⟨p, hp, f, hf, hxf⟩)
/-- Each edge is wanted. -/
theorem all_wanted {S : St} {ts : List ByteArray} {o : List Nat} (h : OrderOk S ts o) (hne : ts ≠ []) {p : Nat} (hp : p ∈ o) : ∃ e, S.edges[p]? = some e ∧ ∃ x ∈ e.outs, x ∈ ts ++ hangsOf S.edges o := by
  have hg : goalsS S ts = ts := by unfold goalsS; rw [if_pos hne]
  rcases h.want p hp with ⟨x, hx, hm⟩ | ⟨q, hq, f, hf, x, hx, hm⟩
  · rw [hg] at hx
    obtain ⟨e, he, hxe⟩ := makerS_out hm
    exact ⟨e, he, x, hxe, List.mem_append_left _ hx⟩
  · obtain ⟨e, he, hxe⟩ := makerS_out hm
    exact ⟨e, he, x, hxe, List.mem_append_right _ (mem_hangsOf hq hf hx)⟩
theorem depsS_len {e : EdgeS} (h : e.outs.length ≤ 10000 ∧ e.ins.length ≤ 10000 ∧ e.impl.length ≤ 10000 ∧ e.ord.length ≤ 10000) : (depsS e).length ≤ 30000 := by
  unfold depsS
  rw [List.length_append, List.length_append]
  omega
theorem flat_le_of {α β : Type} (f : α → List β) (n : Nat) : ∀ (l : List α), (∀ x ∈ l, (f x).length ≤ n) → (l.flatMap f).length ≤ l.length * n
  | [], _ => Nat.zero_le _
  | x :: l, h => by
    rw [List.flatMap_cons, List.length_append, List.length_cons, Nat.succ_mul]
    have h1 := h x (List.mem_cons_self ..)
    have h2 := flat_le_of f n l (fun y hy => h y (List.mem_cons_of_mem _ hy))
    omega
theorem outsOf_len {es : List EdgeS} (h : ∀ e ∈ es, e.outs.length ≤ 10000 ∧ e.ins.length ≤ 10000 ∧ e.impl.length ≤ 10000 ∧ e.ord.length ≤ 10000) (o : List Nat) : (outsOf es o).length ≤ o.length * 10000 :=
  flat_le_of _ _ o fun p _ => by
    cases he : es[p]? with
    | none => exact Nat.zero_le _
    | some e => exact (h e (List.mem_of_getElem? he)).1
theorem hangsOf_len {es : List EdgeS} (h : ∀ e ∈ es, e.outs.length ≤ 10000 ∧ e.ins.length ≤ 10000 ∧ e.impl.length ≤ 10000 ∧ e.ord.length ≤ 10000) (o : List Nat) : (hangsOf es o).length ≤ o.length * 30000 :=
  flat_le_of _ _ o fun p _ => by
    cases he : es[p]? with
    | none => exact Nat.zero_le _
    | some e => exact depsS_len (h e (List.mem_of_getElem? he))
/-- An order has no more than the edges. -/
theorem order_len {n : Nat} {o : List Nat} (hnd : o.Nodup) (hlt : ∀ p ∈ o, p < n) : o.length ≤ n := by
  have := hnd.length_le_of_subset (l₂ := List.range n) (fun p hp => List.mem_range.2 (hlt p hp))
  rwa [List.length_range] at this
end Go.Proofs.YthhbpebihgjpjaaGreatDoor
