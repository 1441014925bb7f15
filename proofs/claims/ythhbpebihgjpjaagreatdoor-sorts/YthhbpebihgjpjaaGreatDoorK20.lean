import Derived.Test.YthhbpebihgjpjaaGreatDoorK19
import Derived.Test.YthhbpebihgjpjaaGreatDoorK05
namespace Go.Proofs.YthhbpebihgjpjaaGreatDoor
open Go.RowKit Go.Maps
set_option maxRecDepth 1000000

def badK (b : Bad) : Nat := Fin.val b
/-- How a statement ends. -/
def stmtEnd (a : Nat → Addr) (B rb m : Nat) (w : World) (r : Res) (e : Ending) (w' : World) : Prop := match r with
  | .error bk => Stopped (bk.2 : Nat) (reasonV a (badK bk.1)) e w' ∧ Below B w w'
  | .ok Sr => e = .returned (.tuple #[]) ∧ (∃ p n, PStC p a B w' rb n Sr.2 Sr.1 m) ∧ Below B w w'
theorem setB_new {l : Binds} {x v : ByteArray} (h : bindOf l x = none) : setB l x v = l ++ [(x, v)] := by
  induction l with
  | nil => rfl
  | cons y l ih =>
    rw [bindOf_cons] at h
    by_cases hy : y.1 = x
    · rw [if_pos hy] at h; cases h
    · rw [if_neg hy] at h
      rw [setB, if_neg hy, ih h]; rfl
theorem PStB.off {p : PV} {a : Nat → Addr} {B : Nat} {w w' : World} {rb : Nat} {n : Int} {ls : List Line} {S : St} {m : Nat} (_ : PStB p a B w rb n ls S m) {b i : Nat} (hg : w.grownBy w' (some b)) (hb : p.c b = i) {k : Nat} (hk : k < w.heap.size) (hc : p.c k ≠ i) : w'.heap[k]? = w.heap[k]? := hg.block k hk (fun e => hc (by rw [Option.some.inj e]; exact hb))
/-- A rule more. -/
theorem PStC.addRule {p : PV} {a : Nat → Addr} {B : Nat} {w w' : World} {rb : Nat} {n : Int} {ls : List Line} {S : St} {m : Nat} {x v : ByteArray} (h : PStC p a B w rb n ls S (m + 1)) (hg : w.grownBy w' (some p.rm)) (hm : BMap w' p.rm (p.n2 + 1) (setB S.rules x v)) (hx : bindOf S.rules x = none) (hv : v.size ≤ 4000) : PStC { p with n2 := p.n2 + 1 } a B w' rb n ls { S with rules := S.rules ++ [(x, v)] } m := by
  have off := fun {k : Nat} (hk : k < w.heap.size) (hc : p.c k ≠ 3) => h.off hg h.c3 hk hc
  exact {
    gl := h.gl.keep hg.size (fun k hk => off (Nat.lt_of_lt_of_le hk h.gl.size) (by rw [h.low k (Nat.lt_of_lt_of_le hk h.base)]; decide))
    base := h.base
    row := (off h.rowlt (by rw [h.c1]; decide)).trans h.row
    const := h.const.step hg.size (fun k hk h0 => ⟨off hk (by rw [h0]; decide), h0⟩)
    top := TMap.keep h.top (off h.top.lt (by rw [h.c2]; decide))
    rules := by rw [setB_new hx] at hm; exact hm
    mlt := Nat.lt_of_lt_of_le h.mlt (hg.size)
    made := TMap.keep h.made (off h.made.lt (by rw [h.c4]; decide))
    drafts := rkeep h.drafts (fun k hk => off (rblock h.drafts k hk).2 (by rw [h.c5 k hk]; decide))
    defs := rkeep h.defs (fun k hk => off (rblock h.defs k hk).2 (by rw [h.c6 k hk]; decide))
    c1 := h.c1, c2 := h.c2, c3 := h.c3, c4 := h.c4, c5 := h.c5, c6 := h.c6, low := h.low
    few := by show p.n1 + m ≤ 5000 ∧ p.n2 + 1 + m ≤ 5000 ∧ p.n3 + 8000 * m ≤ 40000000; have := h.few; omega
    ok := { top := h.ok.top, tops := (by show S.top.length + m ≤ 5000; have := h.ok.tops; omega), rules := (fun y hy => by
              rcases List.mem_append.1 hy with hy | hy
              · exact h.ok.rules y hy
              · obtain rfl := List.mem_singleton.1 hy
                exact hv), rulen := (by show (S.rules ++ [(x, v)]).length + m ≤ 5000; rw [List.length_append]; have := h.ok.rulen; show _ + 1 + m ≤ _; omega), edges := h.ok.edges, edge := h.ok.edge, defs := (by show S.defs.length + 4000 * m ≤ _; have := h.ok.defs; omega), lines := h.ok.lines, count := h.ok.count } }
theorem PStB.fewer {p : PV} {a : Nat → Addr} {B : Nat} {w : World} {rb : Nat} {n : Int} {ls : List Line} {S : St} {m m' : Nat} (h : PStB p a B w rb n ls S m) (hm : m' ≤ m) : PStB p a B w rb n ls S m' :=
  { h with
    few := by have := h.few; omega
    ok := { h.ok with tops := (by have := h.ok.tops; omega), rulen := (by have := h.ok.rulen; omega), defs := (by have := h.ok.defs; omega) } }
theorem PStC.fewer {p : PV} {a : Nat → Addr} {B : Nat} {w : World} {rb : Nat} {n : Int} {ls : List Line} {S : St} {m m' : Nat} (h : PStC p a B w rb n ls S m) (hm : m' ≤ m) : PStC p a B w rb n ls S m' := ⟨h.toPStB.fewer hm, h.made⟩
theorem PStB.bw {p : PV} {a : Nat → Addr} {B : Nat} {w : World} {rb : Nat} {n : Int} {ls : List Line} {S : St} {m : Nat} (h : PStB p a B w rb n ls S m) : B ≤ w.heap.size := Nat.le_trans h.lowrb (Nat.le_of_lt h.rowlt)
end Go.Proofs.YthhbpebihgjpjaaGreatDoor

namespace Go.Proofs.YthhbpebihgjpjaaGreatDoor
open Go.RowKit Go.Shelf
set_option maxRecDepth 1000000

theorem prefix_two (t : ByteArray) (c d : UInt8) : Lib.hasPrefix t.data.toList [c, d] = decide (1 < t.size ∧ byteOf t 0 = c.toNat ∧ byteOf t 1 = d.toNat) := by
  unfold Lib.hasPrefix byteOf
  rw [← Array.getElem?_toList, ← Array.getElem?_toList]
  have hs : t.size = t.data.toList.length := by rw [Array.length_toList]; rfl
  rw [hs]
  cases t.data.toList with
  | nil => rfl
  | cons x l =>
    cases l with
    | nil =>
      show (c == x && false) = _
      simp
    | cons y l =>
      show (c == x && (d == y && ([] : List UInt8).isPrefixOf l)) = _
      rw [Bool.eq_iff_iff]
      simp
      exact ⟨fun e => ⟨by rw [e.1], by rw [e.2]⟩, fun e => ⟨(UInt8.toNat_inj.1 e.1).symm, (UInt8.toNat_inj.1 e.2).symm⟩⟩
theorem extract_one (t : ByteArray) (c : UInt8) (h : 0 < t.size) (hc : byteOf t 0 = c.toNat) : t.extract 0 1 = ⟨#[c]⟩ := by
  apply ByteArray.ext
  apply Array.toList_inj.1
  rw [ByteArray.data_extract, Array.toList_extract]
  unfold byteOf at hc
  rw [← Array.getElem?_toList] at hc
  have hs : t.size = t.data.toList.length := by rw [Array.length_toList]; rfl
  rw [hs] at h
  cases hl : t.data.toList with
  | nil => rw [hl] at h; exact absurd h (by simp)
  | cons x l =>
    rw [hl] at hc
    have : x = c := UInt8.toNat_inj.1 (by simpa using hc)
    rw [this]; rfl
theorem text_differ {p : ByteArray} {l : List UInt8} (h : ¬ p = ⟨l.toArray⟩) : (p.toList == l) = false := by
  cases hq : (p.toList == l) with
  | true => exact absurd (text_same (by rw [ByteArray.toList_eq ⟨l.toArray⟩]; exact hq)) h
  | false => rfl
theorem begins_spec (t : ByteArray) (c : Nat) : begins t c = decide (0 < t.size ∧ byteOf t 0 = c) := rfl
set_option maxHeartbeats 2000000 in
theorem markOf_any (u : ByteArray) (w : World) :
    Calls Tryz.prog 319 #[.string u] w fun e w' => e = .returned (.string (markB u)) ∧ w' = w := by
  have HP2 : Hid (∀ wx, Calls Tryz.prog 193 #[.string u, .string ⟨#[124, 124]⟩] wx fun e w' => e = .returned (.bool (decide (1 < u.size ∧ byteOf u 0 = 124 ∧ byteOf u 1 = 124))) ∧ w' = wx) := fun wx => by
    have := Any.strings_HasPrefix Tryz.lays99 u ⟨#[124, 124]⟩ wx
    rw [show (⟨#[124, 124]⟩ : ByteArray).data.toList = [124, 124] from rfl, prefix_two] at this
    exact this
  have HP1 : Hid (∀ wx, Calls Tryz.prog 193 #[.string u, .string ⟨#[124]⟩] wx fun e w' => e = .returned (.bool (begins u 124)) ∧ w' = wx) := fun wx => hasPrefix_any u 124 wx
  have HP3 : Hid (∀ wx, Calls Tryz.prog 193 #[.string u, .string ⟨#[58]⟩] wx fun e w' => e = .returned (.bool (begins u 58)) ∧ w' = wx) := fun wx => hasPrefix_any u 58 wx
  have HM : Hid (markB u = if begins u 124 = true then (if 1 < u.size ∧ byteOf u 1 = 124 then tBars else tBar) else if begins u 58 = true then tColon else ⟨#[]⟩) := rfl
  by_cases h2 : 1 < u.size ∧ byteOf u 0 = 124 ∧ byteOf u 1 = 124
  · have HF : Hid (markB u = ⟨#[124, 124]⟩) := by
      rw [HM.out, begins_spec, decide_eq_true (show 0 < u.size ∧ byteOf u 0 = 124 from ⟨by omega, h2.2.1⟩), if_pos rfl, if_pos ⟨h2.1, h2.2.2⟩]; rfl
    rw [decide_eq_true h2] at HP2
    go_enter Tryz.func319, Tryz.ntmps319
    go_wp2_with fail
    refine (HP2.out _).mono ?_
    rintro e w1 ⟨rfl, rfl⟩
    go_wp2_with fail
    go_ret
    exact ⟨by rw [HF.out]; rfl, rfl⟩
  · rw [decide_eq_false h2] at HP2
    by_cases h1 : 0 < u.size ∧ byteOf u 0 = 124
    · have hb : begins u 124 = true := decide_eq_true h1
      have HF : Hid (markB u = ⟨#[124]⟩) := by rw [HM.out, if_pos hb, if_neg (fun h => h2 ⟨h.1, h1.2, h.2⟩)]; rfl
      have hsl : ∀ wx, (Instr.slice 9 (.string u) none (some (.int .i64 1)) none).run Tryz.prog wx = .ok (.string ⟨#[124]⟩) wx := fun wx => by
        have := slice_head u 1 (by omega) wx
        rw [extract_one u 124 h1.1 h1.2] at this
        exact this
      rw [hb] at HP1
      go_enter Tryz.func319, Tryz.ntmps319
      go_wp2_with fail
      refine (HP2.out _).mono ?_
      rintro e w1 ⟨rfl, rfl⟩
      go_wp2_with fail
      refine (HP1.out _).mono ?_
      rintro e w1 ⟨rfl, rfl⟩
      go_wp2_with fail
      go_ret
      exact ⟨by rw [HF.out]; rfl, rfl⟩
    · have hb : begins u 124 = false := decide_eq_false h1
      rw [hb] at HP1
      by_cases h3 : 0 < u.size ∧ byteOf u 0 = 58
      · have hb3 : begins u 58 = true := decide_eq_true h3
        have HF : Hid (markB u = ⟨#[58]⟩) := by rw [HM.out, hb, if_neg (by decide), if_pos hb3]; rfl
        have hsl : ∀ wx, (Instr.slice 9 (.string u) none (some (.int .i64 1)) none).run Tryz.prog wx = .ok (.string ⟨#[58]⟩) wx := fun wx => by
          have := slice_head u 1 (by omega) wx
          rw [extract_one u 58 h3.1 h3.2] at this
          exact this
        rw [hb3] at HP3
        go_enter Tryz.func319, Tryz.ntmps319
        go_wp2_with fail
        refine (HP2.out _).mono ?_
        rintro e w1 ⟨rfl, rfl⟩
        go_wp2_with fail
        refine (HP1.out _).mono ?_
        rintro e w1 ⟨rfl, rfl⟩
        go_wp2_with fail
        refine (HP3.out _).mono ?_
        rintro e w1 ⟨rfl, rfl⟩
        go_wp2_with fail
        go_ret
        exact ⟨by rw [HF.out]; rfl, rfl⟩
      · have hb3 : begins u 58 = false := decide_eq_false h3
        have HF : Hid (markB u = ⟨#[]⟩) := by rw [HM.out, hb, hb3, if_neg (by decide), if_neg (by decide)]; rfl
        rw [hb3] at HP3
        go_enter Tryz.func319, Tryz.ntmps319
        go_wp2_with fail
        refine (HP2.out _).mono ?_
        rintro e w1 ⟨rfl, rfl⟩
        go_wp2_with fail
        refine (HP1.out _).mono ?_
        rintro e w1 ⟨rfl, rfl⟩
        go_wp2_with fail
        refine (HP3.out _).mono ?_
        rintro e w1 ⟨rfl, rfl⟩
        go_wp2_with fail
        go_ret
        exact ⟨by rw [HF.out]; rfl, rfl⟩
end Go.Proofs.YthhbpebihgjpjaaGreatDoor

namespace Go.Proofs.YthhbpebihgjpjaaGreatDoor
set_option maxRecDepth 1000000

theorem spanL_stop (p : Nat → Bool) : ∀ (l : List UInt8) (c : UInt8), l[spanL p l]? = some c → p c.toNat = false
  | [], c, h => by cases h
  | x :: l, c, h => by
    rw [spanL] at h
    by_cases hp : p x.toNat = true
    · rw [if_pos hp] at h
      exact spanL_stop p l c (by simpa using h)
    · rw [if_neg hp] at h
      simp only [List.getElem?_cons_zero, Option.some.injEq] at h
      subst h
      exact Bool.eq_false_iff.2 hp
theorem left_first (t : ByteArray) (h : (leftB t).size ≠ 0) : byteOf (leftB t) 0 ≠ 32 := by
  rw [leftB_size] at h
  unfold leftB
  rw [byteOf_extract _ _ _ _ (by omega) (Nat.le_refl _), Nat.add_zero]
  have hl : blankLen t < t.data.toList.length := by rw [Array.length_toList]; show _ < t.size; omega
  have h1 := spanL_stop isBl t.data.toList (t.data.toList[blankLen t]) (by exact List.getElem?_eq_getElem hl)
  rw [byteOf_get (List.getElem?_eq_getElem hl)]
  intro e
  rw [e] at h1
  exact absurd h1 (by decide)
theorem mark_none {u : ByteArray} (h : markB u = ⟨#[]⟩) : begins u 124 = false ∧ begins u 58 = false := by
  unfold markB at h
  split at h
  · split at h
    · exact absurd h (by decide)
    · exact absurd h (by decide)
  · rename_i h1
    split at h
    · exact absurd h (by decide)
    · rename_i h2
      exact ⟨Bool.eq_false_iff.2 h1, Bool.eq_false_iff.2 h2⟩
theorem mark_size {u : ByteArray} (h : markB u ≠ ⟨#[]⟩) : 1 ≤ (markB u).size ∧ (markB u).size ≤ u.size := by
  unfold markB at *
  split
  · rename_i h1
    have := of_decide_eq_true h1
    split
    · rename_i h2
      exact ⟨by decide, by show 2 ≤ _; omega⟩
    · exact ⟨by decide, by show 1 ≤ _; omega⟩
  · rename_i h1
    split
    · rename_i h2
      have := of_decide_eq_true h2
      exact ⟨by decide, by show 1 ≤ _; omega⟩
    · rename_i h2
      rw [if_neg h1, if_neg h2] at h
      exact absurd rfl h
theorem pathEnd_pos (u : ByteArray) (h : (leftB u).size ≠ 0) (hm : markB (leftB u) = ⟨#[]⟩) : 1 ≤ pathEnd (leftB u) ∧ pathEnd (leftB u) ≤ (leftB u).size := by
  have h1 := left_first u h
  obtain ⟨h2, h3⟩ := mark_none hm
  have h2 := of_decide_eq_false h2
  have h3 := of_decide_eq_false h3
  unfold pathEnd
  refine ⟨?_, Nat.min_le_right _ _⟩
  have hs : 1 ≤ scanB isSep (leftB u) := by
    unfold scanB
    by_cases hd : byteOf (leftB u) 0 = 36
    · rw [scanAt_dol _ _ _ (by omega) hd]
      have := (scanAt_le isSep (leftB u) _ (0 + 2) (Nat.le_refl _) (by omega)).1
      omega
    · rw [scanAt_step _ _ _ (by omega) hd (by unfold isSep; exact decide_eq_false (by omega))]
      exact (scanAt_le isSep (leftB u) _ (0 + 1) (Nat.le_refl _) (by omega)).1
  omega
theorem pathsFrom_fuel (E : ByteArray → ByteArray) (ms : List ByteArray) : ∀ (g g' : Nat) (u : ByteArray) (a : Secs), u.size < g → u.size < g' → pathsFrom E ms g u a = pathsFrom E ms g' u a
  | 0, _, _, _, h, _ => by omega
  | _ + 1, 0, _, _, _, h => by omega
  | g + 1, g' + 1, u, a, h, h' => by
    rw [pathsFrom, pathsFrom]
    have hle := leftB_le u
    by_cases h0 : (leftB u).size = 0
    · rw [if_pos h0, if_pos h0]
    · rw [if_neg h0, if_neg h0]
      by_cases hm : markB (leftB u) = ⟨#[]⟩
      · rw [if_pos hm, if_pos hm]
        have hp := pathEnd_pos u h0 hm
        cases pathS E ((leftB u).extract 0 (pathEnd (leftB u))) with
        | error e => rfl
        | ok p => exact pathsFrom_fuel E ms g g' _ _ (by rw [ByteArray.size_extract]; omega) (by rw [ByteArray.size_extract]; omega)
      · rw [if_neg hm, if_neg hm]
        have hz := mark_size hm
        by_cases hb : memB (markB (leftB u)) ms = true
        · rw [if_pos hb, if_pos hb]
          exact pathsFrom_fuel E ms g g' _ _ (by rw [ByteArray.size_extract]; omega) (by rw [ByteArray.size_extract]; omega)
        · rw [if_neg hb, if_neg hb]
theorem pathsAt_end (E : ByteArray → ByteArray) (ms : List ByteArray) (u : ByteArray) (a : Secs) (h : (leftB u).size = 0) : pathsAt E ms u a = .ok a := by
  unfold pathsAt
  rw [pathsFrom, if_pos h]
theorem pathsAt_path (E : ByteArray → ByteArray) (ms : List ByteArray) (u : ByteArray) (a : Secs) (h : (leftB u).size ≠ 0) (hm : markB (leftB u) = ⟨#[]⟩) : pathsAt E ms u a = (match pathS E ((leftB u).extract 0 (pathEnd (leftB u))) with
    | .error e => .error e
    | .ok p => pathsAt E ms ((leftB u).extract (pathEnd (leftB u)) (leftB u).size) (addPath a p)) := by
  have hle := leftB_le u
  have hp := pathEnd_pos u h hm
  unfold pathsAt
  conv => lhs; rw [pathsFrom, if_neg h, if_pos hm]
  cases pathS E ((leftB u).extract 0 (pathEnd (leftB u))) with
  | error e => rfl
  | ok p => exact pathsFrom_fuel E ms _ _ _ _ (by rw [ByteArray.size_extract]; omega) (by omega)
theorem pathsAt_mark (E : ByteArray → ByteArray) (ms : List ByteArray) (u : ByteArray) (a : Secs) (h : (leftB u).size ≠ 0) (hm : markB (leftB u) ≠ ⟨#[]⟩) : pathsAt E ms u a = if memB (markB (leftB u)) ms = true then pathsAt E ms ((leftB u).extract (markB (leftB u)).size (leftB u).size) (a ++ [(markB (leftB u), [])]) else .error .syn := by
  have hle := leftB_le u
  have hz := mark_size hm
  unfold pathsAt
  conv => lhs; rw [pathsFrom, if_neg h, if_neg hm]
  by_cases hb : memB (markB (leftB u)) ms = true
  · rw [if_pos hb, if_pos hb]
    exact pathsFrom_fuel E ms _ _ _ _ (by rw [ByteArray.size_extract]; omega) (by omega)
  · rw [if_neg hb, if_neg hb]
theorem addPath_snoc (I : Secs) (mk : ByteArray) (l : List ByteArray) (p : ByteArray) : addPath (I ++ [(mk, l)]) p = I ++ [(mk, l ++ [p])] := by
  unfold addPath
  rw [List.getLast?_append, List.getLast?_singleton]
  simp
end Go.Proofs.YthhbpebihgjpjaaGreatDoor
