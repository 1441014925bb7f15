import Derived.Test.YthhbpebihgjpjaaGreatDoorR07
import Derived.Laws.AppendOwn
import Derived.Maps.AppendAt
namespace Go.Proofs.YthhbpebihgjpjaaGreatDoor
open Go.RowKit
set_option maxRecDepth 1000000

/-! The loops of 'primes', as plain functions. -/
def okM (p : Nat) (l : List Nat) : Nat → Nat → Bool → Option Bool
  | 0, _, _ => none
  | f + 1, i, ok => if i < l.length then (if l.getD i 0 < 1000 ∧ 0 < l.getD i 0 then (if l.getD i 0 * l.getD i 0 ≤ p then okM p l f (i + 1) (ok && decide (¬ p % l.getD i 0 = 0)) else some ok) else none) else some ok
def primesM (n : Nat) : Nat → Nat → List Nat → Option (List Nat)
  | 0, _, _ => none
  | f + 1, p, l => if l.length < n then (if p < 1000 then (okM p l 100 0 true).bind fun ok => primesM n f (p + 1) (if ok then l ++ [p] else l) else none) else some l

def vals (l : List Nat) : List Value := l.map fun x : Nat => Value.int .i64 (x : Int)
theorem vals_append (l : List Nat) (p : Nat) : vals (l ++ [p]) = vals l ++ [.int .i64 (p : Int)] := by simp [vals]
theorem vals_at (l : List Nat) (i : Nat) (h : i < l.length) : (vals l)[i]? = some (.int .i64 ((l.getD i 0 : Nat) : Int)) := by simp [vals, h]

/-- A list of numbers in a row of the call's own. -/
structure Own (base : Nat) (v : Value) (l : List Nat) (w : World) : Prop where
  own : w.ownsRow base 3 1 v l.length (vals l)
/-- Where there is an element, there is a row. -/
theorem Own.row {base : Nat} {v : Value} {l : List Nat} {w : World} (h : Own base v l w) (hl : 0 < l.length) :
    ∃ g cap, v = .slice (some ⟨g, 0, none⟩) l.length cap ∧ base ≤ g ∧ ∀ i, i < l.length → w.cell? ⟨g, i, none⟩ = some (.int .i64 ((l.getD i 0 : Nat) : Int)) := by
  obtain ⟨_, ⟨_, h0⟩ | ⟨g, cap, cur, rfl, hg, hh, _, _, _, ht⟩⟩ := h.own
  · omega
  · refine ⟨g, cap, rfl, hg, fun i hi => ?_⟩
    rw [cell_of_row _ _ _ _ _ _ hh]
    have := vals_at l i hi
    rw [← ht, List.getElem?_take, if_pos (by omega)] at this
    simpa using this

theorem Own.later {base : Nat} {v : Value} {l : List Nat} {w w' : World} (h : Own base v l w) (hb : ∀ k, k < w.heap.size → w'.heap[k]? = w.heap[k]?) : Own base v l w' := by
  obtain ⟨h1, ⟨rfl, h0⟩ | ⟨g, cap, cur, rfl, hg, hh, r⟩⟩ := h.own
  · exact ⟨⟨h1, Or.inl ⟨rfl, h0⟩⟩⟩
  · have hlt : g < w.heap.size := by
      rcases Nat.lt_or_ge g w.heap.size with c | c
      · exact c
      · rw [Array.getElem?_eq_none c] at hh; cases hh
    exact ⟨⟨h1, Or.inr ⟨g, cap, cur, rfl, hg, by rw [hb g hlt]; exact hh, r⟩⟩⟩
/-- The list's value, in one form. -/
theorem Own.form {base : Nat} {v : Value} {l : List Nat} {w : World} (h : Own base v l w) : ∃ ao cap, v = .slice ao l.length cap := by
  obtain ⟨_, ⟨rfl, h0⟩ | ⟨g, cap, cur, rfl, _⟩⟩ := h.own
  · exact ⟨none, 0, by rw [h0]⟩
  · exact ⟨_, _, rfl⟩
theorem Own.block {base : Nat} {ao : Option Addr} {n cap : Nat} {l : List Nat} {w : World} (h : Own base (.slice ao n cap) l w) (k : Nat) (hk : (Value.slice ao n cap).ownBlock = some k) : base ≤ k := by
  obtain ⟨_, ⟨h1, h0⟩ | ⟨g, cap', cur, h1, hg, _⟩⟩ := h.own
  · rw [h1] at hk; cases hk
  · rw [h1] at hk
    have : g = k := by simpa [Value.ownBlock] using hk
    omega

set_option maxHeartbeats 2000000 in
theorem primes_any (n : Nat) (t : List Nat) (ht : primesM n 1000 2 [] = some t) (hn : n ≤ 100) (w : World) :
    Calls Tryz.prog 127 #[.int .i64 n] w fun e w' => ∃ v, e = .returned v ∧ Own w.heap.size v t w' ∧ Below w.heap.size w w' := by
  have HT : Hid (primesM n 1000 2 [] = some t) := ht
  have n1 : (n : Int) ≤ 100 := by omega
  clear ht
  go_enter Tryz.func127, Tryz.ntmps127
  go_wp2
  go_loopw [3, 4] (fun v q wr => ∃ (p f : Nat) (l : List Nat), q = .int .i64 p ∧ Hid (primesM n f p l = some t) ∧ Own w.heap.size v l wr ∧ Below w.heap.size w wr ∧ l.length ≤ 100 ∧ p ≤ 1000) (fun _ q _ => 1000 - (intOf q).toNat)
  case atStart => exact ⟨2, 1000, [], rfl, HT, ⟨⟨rfl, Or.inl ⟨rfl, rfl⟩⟩⟩, Below.refl _ _, by simp, by omega⟩
  case round =>
    clear HT
    obtain ⟨p, f, l, rfl, HT, hown, hbel, hl, hp⟩ := hrel
    have HO : Hid (Own w.heap.size u3 l wr) := hown
    have HB : Hid (Below w.heap.size w wr) := hbel
    clear hown hbel
    have hinf : (Tryz.prog.info? 3).map (fun i => (i.size, i.bytes, i.zero)) = some (1, 8, some (.int .i64 0)) := by kernel_rfl
    obtain ⟨ti, hti, htj⟩ := Option.map_eq_some_iff.1 hinf
    simp only [Prod.mk.injEq] at htj
    have HTI : Hid (Tryz.prog.info? 3 = some ti ∧ ti.size = 1 ∧ ti.bytes = 8 ∧ ti.zero = some (.int .i64 0)) := ⟨hti, htj.1, htj.2.1, htj.2.2⟩
    clear hinf hti htj
    obtain ⟨ao, cap, hform⟩ := HO.out.form
    subst hform
    have hcase := HT.out
    cases f with
    | zero => cases hcase
    | succ f =>
      unfold primesM at hcase
      by_cases hln : l.length < n
      · rw [if_pos hln] at hcase
        split at hcase
        case isFalse => cases hcase
        rename_i hp1
        obtain ⟨ok, hok, hnext⟩ := Option.bind_eq_some_iff.1 hcase
        have HK : Hid (okM p l 100 0 true = some ok) := hok
        have HN : Hid (primesM n f (p + 1) (if ok then l ++ [p] else l) = some t) := hnext
        clear hcase hok hnext HT
        have g1 : (l.length : Int) < (n : Int) := by omega
        have p1 : (p : Int) < 1000 := by omega
        have g2 : (l.length : Int) ≤ 100 := by omega
        go_wp2
        obtain ⟨wo, rfl⟩ : ∃ wo : World, wo = wr := ⟨_, rfl⟩
        go_loopw [5, 6] (fun a b wr => ∃ (i f : Nat) (o : Bool), b = .int .i64 i ∧ a = .bool o ∧ i ≤ l.length ∧ Hid (okM p l f i o = some ok) ∧ Own w.heap.size (.slice ao l.length cap) l wr ∧ Below w.heap.size w wr) (fun _ b _ => l.length - (intOf b).toNat)
        case atStart => exact ⟨0, 100, true, rfl, rfl, by omega, HK, HO.out, HB.out⟩
        case round =>
          clear HK HO HB
          obtain ⟨i, f2, o, rfl, rfl, hi, HK, hown, hbel⟩ := hrel
          have HO : Hid (Own w.heap.size (.slice ao l.length cap) l wr) := hown
          have HB : Hid (Below w.heap.size w wr) := hbel
          clear hown hbel
          have hk := HK.out
          cases f2 with
          | zero => cases hk
          | succ f2 =>
            unfold okM at hk
            by_cases hil : i < l.length
            · rw [if_pos hil] at hk
              split at hk
              case isFalse => cases hk
              rename_i hx
              obtain ⟨x, ex⟩ : ∃ x, x = l.getD i 0 := ⟨_, rfl⟩
              rw [← ex] at hk hx
              obtain ⟨g, cap', hv, hg, hcell⟩ := HO.out.row (by omega)
              have ea : ao = some ⟨g, 0, none⟩ := by injection hv
              subst ea
              have cx : wr.cell? ⟨g, i, none⟩ = some (.int .i64 (x : Int)) := by rw [hcell i hil, ex]
              have i1 : (i : Int) < (l.length : Int) := by omega
              have x1 : (x : Int) < 1000 := by omega
              have x0 : (0 : Int) < (x : Int) := by omega
              clear hcell hv
              have kx : IntKind.i64.wrap ((x : Int) * (x : Int)) = (x : Int) * (x : Int) := by
                have h2 : x * x ≤ 1000 * 1000 := Nat.mul_le_mul (by omega) (by omega)
                have e2 : ((x * x : Nat) : Int) = (x : Int) * (x : Int) := by simp
                rw [IntKind.wrap_i64]; omega
              by_cases hxx : x * x ≤ p
              · rw [if_pos hxx] at hk
                have q1 : (x : Int) * (x : Int) ≤ (p : Int) := by
                  have e2 : ((x * x : Nat) : Int) = (x : Int) * (x : Int) := by simp
                  omega
                have HK2 : Hid (okM p l f2 (i + 1) (o && decide (¬ p % x = 0)) = some ok) := hk
                clear hk HK ex hxx
                go_wp2
                go_quiet (fail)
                cases o
                · have HK3 : Hid (okM p l f2 (i + 1) false = some ok) := HK2.out
                  clear HK2
                  go_wp2
                  refine ⟨⟨i + 1, f2, false, by go_num, rfl, by omega, HK3, HO.out.later (fun _ _ => rfl), below_drewN HB.out _⟩, by simp [intOf]; omega⟩
                · have ev : ((p : Int) % (x : Int) != 0) = decide (¬ p % x = 0) := by
                    rw [show (p : Int) % (x : Int) = ((p % x : Nat) : Int) by simp]
                    rw [Bool.eq_iff_iff]; simp; omega
                  have EV : Hid (((p : Int) % (x : Int) != 0) = decide (¬ p % x = 0)) := ev
                  clear ev
                  go_wp2
                  refine ⟨⟨i + 1, f2, decide (¬ p % x = 0), by go_num, by rw [EV.out], by omega, HK2, HO.out.later (fun _ _ => rfl), below_drewN HB.out _⟩, by simp [intOf]; omega⟩
              · rw [if_neg hxx] at hk
                have q1 : ¬ (x : Int) * (x : Int) ≤ (p : Int) := by
                  have e2 : ((x * x : Nat) : Int) = (x : Int) * (x : Int) := by simp
                  omega
                have ho : o = ok := Option.some.inj hk
                subst ho
                clear hk HK ex hxx
                go_wp2
                go_quiet (fail)
                cases o
                · have HN2 : Hid (primesM n f (p + 1) l = some t) := HN.out
                  clear HN
                  go_wp2
                  go_roundw
                  case rel =>
                    first
                      | exact ⟨p + 1, f, l, by go_num, HN2, HO.out.later (fun _ _ => rfl), below_drewN HB.out _, by omega, by omega⟩
                      | ((repeat apply Exists.intro); exact ⟨⟨p + 1, f, l, by go_num, HN2, HO.out.later (fun _ _ => rfl), below_drewN HB.out _, by omega, by omega⟩, rfl⟩)
                  case measure => simp [intOf]; omega
                · have HN2 : Hid (primesM n f (p + 1) (l ++ [p]) = some t) := HN.out
                  clear HN
                  go_wp2_with (refine wpList_append_own _ rfl (.tmp 43) (.tmp 45) 48 rfl w.heap.size 3 ti (.int .i64 0) 1 8 Tryz.underlying48 HTI.out.1 HTI.out.2.2.2 HTI.out.2.1 HTI.out.2.2.1 rfl (by decide) _ l.length (vals l) rfl (by exact (HO.out.later (fun k hk => heapA_old wr _ k hk)).own) ⟨wr.heap.size, 0, none⟩ 1 1 [.int .i64 (p : Int)] rfl rfl (by exact cell_one_new wr _ _) (by intro u hu; simp at hu; subst hu; rfl) (by unfold maxLen; omega) (by omega) (by have := HB.out.size; simp; omega) ?_; intro v' w3 hv3 hg3 hn3; refine Hid.out ?_)
                  have HO3 : Hid (Own w.heap.size v' (l ++ [p]) w3) := ⟨by rw [List.length_append, vals_append]; exact hv3⟩
                  have HB3 : Hid (Below w.heap.size w w3) := by
                    have hb4 : Below w.heap.size w ((wr.alloc (.cells #[.int .i64 (p : Int)] 3)).drewN nq) := below_drewN (HB.out.alloc HB.out.size _) _
                    exact hb4.grown hg3 (by have := HB.out.size; simp; omega) (fun k hk => HO.out.block k hk)
                  clear hv3 hg3 hn3 HO HB
                  unfold Hid
                  go_wp2
                  go_roundw
                  case rel =>
                    first
                      | exact ⟨p + 1, f, l ++ [p], by go_num, HN2, HO3.out, HB3.out, by simp; omega, by omega⟩
                      | ((repeat apply Exists.intro); exact ⟨⟨p + 1, f, l ++ [p], by go_num, HN2, HO3.out, HB3.out, by simp; omega, by omega⟩, rfl⟩)
                  case measure => simp [intOf]; omega
            · rw [if_neg hil] at hk
              have ho : o = ok := Option.some.inj hk
              subst ho
              have q0 : decide ((i : Int) < (l.length : Int)) = false := decide_eq_false (by omega)
              clear hk
              go_wp2
              go_quiet (fail)
              cases o
              · have HN2 : Hid (primesM n f (p + 1) l = some t) := HN.out
                clear HN
                go_wp2
                go_roundw
                case rel =>
                  first
                    | exact ⟨p + 1, f, l, by go_num, HN2, HO.out.later (fun _ _ => rfl), below_drewN HB.out _, by omega, by omega⟩
                    | ((repeat apply Exists.intro); exact ⟨⟨p + 1, f, l, by go_num, HN2, HO.out.later (fun _ _ => rfl), below_drewN HB.out _, by omega, by omega⟩, rfl⟩)
                case measure => simp [intOf]; omega
              · have HN2 : Hid (primesM n f (p + 1) (l ++ [p]) = some t) := HN.out
                clear HN
                go_wp2_with (refine wpList_append_own _ rfl (.tmp 43) (.tmp 45) 48 rfl w.heap.size 3 ti (.int .i64 0) 1 8 Tryz.underlying48 HTI.out.1 HTI.out.2.2.2 HTI.out.2.1 HTI.out.2.2.1 rfl (by decide) _ l.length (vals l) rfl (by exact (HO.out.later (fun k hk => heapA_old wr _ k hk)).own) ⟨wr.heap.size, 0, none⟩ 1 1 [.int .i64 (p : Int)] rfl rfl (by exact cell_one_new wr _ _) (by intro u hu; simp at hu; subst hu; rfl) (by unfold maxLen; omega) (by omega) (by have := HB.out.size; simp; omega) ?_; intro v' w3 hv3 hg3 hn3; refine Hid.out ?_)
                have HO3 : Hid (Own w.heap.size v' (l ++ [p]) w3) := ⟨by rw [List.length_append, vals_append]; exact hv3⟩
                have HB3 : Hid (Below w.heap.size w w3) := by
                  have hb4 : Below w.heap.size w ((wr.alloc (.cells #[.int .i64 (p : Int)] 3)).drewN nq) := below_drewN (HB.out.alloc HB.out.size _) _
                  exact hb4.grown hg3 (by have := HB.out.size; simp; omega) (fun k hk => HO.out.block k hk)
                clear hv3 hg3 hn3 HO HB
                unfold Hid
                go_wp2
                go_roundw
                case rel =>
                  first
                    | exact ⟨p + 1, f, l ++ [p], by go_num, HN2, HO3.out, HB3.out, by simp; omega, by omega⟩
                    | ((repeat apply Exists.intro); exact ⟨⟨p + 1, f, l ++ [p], by go_num, HN2, HO3.out, HB3.out, by simp; omega, by omega⟩, rfl⟩)
                case measure => simp [intOf]; omega
      · rw [if_neg hln] at hcase
        have hlt : l = t := Option.some.inj hcase
        subst hlt
        clear hcase
        have g1 : ¬ (l.length : Int) < (n : Int) := by omega
        go_wp2
        go_ret
        exact ⟨_, rfl, HO.out, HB.out⟩
end Go.Proofs.YthhbpebihgjpjaaGreatDoor
