import Derived.Test.YthhbpebihgjpjaaGreatDoorP45
import Derived.Laws.AppendOwn
import Derived.Maps.AppendAt
namespace Go.Proofs.YthhbpebihgjpjaaGreatDoor
open Go.RowKit
set_option maxRecDepth 1000000

/-! The loops of 'primes', as plain functions. -/
def okM (p : Nat) (l : List Nat) : Nat → Nat → Bool → Option Bool
 | 0, _, _ => none
 | f + 1, i, ok => if i < l.length then (if l.getD i 0 < 1000 ∧ 0 < l.getD i 0 then (if l.getD i 0 * l.getD i 0 ≤ p then okM p l f (i + 1) (ok && decide (¬ p % l.getD i 0 = 0)) else some ok) else none) else some ok
def primesM (n : Nat) : Nat → Nat → List Nat → Option (List Nat)
 | 0, _, _ => none
 | f + 1, p, l => if l.length < n then (if p < 1000 then (okM p l 100 0 true).bind fun ok => primesM n f (p + 1) (if ok then l ++ [p] else l) else none) else some l

def vals (l : List Nat) : List Value := l.map fun x : Nat => Value.int .i64 (x : Int)
theorem vals_append (l : List Nat) (p : Nat) : vals (l ++ [p]) = vals l ++ [.int .i64 (p : Int)] := by simp [vals]
theorem vals_at (l : List Nat) (i : Nat) (h : i < l.length) : (vals l)[i]? = some (.int .i64 ((l.getD i 0 : Nat) : Int)) := by simp [vals, h]

structure Own (base : Nat) (v : Value) (l : List Nat) (w : World) : Prop where
 own : w.ownsRow base 3 1 v l.length (vals l)
theorem Own.row {base : Nat} {v : Value} {l : List Nat} {w : World} (h : Own base v l w) (hl : 0 < l.length) :
  ∃ g cap, v = .slice (some ⟨g, 0, none⟩) l.length cap ∧ base ≤ g ∧ ∀ i, i < l.length → w.cell? ⟨g, i, none⟩ = some (.int .i64 ((l.getD i 0 : Nat) : Int)) := by
 obtain ⟨_, ⟨_, h0⟩ | ⟨g, cap, cur, rfl, hg, hh, _, _, _, ht⟩⟩ := h.own
 ·omega
 ·refine ⟨g, cap, rfl, hg, fun i hi => ?_⟩
  rw [cell_of_row _ _ _ _ _ _ hh]
  have := vals_at l i hi
  rw [← ht, List.getElem?_take, if_pos (by omega)] at this
  simpa using this

theorem Own.later {base : Nat} {v : Value} {l : List Nat} {w w' : World} (h : Own base v l w) (hb : ∀ k, k < w.heap.size → w'.heap[k]? = w.heap[k]?) : Own base v l w' := by
 obtain ⟨h1, ⟨rfl, h0⟩ | ⟨g, cap, cur, rfl, hg, hh, r⟩⟩ := h.own
 ·exact ⟨⟨h1, Or.inl ⟨rfl, h0⟩⟩⟩
 ·have hlt : g < w.heap.size := by
   rcases Nat.lt_or_ge g w.heap.size with c | c
   ·exact c
   ·rw [Array.getElem?_eq_none c] at hh; cases hh
  exact ⟨⟨h1, Or.inr ⟨g, cap, cur, rfl, hg, by rw [hb g hlt]; exact hh, r⟩⟩⟩
theorem Own.form {base : Nat} {v : Value} {l : List Nat} {w : World} (h : Own base v l w) : ∃ ao cap, v = .slice ao l.length cap := by
 obtain ⟨_, ⟨rfl, h0⟩ | ⟨g, cap, cur, rfl, _⟩⟩ := h.own
 ·exact ⟨none, 0, by rw [h0]⟩
 ·exact ⟨_, _, rfl⟩
theorem Own.block {base : Nat} {ao : Option Addr} {n cap : Nat} {l : List Nat} {w : World} (h : Own base (.slice ao n cap) l w) (k : Nat) (hk : (Value.slice ao n cap).ownBlock = some k) : base ≤ k := by
 obtain ⟨_, ⟨h1, h0⟩ | ⟨g, cap', cur, h1, hg, _⟩⟩ := h.own
 ·rw [h1] at hk; cases hk
 ·rw [h1] at hk
  have : g = k := by simpa [Value.ownBlock] using hk
  omega

set_option maxHeartbeats 2000000 in
theorem primes_any (n : Nat) (t : List Nat) (ht : primesM n 1000 2 [] = some t) (hn : n ≤ 100) (w : World) :
  Calls Tryz.prog 127 #[.int .i64 n] w fun e w' => ∃ v, e = .returned v ∧ Own w.heap.size v t w' ∧ Below w.heap.size w w' := by
 have HT : Hid (primesM n 1000 2 [] = some t) := ht
 have n1 : (n : Int) ≤ 100 := by omega
 clear ht
 go_enter Tryz.func127, Tryz.ntmps127
 go_wp2
 go_loopw [3, 4] (fun v q wr => ∃ (p f : Nat) (l : List Nat), q = .int .i64 p ∧ Hid (primesM n f p l = some t) ∧ Own w.heap.size v l wr ∧ Below w.heap.size w wr ∧ l.length ≤ 100 ∧ p ≤ 1000) (fun _ q _ => 1000 - (intOf q).toNat)
 case atStart => exact ⟨2, 1000, [], rfl, HT, ⟨⟨rfl, Or.inl ⟨rfl, rfl⟩⟩⟩, Below.refl _ _, by simp, by omega⟩
 case round =>
  clear HT
  obtain ⟨p, f, l, rfl, HT, hown, hbel, hl, hp⟩ := hrel
  have HO : Hid (Own w.heap.size u3 l wr) := hown
  have HB : Hid (Below w.heap.size w wr) := hbel
  clear hown hbel
  have hinf : (Tryz.prog.info? 3).map (fun i => (i.size, i.bytes, i.zero)) = some (1, 8, some (.int .i64 0)) := by kernel_rfl
  obtain ⟨ti, hti, htj⟩ := Option.map_eq_some_iff.1 hinf
  simp only [Prod.mk.injEq] at htj
  have HTI : Hid (Tryz.prog.info? 3 = some ti ∧ ti.size = 1 ∧ ti.bytes = 8 ∧ ti.zero = some (.int .i64 0)) := ⟨hti, htj.1, htj.2.1, htj.2.2⟩
  clear hinf hti htj
  obtain ⟨ao, cap, hform⟩ := HO.out.form
  subst hform
  have hcase := HT.out
  cases f with
  | zero => cases hcase
  | succ f =>
   unfold primesM at hcase
   by_cases hln : l.length < n
   ·rw [if_pos hln] at hcase
    split at hcase
    case isFalse => cases hcase
    rename_i hp1
    obtain ⟨ok, hok, hnext⟩ := Option.bind_eq_some_iff.1 hcase
    have HK : Hid (okM p l 100 0 true = some ok) := hok
    have HN : Hid (primesM n f (p + 1) (if ok then l ++ [p] else l) = some t) := hnext
    clear hcase hok hnext HT
    have g1 : (l.length : Int) < (n : Int) := by omega
    have p1 : (p : Int) < 1000 := by omega
    have g2 : (l.length : Int) ≤ 100 := by omega
    go_wp2
    obtain ⟨wo, rfl⟩ : ∃ wo : World, wo = wr := ⟨_, rfl⟩
    go_loopw [5, 6] (fun a b wr => ∃ (i f : Nat) (o : Bool), b = .int .i64 i ∧ a = .bool o ∧ i ≤ l.length ∧ Hid (okM p l f i o = some ok) ∧ Own w.heap.size (.slice ao l.length cap) l wr ∧ Below w.heap.size w wr) (fun _ b _ => l.length - (intOf b).toNat)
    case atStart => exact ⟨0, 100, true, rfl, rfl, by omega, HK, HO.out, HB.out⟩
    case round =>
     clear HK HO HB
     obtain ⟨i, f2, o, rfl, rfl, hi, HK, hown, hbel⟩ := hrel
     have HO : Hid (Own w.heap.size (.slice ao l.length cap) l wr) := hown
     have HB : Hid (Below w.heap.size w wr) := hbel
     clear hown hbel
     have hk := HK.out
     cases f2 with
     | zero => cases hk
     | succ f2 =>
      unfold okM at hk
      by_cases hil : i < l.length
      ·rw [if_pos hil] at hk
       split at hk
       case isFalse => cases hk
       rename_i hx
       obtain ⟨x, ex⟩ : ∃ x, x = l.getD i 0 := ⟨_, rfl⟩
       rw [← ex] at hk hx
       obtain ⟨g, cap', hv, hg, hcell⟩ := HO.out.row (by omega)
       have ea : ao = some ⟨g, 0, none⟩ := by injection hv
       subst ea
       have cx : wr.cell? ⟨g, i, none⟩ = some (.int .i64 (x : Int)) := by rw [hcell i hil, ex]
       have i1 : (i : Int) < (l.length : Int) := by omega
       have x1 : (x : Int) < 1000 := by omega
       have x0 : (0 : Int) < (x : Int) := by omega
       clear hcell hv
       have kx : IntKind.i64.wrap ((x : Int) * (x : Int)) = (x : Int) * (x : Int) := by
        have h2 : x * x ≤ 1000 * 1000 := Nat.mul_le_mul (by omega) (by omega)
        have e2 : ((x * x : Nat) : Int) = (x : Int) * (x : Int) := by simp
        rw [IntKind.wrap_i64]; omega
       by_cases hxx : x * x ≤ p
       ·rw [if_pos hxx] at hk
        have q1 : (x : Int) * (x : Int) ≤ (p : Int) := by
         have e2 : ((x * x : Nat) : Int) = (x : Int) * (x : Int) := by simp
         omega
        have HK2 : Hid (okM p l f2 (i + 1) (o && decide (¬ p % x = 0)) = some ok) := hk
        clear hk HK ex hxx
        go_wp2
        go_quiet (fail)
        cases o
        ·have HK3 : Hid (okM p l f2 (i + 1) false = some ok) := HK2.out
         clear HK2
         go_wp2
         refine ⟨⟨i + 1, f2, false, by go_num, rfl, by omega, HK3, HO.out.later (fun _ _ => rfl), below_drewN HB.out _⟩, by simp [intOf]; omega⟩
        ·have ev : ((p : Int) % (x : Int) != 0) = decide (¬ p % x = 0) := by
          rw [show (p : Int) % (x : Int) = ((p % x : Nat) : Int) by simp]
          rw [Bool.eq_iff_iff]; simp; omega
         have EV : Hid (((p : Int) % (x : Int) != 0) = decide (¬ p % x = 0)) := ev
         clear ev
         go_wp2
         refine ⟨⟨i + 1, f2, decide (¬ p % x = 0), by go_num, by rw [EV.out], by omega, HK2, HO.out.later (fun _ _ => rfl), below_drewN HB.out _⟩, by simp [intOf]; omega⟩
       ·rw [if_neg hxx] at hk
        have q1 : ¬ (x : Int) * (x : Int) ≤ (p : Int) := by
         have e2 : ((x * x : Nat) : Int) = (x : Int) * (x : Int) := by simp
         omega
        have ho : o = ok := Option.some.inj hk
        subst ho
        clear hk HK ex hxx
        go_wp2
        go_quiet (fail)
        cases o
        ·have HN2 : Hid (primesM n f (p + 1) l = some t) := HN.out
         clear HN
         go_wp2
         go_roundw
         case rel =>
          first
           | exact ⟨p + 1, f, l, by go_num, HN2, HO.out.later (fun _ _ => rfl), below_drewN HB.out _, by omega, by omega⟩
           | ((repeat apply Exists.intro); exact ⟨⟨p + 1, f, l, by go_num, HN2, HO.out.later (fun _ _ => rfl), below_drewN HB.out _, by omega, by omega⟩, rfl⟩)
         case measure => simp [intOf]; omega
        ·have HN2 : Hid (primesM n f (p + 1) (l ++ [p]) = some t) := HN.out
         clear HN
         go_wp2_with (refine wpList_append_own _ rfl (.tmp 43) (.tmp 45) 48 rfl w.heap.size 3 ti (.int .i64 0) 1 8 Tryz.underlying48 HTI.out.1 HTI.out.2.2.2 HTI.out.2.1 HTI.out.2.2.1 rfl (by decide) _ l.length (vals l) rfl (by exact (HO.out.later (fun k hk => heapA_old wr _ k hk)).own) ⟨wr.heap.size, 0, none⟩ 1 1 [.int .i64 (p : Int)] rfl rfl (by exact cell_one_new wr _ _) (by intro u hu; simp at hu; subst hu; rfl) (by unfold maxLen; omega) (by omega) (by have := HB.out.size; simp; omega) ?_; intro v' w3 hv3 hg3 hn3; refine Hid.out ?_)
         have HO3 : Hid (Own w.heap.size v' (l ++ [p]) w3) := ⟨by rw [List.length_append, vals_append]; exact hv3⟩
         have HB3 : Hid (Below w.heap.size w w3) := by
          have hb4 : Below w.heap.size w ((wr.alloc (.cells #[.int .i64 (p : Int)] 3)).drewN nq) := below_drewN (HB.out.alloc HB.out.size _) _
          exact hb4.grown hg3 (by have := HB.out.size; simp; omega) (fun k hk => HO.out.block k hk)
         clear hv3 hg3 hn3 HO HB
         unfold Hid
         go_wp2
         go_roundw
         case rel =>
          first
           | exact ⟨p + 1, f, l ++ [p], by go_num, HN2, HO3.out, HB3.out, by simp; omega, by omega⟩
           | ((repeat apply Exists.intro); exact ⟨⟨p + 1, f, l ++ [p], by go_num, HN2, HO3.out, HB3.out, by simp; omega, by omega⟩, rfl⟩)
         case measure => simp [intOf]; omega
      ·rw [if_neg hil] at hk
       have ho : o = ok := Option.some.inj hk
       subst ho
       have q0 : decide ((i : Int) < (l.length : Int)) = false := decide_eq_false (by omega)
       clear hk
       go_wp2
       go_quiet (fail)
       cases o
       ·have HN2 : Hid (primesM n f (p + 1) l = some t) := HN.out
        clear HN
        go_wp2
        go_roundw
        case rel =>
         first
          | exact ⟨p + 1, f, l, by go_num, HN2, HO.out.later (fun _ _ => rfl), below_drewN HB.out _, by omega, by omega⟩
          | ((repeat apply Exists.intro); exact ⟨⟨p + 1, f, l, by go_num, HN2, HO.out.later (fun _ _ => rfl), below_drewN HB.out _, by omega, by omega⟩, rfl⟩)
        case measure => simp [intOf]; omega
       ·have HN2 : Hid (primesM n f (p + 1) (l ++ [p]) = some t) := HN.out
        clear HN
        go_wp2_with (refine wpList_append_own _ rfl (.tmp 43) (.tmp 45) 48 rfl w.heap.size 3 ti (.int .i64 0) 1 8 Tryz.underlying48 HTI.out.1 HTI.out.2.2.2 HTI.out.2.1 HTI.out.2.2.1 rfl (by decide) _ l.length (vals l) rfl (by exact (HO.out.later (fun k hk => heapA_old wr _ k hk)).own) ⟨wr.heap.size, 0, none⟩ 1 1 [.int .i64 (p : Int)] rfl rfl (by exact cell_one_new wr _ _) (by intro u hu; simp at hu; subst hu; rfl) (by unfold maxLen; omega) (by omega) (by have := HB.out.size; simp; omega) ?_; intro v' w3 hv3 hg3 hn3; refine Hid.out ?_)
        have HO3 : Hid (Own w.heap.size v' (l ++ [p]) w3) := ⟨by rw [List.length_append, vals_append]; exact hv3⟩
        have HB3 : Hid (Below w.heap.size w w3) := by
         have hb4 : Below w.heap.size w ((wr.alloc (.cells #[.int .i64 (p : Int)] 3)).drewN nq) := below_drewN (HB.out.alloc HB.out.size _) _
         exact hb4.grown hg3 (by have := HB.out.size; simp; omega) (fun k hk => HO.out.block k hk)
        clear hv3 hg3 hn3 HO HB
        unfold Hid
        go_wp2
        go_roundw
        case rel =>
         first
          | exact ⟨p + 1, f, l ++ [p], by go_num, HN2, HO3.out, HB3.out, by simp; omega, by omega⟩
          | ((repeat apply Exists.intro); exact ⟨⟨p + 1, f, l ++ [p], by go_num, HN2, HO3.out, HB3.out, by simp; omega, by omega⟩, rfl⟩)
        case measure => simp [intOf]; omega
   ·rw [if_neg hln] at hcase
    have hlt : l = t := Option.some.inj hcase
    subst hlt
    clear hcase
    have g1 : ¬ (l.length : Int) < (n : Int) := by omega
    go_wp2
    go_ret
    exact ⟨_, rfl, HO.out, HB.out⟩
end Go.Proofs.YthhbpebihgjpjaaGreatDoor

namespace Go.Proofs.YthhbpebihgjpjaaGreatDoor
open Go.RowKit
set_option maxRecDepth 1000000

theorem power2 (n : Nat) (w : World) (hn : n ≤ 1000) :
  Calls Tryz.prog 207 #[.int .i64 n, .int .i64 2] w fun e w' => e = .returned (.int .i64 (n * n : Nat)) ∧ w' = w := by
 have h1 : (n : Int) ≤ 1000 := by omega
 have hq : (n : Int) * (n : Int) ≤ 1000000 := by
  have : n * n ≤ 1000 * 1000 := Nat.mul_le_mul hn hn
  have e : ((n * n : Nat) : Int) = (n : Int) * (n : Int) := by simp
  omega
 have h0 : (0 : Int) ≤ (n : Int) * (n : Int) := Int.mul_nonneg (by omega) (by omega)
 go_enter Tryz.func207, Tryz.ntmps207
 go_wp2
 go_ret
 refine ⟨?_, rfl⟩
 simp
theorem power3 (n : Nat) (w : World) (hn : n ≤ 1000) :
  Calls Tryz.prog 207 #[.int .i64 n, .int .i64 3] w fun e w' => e = .returned (.int .i64 (n * n * n : Nat)) ∧ w' = w := by
 have h1 : (n : Int) ≤ 1000 := by omega
 have hq : (n : Int) * (n : Int) ≤ 1000000 := by
  have : n * n ≤ 1000 * 1000 := Nat.mul_le_mul hn hn
  have e : ((n * n : Nat) : Int) = (n : Int) * (n : Int) := by simp
  omega
 have h0 : (0 : Int) ≤ (n : Int) * (n : Int) := Int.mul_nonneg (by omega) (by omega)
 have hr : (n : Int) * (n : Int) * (n : Int) ≤ 1000000000 := by
  have : n * n * n ≤ 1000 * 1000 * 1000 := Nat.mul_le_mul (Nat.mul_le_mul hn hn) hn
  have e : ((n * n * n : Nat) : Int) = (n : Int) * (n : Int) * (n : Int) := by simp
  omega
 have h2 : (0 : Int) ≤ (n : Int) * (n : Int) * (n : Int) := Int.mul_nonneg h0 (by omega)
 go_enter Tryz.func207, Tryz.ntmps207
 go_wp2
 go_ret
 refine ⟨?_, rfl⟩
 simp

def foldB (c : List Nat) (point : Nat) : Nat → Nat → Nat → Option (Nat × Nat)
 | 0, n, rest => some (n, rest)
 | i + 1, n, rest =>
  if n < 1048576 ∧ rest < 1099511627776 ∧ c.getD i 0 < 1048576 ∧ i < c.length then
   (if point ≤ i then foldB c point i (65536 * n + c.getD i 0) rest else foldB c point i n (rest + c.getD i 0))
  else none
def belowM (whole t p k : Nat) : Option Bool :=
 (timesM [t % 65536, t / 65536, whole] [t % 65536, t / 65536, whole]).bind fun c =>
   if k = 3 then (timesM c [t % 65536, t / 65536, whole]).bind fun c' => (foldB c' 6 c'.length 0 0).map fun r => decide (r.1 < p) || (decide (r.1 = p) && decide (r.2 = 0))
   else (foldB c 4 c.length 0 0).map fun r => decide (r.1 < p) || (decide (r.1 = p) && decide (r.2 = 0))

theorem make6 (w : World) : (Instr.makeSlice 48 (.int .i64 6) (.int .i64 6)).run Tryz.prog w = .ok (.slice (some ⟨w.heap.size, 0, none⟩) 6 6) (w.alloc (.cells (natsV (List.replicate 6 0)) 3)) := by kernel_rfl
theorem make9 (w : World) : (Instr.makeSlice 48 (.int .i64 9) (.int .i64 9)).run Tryz.prog w = .ok (.slice (some ⟨w.heap.size, 0, none⟩) 9 9) (w.alloc (.cells (natsV (List.replicate 9 0)) 3)) := by kernel_rfl

theorem times33 (d0 d1 d2 : Nat) (t : List Nat) (ht : timesM [d0, d1, d2] [d0, d1, d2] = some t) (ab : Nat) (w : World)
  (c0 : w.cell? ⟨ab, 0, none⟩ = some (.int .i64 (d0 : Int))) (c1 : w.cell? ⟨ab, 1, none⟩ = some (.int .i64 (d1 : Int))) (c2 : w.cell? ⟨ab, 2, none⟩ = some (.int .i64 (d2 : Int))) (hab : ab < w.heap.size) :
  Calls Tryz.prog 279 #[.slice (some ⟨ab, 0, none⟩) 3 3, .slice (some ⟨ab, 0, none⟩) 3 3] w fun e w' => e = .returned (.slice (some ⟨w.heap.size, 0, none⟩) 6 6) ∧ TMem t w w' ∧ t.length = 6 := by
 have hc : ∀ i, i < [d0, d1, d2].length → w.cell? ⟨ab, 0 + i, none⟩ = some (.int .i64 (([d0, d1, d2].getD i 0 : Nat) : Int)) := by
  intro i hi
  match i, hi with
  | 0, _ => exact c0
  | 1, _ => exact c1
  | 2, _ => exact c2
 exact times_any [d0, d1, d2] [d0, d1, d2] t ht (by simp) (by simp) ab 0 3 ab 0 3 w hc hab hc hab (fun wx => make6 wx)

set_option maxHeartbeats 2000000 in
theorem below2 (whole t p : Nat) (r : Bool) (hr : belowM whole t p 2 = some r) (ht : t < 4294967296) (hp : p < 1048576) (w : World) :
  Calls Tryz.prog 208 #[.int .i64 whole, .int .i64 t, .int .i64 p, .int .i64 2] w fun e w' => e = .returned (.bool r) ∧ Below w.heap.size w w' := by
 have t1 : (t : Int) < 4294967296 := by omega
 have p1 : (p : Int) < 1048576 := by omega
 obtain ⟨d0, hd0⟩ : ∃ d, d = t % 65536 := ⟨_, rfl⟩
 obtain ⟨d1, hd1⟩ : ∃ d, d = t / 65536 := ⟨_, rfl⟩
 have e0 : (t : Int) % 65536 = (d0 : Int) := by omega
 have e1 : (t : Int) / 65536 = (d1 : Int) := by omega
 obtain ⟨c, hc, hr2⟩ : ∃ c, timesM [d0, d1, whole] [d0, d1, whole] = some c ∧ (foldB c 4 c.length 0 0).map (fun r => decide (r.1 < p) || (decide (r.1 = p) && decide (r.2 = 0))) = some r := by
  unfold belowM at hr
  rw [← hd0, ← hd1] at hr
  obtain ⟨c, h1, h2⟩ := Option.bind_eq_some_iff.1 hr
  rw [if_neg (by decide)] at h2
  exact ⟨c, h1, h2⟩
 obtain ⟨⟨nf, rf⟩, hf, hr3⟩ := Option.map_eq_some_iff.1 hr2
 simp only at hr3
 subst hr3
 have HC : Hid (timesM [d0, d1, whole] [d0, d1, whole] = some c) := hc
 have HF : Hid (foldB c 4 c.length 0 0 = some (nf, rf)) := hf
 clear hr hr2 hf hc hd0 hd1
 go_enter Tryz.func208, Tryz.ntmps208
 go_wp2_with fail
 refine (times33 d0 d1 whole c HC.out w.heap.size _ (by simp) (by simp) (by simp) (by simp)).mono ?_
 rintro e w1 ⟨rfl, hm1, hl1⟩
 have HM : Hid (TMem c (w.alloc (.cells #[.int .i64 (d0 : Int), .int .i64 (d1 : Int), .int .i64 (whole : Int)] 3)) w1) := hm1
 have HL : Hid (c.length = 6) := hl1
 have HB : Hid (Below w.heap.size w w1) := ((Below.refl _ _).alloc (Nat.le_refl _) _).trans (hm1.below.mono (by simp))
 have hcell : ∀ i, i < 6 → w1.cell? ⟨w.heap.size + 1, i, none⟩ = some (.int .i64 ((c.getD i 0 : Nat) : Int)) := fun i hi => by
  have := hm1.cell i (by omega)
  rw [show (w.alloc (.cells #[.int .i64 (d0 : Int), .int .i64 (d1 : Int), .int .i64 (whole : Int)] 3)).heap.size = w.heap.size + 1 by simp] at this
  exact this
 have HK : Hid (∀ i, i < 6 → w1.cell? ⟨w.heap.size + 1, i, none⟩ = some (.int .i64 ((c.getD i 0 : Nat) : Int))) := hcell
 have HF6 : Hid (foldB c 4 6 0 0 = some (nf, rf)) := by show _ = _; rw [← HL.out]; exact HF.out
 clear hm1 hl1 hcell HF
 go_wp2
 go_loop [12, 13, 14] (fun a b v => ∃ (i n rest : Nat), i ≤ 6 ∧ v = .int .i64 ((i : Int) - 1) ∧ a = .int .i64 n ∧ b = .int .i64 rest ∧ Hid (foldB c 4 i n rest = some (nf, rf))) (fun _ _ v => (intOf v + 1).toNat)
 case atStart => exact ⟨6, 0, 0, by omega, rfl, rfl, rfl, HF6⟩
 case round =>
  clear HF6
  obtain ⟨i, n, rest, hi, rfl, rfl, rfl, HF⟩ := hrel
  cases i with
  | zero =>
   have h := HF.out
   simp only [foldB, Option.some.injEq, Prod.mk.injEq] at h
   obtain ⟨rfl, rfl⟩ := h
   clear HF
   by_cases h1 : n < p
   ·have g1 : (n : Int) < (p : Int) := by omega
    go_wp2
    go_ret
    exact ⟨by simp, HB.out⟩
   ·have g1 : ¬ (n : Int) < (p : Int) := by omega
    by_cases h2 : n = p
    ·have g2 : ((n : Int) == (p : Int)) = true := by simp [h2]
     by_cases h3 : rest = 0
     ·have g3 : ((rest : Int) == 0) = true := by simp [h3]
      have HH : Hid (n = p ∧ rest = 0) := ⟨h2, h3⟩
      clear h2 h3
      go_wp2
      go_ret
      exact ⟨by simp [HH.out.1, HH.out.2], HB.out⟩
     ·have g3 : ((rest : Int) == 0) = false := by simp; omega
      have HH : Hid (n = p ∧ ¬ rest = 0) := ⟨h2, h3⟩
      clear h2 h3
      go_wp2
      go_ret
      exact ⟨by simp [HH.out.1, HH.out.2], HB.out⟩
    ·have g2 : ((n : Int) == (p : Int)) = false := by simp; omega
     have HH : Hid (¬ n < p ∧ ¬ n = p) := ⟨h1, h2⟩
     clear h1 h2
     go_wp2
     go_ret
     exact ⟨by simp [HH.out.1, HH.out.2], HB.out⟩
  | succ i =>
   have h := HF.out
   unfold foldB at h
   split at h
   case isFalse => cases h
   rename_i hok
   obtain ⟨q1, q2, q3, q4⟩ := hok
   obtain ⟨x, hx⟩ : ∃ x, x = c.getD i 0 := ⟨_, rfl⟩
   rw [← hx] at h q3
   have cx : w1.cell? ⟨w.heap.size + 1, i, none⟩ = some (.int .i64 (x : Int)) := by rw [HK.out i (by omega), hx]
   have n1 : (n : Int) < 1048576 := by omega
   have r1 : (rest : Int) < 1099511627776 := by omega
   have x1 : (x : Int) < 1048576 := by omega
   have ei : ((i + 1 : Nat) : Int) - 1 = (i : Int) := by omega
   by_cases hpt : 4 ≤ i
   ·rw [if_pos hpt] at h
    have HF2 : Hid (foldB c 4 i (65536 * n + x) rest = some (nf, rf)) := h
    have g1 : (4 : Int) ≤ (i : Int) := by omega
    clear h hx HF q1 q2 q3
    rw [ei]
    go_wp2
    go_round
    case rel => exact ⟨i, 65536 * n + x, rest, by omega, rfl, by go_num, rfl, HF2⟩
    case measure => simp [intOf]
   ·rw [if_neg hpt] at h
    have HF2 : Hid (foldB c 4 i n (rest + x) = some (nf, rf)) := h
    have g1 : ¬ (4 : Int) ≤ (i : Int) := by omega
    clear h hx HF q1 q2 q3
    rw [ei]
    go_wp2
    go_round
    case rel => exact ⟨i, n, rest + x, by omega, rfl, rfl, by go_num, HF2⟩
    case measure => simp [intOf]

set_option maxHeartbeats 2000000 in
theorem below3 (whole t p : Nat) (r : Bool) (hr : belowM whole t p 3 = some r) (ht : t < 4294967296) (hp : p < 1048576) (w : World) :
  Calls Tryz.prog 208 #[.int .i64 whole, .int .i64 t, .int .i64 p, .int .i64 3] w fun e w' => e = .returned (.bool r) ∧ Below w.heap.size w w' := by
 have t1 : (t : Int) < 4294967296 := by omega
 have p1 : (p : Int) < 1048576 := by omega
 obtain ⟨d0, hd0⟩ : ∃ d, d = t % 65536 := ⟨_, rfl⟩
 obtain ⟨d1, hd1⟩ : ∃ d, d = t / 65536 := ⟨_, rfl⟩
 have e0 : (t : Int) % 65536 = (d0 : Int) := by omega
 have e1 : (t : Int) / 65536 = (d1 : Int) := by omega
 obtain ⟨c0, hc0, c, hc, hr2⟩ : ∃ c0, timesM [d0, d1, whole] [d0, d1, whole] = some c0 ∧ ∃ c, timesM c0 [d0, d1, whole] = some c ∧ (foldB c 6 c.length 0 0).map (fun r => decide (r.1 < p) || (decide (r.1 = p) && decide (r.2 = 0))) = some r := by
  unfold belowM at hr
  rw [← hd0, ← hd1] at hr
  obtain ⟨c0, h1, h2⟩ := Option.bind_eq_some_iff.1 hr
  rw [if_pos rfl] at h2
  obtain ⟨c, h3, h4⟩ := Option.bind_eq_some_iff.1 h2
  exact ⟨c0, h1, c, h3, h4⟩
 obtain ⟨⟨nf, rf⟩, hf, hr3⟩ := Option.map_eq_some_iff.1 hr2
 simp only at hr3
 subst hr3
 have HC0 : Hid (timesM [d0, d1, whole] [d0, d1, whole] = some c0) := hc0
 have HC : Hid (timesM c0 [d0, d1, whole] = some c) := hc
 have HF : Hid (foldB c 6 c.length 0 0 = some (nf, rf)) := hf
 clear hr hr2 hf hc hc0 hd0 hd1
 go_enter Tryz.func208, Tryz.ntmps208
 go_wp2_with fail
 refine (times33 d0 d1 whole c0 HC0.out w.heap.size _ (by simp) (by simp) (by simp) (by simp)).mono ?_
 rintro e w0 ⟨rfl, hm0, hl0⟩
 have hb0 : Below w.heap.size w w0 := ((Below.refl _ _).alloc (Nat.le_refl _) _).trans (hm0.below.mono (by simp))
 have hsz0 : (w.alloc (.cells #[.int .i64 (d0 : Int), .int .i64 (d1 : Int), .int .i64 (whole : Int)] 3)).heap.size = w.heap.size + 1 := by simp
 have hs0 : w.heap.size + 1 < w0.heap.size := by
  have := block_lt_of_cell (hm0.cell 0 (by omega))
  rw [hsz0] at this; exact this
 have hcell0 : ∀ i, i < c0.length → w0.cell? ⟨w.heap.size + 1, 0 + i, none⟩ = some (.int .i64 ((c0.getD i 0 : Nat) : Int)) := fun i hi => by
  have := hm0.cell i hi
  rw [hsz0] at this
  rw [Nat.zero_add]; exact this
 have hcellA : ∀ i, i < [d0, d1, whole].length → w0.cell? ⟨w.heap.size, 0 + i, none⟩ = some (.int .i64 (([d0, d1, whole].getD i 0 : Nat) : Int)) := by
  intro i hi
  rw [hm0.below.cell (p := ⟨w.heap.size, 0 + i, none⟩) (by simp)]
  match i, hi with
  | 0, _ => simp
  | 1, _ => simp
  | 2, _ => simp
 have H63 : Hid (Calls Tryz.prog 279 #[.slice (some ⟨w.heap.size + 1, 0, none⟩) 6 6, .slice (some ⟨w.heap.size, 0, none⟩) 3 3] w0 fun e w' => e = .returned (.slice (some ⟨w0.heap.size, 0, none⟩) 9 9) ∧ TMem c w0 w' ∧ c.length = 9) := by
  have h := times_any c0 [d0, d1, whole] c HC.out (by omega) (by simp) (w.heap.size + 1) 0 6 w.heap.size 0 3 w0 hcell0 hs0 hcellA (by omega) (by rw [hl0]; exact fun wx => make9 wx)
  rw [hl0] at h
  exact h
 have HB0 : Hid (Below w.heap.size w w0) := hb0
 clear hm0 hl0 hb0 hsz0 hs0 hcell0 hcellA HC0 HC
 go_wp2_with fail
 refine H63.out.mono ?_
 rintro e w1 ⟨rfl, hm1, hl1⟩
 have HL : Hid (c.length = 9) := hl1
 have HB : Hid (Below w.heap.size w w1) := HB0.out.trans (hm1.below.mono HB0.out.size)
 have HK : Hid (∀ i, i < 9 → w1.cell? ⟨w0.heap.size, i, none⟩ = some (.int .i64 ((c.getD i 0 : Nat) : Int))) := fun i hi => hm1.cell i (by omega)
 have HF6 : Hid (foldB c 6 9 0 0 = some (nf, rf)) := by show _ = _; rw [← HL.out]; exact HF.out
 clear hm1 hl1 HF H63 HB0
 go_wp2
 go_loop [12, 13, 14] (fun a b v => ∃ (i n rest : Nat), i ≤ 9 ∧ v = .int .i64 ((i : Int) - 1) ∧ a = .int .i64 n ∧ b = .int .i64 rest ∧ Hid (foldB c 6 i n rest = some (nf, rf))) (fun _ _ v => (intOf v + 1).toNat)
 case atStart => exact ⟨9, 0, 0, by omega, rfl, rfl, rfl, HF6⟩
 case round =>
  clear HF6
  obtain ⟨i, n, rest, hi, rfl, rfl, rfl, HF⟩ := hrel
  cases i with
  | zero =>
   have h := HF.out
   simp only [foldB, Option.some.injEq, Prod.mk.injEq] at h
   obtain ⟨rfl, rfl⟩ := h
   clear HF
   by_cases h1 : n < p
   ·have g1 : (n : Int) < (p : Int) := by omega
    go_wp2
    go_ret
    exact ⟨by simp, HB.out⟩
   ·have g1 : ¬ (n : Int) < (p : Int) := by omega
    by_cases h2 : n = p
    ·have g2 : ((n : Int) == (p : Int)) = true := by simp [h2]
     by_cases h3 : rest = 0
     ·have g3 : ((rest : Int) == 0) = true := by simp [h3]
      have HH : Hid (n = p ∧ rest = 0) := ⟨h2, h3⟩
      clear h2 h3
      go_wp2
      go_ret
      exact ⟨by simp [HH.out.1, HH.out.2], HB.out⟩
     ·have g3 : ((rest : Int) == 0) = false := by simp; omega
      have HH : Hid (n = p ∧ ¬ rest = 0) := ⟨h2, h3⟩
      clear h2 h3
      go_wp2
      go_ret
      exact ⟨by simp [HH.out.1, HH.out.2], HB.out⟩
    ·have g2 : ((n : Int) == (p : Int)) = false := by simp; omega
     have HH : Hid (¬ n < p ∧ ¬ n = p) := ⟨h1, h2⟩
     clear h1 h2
     go_wp2
     go_ret
     exact ⟨by simp [HH.out.1, HH.out.2], HB.out⟩
  | succ i =>
   have h := HF.out
   unfold foldB at h
   split at h
   case isFalse => cases h
   rename_i hok
   obtain ⟨q1, q2, q3, q4⟩ := hok
   obtain ⟨x, hx⟩ : ∃ x, x = c.getD i 0 := ⟨_, rfl⟩
   rw [← hx] at h q3
   have cx : w1.cell? ⟨w0.heap.size, i, none⟩ = some (.int .i64 (x : Int)) := by rw [HK.out i (by omega), hx]
   have n1 : (n : Int) < 1048576 := by omega
   have r1 : (rest : Int) < 1099511627776 := by omega
   have x1 : (x : Int) < 1048576 := by omega
   have ei : ((i + 1 : Nat) : Int) - 1 = (i : Int) := by omega
   by_cases hpt : 6 ≤ i
   ·rw [if_pos hpt] at h
    have HF2 : Hid (foldB c 6 i (65536 * n + x) rest = some (nf, rf)) := h
    have g1 : (6 : Int) ≤ (i : Int) := by omega
    clear h hx HF q1 q2 q3
    rw [ei]
    go_wp2
    go_round
    case rel => exact ⟨i, 65536 * n + x, rest, by omega, rfl, by go_num, rfl, HF2⟩
    case measure => simp [intOf]
   ·rw [if_neg hpt] at h
    have HF2 : Hid (foldB c 6 i n (rest + x) = some (nf, rf)) := h
    have g1 : ¬ (6 : Int) ≤ (i : Int) := by omega
    clear h hx HF q1 q2 q3
    rw [ei]
    go_wp2
    go_round
    case rel => exact ⟨i, n, rest + x, by omega, rfl, rfl, by go_num, HF2⟩
    case measure => simp [intOf]
end Go.Proofs.YthhbpebihgjpjaaGreatDoor
