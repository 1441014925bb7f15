import Derived.Test.YthhbpebihgjpjaaGreatDoorP42
import Derived.Deep.QuietTactic
import Derived.BigQuiet
import Derived.Outline
import Derived.WalkLawsBesides
import Derived.Test.YthhbpebihgjpjaaGreatDoorP20
import Derived.Test.YthhbpebihgjpjaaGreatDoorP35
import Derived.Test.YthhbpebihgjpjaaGreatDoorP41
namespace Go.Proofs.YthhbpebihgjpjaaGreatDoor
open Go.RowKit Go.Extern.Stop Go.Stop Go.Extern
set_option maxRecDepth 100000

structure Sents (a : Nat → Addr) (t : Nat → ByteArray) (w : World) : Prop where
 cell : ∀ k, k < 9 → w.cell? ⟨k + 0, 0, none⟩ = some (.iface 472 (.pointer (some (a k))))
 row : ∀ k, k < 9 → ∃ c t, w.heap[(a k).block]? = some (.cells c t (0, 0))
 text : ∀ k, k < 9 → w.cell? (a k) = some (.string (t k))
 full : ∀ k, k < 9 → 1 ≤ (t k).size
 short : ∀ k, k < 9 → (t k).size ≤ 100
 ne : ∀ j k, j < 9 → k < 9 → a j = a k → j = k
 handle : w.cell? ⟨9, 0, none⟩ = some (.iface 276 (.agg #[.pointer (some ⟨14, 70, none⟩)]))

theorem size_of_cell {w : World} {p : Addr} {v : Value} (h : w.cell? p = some v) : p.block < w.heap.size := by
 rcases Nat.lt_or_ge p.block w.heap.size with g | g
 ·exact g
 ·simp [World.cell?, Array.getElem?_eq_none g] at h

theorem Sents.below {a : Nat → Addr} {t : Nat → ByteArray} {w w' : World} (h : Sents a t w) (hb : Below w.heap.size w w') : Sents a t w' where
 cell k hk := by rw [hb.cell (size_of_cell (h.cell k hk))]; exact h.cell k hk
 row k hk := by
  rw [hb.block _ (size_of_cell (h.text k hk))]; exact h.row k hk
 text k hk := by rw [hb.cell (size_of_cell (h.text k hk))]; exact h.text k hk
 full := h.full
 short := h.short
 ne := h.ne
 handle := by rw [hb.cell (size_of_cell h.handle)]; exact h.handle

theorem six_past (w : World) (p : Addr) (h : p.block < w.heap.size) (o1 o2 o3 o4 o5 o6 : Obj) : ((((((w.alloc o1).alloc o2).alloc o3).alloc o4).alloc o5).alloc o6).cell? p = w.cell? p := by
 rw [World.cell?_alloc_lt _ _ p (by simp; omega), World.cell?_alloc_lt _ _ p (by simp; omega), World.cell?_alloc_lt _ _ p (by simp; omega), World.cell?_alloc_lt _ _ p (by simp; omega), World.cell?_alloc_lt _ _ p (by simp; omega), World.cell?_alloc_lt _ _ p h]
def nine (a : Nat → Addr) : Array Value := #[.iface 472 (.pointer (some (a 0))), .iface 472 (.pointer (some (a 1))), .iface 472 (.pointer (some (a 2))), .iface 472 (.pointer (some (a 3))), .iface 472 (.pointer (some (a 4))), .iface 472 (.pointer (some (a 5))), .iface 472 (.pointer (some (a 6))), .iface 472 (.pointer (some (a 7))), .iface 472 (.pointer (some (a 8)))]
theorem nine_at (a : Nat → Addr) (i : Nat) (hi : i < 9) : (nine a)[i]? = some (.iface 472 (.pointer (some (a i)))) := by
 match i, hi with
 | 0, _ => rfl
 | 1, _ => rfl
 | 2, _ => rfl
 | 3, _ => rfl
 | 4, _ => rfl
 | 5, _ => rfl
 | 6, _ => rfl
 | 7, _ => rfl
 | 8, _ => rfl
 | n + 9, h => exact absurd h (by omega)
theorem nine_cell (a : Nat → Addr) (w : World) (i : Nat) (hi : i < 9) : (w.alloc (.cells (nine a) 70)).cell? ⟨w.heap.size, i, none⟩ = some (.iface 472 (.pointer (some (a i)))) := by
 rw [World.cell?_alloc_at _ _ _ _ (by simp)]; exact nine_at a i hi

set_option maxHeartbeats 1000000 in
theorem number_sent (a : Nat → Addr) (t : Nat → ByteArray) (k : Nat) (hk : k < 9) (w : World) (hS : Sents a t w) :
  Calls Tryz.prog 43 #[.iface 472 (.pointer (some (a k)))] w fun e w' => e = .returned (.tuple #[.int .i64 (k + 1), .int .i64 (-1)]) ∧ Below w.heap.size w w' := by
 have c0 : w.cell? ⟨0, 0, none⟩ = _ := hS.cell 0 (by omega)
 have c1 : w.cell? ⟨1, 0, none⟩ = _ := hS.cell 1 (by omega)
 have c2 : w.cell? ⟨2, 0, none⟩ = _ := hS.cell 2 (by omega)
 have c3 : w.cell? ⟨3, 0, none⟩ = _ := hS.cell 3 (by omega)
 have c4 : w.cell? ⟨4, 0, none⟩ = _ := hS.cell 4 (by omega)
 have c5 : w.cell? ⟨5, 0, none⟩ = _ := hS.cell 5 (by omega)
 have c6 : w.cell? ⟨6, 0, none⟩ = _ := hS.cell 6 (by omega)
 have c7 : w.cell? ⟨7, 0, none⟩ = _ := hS.cell 7 (by omega)
 have c8 : w.cell? ⟨8, 0, none⟩ = _ := hS.cell 8 (by omega)
 have hb1 : Below w.heap.size w (w.alloc (.cells (nine a) 70)) := (Below.refl _ _).alloc (Nat.le_refl _) _
 have hS1 := hS.below hb1
 have hn := nine_cell a w
 have H1 : Hid (∀ i, i < 9 → (w.alloc (.cells (nine a) 70)).cell? ⟨w.heap.size, i, none⟩ = some (.iface 472 (.pointer (some (a i))))) := hn
 clear hn
 go_enter Tryz.func43, Tryz.ntmps43
 go_wp2
 clear c0 c1 c2 c3 c4 c5 c6 c7 c8
 rw [show (#[Value.iface 472 (Value.pointer (some (a 0))), Value.iface 472 (Value.pointer (some (a 1))), Value.iface 472 (Value.pointer (some (a 2))), Value.iface 472 (Value.pointer (some (a 3))), Value.iface 472 (Value.pointer (some (a 4))), Value.iface 472 (Value.pointer (some (a 5))), Value.iface 472 (Value.pointer (some (a 6))), Value.iface 472 (Value.pointer (some (a 7))), Value.iface 472 (Value.pointer (some (a 8)))] : Array Value) = nine a from rfl]
 go_loop [4, 21] (fun n i => ∃ j : Nat, j ≤ 9 ∧ i = .int .i64 j ∧ ((j ≤ k ∧ n = .int .i64 0) ∨ (k < j ∧ n = .int .i64 (k + 1)))) (fun _ i => 9 - (intOf i).toNat)
 case atStart => exact ⟨0, by omega, rfl, Or.inl ⟨by omega, rfl⟩⟩
 case round =>
  obtain ⟨j, hj, rfl, hn⟩ := hrel
  by_cases hlt : j < 9
  ·have hcj := H1.out j hlt
   by_cases hjk : j = k
   ·subst hjk
    rcases hn with ⟨_, rfl⟩ | ⟨h, _⟩
    ·go_wp2_with (go_at_call 63; refine (is_same _ _).mono ?_; rintro e w' ⟨rfl, rfl⟩)
     go_round
     case rel => exact ⟨j + 1, by omega, by go_num, Or.inr ⟨by omega, rfl⟩⟩
     case measure => simp [intOf]; omega
    ·omega
   ·have hne : a k ≠ a j := fun e => hjk (hS.ne k j hk hlt e).symm
    obtain ⟨ca, ta, ha⟩ := hS1.row k hk
    obtain ⟨cb, tb, hb⟩ := hS1.row j hlt
    have HA : Hid (Calls Tryz.prog 63 #[.iface 472 (.pointer (some (a k))), .iface 472 (.pointer (some (a j)))] (w.alloc (.cells (nine a) 70)) fun e w' => e = .returned (.bool false) ∧ w' = (w.alloc (.cells (nine a) 70))) := is_other _ _ _ _ _ _ _ hne ha hb
    clear ha hb hne
    rcases hn with ⟨hle, rfl⟩ | ⟨hgt, rfl⟩
    ·go_wp2_with (go_at_call 63; refine HA.out.mono ?_; rintro e w' ⟨rfl, rfl⟩)
     go_round
     case rel => exact ⟨j + 1, by omega, by go_num, Or.inl ⟨by omega, rfl⟩⟩
     case measure => simp [intOf]; omega
    ·go_wp2_with (go_at_call 63; refine HA.out.mono ?_; rintro e w' ⟨rfl, rfl⟩)
     go_round
     case rel => exact ⟨j + 1, by omega, by go_num, Or.inr ⟨by omega, rfl⟩⟩
     case measure => simp [intOf]; omega
  ·have hj9 : j = 9 := by omega
   subst hj9
   rcases hn with ⟨h, _⟩ | ⟨hgt, rfl⟩
   ·omega
   ·have hz : (((k : Int) + 1) == 0) = false := beq_eq_false_iff_ne.2 (by omega)
    have hgl := (hS1.below ((Below.refl _ _).alloc (Nat.le_refl _) (.cells #[.pointer none] 129))).handle
    go_wp2_with (go_at_call 64; refine (as_miss _ _ _ hgl).mono ?_; rintro e w' ⟨rfl, rfl⟩)
    go_ret2
    refine ⟨rfl, ?_⟩
    refine Below.alloc (Below.alloc (Below.alloc (Below.alloc hb1 ?_ _) ?_ _) ?_ _) ?_ _ <;> (simp <;> omega)
set_option maxHeartbeats 1000000 in
theorem number_fault (a : Nat → Addr) (t : Nat → ByteArray) (k : Nat) (hk : k < 9) (pb po : Nat) {z : Int} (w : World) (hS : Sents a t w) (hp0 : w.cell? ⟨pb, po, none⟩ = some (.int .i64 z)) (hp1 : w.cell? ⟨pb, po + 1, none⟩ = some (.iface 472 (.pointer (some (a k))))) :
  Calls Tryz.prog 43 #[.iface 129 (.pointer (some ⟨pb, po, none⟩))] w fun e w' => e = .returned (.tuple #[.int .i64 (k + 1), .int .i64 z]) ∧ Below w.heap.size w w' := by
 have c0 : w.cell? ⟨0, 0, none⟩ = _ := hS.cell 0 (by omega)
 have c1 : w.cell? ⟨1, 0, none⟩ = _ := hS.cell 1 (by omega)
 have c2 : w.cell? ⟨2, 0, none⟩ = _ := hS.cell 2 (by omega)
 have c3 : w.cell? ⟨3, 0, none⟩ = _ := hS.cell 3 (by omega)
 have c4 : w.cell? ⟨4, 0, none⟩ = _ := hS.cell 4 (by omega)
 have c5 : w.cell? ⟨5, 0, none⟩ = _ := hS.cell 5 (by omega)
 have c6 : w.cell? ⟨6, 0, none⟩ = _ := hS.cell 6 (by omega)
 have c7 : w.cell? ⟨7, 0, none⟩ = _ := hS.cell 7 (by omega)
 have c8 : w.cell? ⟨8, 0, none⟩ = _ := hS.cell 8 (by omega)
 have hb1 : Below w.heap.size w (w.alloc (.cells (nine a) 70)) := (Below.refl _ _).alloc (Nat.le_refl _) _
 have hS1 := hS.below hb1
 have HP0 : Hid ((w.alloc (.cells (nine a) 70)).cell? ⟨pb, po, none⟩ = some (.int .i64 z)) := by show _ = _; rw [hb1.cell (size_of_cell hp0)]; exact hp0
 have HP1 : Hid ((w.alloc (.cells (nine a) 70)).cell? ⟨pb, po + 1, none⟩ = some (.iface 472 (.pointer (some (a k))))) := by show _ = _; rw [hb1.cell (size_of_cell hp1)]; exact hp1
 have hpl : pb < w.heap.size := size_of_cell hp0
 have HQ : Hid (∀ o1 o2 o3 o4 o5 o6 : Obj, ((((((w.alloc o1).alloc o2).alloc o3).alloc o4).alloc o5).alloc o6).cell? ⟨pb, po, none⟩ = some (.int .i64 z)) := by
  intro o1 o2 o3 o4 o5 o6
  rw [six_past w ⟨pb, po, none⟩ hpl]; exact hp0
 clear hp0 hp1
 have hn := nine_cell a w
 have H1 : Hid (∀ i, i < 9 → (w.alloc (.cells (nine a) 70)).cell? ⟨w.heap.size, i, none⟩ = some (.iface 472 (.pointer (some (a i))))) := hn
 clear hn
 go_enter Tryz.func43, Tryz.ntmps43
 go_wp2
 clear c0 c1 c2 c3 c4 c5 c6 c7 c8
 rw [show (#[Value.iface 472 (Value.pointer (some (a 0))), Value.iface 472 (Value.pointer (some (a 1))), Value.iface 472 (Value.pointer (some (a 2))), Value.iface 472 (Value.pointer (some (a 3))), Value.iface 472 (Value.pointer (some (a 4))), Value.iface 472 (Value.pointer (some (a 5))), Value.iface 472 (Value.pointer (some (a 6))), Value.iface 472 (Value.pointer (some (a 7))), Value.iface 472 (Value.pointer (some (a 8)))] : Array Value) = nine a from rfl]
 go_loop [4, 21] (fun n i => ∃ j : Nat, j ≤ 9 ∧ i = .int .i64 j ∧ ((j ≤ k ∧ n = .int .i64 0) ∨ (k < j ∧ n = .int .i64 (k + 1)))) (fun _ i => 9 - (intOf i).toNat)
 case atStart => exact ⟨0, by omega, rfl, Or.inl ⟨by omega, rfl⟩⟩
 case round =>
  obtain ⟨j, hj, rfl, hn⟩ := hrel
  by_cases hlt : j < 9
  ·have hcj := H1.out j hlt
   by_cases hjk : j = k
   ·subst hjk
    rcases hn with ⟨_, rfl⟩ | ⟨h, _⟩
    ·go_wp2_with (go_at_call 63; refine (is_wrap_same _ _ _ _ HP1.out).mono ?_; rintro e w' ⟨rfl, rfl⟩)
     go_round
     case rel => exact ⟨j + 1, by omega, by go_num, Or.inr ⟨by omega, rfl⟩⟩
     case measure => simp [intOf]; omega
    ·omega
   ·have hne : a k ≠ a j := fun e => hjk (hS.ne k j hk hlt e).symm
    obtain ⟨ca, ta, ha⟩ := hS1.row k hk
    obtain ⟨cb, tb, hb⟩ := hS1.row j hlt
    have HA : Hid (Calls Tryz.prog 63 #[.iface 129 (.pointer (some ⟨pb, po, none⟩)), .iface 472 (.pointer (some (a j)))] (w.alloc (.cells (nine a) 70)) fun e w' => e = .returned (.bool false) ∧ w' = (w.alloc (.cells (nine a) 70))) := is_wrap_other _ _ _ _ _ _ _ _ _ HP1.out hne ha hb
    clear ha hb hne
    rcases hn with ⟨hle, rfl⟩ | ⟨hgt, rfl⟩
    ·go_wp2_with (go_at_call 63; refine HA.out.mono ?_; rintro e w' ⟨rfl, rfl⟩)
     go_round
     case rel => exact ⟨j + 1, by omega, by go_num, Or.inl ⟨by omega, rfl⟩⟩
     case measure => simp [intOf]; omega
    ·go_wp2_with (go_at_call 63; refine HA.out.mono ?_; rintro e w' ⟨rfl, rfl⟩)
     go_round
     case rel => exact ⟨j + 1, by omega, by go_num, Or.inr ⟨by omega, rfl⟩⟩
     case measure => simp [intOf]; omega
  ·have hj9 : j = 9 := by omega
   subst hj9
   rcases hn with ⟨h, _⟩ | ⟨hgt, rfl⟩
   ·omega
   ·have hz : (((k : Int) + 1) == 0) = false := beq_eq_false_iff_ne.2 (by omega)
    have hgl := (hS1.below ((Below.refl _ _).alloc (Nat.le_refl _) (.cells #[.pointer none] 129))).handle
    have htA : ((w.alloc (.cells (nine a) 70)).alloc (.cells #[.pointer none] 129)).cell? ⟨w.heap.size + 1, 0, none⟩ = some (.pointer none) := by simp
    have hfA : ((w.alloc (.cells (nine a) 70)).alloc (.cells #[.pointer none] 129)).frozen? ⟨w.heap.size + 1, 0, none⟩ = false := by simp
    go_wp2_with (go_at_call 64; refine (as_hit _ _ (.pointer none) _ hgl htA hfA).mono ?_; rintro e w' ⟨rfl, rfl⟩)
    have hq := HQ.out
    go_quiet (fail)
    go_wp2
    go_ret2
    refine ⟨rfl, ?_⟩
    refine below_drewN ?_ _
    refine Below.alloc (Below.alloc (Below.alloc (Below.alloc (Below.alloc hb1 ?_ _) ?_ _) ?_ _) ?_ _) ?_ _ <;> (simp <;> omega)
end Go.Proofs.YthhbpebihgjpjaaGreatDoor

namespace Go.Proofs.YthhbpebihgjpjaaGreatDoor
open Go.RowKit Go.Maps
set_option maxRecDepth 1000000

theorem stmt_done : StmtDone := fun _ _ _ _ _ _ _ _ _ _ h => readStatement_any edge_done h
theorem parse_any (t : ByteArray) (a : Nat → Addr) (w : World) (hg : Gl a w) (ht : t.size ≤ 140737488351232) :
  Calls Tryz.prog 46 #[.string t] w fun e w' => manEnd a w.heap.size (parseS t) e w' ∧ Below w.heap.size w w' := by
 have HC := readManifest_any stmt_done t a w hg ht
 clear hg ht
 go_enter Tryz.func46, Tryz.ntmps46
 go_wp2_with fail
 refine HC.mono ?_
 rintro e w1 ⟨hend, hb⟩
 have HB : Hid (Below w.heap.size w w1) := hb
 cases hr : parseS t with
 | error bk =>
  rw [hr] at hend
  obtain ⟨fb, rfl, h0, h1⟩ := hend
  have H : Hid (w1.cell? ⟨fb, 0, none⟩ = some (.int .i64 (bk.2 : Nat)) ∧ w1.cell? ⟨fb, 1, none⟩ = some (reasonV a (badK bk.1))) := ⟨h0, h1⟩
  clear h0 h1 hb HC
  go_wp2_with fail
  go_ret2
  rw [hr]
  exact ⟨⟨fb, by rfl, H.out⟩, HB.out⟩
 | ok Sc =>
  rw [hr] at hend
  obtain ⟨mb, rfl, h⟩ := hend
  have H : Hid (ManK w.heap.size Sc.1 Sc.2 mb w1 ∧ SOk Sc.1 0 []) := h
  clear h hb HC
  go_wp2_with fail
  go_ret2
  rw [hr]
  exact ⟨⟨mb, rfl, H.out⟩, HB.out⟩
theorem ManAt.keep {W0 : Nat} {S : St} {cs : List ByteArray} {mb : Nat} {w w' : World} (h : ManAt W0 S cs mb w) (hb : ∀ k, k < w.heap.size → w'.heap[k]? = w.heap[k]?) : ManAt W0 S cs mb w' := by
 have hk : ∀ {v : Value} {l : List ByteArray}, TextsAt w v l → TextsAt w' v l := by
  rintro v l ⟨ao, cap, rfl, hc, q | ⟨b, o, rfl, q⟩⟩
  ·exact ⟨ao, cap, rfl, hc, Or.inl q⟩
  ·exact ⟨_, cap, rfl, hc, Or.inr ⟨b, o, rfl, fun k s hs => (World.cell?_of_block (w := w) (a := ⟨b, o + k, none⟩) (hb b (block_lt_of_cell (q k s hs)))).trans (q k s hs)⟩⟩
 obtain ⟨ev, dv, ds, h1, h2, h3, h4, h5, h6⟩ := h
 exact ⟨ev, dv, ds, (hb _ (heap_lt h1)).trans h1, rkeep h2 (fun k hk => hb k (rblock h2 k hk).2), h3, h4, fun k d e hd he => ⟨hk (h5 k d e hd he).1, hk (h5 k d e hd he).2.1, hk (h5 k d e hd he).2.2.1, hk (h5 k d e hd he).2.2.2.1, (h5 k d e hd he).2.2.2.2⟩, hk h6⟩
def plainEnd (W0 : Nat) (r : Except (Bad × Nat) (St × List ByteArray)) (e : Ending) (w' : World) : Prop := match r with
 | .error bk => e = .returned (.tuple #[.pointer none, .int .i64 ((badK bk.1 : Nat) + 1), .int .i64 (bk.2 : Nat)])
 | .ok Sc => ∃ mb, e = .returned (.tuple #[.pointer (some ⟨mb, 0, none⟩), .int .i64 0, .int .i64 (-1)]) ∧ ManK W0 Sc.1 Sc.2 mb w' ∧ SOk Sc.1 0 []
theorem badK_lt (b : Bad) : badK b < 9 := Fin.isLt (show Fin 9 from b)
set_option maxHeartbeats 2000000 in
theorem number_no (w : World) : Calls Tryz.prog 43 #[.nilIface] w fun e w' => e = .returned (.tuple #[.int .i64 0, .int .i64 (-1)]) ∧ Below w.heap.size w w' := by
 have HB : Hid (Below w.heap.size w w) := Below.refl _ _
 go_enter Tryz.func43, Tryz.ntmps43
 go_wp2
 go_ret2
 exact ⟨rfl, HB.out⟩
set_option maxHeartbeats 1000000 in
theorem plainParse_any (t : ByteArray) (a : Nat → Addr) (tt : Nat → ByteArray) (w : World) (hg : Gl a w) (hS : Sents a tt w) (ht : t.size ≤ 140737488351232) :
  Calls Tryz.prog 24 #[.string t] w fun e w' => plainEnd w.heap.size (parseS t) e w' ∧ Below w.heap.size w w' := by
 have HC := parse_any t a w hg ht
 have HS : Hid (Sents a tt w) := hS
 clear hg ht hS
 go_enter Tryz.func24, Tryz.ntmps24
 go_wp2_with fail
 refine HC.mono ?_
 rintro e w1 ⟨hend, hb⟩
 have HB : Hid (Below w.heap.size w w1) := hb
 cases hr : parseS t with
 | error bk =>
  rw [hr] at hend
  obtain ⟨fb, rfl, h0, h1⟩ := hend
  have HN := number_fault a tt (badK bk.1) (badK_lt _) fb 0 w1 (HS.out.below hb) h0 h1
  clear h0 h1 hb HC
  go_wp2_with fail
  refine HN.mono ?_
  rintro e w2 ⟨rfl, hb2⟩
  have HB2 : Hid (Below w.heap.size w w2) := HB.out.trans (hb2.mono HB.out.size)
  clear hb2 HN
  go_wp2_with fail
  go_ret3
  rw [hr]
  exact ⟨rfl, HB2.out⟩
 | ok Sc =>
  rw [hr] at hend
  obtain ⟨mb, rfl, h⟩ := hend
  have H : Hid (ManK w.heap.size Sc.1 Sc.2 mb w1 ∧ SOk Sc.1 0 []) := h
  have HN := number_no w1
  clear h hb HC
  go_wp2_with fail
  refine HN.mono ?_
  rintro e w2 ⟨rfl, hb2⟩
  have HB2 : Hid (Below w.heap.size w w2) := HB.out.trans (hb2.mono HB.out.size)
  have HM2 : Hid (ManK w.heap.size Sc.1 Sc.2 mb w2 ∧ SOk Sc.1 0 []) := ⟨H.out.1.below hb2, H.out.2⟩
  clear hb2 HN
  go_wp2_with fail
  go_ret3
  rw [hr]
  exact ⟨⟨mb, rfl, HM2.out⟩, HB2.out⟩
end Go.Proofs.YthhbpebihgjpjaaGreatDoor
