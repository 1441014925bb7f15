import Derived.Test.YthhbpebihgjpjaaGreatDoorJ28
import Derived.Deep.RegionHeld3
import Derived.OwnWalk
namespace Go.Proofs.YthhbpebihgjpjaaGreatDoor
open Go.RowKit Go.MuLone Go.Maps
set_option maxRecDepth 1000000

theorem DiskSt.turn {A : Nat → Nat} {a : Nat → Addr} {t : Nat → ByteArray} {wb : Nat} {mv va vl : Value} {ps : List (Nat × Nat)} {L : List (Value × Value)} {c : Nat} {left left' : Int} {w w' : World} (h : DiskSt A a t wb mv va vl ps L c left w) (hr : LawRow w' wb mv va vl left') (ht : Turns (fun k => k = wb) w w') : DiskSt A a t wb mv va vl ps L c left' w' :=
  ⟨h.env.keep ht.size (fun _ _ => rfl) (fun k hk e => ht.block k hk (fun q => by rw [q, h.own.1] at e; cases e)), hr, row_keep h.all (fun k hk => ht.block k (row_block h.all k hk).2 (fun q => h.ne.1 (by rw [hk, q]))), h.lists.keep (fun k hk => ht.block k (h.lists.lt k hk) (fun q => h.ne.2.1 (by rw [hk, q]))), h.own, h.ne, fun x hx => (h.texts x hx).keep (fun _ _ => rfl) (fun k hk e => ht.block k hk (fun q => by rw [q, h.own.1] at e; cases e)), fun i x hx => by
    obtain ⟨r, hr⟩ := h.pairs i x hx
    exact ⟨r, hr.keep (Nat.le_refl _) (fun _ _ => rfl) (fun k hk e => ht.block k hk (fun q => by rw [q, h.own.1] at e; omega))⟩, h.len⟩
theorem DPostE.turned {A A0 : Nat → Nat} {a : Nat → Addr} {t : Nat → ByteArray} {wb : Nat} {mv : Value} {c : Nat} {left left1 : Int} {w w1 w' : World} {e : Ending} (h : DPostE A0 a t wb mv c left1 w1 e w') (hA : ∀ k, k < w.heap.size → A0 k = A k) (hwl : wb < w.heap.size) (hwb : A0 wb = 1) (ht : Turns (fun k => k = wb) w w1) (h1 : left1 ≤ left) (h2 : left - 140737488351232 ≤ left1) : DPost A a t wb mv c left w e w' := by
  obtain ⟨he, A', va', vl', ps', L', h3, h4, h5⟩ := h
  refine ⟨he, A', va', vl', ps', L', left1, h3, ⟨h2, h1⟩, fun k hk => (h4 k (Nat.lt_of_lt_of_le hk ht.size)).trans (hA k hk), ⟨h5.os.trans ht.os, h5.output.trans ht.output, Nat.le_trans ht.size h5.size, fun k hk hn => ?_⟩⟩
  have hk0 : A k = 0 := by
    by_cases q : A k = 0
    · exact q
    · exact absurd q hn
  rw [h5.block k (Nat.lt_of_lt_of_le hk ht.size) (by rw [hA k hk]; exact hn)]
  exact ht.block k hk (fun q => by rw [q] at hk0; rw [hA wb hwl, hk0] at hwb; cases hwb)

set_option maxHeartbeats 2000000 in
theorem file_names {A : Nat → Nat} {a : Nat → Addr} {t : Nat → ByteArray} {wb ab i c fb gb : Nat} {mv va vl : Value} {ps : List (Nat × Nat)} {L : List (Value × Value)} {left : Int} {r : RefD} {w : World} (x : OpV) (hk : x.kd = 4) (hst : DiskSt A a t wb mv va vl ps L c left w) (hi : ps[i]? = some (fb, gb)) (hab : va.ownBlock = some ab) (h : FileIn A a t wb ab (i * 2) i c fb gb mv va vl left r w) (hc : c < 1048575) (hl : -281474976710656 ≤ left ∧ left ≤ 1099511627776) (ht : x.t.size ≤ 140737488351232) :
    Calls Tryz.prog 90 #[.pointer (some ⟨wb, 0, none⟩), .pointer (some ⟨ab, i * 2, none⟩), .agg x.vals.toArray] w (DPost A a t wb mv c left w) := by
  obtain ⟨kd, ya, yb, yd, ys, yt, la, ln, lc, ma, mn, mc⟩ := x
  simp only at hk ht
  subst hk
  simp only [OpV.vals]
  have hlt := h.row.lt
  have hpl := block_lt_of_cell h.pf
  have HW : Hid (LawRow (w.alloc (.cells #[.int .i64 4, .int .i64 ya, .int .i64 yb, .int .i64 yd, .string ys, .string yt, .slice la ln lc, .slice ma mn mc] 104)) wb mv va vl left) := (heapA_old w _ wb hlt).trans h.row
  have HT0 : Hid (Turns (fun k => k = wb) w (w.alloc (.cells #[.int .i64 4, .int .i64 ya, .int .i64 yb, .int .i64 yd, .string ys, .string yt, .slice la ln lc, .slice ma mn mc] 104))) := Turns.of_below _ ((Below.refl _ _).alloc (Nat.le_refl _) _)
  have HC : Hid ((w.alloc (.cells #[.int .i64 4, .int .i64 ya, .int .i64 yb, .int .i64 yd, .string ys, .string yt, .slice la ln lc, .slice ma mn mc] 104)).heap[w.heap.size]? = some (.cells #[.int .i64 4, .int .i64 ya, .int .i64 yb, .int .i64 yd, .string ys, .string yt, .slice la ln lc, .slice ma mn mc] 104 (0, 0))) := heapA_new _ _ _ rfl
  obtain ⟨A0, hA0, hz0, h0⟩ := h.fresh
  have HA0 : Hid ((∀ k, k < w.heap.size → A0 k = A k) ∧ (∀ k, w.heap.size ≤ k → A0 k = 0)) := ⟨hA0, hz0⟩
  have HF : Hid (FileIn A0 a t wb ab (i * 2) i c fb gb mv va vl left r w) := h0
  have HST : Hid (DiskSt A0 a t wb mv va vl ps L c left w) := hst.keep (Nat.le_refl _) hA0 (Nat.le_refl _) (fun _ _ => rfl)
  have HZ0 : Hid (∀ k, w.heap.size ≤ k → A0 k = 0) := hz0
  clear h h0 hA0 hz0 hst
  go_enter Tryz.func90, Tryz.ntmps90
  go_wp2_with fail
  generalize w.alloc (.cells #[.int .i64 4, .int .i64 ya, .int .i64 yb, .int .i64 yd, .string ys, .string yt, .slice la ln lc, .slice ma mn mc] 104) = W1 at *
  have c6 : W1.cell? ⟨wb, 6, none⟩ = some (.int .i64 left) := by rw [cell_of_row _ _ _ _ _ _ HW.out]; rfl
  have f6 : W1.frozen? ⟨wb, 6, none⟩ = false := frozen_of_row _ _ _ _ _ HW.out
  have o5 : W1.cell? ⟨w.heap.size, 5, none⟩ = some (.string yt) := by rw [cell_of_row _ _ _ _ _ _ HC.out]; rfl
  have k0 : IntKind.i64.wrap (left - (yt.size : Int)) = left - (yt.size : Int) := by rw [IntKind.wrap_i64]; omega
  go_region
  have hr2 : LawRow (W1.setCell ⟨wb, 6, none⟩ (.int .i64 (left - (yt.size : Int)))).drew wb mv va vl (left - (yt.size : Int)) := HW.out.setLeft _
  have ht2 : Turns (fun k => k = wb) w (W1.setCell ⟨wb, 6, none⟩ (.int .i64 (left - (yt.size : Int)))).drew := (HT0.out.setCell ⟨wb, 6, none⟩ _ (Or.inl rfl)).drew
  have HC2 : Hid ((W1.setCell ⟨wb, 6, none⟩ (.int .i64 (left - (yt.size : Int)))).drew.heap[w.heap.size]? = some (.cells #[.int .i64 4, .int .i64 ya, .int .i64 yb, .int .i64 yd, .string ys, .string yt, .slice la ln lc, .slice ma mn mc] 104 (0, 0))) := (heap_setCell_other _ _ _ _ (show w.heap.size ≠ wb by omega)).trans HC.out
  have HR2 : Hid (LawRow (W1.setCell ⟨wb, 6, none⟩ (.int .i64 (left - (yt.size : Int)))).drew wb mv va vl (left - (yt.size : Int))) := hr2
  have HT2 : Hid (Turns (fun k => k = wb) w (W1.setCell ⟨wb, 6, none⟩ (.int .i64 (left - (yt.size : Int)))).drew) := ht2
  have HF2 : Hid (FileIn A0 a t wb ab (i * 2) i c fb gb mv va vl (left - (yt.size : Int)) r (W1.setCell ⟨wb, 6, none⟩ (.int .i64 (left - (yt.size : Int)))).drew) := HF.out.turn hr2 ht2
  clear hr2 ht2 HW HT0 HC c6 f6 o5 k0
  generalize (W1.setCell ⟨wb, 6, none⟩ (.int .i64 (left - (yt.size : Int)))).drew = w2 at *
  have o0 : w2.cell? ⟨w.heap.size, 0, none⟩ = some (.int .i64 4) := by rw [cell_of_row _ _ _ _ _ _ HC2.out]; rfl
  have hsz2 : w.heap.size < w2.heap.size := block_lt_of_cell o0
  have HS2 : Hid (DiskSt A0 a t wb mv va vl ps L c (left - (yt.size : Int)) w2) := HST.out.turn HR2.out HT2.out
  have hnb : vl.ownBlock ≠ some ab := HST.out.ne.2.2 ab hab
  have HIM : Hid (Calls Tryz.prog 142 #[.pointer (some ⟨wb, 0, none⟩), .pointer (some ⟨ab, i * 2, none⟩), .bool false] w2 fun e w' => ∃ d, Inv c r d ∧ ImagePost A0 wb i c fb gb mv va vl L (left - (yt.size : Int)) r d w2 e w') := by
    obtain ⟨d, _, _, hii⟩ := HF2.out.pair
    exact image_any false L HF2.out (fun k hk => HZ0.out k (by omega)) (by omega) HS2.out.lists (by have := HS2.out.len.2; omega) HS2.out.ne.2.1 HS2.out.own.2.2 hnb (fun j x hx => Nat.le_trans (hii.namesSeen x (List.mem_of_getElem? hx)) (by decide))
  have HFIN : Hid (∀ e w', (∃ d, Inv c r d ∧ ImagePost A0 wb i c fb gb mv va vl L (left - (yt.size : Int)) r d w2 e w') → DPost A a t wb mv c left w e w') := fun e w' ⟨d, hI, hp⟩ => (HS2.out.imaged i fb gb hi hI (by omega) hp).turned HA0.out.1 HST.out.row.lt HST.out.own.1 HT2.out (by omega) (by omega)
  go_wp2_with fail
  refine HIM.out.mono ?_
  intro e w5 hq
  have HX : Hid (DPost A a t wb mv c left w e w5) := HFIN.out e w5 hq
  obtain rfl : e = .returned (.bool true) := HX.out.1
  clear hq
  go_wp2
  go_ret
  exact HX.out
set_option maxHeartbeats 2000000 in
theorem file_image {A : Nat → Nat} {a : Nat → Addr} {t : Nat → ByteArray} {wb ab i c fb gb : Nat} {mv va vl : Value} {ps : List (Nat × Nat)} {L : List (Value × Value)} {left : Int} {r : RefD} {w : World} (x : OpV) (hk : x.kd = 13) (hst : DiskSt A a t wb mv va vl ps L c left w) (hi : ps[i]? = some (fb, gb)) (hab : va.ownBlock = some ab) (h : FileIn A a t wb ab (i * 2) i c fb gb mv va vl left r w) (hc : c < 1048575) (hl : -281474976710656 ≤ left ∧ left ≤ 1099511627776) (ht : x.t.size ≤ 140737488351232) :
    Calls Tryz.prog 90 #[.pointer (some ⟨wb, 0, none⟩), .pointer (some ⟨ab, i * 2, none⟩), .agg x.vals.toArray] w (DPost A a t wb mv c left w) := by
  obtain ⟨kd, ya, yb, yd, ys, yt, la, ln, lc, ma, mn, mc⟩ := x
  simp only at hk ht
  subst hk
  simp only [OpV.vals]
  have hlt := h.row.lt
  have hpl := block_lt_of_cell h.pf
  have HW : Hid (LawRow (w.alloc (.cells #[.int .i64 13, .int .i64 ya, .int .i64 yb, .int .i64 yd, .string ys, .string yt, .slice la ln lc, .slice ma mn mc] 104)) wb mv va vl left) := (heapA_old w _ wb hlt).trans h.row
  have HT0 : Hid (Turns (fun k => k = wb) w (w.alloc (.cells #[.int .i64 13, .int .i64 ya, .int .i64 yb, .int .i64 yd, .string ys, .string yt, .slice la ln lc, .slice ma mn mc] 104))) := Turns.of_below _ ((Below.refl _ _).alloc (Nat.le_refl _) _)
  have HC : Hid ((w.alloc (.cells #[.int .i64 13, .int .i64 ya, .int .i64 yb, .int .i64 yd, .string ys, .string yt, .slice la ln lc, .slice ma mn mc] 104)).heap[w.heap.size]? = some (.cells #[.int .i64 13, .int .i64 ya, .int .i64 yb, .int .i64 yd, .string ys, .string yt, .slice la ln lc, .slice ma mn mc] 104 (0, 0))) := heapA_new _ _ _ rfl
  obtain ⟨A0, hA0, hz0, h0⟩ := h.fresh
  have HA0 : Hid ((∀ k, k < w.heap.size → A0 k = A k) ∧ (∀ k, w.heap.size ≤ k → A0 k = 0)) := ⟨hA0, hz0⟩
  have HF : Hid (FileIn A0 a t wb ab (i * 2) i c fb gb mv va vl left r w) := h0
  have HST : Hid (DiskSt A0 a t wb mv va vl ps L c left w) := hst.keep (Nat.le_refl _) hA0 (Nat.le_refl _) (fun _ _ => rfl)
  have HZ0 : Hid (∀ k, w.heap.size ≤ k → A0 k = 0) := hz0
  clear h h0 hA0 hz0 hst
  go_enter Tryz.func90, Tryz.ntmps90
  go_wp2_with fail
  generalize w.alloc (.cells #[.int .i64 13, .int .i64 ya, .int .i64 yb, .int .i64 yd, .string ys, .string yt, .slice la ln lc, .slice ma mn mc] 104) = W1 at *
  have c6 : W1.cell? ⟨wb, 6, none⟩ = some (.int .i64 left) := by rw [cell_of_row _ _ _ _ _ _ HW.out]; rfl
  have f6 : W1.frozen? ⟨wb, 6, none⟩ = false := frozen_of_row _ _ _ _ _ HW.out
  have o5 : W1.cell? ⟨w.heap.size, 5, none⟩ = some (.string yt) := by rw [cell_of_row _ _ _ _ _ _ HC.out]; rfl
  have k0 : IntKind.i64.wrap (left - (yt.size : Int)) = left - (yt.size : Int) := by rw [IntKind.wrap_i64]; omega
  go_region
  have hr2 : LawRow (W1.setCell ⟨wb, 6, none⟩ (.int .i64 (left - (yt.size : Int)))).drew wb mv va vl (left - (yt.size : Int)) := HW.out.setLeft _
  have ht2 : Turns (fun k => k = wb) w (W1.setCell ⟨wb, 6, none⟩ (.int .i64 (left - (yt.size : Int)))).drew := (HT0.out.setCell ⟨wb, 6, none⟩ _ (Or.inl rfl)).drew
  have HC2 : Hid ((W1.setCell ⟨wb, 6, none⟩ (.int .i64 (left - (yt.size : Int)))).drew.heap[w.heap.size]? = some (.cells #[.int .i64 13, .int .i64 ya, .int .i64 yb, .int .i64 yd, .string ys, .string yt, .slice la ln lc, .slice ma mn mc] 104 (0, 0))) := (heap_setCell_other _ _ _ _ (show w.heap.size ≠ wb by omega)).trans HC.out
  have HR2 : Hid (LawRow (W1.setCell ⟨wb, 6, none⟩ (.int .i64 (left - (yt.size : Int)))).drew wb mv va vl (left - (yt.size : Int))) := hr2
  have HT2 : Hid (Turns (fun k => k = wb) w (W1.setCell ⟨wb, 6, none⟩ (.int .i64 (left - (yt.size : Int)))).drew) := ht2
  have HF2 : Hid (FileIn A0 a t wb ab (i * 2) i c fb gb mv va vl (left - (yt.size : Int)) r (W1.setCell ⟨wb, 6, none⟩ (.int .i64 (left - (yt.size : Int)))).drew) := HF.out.turn hr2 ht2
  clear hr2 ht2 HW HT0 HC c6 f6 o5 k0
  generalize (W1.setCell ⟨wb, 6, none⟩ (.int .i64 (left - (yt.size : Int)))).drew = w2 at *
  have o0 : w2.cell? ⟨w.heap.size, 0, none⟩ = some (.int .i64 13) := by rw [cell_of_row _ _ _ _ _ _ HC2.out]; rfl
  have hsz2 : w.heap.size < w2.heap.size := block_lt_of_cell o0
  have HS2 : Hid (DiskSt A0 a t wb mv va vl ps L c (left - (yt.size : Int)) w2) := HST.out.turn HR2.out HT2.out
  have hnb : vl.ownBlock ≠ some ab := HST.out.ne.2.2 ab hab
  have HIM : Hid (Calls Tryz.prog 142 #[.pointer (some ⟨wb, 0, none⟩), .pointer (some ⟨ab, i * 2, none⟩), .bool true] w2 fun e w' => ∃ d, Inv c r d ∧ ImagePost A0 wb i c fb gb mv va vl L (left - (yt.size : Int)) r d w2 e w') := by
    obtain ⟨d, _, _, hii⟩ := HF2.out.pair
    exact image_any true L HF2.out (fun k hk => HZ0.out k (by omega)) (by omega) HS2.out.lists (by have := HS2.out.len.2; omega) HS2.out.ne.2.1 HS2.out.own.2.2 hnb (fun j x hx => Nat.le_trans (hii.namesSeen x (List.mem_of_getElem? hx)) (by decide))
  have HFIN : Hid (∀ e w', (∃ d, Inv c r d ∧ ImagePost A0 wb i c fb gb mv va vl L (left - (yt.size : Int)) r d w2 e w') → DPost A a t wb mv c left w e w') := fun e w' ⟨d, hI, hp⟩ => (HS2.out.imaged i fb gb hi hI (by omega) hp).turned HA0.out.1 HST.out.row.lt HST.out.own.1 HT2.out (by omega) (by omega)
  go_wp2_with fail
  refine HIM.out.mono ?_
  intro e w5 hq
  have HX : Hid (DPost A a t wb mv c left w e w5) := HFIN.out e w5 hq
  obtain rfl : e = .returned (.bool true) := HX.out.1
  clear hq
  go_wp2
  go_ret
  exact HX.out
end Go.Proofs.YthhbpebihgjpjaaGreatDoor

namespace Go.Proofs.YthhbpebihgjpjaaGreatDoor
open Go.RowKit Go.MuLone Go.Maps
set_option maxRecDepth 1000000

theorem pcells_append (l r : List (Nat × Nat)) : pcells (l ++ r) = pcells l ++ pcells r := by simp [pcells]
theorem LawRow.setAll {w : World} {wb : Nat} {mv va vl : Value} {left : Int} (h : LawRow w wb mv va vl left) (x : Value) : LawRow (w.setCell ⟨wb, 1, none⟩ x) wb mv x vl left := by
  unfold LawRow; rw [heap_setCell_same _ _ _ _ _ _ h]; rfl

set_option maxHeartbeats 4000000 in
theorem step_files {A : Nat → Nat} {a : Nat → Addr} {t : Nat → ByteArray} {wb : Nat} {mv va vl : Value} {ps : List (Nat × Nat)} {L : List (Value × Value)} {c : Nat} {left : Int} {w : World} (x : OpV) (hk : x.kd = 2) (h : DiskSt A a t wb mv va vl ps L c left w) (hc : c < 1048575) :
    Calls Tryz.prog 56 #[.pointer (some ⟨wb, 0, none⟩), .agg x.vals.toArray] w (DPost A a t wb mv c left w) := by
  obtain ⟨kd, ya, yb, yd, ys, yt, la, ln, lc, ma, mn, mc⟩ := x
  simp only at hk
  subst hk
  simp only [OpV.vals]
  have hinf : (Tryz.prog.info? 160).map (fun i => (i.size, i.bytes, i.zero)) = some (2, 16, some (.agg #[.pointer none, .pointer none])) := by kernel_rfl
  obtain ⟨ti, hti, htj⟩ := Option.map_eq_some_iff.1 hinf
  simp only [Prod.mk.injEq] at htj
  have HTI : Hid (Tryz.prog.info? 160 = some ti ∧ ti.size = 2 ∧ ti.bytes = 16 ∧ ti.zero = some (.agg #[.pointer none, .pointer none])) := ⟨hti, htj.1, htj.2.1, htj.2.2⟩
  clear hinf hti htj
  obtain ⟨W1, hW1⟩ : ∃ W1, W1 = w.alloc (.cells #[.int .i64 2, .int .i64 ya, .int .i64 yb, .int .i64 yd, .string ys, .string yt, .slice la ln lc, .slice ma mn mc] 104) := ⟨_, rfl⟩
  have hB1 : Below w.heap.size w W1 := by rw [hW1]; exact (Below.refl _ _).alloc (Nat.le_refl _) _
  have HC : Hid (W1.heap[w.heap.size]? = some (.cells #[.int .i64 2, .int .i64 ya, .int .i64 yb, .int .i64 yd, .string ys, .string yt, .slice la ln lc, .slice ma mn mc] 104 (0, 0))) := by rw [hW1]; exact heapA_new _ _ _ rfl
  have hsz1 : w.heap.size < W1.heap.size := by rw [hW1]; simp
  have HB1 : Hid (Below w.heap.size w W1) := hB1
  have HST : Hid (DiskSt A a t wb mv va vl ps L c left w) := h
  have HNEW : Hid (Calls Tryz.prog 27 #[.int .i64 ya] W1 fun e w' => ∃ fb A', e = .returned (.pointer (some ⟨fb, 0, none⟩)) ∧ ProgAt A' (2 * ps.length + 2) c fb ⟨min (max ya 0) 65536, 0, false⟩ ⟨[], [], min (max ya 0) 65536, [], 0, false, false⟩ w' ∧ (∀ k, k < W1.heap.size → A' k = A k) ∧ W1.heap.size ≤ fb ∧ Below W1.heap.size W1 w') := pNew_any A (2 * ps.length + 2) c W1 (by have := h.env.glob; omega) ya
  have o0 : W1.cell? ⟨w.heap.size, 0, none⟩ = some (.int .i64 2) := by rw [cell_of_row _ _ _ _ _ _ HC.out]; rfl
  have o1 : W1.cell? ⟨w.heap.size, 1, none⟩ = some (.int .i64 ya) := by rw [cell_of_row _ _ _ _ _ _ HC.out]; rfl
  clear h hB1
  go_enter Tryz.func56, Tryz.ntmps56
  go_wp2_with fail
  rw [← hW1]
  clear hW1
  refine HNEW.out.mono ?_
  rintro e w2 ⟨fb, A1, rfl, hp2, hA1, hfb2, hb2⟩
  have HP2 : Hid (ProgAt A1 (2 * ps.length + 2) c fb ⟨min (max ya 0) 65536, 0, false⟩ ⟨[], [], min (max ya 0) 65536, [], 0, false, false⟩ w2) := hp2
  have HA1 : Hid (∀ k, k < W1.heap.size → A1 k = A k) := hA1
  have HB2 : Hid (Below W1.heap.size W1 w2) := hb2
  have p1 : w2.cell? ⟨w.heap.size, 1, none⟩ = some (.int .i64 ya) := (World.cell?_of_block (w := W1) (a := ⟨w.heap.size, 1, none⟩) (hb2.block _ hsz1)).trans o1
  clear hp2 hA1 hb2 HNEW o0 o1
  go_wp2_with fail
  refine (refNew_any ya w2).mono ?_
  rintro e w3 ⟨rfl, hr3, hb3⟩
  have HR3 : Hid (RefAt w3 w2.heap.size ⟨[], [], min (max ya 0) 65536, [], 0, false, false⟩ (.slice none 0 0) (.slice none 0 0) (.slice none 0 0)) := hr3
  have HB3 : Hid (Below w2.heap.size w2 w3) := hb3
  clear hr3 hb3 p1
  obtain ⟨aa, ca, hva⟩ : ∃ aa ca, va = .slice aa ps.length ca := by
    obtain ⟨_, ⟨rfl, h0⟩ | ⟨g, cap, cur, rfl, _⟩⟩ := HST.out.all
    · exact ⟨none, 0, by rw [h0]⟩
    · exact ⟨_, _, rfl⟩
  subst hva
  have hb03 : ∀ k, k < w.heap.size → w3.heap[k]? = w.heap[k]? := fun k hk => by
    rw [HB3.out.block k (by have := HB2.out.size; omega), HB2.out.block k (by omega), HB1.out.block k hk]
  have HRW : Hid (LawRow w3 wb mv (.slice aa ps.length ca) vl left) := (hb03 wb HST.out.row.lt).trans HST.out.row
  have c1 : w3.cell? ⟨wb, 1, none⟩ = some (.slice aa ps.length ca) := by rw [cell_of_row _ _ _ _ _ _ HRW.out]; rfl
  have f1 : w3.frozen? ⟨wb, 1, none⟩ = false := frozen_of_row _ _ _ _ _ HRW.out
  have HB03 : Hid (∀ k, k < w.heap.size → w3.heap[k]? = w.heap[k]?) := hb03
  clear hb03
  have HGB : Hid (w2.heap.size < w3.heap.size ∧ W1.heap.size ≤ w2.heap.size) := ⟨HR3.out.lt, HB2.out.size⟩
  have hwb3 : wb < w3.heap.size := HRW.out.lt
  have hpl : ps.length ≤ 1048576 := by have := HST.out.len.1; omega
  have hall3 : w3.ownsRow 0 160 2 (.slice aa ps.length ca) ps.length (pcells ps) := row_keep HST.out.all (fun k hk => HB03.out k (row_block HST.out.all k hk).2)
  have HALL : Hid (w3.ownsRow 0 160 2 (.slice aa ps.length ca) ps.length (pcells ps)) := hall3
  clear hall3
  go_wp2_with (at_builtin; refine wpList_append_lies _ rfl (.tmp 47) (.tmp 51) 107 rfl 0 160 ti (.agg #[.pointer none, .pointer none]) 2 16 Tryz.underlying107 HTI.out.1 HTI.out.2.2.2 HTI.out.2.1 HTI.out.2.2.1 rfl (by decide) _ ps.length (pcells ps) rfl (by exact row_keep HALL.out (fun k hk => heapA_old w3 _ k (row_block HALL.out k hk).2)) ⟨w3.heap.size, 0, none⟩ 1 1 [.pointer (some ⟨fb, 0, none⟩), .pointer (some ⟨w2.heap.size, 0, none⟩)] rfl rfl (by exact new_cells w3 _ _) (by intro u hu; simp only [List.mem_cons, List.not_mem_nil, or_false] at hu; rcases hu with rfl | rfl <;> rfl) (by decide) (by unfold maxLen; omega) (by omega) (Nat.zero_le _) _ rfl ?_; intro g6 cap6 w6 hv6 hg6 hat6 hlt6; refine Hid.out ?_)
  have hst := HST.out
  have hgb := HGB.out
  have hrow6 : w6.heap[wb]? = w3.heap[wb]? := (hg6.block wb (by simp; omega) (fun e => hst.ne.1 e.symm)).trans (heapA_old w3 _ wb hwb3)
  have HR6 : Hid (LawRow w6 wb mv (.slice aa ps.length ca) vl left) := hrow6.trans HRW.out
  have c16 : w6.cell? ⟨wb, 1, none⟩ = some (.slice aa ps.length ca) := by rw [cell_of_row _ _ _ _ _ _ HR6.out]; rfl
  have f16 : w6.frozen? ⟨wb, 1, none⟩ = false := frozen_of_row _ _ _ _ _ HR6.out
  have hwbl : wb < w.heap.size := hst.row.lt
  have hsz6 : w3.heap.size ≤ w6.heap.size := by have := hg6.size; simp at this; omega
  have hat : (Value.slice aa ps.length ca).ownBlock = some g6 ∨ w3.heap.size ≤ g6 := by
    rcases hat6 with q | q
    · exact Or.inl q
    · right; rw [q]; simp
  have hgf : g6 ≠ wb := by
    rcases hat with q | q
    · intro e; exact hst.ne.1 (by rw [q, e])
    · omega
  have HFIN : Hid (DPost A a t wb mv c left w (.returned (.bool true)) (w6.setCell ⟨wb, 1, none⟩ (.slice (some ⟨g6, 0, none⟩) (ps.length + 1) cap6))) := by
    obtain ⟨A2, a1, a2, _⟩ := assign A1 w2.heap.size (2 * ps.length + 3) (fun b => b = w2.heap.size)
    obtain ⟨A3, b1, b2, b3⟩ := assign A2 w3.heap.size 1 (fun b => b = g6)
    have hA3 : ∀ k, k < w.heap.size → A3 k = A k := fun k hk => by rw [b1 k (by omega), a1 k (by omega), HA1.out k (by omega)]
    have h37 : ∀ k, k < w3.heap.size → k ≠ wb → (Value.slice aa ps.length ca).ownBlock ≠ some k → (w6.setCell ⟨wb, 1, none⟩ (.slice (some ⟨g6, 0, none⟩) (ps.length + 1) cap6)).heap[k]? = w3.heap[k]? := fun k hk h1 h2 => by
      rw [heap_setCell_other _ _ _ _ h1, hg6.block k (by simp; omega) (fun e => h2 e.symm), heapA_old w3 _ k hk]
    have h07 : ∀ k, k < w.heap.size → k ≠ wb → (Value.slice aa ps.length ca).ownBlock ≠ some k → (w6.setCell ⟨wb, 1, none⟩ (.slice (some ⟨g6, 0, none⟩) (ps.length + 1) cap6)).heap[k]? = w.heap[k]? := fun k hk h1 h2 => (h37 k (by omega) h1 h2).trans (HB03.out k hk)
    have hz : ∀ k, k < w.heap.size → A k = 0 → (w6.setCell ⟨wb, 1, none⟩ (.slice (some ⟨g6, 0, none⟩) (ps.length + 1) cap6)).heap[k]? = w.heap[k]? := fun k hk h0 => h07 k hk (fun q => by rw [q, hst.own.1] at h0; cases h0) (fun q => by rw [hst.own.2.1 k q] at h0; cases h0)
    have hs7 : w6.heap.size = (w6.setCell ⟨wb, 1, none⟩ (.slice (some ⟨g6, 0, none⟩) (ps.length + 1) cap6)).heap.size := by simp [World.setCell]
    have hlt : ∀ k, (Value.slice aa ps.length ca).ownBlock = some k → k < w.heap.size := fun k q => (row_block hst.all k q).2
    refine ⟨rfl, A3, .slice (some ⟨g6, 0, none⟩) (ps.length + 1) cap6, vl, ps ++ [(fb, w2.heap.size)], L, left, ⟨hst.env.keep (by omega) hA3 hz, HR6.out.setAll _, ?_, hst.lists.keep (fun k hk => h07 k (hst.lists.lt k hk) (fun q => hst.ne.2.1 (by rw [hk, q])) (fun q => hst.ne.2.2 k q hk)), ⟨by rw [hA3 _ hwbl]; exact hst.own.1, fun k hk => ?_, fun k hk => by rw [hA3 _ (hst.lists.lt k hk)]; exact hst.own.2.2 k hk⟩, ⟨fun q => hgf (Option.some.inj q), hst.ne.2.1, fun k hk q => ?_⟩, fun y hy => (hst.texts y hy).keep hA3 hz, fun j y hy => ?_, ⟨by have := hst.len.1; simp; omega, by have := hst.len.2; omega⟩⟩, ⟨by omega, by omega⟩, hA3, ⟨?_, ?_, by omega, fun k hk hn => hz k hk (by by_cases q : A k = 0; exact q; exact absurd q hn)⟩⟩
    · have h1 : w6.ownsRow 0 160 2 (.slice (some ⟨g6, 0, none⟩) (ps.length + 1) cap6) (ps ++ [(fb, w2.heap.size)]).length (pcells (ps ++ [(fb, w2.heap.size)])) := by rw [List.length_append, pcells_append]; exact hv6
      exact row_keep h1 (fun k hk => heap_setCell_other _ _ _ _ (by have e : g6 = k := Option.some.inj hk; subst e; exact hgf))
    · obtain rfl : g6 = k := Option.some.inj hk
      rcases hat with q | q
      · rw [hA3 _ (hlt _ q)]; exact hst.own.2.1 _ q
      · exact b2 _ q rfl
    · obtain rfl : g6 = k := Option.some.inj hk
      rcases hat with q2 | q2
      · exact hst.ne.2.2 _ q2 q
      · have := hst.lists.lt _ q; omega
    · rcases Nat.lt_or_ge j ps.length with c1 | c1
      · rw [List.getElem?_append_left c1] at hy
        obtain ⟨r, hr⟩ := hst.pairs j y hy
        exact ⟨r, hr.keep (Nat.le_succ c) hA3 (fun k hk q => h07 k hk (fun e => by rw [e, hst.own.1] at q; omega) (fun e => by rw [hst.own.2.1 k e] at q; omega))⟩
      · have hj : j = ps.length := by
          have := (List.getElem?_eq_some_iff.1 hy).1
          simp at this; omega
        subst hj
        obtain rfl : (fb, w2.heap.size) = y := by simpa using hy
        have hne1 : ∀ k, (Value.slice aa ps.length ca).ownBlock = some k → A1 k = 1 := fun k q => by rw [HA1.out k (by have := hlt k q; omega)]; exact hst.own.2.1 k q
        have hne2 : A1 wb = 1 := by rw [HA1.out wb (by omega)]; exact hst.own.1
        refine ⟨⟨[], [], min (max ya 0) 65536, [], 0, false, false⟩, ⟨min (max ya 0) 65536, 0, false⟩, HP2.out.keep (Nat.le_succ c) (fun k hk => by rw [b1 k (by omega), a1 k hk]) (fun k hk q => (h37 k (by omega) (fun e => by rw [e, hne2] at q; omega) (fun e => by rw [hne1 k e] at q; omega)).trans (HB3.out.block k hk)), ⟨.slice none 0 0, .slice none 0 0, .slice none 0 0, HR3.out.keepFoot (fun k hk => ?_), fun k hk => ?_⟩, Inv.fresh _ _⟩
        · rcases hk with rfl | q | q | q
          · exact h37 _ (by omega) (by omega) (fun e => by have := hlt _ e; omega)
          · cases q
          · cases q
          · cases q
        · rcases hk with rfl | q | q | q
          · rw [b1 _ (by omega)]; exact a2 _ (Nat.le_refl _) rfl
          · cases q
          · cases q
          · cases q
    · show w6.os = w.os
      rw [hg6.os]; exact HB3.out.os.trans (HB2.out.os.trans HB1.out.os)
    · show w6.output = w.output
      rw [hg6.output]; exact HB3.out.output.trans (HB2.out.output.trans HB1.out.output)
  clear hv6 hg6 hat6 hlt6 hrow6 c1 f1 hgf HR6 hat hsz6 hst hgb HALL HRW HB03
  generalize hw7 : w6.setCell ⟨wb, 1, none⟩ (.slice (some ⟨g6, 0, none⟩) (ps.length + 1) cap6) = w7 at *
  unfold Hid
  go_wp2
  go_ret
  first
    | exact HFIN.out
    | (rw [hw7]; exact HFIN.out)
end Go.Proofs.YthhbpebihgjpjaaGreatDoor
