import Derived.Test.YthhbpebihgjpjaaGreatDoorJ25
namespace Go.Proofs.YthhbpebihgjpjaaGreatDoor
open Go.RowKit Go.MuLone Go.Maps
set_option maxRecDepth 1000000

set_option maxHeartbeats 2000000 in
theorem file_remove {A : Nat → Nat} {a : Nat → Addr} {t : Nat → ByteArray} {wb ab ao i c fb gb : Nat} {mv va vl : Value} {left : Int} {r : RefD} {w : World} (x : OpV) (hk : x.kd = 8) (h : FileIn A a t wb ab ao i c fb gb mv va vl left r w) (hc : c < 1048576) (hl : -281474976710656 ≤ left ∧ left ≤ 1099511627776) (hs : x.s.size ≤ 140737488351232) (ht : x.t.size ≤ 140737488351232) :
    Calls Tryz.prog 90 #[.pointer (some ⟨wb, 0, none⟩), .pointer (some ⟨ab, ao, none⟩), .agg x.vals.toArray] w (FilePost A wb i c fb gb mv va vl (left - x.t.size) w) := by
  obtain ⟨kd, ya, yb, yd, ys, yt, la, ln, lc, ma, mn, mc⟩ := x
  simp only at hk hs ht ⊢
  subst hk
  simp only [OpV.vals]
  have hlt := h.row.lt
  have hpl := block_lt_of_cell h.pf
  have HW : Hid (LawRow (w.alloc (.cells #[.int .i64 8, .int .i64 ya, .int .i64 yb, .int .i64 yd, .string ys, .string yt, .slice la ln lc, .slice ma mn mc] 104)) wb mv va vl left) := (heapA_old w _ wb hlt).trans h.row
  have HT0 : Hid (Turns (fun k => k = wb) w (w.alloc (.cells #[.int .i64 8, .int .i64 ya, .int .i64 yb, .int .i64 yd, .string ys, .string yt, .slice la ln lc, .slice ma mn mc] 104))) := Turns.of_below _ ((Below.refl _ _).alloc (Nat.le_refl _) _)
  have HC : Hid ((w.alloc (.cells #[.int .i64 8, .int .i64 ya, .int .i64 yb, .int .i64 yd, .string ys, .string yt, .slice la ln lc, .slice ma mn mc] 104)).heap[w.heap.size]? = some (.cells #[.int .i64 8, .int .i64 ya, .int .i64 yb, .int .i64 yd, .string ys, .string yt, .slice la ln lc, .slice ma mn mc] 104 (0, 0))) := heapA_new _ _ _ rfl
  obtain ⟨A0, hA0, hz0, h0⟩ := h.fresh
  have HA0 : Hid ((∀ k, k < w.heap.size → A0 k = A k) ∧ (∀ k, w.heap.size ≤ k → A0 k = 0)) := ⟨hA0, hz0⟩
  have HF : Hid (FileIn A0 a t wb ab ao i c fb gb mv va vl left r w) := h0
  refine Calls.mono (R := FilePost A0 wb i c fb gb mv va vl (left - (yt.size : Int)) w) ?_ (fun e w' hq => FilePost.of hA0 hq)
  clear h h0 hA0 hz0
  go_enter Tryz.func90, Tryz.ntmps90
  go_wp2_with fail
  generalize w.alloc (.cells #[.int .i64 8, .int .i64 ya, .int .i64 yb, .int .i64 yd, .string ys, .string yt, .slice la ln lc, .slice ma mn mc] 104) = W1 at *
  have c6 : W1.cell? ⟨wb, 6, none⟩ = some (.int .i64 left) := by rw [cell_of_row _ _ _ _ _ _ HW.out]; rfl
  have f6 : W1.frozen? ⟨wb, 6, none⟩ = false := frozen_of_row _ _ _ _ _ HW.out
  have o5 : W1.cell? ⟨w.heap.size, 5, none⟩ = some (.string yt) := by rw [cell_of_row _ _ _ _ _ _ HC.out]; rfl
  have k0 : IntKind.i64.wrap (left - (yt.size : Int)) = left - (yt.size : Int) := by rw [IntKind.wrap_i64]; omega
  go_region
  have hr2 : LawRow (W1.setCell ⟨wb, 6, none⟩ (.int .i64 (left - (yt.size : Int)))).drew wb mv va vl (left - (yt.size : Int)) := HW.out.setLeft _
  have ht2 : Turns (fun k => k = wb) w (W1.setCell ⟨wb, 6, none⟩ (.int .i64 (left - (yt.size : Int)))).drew := (HT0.out.setCell ⟨wb, 6, none⟩ _ (Or.inl rfl)).drew
  have HC2 : Hid ((W1.setCell ⟨wb, 6, none⟩ (.int .i64 (left - (yt.size : Int)))).drew.heap[w.heap.size]? = some (.cells #[.int .i64 8, .int .i64 ya, .int .i64 yb, .int .i64 yd, .string ys, .string yt, .slice la ln lc, .slice ma mn mc] 104 (0, 0))) := (heap_setCell_other _ _ _ _ (show w.heap.size ≠ wb by omega)).trans HC.out
  have HR2 : Hid (LawRow (W1.setCell ⟨wb, 6, none⟩ (.int .i64 (left - (yt.size : Int)))).drew wb mv va vl (left - (yt.size : Int))) := hr2
  have HT2 : Hid (Turns (fun k => k = wb) w (W1.setCell ⟨wb, 6, none⟩ (.int .i64 (left - (yt.size : Int)))).drew) := ht2
  have HF2 : Hid (FileIn A0 a t wb ab ao i c fb gb mv va vl (left - (yt.size : Int)) r (W1.setCell ⟨wb, 6, none⟩ (.int .i64 (left - (yt.size : Int)))).drew) := HF.out.turn hr2 ht2
  clear hr2 ht2 HW HT0 HC c6 f6 o5 k0
  generalize (W1.setCell ⟨wb, 6, none⟩ (.int .i64 (left - (yt.size : Int)))).drew = w2 at *
  have o0 : w2.cell? ⟨w.heap.size, 0, none⟩ = some (.int .i64 8) := by rw [cell_of_row _ _ _ _ _ _ HC2.out]; rfl
  have o4 : w2.cell? ⟨w.heap.size, 4, none⟩ = some (.string ys) := by rw [cell_of_row _ _ _ _ _ _ HC2.out]; rfl
  have o5 : w2.cell? ⟨w.heap.size, 5, none⟩ = some (.string yt) := by rw [cell_of_row _ _ _ _ _ _ HC2.out]; rfl
  have pf : w2.cell? ⟨ab, ao, none⟩ = some (.pointer (some ⟨fb, 0, none⟩)) := HF2.out.pf
  have pg : w2.cell? ⟨ab, ao + 1, none⟩ = some (.pointer (some ⟨gb, 0, none⟩)) := HF2.out.pg
  have hsz2 : w.heap.size < w2.heap.size := block_lt_of_cell o0
  have hid : (2 * i + 2) ≠ 0 := by omega
  obtain ⟨d, hpp, hrr, hii⟩ := HF2.out.pair
  have HRR : Hid (RefIn A0 (2 * i + 3) gb r w2) := hrr
  have HOK : Hid (RefOk r) := hii.refOk (by omega)
  have HCALL : Hid (Calls Tryz.prog 51 #[.pointer (some ⟨fb, 0, none⟩), .string ys] w2.drew (NStep A0 (2 * i + 2) c fb (refRemove r ys) w2.drew)) := plainRemove_any (w := w2.drew) hid (HF2.out.env.keep (Nat.le_refl _) (fun _ _ => rfl) (fun _ _ _ => rfl)) (hpp.keep (Nat.le_refl _) (fun _ _ => rfl) (fun _ _ _ => rfl)) hii hc ys (by omega)
  have HKEEP : Hid (∀ w3, Turns (fun k => A0 k = 2 * i + 2) w2.drew w3 → w3.cell? ⟨ab, ao, none⟩ = some (.pointer (some ⟨fb, 0, none⟩)) ∧ w3.cell? ⟨ab, ao + 1, none⟩ = some (.pointer (some ⟨gb, 0, none⟩)) ∧ w3.cell? ⟨w.heap.size, 4, none⟩ = some (.string ys) ∧ w3.cell? ⟨w.heap.size, 5, none⟩ = some (.string yt)) := fun w3 ht => by
    have k1 : w3.heap[ab]? = w2.heap[ab]? := ht.block ab (block_lt_of_cell HF2.out.pf) (by rw [HF2.out.ab1]; omega)
    have k2 : w3.heap[w.heap.size]? = w2.heap[w.heap.size]? := ht.block _ hsz2 (by rw [HA0.out.2 _ (Nat.le_refl _)]; omega)
    exact ⟨(World.cell?_of_block (w := w2) (a := ⟨ab, ao, none⟩) k1).trans pf, (World.cell?_of_block (w := w2) (a := ⟨ab, ao + 1, none⟩) k1).trans pg, (World.cell?_of_block (w := w2) (a := ⟨w.heap.size, 4, none⟩) k2).trans o4, (World.cell?_of_block (w := w2) (a := ⟨w.heap.size, 5, none⟩) k2).trans o5⟩
  have HREF : Hid (∀ wx vs vn vw, RefAt wx gb r vs vn vw → Calls Tryz.prog 148 #[.pointer (some ⟨gb, 0, none⟩), .string ys] wx (RefPost wx gb vs vn vw (refRemove r ys))) := fun wx vs vn vw hx => refRemove_any r ys gb vs vn vw wx hx HOK.out (by omega)
  clear hpp hrr hii
  generalize refRemove r ys = q at *
  go_wp2_with fail
  go_region_held3 (fun w' => w'.cell? ⟨ab, ao, none⟩ = some (.pointer (some ⟨fb, 0, none⟩)) ∧ w'.cell? ⟨ab, ao + 1, none⟩ = some (.pointer (some ⟨gb, 0, none⟩)) ∧ w'.cell? ⟨w.heap.size, 4, none⟩ = some (.string ys) ∧ w'.cell? ⟨w.heap.size, 5, none⟩ = some (.string yt)) (first | exact ⟨pf, pg, o4, o5⟩ | exact hS3) (first | (go_at_call 51; refine HCALL.out.mono ?_; rintro e w3 ⟨d', A1, rfl, hp1, hI1, hA1, ht1⟩; have hS3 := HKEEP.out w3 ht1))
  all_goals
    have HR3 : Hid (RefIn A1 (2 * i + 3) gb r w3) := HRR.out.behind hA1 ⟨ht1.os, ht1.output, ht1.size, ht1.block⟩
    have HP1 : Hid (ProgAt A1 (2 * i + 2) (c + 1) fb d' q.2 w3 ∧ Inv (c + 1) q.2 d' ∧ (∀ k, k < w2.heap.size → A1 k = A0 k) ∧ Turns (fun k => A0 k = 2 * i + 2) w2 w3) := ⟨hp1, hI1, hA1, ht1.os, ht1.output, ht1.size, ht1.block⟩
    have b1 := hS3.1
    have b2 := hS3.2.1
    have b3 := hS3.2.2.1
    have b4 := hS3.2.2.2
    have HSZ : Hid (w2.heap.size ≤ w3.heap.size) := ht1.size
    clear hS3 hp1 hI1 hA1 ht1 HCALL HKEEP pf pg o0 o4 o5
    obtain ⟨vs, vn, vw, hr3, hf3⟩ := HR3.out
    have HC3 : Hid (Calls Tryz.prog 148 #[.pointer (some ⟨gb, 0, none⟩), .string ys] w3.drew (RefPost w3.drew gb vs vn vw q)) := HREF.out w3.drew vs vn vw (hr3.later (fun _ _ => rfl))
    have HST : Hid (∀ e w4, RefPost w3.drew gb vs vn vw q e w4 → e = .returned (.int .i64 q.1) ∧ RStep A1 (2 * i + 3) gb q.2 w3.drew w4) := fun e w4 hp => hp.step hf3
    have HK3 : Hid (∀ w4, RStep A1 (2 * i + 3) gb q.2 w3.drew w4 → w4.cell? ⟨ab, ao, none⟩ = some (.pointer (some ⟨fb, 0, none⟩)) ∧ w4.cell? ⟨ab, ao + 1, none⟩ = some (.pointer (some ⟨gb, 0, none⟩)) ∧ w4.cell? ⟨w.heap.size, 4, none⟩ = some (.string ys) ∧ w4.cell? ⟨w.heap.size, 5, none⟩ = some (.string yt)) := fun w4 ⟨A2, _, _, ht⟩ => by
      have k1 : w4.heap[ab]? = w3.heap[ab]? := ht.block ab (block_lt_of_cell b1) (by rw [HP1.out.2.2.1 ab (block_lt_of_cell HF2.out.pf), HF2.out.ab1]; omega)
      have k2 : w4.heap[w.heap.size]? = w3.heap[w.heap.size]? := ht.block _ (block_lt_of_cell b3) (by rw [HP1.out.2.2.1 _ hsz2, HA0.out.2 _ (Nat.le_refl _)]; omega)
      exact ⟨(World.cell?_of_block (w := w3) (a := ⟨ab, ao, none⟩) k1).trans b1, (World.cell?_of_block (w := w3) (a := ⟨ab, ao + 1, none⟩) k1).trans b2, (World.cell?_of_block (w := w3) (a := ⟨w.heap.size, 4, none⟩) k2).trans b3, (World.cell?_of_block (w := w3) (a := ⟨w.heap.size, 5, none⟩) k2).trans b4⟩
    have HFIN : Hid (∀ w4, RStep A1 (2 * i + 3) gb q.2 w3.drew w4 → FilePost A0 wb i c fb gb mv va vl (left - (yt.size : Int)) w (.returned (.bool true)) w4) := fun w4 hst => HF.out.done HR2.out HT2.out (pair_step HP1.out.1 HP1.out.2.1 HP1.out.2.2.1 HP1.out.2.2.2 (by obtain ⟨A2, x, y, z⟩ := hst; exact ⟨A2, x, y, z.os, z.output, z.size, z.block⟩))
    clear hr3 hf3
    generalize q.1 = num at *
    go_wp2_with fail
    go_region_held3 (fun w' => w'.cell? ⟨ab, ao, none⟩ = some (.pointer (some ⟨fb, 0, none⟩)) ∧ w'.cell? ⟨ab, ao + 1, none⟩ = some (.pointer (some ⟨gb, 0, none⟩)) ∧ w'.cell? ⟨w.heap.size, 4, none⟩ = some (.string ys) ∧ w'.cell? ⟨w.heap.size, 5, none⟩ = some (.string yt)) (first | exact ⟨b1, b2, b3, b4⟩ | exact hS4) (first | (go_at_call 148; refine HC3.out.mono ?_; intro e w4 hq4; obtain ⟨rfl, hst4⟩ := HST.out e w4 hq4; have hS4 := HK3.out w4 hst4))
    all_goals
      have HX := HFIN.out w4 hst4
      clear HFIN HST HK3 HC3 hS4 hst4 hq4 b1 b2 b3 b4
      go_wp2
      go_ret
      exact HX
end Go.Proofs.YthhbpebihgjpjaaGreatDoor
