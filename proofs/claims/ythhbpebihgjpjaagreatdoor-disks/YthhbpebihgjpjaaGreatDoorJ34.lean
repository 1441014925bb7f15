import Derived.Test.YthhbpebihgjpjaaGreatDoorJ25
import Derived.Test.YthhbpebihgjpjaaGreatDoorJ29
import Derived.Test.YthhbpebihgjpjaaGreatDoorJ30
import Derived.Test.YthhbpebihgjpjaaGreatDoorJ31
import Derived.Test.YthhbpebihgjpjaaGreatDoorJ32
import Derived.Test.YthhbpebihgjpjaaGreatDoorJ33
import Derived.Laws.BitsAllLaws
namespace Go.Proofs.YthhbpebihgjpjaaGreatDoor
open Go.RowKit Go.MuLone Go.Maps
set_option maxRecDepth 1000000

set_option maxHeartbeats 2000000 in
theorem file_read {A : Nat → Nat} {a : Nat → Addr} {t : Nat → ByteArray} {wb ab ao i c fb gb : Nat} {mv va vl : Value} {left : Int} {r : RefD} {w : World} (x : OpV) (hk : x.kd = 3) (h : FileIn A a t wb ab ao i c fb gb mv va vl left r w) (hc : c < 1048576) (hl : -281474976710656 ≤ left ∧ left ≤ 1099511627776) (hs : x.s.size ≤ 140737488351232) (ht : x.t.size ≤ 140737488351232) :
    Calls Tryz.prog 90 #[.pointer (some ⟨wb, 0, none⟩), .pointer (some ⟨ab, ao, none⟩), .agg x.vals.toArray] w (FilePost A wb i c fb gb mv va vl (left - x.t.size) w) := by
  obtain ⟨kd, ya, yb, yd, ys, yt, la, ln, lc, ma, mn, mc⟩ := x
  simp only at hk hs ht ⊢
  subst hk
  simp only [OpV.vals]
  have hlt := h.row.lt
  have hpl := block_lt_of_cell h.pf
  have HW : Hid (LawRow (w.alloc (.cells #[.int .i64 3, .int .i64 ya, .int .i64 yb, .int .i64 yd, .string ys, .string yt, .slice la ln lc, .slice ma mn mc] 104)) wb mv va vl left) := (heapA_old w _ wb hlt).trans h.row
  have HT0 : Hid (Turns (fun k => k = wb) w (w.alloc (.cells #[.int .i64 3, .int .i64 ya, .int .i64 yb, .int .i64 yd, .string ys, .string yt, .slice la ln lc, .slice ma mn mc] 104))) := Turns.of_below _ ((Below.refl _ _).alloc (Nat.le_refl _) _)
  have HC : Hid ((w.alloc (.cells #[.int .i64 3, .int .i64 ya, .int .i64 yb, .int .i64 yd, .string ys, .string yt, .slice la ln lc, .slice ma mn mc] 104)).heap[w.heap.size]? = some (.cells #[.int .i64 3, .int .i64 ya, .int .i64 yb, .int .i64 yd, .string ys, .string yt, .slice la ln lc, .slice ma mn mc] 104 (0, 0))) := heapA_new _ _ _ rfl
  obtain ⟨A0, hA0, hz0, h0⟩ := h.fresh
  have HA0 : Hid ((∀ k, k < w.heap.size → A0 k = A k) ∧ (∀ k, w.heap.size ≤ k → A0 k = 0)) := ⟨hA0, hz0⟩
  have HF : Hid (FileIn A0 a t wb ab ao i c fb gb mv va vl left r w) := h0
  refine Calls.mono (R := FilePost A0 wb i c fb gb mv va vl (left - (yt.size : Int)) w) ?_ (fun e w' hq => FilePost.of hA0 hq)
  clear h h0 hA0 hz0
  go_enter Tryz.func90, Tryz.ntmps90
  go_wp2_with fail
  generalize w.alloc (.cells #[.int .i64 3, .int .i64 ya, .int .i64 yb, .int .i64 yd, .string ys, .string yt, .slice la ln lc, .slice ma mn mc] 104) = W1 at *
  have c6 : W1.cell? ⟨wb, 6, none⟩ = some (.int .i64 left) := by rw [cell_of_row _ _ _ _ _ _ HW.out]; rfl
  have f6 : W1.frozen? ⟨wb, 6, none⟩ = false := frozen_of_row _ _ _ _ _ HW.out
  have o5 : W1.cell? ⟨w.heap.size, 5, none⟩ = some (.string yt) := by rw [cell_of_row _ _ _ _ _ _ HC.out]; rfl
  have k0 : IntKind.i64.wrap (left - (yt.size : Int)) = left - (yt.size : Int) := by rw [IntKind.wrap_i64]; omega
  go_region
  have hr2 : LawRow (W1.setCell ⟨wb, 6, none⟩ (.int .i64 (left - (yt.size : Int)))).drew wb mv va vl (left - (yt.size : Int)) := HW.out.setLeft _
  have ht2 : Turns (fun k => k = wb) w (W1.setCell ⟨wb, 6, none⟩ (.int .i64 (left - (yt.size : Int)))).drew := (HT0.out.setCell ⟨wb, 6, none⟩ _ (Or.inl rfl)).drew
  have HC2 : Hid ((W1.setCell ⟨wb, 6, none⟩ (.int .i64 (left - (yt.size : Int)))).drew.heap[w.heap.size]? = some (.cells #[.int .i64 3, .int .i64 ya, .int .i64 yb, .int .i64 yd, .string ys, .string yt, .slice la ln lc, .slice ma mn mc] 104 (0, 0))) := (heap_setCell_other _ _ _ _ (show w.heap.size ≠ wb by omega)).trans HC.out
  have HR2 : Hid (LawRow (W1.setCell ⟨wb, 6, none⟩ (.int .i64 (left - (yt.size : Int)))).drew wb mv va vl (left - (yt.size : Int))) := hr2
  have HT2 : Hid (Turns (fun k => k = wb) w (W1.setCell ⟨wb, 6, none⟩ (.int .i64 (left - (yt.size : Int)))).drew) := ht2
  have HF2 : Hid (FileIn A0 a t wb ab ao i c fb gb mv va vl (left - (yt.size : Int)) r (W1.setCell ⟨wb, 6, none⟩ (.int .i64 (left - (yt.size : Int)))).drew) := HF.out.turn hr2 ht2
  clear hr2 ht2 HW HT0 HC c6 f6 o5 k0
  generalize (W1.setCell ⟨wb, 6, none⟩ (.int .i64 (left - (yt.size : Int)))).drew = w2 at *
  have o0 : w2.cell? ⟨w.heap.size, 0, none⟩ = some (.int .i64 3) := by rw [cell_of_row _ _ _ _ _ _ HC2.out]; rfl
  have o4 : w2.cell? ⟨w.heap.size, 4, none⟩ = some (.string ys) := by rw [cell_of_row _ _ _ _ _ _ HC2.out]; rfl
  have o5 : w2.cell? ⟨w.heap.size, 5, none⟩ = some (.string yt) := by rw [cell_of_row _ _ _ _ _ _ HC2.out]; rfl
  have pf : w2.cell? ⟨ab, ao, none⟩ = some (.pointer (some ⟨fb, 0, none⟩)) := HF2.out.pf
  have pg : w2.cell? ⟨ab, ao + 1, none⟩ = some (.pointer (some ⟨gb, 0, none⟩)) := HF2.out.pg
  have hsz2 : w.heap.size < w2.heap.size := block_lt_of_cell o0
  have hid : (2 * i + 2) ≠ 0 := by omega
  obtain ⟨d, hpp, hrr, hii⟩ := HF2.out.pair
  have HRR : Hid (RefIn A0 (2 * i + 3) gb r w2) := hrr
  have HOK : Hid (RefOk r) := hii.refOk (by omega)
  have HCALL : Hid (Calls Tryz.prog 21 #[.pointer (some ⟨fb, 0, none⟩), .string ys] w2.drew fun e w' => e = .returned (.tuple #[.string (refRead r ys).1, .int .i64 (refRead r ys).2]) ∧ ProgAt A0 (2 * i + 2) c fb d r w' ∧ Turns (fun k => A0 k = 2 * i + 2) w2.drew w') := plainRead_any (w := w2.drew) hid (HF2.out.env.keep (Nat.le_refl _) (fun _ _ => rfl) (fun _ _ _ => rfl)) (hpp.keep (Nat.le_refl _) (fun _ _ => rfl) (fun _ _ _ => rfl)) ys (by omega)
  have HKEEP : Hid (∀ w3, Turns (fun k => A0 k = 2 * i + 2) w2.drew w3 → w3.cell? ⟨ab, ao, none⟩ = some (.pointer (some ⟨fb, 0, none⟩)) ∧ w3.cell? ⟨ab, ao + 1, none⟩ = some (.pointer (some ⟨gb, 0, none⟩)) ∧ w3.cell? ⟨w.heap.size, 4, none⟩ = some (.string ys)) := fun w3 ht => by
    have k1 : w3.heap[ab]? = w2.heap[ab]? := ht.block ab (block_lt_of_cell HF2.out.pf) (by rw [HF2.out.ab1]; omega)
    have k2 : w3.heap[w.heap.size]? = w2.heap[w.heap.size]? := ht.block _ hsz2 (by rw [HA0.out.2 _ (Nat.le_refl _)]; omega)
    exact ⟨(World.cell?_of_block (w := w2) (a := ⟨ab, ao, none⟩) k1).trans pf, (World.cell?_of_block (w := w2) (a := ⟨ab, ao + 1, none⟩) k1).trans pg, (World.cell?_of_block (w := w2) (a := ⟨w.heap.size, 4, none⟩) k2).trans o4⟩
  have HREF : Hid (∀ wx vs vn vw, RefAt wx gb r vs vn vw → Calls Tryz.prog 141 #[.pointer (some ⟨gb, 0, none⟩), .string ys] wx fun e w' => e = .returned (.tuple #[.string (refRead r ys).1, .int .i64 (refRead r ys).2]) ∧ ∃ m, w' = wx.drewN m) := fun wx vs vn vw hx => refRead_any r ys gb vs vn vw wx hx HOK.out
  have HII : Hid (Inv c r d) := hii
  clear hpp hrr hii
  generalize refRead r ys = q at *
  obtain ⟨txt, num⟩ := q
  simp only at HCALL HREF
  go_wp2_with fail
  go_region_held3 (fun w' => w'.cell? ⟨ab, ao, none⟩ = some (.pointer (some ⟨fb, 0, none⟩)) ∧ w'.cell? ⟨ab, ao + 1, none⟩ = some (.pointer (some ⟨gb, 0, none⟩)) ∧ w'.cell? ⟨w.heap.size, 4, none⟩ = some (.string ys)) (first | exact ⟨pf, pg, o4⟩ | exact hS3) (first | (go_at_call 21; refine HCALL.out.mono ?_; rintro e w3 ⟨rfl, hp1, ht1⟩; have hS3 := HKEEP.out w3 ht1))
  all_goals
    have HR3 : Hid (RefIn A0 (2 * i + 3) gb r w3) := HRR.out.behind (fun _ _ => rfl) ⟨ht1.os, ht1.output, ht1.size, ht1.block⟩
    have HP1 : Hid (ProgAt A0 (2 * i + 2) c fb d r w3 ∧ Turns (fun k => A0 k = 2 * i + 2) w2 w3) := ⟨hp1, ht1.os, ht1.output, ht1.size, ht1.block⟩
    have b1 := hS3.1
    have b2 := hS3.2.1
    have b3 := hS3.2.2
    clear hS3 hp1 ht1 HCALL HKEEP pf pg o0 o4 o5
    obtain ⟨vs, vn, vw, hr3, hf3⟩ := HR3.out
    have HC3 : Hid (Calls Tryz.prog 141 #[.pointer (some ⟨gb, 0, none⟩), .string ys] w3.drew fun e w' => e = .returned (.tuple #[.string txt, .int .i64 num]) ∧ ∃ m, w' = w3.drew.drewN m) := HREF.out w3.drew vs vn vw (hr3.later (fun _ _ => rfl))
    have HFIN : Hid (∀ w4 : World, w4.heap = w3.heap → w4.os = w3.os → w4.output = w3.output → FilePost A0 wb i c fb gb mv va vl (left - (yt.size : Int)) w (.returned (.bool true)) w4) := fun w4 e1 e2 e3 => HF.out.done HR2.out HT2.out ⟨A0, r, ⟨d, HP1.out.1.keep (Nat.le_succ _) (fun _ _ => rfl) (fun k _ _ => by rw [e1]), HR3.out.keep (fun _ _ => rfl) (fun k _ _ => by rw [e1]), HII.out.later (Nat.le_succ _)⟩, fun _ _ => rfl, ⟨e2.trans HP1.out.2.os, e3.trans HP1.out.2.output, by rw [e1]; exact HP1.out.2.size, fun k hk hn => by rw [e1]; exact HP1.out.2.block k hk (fun e => hn (Or.inl e))⟩⟩
    clear hr3 hf3
    go_wp2_with fail
    go_region_held3 (fun w' => w'.cell? ⟨ab, ao, none⟩ = some (.pointer (some ⟨fb, 0, none⟩)) ∧ w'.cell? ⟨ab, ao + 1, none⟩ = some (.pointer (some ⟨gb, 0, none⟩)) ∧ w'.cell? ⟨w.heap.size, 4, none⟩ = some (.string ys)) (first | exact ⟨b1, b2, b3⟩ | exact hS4) (first | (go_at_call 141; refine HC3.out.mono ?_; rintro e w4 ⟨rfl, m4, hm4⟩; have hh4 : w4.heap = w3.heap ∧ w4.os = w3.os ∧ w4.output = w3.output := (by subst hm4; exact ⟨rfl, rfl, rfl⟩); have hS4 : w4.cell? ⟨ab, ao, none⟩ = some (.pointer (some ⟨fb, 0, none⟩)) ∧ w4.cell? ⟨ab, ao + 1, none⟩ = some (.pointer (some ⟨gb, 0, none⟩)) ∧ w4.cell? ⟨w.heap.size, 4, none⟩ = some (.string ys) := (by subst hm4; exact ⟨b1, b2, b3⟩)))
    all_goals
      clear HC3 hS4 hh4 b1 b2 b3
      subst hm4
      go_wp2
      go_ret
      exact HFIN.out _ rfl rfl rfl
end Go.Proofs.YthhbpebihgjpjaaGreatDoor

namespace Go.Proofs.YthhbpebihgjpjaaGreatDoor
open Go.RowKit Go.MuLone Go.Maps
set_option maxRecDepth 1000000

theorem DiskSt.posted {A : Nat → Nat} {a : Nat → Addr} {t : Nat → ByteArray} {wb : Nat} {mv va vl : Value} {ps : List (Nat × Nat)} {L : List (Value × Value)} {c : Nat} {left : Int} {w w' : World} {e : Ending} {n : Nat} (h : DiskSt A a t wb mv va vl ps L c left w) (i fb gb : Nat) (hi : ps[i]? = some (fb, gb)) (hn : n ≤ 140737488351232) (hp : FilePost A wb i c fb gb mv va vl (left - (n : Int)) w e w') : DPost A a t wb mv c left w e w' := by
  obtain ⟨he, A', h1, h2, h3⟩ := h.filed i fb gb hi hp
  exact ⟨he, A', va, vl, ps, L, left - (n : Int), h1, ⟨by omega, by omega⟩, h2, h3⟩
/-- file, at every kind of calls of files. -/
theorem file_disks {A : Nat → Nat} {a : Nat → Addr} {t : Nat → ByteArray} {wb ab i c fb gb : Nat} {mv va vl : Value} {ps : List (Nat × Nat)} {L : List (Value × Value)} {left : Int} {r : RefD} {w : World} (x : OpV) (hk : 3 ≤ x.kd ∧ x.kd ≤ 13) (ha : x.a ≤ 9223372036854775807) (hs : x.s.size ≤ 140737488351232) (ht : x.t.size ≤ 140737488351232) (hst : DiskSt A a t wb mv va vl ps L c left w) (hi : ps[i]? = some (fb, gb)) (hab : va.ownBlock = some ab) (h : FileIn A a t wb ab (i * 2) i c fb gb mv va vl left r w) (hc : c < 1048575) (hl : -281474976710656 ≤ left ∧ left ≤ 1099511627776) :
    Calls Tryz.prog 90 #[.pointer (some ⟨wb, 0, none⟩), .pointer (some ⟨ab, i * 2, none⟩), .agg x.vals.toArray] w (DPost A a t wb mv c left w) := by
  have hcs : x.kd = 3 ∨ x.kd = 4 ∨ x.kd = 5 ∨ x.kd = 6 ∨ x.kd = 7 ∨ x.kd = 8 ∨ x.kd = 9 ∨ x.kd = 10 ∨ x.kd = 11 ∨ x.kd = 12 ∨ x.kd = 13 := by omega
  have hc2 : c < 1048576 := by omega
  rcases hcs with k | k | k | k | k | k | k | k | k | k | k
  · exact (file_read x k h hc2 hl hs ht).mono (fun e w' hp => hst.posted i fb gb hi ht hp)
  · exact file_names x k hst hi hab h hc hl ht
  · exact (file_write x k h hc2 hl hs ht).mono (fun e w' hp => hst.posted i fb gb hi ht hp)
  · exact (file_append x k h hc2 hl hs ht).mono (fun e w' hp => hst.posted i fb gb hi ht hp)
  · exact (file_rename x k h hc2 hl hs ht).mono (fun e w' hp => hst.posted i fb gb hi ht hp)
  · exact (file_remove x k h hc2 hl hs ht).mono (fun e w' hp => hst.posted i fb gb hi ht hp)
  · exact (file_sync x k h hc2 hl ht).mono (fun e w' hp => hst.posted i fb gb hi ht hp)
  · exact (file_fuse x k h hc2 hl ha ht).mono (fun e w' hp => hst.posted i fb gb hi ht hp)
  · exact (file_crash x k h hc2 hl ht).mono (fun e w' hp => hst.posted i fb gb hi ht hp)
  · exact (file_room x k h hc2 hl ht).mono (fun e w' hp => hst.posted i fb gb hi ht hp)
  · exact file_image x k hst hi hab h hc hl ht
/-- step, at every kind of calls of files. -/
theorem step_disks {A : Nat → Nat} {a : Nat → Addr} {t : Nat → ByteArray} {wb : Nat} {mv va vl : Value} {ps : List (Nat × Nat)} {L : List (Value × Value)} {c : Nat} {left : Int} {w : World} (x : OpV) (hk : 2 ≤ x.kd ∧ x.kd ≤ 13) (hints : (-9223372036854775808 ≤ x.a ∧ x.a ≤ 9223372036854775807) ∧ (-9223372036854775808 ≤ x.d ∧ x.d ≤ 9223372036854775807)) (hs : x.s.size ≤ 140737488351232) (ht : x.t.size ≤ 140737488351232) (h : DiskSt A a t wb mv va vl ps L c left w) (hc : c < 1048575) (hl : -281474976710656 ≤ left ∧ left ≤ 1099511627776) :
    Calls Tryz.prog 56 #[.pointer (some ⟨wb, 0, none⟩), .agg x.vals.toArray] w (DPost A a t wb mv c left w) := by
  by_cases h2 : x.kd = 2
  · exact step_files x h2 h hc
  · exact step_file x ⟨by omega, hk.2⟩ h (by omega) hints.2 (fun A w i fb gb ab r hst hi hab hf => file_disks x ⟨by omega, hk.2⟩ hints.1.2 hs ht hst hi hab hf hc hl)
end Go.Proofs.YthhbpebihgjpjaaGreatDoor

namespace Go.Proofs.YthhbpebihgjpjaaGreatDoor.Sha

/-- SHA-256's small functions, on numbers below 2^32. -/
def rotr (x n : Nat) : Nat := x * 2 ^ (32 - n) % 4294967296 ||| x / 2 ^ n
def s0 (x : Nat) : Nat := rotr x 7 ^^^ rotr x 18 ^^^ x / 8
def s1 (x : Nat) : Nat := rotr x 17 ^^^ rotr x 19 ^^^ x / 1024
def S0 (x : Nat) : Nat := rotr x 2 ^^^ rotr x 13 ^^^ rotr x 22
def S1 (x : Nat) : Nat := rotr x 6 ^^^ rotr x 11 ^^^ rotr x 25
def ch (e f g : Nat) : Nat := (e &&& f) ^^^ ((4294967295 - e) &&& g)
def maj (a b c : Nat) : Nat := (a &&& b) ^^^ (a &&& c) ^^^ (b &&& c)

theorem rotr_lt (x n : Nat) (hx : x < 4294967296) : rotr x n < 4294967296 := by
  have h1 : x * 2 ^ (32 - n) % 4294967296 < 2 ^ 32 := Nat.mod_lt _ (by decide)
  have h2 : x / 2 ^ n < 2 ^ 32 := Nat.lt_of_le_of_lt (Nat.div_le_self _ _) hx
  exact Nat.or_lt_two_pow h1 h2
theorem xor_lt {a b : Nat} (ha : a < 4294967296) (hb : b < 4294967296) : a ^^^ b < 4294967296 := Nat.xor_lt_two_pow (n := 32) ha hb
theorem and_lt {a b : Nat} (ha : a < 4294967296) : a &&& b < 4294967296 := Nat.lt_of_le_of_lt Nat.and_le_left ha
theorem s0_lt (x : Nat) (hx : x < 4294967296) : s0 x < 4294967296 := xor_lt (xor_lt (rotr_lt _ _ hx) (rotr_lt _ _ hx)) (by omega)
theorem s1_lt (x : Nat) (hx : x < 4294967296) : s1 x < 4294967296 := xor_lt (xor_lt (rotr_lt _ _ hx) (rotr_lt _ _ hx)) (by omega)
theorem S0_lt (x : Nat) (hx : x < 4294967296) : S0 x < 4294967296 := xor_lt (xor_lt (rotr_lt _ _ hx) (rotr_lt _ _ hx)) (rotr_lt _ _ hx)
theorem S1_lt (x : Nat) (hx : x < 4294967296) : S1 x < 4294967296 := xor_lt (xor_lt (rotr_lt _ _ hx) (rotr_lt _ _ hx)) (rotr_lt _ _ hx)
theorem ch_lt (e f g : Nat) (he : e < 4294967296) : ch e f g < 4294967296 := xor_lt (and_lt he) (and_lt (by omega))
theorem maj_lt (a b c : Nat) (ha : a < 4294967296) (hb : b < 4294967296) : maj a b c < 4294967296 := xor_lt (xor_lt (and_lt ha) (and_lt ha)) (and_lt hb)

/-- The turn, as math/bits works it out. -/
theorem turn_u32 (x n : Nat) (hx : x < 4294967296) : bits .or .u32 (IntKind.u32.wrap ((x : Int) * 2 ^ (32 - n))) ((x : Int) / 2 ^ n) = ((rotr x n : Nat) : Int) := by
  have e1 : IntKind.u32.wrap ((x : Int) * 2 ^ (32 - n)) = ((x * 2 ^ (32 - n) % 4294967296 : Nat) : Int) := by
    rw [IntKind.wrap_u32']; simp
  have e2 : ((x : Int) / 2 ^ n) = ((x / 2 ^ n : Nat) : Int) := by simp
  rw [e1, e2, u32_or_nat _ _ (Nat.mod_lt _ (by decide)) (Nat.lt_of_le_of_lt (Nat.div_le_self _ _) hx)]
  rfl

/-- Four bytes, joined. -/
theorem or4 (a b c d : Nat) (ha : a < 256) (hb : b < 256) (hc : c < 256) (hd : d < 256) :
    bits .or .u32 (bits .or .u32 (bits .or .u32 ((a : Int) % 4294967296 * 16777216 % 4294967296) ((b : Int) % 4294967296 * 65536 % 4294967296)) ((c : Int) % 4294967296 * 256 % 4294967296)) ((d : Int) % 4294967296)
      = ((a * 16777216 + b * 65536 + c * 256 + d : Nat) : Int) := by
  have e1 : (a : Int) % 4294967296 * 16777216 % 4294967296 = ((a * 16777216 : Nat) : Int) := by omega
  have e2 : (b : Int) % 4294967296 * 65536 % 4294967296 = ((b * 65536 : Nat) : Int) := by omega
  have e3 : (c : Int) % 4294967296 * 256 % 4294967296 = ((c * 256 : Nat) : Int) := by omega
  have e4 : (d : Int) % 4294967296 = (d : Int) := by omega
  rw [e1, e2, e3, e4, u32_or_nat _ _ (by omega) (by omega), nat_join 24 _ _ (by omega) (by omega), u32_or_nat _ _ (by omega) (by omega), nat_join 16 _ _ (by omega) (by omega), u32_or_nat _ _ (by omega) (by omega), nat_join 8 _ _ (by omega) (by omega)]

theorem s0_u32 (x : Nat) (hx : x < 4294967296) : bits .xor .u32 (bits .xor .u32 ((rotr x 7 : Nat) : Int) ((rotr x 18 : Nat) : Int)) ((x : Int) / 8) = ((s0 x : Nat) : Int) := by
  have e : ((x : Int) / 8) = ((x / 8 : Nat) : Int) := by omega
  rw [e, u32_xor_nat _ _ (rotr_lt _ _ hx) (rotr_lt _ _ hx), u32_xor_nat _ _ (xor_lt (rotr_lt _ _ hx) (rotr_lt _ _ hx)) (by omega)]; rfl
theorem s1_u32 (x : Nat) (hx : x < 4294967296) : bits .xor .u32 (bits .xor .u32 ((rotr x 17 : Nat) : Int) ((rotr x 19 : Nat) : Int)) ((x : Int) / 1024) = ((s1 x : Nat) : Int) := by
  have e : ((x : Int) / 1024) = ((x / 1024 : Nat) : Int) := by omega
  rw [e, u32_xor_nat _ _ (rotr_lt _ _ hx) (rotr_lt _ _ hx), u32_xor_nat _ _ (xor_lt (rotr_lt _ _ hx) (rotr_lt _ _ hx)) (by omega)]; rfl
theorem high_u32 (a b c d : Nat) : ((((a : Int) + (b : Int)) % 4294967296 + (c : Int)) % 4294967296 + (d : Int)) % 4294967296 = (((a + b + c + d) % 4294967296 : Nat) : Int) := by omega

/-- The state: eight words. -/
structure St where
  a : Nat
  b : Nat
  c : Nat
  d : Nat
  e : Nat
  f : Nat
  g : Nat
  h : Nat
structure St.Ok (s : St) : Prop where
  a : s.a < 4294967296
  b : s.b < 4294967296
  c : s.c < 4294967296
  d : s.d < 4294967296
  e : s.e < 4294967296
  f : s.f < 4294967296
  g : s.g < 4294967296
  h : s.h < 4294967296
def round (k w : Nat) (s : St) : St :=
  { a := (s.h + S1 s.e + ch s.e s.f s.g + k + w + (S0 s.a + maj s.a s.b s.c)) % 4294967296, b := s.a, c := s.b, d := s.c,
    e := (s.d + (s.h + S1 s.e + ch s.e s.f s.g + k + w)) % 4294967296, f := s.e, g := s.f, h := s.g }
theorem round_ok (k w : Nat) (s : St) (h : s.Ok) : (round k w s).Ok :=
  ⟨Nat.mod_lt _ (by decide), h.a, h.b, h.c, Nat.mod_lt _ (by decide), h.e, h.f, h.g⟩
theorem S1_u32 (x : Nat) (hx : x < 4294967296) : bits .xor .u32 (bits .xor .u32 ((rotr x 6 : Nat) : Int) ((rotr x 11 : Nat) : Int)) ((rotr x 25 : Nat) : Int) = ((S1 x : Nat) : Int) := by
  rw [u32_xor_nat _ _ (rotr_lt _ _ hx) (rotr_lt _ _ hx), u32_xor_nat _ _ (xor_lt (rotr_lt _ _ hx) (rotr_lt _ _ hx)) (rotr_lt _ _ hx)]; rfl
theorem S0_u32 (x : Nat) (hx : x < 4294967296) : bits .xor .u32 (bits .xor .u32 ((rotr x 2 : Nat) : Int) ((rotr x 13 : Nat) : Int)) ((rotr x 22 : Nat) : Int) = ((S0 x : Nat) : Int) := by
  rw [u32_xor_nat _ _ (rotr_lt _ _ hx) (rotr_lt _ _ hx), u32_xor_nat _ _ (xor_lt (rotr_lt _ _ hx) (rotr_lt _ _ hx)) (rotr_lt _ _ hx)]; rfl
theorem not_nat (e : Nat) (he : e < 4294967296) : 4294967295 ^^^ e = 4294967295 - e := by
  apply Nat.eq_of_testBit_eq
  intro i
  have h1 : (4294967295 : Nat) = 2 ^ 32 - 1 := rfl
  have h2 : 4294967295 - e = 2 ^ 32 - (e + 1) := by omega
  rw [Nat.testBit_xor, h2, Nat.testBit_two_pow_sub_succ he, h1, Nat.testBit_two_pow_sub_one]
  by_cases hi : i < 32
  · simp [hi]
  · have : e.testBit i = false := Nat.testBit_lt_two_pow (Nat.lt_of_lt_of_le he (by show 2 ^ 32 ≤ 2 ^ i; exact Nat.pow_le_pow_right (by decide) (by omega)))
    simp [hi, this]
theorem max_u32 : IntKind.u32.max = ((4294967295 : Nat) : Int) := by decide
theorem ch_u32 (e f g : Nat) (he : e < 4294967296) (hf : f < 4294967296) (hg : g < 4294967296) : bits .xor .u32 (bits .and .u32 (e : Int) (f : Int)) (bits .and .u32 (bits .xor .u32 IntKind.u32.max (e : Int)) (g : Int)) = ((ch e f g : Nat) : Int) := by
  rw [max_u32, u32_xor_nat _ _ (by decide) he, not_nat e he, u32_and_nat _ _ he hf, u32_and_nat _ _ (by omega) hg, u32_xor_nat _ _ (and_lt he) (and_lt (by omega))]; rfl
theorem maj_u32 (a b c : Nat) (ha : a < 4294967296) (hb : b < 4294967296) (hc : c < 4294967296) : bits .xor .u32 (bits .xor .u32 (bits .and .u32 (a : Int) (b : Int)) (bits .and .u32 (a : Int) (c : Int))) (bits .and .u32 (b : Int) (c : Int)) = ((maj a b c : Nat) : Int) := by
  rw [u32_and_nat _ _ ha hb, u32_and_nat _ _ ha hc, u32_and_nat _ _ hb hc, u32_xor_nat _ _ (and_lt ha) (and_lt ha), u32_xor_nat _ _ (xor_lt (and_lt ha) (and_lt ha)) (and_lt hb)]; rfl
theorem round_a (k w : Nat) (s : St) : (((s.h : Int) + (S1 s.e : Nat) + (ch s.e s.f s.g : Nat) + (k : Int) + (w : Int) + (S0 s.a : Nat)) % 4294967296 + (maj s.a s.b s.c : Nat)) % 4294967296 = (((round k w s).a : Nat) : Int) := by
  show _ = (((s.h + S1 s.e + ch s.e s.f s.g + k + w + (S0 s.a + maj s.a s.b s.c)) % 4294967296 : Nat) : Int)
  omega
theorem round_e (k w : Nat) (s : St) : ((s.d : Int) + ((s.h : Int) + (S1 s.e : Nat) + (ch s.e s.f s.g : Nat) + (k : Int) + (w : Int)) % 4294967296) % 4294967296 = (((round k w s).e : Nat) : Int) := by
  show _ = (((s.d + (s.h + S1 s.e + ch s.e s.f s.g + k + w)) % 4294967296 : Nat) : Int)
  omega
/-- Behind n rounds. -/
def after (K W : Nat → Nat) (s : St) : Nat → St
  | 0 => s
  | n + 1 => round (K n) (W n) (after K W s n)
theorem after_ok (K W : Nat → Nat) (s : St) (h : s.Ok) : ∀ n, (after K W s n).Ok
  | 0 => h
  | n + 1 => round_ok _ _ _ (after_ok K W s h n)
def join (s t : St) : St := ⟨(s.a + t.a) % 4294967296, (s.b + t.b) % 4294967296, (s.c + t.c) % 4294967296, (s.d + t.d) % 4294967296, (s.e + t.e) % 4294967296, (s.f + t.f) % 4294967296, (s.g + t.g) % 4294967296, (s.h + t.h) % 4294967296⟩
theorem join_ok (s t : St) : (join s t).Ok := ⟨Nat.mod_lt _ (by decide), Nat.mod_lt _ (by decide), Nat.mod_lt _ (by decide), Nat.mod_lt _ (by decide), Nat.mod_lt _ (by decide), Nat.mod_lt _ (by decide), Nat.mod_lt _ (by decide), Nat.mod_lt _ (by decide)⟩

/-- The words of a block: the n-th out of those ahead of it. -/
def next (b : Nat → Nat) (l : Nat → Nat) (n : Nat) : Nat :=
  if n < 16 then b (4 * n) * 16777216 + b (4 * n + 1) * 65536 + b (4 * n + 2) * 256 + b (4 * n + 3)
  else (l (n - 16) + s0 (l (n - 15)) + l (n - 7) + s1 (l (n - 2))) % 4294967296
/-- The first n words, as a function that is 0 beyond. -/
def upTo (b : Nat → Nat) : Nat → Nat → Nat
  | 0, _ => 0
  | n + 1, i => if i = n then next b (upTo b n) n else upTo b n i
def word (b : Nat → Nat) (i : Nat) : Nat := upTo b (i + 1) i
theorem upTo_old (b : Nat → Nat) : ∀ (n i : Nat), i < n → upTo b n i = word b i := by
  intro n
  induction n with
  | zero => intro i h; omega
  | succ n ih =>
    intro i h
    by_cases e : i = n
    · subst e; rfl
    · show (if i = n then _ else upTo b n i) = _
      rw [if_neg e]; exact ih i (by omega)
theorem word_low (b : Nat → Nat) (n : Nat) (h : n < 16) : word b n = b (4 * n) * 16777216 + b (4 * n + 1) * 65536 + b (4 * n + 2) * 256 + b (4 * n + 3) := by
  show (if n = n then next b (upTo b n) n else _) = _
  rw [if_pos rfl]; unfold next; rw [if_pos h]
theorem word_high (b : Nat → Nat) (n : Nat) (h : 16 ≤ n) : word b n = (word b (n - 16) + s0 (word b (n - 15)) + word b (n - 7) + s1 (word b (n - 2))) % 4294967296 := by
  show (if n = n then next b (upTo b n) n else _) = _
  rw [if_pos rfl]; unfold next; rw [if_neg (by omega), upTo_old b n _ (by omega), upTo_old b n _ (by omega), upTo_old b n _ (by omega), upTo_old b n _ (by omega)]
theorem word_lt (b : Nat → Nat) (hb : ∀ i, b i < 256) (n : Nat) : word b n < 4294967296 := by
  by_cases h : n < 16
  · rw [word_low b n h]
    have h0 := hb (4 * n); have h1 := hb (4 * n + 1); have h2 := hb (4 * n + 2); have h3 := hb (4 * n + 3)
    omega
  · rw [word_high b n (by omega)]; exact Nat.mod_lt _ (by decide)
/-- One block mixed into a state. -/
def mixed (K : Nat → Nat) (s : St) (b : Nat → Nat) : St := join s (after K (word b) s 64)
theorem mixed_ok (K : Nat → Nat) (s : St) (b : Nat → Nat) : (mixed K s b).Ok := join_ok _ _
end Go.Proofs.YthhbpebihgjpjaaGreatDoor.Sha
