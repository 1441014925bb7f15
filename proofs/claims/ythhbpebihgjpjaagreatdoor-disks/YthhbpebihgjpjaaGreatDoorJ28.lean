import Derived.Test.YthhbpebihgjpjaaGreatDoorJ27
import Derived.Test.YthhbpebihgjpjaaGreatDoorJ25
import Derived.Test.YthhbpebihgjpjaaGreatDoorJ01
namespace Go.Proofs.YthhbpebihgjpjaaGreatDoor
open Go.RowKit Go.MuLone Go.Maps
set_option maxRecDepth 1000000

def pcells (l : List (Nat × Nat)) : List Value := l.flatMap fun x => [.pointer (some ⟨x.1, 0, none⟩), .pointer (some ⟨x.2, 0, none⟩)]
/-- A list that was handed out, and the law's own of it: both lie where nobody writes. -/
def ListIn (A : Nat → Nat) (x : Value × Value) (w : World) : Prop :=
  ∃ l : List ByteArray, l.length ≤ 1048576 ∧ w.ownsRow 0 9 1 x.1 l.length (l.map Value.string) ∧ w.ownsRow 0 9 1 x.2 l.length (l.map Value.string) ∧ ∀ k, (x.1.ownBlock = some k ∨ x.2.ownBlock = some k) → A k = 0
/-- All that a script of calls of files has made, behind c steps. -/
structure DiskSt (A : Nat → Nat) (a : Nat → Addr) (t : Nat → ByteArray) (wb : Nat) (mv va vl : Value) (ps : List (Nat × Nat)) (L : List (Value × Value)) (c : Nat) (left : Int) (w : World) : Prop where
  env : EnvAt A a t w
  row : LawRow w wb mv va vl left
  all : w.ownsRow 0 160 2 va ps.length (pcells ps)
  lists : OwnL vl L w
  own : A wb = 1 ∧ (∀ k, va.ownBlock = some k → A k = 1) ∧ (∀ k, vl.ownBlock = some k → A k = 1)
  ne : va.ownBlock ≠ some wb ∧ vl.ownBlock ≠ some wb ∧ (∀ k, va.ownBlock = some k → vl.ownBlock ≠ some k)
  texts : ∀ x, x ∈ L → ListIn A x w
  pairs : ∀ i x, ps[i]? = some x → ∃ r, PairAt A i c x.1 x.2 r w
  len : ps.length ≤ c ∧ L.length ≤ c
theorem ListIn.keep {A A' : Nat → Nat} {x : Value × Value} {w w' : World} (h : ListIn A x w) (hA : ∀ k, k < w.heap.size → A' k = A k) (hb : ∀ k, k < w.heap.size → A k = 0 → w'.heap[k]? = w.heap[k]?) : ListIn A' x w' := by
  obtain ⟨l, h1, h2, h3, h4⟩ := h
  exact ⟨l, h1, row_keep h2 (fun k hk => hb k (row_block h2 k hk).2 (h4 k (Or.inl hk))), row_keep h3 (fun k hk => hb k (row_block h3 k hk).2 (h4 k (Or.inr hk))), fun k hk => by
    have hlt : k < w.heap.size := by
      rcases hk with q | q
      · exact (row_block h2 k q).2
      · exact (row_block h3 k q).2
    rw [hA k hlt]; exact h4 k hk⟩
theorem ListIn.ok {A : Nat → Nat} {L : List (Value × Value)} {w : World} (h : ∀ x, x ∈ L → ListIn A x w) : ListsOk L w := fun x hx => by
  obtain ⟨l, h1, h2, h3, _⟩ := h x hx
  exact ⟨l, l, texts_of_row h2, texts_of_row h3, h1⟩
/-- Behind a step on files number i. -/
theorem DiskSt.filed {A : Nat → Nat} {a : Nat → Addr} {t : Nat → ByteArray} {wb : Nat} {mv va vl : Value} {ps : List (Nat × Nat)} {L : List (Value × Value)} {c : Nat} {left left' : Int} {w w' : World} {e : Ending} (h : DiskSt A a t wb mv va vl ps L c left w) (i fb gb : Nat) (hi : ps[i]? = some (fb, gb)) (hp : FilePost A wb i c fb gb mv va vl left' w e w') :
    e = .returned (.bool true) ∧ ∃ A', DiskSt A' a t wb mv va vl ps L (c + 1) left' w' ∧ (∀ k, k < w.heap.size → A' k = A k) ∧ Turns (fun k => A k ≠ 0) w w' := by
  obtain ⟨he, hr, A', r', hpair, hA, ht⟩ := hp
  have hkeep : ∀ k, k < w.heap.size → k ≠ wb → A k ≠ 2 * i + 2 → A k ≠ 2 * i + 3 → w'.heap[k]? = w.heap[k]? := fun k hk h1 h2 h3 => ht.block k hk (by rintro (q | q | q); exact h1 q; exact h2 q; exact h3 q)
  have hz : ∀ k, k < w.heap.size → A k = 0 → w'.heap[k]? = w.heap[k]? := fun k hk h0 => hkeep k hk (fun q => by rw [q, h.own.1] at h0; cases h0) (by omega) (by omega)
  refine ⟨he, A', ⟨h.env.keep ht.size hA hz, hr, row_keep h.all (fun k hk => hkeep k (row_block h.all k hk).2 (fun q => h.ne.1 (by rw [hk, q])) (by rw [h.own.2.1 k hk]; omega) (by rw [h.own.2.1 k hk]; omega)), h.lists.keep (fun k hk => hkeep k (h.lists.lt k hk) (fun q => h.ne.2.1 (by rw [hk, q])) (by rw [h.own.2.2 k hk]; omega) (by rw [h.own.2.2 k hk]; omega)), ⟨by rw [hA _ h.row.lt]; exact h.own.1, fun k hk => by rw [hA _ (row_block h.all k hk).2]; exact h.own.2.1 k hk, fun k hk => by rw [hA _ (h.lists.lt k hk)]; exact h.own.2.2 k hk⟩, h.ne, fun x hx => (h.texts x hx).keep hA hz, fun j x hx => ?_, ⟨by have := h.len.1; omega, by have := h.len.2; omega⟩⟩, hA, ht.mono (fun k q => ?_)⟩
  · by_cases hj : j = i
    · subst hj
      obtain rfl : (fb, gb) = x := Option.some.inj (hi.symm.trans hx)
      exact ⟨r', hpair⟩
    · obtain ⟨r, hr⟩ := h.pairs j x hx
      exact ⟨r, hr.keep (Nat.le_succ c) hA (fun k hk q => hkeep k hk (fun e => by rw [e, h.own.1] at q; omega) (by omega) (by omega))⟩
  · rcases q with q | q | q
    · rw [q, h.own.1]; omega
    · omega
    · omega
theorem pcells_at (l : List (Nat × Nat)) : ∀ (j : Nat) (x : Nat × Nat), l[j]? = some x → (pcells l)[j * 2]? = some (.pointer (some ⟨x.1, 0, none⟩)) ∧ (pcells l)[j * 2 + 1]? = some (.pointer (some ⟨x.2, 0, none⟩)) := by
  induction l with
  | nil => intro j x h; simp at h
  | cons y l ih =>
    intro j x h
    cases j with
    | zero => simp at h; subst h; exact ⟨rfl, rfl⟩
    | succ j =>
      have h2 := ih j x (by simpa using h)
      have e : ∀ r, (pcells (y :: l))[(j + 1) * 2 + r]? = (pcells l)[j * 2 + r]? := fun r => by
        have : (j + 1) * 2 + r = (j * 2 + r) + 2 := by omega
        rw [this]; rfl
      exact ⟨(e 0).trans h2.1, (e 1).trans h2.2⟩
/-- Where a step on files number i begins. -/
theorem DiskSt.at {A : Nat → Nat} {a : Nat → Addr} {t : Nat → ByteArray} {wb : Nat} {mv va vl : Value} {ps : List (Nat × Nat)} {L : List (Value × Value)} {c : Nat} {left : Int} {w : World} (h : DiskSt A a t wb mv va vl ps L c left w) (i fb gb : Nat) (hi : ps[i]? = some (fb, gb)) :
    ∃ ab cap r, va = .slice (some ⟨ab, 0, none⟩) ps.length cap ∧ FileIn A a t wb ab (i * 2) i c fb gb mv va vl left r w := by
  have hlt : i < ps.length := (List.getElem?_eq_some_iff.1 hi).1
  obtain ⟨r, hr⟩ := h.pairs i _ hi
  obtain ⟨_, ⟨rfl, h0⟩ | ⟨g, cap, cur, rfl, _, hh, _, _, _, htk⟩⟩ := (show _ from h.all)
  · omega
  · have e : ∀ k u, k < ps.length * 2 → (pcells ps)[k]? = some u → w.cell? ⟨g, k, none⟩ = some u := fun k u hk hu => by
      rw [cell_of_row _ _ _ _ _ _ hh, ← Array.getElem?_toList]; rw [← htk, List.getElem?_take, if_pos hk] at hu; exact hu
    have h2 := pcells_at ps i _ hi
    exact ⟨g, cap, r, rfl, h.env, h.row, e _ _ (by omega) h2.1, e _ _ (by omega) h2.2, h.own.1, h.own.2.1 g rfl, fun q => h.ne.1 (by rw [q]; rfl), hr⟩
end Go.Proofs.YthhbpebihgjpjaaGreatDoor

namespace Go.Proofs.YthhbpebihgjpjaaGreatDoor
open Go.RowKit
set_option maxRecDepth 1000000

set_option maxHeartbeats 2000000 in
theorem pick_any (c : Int) (n : Nat) (hn : 0 < n) (hb : n ≤ 1048576) (hc : -9223372036854775808 ≤ c ∧ c ≤ 9223372036854775807) (w : World) :
    Calls Tryz.prog 88 #[.int .i64 c, .int .i64 n] w fun e w' => (∃ k : Nat, k < n ∧ e = .returned (.int .i64 k)) ∧ w' = w := by
  go_enter Tryz.func88, Tryz.ntmps88
  have hn0 : ¬ (n : Int) = 0 := by omega
  by_cases hneg : c < 0
  · have hw1 : IntKind.i64.wrap (c + 1) = c + 1 := by rw [IntKind.wrap_i64]; omega
    have hw2 : IntKind.i64.wrap (-(c + 1)) = -(c + 1) := by rw [IntKind.wrap_i64]; omega
    obtain ⟨m, hm⟩ : ∃ m : Nat, c + 1 = -(m : Int) := ⟨(-(c + 1)).toNat, by omega⟩
    have HE : Hid (-((c + 1).tmod (n : Int)) = ((m % n : Nat) : Int)) := by
      show _ = _
      rw [hm, Int.neg_tmod, Int.neg_neg]
      rfl
    have HK : Hid (m % n < n) := Nat.mod_lt _ hn
    clear hm
    go_wp2
    go_ret
    exact ⟨⟨m % n, HK.out, by rw [← HE.out]; rfl⟩, rfl⟩
  · have h0 : 0 ≤ c := by omega
    obtain ⟨m, rfl⟩ : ∃ m : Nat, c = (m : Int) := ⟨c.toNat, by omega⟩
    have HK : Hid (m % n < n) := Nat.mod_lt _ hn
    go_wp2
    go_ret
    exact ⟨⟨m % n, HK.out, rfl⟩, rfl⟩
end Go.Proofs.YthhbpebihgjpjaaGreatDoor

namespace Go.Proofs.YthhbpebihgjpjaaGreatDoor
open Go.RowKit Go.MuLone Go.Maps
set_option maxRecDepth 1000000

/-- What a step leaves. -/
def DPost (A : Nat → Nat) (a : Nat → Addr) (t : Nat → ByteArray) (wb : Nat) (mv : Value) (c : Nat) (left : Int) (w : World) (e : Ending) (w' : World) : Prop :=
  e = .returned (.bool true) ∧ ∃ A' va' vl' ps' L' left', DiskSt A' a t wb mv va' vl' ps' L' (c + 1) left' w' ∧ (left - 140737488351232 ≤ left' ∧ left' ≤ left) ∧ (∀ k, k < w.heap.size → A' k = A k) ∧ Turns (fun k => A k ≠ 0) w w'
theorem DiskSt.keep {A A' : Nat → Nat} {a : Nat → Addr} {t : Nat → ByteArray} {wb : Nat} {mv va vl : Value} {ps : List (Nat × Nat)} {L : List (Value × Value)} {c c' : Nat} {left : Int} {w w' : World} (h : DiskSt A a t wb mv va vl ps L c left w) (hc : c ≤ c') (hA : ∀ k, k < w.heap.size → A' k = A k) (hs : w.heap.size ≤ w'.heap.size) (hb : ∀ k, k < w.heap.size → w'.heap[k]? = w.heap[k]?) : DiskSt A' a t wb mv va vl ps L c' left w' :=
  ⟨h.env.keep hs hA (fun k hk _ => hb k hk), (hb wb h.row.lt).trans h.row, row_keep h.all (fun k hk => hb k (row_block h.all k hk).2), h.lists.keep (fun k hk => hb k (h.lists.lt k hk)), ⟨by rw [hA _ h.row.lt]; exact h.own.1, fun k hk => by rw [hA _ (row_block h.all k hk).2]; exact h.own.2.1 k hk, fun k hk => by rw [hA _ (h.lists.lt k hk)]; exact h.own.2.2 k hk⟩, h.ne, fun x hx => (h.texts x hx).keep hA (fun k hk _ => hb k hk), fun i x hx => by
    obtain ⟨r, hr⟩ := h.pairs i x hx
    exact ⟨r, hr.keep hc hA (fun k hk _ => hb k hk)⟩, ⟨Nat.le_trans h.len.1 hc, Nat.le_trans h.len.2 hc⟩⟩
theorem DPost.of {A A0 : Nat → Nat} {a : Nat → Addr} {t : Nat → ByteArray} {wb : Nat} {mv : Value} {c : Nat} {left : Int} {w w1 w' : World} {e : Ending} (hA : ∀ k, k < w.heap.size → A0 k = A k) (ht : Turns (fun _ => False) w w1) (h : DPost A0 a t wb mv c left w1 e w') : DPost A a t wb mv c left w e w' := by
  obtain ⟨h1, A', va', vl', ps', L', left', h2, h3, h4, h5⟩ := h
  refine ⟨h1, A', va', vl', ps', L', left', h2, h3, fun k hk => (h4 k (Nat.lt_of_lt_of_le hk ht.size)).trans (hA k hk), ?_⟩
  exact ⟨h5.os.trans ht.os, h5.output.trans ht.output, Nat.le_trans ht.size h5.size, fun k hk hn => (h5.block k (Nat.lt_of_lt_of_le hk ht.size) (by rw [hA k hk]; exact hn)).trans (ht.block k hk id)⟩

set_option maxHeartbeats 4000000 in
theorem step_file {A : Nat → Nat} {a : Nat → Addr} {t : Nat → ByteArray} {wb : Nat} {mv va vl : Value} {ps : List (Nat × Nat)} {L : List (Value × Value)} {c : Nat} {left : Int} {w : World} (x : OpV) (hk : 3 ≤ x.kd ∧ x.kd ≤ 13) (h : DiskSt A a t wb mv va vl ps L c left w) (hc : c < 1048576) (hd : -9223372036854775808 ≤ x.d ∧ x.d ≤ 9223372036854775807)
    (hfile : ∀ (A : Nat → Nat) (w : World) (i fb gb ab : Nat) (r : RefD), DiskSt A a t wb mv va vl ps L c left w → ps[i]? = some (fb, gb) → va.ownBlock = some ab → FileIn A a t wb ab (i * 2) i c fb gb mv va vl left r w → Calls Tryz.prog 90 #[.pointer (some ⟨wb, 0, none⟩), .pointer (some ⟨ab, i * 2, none⟩), .agg x.vals.toArray] w (DPost A a t wb mv c left w)) :
    Calls Tryz.prog 56 #[.pointer (some ⟨wb, 0, none⟩), .agg x.vals.toArray] w (DPost A a t wb mv c left w) := by
  obtain ⟨kd, ya, yb, yd, ys, yt, la, ln, lc, ma, mn, mc⟩ := x
  simp only at hk hd
  simp only [OpV.vals] at hfile ⊢
  have HFI : Hid (∀ (A : Nat → Nat) (w : World) (i fb gb ab : Nat) (r : RefD), DiskSt A a t wb mv va vl ps L c left w → ps[i]? = some (fb, gb) → va.ownBlock = some ab → FileIn A a t wb ab (i * 2) i c fb gb mv va vl left r w → Calls Tryz.prog 90 #[.pointer (some ⟨wb, 0, none⟩), .pointer (some ⟨ab, i * 2, none⟩), .agg #[.int .i64 kd, .int .i64 ya, .int .i64 yb, .int .i64 yd, .string ys, .string yt, .slice la ln lc, .slice ma mn mc]] w (DPost A a t wb mv c left w)) := hfile
  obtain ⟨A0, a1, _, a3⟩ := assign A w.heap.size 0 (fun _ => False)
  have HA0 : Hid (∀ k, k < w.heap.size → A0 k = A k) := a1
  have HT1 : Hid (Turns (fun _ => False) w (w.alloc (.cells #[.int .i64 kd, .int .i64 ya, .int .i64 yb, .int .i64 yd, .string ys, .string yt, .slice la ln lc, .slice ma mn mc] 104))) := Turns.of_below _ ((Below.refl _ _).alloc (Nat.le_refl _) _)
  have HS1 : Hid (DiskSt A0 a t wb mv va vl ps L c left (w.alloc (.cells #[.int .i64 kd, .int .i64 ya, .int .i64 yb, .int .i64 yd, .string ys, .string yt, .slice la ln lc, .slice ma mn mc] 104))) := h.keep (Nat.le_refl _) a1 (by simp) (fun k hk => heapA_old w _ k hk)
  have HC : Hid ((w.alloc (.cells #[.int .i64 kd, .int .i64 ya, .int .i64 yb, .int .i64 yd, .string ys, .string yt, .slice la ln lc, .slice ma mn mc] 104)).heap[w.heap.size]? = some (.cells #[.int .i64 kd, .int .i64 ya, .int .i64 yb, .int .i64 yd, .string ys, .string yt, .slice la ln lc, .slice ma mn mc] 104 (0, 0))) := heapA_new _ _ _ rfl
  have k1 : ¬ kd = 1 := by omega
  have k2 : ¬ kd = 2 := by omega
  have k14 : ¬ kd = 14 := by omega
  have k15 : ¬ kd = 15 := by omega
  have k16 : ¬ kd = 16 := by omega
  have k17 : ¬ kd = 17 := by omega
  have k18 : ¬ kd = 18 := by omega
  clear h hfile a1 a3 hk
  obtain ⟨aa, ca, hva⟩ : ∃ aa ca, va = .slice aa ps.length ca := by
    obtain ⟨_, ⟨rfl, h0⟩ | ⟨g, cap, cur, rfl, _⟩⟩ := HS1.out.all
    · exact ⟨none, 0, by rw [h0]⟩
    · exact ⟨_, _, rfl⟩
  subst hva
  obtain ⟨W1, hW1⟩ : ∃ W1, W1 = w.alloc (.cells #[.int .i64 kd, .int .i64 ya, .int .i64 yb, .int .i64 yd, .string ys, .string yt, .slice la ln lc, .slice ma mn mc] 104) := ⟨_, rfl⟩
  rw [← hW1] at HT1 HS1 HC
  have o0 : W1.cell? ⟨w.heap.size, 0, none⟩ = some (.int .i64 kd) := by rw [cell_of_row _ _ _ _ _ _ HC.out]; rfl
  have o1 : W1.cell? ⟨w.heap.size, 1, none⟩ = some (.int .i64 ya) := by rw [cell_of_row _ _ _ _ _ _ HC.out]; rfl
  have o2 : W1.cell? ⟨w.heap.size, 2, none⟩ = some (.int .i64 yb) := by rw [cell_of_row _ _ _ _ _ _ HC.out]; rfl
  have o3 : W1.cell? ⟨w.heap.size, 3, none⟩ = some (.int .i64 yd) := by rw [cell_of_row _ _ _ _ _ _ HC.out]; rfl
  have o4 : W1.cell? ⟨w.heap.size, 4, none⟩ = some (.string ys) := by rw [cell_of_row _ _ _ _ _ _ HC.out]; rfl
  have o5 : W1.cell? ⟨w.heap.size, 5, none⟩ = some (.string yt) := by rw [cell_of_row _ _ _ _ _ _ HC.out]; rfl
  have o6 : W1.cell? ⟨w.heap.size, 6, none⟩ = some (.slice la ln lc) := by rw [cell_of_row _ _ _ _ _ _ HC.out]; rfl
  have o7 : W1.cell? ⟨w.heap.size, 7, none⟩ = some (.slice ma mn mc) := by rw [cell_of_row _ _ _ _ _ _ HC.out]; rfl
  have c1 : W1.cell? ⟨wb, 1, none⟩ = some (.slice aa ps.length ca) := by rw [cell_of_row _ _ _ _ _ _ HS1.out.row]; rfl
  have ca1 : (w.alloc (.cells #[.int .i64 kd, .int .i64 ya, .int .i64 yb, .int .i64 yd, .string ys, .string yt, .slice la ln lc, .slice ma mn mc] 104)).cell? ⟨wb, 1, none⟩ = some (.slice aa ps.length ca) := by rw [← hW1]; exact c1
  have hpl : ps.length ≤ 1048576 := by have := HS1.out.len.1; omega
  have n0 : (ps.length : Int) ≤ 1048576 := by omega
  go_enter Tryz.func56, Tryz.ntmps56
  by_cases hp0 : ps.length = 0
  · have hp1 : (ps.length : Int) = 0 := by omega
    have HX : Hid (DPost A a t wb mv c left w (.returned (.bool true)) W1) := DPost.of HA0.out HT1.out ⟨rfl, A0, _, _, ps, L, left, HS1.out.keep (Nat.le_succ c) (fun _ _ => rfl) (Nat.le_refl _) (fun _ _ => rfl), ⟨by omega, by omega⟩, fun _ _ => rfl, Turns.refl _ _⟩
    clear c1 o0 o1 o2 o3 o4 o5 o6 o7
    go_wp2
    go_ret
    rw [← hW1]
    exact HX.out
  · have hp1 : ¬ (ps.length : Int) = 0 := by omega
    have hp2 : 0 < ps.length := by omega
    obtain ⟨ab, hab⟩ : ∃ ab, aa = some ⟨ab, 0, none⟩ := by
      obtain ⟨_, ⟨e, h0⟩ | ⟨g, cap, cur, e, _⟩⟩ := HS1.out.all
      · omega
      · injection e with e1 _ _; exact ⟨g, e1⟩
    subst hab
    have hw0 : IntKind.i64.wrap ((ps.length : Int) - 1) = (ps.length : Int) - 1 := by rw [IntKind.wrap_i64]; omega
    go_wp2_with fail
    rw [← hW1]
    clear ca1 hW1
    go_region_held3 (fun w' => w' = W1.drew ∧ w'.cell? ⟨wb, 1, none⟩ = some (.slice (some ⟨ab, 0, none⟩) ps.length ca) ∧ w'.cell? ⟨w.heap.size, 3, none⟩ = some (.int .i64 yd)) (first | exact ⟨rfl, c1, o3⟩) (first | (go_at_call 88; refine (pick_any yd ps.length hp2 hpl hd _).mono ?_; rintro e w3 ⟨⟨k, hk, rfl⟩, rfl⟩; have hwk : IntKind.i64.wrap ((ps.length : Int) - 1 - (k : Int)) = ((ps.length - 1 - k : Nat) : Int) := (by rw [IntKind.wrap_i64]; omega); have hi0 : (0 : Int) ≤ ((ps.length - 1 - k : Nat) : Int) := (by omega); have hi1 : ((ps.length - 1 - k : Nat) : Int) < (ps.length : Int) := (by omega)))
    all_goals
      obtain ⟨m, hm⟩ : ∃ m, m = ps.length - 1 - k := ⟨_, rfl⟩
      rw [← hm]
      have hml : m < ps.length := by omega
      obtain ⟨⟨fb, gb⟩, hfg⟩ : ∃ x, ps[m]? = some x := ⟨ps[m]'hml, by simp⟩
      have hs2 : DiskSt A0 a t wb mv (.slice (some ⟨ab, 0, none⟩) ps.length ca) vl ps L c left W1.drew := HS1.out.keep (Nat.le_refl _) (fun _ _ => rfl) (Nat.le_refl _) (fun _ _ => rfl)
      obtain ⟨ab2, cap2, r, hv2, hfi⟩ := hs2.at m fb gb hfg
      injection hv2 with e1 e2 e3
      injection e1 with e1
      injection e1 with e1 _ _
      subst e1
      have HCALL : Hid (Calls Tryz.prog 90 #[.pointer (some ⟨wb, 0, none⟩), .pointer (some ⟨ab, m * 2, none⟩), .agg #[.int .i64 kd, .int .i64 ya, .int .i64 yb, .int .i64 yd, .string ys, .string yt, .slice la ln lc, .slice ma mn mc]] W1.drew (DPost A0 a t wb mv c left W1.drew)) := HFI.out A0 W1.drew m fb gb ab r hs2 hfg rfl hfi
      have HTD : Hid (Turns (fun _ => False) w W1.drew) := ⟨HT1.out.os, HT1.out.output, HT1.out.size, HT1.out.block⟩
      have r0 : W1.drew.cell? ⟨w.heap.size, 0, none⟩ = some (.int .i64 kd) := o0
      have r1 : W1.drew.cell? ⟨w.heap.size, 1, none⟩ = some (.int .i64 ya) := o1
      have r2 : W1.drew.cell? ⟨w.heap.size, 2, none⟩ = some (.int .i64 yb) := o2
      have r3 : W1.drew.cell? ⟨w.heap.size, 3, none⟩ = some (.int .i64 yd) := o3
      have r4 : W1.drew.cell? ⟨w.heap.size, 4, none⟩ = some (.string ys) := o4
      have r5 : W1.drew.cell? ⟨w.heap.size, 5, none⟩ = some (.string yt) := o5
      have r6 : W1.drew.cell? ⟨w.heap.size, 6, none⟩ = some (.slice la ln lc) := o6
      have r7 : W1.drew.cell? ⟨w.heap.size, 7, none⟩ = some (.slice ma mn mc) := o7
      clear hs2 hfi hfg e2 e3 hm hwk hi0 hi1 hk hw0 c1 o0 o1 o2 o3 o4 o5 o6 o7
      generalize W1.drew = W2 at *
      go_wp2_with fail
      refine HCALL.out.mono ?_
      intro e w5 hq
      have HX : Hid (DPost A a t wb mv c left w e w5) := DPost.of HA0.out HTD.out hq
      obtain rfl : e = .returned (.bool true) := hq.1
      clear hq
      go_wp2
      go_ret
      exact HX.out
end Go.Proofs.YthhbpebihgjpjaaGreatDoor

namespace Go.Proofs.YthhbpebihgjpjaaGreatDoor
open Go.RowKit Go.MuLone Go.Maps
set_option maxRecDepth 1000000

/-- As DPost, with what is left told. -/
def DPostE (A : Nat → Nat) (a : Nat → Addr) (t : Nat → ByteArray) (wb : Nat) (mv : Value) (c : Nat) (left : Int) (w : World) (e : Ending) (w' : World) : Prop :=
  e = .returned (.bool true) ∧ ∃ A' va' vl' ps' L', DiskSt A' a t wb mv va' vl' ps' L' (c + 1) left w' ∧ (∀ k, k < w.heap.size → A' k = A k) ∧ Turns (fun k => A k ≠ 0) w w'
theorem DiskSt.imaged {A : Nat → Nat} {a : Nat → Addr} {t : Nat → ByteArray} {wb : Nat} {mv va vl : Value} {ps : List (Nat × Nat)} {L : List (Value × Value)} {c : Nat} {left : Int} {w w' : World} {e : Ending} {r : RefD} {d : ProgD} (h : DiskSt A a t wb mv va vl ps L c left w) (i fb gb : Nat) (hi : ps[i]? = some (fb, gb)) (hI : Inv c r d) (hc : c < 1048576) (hp : ImagePost A wb i c fb gb mv va vl L left r d w e w') : DPostE A a t wb mv c left w e w' := by
  obtain ⟨he, vl', x, hr, hol, hx1, hx2, hli, ⟨A', a1, a2, a3, hpa, hri⟩, ht⟩ := hp
  have hkeep : ∀ k, k < w.heap.size → k ≠ wb → vl.ownBlock ≠ some k → A k ≠ 2 * i + 2 → w'.heap[k]? = w.heap[k]? := fun k hk h1 h2 h3 => ht.block k hk (by rintro (q | q | q); exact h3 q; exact h1 q; exact h2 q)
  have hnz : ∀ k, (A k = 2 * i + 2 ∨ k = wb ∨ vl.ownBlock = some k) → A k ≠ 0 := fun k q => by
    rcases q with q | q | q
    · omega
    · rw [q, h.own.1]; omega
    · rw [h.own.2.2 k q]; omega
  have hz : ∀ k, k < w.heap.size → A k = 0 → w'.heap[k]? = w.heap[k]? := fun k hk h0 => ht.block k hk (fun q => hnz k q h0)
  have hlen : (namesOf r.seen).length = r.seen.length := by simp [namesOf]
  have hwl := h.row.lt
  refine ⟨he, A', va, vl', ps, L ++ [x], ⟨h.env.keep ht.size a1 hz, hr, row_keep h.all (fun k hk => hkeep k (row_block h.all k hk).2 (fun q => h.ne.1 (by rw [hk, q])) (h.ne.2.2 k hk) (by rw [h.own.2.1 k hk]; omega)), hol, ⟨by rw [a1 _ hwl]; exact h.own.1, fun k hk => by rw [a1 _ (row_block h.all k hk).2]; exact h.own.2.1 k hk, fun k hk => ?_⟩, ⟨h.ne.1, fun q => ?_, fun k hk q => ?_⟩, fun y hy => ?_, fun j y hy => ?_, ⟨by have := h.len.1; omega, by have := h.len.2; simp; omega⟩⟩, a1, ht.mono hnz⟩
  · rcases Nat.lt_or_ge k w.heap.size with c1 | c1
    · rw [a1 k c1]
      rcases hli k hk with q | q
      · exact h.own.2.2 k q
      · omega
    · exact a2 k hk c1
  · rcases hli wb q with q2 | q2
    · exact h.ne.2.1 q2
    · omega
  · rcases hli k q with q2 | q2
    · exact h.ne.2.2 k hk q2
    · have := (row_block h.all k hk).2; omega
  · rcases List.mem_append.1 hy with hy | hy
    · exact (h.texts y hy).keep a1 hz
    · obtain rfl : y = x := by simpa using hy
      refine ⟨namesOf r.seen, by rw [hlen]; exact Nat.le_trans hI.seenLen (by omega), ?_, ?_, fun k hk => ?_⟩
      · rw [hlen]; exact irow_mono hx1 (Nat.zero_le _)
      · rw [hlen]; exact irow_mono hx2 (Nat.zero_le _)
      · exact a3 k hk
  · by_cases hj : j = i
    · subst hj
      obtain rfl : (fb, gb) = y := Option.some.inj (hi.symm.trans hy)
      exact ⟨r, d, hpa.keep (Nat.le_succ c) (fun _ _ => rfl) (fun _ _ _ => rfl), hri, hI.later (Nat.le_succ c)⟩
    · obtain ⟨r2, hr2⟩ := h.pairs j y hy
      exact ⟨r2, hr2.keep (Nat.le_succ c) a1 (fun k hk q => hkeep k hk (fun e => by rw [e, h.own.1] at q; omega) (fun e => by have := h.own.2.2 k e; omega) (by omega))⟩
end Go.Proofs.YthhbpebihgjpjaaGreatDoor
