import Derived.Test.YthhbpebihgjpjaaGreatDoorJ21
import Derived.Deep.QuietTactic
import Derived.BigQuiet
import Derived.Outline
import Derived.WalkLawsBesides
import Derived.Test.YthhbpebihgjpjaaGreatDoorJ19
import Derived.Test.YthhbpebihgjpjaaGreatDoorJ20
namespace Go.Proofs.YthhbpebihgjpjaaGreatDoor
open Go.RowKit Go.Extern.Stop Go.Stop Go.Extern
set_option maxRecDepth 100000

/-- The nine sentinels lie at nine places, and errors.errorType holds the handle of 'error'. -/
structure Sents (a : Nat → Addr) (t : Nat → ByteArray) (w : World) : Prop where
  cell : ∀ k, k < 9 → w.cell? ⟨k + 0, 0, none⟩ = some (.iface 472 (.pointer (some (a k))))
  row : ∀ k, k < 9 → ∃ c t, w.heap[(a k).block]? = some (.cells c t (0, 0))
  text : ∀ k, k < 9 → w.cell? (a k) = some (.string (t k))
  full : ∀ k, k < 9 → 1 ≤ (t k).size
  short : ∀ k, k < 9 → (t k).size ≤ 100
  ne : ∀ j k, j < 9 → k < 9 → a j = a k → j = k
  handle : w.cell? ⟨9, 0, none⟩ = some (.iface 276 (.agg #[.pointer (some ⟨14, 70, none⟩)]))

theorem size_of_cell {w : World} {p : Addr} {v : Value} (h : w.cell? p = some v) : p.block < w.heap.size := by
  rcases Nat.lt_or_ge p.block w.heap.size with g | g
  · exact g
  · simp [World.cell?, Array.getElem?_eq_none g] at h

theorem Sents.below {a : Nat → Addr} {t : Nat → ByteArray} {w w' : World} (h : Sents a t w) (hb : Below w.heap.size w w') : Sents a t w' where
  cell k hk := by rw [hb.cell (size_of_cell (h.cell k hk))]; exact h.cell k hk
  row k hk := by
    rw [hb.block _ (size_of_cell (h.text k hk))]; exact h.row k hk
  text k hk := by rw [hb.cell (size_of_cell (h.text k hk))]; exact h.text k hk
  full := h.full
  short := h.short
  ne := h.ne
  handle := by rw [hb.cell (size_of_cell h.handle)]; exact h.handle

theorem six_past (w : World) (p : Addr) (h : p.block < w.heap.size) (o1 o2 o3 o4 o5 o6 : Obj) : ((((((w.alloc o1).alloc o2).alloc o3).alloc o4).alloc o5).alloc o6).cell? p = w.cell? p := by
  rw [World.cell?_alloc_lt _ _ p (by simp; omega), World.cell?_alloc_lt _ _ p (by simp; omega), World.cell?_alloc_lt _ _ p (by simp; omega), World.cell?_alloc_lt _ _ p (by simp; omega), World.cell?_alloc_lt _ _ p (by simp; omega), World.cell?_alloc_lt _ _ p h]
/-- The cells of the list that number makes. -/
def nine (a : Nat → Addr) : Array Value := #[.iface 472 (.pointer (some (a 0))), .iface 472 (.pointer (some (a 1))), .iface 472 (.pointer (some (a 2))), .iface 472 (.pointer (some (a 3))), .iface 472 (.pointer (some (a 4))), .iface 472 (.pointer (some (a 5))), .iface 472 (.pointer (some (a 6))), .iface 472 (.pointer (some (a 7))), .iface 472 (.pointer (some (a 8)))]
theorem nine_at (a : Nat → Addr) (i : Nat) (hi : i < 9) : (nine a)[i]? = some (.iface 472 (.pointer (some (a i)))) := by
  match i, hi with
  | 0, _ => rfl
  | 1, _ => rfl
  | 2, _ => rfl
  | 3, _ => rfl
  | 4, _ => rfl
  | 5, _ => rfl
  | 6, _ => rfl
  | 7, _ => rfl
  | 8, _ => rfl
  | n + 9, h => exact absurd h (by omega)
theorem nine_cell (a : Nat → Addr) (w : World) (i : Nat) (hi : i < 9) : (w.alloc (.cells (nine a) 70)).cell? ⟨w.heap.size, i, none⟩ = some (.iface 472 (.pointer (some (a i)))) := by
  rw [World.cell?_alloc_at _ _ _ _ (by simp)]; exact nine_at a i hi

set_option maxHeartbeats 1000000 in
theorem number_sent (a : Nat → Addr) (t : Nat → ByteArray) (k : Nat) (hk : k < 9) (w : World) (hS : Sents a t w) :
    Calls Tryz.prog 43 #[.iface 472 (.pointer (some (a k)))] w fun e w' => e = .returned (.tuple #[.int .i64 (k + 1), .int .i64 (-1)]) ∧ Below w.heap.size w w' := by
  have c0 : w.cell? ⟨0, 0, none⟩ = _ := hS.cell 0 (by omega)
  have c1 : w.cell? ⟨1, 0, none⟩ = _ := hS.cell 1 (by omega)
  have c2 : w.cell? ⟨2, 0, none⟩ = _ := hS.cell 2 (by omega)
  have c3 : w.cell? ⟨3, 0, none⟩ = _ := hS.cell 3 (by omega)
  have c4 : w.cell? ⟨4, 0, none⟩ = _ := hS.cell 4 (by omega)
  have c5 : w.cell? ⟨5, 0, none⟩ = _ := hS.cell 5 (by omega)
  have c6 : w.cell? ⟨6, 0, none⟩ = _ := hS.cell 6 (by omega)
  have c7 : w.cell? ⟨7, 0, none⟩ = _ := hS.cell 7 (by omega)
  have c8 : w.cell? ⟨8, 0, none⟩ = _ := hS.cell 8 (by omega)
  have hb1 : Below w.heap.size w (w.alloc (.cells (nine a) 70)) := (Below.refl _ _).alloc (Nat.le_refl _) _
  have hS1 := hS.below hb1
  have hn := nine_cell a w
  have H1 : Hid (∀ i, i < 9 → (w.alloc (.cells (nine a) 70)).cell? ⟨w.heap.size, i, none⟩ = some (.iface 472 (.pointer (some (a i))))) := hn
  clear hn
  go_enter Tryz.func43, Tryz.ntmps43
  go_wp2
  clear c0 c1 c2 c3 c4 c5 c6 c7 c8
  rw [show (#[Value.iface 472 (Value.pointer (some (a 0))), Value.iface 472 (Value.pointer (some (a 1))), Value.iface 472 (Value.pointer (some (a 2))), Value.iface 472 (Value.pointer (some (a 3))), Value.iface 472 (Value.pointer (some (a 4))), Value.iface 472 (Value.pointer (some (a 5))), Value.iface 472 (Value.pointer (some (a 6))), Value.iface 472 (Value.pointer (some (a 7))), Value.iface 472 (Value.pointer (some (a 8)))] : Array Value) = nine a from rfl]
  go_loop [4, 21] (fun n i => ∃ j : Nat, j ≤ 9 ∧ i = .int .i64 j ∧ ((j ≤ k ∧ n = .int .i64 0) ∨ (k < j ∧ n = .int .i64 (k + 1)))) (fun _ i => 9 - (intOf i).toNat)
  case atStart => exact ⟨0, by omega, rfl, Or.inl ⟨by omega, rfl⟩⟩
  case round =>
    obtain ⟨j, hj, rfl, hn⟩ := hrel
    by_cases hlt : j < 9
    · have hcj := H1.out j hlt
      by_cases hjk : j = k
      · subst hjk
        rcases hn with ⟨_, rfl⟩ | ⟨h, _⟩
        · go_wp2_with (go_at_call 63; refine (is_same _ _).mono ?_; rintro e w' ⟨rfl, rfl⟩)
          go_round
          case rel => exact ⟨j + 1, by omega, by go_num, Or.inr ⟨by omega, rfl⟩⟩
          case measure => simp [intOf]; omega
        · omega
      · have hne : a k ≠ a j := fun e => hjk (hS.ne k j hk hlt e).symm
        obtain ⟨ca, ta, ha⟩ := hS1.row k hk
        obtain ⟨cb, tb, hb⟩ := hS1.row j hlt
        have HA : Hid (Calls Tryz.prog 63 #[.iface 472 (.pointer (some (a k))), .iface 472 (.pointer (some (a j)))] (w.alloc (.cells (nine a) 70)) fun e w' => e = .returned (.bool false) ∧ w' = (w.alloc (.cells (nine a) 70))) := is_other _ _ _ _ _ _ _ hne ha hb
        clear ha hb hne
        rcases hn with ⟨hle, rfl⟩ | ⟨hgt, rfl⟩
        · go_wp2_with (go_at_call 63; refine HA.out.mono ?_; rintro e w' ⟨rfl, rfl⟩)
          go_round
          case rel => exact ⟨j + 1, by omega, by go_num, Or.inl ⟨by omega, rfl⟩⟩
          case measure => simp [intOf]; omega
        · go_wp2_with (go_at_call 63; refine HA.out.mono ?_; rintro e w' ⟨rfl, rfl⟩)
          go_round
          case rel => exact ⟨j + 1, by omega, by go_num, Or.inr ⟨by omega, rfl⟩⟩
          case measure => simp [intOf]; omega
    · have hj9 : j = 9 := by omega
      subst hj9
      rcases hn with ⟨h, _⟩ | ⟨hgt, rfl⟩
      · omega
      · have hz : (((k : Int) + 1) == 0) = false := beq_eq_false_iff_ne.2 (by omega)
        have hgl := (hS1.below ((Below.refl _ _).alloc (Nat.le_refl _) (.cells #[.pointer none] 129))).handle
        go_wp2_with (go_at_call 64; refine (as_miss _ _ _ hgl).mono ?_; rintro e w' ⟨rfl, rfl⟩)
        go_ret2
        refine ⟨rfl, ?_⟩
        refine Below.alloc (Below.alloc (Below.alloc (Below.alloc hb1 ?_ _) ?_ _) ?_ _) ?_ _ <;> (simp <;> omega)
set_option maxHeartbeats 1000000 in
theorem number_fault (a : Nat → Addr) (t : Nat → ByteArray) (k : Nat) (hk : k < 9) (pb po : Nat) {z : Int} (w : World) (hS : Sents a t w) (hp0 : w.cell? ⟨pb, po, none⟩ = some (.int .i64 z)) (hp1 : w.cell? ⟨pb, po + 1, none⟩ = some (.iface 472 (.pointer (some (a k))))) :
    Calls Tryz.prog 43 #[.iface 129 (.pointer (some ⟨pb, po, none⟩))] w fun e w' => e = .returned (.tuple #[.int .i64 (k + 1), .int .i64 z]) ∧ Below w.heap.size w w' := by
  have c0 : w.cell? ⟨0, 0, none⟩ = _ := hS.cell 0 (by omega)
  have c1 : w.cell? ⟨1, 0, none⟩ = _ := hS.cell 1 (by omega)
  have c2 : w.cell? ⟨2, 0, none⟩ = _ := hS.cell 2 (by omega)
  have c3 : w.cell? ⟨3, 0, none⟩ = _ := hS.cell 3 (by omega)
  have c4 : w.cell? ⟨4, 0, none⟩ = _ := hS.cell 4 (by omega)
  have c5 : w.cell? ⟨5, 0, none⟩ = _ := hS.cell 5 (by omega)
  have c6 : w.cell? ⟨6, 0, none⟩ = _ := hS.cell 6 (by omega)
  have c7 : w.cell? ⟨7, 0, none⟩ = _ := hS.cell 7 (by omega)
  have c8 : w.cell? ⟨8, 0, none⟩ = _ := hS.cell 8 (by omega)
  have hb1 : Below w.heap.size w (w.alloc (.cells (nine a) 70)) := (Below.refl _ _).alloc (Nat.le_refl _) _
  have hS1 := hS.below hb1
  have HP0 : Hid ((w.alloc (.cells (nine a) 70)).cell? ⟨pb, po, none⟩ = some (.int .i64 z)) := by show _ = _; rw [hb1.cell (size_of_cell hp0)]; exact hp0
  have HP1 : Hid ((w.alloc (.cells (nine a) 70)).cell? ⟨pb, po + 1, none⟩ = some (.iface 472 (.pointer (some (a k))))) := by show _ = _; rw [hb1.cell (size_of_cell hp1)]; exact hp1
  have hpl : pb < w.heap.size := size_of_cell hp0
  have HQ : Hid (∀ o1 o2 o3 o4 o5 o6 : Obj, ((((((w.alloc o1).alloc o2).alloc o3).alloc o4).alloc o5).alloc o6).cell? ⟨pb, po, none⟩ = some (.int .i64 z)) := by
    intro o1 o2 o3 o4 o5 o6
    rw [six_past w ⟨pb, po, none⟩ hpl]; exact hp0
  clear hp0 hp1
  have hn := nine_cell a w
  have H1 : Hid (∀ i, i < 9 → (w.alloc (.cells (nine a) 70)).cell? ⟨w.heap.size, i, none⟩ = some (.iface 472 (.pointer (some (a i))))) := hn
  clear hn
  go_enter Tryz.func43, Tryz.ntmps43
  go_wp2
  clear c0 c1 c2 c3 c4 c5 c6 c7 c8
  rw [show (#[Value.iface 472 (Value.pointer (some (a 0))), Value.iface 472 (Value.pointer (some (a 1))), Value.iface 472 (Value.pointer (some (a 2))), Value.iface 472 (Value.pointer (some (a 3))), Value.iface 472 (Value.pointer (some (a 4))), Value.iface 472 (Value.pointer (some (a 5))), Value.iface 472 (Value.pointer (some (a 6))), Value.iface 472 (Value.pointer (some (a 7))), Value.iface 472 (Value.pointer (some (a 8)))] : Array Value) = nine a from rfl]
  go_loop [4, 21] (fun n i => ∃ j : Nat, j ≤ 9 ∧ i = .int .i64 j ∧ ((j ≤ k ∧ n = .int .i64 0) ∨ (k < j ∧ n = .int .i64 (k + 1)))) (fun _ i => 9 - (intOf i).toNat)
  case atStart => exact ⟨0, by omega, rfl, Or.inl ⟨by omega, rfl⟩⟩
  case round =>
    obtain ⟨j, hj, rfl, hn⟩ := hrel
    by_cases hlt : j < 9
    · have hcj := H1.out j hlt
      by_cases hjk : j = k
      · subst hjk
        rcases hn with ⟨_, rfl⟩ | ⟨h, _⟩
        · go_wp2_with (go_at_call 63; refine (is_wrap_same _ _ _ _ HP1.out).mono ?_; rintro e w' ⟨rfl, rfl⟩)
          go_round
          case rel => exact ⟨j + 1, by omega, by go_num, Or.inr ⟨by omega, rfl⟩⟩
          case measure => simp [intOf]; omega
        · omega
      · have hne : a k ≠ a j := fun e => hjk (hS.ne k j hk hlt e).symm
        obtain ⟨ca, ta, ha⟩ := hS1.row k hk
        obtain ⟨cb, tb, hb⟩ := hS1.row j hlt
        have HA : Hid (Calls Tryz.prog 63 #[.iface 129 (.pointer (some ⟨pb, po, none⟩)), .iface 472 (.pointer (some (a j)))] (w.alloc (.cells (nine a) 70)) fun e w' => e = .returned (.bool false) ∧ w' = (w.alloc (.cells (nine a) 70))) := is_wrap_other _ _ _ _ _ _ _ _ _ HP1.out hne ha hb
        clear ha hb hne
        rcases hn with ⟨hle, rfl⟩ | ⟨hgt, rfl⟩
        · go_wp2_with (go_at_call 63; refine HA.out.mono ?_; rintro e w' ⟨rfl, rfl⟩)
          go_round
          case rel => exact ⟨j + 1, by omega, by go_num, Or.inl ⟨by omega, rfl⟩⟩
          case measure => simp [intOf]; omega
        · go_wp2_with (go_at_call 63; refine HA.out.mono ?_; rintro e w' ⟨rfl, rfl⟩)
          go_round
          case rel => exact ⟨j + 1, by omega, by go_num, Or.inr ⟨by omega, rfl⟩⟩
          case measure => simp [intOf]; omega
    · have hj9 : j = 9 := by omega
      subst hj9
      rcases hn with ⟨h, _⟩ | ⟨hgt, rfl⟩
      · omega
      · have hz : (((k : Int) + 1) == 0) = false := beq_eq_false_iff_ne.2 (by omega)
        have hgl := (hS1.below ((Below.refl _ _).alloc (Nat.le_refl _) (.cells #[.pointer none] 129))).handle
        have htA : ((w.alloc (.cells (nine a) 70)).alloc (.cells #[.pointer none] 129)).cell? ⟨w.heap.size + 1, 0, none⟩ = some (.pointer none) := by simp
        have hfA : ((w.alloc (.cells (nine a) 70)).alloc (.cells #[.pointer none] 129)).frozen? ⟨w.heap.size + 1, 0, none⟩ = false := by simp
        go_wp2_with (go_at_call 64; refine (as_hit _ _ (.pointer none) _ hgl htA hfA).mono ?_; rintro e w' ⟨rfl, rfl⟩)
        have hq := HQ.out
        go_quiet (fail)
        go_wp2
        go_ret2
        refine ⟨rfl, ?_⟩
        refine below_drewN ?_ _
        refine Below.alloc (Below.alloc (Below.alloc (Below.alloc (Below.alloc hb1 ?_ _) ?_ _) ?_ _) ?_ _) ?_ _ <;> (simp <;> omega)
end Go.Proofs.YthhbpebihgjpjaaGreatDoor

namespace Go.Proofs.YthhbpebihgjpjaaGreatDoor
open Go.RowKit Go.MuLone Go.Maps
set_option maxRecDepth 1000000

/-- The program's files, with whose blocks are whose: 'id' the owner of what they write; 0 what nobody writes. -/
def ProgAt (A : Nat → Nat) (id c fb : Nat) (d : ProgD) (r : RefD) (w : World) : Prop :=
  ∃ nb sb n m sv S, ProgRow w fb d 0 nb sb sv ∧ MapAt w nb n r.seen ∧ MapAt w sb m r.safe ∧ OwnS sv S w ∧ S.length = r.wait.length ∧
    (∀ j k, S[j]? = some k → KeptTie fb (waitAt r.wait j) w k ∧ ∀ b, BoxOf k b → A b = 0) ∧ n ≤ c ∧ m + r.wait.length ≤ c ∧
    (fb ≠ nb ∧ fb ≠ sb ∧ nb ≠ sb ∧ sv.ownBlock ≠ some fb ∧ sv.ownBlock ≠ some nb ∧ sv.ownBlock ≠ some sb) ∧
    (A fb = id ∧ A nb = id ∧ A sb = id ∧ ∀ k, sv.ownBlock = some k → A k = id) ∧ 14 ≤ fb
theorem ProgAt.keep {A A' : Nat → Nat} {id c c' fb : Nat} {d : ProgD} {r : RefD} {w w' : World} (h : ProgAt A id c fb d r w) (hc : c ≤ c') (hA : ∀ k, k < w.heap.size → A' k = A k) (hb : ∀ k, k < w.heap.size → (A k = id ∨ A k = 0) → w'.heap[k]? = w.heap[k]?) : ProgAt A' id c' fb d r w' := by
  obtain ⟨nb, sb, n, m, sv, S, h1, h2, h3, h4, h5, h6, h7, h8, h9, h10, h11⟩ := h
  refine ⟨nb, sb, n, m, sv, S, (hb fb h1.lt (Or.inl h10.1)).trans h1, h2.keep (hb nb h2.lt (Or.inl h10.2.1)), h3.keep (hb sb h3.lt (Or.inl h10.2.2.1)), h4.keep (fun k hk => hb k (h4.lt k hk) (Or.inl (h10.2.2.2 k hk))), h5, fun j k hk => ?_, by omega, by omega, h9, ⟨by rw [hA _ h1.lt]; exact h10.1, by rw [hA _ h2.lt]; exact h10.2.1, by rw [hA _ h3.lt]; exact h10.2.2.1, fun k hk => by rw [hA _ (h4.lt k hk)]; exact h10.2.2.2 k hk⟩, h11⟩
  obtain ⟨a, b⟩ := h6 j k hk
  exact ⟨a.keep (fun x hx => hb x (a.box_lt x hx) (Or.inr (b x hx))), fun x hx => by rw [hA _ (a.box_lt x hx)]; exact b x hx⟩
/-- What all calls lean on: the nine reasons, and what nobody writes. -/
structure EnvAt (A : Nat → Nat) (a : Nat → Addr) (t : Nat → ByteArray) (w : World) : Prop where
  sents : Sents a t w
  zero : ∀ k, k < 14 → A k = 0
  errs : ∀ k, k < 9 → A (a k).block = 0
  glob : 14 ≤ w.heap.size
theorem Sents.keep {a : Nat → Addr} {t : Nat → ByteArray} {w w' : World} (h : Sents a t w) (hg : ∀ k, k < 14 → w'.heap[k]? = w.heap[k]?) (he : ∀ k, k < 9 → w'.heap[(a k).block]? = w.heap[(a k).block]?) : Sents a t w' where
  cell k hk := by rw [World.cell?_of_block (w := w) (hg _ (by simp only; omega))]; exact h.cell k hk
  row k hk := by rw [he k hk]; exact h.row k hk
  text k hk := by rw [World.cell?_of_block (w := w) (he k hk)]; exact h.text k hk
  full := h.full
  short := h.short
  ne := h.ne
  handle := by rw [World.cell?_of_block (w := w) (hg _ (by decide))]; exact h.handle
theorem EnvAt.keep {A A' : Nat → Nat} {a : Nat → Addr} {t : Nat → ByteArray} {w w' : World} (h : EnvAt A a t w) (hs : w.heap.size ≤ w'.heap.size) (hA : ∀ k, k < w.heap.size → A' k = A k) (hb : ∀ k, k < w.heap.size → A k = 0 → w'.heap[k]? = w.heap[k]?) : EnvAt A' a t w' where
  sents := h.sents.keep (fun k hk => hb k (Nat.lt_of_lt_of_le hk h.glob) (h.zero k hk)) (fun k hk => hb _ (size_of_cell (h.sents.text k hk)) (h.errs k hk))
  zero k hk := by rw [hA k (Nat.lt_of_lt_of_le hk h.glob)]; exact h.zero k hk
  errs k hk := by rw [hA _ (size_of_cell (h.sents.text k hk))]; exact h.errs k hk
  glob := Nat.le_trans h.glob hs
/-- The reason of number k, as an error's value. -/
def errV (a : Nat → Addr) (k : Nat) : Value := .iface 472 (.pointer (some (a k)))
theorem EnvAt.errsAt {A : Nat → Nat} {a : Nat → Addr} {t : Nat → ByteArray} {w : World} (h : EnvAt A a t w) : ErrsAt w (errV a 0) (errV a 1) (errV a 2) (errV a 3) :=
  ⟨h.sents.cell 0 (by decide), h.sents.cell 1 (by decide), h.sents.cell 2 (by decide), h.sents.cell 3 (by decide)⟩
/-- The number that an error's value has. -/
def NumOf (a : Nat → Addr) (v : Value) (n : Int) : Prop := (v = .nilIface ∧ n = 0) ∨ ∃ k : Nat, k < 9 ∧ v = errV a k ∧ n = (k : Int) + 1

set_option maxHeartbeats 2000000 in
theorem number_nil (w : World) : Calls Tryz.prog 43 #[.nilIface] w fun e w' => e = .returned (.tuple #[.int .i64 0, .int .i64 (-1)]) ∧ Below w.heap.size w w' := by
  have HB : Hid (Below w.heap.size w w) := Below.refl _ _
  go_enter Tryz.func43, Tryz.ntmps43
  go_wp2
  go_ret2
  exact ⟨rfl, HB.out⟩
theorem number_of {a : Nat → Addr} {t : Nat → ByteArray} {v : Value} {n : Int} (h : NumOf a v n) (w : World) (hS : Sents a t w) : Calls Tryz.prog 43 #[v] w fun e w' => e = .returned (.tuple #[.int .i64 n, .int .i64 (-1)]) ∧ Below w.heap.size w w' := by
  rcases h with ⟨rfl, rfl⟩ | ⟨k, hk, rfl, rfl⟩
  · exact number_nil w
  · exact number_sent a t k hk w hS

/-- New blocks are given away. -/
theorem assign (A : Nat → Nat) (B id : Nat) (F : Nat → Prop) : ∃ A' : Nat → Nat, (∀ b, b < B → A' b = A b) ∧ (∀ b, B ≤ b → F b → A' b = id) ∧ (∀ b, B ≤ b → ¬ F b → A' b = 0) := by
  classical
  refine ⟨fun b => if b < B then A b else if F b then id else 0, fun b hb => ?_, fun b hb hf => ?_, fun b hb hf => ?_⟩
  · simp only; rw [if_pos hb]
  · simp only; rw [if_neg (by omega), if_pos hf]
  · simp only; rw [if_neg (by omega), if_neg hf]
/-- What a call on the program's files leaves, where the document's answer is q. -/
def PStep (A : Nat → Nat) (a : Nat → Addr) (id c fb : Nat) (q : Int × RefD) (w : World) (e : Ending) (w' : World) : Prop :=
  ∃ v d' A', e = .returned v ∧ NumOf a v q.1 ∧ ProgAt A' id (c + 1) fb d' q.2 w' ∧ Inv (c + 1) q.2 d' ∧ (∀ k, k < w.heap.size → A' k = A k) ∧ Turns (fun k => A k = id) w w'
theorem op_pstep {A : Nat → Nat} {a : Nat → Addr} {id c fb : Nat} {d : ProgD} {r : RefD} {w : World} {nb sb n m : Nat} {sv : Value} {S : List KeptV} {o : WaitV} {no : Option Value} {q : Int × RefD} {e : Ending} {w' : World}
    (hid : id ≠ 0) (hI : Inv c r d) (h1 : ProgRow w fb d 0 nb sb sv) (h2 : MapAt w nb n r.seen) (h3 : MapAt w sb m r.safe) (h5 : S.length = r.wait.length)
    (h6 : ∀ j k, S[j]? = some k → KeptTie fb (waitAt r.wait j) w k ∧ ∀ b, BoxOf k b → A b = 0) (h7 : n ≤ c) (h8 : m + r.wait.length ≤ c)
    (h9 : fb ≠ nb ∧ fb ≠ sb ∧ nb ≠ sb ∧ sv.ownBlock ≠ some fb ∧ sv.ownBlock ≠ some nb ∧ sv.ownBlock ≠ some sb) (h10 : A fb = id ∧ A nb = id ∧ A sb = id ∧ ∀ k, sv.ownBlock = some k → A k = id) (h11 : 14 ≤ fb)
    (hno : (∃ v, no = some v ∧ NumOf a v q.1 ∧ q.2 = r) ∨ (no = none ∧ q = doD r o ∧ WaitOk r.seen o ∧ totalBytes (applyL r.seen o) ≤ 65536))
    (hp : OpPost no (errV a 3) r.seen o S d fb nb sb n sv w e w') : PStep A a id c fb q w e w' := by
  obtain ⟨ht, hp⟩ := hp
  have hF : ∀ k, (k = fb ∨ k = nb ∨ sv.ownBlock = some k) → A k = id := by
    rintro k (e | e | e)
    · rw [e]; exact h10.1
    · rw [e]; exact h10.2.1
    · exact h10.2.2.2 k e
  have hT : Turns (fun k => A k = id) w w' := ht.mono hF
  have hsb : w'.heap[sb]? = w.heap[sb]? := ht.block sb h3.lt (by
    rintro (e | e | e)
    · exact h9.2.1 e.symm
    · exact h9.2.2.1 e.symm
    · exact h9.2.2.2.2.2 e)
  have htie : ∀ j k, S[j]? = some k → KeptTie fb (waitAt r.wait j) w' k ∧ ∀ b, BoxOf k b → A b = 0 := fun j k hk => by
    obtain ⟨x, y⟩ := h6 j k hk
    exact ⟨x.keep (fun b hb => ht.block b (x.box_lt b hb) (fun e => hid ((hF b e).symm.trans (y b hb)))), y⟩
  rcases hp with ⟨v, hv, rfl, hr, hm, ho⟩ | ⟨hn, hd, rfl, hr, hm, ho⟩ | ⟨hn, hd, rfl, sv', k, hr, hm, ho, hk, hx, hl⟩
  · rcases hno with ⟨v', hv', hnum, hq⟩ | ⟨hv', _⟩
    · obtain rfl : v = v' := Option.some.inj (hv.symm.trans hv')
      exact ⟨v, d, A, rfl, hnum, by rw [hq]; exact ⟨nb, sb, n, m, sv, S, hr, hm, h3.keep hsb, ho, h5, htie, by omega, by omega, h9, h10, h11⟩, by rw [hq]; exact hI.later (Nat.le_succ c), fun _ _ => rfl, hT⟩
    · rw [hv] at hv'; cases hv'
  · rcases hno with ⟨v', hv', _⟩ | ⟨_, hq, hw, htot⟩
    · rw [hn] at hv'; cases hv'
    rcases hI.do o hw htot with ⟨_, e2, hI2⟩ | ⟨e1, _⟩
    · rw [hq, e2]
      exact ⟨errV a 3, burnD d, A, rfl, Or.inr ⟨3, by decide, rfl, rfl⟩, ⟨nb, sb, n, m, sv, S, hr, by rw [mayD_seen]; exact hm, by rw [mayD_safe]; exact h3.keep hsb, ho, by rw [mayD_wait]; exact h5, by rw [mayD_wait]; exact htie, by omega, by rw [mayD_wait]; omega, h9, h10, h11⟩, hI2, fun _ _ => rfl, hT⟩
    · rw [hd] at e1; cases e1
  · rcases hno with ⟨v', hv', _⟩ | ⟨_, hq, hw, htot⟩
    · rw [hn] at hv'; cases hv'
    rcases hI.do o hw htot with ⟨e1, _⟩ | ⟨_, e2, e3, e4, e5, hI2⟩
    · rw [hd] at e1; cases e1
    rw [hq]
    have hlt : ∀ k, sv'.ownBlock = some k → sv.ownBlock = some k ∨ w.heap.size ≤ k := hl
    obtain ⟨A', a1, a2, a3⟩ := assign A w.heap.size id (fun b => sv'.ownBlock = some b)
    refine ⟨.nilIface, burnD d, A', rfl, Or.inl ⟨rfl, e2⟩, ⟨nb, sb, n + 1, m, sv', S ++ [k], hr, by rw [e3]; exact hm, by rw [e5]; exact h3.keep hsb, ho, by rw [e4]; simp [h5], ?_, by omega, by rw [e4]; simp; omega, ⟨h9.1, h9.2.1, h9.2.2.1, ?_, ?_, ?_⟩, ⟨by rw [a1 _ h1.lt]; exact h10.1, by rw [a1 _ h2.lt]; exact h10.2.1, by rw [a1 _ h3.lt]; exact h10.2.2.1, ?_⟩, h11⟩, hI2, a1, hT⟩
    · intro j y hy
      rw [e4]
      rcases Nat.lt_or_ge j S.length with c1 | c1
      · rw [List.getElem?_append_left c1] at hy
        obtain ⟨x1, x2⟩ := htie j y hy
        have : waitAt (r.wait ++ [o]) j = waitAt r.wait j := by rw [waitAt, waitAt, List.getElem?_append_left (by omega)]
        rw [this]
        refine ⟨x1, fun b hb => ?_⟩
        rw [a1 _ ((h6 j y hy).1.box_lt b hb)]; exact x2 b hb
      · have hj : j = S.length := by
          have := (List.getElem?_eq_some_iff.1 hy).1
          simp at this; omega
        subst hj
        have hyk : k = y := by simpa using hy
        subst hyk
        have : waitAt (r.wait ++ [o]) S.length = o := by rw [waitAt, h5]; simp
        rw [this]
        refine ⟨hk, fun b hb => ?_⟩
        have := hx b hb
        exact a3 b this.1 this.2
    · intro e; rcases hlt _ e with x | x
      · exact h9.2.2.2.1 x
      · have := h1.lt; omega
    · intro e; rcases hlt _ e with x | x
      · exact h9.2.2.2.2.1 x
      · have := h2.lt; omega
    · intro e; rcases hlt _ e with x | x
      · exact h9.2.2.2.2.2 x
      · have := h3.lt; omega
    · intro b hb
      by_cases c1 : b < w.heap.size
      · rw [a1 b c1]
        rcases hlt b hb with x | x
        · exact h10.2.2.2 b x
        · omega
      · exact a2 b (by omega) hb
end Go.Proofs.YthhbpebihgjpjaaGreatDoor
