import Derived.Test.YthhbpebihgjpjaaGreatDoorJ05
namespace Go.Proofs.YthhbpebihgjpjaaGreatDoor
open Go.RowKit
set_option maxRecDepth 1000000

/-- The list of what waits, in a row of its own. -/
def wcells (l : List WaitV) : List Value := l.flatMap fun x => [.int .i64 x.kind, .string x.name, .string x.data]
theorem wcells_append (l r : List WaitV) : wcells (l ++ r) = wcells l ++ wcells r := by simp [wcells]
structure OwnW (base : Nat) (v : Value) (l : List WaitV) (w : World) : Prop where
  own : w.ownsRow base 365 3 v l.length (wcells l)
theorem OwnW.nil (base : Nat) (w : World) : OwnW base (.slice none 0 0) [] w := ⟨⟨rfl, Or.inl ⟨rfl, rfl⟩⟩⟩
theorem OwnW.form {base : Nat} {v : Value} {l : List WaitV} {w : World} (h : OwnW base v l w) : ∃ ao cap, v = .slice ao l.length cap := by
  obtain ⟨_, ⟨rfl, h0⟩ | ⟨g, cap, cur, rfl, _⟩⟩ := h.own
  · exact ⟨none, 0, by rw [h0]⟩
  · exact ⟨_, _, rfl⟩
theorem OwnW.keep {base : Nat} {v : Value} {l : List WaitV} {w w' : World} (h : OwnW base v l w) (hb : ∀ k, v.ownBlock = some k → w'.heap[k]? = w.heap[k]?) : OwnW base v l w' := by
  obtain ⟨h1, ⟨rfl, h0⟩ | ⟨g, cap, cur, rfl, hg, hh, r⟩⟩ := h.own
  · exact ⟨⟨h1, Or.inl ⟨rfl, h0⟩⟩⟩
  · exact ⟨⟨h1, Or.inr ⟨g, cap, cur, rfl, hg, by rw [hb g rfl]; exact hh, r⟩⟩⟩
theorem OwnW.lt {base : Nat} {v : Value} {l : List WaitV} {w : World} (h : OwnW base v l w) (k : Nat) (hk : v.ownBlock = some k) : k < w.heap.size := by
  obtain ⟨h1, ⟨rfl, h0⟩ | ⟨g, cap, cur, rfl, hg, hh, r⟩⟩ := h.own
  · cases hk
  · have e : g = k := Option.some.inj hk
    subst e
    rcases Nat.lt_or_ge g w.heap.size with c | c
    · exact c
    · rw [Array.getElem?_eq_none c] at hh; cases hh
theorem Own2.keep {base : Nat} {v : Value} {l : List FileV} {w w' : World} (h : Own2 base v l w) (hb : ∀ k, v.ownBlock = some k → w'.heap[k]? = w.heap[k]?) : Own2 base v l w' := by
  obtain ⟨h1, ⟨rfl, h0⟩ | ⟨g, cap, cur, rfl, hg, hh, r⟩⟩ := h.own
  · exact ⟨⟨h1, Or.inl ⟨rfl, h0⟩⟩⟩
  · exact ⟨⟨h1, Or.inr ⟨g, cap, cur, rfl, hg, by rw [hb g rfl]; exact hh, r⟩⟩⟩
theorem Own2.lt {base : Nat} {v : Value} {l : List FileV} {w : World} (h : Own2 base v l w) (k : Nat) (hk : v.ownBlock = some k) : k < w.heap.size := by
  obtain ⟨h1, ⟨rfl, h0⟩ | ⟨g, cap, cur, rfl, hg, hh, r⟩⟩ := h.own
  · cases hk
  · have e : g = k := Option.some.inj hk
    subst e
    rcases Nat.lt_or_ge g w.heap.size with c | c
    · exact c
    · rw [Array.getElem?_eq_none c] at hh; cases hh

/-- The document's files, as they stand. -/
structure RefD where
  safe : List FileV
  seen : List FileV
  room : Int
  wait : List WaitV
  left : Int
  lit : Bool
  down : Bool
def RefD.row (d : RefD) (vs vn vw : Value) : Array Value := #[vs, vn, .int .i64 d.room, vw, .int .i64 d.left, .bool d.lit, .bool d.down]
/-- .. and where they lie. -/
structure RefAt (w : World) (fb : Nat) (d : RefD) (vs vn vw : Value) : Prop where
  row : w.heap[fb]? = some (.cells (d.row vs vn vw) 226 (0, 0))
  safe : Own2 0 vs d.safe w
  seen : Own2 0 vn d.seen w
  wait : OwnW 0 vw d.wait w
  ne : vs.ownBlock ≠ some fb ∧ vn.ownBlock ≠ some fb ∧ vw.ownBlock ≠ some fb
  apart : ∀ k, (vs.ownBlock = some k → vn.ownBlock ≠ some k ∧ vw.ownBlock ≠ some k) ∧ (vn.ownBlock = some k → vw.ownBlock ≠ some k)
def RefFoot (fb : Nat) (vs vn vw : Value) (k : Nat) : Prop := k = fb ∨ vs.ownBlock = some k ∨ vn.ownBlock = some k ∨ vw.ownBlock = some k
/-- Nothing but these blocks, and new ones, has turned. -/
structure Turns (F : Nat → Prop) (w w' : World) : Prop where
  os : w'.os = w.os
  output : w'.output = w.output
  size : w.heap.size ≤ w'.heap.size
  block : ∀ k, k < w.heap.size → ¬ F k → w'.heap[k]? = w.heap[k]?
theorem Turns.refl (F : Nat → Prop) (w : World) : Turns F w w := ⟨rfl, rfl, Nat.le_refl _, fun _ _ _ => rfl⟩
theorem Turns.mono {F G : Nat → Prop} {w w' : World} (h : Turns F w w') (hg : ∀ k, F k → G k) : Turns G w w' := ⟨h.os, h.output, h.size, fun k hk hn => h.block k hk (fun hf => hn (hg k hf))⟩
theorem Turns.trans {F G : Nat → Prop} {a b c : World} (h : Turns F a b) (k : Turns G b c) (hg : ∀ i, G i → F i ∨ a.heap.size ≤ i) : Turns F a c :=
  ⟨k.os.trans h.os, k.output.trans h.output, Nat.le_trans h.size k.size, fun i hi hn => (k.block i (Nat.lt_of_lt_of_le hi h.size) (fun hgi => by rcases hg i hgi with e | e; exact hn e; omega)).trans (h.block i hi hn)⟩
theorem Turns.of_grown {w w' : World} {row : Option Nat} (h : w.grownBy w' row) : Turns (fun k => row = some k) w w' := ⟨h.os, h.output, h.size, fun k hk hn => h.block k hk (fun e => hn e.symm)⟩
theorem Turns.of_below {w w' : World} (F : Nat → Prop) (h : Below w.heap.size w w') : Turns F w w' := ⟨h.os, h.output, h.size, fun k hk _ => h.block k hk⟩
theorem Turns.setCell {F : Nat → Prop} {w w' : World} (h : Turns F w w') (p : Addr) (v : Value) (hp : F p.block ∨ w.heap.size ≤ p.block) : Turns F w (w'.setCell p v) :=
  ⟨h.os, h.output, by simpa [World.setCell] using h.size, fun k hk hn => by
    rw [heap_setCell_other _ _ _ _ (by rintro rfl; rcases hp with e | e; exact hn e; omega)]; exact h.block k hk hn⟩
theorem RefAt.lt {w : World} {fb : Nat} {d : RefD} {vs vn vw : Value} (h : RefAt w fb d vs vn vw) : fb < w.heap.size := by
  rcases Nat.lt_or_ge fb w.heap.size with c | c
  · exact c
  · have := h.row; rw [Array.getElem?_eq_none c] at this; cases this
/-- The struct's own cells turned, nothing else. -/
theorem RefAt.turned {w w' : World} {fb : Nat} {d d' : RefD} {vs vn vw : Value} (h : RefAt w fb d vs vn vw) (hrow : w'.heap[fb]? = some (.cells (d'.row vs vn vw) 226 (0, 0))) (hb : ∀ k, k ≠ fb → k < w.heap.size → w'.heap[k]? = w.heap[k]?)
    (e1 : d'.safe = d.safe) (e2 : d'.seen = d.seen) (e3 : d'.wait = d.wait) : RefAt w' fb d' vs vn vw :=
  ⟨hrow, by rw [e1]; exact h.safe.keep (fun k hk => hb k (fun e => h.ne.1 (by rw [hk, e])) (h.safe.lt k hk)), by rw [e2]; exact h.seen.keep (fun k hk => hb k (fun e => h.ne.2.1 (by rw [hk, e])) (h.seen.lt k hk)), by rw [e3]; exact h.wait.keep (fun k hk => hb k (fun e => h.ne.2.2 (by rw [hk, e])) (h.wait.lt k hk)), h.ne, h.apart⟩

theorem RefAt.setLeft {w : World} {fb : Nat} {d : RefD} {vs vn vw : Value} (h : RefAt w fb d vs vn vw) (x : Int) : RefAt (w.setCell ⟨fb, 4, none⟩ (.int .i64 x)) fb { d with left := x } vs vn vw :=
  h.turned (by rw [heap_setCell_same _ _ _ _ _ _ h.row]; rfl) (fun k hk _ => heap_setCell_other _ _ _ _ hk) rfl rfl rfl
theorem RefAt.setDown {w : World} {fb : Nat} {d : RefD} {vs vn vw : Value} (h : RefAt w fb d vs vn vw) (x : Bool) : RefAt (w.setCell ⟨fb, 6, none⟩ (.bool x)) fb { d with down := x } vs vn vw :=
  h.turned (by rw [heap_setCell_same _ _ _ _ _ _ h.row]; rfl) (fun k hk _ => heap_setCell_other _ _ _ _ hk) rfl rfl rfl
theorem RefAt.setLit {w : World} {fb : Nat} {d : RefD} {vs vn vw : Value} (h : RefAt w fb d vs vn vw) (x : Bool) : RefAt (w.setCell ⟨fb, 5, none⟩ (.bool x)) fb { d with lit := x } vs vn vw :=
  h.turned (by rw [heap_setCell_same _ _ _ _ _ _ h.row]; rfl) (fun k hk _ => heap_setCell_other _ _ _ _ hk) rfl rfl rfl
theorem RefAt.setRoom {w : World} {fb : Nat} {d : RefD} {vs vn vw : Value} (h : RefAt w fb d vs vn vw) (x : Int) : RefAt (w.setCell ⟨fb, 2, none⟩ (.int .i64 x)) fb { d with room := x } vs vn vw :=
  h.turned (by rw [heap_setCell_same _ _ _ _ _ _ h.row]; rfl) (fun k hk _ => heap_setCell_other _ _ _ _ hk) rfl rfl rfl
/-- Another list of what is seen, in the old row or in new memory. -/
theorem RefAt.newSeen {w w3 : World} {fb : Nat} {d : RefD} {vs vn vw v : Value} {l : List FileV} (h : RefAt w fb d vs vn vw) (hg : w.grownBy w3 vn.ownBlock) (ho : Own2 0 v l w3) (hl : Lies vn v w) :
    RefAt (w3.setCell ⟨fb, 1, none⟩ v) fb { d with seen := l } vs v vw ∧ Turns (RefFoot fb vs vn vw) w (w3.setCell ⟨fb, 1, none⟩ v) ∧ ∀ k, RefFoot fb vs v vw k → RefFoot fb vs vn vw k ∨ w.heap.size ≤ k := by
  have hfb := h.lt
  have hrow : w3.heap[fb]? = some (.cells (d.row vs vn vw) 226 (0, 0)) := by rw [hg.block fb hfb (fun e => h.ne.2.1 e.symm)]; exact h.row
  have vne : v.ownBlock ≠ some fb := fun e => by rcases hl fb e with e2 | e2; exact h.ne.2.1 e2; omega
  have old : ∀ k, k < w.heap.size → k ≠ fb → some k ≠ vn.ownBlock → (w3.setCell ⟨fb, 1, none⟩ v).heap[k]? = w.heap[k]? := fun k hk hf hn => by
    rw [heap_setCell_other _ _ _ _ hf]; exact hg.block k hk hn
  refine ⟨⟨by rw [heap_setCell_same _ _ _ _ _ _ hrow]; rfl, h.safe.keep (fun k hk => old k (h.safe.lt k hk) (fun e => h.ne.1 (by rw [hk, e])) (fun e => ((h.apart k).1 hk).1 e.symm)), ho.keep (fun k hk => heap_setCell_other _ _ _ _ (fun e => vne (by rw [hk, e]))),
    h.wait.keep (fun k hk => old k (h.wait.lt k hk) (fun e => h.ne.2.2 (by rw [hk, e])) (fun e => (h.apart k).2 e.symm hk)), ⟨h.ne.1, vne, h.ne.2.2⟩, fun k => ⟨fun hk => ⟨fun e => ?_, ((h.apart k).1 hk).2⟩, fun e hw => ?_⟩⟩, ?_, ?_⟩
  · rcases hl k e with e2 | e2
    · exact ((h.apart k).1 hk).1 e2
    · have := h.safe.lt k hk; omega
  · rcases hl k e with e2 | e2
    · exact (h.apart k).2 e2 hw
    · have := h.wait.lt k hw; omega
  · exact ⟨hg.os, hg.output, by simpa [World.setCell] using hg.size, fun k hk hn => old k hk (fun e => hn (Or.inl e)) (fun e => hn (Or.inr (Or.inr (Or.inl e.symm))))⟩
  · rintro k (e | e | e | e)
    · exact Or.inl (Or.inl e)
    · exact Or.inl (Or.inr (Or.inl e))
    · rcases hl k e with e2 | e2
      · exact Or.inl (Or.inr (Or.inr (Or.inl e2)))
      · exact Or.inr e2
    · exact Or.inl (Or.inr (Or.inr (Or.inr e)))
/-- Another list of what waits. -/
theorem RefAt.newWait {w w3 : World} {fb : Nat} {d : RefD} {vs vn vw v : Value} {l : List WaitV} (h : RefAt w fb d vs vn vw) (hg : w.grownBy w3 vw.ownBlock) (ho : OwnW 0 v l w3) (hl : Lies vw v w) :
    RefAt (w3.setCell ⟨fb, 3, none⟩ v) fb { d with wait := l } vs vn v ∧ Turns (RefFoot fb vs vn vw) w (w3.setCell ⟨fb, 3, none⟩ v) ∧ ∀ k, RefFoot fb vs vn v k → RefFoot fb vs vn vw k ∨ w.heap.size ≤ k := by
  have hfb := h.lt
  have hrow : w3.heap[fb]? = some (.cells (d.row vs vn vw) 226 (0, 0)) := by rw [hg.block fb hfb (fun e => h.ne.2.2 e.symm)]; exact h.row
  have vne : v.ownBlock ≠ some fb := fun e => by rcases hl fb e with e2 | e2; exact h.ne.2.2 e2; omega
  have old : ∀ k, k < w.heap.size → k ≠ fb → some k ≠ vw.ownBlock → (w3.setCell ⟨fb, 3, none⟩ v).heap[k]? = w.heap[k]? := fun k hk hf hn => by
    rw [heap_setCell_other _ _ _ _ hf]; exact hg.block k hk hn
  refine ⟨⟨by rw [heap_setCell_same _ _ _ _ _ _ hrow]; rfl, h.safe.keep (fun k hk => old k (h.safe.lt k hk) (fun e => h.ne.1 (by rw [hk, e])) (fun e => ((h.apart k).1 hk).2 e.symm)),
    h.seen.keep (fun k hk => old k (h.seen.lt k hk) (fun e => h.ne.2.1 (by rw [hk, e])) (fun e => (h.apart k).2 hk e.symm)), ho.keep (fun k hk => heap_setCell_other _ _ _ _ (fun e => vne (by rw [hk, e]))), ⟨h.ne.1, h.ne.2.1, vne⟩, fun k => ⟨fun hk => ⟨((h.apart k).1 hk).1, fun e => ?_⟩, fun hk e => ?_⟩⟩, ?_, ?_⟩
  · rcases hl k e with e2 | e2
    · exact ((h.apart k).1 hk).2 e2
    · have := h.safe.lt k hk; omega
  · rcases hl k e with e2 | e2
    · exact (h.apart k).2 hk e2
    · have := h.seen.lt k hk; omega
  · exact ⟨hg.os, hg.output, by simpa [World.setCell] using hg.size, fun k hk hn => old k hk (fun e => hn (Or.inl e)) (fun e => hn (Or.inr (Or.inr (Or.inr e.symm))))⟩
  · rintro k (e | e | e | e)
    · exact Or.inl (Or.inl e)
    · exact Or.inl (Or.inr (Or.inl e))
    · exact Or.inl (Or.inr (Or.inr (Or.inl e)))
    · rcases hl k e with e2 | e2
      · exact Or.inl (Or.inr (Or.inr (Or.inr e2)))
      · exact Or.inr e2
/-- One operation more: the fuse burns. -/
def mayD (d : RefD) : RefD := if d.lit then { d with left := d.left - 1, down := d.down || decide (d.left - 1 ≤ 0) } else d

set_option maxHeartbeats 2000000 in
theorem may_any (d : RefD) (fb : Nat) (vs vn vw : Value) (w : World) (h : RefAt w fb d vs vn vw) (hlo : d.lit = true → -4611686018427387904 ≤ d.left) (hhi : d.left ≤ 9223372036854775807) :
    Calls Tryz.prog 230 #[.pointer (some ⟨fb, 0, none⟩)] w fun e w' => e = .returned (.bool (!(mayD d).down)) ∧ RefAt w' fb (mayD d) vs vn vw ∧ Turns (fun k => k = fb) w w' := by
  have HR : Hid (RefAt w fb d vs vn vw) := h
  have c4 : w.cell? ⟨fb, 4, none⟩ = some (.int .i64 d.left) := by rw [cell_of_row _ _ _ _ _ _ h.row]; rfl
  have c5 : w.cell? ⟨fb, 5, none⟩ = some (.bool d.lit) := by rw [cell_of_row _ _ _ _ _ _ h.row]; rfl
  have c6 : w.cell? ⟨fb, 6, none⟩ = some (.bool d.down) := by rw [cell_of_row _ _ _ _ _ _ h.row]; rfl
  have f4 : w.frozen? ⟨fb, 4, none⟩ = false := frozen_of_row _ _ _ _ _ h.row
  have f6 : w.frozen? ⟨fb, 6, none⟩ = false := frozen_of_row _ _ _ _ _ h.row
  obtain ⟨safe, seen, room, wait, left, lit, down⟩ := d
  simp only at c4 c5 c6 hlo hhi
  clear h
  go_enter Tryz.func230, Tryz.ntmps230
  cases lit
  · clear hlo
    go_wp2
    go_ret
    exact ⟨rfl, HR.out, Turns.refl _ _⟩
  · have hlo := hlo rfl
    by_cases hz : left - 1 ≤ 0
    · have HD : Hid (mayD ⟨safe, seen, room, wait, left, true, down⟩ = ⟨safe, seen, room, wait, left - 1, true, true⟩) := by
        show _ = _
        simp [mayD, hz]
      have HR2 : Hid (RefAt ((w.setCell ⟨fb, 4, none⟩ (.int .i64 (left - 1))).setCell ⟨fb, 6, none⟩ (.bool true)) fb ⟨safe, seen, room, wait, left - 1, true, true⟩ vs vn vw) := (HR.out.setLeft (left - 1)).setDown true
      have HT2 : Hid (Turns (fun k => k = fb) w ((w.setCell ⟨fb, 4, none⟩ (.int .i64 (left - 1))).setCell ⟨fb, 6, none⟩ (.bool true))) := ((Turns.refl (fun k => k = fb) w).setCell ⟨fb, 4, none⟩ _ (Or.inl rfl)).setCell ⟨fb, 6, none⟩ _ (Or.inl rfl)
      go_wp2
      go_ret
      exact ⟨by rw [HD.out]; rfl, by rw [HD.out]; exact HR2.out, HT2.out⟩
    · have HD : Hid (mayD ⟨safe, seen, room, wait, left, true, down⟩ = ⟨safe, seen, room, wait, left - 1, true, down⟩) := by
        show _ = _
        simp [mayD, hz]
      have HR2 : Hid (RefAt (w.setCell ⟨fb, 4, none⟩ (.int .i64 (left - 1))) fb ⟨safe, seen, room, wait, left - 1, true, down⟩ vs vn vw) := HR.out.setLeft (left - 1)
      have HT2 : Hid (Turns (fun k => k = fb) w (w.setCell ⟨fb, 4, none⟩ (.int .i64 (left - 1)))) := (Turns.refl (fun k => k = fb) w).setCell ⟨fb, 4, none⟩ _ (Or.inl rfl)
      go_wp2
      go_ret
      exact ⟨by rw [HD.out]; rfl, by rw [HD.out]; exact HR2.out, HT2.out⟩

/-- All bytes together, and so many more. -/
def sumBytes (l : List FileV) (n : Int) : Nat → Int
  | 0 => n
  | j + 1 => sumBytes l n j + ((fileAt l j).2.size : Int)
def moreD (d : RefD) (n : Int) : Bool := decide (d.room < sumBytes d.seen n d.seen.length)
theorem sumBytes_le (l : List FileV) (n : Int) (hb : ∀ i, (fileAt l i).2.size ≤ 1099511627776) : ∀ j, n ≤ sumBytes l n j ∧ sumBytes l n j ≤ n + (j : Int) * 1099511627776 := by
  intro j
  induction j with
  | zero => simp [sumBytes]
  | succ j ih =>
    have := hb j
    simp only [sumBytes]
    constructor
    · omega
    · have e : ((j + 1 : Nat) : Int) * 1099511627776 = (j : Int) * 1099511627776 + 1099511627776 := by push_cast; rw [Int.add_mul]; omega
      rw [e]; omega

set_option maxHeartbeats 2000000 in
theorem more_any (d : RefD) (n : Int) (fb : Nat) (vs vn vw : Value) (w : World) (h : RefAt w fb d vs vn vw) (hn : -1099511627776 ≤ n ∧ n ≤ 140737488351232) (hl : d.seen.length ≤ 1048576) (hb : ∀ i, (fileAt d.seen i).2.size ≤ 1099511627776) :
    Calls Tryz.prog 227 #[.pointer (some ⟨fb, 0, none⟩), .int .i64 n] w fun e w' => e = .returned (.bool (moreD d n)) ∧ w' = w := by
  obtain ⟨an, cn, hform⟩ := h.seen.form
  subst hform
  have HF : Hid (FilesAt w an d.seen) := h.seen.at
  have c1 : w.cell? ⟨fb, 1, none⟩ = some (.slice an d.seen.length cn) := by rw [cell_of_row _ _ _ _ _ _ h.row]; rfl
  have c2 : w.cell? ⟨fb, 2, none⟩ = some (.int .i64 d.room) := by rw [cell_of_row _ _ _ _ _ _ h.row]; rfl
  have HSB : Hid (∀ j, n ≤ sumBytes d.seen n j ∧ sumBytes d.seen n j ≤ n + (j : Int) * 1099511627776) := sumBytes_le _ _ hb
  have HB : Hid (∀ i, (fileAt d.seen i).2.size ≤ 1099511627776) := hb
  have HM : Hid (moreD d n = decide (d.room < sumBytes d.seen n d.seen.length)) := rfl
  obtain ⟨safe, seen, room, wait, left, lit, down⟩ := d
  simp only at c1 c2 hl HF HSB HB HM
  have n0 : (seen.length : Int) ≤ 1048576 := by omega
  obtain ⟨n1, n2⟩ := hn
  clear h hb
  go_enter Tryz.func227, Tryz.ntmps227
  go_wp2
  go_loop [1, 5] (fun N c => ∃ j : Nat, j ≤ seen.length ∧ c = .int .i64 j ∧ ∃ x : Int, N = .int .i64 x ∧ Hid (x = sumBytes seen n j)) (fun _ c => seen.length - (intOf c).toNat)
  case atStart => exact ⟨0, by omega, rfl, n, rfl, rfl⟩
  case round =>
    obtain ⟨j, hj, rfl, x, rfl, HX⟩ := hrel
    have hx1 := (HSB.out j).1
    have hx2 := (HSB.out j).2
    rw [← HX.out] at hx1 hx2
    have hx3 : x ≤ 140737488351232 + 1048576 * 1099511627776 := by
      have : (j : Int) * 1099511627776 ≤ 1048576 * 1099511627776 := Int.mul_le_mul_of_nonneg_right (by omega) (by omega)
      omega
    have hx4 : -1099511627776 ≤ x := by omega
    clear hx1 hx2
    by_cases hlt : j < seen.length
    · have hfx := fileAt_eq seen j hlt
      obtain ⟨b, o, rfl, hc⟩ : ∃ b o, an = some ⟨b, o, none⟩ ∧ w.cell? ⟨b, o + j * 2 + 1, none⟩ = some (.string (fileAt seen j).2) := by
        rcases HF.out with h | ⟨b, o, e, h⟩
        · subst h; simp at hlt
        · exact ⟨b, o, e, (h j _ hfx).2⟩
      have i0 : (0 : Int) ≤ (j : Int) := by omega
      have i1 : (j : Int) < (seen.length : Int) := by omega
      have hz := HB.out j
      have HN : Hid (sumBytes seen n (j + 1) = x + ((fileAt seen j).2.size : Int)) := by show _ = _; rw [sumBytes, HX.out]
      clear hfx
      generalize (fileAt seen j).2 = y at *
      have y1 : (y.size : Int) ≤ 1099511627776 := by omega
      go_wp2
      exact ⟨⟨j + 1, by omega, by go_num, _, rfl, by show _ = _; rw [HN.out]⟩, by simp [intOf]; omega⟩
    · have hjs : j = seen.length := by omega
      subst hjs
      have i1 : ¬ (seen.length : Int) < (seen.length : Int) := by omega
      have HE : Hid (moreD ⟨safe, seen, room, wait, left, lit, down⟩ n = decide (room < x)) := by show _ = _; rw [HM.out, HX.out]
      go_wp2
      go_ret
      exact ⟨by rw [HE.out]; rfl, rfl⟩
end Go.Proofs.YthhbpebihgjpjaaGreatDoor
