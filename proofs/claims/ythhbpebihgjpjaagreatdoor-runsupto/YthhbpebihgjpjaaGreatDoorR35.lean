import Derived.Test.YthhbpebihgjpjaaGreatDoorR31
import Derived.OwnWalk
import Derived.Test.YthhbpebihgjpjaaGreatDoorR34
import Derived.Test.YthhbpebihgjpjaaGreatDoorShelf
import Derived.Test.YthhbpebihgjpjaaGreatDoorR21
import Derived.Lib.OthersKept
namespace Go.Proofs.YthhbpebihgjpjaaGreatDoor
open Go.RowKit
set_option maxRecDepth 1000000

theorem TextsAt.keepB {w w' : World} {v : Value} {l : List ByteArray} (h : TextsAt w v l) (hb : Below w.heap.size w w') : TextsAt w' v l := by
  obtain ⟨ao, cap, rfl, hc, h | ⟨b, o, rfl, h⟩⟩ := h
  · exact ⟨ao, cap, rfl, hc, Or.inl h⟩
  · exact ⟨_, cap, rfl, hc, Or.inr ⟨b, o, rfl, fun k s hs => (World.cell?_of_block (w := w) (a := ⟨b, o + k, none⟩) (hb.block b (block_lt_of_cell (h k s hs)))).trans (h k s hs)⟩⟩
theorem rkeep {w w' : World} {base : Nat} {e : TypeId} {s : Nat} {v : Value} {n : Nat} {xs : List Value} (h : w.ownsRow base e s v n xs) (hb : ∀ k, v.ownBlock = some k → w'.heap[k]? = w.heap[k]?) : w'.ownsRow base e s v n xs := by
  obtain ⟨h1, ⟨rfl, h0⟩ | ⟨g, cap, cur, rfl, hg, hh, r⟩⟩ := h
  · exact ⟨h1, Or.inl ⟨rfl, h0⟩⟩
  · exact ⟨h1, Or.inr ⟨g, cap, cur, rfl, hg, by rw [hb g rfl]; exact hh, r⟩⟩
theorem rblock {w : World} {base : Nat} {e : TypeId} {s : Nat} {v : Value} {n : Nat} {xs : List Value} (h : w.ownsRow base e s v n xs) (k : Nat) (hk : v.ownBlock = some k) : base ≤ k ∧ k < w.heap.size := by
  obtain ⟨h1, ⟨rfl, h0⟩ | ⟨g, cap, cur, rfl, hg, hh, r⟩⟩ := h
  · cases hk
  · have e : g = k := Option.some.inj hk
    subst e
    refine ⟨hg, ?_⟩
    rcases Nat.lt_or_ge g w.heap.size with c | c
    · exact c
    · rw [Array.getElem?_eq_none c] at hh; cases hh

end Go.Proofs.YthhbpebihgjpjaaGreatDoor

namespace Go.Proofs.YthhbpebihgjpjaaGreatDoor
open Go.RowKit
set_option maxRecDepth 1000000

/-- The function that plain.Run hands in, over its two boxes. -/
def readV (bn bd : Nat) : Value := .func (.func 137) #[] #[.pointer (some ⟨bn, 0, none⟩), .pointer (some ⟨bd, 0, none⟩)]
/-- What it reads is there. -/
structure ReadAt (w : World) (bn bd : Nat) (names data : List ByteArray) : Prop where
  ex : ∃ vn vd, w.cell? ⟨bn, 0, none⟩ = some vn ∧ w.cell? ⟨bd, 0, none⟩ = some vd ∧ TextsAt w vn names ∧ TextsAt w vd data
  ln : names.length ≤ 1048576
  ld : data.length ≤ 1048576
theorem ReadAt.keepB {w w' : World} {bn bd : Nat} {names data : List ByteArray} (h : ReadAt w bn bd names data) (hb : Below w.heap.size w w') : ReadAt w' bn bd names data := by
  obtain ⟨⟨vn, vd, h1, h2, h3, h4⟩, l1, l2⟩ := h
  exact ⟨⟨vn, vd, (hb.cell (p := ⟨bn, 0, none⟩) (block_lt_of_cell h1)).trans h1, (hb.cell (p := ⟨bd, 0, none⟩) (block_lt_of_cell h2)).trans h2, h3.keepB hb, h4.keepB hb⟩, l1, l2⟩

theorem enterRead (w : World) (args : Array Value) : (callFunc 137 args).run Tryz.prog w = .ok (.enter 137 args) w := by kernel_rfl

set_option maxHeartbeats 2000000 in
theorem ask_any (names data : List ByteArray) (vw : Value) (x : ByteArray) (bn bd : Nat) (w : World) (h : ReadAt w bn bd names data) :
    Calls Tryz.prog 327 #[.agg #[vw, readV bn bd], .string x] w fun e w' => e = .returned (readPost (fileOf names data x)) ∧ Below w.heap.size w w' := by
  have H : Hid (ReadAt w bn bd names data) := h
  clear h
  have hnil : ∀ wx, (binOp .eql 238 (readV bn bd) .nilFunc).run Tryz.prog wx = .ok (.bool false) wx := fun wx => by kernel_rfl
  have HB : Hid (Below w.heap.size w (w.alloc (.cells #[vw, readV bn bd] 349))) := (Below.refl _ _).alloc (Nat.le_refl _) _
  unfold readV at hnil HB ⊢
  have hen := enterRead
  go_enter Tryz.func327, Tryz.ntmps327
  go_wp2_with fail
  obtain ⟨⟨vn, vd, h1, h2, h3, h4⟩, l1, l2⟩ := H.out.keepB HB.out
  refine (read_any names data vn vd x bn bd _ h1 h2 h3 h4 l1 l2).mono ?_
  rintro e w2 ⟨rfl, rfl⟩
  generalize w.alloc (.cells #[vw, .func (.func 137) #[] #[.pointer (some ⟨bn, 0, none⟩), .pointer (some ⟨bd, 0, none⟩)]] 349) = w2 at *
  clear h1 h2 h3 h4 hnil hen
  unfold readPost
  generalize hA1 : (fileOf names data x).getD ⟨#[]⟩ = A1
  have HA : Hid ((fileOf names data x).getD ⟨#[]⟩ = A1) := hA1
  clear hA1
  go_wp2
  go_ret2
  exact ⟨by unfold readPost; rw [HA.out]; rfl, HB.out⟩
end Go.Proofs.YthhbpebihgjpjaaGreatDoor

namespace Go.Proofs.YthhbpebihgjpjaaGreatDoor
open Go.RowKit Go.Shelf Go.Lib
set_option maxRecDepth 1000000

/-- A strings.Builder of one's own, in block b, its buffer behind it: what it holds. -/
def BuiltAt (w : World) (b : Nat) (t : ByteArray) : Prop := Lib.IsBuilderF 379 5 b b (Lib.strCells t) w
theorem strCells_app (s t : ByteArray) : Lib.strCells (s ++ t) = Lib.strCells s ++ Lib.strCells t := by
  unfold Lib.strCells
  rw [ByteArray.data_append, Array.toList_append, List.map_append]
theorem BuilderAtF.keep {T e : TypeId} {B b : Nat} {p : Value} {bs : List Value} {w w' : World} (h : Lib.BuilderAtF T e B b p bs w) (hb : ∀ k, k < w.heap.size → w'.heap[k]? = w.heap[k]?) : Lib.BuilderAtF T e B b p bs w' := by
  have hlt := h.lt
  obtain ⟨hB, v, hbk, hown, hne⟩ := h
  refine ⟨hB, v, (hb b hlt).trans hbk, ?_, hne⟩
  obtain ⟨hl, h | ⟨g, cap, cur, fz, hv, hg0, hg, hr⟩⟩ := hown
  · exact ⟨hl, Or.inl h⟩
  · exact ⟨hl, Or.inr ⟨g, cap, cur, fz, hv, hg0, (hb g (Array.getElem?_eq_some_iff.1 hg).1).trans hg, hr⟩⟩
theorem BuiltAt.keep {w w' : World} {b : Nat} {t : ByteArray} (h : BuiltAt w b t) (hb : ∀ k, k < w.heap.size → w'.heap[k]? = w.heap[k]?) : BuiltAt w' b t :=
  h.elim (fun x => .inl (BuilderAtF.keep x hb)) (fun x => .inr (BuilderAtF.keep x hb))
theorem BuiltAt.below {w w' : World} {b : Nat} {t : ByteArray} (h : BuiltAt w b t) (hb : Below w.heap.size w w') : BuiltAt w' b t := h.keep hb.block
theorem BuiltAt.lt {w : World} {b : Nat} {t : ByteArray} (h : BuiltAt w b t) : b < w.heap.size := h.elim (fun x => x.lt) (fun x => x.lt)
theorem built_new (w : World) : BuiltAt (w.alloc (.cells #[.pointer none, .slice none 0 0] 379)) w.heap.size ⟨#[]⟩ := IsBuilderF.of (Lib.fresh_isBuilder _ _ w)

theorem bstr_any (b : Nat) (t s : ByteArray) (w : World) (h : BuiltAt w b t) (hs : t.size + s.size ≤ 140737488355328) :
    Calls Tryz.prog 245 #[.pointer (some ⟨b, 0, none⟩), .string s] w fun e w' => e = .returned (.tuple #[.int .i64 s.size, .nilIface]) ∧ BuiltAt w' b (t ++ s) ∧ Below b w w' := by
  refine (Any.Builder_WriteString_k Tryz.lays166 Tryz.Builder_Extra_166 b b (Lib.strCells t) s w h (by rw [Lib.strCells_length]; exact hs) (Nat.le_of_lt h.lt)).mono ?_
  rintro e w' ⟨he, h1, h2, _⟩
  refine ⟨he, Or.inr ?_, h2⟩
  rw [strCells_app]; exact h1
theorem bstr_kept (b : Nat) (t s : ByteArray) (w : World) (h : BuiltAt w b t) (hs : t.size + s.size ≤ 140737488355328) :
    Calls Tryz.prog 245 #[.pointer (some ⟨b, 0, none⟩), .string s] w fun e w' => e = .returned (.tuple #[.int .i64 s.size, .nilIface]) ∧ BuiltAt w' b (t ++ s) ∧ Below b w w' ∧ Lib.OthersKept 5 (some b) w w' := by
  refine (Any.Builder_WriteString_k Tryz.lays166 Tryz.Builder_Extra_166 b b (Lib.strCells t) s w h (by rw [Lib.strCells_length]; exact hs) (Nat.le_of_lt h.lt)).mono ?_
  rintro e w' ⟨he, h1, h2, h3⟩
  refine ⟨he, Or.inr ?_, h2, h3⟩
  rw [strCells_app]; exact h1
theorem bbyte_any (b : Nat) (t : ByteArray) (c : UInt8) (x : Int) (hx : x = (c.toNat : Int)) (w : World) (h : BuiltAt w b t) (hs : t.size + 1 ≤ 140737488355328) :
    Calls Tryz.prog 246 #[.pointer (some ⟨b, 0, none⟩), .int .u8 x] w fun e w' => e = .returned .nilIface ∧ BuiltAt w' b (t ++ ⟨#[c]⟩) ∧ Below b w w' := by
  subst hx
  refine (Any.Builder_WriteByte_k Tryz.lays167 Tryz.Builder_Extra_167 b b (Lib.strCells t) _ w h (by rw [Lib.strCells_length]; exact hs) (Nat.le_of_lt h.lt)).mono ?_
  rintro e w' ⟨he, h1, h2, _⟩
  refine ⟨he, Or.inr ?_, h2⟩
  rw [strCells_app]; exact h1
theorem btext_any (b : Nat) (t : ByteArray) (w : World) (h : BuiltAt w b t) :
    Calls Tryz.prog 248 #[.pointer (some ⟨b, 0, none⟩)] w fun e w' => e = .returned (.string t) ∧ BuiltAt w' b t ∧ Below b w w' := by
  refine (Any.Builder_String_any_k Tryz.lays169 Tryz.Builder_Extra_169 b b t.data.toList w h (Nat.le_of_lt h.lt)).mono ?_
  rintro e w' ⟨he, h1, h2, _⟩
  exact ⟨he, h1, h2⟩
theorem blen_any (b : Nat) (t : ByteArray) (w : World) (h : BuiltAt w b t) :
    Calls Tryz.prog 275 #[.pointer (some ⟨b, 0, none⟩)] w fun e w' => e = .returned (.int .i64 t.size) ∧ w' = w := by
  refine (Any.Builder_Len_f Tryz.lays170 b b (Lib.strCells t) w h).mono ?_
  rintro e w' ⟨he, h1⟩
  exact ⟨by rw [he, Lib.strCells_length], h1⟩
end Go.Proofs.YthhbpebihgjpjaaGreatDoor
