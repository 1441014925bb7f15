import Derived.Test.YthhbpebihgjpjaaGreatDoorK05
import Derived.Lib.CutLaws
import Derived.Lib.IndexBytes
import Derived.Test.YthhbpebihgjpjaaGreatDoorK01
import Derived.OwnWalk
import Derived.Test.YthhbpebihgjpjaaGreatDoorShelf
import Derived.Test.YthhbpebihgjpjaaGreatDoorK03
import Derived.Lib.OthersKept
namespace Go.Proofs.YthhbpebihgjpjaaGreatDoor
open Go.RowKit Go.Shelf
set_option maxRecDepth 1000000

theorem expandAt_shift (E : ByteArray → ByteArray) : ∀ (g : Nat) (t : ByteArray) (i : Nat) (out : ByteArray), t.size - i ≤ g → i ≤ t.size → expandAt E t i out = expandAt E (t.extract i t.size) 0 out := by
  intro g
  induction g with
  | zero =>
    intro t i out h hi
    rw [expandAt_end _ _ _ _ (by omega), expandAt_end _ _ _ _ (by rw [ByteArray.size_extract]; omega)]
  | succ g ih =>
    intro t i out h hi
    have hsz : (t.extract i t.size).size = t.size - i := by rw [ByteArray.size_extract]; omega
    by_cases he : t.size ≤ i
    · rw [expandAt_end _ _ _ _ he, expandAt_end _ _ _ _ (by omega)]
    · have hb : byteOf (t.extract i t.size) 0 = byteOf t i := by rw [byteOf_extract _ _ _ _ (by omega) (Nat.le_refl _), Nat.add_zero]
      have hx : ∀ k, i + k ≤ t.size → (t.extract i t.size).extract k (t.extract i t.size).size = t.extract (i + k) t.size := fun k hk => by
        rw [hsz, extract_of _ _ _ _ _ (by omega), show i + (t.size - i) = t.size by omega]
      by_cases hc : byteOf t i = 36
      · have hfu : formAt (t.extract i t.size) 0 = (formU (t.extract (i + 1) t.size)).map fun p => (p.1, 0 + 1 + p.2) := by
          rw [formAt_u _ _ (by omega), hx (0 + 1) (by omega)]
        have hft := formAt_u t i (by omega)
        cases hf : formU (t.extract (i + 1) t.size) with
        | none =>
          rw [hf] at hfu hft
          rw [expandAt_none _ _ _ _ (by omega) hc hft, expandAt_none _ _ _ _ (by omega) (hb.trans hc) hfu]
        | some p =>
          obtain ⟨f, k⟩ := p
          rw [hf] at hfu hft
          have h1 := formAt_le (show formAt t i = some (f, i + 1 + k) from hft)
          rw [expandAt_form _ _ _ _ _ _ (by omega) hc (show formAt t i = some (f, i + 1 + k) from hft), expandAt_form _ _ _ _ _ _ (by omega) (hb.trans hc) (show formAt (t.extract i t.size) 0 = some (f, 0 + 1 + k) from hfu)]
          rw [ih t (i + 1 + k) _ (by omega) (by omega), ih (t.extract i t.size) (0 + 1 + k) _ (by omega) (by omega), hx _ (by omega), show i + (0 + 1 + k) = i + 1 + k by omega]
      · rw [expandAt_plain _ _ _ _ (by omega) hc, expandAt_plain E (t.extract i t.size) 0 out (by omega) (by rw [hb]; exact hc)]
        rw [ih t (i + 1) _ (by omega) (by omega), ih (t.extract i t.size) (0 + 1) _ (by omega) (by omega), hx _ (by omega), extract_of _ _ _ _ _ (by omega)]
        rfl
theorem extract_glue (t : ByteArray) (a b c : Nat) (h1 : a ≤ b) (h2 : b ≤ c) : t.extract a b ++ t.extract b c = t.extract a c := by
  rw [ByteArray.extract_append_extract, Nat.min_eq_left h1, Nat.max_eq_right h2]
theorem expandAt_run (E : ByteArray → ByteArray) (t : ByteArray) : ∀ (n i : Nat) (out : ByteArray), i + n ≤ t.size → (∀ k, i ≤ k → k < i + n → byteOf t k ≠ 36) → expandAt E t i out = expandAt E t (i + n) (out ++ t.extract i (i + n)) := by
  intro n
  induction n with
  | zero =>
    intro i out _ _
    rw [Nat.add_zero, show t.extract i i = ByteArray.empty from ByteArray.size_eq_zero_iff.1 (by rw [ByteArray.size_extract]; omega), ByteArray.append_empty]
  | succ n ih =>
    intro i out h hk
    rw [expandAt_plain _ _ _ _ (by omega) (hk i (Nat.le_refl _) (by omega)), ih (i + 1) _ (by omega) (fun k a b => hk k (by omega) (by omega)), ByteArray.append_assoc, extract_glue _ _ _ _ (by omega) (by omega), show i + 1 + n = i + (n + 1) by omega]
def dol : ByteArray := ⟨#[36]⟩
theorem index_dol (u : ByteArray) : (Lib.indexB u dol = -1 ∧ ∀ k, k < u.size → byteOf u k ≠ 36) ∨ ∃ n : Nat, Lib.indexB u dol = n ∧ n < u.size ∧ byteOf u n = 36 ∧ ∀ k, k < n → byteOf u k ≠ 36 := by
  have h1 : Lib.indexB u dol = Lib.indexByte u.data.toList 36 := Lib.one u dol rfl
  have hb : ∀ k, k < u.size → u.data.toList[k]? ≠ some 36 → byteOf u k ≠ 36 := fun k hk hn e => hn (by
    rw [Array.getElem?_toList, byteOf_at u k hk, e]; rfl)
  rcases Lib.indexB_cases u dol with h | ⟨i, h, hi⟩
  · refine Or.inl ⟨h, fun k hk => hb k hk ?_⟩
    rw [h1] at h
    exact Lib.indexByte_none h k
  · refine Or.inr ⟨i, h, ?_, ?_, fun k hk => ?_⟩
    · have : dol.size = 1 := rfl
      omega
    · rw [h1] at h
      have := (Lib.indexByte_some h).1
      rw [byteOf_get this]; rfl
    · rw [h1] at h
      refine hb k ?_ ((Lib.indexByte_some h).2 k hk)
      have : dol.size = 1 := rfl
      omega
/-- One step of the program: up to a `$`, and what stands behind it. -/
theorem expand_last (E : ByteArray → ByteArray) (u out : ByteArray) (h : ∀ k, k < u.size → byteOf u k ≠ 36) : expandAt E u 0 out = some (out ++ u) := by
  rw [expandAt_run E u u.size 0 out (by omega) (fun k _ hk => h k (by omega)), expandAt_end _ _ _ _ (by omega), Nat.zero_add, ByteArray.extract_zero_size]
theorem expand_bad (E : ByteArray → ByteArray) (u out : ByteArray) (n : Nat) (hn : n < u.size) (hd : byteOf u n = 36) (h : ∀ k, k < n → byteOf u k ≠ 36) (hf : formU (u.extract (n + 1) u.size) = none) : expandAt E u 0 out = none := by
  rw [expandAt_run E u n 0 out (by omega) (fun k _ hk => h k (by omega)), Nat.zero_add]
  exact expandAt_none _ _ _ _ hn hd (by rw [formAt_u _ _ hn, hf]; rfl)
theorem expand_step (E : ByteArray → ByteArray) (u out : ByteArray) (n : Nat) (hn : n < u.size) (hd : byteOf u n = 36) (h : ∀ k, k < n → byteOf u k ≠ 36) (f : Form) (k : Nat) (hf : formU (u.extract (n + 1) u.size) = some (f, k)) :
    expandAt E u 0 out = (if 4000 < (out ++ u.extract 0 n ++ f.val E).size then none else expandAt E ((u.extract (n + 1) u.size).extract k (u.extract (n + 1) u.size).size) 0 (out ++ u.extract 0 n ++ f.val E)) ∧ 0 < k ∧ k ≤ (u.extract (n + 1) u.size).size := by
  have hf2 : formAt u n = some (f, n + 1 + k) := by rw [formAt_u _ _ hn, hf]; rfl
  have hle := formAt_le hf2
  have hsz : (u.extract (n + 1) u.size).size = u.size - (n + 1) := by rw [ByteArray.size_extract]; omega
  refine ⟨?_, by omega, by omega⟩
  rw [expandAt_run E u n 0 out (by omega) (fun k _ hk => h k (by omega)), Nat.zero_add, expandAt_form _ _ _ _ _ _ hn hd hf2, expandAt_shift E _ u (n + 1 + k) _ (Nat.le_refl _) hle.2, hsz, extract_of _ _ _ _ _ (by omega), show n + 1 + (u.size - (n + 1)) = u.size by omega]
end Go.Proofs.YthhbpebihgjpjaaGreatDoor

namespace Go.Proofs.YthhbpebihgjpjaaGreatDoor
open Go.RowKit
set_option maxRecDepth 1000000

/-- The reading stopped: a Fault at that line, with that reason. -/
def Stopped (at' : Int) (rv : Value) (e : Ending) (w' : World) : Prop := ∃ b, e = .panicked [{ v := .iface 129 (.pointer (some ⟨b, 0, none⟩)), recovered := false }] ∧ w'.cell? ⟨b, 0, none⟩ = some (.int .i64 at') ∧ w'.cell? ⟨b, 1, none⟩ = some rv
theorem fail_any (rb : Nat) (n : Int) (T : TypeId) (p : Value) (w : World) (h : w.cell? ⟨rb, 0, none⟩ = some (.int .i64 n)) :
    Calls Tryz.prog 189 #[.pointer (some ⟨rb, 0, none⟩), .iface T p] w fun e w' => Stopped n (.iface T p) e w' ∧ Below w.heap.size w w' := by
  go_enter Tryz.func189, Tryz.ntmps189
  go_wp2
  refine ⟨rfl, ⟨w.heap.size, rfl, ?_, ?_⟩, (Below.refl _ _).alloc (Nat.le_refl _) _⟩
  · simp [go_sem]
  · simp [go_sem]
theorem need_yes (rv sv : Value) (w : World) :
    Calls Tryz.prog 112 #[rv, .bool true, sv] w fun e w' => e = .returned (.tuple #[]) ∧ w' = w := by
  go_enter Tryz.func112, Tryz.ntmps112
  go_wp2
  go_end0
  exact ⟨rfl, rfl⟩
theorem need_no (rb : Nat) (n : Int) (T : TypeId) (p : Value) (w : World) (h : w.cell? ⟨rb, 0, none⟩ = some (.int .i64 n)) :
    Calls Tryz.prog 112 #[.pointer (some ⟨rb, 0, none⟩), .bool false, .iface T p] w fun e w' => Stopped n (.iface T p) e w' ∧ Below w.heap.size w w' := by
  have HF : Hid (Calls Tryz.prog 189 #[.pointer (some ⟨rb, 0, none⟩), .iface T p] w fun e w' => Stopped n (.iface T p) e w' ∧ Below w.heap.size w w') := fail_any rb n T p w h
  clear h
  go_enter Tryz.func112, Tryz.ntmps112
  go_wp2_with fail
  refine HF.out.mono ?_
  rintro e w' ⟨⟨b, rfl, h0, h1⟩, hb⟩
  exact ⟨rfl, ⟨b, rfl, h0, h1⟩, hb⟩
end Go.Proofs.YthhbpebihgjpjaaGreatDoor

namespace Go.Proofs.YthhbpebihgjpjaaGreatDoor
open Go.RowKit Go.Shelf Go.Lib
set_option maxRecDepth 1000000

/-- A strings.Builder of one's own, in block b, its buffer behind it: what it holds. -/
def BuiltAt (w : World) (b : Nat) (t : ByteArray) : Prop := Lib.IsBuilderF 379 5 b b (Lib.strCells t) w
theorem strCells_app (s t : ByteArray) : Lib.strCells (s ++ t) = Lib.strCells s ++ Lib.strCells t := by
  unfold Lib.strCells
  rw [ByteArray.data_append, Array.toList_append, List.map_append]
theorem BuilderAtF.keep {T e : TypeId} {B b : Nat} {p : Value} {bs : List Value} {w w' : World} (h : Lib.BuilderAtF T e B b p bs w) (hb : ∀ k, k < w.heap.size → w'.heap[k]? = w.heap[k]?) : Lib.BuilderAtF T e B b p bs w' := by
  have hlt := h.lt
  obtain ⟨hB, v, hbk, hown, hne⟩ := h
  refine ⟨hB, v, (hb b hlt).trans hbk, ?_, hne⟩
  obtain ⟨hl, h | ⟨g, cap, cur, fz, hv, hg0, hg, hr⟩⟩ := hown
  · exact ⟨hl, Or.inl h⟩
  · exact ⟨hl, Or.inr ⟨g, cap, cur, fz, hv, hg0, (hb g (Array.getElem?_eq_some_iff.1 hg).1).trans hg, hr⟩⟩
theorem BuiltAt.keep {w w' : World} {b : Nat} {t : ByteArray} (h : BuiltAt w b t) (hb : ∀ k, k < w.heap.size → w'.heap[k]? = w.heap[k]?) : BuiltAt w' b t :=
  h.elim (fun x => .inl (BuilderAtF.keep x hb)) (fun x => .inr (BuilderAtF.keep x hb))
theorem BuiltAt.below {w w' : World} {b : Nat} {t : ByteArray} (h : BuiltAt w b t) (hb : Below w.heap.size w w') : BuiltAt w' b t := h.keep hb.block
theorem BuiltAt.lt {w : World} {b : Nat} {t : ByteArray} (h : BuiltAt w b t) : b < w.heap.size := h.elim (fun x => x.lt) (fun x => x.lt)
theorem built_new (w : World) : BuiltAt (w.alloc (.cells #[.pointer none, .slice none 0 0] 379)) w.heap.size ⟨#[]⟩ := IsBuilderF.of (Lib.fresh_isBuilder _ _ w)

theorem bstr_any (b : Nat) (t s : ByteArray) (w : World) (h : BuiltAt w b t) (hs : t.size + s.size ≤ 140737488355328) :
    Calls Tryz.prog 245 #[.pointer (some ⟨b, 0, none⟩), .string s] w fun e w' => e = .returned (.tuple #[.int .i64 s.size, .nilIface]) ∧ BuiltAt w' b (t ++ s) ∧ Below b w w' := by
  refine (Any.Builder_WriteString_k Tryz.lays166 Tryz.Builder_Extra_166 b b (Lib.strCells t) s w h (by rw [Lib.strCells_length]; exact hs) (Nat.le_of_lt h.lt)).mono ?_
  rintro e w' ⟨he, h1, h2, _⟩
  refine ⟨he, Or.inr ?_, h2⟩
  rw [strCells_app]; exact h1
theorem bstr_kept (b : Nat) (t s : ByteArray) (w : World) (h : BuiltAt w b t) (hs : t.size + s.size ≤ 140737488355328) :
    Calls Tryz.prog 245 #[.pointer (some ⟨b, 0, none⟩), .string s] w fun e w' => e = .returned (.tuple #[.int .i64 s.size, .nilIface]) ∧ BuiltAt w' b (t ++ s) ∧ Below b w w' ∧ Lib.OthersKept 5 (some b) w w' := by
  refine (Any.Builder_WriteString_k Tryz.lays166 Tryz.Builder_Extra_166 b b (Lib.strCells t) s w h (by rw [Lib.strCells_length]; exact hs) (Nat.le_of_lt h.lt)).mono ?_
  rintro e w' ⟨he, h1, h2, h3⟩
  refine ⟨he, Or.inr ?_, h2, h3⟩
  rw [strCells_app]; exact h1
theorem bbyte_any (b : Nat) (t : ByteArray) (c : UInt8) (x : Int) (hx : x = (c.toNat : Int)) (w : World) (h : BuiltAt w b t) (hs : t.size + 1 ≤ 140737488355328) :
    Calls Tryz.prog 246 #[.pointer (some ⟨b, 0, none⟩), .int .u8 x] w fun e w' => e = .returned .nilIface ∧ BuiltAt w' b (t ++ ⟨#[c]⟩) ∧ Below b w w' := by
  subst hx
  refine (Any.Builder_WriteByte_k Tryz.lays167 Tryz.Builder_Extra_167 b b (Lib.strCells t) _ w h (by rw [Lib.strCells_length]; exact hs) (Nat.le_of_lt h.lt)).mono ?_
  rintro e w' ⟨he, h1, h2, _⟩
  refine ⟨he, Or.inr ?_, h2⟩
  rw [strCells_app]; exact h1
theorem btext_any (b : Nat) (t : ByteArray) (w : World) (h : BuiltAt w b t) :
    Calls Tryz.prog 248 #[.pointer (some ⟨b, 0, none⟩)] w fun e w' => e = .returned (.string t) ∧ BuiltAt w' b t ∧ Below b w w' := by
  refine (Any.Builder_String_any_k Tryz.lays169 Tryz.Builder_Extra_169 b b t.data.toList w h (Nat.le_of_lt h.lt)).mono ?_
  rintro e w' ⟨he, h1, h2, _⟩
  exact ⟨he, h1, h2⟩
theorem blen_any (b : Nat) (t : ByteArray) (w : World) (h : BuiltAt w b t) :
    Calls Tryz.prog 275 #[.pointer (some ⟨b, 0, none⟩)] w fun e w' => e = .returned (.int .i64 t.size) ∧ w' = w := by
  refine (Any.Builder_Len_f Tryz.lays170 b b (Lib.strCells t) w h).mono ?_
  rintro e w' ⟨he, h1⟩
  exact ⟨by rw [he, Lib.strCells_length], h1⟩
end Go.Proofs.YthhbpebihgjpjaaGreatDoor
