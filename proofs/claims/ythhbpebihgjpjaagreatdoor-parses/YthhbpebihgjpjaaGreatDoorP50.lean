import Derived.Test.YthhbpebihgjpjaaGreatDoorRows
import Derived.Test.YthhbpebihgjpjaaGreatDoorP49
import Derived.ProofKit
import Derived.LaidMore
import Derived.LaidHandle
import Derived.OpenShut
import Derived.Stop.Joined
import Derived.Stop.LaidTwo
import Derived.Shelf.Vars
namespace Go.Proofs.YthhbpebihgjpjaaGreatDoor
open Go.ChangeShapes Go.WideShapes Go.RowKit

theorem sents_of_vars {P : Program} {W : World} {nm : String} {ti tp te ts : TypeId} {ms : Array (String × TypeId)} {f : Field}
  (hi : P.underlying ti = some (.interface ms)) (hrow : ∀ u, P.typeName? 3 u = some nm → u = tp)
  (hp : P.underlying tp = some (.pointer te)) (he : P.underlying te = some (.struct #[f])) (hft : f.type = ts) (hfo : f.offset = 0) (hs : P.underlying ts = some .string) (hc : P.cellsOf te = 1) (hcs : P.cellsOf ts = 1) :
  ∀ (rest : List (String × DataW Unit)) (l : List (String × Nat × List UInt8)) (ps : List MemPlace),
   (∀ x ∈ l, P.globalNamed x.1 = some x.2.1 ∧ (P.globals[x.2.1]?).map (·.type) = some ti) →
   DataW.LaidVars P W ((l.map fun x => (x.1, .iface nm (.ptr (.agg [.lit (.string x.2.2)])))) ++ rest) ps →
   (∀ b off, MemPlace.cell b off ∈ ps → (∃ c t, W.heap[b]? = some (.cells c t (0, 0))) ∧ ∀ u v, W.cell? ⟨b, off, none⟩ = some (.iface u v) → Value.okWide P W .any 0 u v) →
   ∃ L : List (Addr × ByteArray), L.length = l.length ∧ (L.map fun y => MemPlace.cell y.1.block y.1.off).Sublist ps ∧
    ∀ (i : Nat) x y, l[i]? = some x → L[i]? = some y → W.cell? ⟨x.2.1, 0, none⟩ = some (.iface tp (.pointer (some y.1))) ∧ W.cell? y.1 = some (.string y.2) ∧ y.2.data.toList = x.2.2 ∧ ∃ c t, W.heap[y.1.block]? = some (.cells c t (0, 0)) := by
 intro rest l
 induction l with
 | nil => intro ps _ _ _; exact ⟨[], rfl, by simp, fun i x y h => by simp at h⟩
 | cons x r ih =>
  intro ps hg hv hrows
  obtain ⟨g0, t0, cs0, f0, p0, q0, hg0, ht0, hv0, hd0, hr, e0⟩ := hv
  obtain ⟨hgx, htx⟩ := hg x (by simp)
  obtain rfl := Option.some.inj (hgx.symm.trans hg0)
  obtain rfl := Option.some.inj (htx.symm.trans ht0)
  subst e0
  obtain ⟨l0⟩ := cs0
  have ok0 : ∀ u v, l0 = [.iface u v] → Value.okWide P W .any 0 u v := fun u v e => by
   subst e
   exact (hrows x.2.1 0 (by simp [MemPlace.row])).2 u v (by simpa using World.var?_cell hg0 hv0 0)
  obtain ⟨a0, s0, rfl, hc0, hs0, hz0, rfl⟩ := errorString_of_trod hi hrow hp he hft hfo hs hc hcs hd0 ok0
  obtain ⟨L, hlen, hsub, hL⟩ := ih q0 (fun y hy => hg y (by simp [hy])) hr (fun b off hm => hrows b off (by simp [hm]))
  refine ⟨(a0, s0) :: L, by simp [hlen], ?_, ?_⟩
  ·refine List.Sublist.trans ?_ (List.sublist_append_right (MemPlace.row ⟨x.2.1, 0, none⟩ 1) (MemPlace.row a0 1 ++ q0) |>.trans (by simp))
   simp only [List.map_cons]
   have e1 : MemPlace.row a0 1 = [MemPlace.cell a0.block a0.off] := by simp [MemPlace.row]
   rw [e1]
   exact List.Sublist.cons_cons _ hsub
  ·intro i y z hy hz
   cases i with
   | zero =>
    simp only [List.getElem?_cons_zero, Option.some.injEq] at hy hz
    subst hy; subst hz
    exact ⟨by simpa using World.var?_cell hg0 hv0 0, hc0, hs0, (hrows a0.block a0.off (by simp [MemPlace.row])).1⟩
   | succ i =>
    simp only [List.getElem?_cons_succ] at hy hz
    exact hL i y z hy hz

theorem Tryz.star : "*" ++ "errors.errorString" = "*errors.errorString" := by decide
theorem Tryz.row66 (u : TypeId) (h : Tryz.prog.typeName? 3 u = some "*errors.errorString") : u = 472 :=
 typeName_ptr_named (nm := "errors.errorString") (by rw [Tryz.star]; kernel_rfl) (by kernel_rfl) (by decide) u (by rw [Tryz.star]; exact h)
theorem Tryz.cells107 : Tryz.prog.cellsOf 490 = 1 := by kernel_rfl
theorem Tryz.cells9 : Tryz.prog.cellsOf 9 = 1 := by kernel_rfl
theorem Tryz.et : Tryz.prog.globalNamed "errors.errorType" = some 9 := by kernel_rfl
theorem Tryz.rt : (Tryz.prog.cutTypes.find? (·.1 == "internal/reflectlite.rtype")).map (·.2) = some 276 := by kernel_rfl
theorem Tryz.oneRow : ((List.range 501).filter fun t => Tryz.prog.rowNamed t [101, 114, 114, 111, 114]) = [70] := by kernel_rfl
theorem Tryz.size : Tryz.prog.types.size = 501 := by kernel_rfl

def nineLaid : List (String × Nat × List UInt8) := [
 ("builder/builder.ErrName", 0, [97, 32, 110, 97, 109, 101, 32, 116, 104, 97, 116, 32, 109, 97, 121, 32, 110, 111, 116, 32, 98, 101]),
 ("builder/builder.ErrNone", 1, [116, 104, 101, 114, 101, 32, 105, 115, 32, 110, 111, 32, 115, 117, 99, 104, 32, 102, 105, 108, 101]),
 ("builder/builder.ErrRoom", 2, [116, 104, 101, 114, 101, 32, 105, 115, 32, 110, 111, 32, 114, 111, 111, 109]),
 ("builder/builder.ErrDown", 3, [116, 104, 101, 32, 102, 105, 108, 101, 115, 32, 97, 114, 101, 32, 100, 111, 119, 110]),
 ("builder/builder.ErrSyntax", 4, [97, 32, 108, 105, 110, 101, 32, 116, 104, 97, 116, 32, 109, 97, 121, 32, 110, 111, 116, 32, 98, 101]),
 ("builder/builder.ErrRule", 5, [110, 111, 32, 115, 117, 99, 104, 32, 114, 117, 108, 101, 44, 32, 111, 114, 32, 111, 110, 101, 32, 116, 104, 97, 116, 32, 105, 115, 32, 116, 104, 101, 114, 101, 32, 97, 108, 114, 101, 97, 100, 121]),
 ("builder/builder.ErrTwice", 6, [97, 32, 102, 105, 108, 101, 32, 116, 104, 97, 116, 32, 116, 119, 111, 32, 109, 97, 107, 101]),
 ("builder/builder.ErrCycle", 7, [97, 32, 102, 105, 108, 101, 32, 116, 104, 97, 116, 32, 104, 97, 110, 103, 115, 32, 111, 110, 32, 105, 116, 115, 101, 108, 102]),
 ("builder/builder.ErrTarget", 8, [110, 111, 32, 115, 117, 99, 104, 32, 116, 97, 114, 103, 101, 116])]
theorem nineLaid_at (k : Nat) (hk : k < 9) : ∃ x, nineLaid[k]? = some x ∧ x.2.1 = k + 0 ∧ 1 ≤ x.2.2.length ∧ x.2.2.length ≤ 100 := by
 match k, hk with
 | 0, _ => exact ⟨_, rfl, rfl, by decide, by decide⟩
 | 1, _ => exact ⟨_, rfl, rfl, by decide, by decide⟩
 | 2, _ => exact ⟨_, rfl, rfl, by decide, by decide⟩
 | 3, _ => exact ⟨_, rfl, rfl, by decide, by decide⟩
 | 4, _ => exact ⟨_, rfl, rfl, by decide, by decide⟩
 | 5, _ => exact ⟨_, rfl, rfl, by decide, by decide⟩
 | 6, _ => exact ⟨_, rfl, rfl, by decide, by decide⟩
 | 7, _ => exact ⟨_, rfl, rfl, by decide, by decide⟩
 | 8, _ => exact ⟨_, rfl, rfl, by decide, by decide⟩
 | n + 9, h => exact absurd h (by omega)
theorem nineLaid_globals : ∀ x ∈ nineLaid, Tryz.prog.globalNamed x.1 = some x.2.1 ∧ (Tryz.prog.globals[x.2.1]?).map (·.type) = some 70 := by
 have h : (nineLaid.all fun x => Tryz.prog.globalNamed x.1 == some x.2.1 && (Tryz.prog.globals[x.2.1]?).map (·.type) == some 70) = true := by kernel_rfl
 intro x hx
 have := List.all_eq_true.1 h x hx
 simpa using this

theorem sents_of_laid {W : World} (h : laidMetH Tryz.prog Rows.parsesRow.laid W) : ∃ a t, Sents a t W := by
 have h' : laidMet Tryz.prog (("builder/sums.roundWords", Rows.laid_builder_sums_roundWords) :: ("unicode/utf8.acceptRanges", Rows.laid_unicode_utf8_acceptRanges) :: ((nineLaid.map fun x => (x.1, .iface "*errors.errorString" (.ptr (.agg [.lit (.string x.2.2)])))) ++ [("unicode/utf8.first", Rows.laid_unicode_utf8_first)])) W ∧ handlesMet Tryz.prog [("errors.errorType", Rows.laid_errors_errorType)] W := h
 obtain ⟨⟨ps0, hv0, hnd0, hrows0⟩, hh⟩ := h'
 obtain ⟨_, _, _, _, p1, q1, _, _, _, _, hv1, e1⟩ := hv0
 obtain ⟨_, _, _, _, p2, ps, _, _, _, _, hv, e2⟩ := hv1
 have hsub0 : ps.Sublist ps0 := by
  rw [e1, e2]
  exact (List.sublist_append_right _ _).trans (List.sublist_append_right _ _)
 have hnd := hnd0.sublist hsub0
 have hrows := fun b off hm => hrows0 b off (hsub0.subset hm)
 obtain ⟨L, hlen, hsub, hL⟩ := sents_of_vars Tryz.underlying70 Tryz.row66 Tryz.underlying472 Tryz.underlying490 rfl rfl Tryz.underlying9 Tryz.cells107 Tryz.cells9 [("unicode/utf8.first", Rows.laid_unicode_utf8_first)] nineLaid ps nineLaid_globals hv hrows
 have hlen9 : L.length = 9 := hlen
 have hnd' := hnd.sublist hsub
 have at' : ∀ k, k < 9 → ∃ y, L[k]? = some y := fun k hk => ⟨_, List.getElem?_eq_getElem (by omega)⟩
 refine ⟨fun k => ((L[k]?).map (·.1)).getD ⟨0, 0, none⟩, fun k => ((L[k]?).map (·.2)).getD ByteArray.empty, ?_, ?_, ?_, ?_, ?_, ?_, ?_⟩
 ·intro k hk
  obtain ⟨x, hx, e, _, _⟩ := nineLaid_at k hk
  obtain ⟨y, hy⟩ := at' k hk
  have := (hL k x y hx hy).1
  rw [e] at this
  simp only [hy, Option.map_some, Option.getD_some]
  exact this
 ·intro k hk
  obtain ⟨x, hx, e, _, _⟩ := nineLaid_at k hk
  obtain ⟨y, hy⟩ := at' k hk
  simp only [hy, Option.map_some, Option.getD_some]
  exact (hL k x y hx hy).2.2.2
 ·intro k hk
  obtain ⟨x, hx, e, _, _⟩ := nineLaid_at k hk
  obtain ⟨y, hy⟩ := at' k hk
  simp only [hy, Option.map_some, Option.getD_some]
  exact (hL k x y hx hy).2.1
 ·intro k hk
  obtain ⟨x, hx, e, h1, _⟩ := nineLaid_at k hk
  obtain ⟨y, hy⟩ := at' k hk
  simp only [hy, Option.map_some, Option.getD_some]
  have := (hL k x y hx hy).2.2.1
  show 1 ≤ y.2.data.size
  rw [← Array.length_toList, this]; exact h1
 ·intro k hk
  obtain ⟨x, hx, e, _, h2⟩ := nineLaid_at k hk
  obtain ⟨y, hy⟩ := at' k hk
  simp only [hy, Option.map_some, Option.getD_some]
  have := (hL k x y hx hy).2.2.1
  show y.2.data.size ≤ 100
  rw [← Array.length_toList, this]; exact h2
 ·intro j k hj hk e
  obtain ⟨y, hy⟩ := at' j hj
  obtain ⟨z, hz⟩ := at' k hk
  simp only [hy, hz, Option.map_some, Option.getD_some] at e
  have hy' : (L.map fun y => MemPlace.cell y.1.block y.1.off)[j]? = some (MemPlace.cell y.1.block y.1.off) := by simp [hy]
  have hz' : (L.map fun y => MemPlace.cell y.1.block y.1.off)[k]? = some (MemPlace.cell y.1.block y.1.off) := by simp [hz, e]
  exact (List.getElem?_inj (i := j) (by simp; omega) hnd').1 (hy'.trans hz'.symm)
 ·obtain ⟨name, u, ty, e1, e2, e3, e4, e5⟩ := hh _ (List.mem_singleton.2 rfl)
  have en : name = [101, 114, 114, 111, 114] := (Option.some.inj e1).symm
  subst en
  obtain rfl := Option.some.inj (Tryz.rt.symm.trans e2)
  have hm : ty ∈ (List.range 501).filter fun t => Tryz.prog.rowNamed t [101, 114, 114, 111, 114] := List.mem_filter.2 ⟨List.mem_range.2 (by rw [← Tryz.size]; exact e3), e4⟩
  rw [Tryz.oneRow] at hm
  obtain rfl := List.mem_singleton.1 hm
  have hh : typeHandle Tryz.prog 70 = .pointer (some ⟨14, 70, none⟩) := by kernel_rfl
  rw [hh] at e5
  simpa using World.var?_cell Tryz.et e5 0

theorem size_of_var {P : Program} {w : World} {n : String} {g : Nat} {cs : Array Value} (hg : P.globalNamed n = some g) (h : w.var? P n = some cs) : g < w.heap.size := by
 simp only [World.var?, hg, Option.bind_some] at h
 split at h
 ·rename_i he
  exact (Array.getElem?_eq_some_iff.1 he).1
 ·cases h
theorem Tryz.acceptAt : Tryz.prog.globalNamed "unicode/utf8.acceptRanges" = some 13 := by kernel_rfl
theorem globs_of_laid {W : World} (h : laidMetH Tryz.prog Rows.parsesRow.laid W) : 14 ≤ W.heap.size := by
 have h' : laidMet Tryz.prog (("builder/sums.roundWords", Rows.laid_builder_sums_roundWords) :: ("unicode/utf8.acceptRanges", Rows.laid_unicode_utf8_acceptRanges) :: ((nineLaid.map fun x => (x.1, .iface "*errors.errorString" (.ptr (.agg [.lit (.string x.2.2)])))) ++ [("unicode/utf8.first", Rows.laid_unicode_utf8_first)])) W ∧ handlesMet Tryz.prog [("errors.errorType", Rows.laid_errors_errorType)] W := h
 obtain ⟨⟨ps0, hv0, hnd0, hrows0⟩, hh⟩ := h'
 obtain ⟨_, _, _, _, p1, q1, _, _, _, _, hv1, e1⟩ := hv0
 obtain ⟨g, _, cs, _, p2, ps, hg, _, hc, _, hv, e2⟩ := hv1
 obtain rfl := Option.some.inj (Tryz.acceptAt.symm.trans hg)
 exact size_of_var Tryz.acceptAt hc

theorem gl_of_laid {W : World} {a : Nat → Addr} {t : Nat → ByteArray} (hS : Sents a t W) (hg : 14 ≤ W.heap.size) (hsh : W.ShapedOpen Tryz.prog) : Gl a W where
 size := hg
 errs := fun k hk => hS.cell k hk
 most := cell_of_shapedOpen_int (t := 3) (zero := #[.int .i64 0]) (k := .i64) hsh (of_decide_eq_true (by kernel_rfl)) (by kernel_rfl) rfl (by kernel_rfl) (by kernel_rfl) Tryz.underlying3
theorem parses_met (os : Os) (args : Array Value) : laidMetH Tryz.prog Rows.parsesRow.laid (({ World.doorLaid Tryz.prog 4000 os with heap := (World.doorLaid Tryz.prog 4000 os).heap.modify 12 pinFirst } : World).forCall (fun _ _ => 0) ⟨#[], args, []⟩).memory :=
 laidMetH_of_parts3 (fuel := 8) (laidMet_of_run' 8 (by kernel_rfl) (by kernel_rfl)) (by kernel_rfl) (by kernel_rfl)
end Go.Proofs.YthhbpebihgjpjaaGreatDoor
