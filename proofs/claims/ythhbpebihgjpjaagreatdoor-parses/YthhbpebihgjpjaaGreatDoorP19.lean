import Derived.Test.YthhbpebihgjpjaaGreatDoorP17
import Derived.Test.YthhbpebihgjpjaaGreatDoorP18
import Derived.Test.YthhbpebihgjpjaaGreatDoorP07
import Derived.Test.YthhbpebihgjpjaaGreatDoorP15
import Derived.Laws.MakeOwn
import Derived.BigRegion
namespace Go.Proofs.YthhbpebihgjpjaaGreatDoor
open Go.RowKit Go.Maps
set_option maxRecDepth 1000000

theorem ownS_rest {top : Binds} : ∀ {rest : List Line} {own own' : Binds} {rest' : List Line}, ownS top rest own = .ok (own', rest') → rest'.length ≤ rest.length
 | [], own, own', rest', h => by
  rw [ownS] at h
  injection h with h
  obtain ⟨rfl, rfl⟩ := Prod.mk.inj h
  exact Nat.le_refl _
 | y :: rest, own, own', rest', h => by
  rw [ownS] at h
  by_cases hb : begins y.2 32 = true
  ·rw [if_pos hb] at h
   cases hbs : bindS y.2 with
   | none => rw [hbs] at h; cases h
   | some nv =>
    rw [hbs] at h
    simp only at h
    cases hx : expandS (envOf own top) nv.2 with
    | none => rw [hx] at h; cases h
    | some z =>
     rw [hx] at h
     have := ownS_rest h
     rw [List.length_cons]; omega
  ·rw [if_neg hb] at h
   injection h with h
   obtain ⟨rfl, rfl⟩ := Prod.mk.inj h
   exact Nat.le_refl _
theorem indented_rest {ls : List Line} {xr : Line × List Line} (h : indented ls = some xr) : xr.2.length ≤ ls.length := by
 cases ls with
 | nil => cases h
 | cons x r =>
  rw [show indented (x :: r) = if begins x.2 32 = true then some (x, r) else none from rfl] at h
  split at h
  ·obtain rfl := Option.some.inj h
   exact Nat.le_succ _
  ·cases h
theorem ruleS_rest {S : St} {no : Nat} {t : ByteArray} {rest : List Line} {S' : St} {rest' : List Line} (h : ruleS S no t rest = .ok (S', rest')) : rest'.length ≤ rest.length := by
 unfold ruleS at h
 split at h
 ·cases h
 ·split at h
  ·cases h
  ·split at h
   ·cases h
   ·rename_i xr hx
    split at h
    ·cases h
    ·split at h
     ·cases h
     ·split at h
      ·cases h
      ·injection h with h
       obtain ⟨_, rfl⟩ := Prod.mk.inj h
       exact indented_rest hx
theorem buildS_rest {S : St} {no : Nat} {t : ByteArray} {rest : List Line} {S' : St} {rest' : List Line} (h : buildS S no t rest = .ok (S', rest')) : rest'.length ≤ rest.length := by
 unfold buildS at h
 split at h
 ·cases h
 ·split at h
  ·cases h
  ·split at h
   ·cases h
   ·split at h
    ·cases h
    ·split at h
     ·cases h
     ·rename_i ol ho
      injection h with h
      obtain ⟨_, rfl⟩ := Prod.mk.inj h
      exact ownS_rest (own' := ol.1) ho
theorem stmtS_rest {S : St} {no : Nat} {t : ByteArray} {rest : List Line} {S' : St} {rest' : List Line} (h : stmtS S no t rest = .ok (S', rest')) : rest'.length ≤ rest.length := by
 unfold stmtS at h
 split at h
 ·cases h
 ·split at h
  ·exact ruleS_rest h
  ·split at h
   ·exact buildS_rest h
   ·split at h
    ·unfold defaultS at h
     split at h
     ·cases h
     ·split at h
      ·cases h
      ·injection h with h
       obtain ⟨_, rfl⟩ := Prod.mk.inj h
       exact Nat.le_refl _
    ·unfold varS at h
     split at h
     ·cases h
     ·split at h
      ·cases h
      ·injection h with h
       obtain ⟨_, rfl⟩ := Prod.mk.inj h
       exact Nat.le_refl _
theorem runS_fuel : ∀ (g g' : Nat) (S : St) (ls : List Line), ls.length ≤ g → ls.length ≤ g' → runS g S ls = runS g' S ls
 | 0, 0, _, _, _, _ => rfl
 | 0, g' + 1, S, [], _, _ => by rw [runS, runS]
 | 0, _ + 1, _, _ :: _, h, _ => by simp at h
 | g + 1, 0, S, [], _, _ => by rw [runS, runS]
 | _ + 1, 0, _, _ :: _, _, h => by simp at h
 | g + 1, g' + 1, S, [], _, _ => by rw [runS, runS]
 | g + 1, g' + 1, S, x :: rest, h1, h2 => by
  rw [runS, runS]
  rw [List.length_cons] at h1 h2
  cases hs : stmtS S x.1 x.2 rest with
  | error e => rfl
  | ok Sr =>
   have := stmtS_rest (S' := Sr.1) (rest' := Sr.2) hs
   exact runS_fuel g g' Sr.1 Sr.2 (by omega) (by omega)
def runAll (S : St) (ls : List Line) : Except (Bad × Nat) St := runS ls.length S ls
theorem runAll_nil (S : St) : runAll S [] = .ok S := rfl
theorem runAll_cons (S : St) (x : Line) (rest : List Line) : runAll S (x :: rest) = match stmtS S x.1 x.2 rest with
  | .error e => .error e
  | .ok Sr => runAll Sr.1 Sr.2 := by
 unfold runAll
 rw [List.length_cons, runS]
 cases hs : stmtS S x.1 x.2 rest with
 | error e => rfl
 | ok Sr => exact runS_fuel _ _ _ _ (stmtS_rest (S' := Sr.1) (rest' := Sr.2) hs) (Nat.le_refl _)
theorem state_start {a : Nat → Addr} {B : Nat} {w w2 w4 : World} {sb tb : Nat} {v : Value} {ls : List Line} (hg : Gl a w) (hB : 14 ≤ B) (hBw : B ≤ w.heap.size) (hrow : w2.heap[sb]? = some (.cells #[.map (some tb), .pointer none] 302 (0, 0))) (hmap : BMap w2 tb 0 []) (htb : w.heap.size ≤ tb ∧ tb < sb) (hb2 : Below w.heap.size w w2) (hl : OwnLn w4 (((w2.alloc (.map #[] 0)).alloc (.map #[] 0)).alloc (.cells #[.int .i64 0, .slice none 0 0, .pointer (some ⟨sb, 0, none⟩), .map (some w2.heap.size), .map (some (w2.heap.size + 1)), .slice none 0 0, .slice none 0 0] 201)).heap.size v ls) (hb4 : Below (((w2.alloc (.map #[] 0)).alloc (.map #[] 0)).alloc (.cells #[.int .i64 0, .slice none 0 0, .pointer (some ⟨sb, 0, none⟩), .map (some w2.heap.size), .map (some (w2.heap.size + 1)), .slice none 0 0, .slice none 0 0] 201)).heap.size (((w2.alloc (.map #[] 0)).alloc (.map #[] 0)).alloc (.cells #[.int .i64 0, .slice none 0 0, .pointer (some ⟨sb, 0, none⟩), .map (some w2.heap.size), .map (some (w2.heap.size + 1)), .slice none 0 0, .slice none 0 0] 201)) w4) (hls : ∀ x ∈ ls, x.2.size ≤ 4000) (hlc : ls.length ≤ 5000) :
  ∃ p, PStC p a B (w4.setCell ⟨w2.heap.size + 2, 1, none⟩ v) (w2.heap.size + 2) (0 : Nat) ls St.none 5000 := by
 have hsb := heap_lt hrow
 generalize hw3 : ((w2.alloc (.map #[] 0)).alloc (.map #[] 0)).alloc (.cells #[.int .i64 0, .slice none 0 0, .pointer (some ⟨sb, 0, none⟩), .map (some w2.heap.size), .map (some (w2.heap.size + 1)), .slice none 0 0, .slice none 0 0] 201) = w3 at *
 have h3s : w3.heap.size = w2.heap.size + 3 := by rw [← hw3]; simp
 have h3o : ∀ k, k < w2.heap.size → w3.heap[k]? = w2.heap[k]? := fun k hk => by
  rw [← hw3, heapA_old _ _ k (by simp; omega), heapA_old _ _ k (by simp; omega), heapA_old _ _ k hk]
 have h3r : w3.heap[w2.heap.size + 2]? = some (.cells #[.int .i64 0, .slice none 0 0, .pointer (some ⟨sb, 0, none⟩), .map (some w2.heap.size), .map (some (w2.heap.size + 1)), .slice none 0 0, .slice none 0 0] 201 (0, 0)) := by
  rw [← hw3]; exact heapA_new _ _ _ (by simp)
 have hm1 : BMap w3 w2.heap.size 0 [] := by
  have h1 : BMap (w2.alloc (.map #[] 0)) w2.heap.size 0 [] := TMap.made textC textZ ⟨_, _, rfl⟩ w2
  refine TMap.keep h1 ?_
  rw [← hw3, heapA_old _ _ _ (by simp; omega), heapA_old _ _ _ (by simp)]
 have hm2 : UMap w3 (w2.heap.size + 1) 0 [] := by
  have h1 : UMap ((w2.alloc (.map #[] 0)).alloc (.map #[] 0)) (w2.alloc (.map #[] 0)).heap.size 0 [] := TMap.made unitC (.agg #[]) ⟨_, _, rfl⟩ (w2.alloc (.map #[] 0))
  have e : (w2.alloc (.map #[] 0)).heap.size = w2.heap.size + 1 := by simp
  rw [e] at h1
  refine TMap.keep h1 ?_
  rw [← hw3, heapA_old _ _ _ (by simp)]
 clear hw3
 have h5 : ∀ k, k ≠ w2.heap.size + 2 → (w4.setCell ⟨w2.heap.size + 2, 1, none⟩ v).heap[k]? = w4.heap[k]? := fun k hk => heap_setCell_other _ _ _ _ hk
 have h53 : ∀ k, k < w3.heap.size → k ≠ w2.heap.size + 2 → (w4.setCell ⟨w2.heap.size + 2, 1, none⟩ v).heap[k]? = w3.heap[k]? := fun k h1 h2 => (h5 k h2).trans (hb4.block k h1)
 have hs5 : (w4.setCell ⟨w2.heap.size + 2, 1, none⟩ v).heap.size = w4.heap.size := by simp
 have h4s := hb4.size
 have hvb : ∀ k, v.ownBlock = some k → w3.heap.size ≤ k ∧ k < w4.heap.size := fun k hk => rblock hl k hk
 refine ⟨{ c := fun k => if k = w2.heap.size + 2 then 1 else if k = tb then 2 else if k = w2.heap.size then 3 else if k = w2.heap.size + 1 then 4 else if k < B then 9 else 0, vl := v, vd := .slice none 0 0, vf := .slice none 0 0, sb := sb, tb := tb, rm := w2.heap.size, mm := w2.heap.size + 1, n1 := 0, n2 := 0, n3 := 0, ds := [] }, ?_⟩
 have hc0 : ∀ k, k ≠ w2.heap.size + 2 → k ≠ tb → k ≠ w2.heap.size → k ≠ w2.heap.size + 1 → B ≤ k → (if k = w2.heap.size + 2 then 1 else if k = tb then 2 else if k = w2.heap.size then 3 else if k = w2.heap.size + 1 then 4 else if k < B then 9 else 0) = 0 := fun k h1 h2 h3 h4 h5 => by
  rw [if_neg h1, if_neg h2, if_neg h3, if_neg h4, if_neg (by omega)]
 have hb2s := hb2.size
 exact {
  gl := hg.keep (by omega) (fun k hk => ((h53 k (by have := hg.size; omega) (by have := hg.size; omega)).trans (h3o k (by have := hg.size; omega))).trans (hb2.block k (by have := hg.size; omega)))
  base := hB
  row := by
   show (w4.setCell ⟨w2.heap.size + 2, 1, none⟩ v).heap[w2.heap.size + 2]? = _
   rw [heap_setCell_same _ _ _ _ _ _ ((hb4.block _ (by omega)).trans h3r)]; rfl
  const := fun w'' hs hk => by
   refine ⟨(lines_of_row hl).keep (fun k h1 h2 => ?_), ?_, rfl, fun k d e hd => by simp at hd⟩
   ·obtain ⟨o, n, c, e⟩ := h2
    have h3 := hvb k (by rw [e]; rfl)
    exact (hk k (by omega) (hc0 k (by omega) (by omega) (by omega) (by omega) (by omega))).trans (h5 k (by omega))
   ·exact ((hk sb (by omega) (hc0 sb (by omega) (by omega) (by omega) (by omega) (by omega))).trans ((h53 sb (by omega) (by omega)).trans (h3o sb hsb))).trans hrow
  top := TMap.keep hmap ((h53 tb (by omega) (by omega)).trans (h3o tb (by omega)))
  rules := TMap.keep hm1 (h53 w2.heap.size (by omega) (by omega))
  mlt := by show w2.heap.size + 1 < _; omega
  made := TMap.keep hm2 (h53 (w2.heap.size + 1) (by omega) (by omega))
  drafts := World.ownsRow_nil _ _ _ _
  defs := World.ownsRow_nil _ _ _ _
  c1 := if_pos rfl
  c2 := by show (if tb = w2.heap.size + 2 then 1 else if tb = tb then 2 else _) = 2; rw [if_neg (by omega), if_pos rfl]
  c3 := by show (if w2.heap.size = w2.heap.size + 2 then 1 else if w2.heap.size = tb then 2 else if w2.heap.size = w2.heap.size then 3 else _) = 3; rw [if_neg (by omega), if_neg (by omega), if_pos rfl]
  c4 := by show (if w2.heap.size + 1 = w2.heap.size + 2 then 1 else if w2.heap.size + 1 = tb then 2 else if w2.heap.size + 1 = w2.heap.size then 3 else if w2.heap.size + 1 = w2.heap.size + 1 then 4 else _) = 4; rw [if_neg (by omega), if_neg (by omega), if_neg (by omega), if_pos rfl]
  c5 := fun k hk => by cases hk
  c6 := fun k hk => by cases hk
  low := fun k hk => by
   show (if k = w2.heap.size + 2 then 1 else if k = tb then 2 else if k = w2.heap.size then 3 else if k = w2.heap.size + 1 then 4 else if k < B then 9 else 0) = 9
   rw [if_neg (by omega), if_neg (by omega), if_neg (by omega), if_neg (by omega), if_pos hk]
  few := by show 0 + 5000 ≤ 5000 ∧ 0 + 5000 ≤ 5000 ∧ 0 + 8000 * 5000 ≤ 40000000; omega
  ok := { top := (fun x hx => by cases hx), tops := Nat.le_refl _, rules := (fun x hx => by cases hx), rulen := Nat.le_refl _, edges := Nat.zero_le _, edge := (fun x hx => by cases hx), defs := (by show 0 + 4000 * 5000 ≤ 20000000; omega), lines := hls, count := hlc } }
end Go.Proofs.YthhbpebihgjpjaaGreatDoor

namespace Go.Proofs.YthhbpebihgjpjaaGreatDoor
open Go.RowKit Go.Shelf
set_option maxRecDepth 1000000

theorem joinP_list : ∀ (q : List ByteArray) (x : ByteArray), (q.foldl (fun a y => a ++ ⟨#[32]⟩ ++ y) x).data.toList = x.data.toList ++ Lib.joinTail [32] (q.map (·.data.toList))
 | [], x => by simp [Lib.joinTail]
 | y :: r, x => by
  rw [List.foldl_cons, joinP_list r]
  simp [Lib.joinTail, ByteArray.data_append]
theorem pjoin_any (l : List ByteArray) (v : Value) (w : World) (h : TextsAt w v l) (hl : l.length ≤ 10000) (hs : ∀ y ∈ l, y.size ≤ 10000) :
  Calls Tryz.prog 200 #[v, .string ⟨#[32]⟩] w fun e w' => e = .returned (.string (joinP l)) ∧ Below w.heap.size w w' := by
 obtain ⟨ao, cap, rfl, hcap, h⟩ := h
 cases l with
 | nil =>
  refine (Any.strings_Join_none Tryz.lays156 Tryz.Builder_Extra_156 ao cap ⟨#[32]⟩ w).mono ?_
  rintro e w' ⟨he, hw⟩
  exact ⟨he, by rw [hw]; exact Below.refl _ _⟩
 | cons x q =>
  obtain ⟨b, o, rfl, hc⟩ : ∃ b o, ao = some ⟨b, o, none⟩ ∧ ∀ k s, (x :: q)[k]? = some s → w.cell? ⟨b, o + k, none⟩ = some (.string s) := by
   rcases h with e | e
   ·cases e.2.1
   ·exact e
  have hj : Lib.join ((x :: q).map (·.data.toList)) (ByteArray.mk #[32]).data.toList = (joinP (x :: q)).data.toList := by
   rw [List.map_cons, Lib.join_cons]
   exact (joinP_list q x).symm
  have hz := joinP_size 10000 (x :: q) hs
  have hz2 : (joinP (x :: q)).size ≤ 10000 * 10001 := Nat.le_trans hz (Nat.mul_le_mul_right _ hl)
  refine (Any.strings_Join Tryz.lays156 Tryz.Builder_Extra_156 b o cap (x :: q) ⟨#[32]⟩ w hc (block_lt_of_cell (hc 0 x rfl)) (by omega) hcap ?_).mono ?_
  ·rw [hj]
   show (joinP (x :: q)).size ≤ _
   omega
  ·rintro e w' ⟨he, hw⟩
   refine ⟨?_, hw⟩
   rw [he, hj]
end Go.Proofs.YthhbpebihgjpjaaGreatDoor

namespace Go.Proofs.YthhbpebihgjpjaaGreatDoor
open Go.RowKit Go.Maps
set_option maxRecDepth 1000000

def ecell (d : DraftV) (c : ByteArray) : List Value := [d.vo, d.vi, d.vm, d.vr, .string d.rule, .string c]
def ecells : List DraftV → List ByteArray → List Value
 | d :: ds, c :: cs => ecell d c ++ ecells ds cs
 | _, _ => []
theorem ecells_snoc : ∀ (ds : List DraftV) (cs : List ByteArray) (d : DraftV) (c : ByteArray), ds.length = cs.length → ecells (ds ++ [d]) (cs ++ [c]) = ecells ds cs ++ ecell d c
 | [], [], d, c, _ => by simp [ecells]
 | x :: ds, y :: cs, d, c, h => by
  show ecell x y ++ ecells (ds ++ [d]) (cs ++ [c]) = (ecell x y ++ ecells ds cs) ++ _
  rw [ecells_snoc ds cs d c (by simpa using h), List.append_assoc]
 | [], _ :: _, _, _, h => by cases h
 | _ :: _, [], _, _, h => by cases h
theorem commands_some (S : St) : ∀ (es : List EdgeS) (cs : List ByteArray), cs.length = es.length → (∀ (k : Nat) e c, es[k]? = some e → cs[k]? = some c → commandS S e = some c) → commandsS S es = some cs
 | [], [], _, _ => rfl
 | e :: es, c :: cs, h, hk => by
  have h0 := hk 0 e c rfl rfl
  have h1 := commands_some S es cs (by simpa using h) (fun k e c h1 h2 => hk (k + 1) e c (by simpa using h1) (by simpa using h2))
  rw [commandsS, h0, h1]; rfl
 | [], _ :: _, h, _ => by cases h
 | _ :: _, [], h, _ => by cases h
theorem commands_none (S : St) : ∀ (es : List EdgeS) (k : Nat) (e : EdgeS), es[k]? = some e → commandS S e = none → commandsS S es = none
 | [], k, e, h, _ => by simp at h
 | x :: es, 0, e, h, hn => by
  simp only [List.getElem?_cons_zero, Option.some.injEq] at h
  subst h
  rw [commandsS, hn]
 | x :: es, k + 1, e, h, hn => by
  have h1 := commands_none S es k e (by simpa using h) hn
  rw [commandsS, h1]
  cases commandS S x <;> rfl
theorem dcells_at : ∀ (ds : List DraftV) (j : Nat) (d : DraftV) (i : Nat), ds[j]? = some d → i < 7 → (dcells ds)[j * 7 + i]? = d.cells[i]?
 | [], j, d, i, h, _ => by simp at h
 | x :: ds, 0, d, i, h, hi => by
  simp only [List.getElem?_cons_zero, Option.some.injEq] at h
  subst h
  show (x.cells ++ dcells ds)[0 * 7 + i]? = _
  rw [Nat.zero_mul, Nat.zero_add, List.getElem?_append_left (by show i < 7; exact hi)]
 | x :: ds, j + 1, d, i, h, hi => by
  show (x.cells ++ dcells ds)[(j + 1) * 7 + i]? = _
  rw [List.getElem?_append_right (by show 7 ≤ _; omega), show (j + 1) * 7 + i - x.cells.length = j * 7 + i by show (j + 1) * 7 + i - 7 = _; omega]
  exact dcells_at ds j d i (by simpa using h) hi
theorem joinP32 {l : List ByteArray} (h : ∀ x ∈ l, x.size ≤ 32) : (joinP l).size ≤ 33 * l.length := by
 have hf : ∀ (l : List ByteArray) (a : ByteArray), (∀ x ∈ l, x.size ≤ 32) → (l.foldl (fun a y => a ++ ⟨#[32]⟩ ++ y) a).size ≤ a.size + 33 * l.length := by
  intro l
  induction l with
  | nil => intro a _; exact Nat.le_refl _
  | cons y l ih =>
   intro a hl
   have h1 := ih (a ++ ⟨#[32]⟩ ++ y) (fun x hx => hl x (List.mem_cons_of_mem _ hx))
   have h2 := hl y List.mem_cons_self
   rw [ByteArray.size_append, ByteArray.size_append] at h1
   have h3 : (⟨#[32]⟩ : ByteArray).size = 1 := rfl
   rw [List.foldl_cons, List.length_cons]
   omega
 cases l with
 | nil => exact Nat.zero_le _
 | cons x l =>
  have h1 := hf l x (fun y hy => h y (List.mem_cons_of_mem _ hy))
  have h2 := h x List.mem_cons_self
  rw [List.length_cons]
  show (l.foldl _ x).size ≤ _
  omega
theorem envL_le {N : Nat} {ls : List Binds} (h : ∀ l ∈ ls, ∀ x ∈ l, x.2.size ≤ N) (x : ByteArray) : (envL ls x).size ≤ N := by
 induction ls with
 | nil => exact Nat.zero_le _
 | cons l ls ih =>
  rw [envL]
  cases hb : bindOf l x with
  | none => exact ih (fun l hl => h l (List.mem_cons_of_mem _ hl))
  | some y =>
   obtain ⟨z, hz, _, rfl⟩ := bindOf_mem hb
   exact h l List.mem_cons_self z hz
theorem envL_nil2 {ls : List Binds} (h : ∀ l ∈ ls, ∀ x ∈ l, 0 < x.1.size) : envL ls ⟨#[]⟩ = ⟨#[]⟩ := by
 induction ls with
 | nil => rfl
 | cons l ls ih =>
  rw [envL]
  cases hb : bindOf l ⟨#[]⟩ with
  | none => exact ih (fun l hl => h l (List.mem_cons_of_mem _ hl))
  | some y =>
   obtain ⟨z, hz, e, _⟩ := bindOf_mem hb
   have := h l List.mem_cons_self z hz
   rw [e] at this
   exact absurd this (by decide)
def inOut (e : EdgeS) : Binds := setB (setB [] tIn (joinP e.ins)) tOut (joinP e.outs)
theorem inOut_is (e : EdgeS) : inOut e = [(tIn, joinP e.ins), (tOut, joinP e.outs)] := by
 unfold inOut
 show setB [(tIn, joinP e.ins)] tOut _ = _
 rw [setB, if_neg (show ¬ tIn = tOut by decide), setB]
theorem commandS_is (S : St) (e : EdgeS) : commandS S e = expandS (envL [inOut e, e.own, S.top]) ((bindOf S.rules e.rule).getD ⟨#[]⟩) := by
 unfold commandS
 rw [env_three]; rfl
def finEnd (a : Nat → Addr) (n : Int) (W0 : Nat) (ds : List DraftV) (L : Nat) (r : Option (List ByteArray)) (e : Ending) (w' : World) : Prop := match r with
 | none => Stopped n (reasonV a 4) e w'
 | some cs => ∃ v, e = .returned v ∧ w'.ownsRow W0 63 6 v L (ecells ds cs)
theorem ruleSize {S : St} {m : Nat} {ls : List Line} (h : SOk S m ls) (x : ByteArray) : ((bindOf S.rules x).getD ⟨#[]⟩).size ≤ 4000 := by
 cases hb : bindOf S.rules x with
 | none => exact Nat.zero_le _
 | some y =>
  obtain ⟨z, hz, _, rfl⟩ := bindOf_mem hb
  exact h.rules z hz
theorem DraftsAt.keepB {w w' : World} {sb : Nat} {ds : List DraftV} {es : List EdgeS} (h : DraftsAt w sb ds es) (hb : ∀ k, k < w.heap.size → w'.heap[k]? = w.heap[k]?) : DraftsAt w' sb ds es := by
 refine ⟨h.1, fun k d e hd he => ?_⟩
 have q := h.2 k d e hd he
 have hk : ∀ {v : Value} {l : List ByteArray}, TextsAt w v l → TextsAt w' v l := by
  rintro v l ⟨ao, cap, rfl, hc, q | ⟨b, o, rfl, q⟩⟩
  ·exact ⟨ao, cap, rfl, hc, Or.inl q⟩
  ·exact ⟨_, cap, rfl, hc, Or.inr ⟨b, o, rfl, fun k s hs => (World.cell?_of_block (w := w) (a := ⟨b, o + k, none⟩) (hb b (block_lt_of_cell (q k s hs)))).trans (q k s hs)⟩⟩
 obtain ⟨tb, n, h1, h2, h3⟩ := q.own
 exact ⟨hk q.outs, hk q.ins, hk q.impl, hk q.ord, q.rule, tb, n, h1, (hb _ (heap_lt h2)).trans h2, TMap.keep h3 (hb _ h3.lt)⟩
theorem inOut_le {e : EdgeS} (h1 : e.ins.length ≤ 4000) (h2 : e.outs.length ≤ 8000) (h3 : ∀ x ∈ e.outs, x.size ≤ 32) (h4 : ∀ x ∈ e.ins, x.size ≤ 32) : ∀ x ∈ inOut e, x.2.size ≤ 1000000 ∧ 0 < x.1.size := by
 intro x hx
 rw [inOut_is] at hx
 rcases List.mem_cons.1 hx with rfl | hx
 ·have := joinP32 h4; exact ⟨by show (joinP e.ins).size ≤ _; omega, by show 0 < tIn.size; decide⟩
 ·obtain rfl := List.mem_singleton.1 hx
  have := joinP32 h3; exact ⟨by show (joinP e.outs).size ≤ _; omega, by show 0 < tOut.size; decide⟩
end Go.Proofs.YthhbpebihgjpjaaGreatDoor
