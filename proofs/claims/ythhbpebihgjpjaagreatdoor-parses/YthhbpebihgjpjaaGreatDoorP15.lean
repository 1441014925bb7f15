import Derived.Test.YthhbpebihgjpjaaGreatDoorP14
import Derived.Test.YthhbpebihgjpjaaGreatDoorP11
import Derived.Test.YthhbpebihgjpjaaGreatDoorP07
import Derived.Lib.AppendZeros
import Derived.Laws.AppendOwnNone
namespace Go.Proofs.YthhbpebihgjpjaaGreatDoor
open Go.RowKit Go.Maps
set_option maxRecDepth 1000000

theorem setB_length (x v : ByteArray) : ∀ l : Binds, (setB l x v).length ≤ l.length + 1
 | [] => Nat.le_refl _
 | y :: l => by
  rw [setB]
  split
  ·exact Nat.le_succ _
  ·have := setB_length x v l
   show (setB l x v).length + 1 ≤ l.length + 1 + 1
   omega
theorem setB_ok {l : Binds} {x v : ByteArray} (h : BOk l) (hv : v.size ≤ 10000) (hx : 0 < x.size) : BOk (setB l x v) := by
 induction l with
 | nil =>
  intro y hy
  obtain rfl := List.mem_singleton.1 hy
  exact ⟨hv, hx⟩
 | cons z l ih =>
  intro y hy
  rw [setB] at hy
  split at hy
  ·rcases List.mem_cons.1 hy with rfl | hy
   ·exact ⟨hv, hx⟩
   ·exact h y (List.mem_cons_of_mem _ hy)
  ·rcases List.mem_cons.1 hy with rfl | hy
   ·exact h y List.mem_cons_self
   ·exact ih (fun z hz => h z (List.mem_cons_of_mem _ hz)) y hy
theorem expandFrom_size (E : ByteArray → ByteArray) (t : ByteArray) : ∀ (g i : Nat) (out y : ByteArray), expandFrom E t g i out = some y → i ≤ t.size → out.size ≤ 4000 + i → y.size ≤ 4000 + t.size
 | 0, i, out, y, h, hi, ho => by
  rw [expandFrom] at h
  split at h
  ·obtain rfl := Option.some.inj h
   omega
  ·cases h
 | g + 1, i, out, y, h, hi, ho => by
  rw [expandFrom] at h
  split at h
  ·obtain rfl := Option.some.inj h
   omega
  ·rename_i h0
   split at h
   ·refine expandFrom_size E t g (i + 1) _ y h (by omega) ?_
    rw [ByteArray.size_append, ByteArray.size_extract]
    omega
   ·cases hf : formAt t i with
    | none => rw [hf] at h; cases h
    | some fk =>
     obtain ⟨f, k⟩ := fk
     have hk := formAt_le hf
     rw [hf] at h
     simp only at h
     split at h
     ·cases h
     ·exact expandFrom_size E t g k _ y h (by omega) (by omega)
theorem expandS_size {E : ByteArray → ByteArray} {t y : ByteArray} (h : expandS E t = some y) : y.size ≤ 4000 + t.size := expandFrom_size E t _ 0 _ y h (Nat.zero_le _) (Nat.zero_le _)
theorem PStC.addTop {p : PV} {a : Nat → Addr} {B : Nat} {w w' : World} {rb : Nat} {n : Int} {ls : List Line} {S : St} {m : Nat} {x v : ByteArray} (h : PStC p a B w rb n ls S (m + 1)) (hg : w.grownBy w' (some p.tb)) (hm : BMap w' p.tb (p.n1 + 1) (setB S.top x v)) (hv : v.size ≤ 10000) (hx : 0 < x.size) : PStC { p with n1 := p.n1 + 1 } a B w' rb n ls { S with top := setB S.top x v } m := by
 have off := fun {k : Nat} (hk : k < w.heap.size) (hc : p.c k ≠ 2) => h.off hg h.c2 hk hc
 exact {
  gl := h.gl.keep hg.size (fun k hk => off (Nat.lt_of_lt_of_le hk h.gl.size) (by rw [h.low k (Nat.lt_of_lt_of_le hk h.base)]; decide))
  base := h.base
  row := (off h.rowlt (by rw [h.c1]; decide)).trans h.row
  const := h.const.step hg.size (fun k hk h0 => ⟨off hk (by rw [h0]; decide), h0⟩)
  top := hm
  rules := TMap.keep h.rules (off h.rules.lt (by rw [h.c3]; decide))
  mlt := Nat.lt_of_lt_of_le h.mlt (hg.size)
  made := TMap.keep h.made (off h.made.lt (by rw [h.c4]; decide))
  drafts := rkeep h.drafts (fun k hk => off (rblock h.drafts k hk).2 (by rw [h.c5 k hk]; decide))
  defs := rkeep h.defs (fun k hk => off (rblock h.defs k hk).2 (by rw [h.c6 k hk]; decide))
  c1 := h.c1, c2 := h.c2, c3 := h.c3, c4 := h.c4, c5 := h.c5, c6 := h.c6, low := h.low
  few := by show p.n1 + 1 + m ≤ 5000 ∧ p.n2 + m ≤ 5000 ∧ p.n3 + 8000 * m ≤ 40000000; have := h.few; omega
  ok := { top := setB_ok h.ok.top hv hx, tops := (by show (setB S.top x v).length + m ≤ 5000; have := h.ok.tops; have := setB_length x v S.top; omega), rules := h.ok.rules, rulen := (by show S.rules.length + m ≤ 5000; have := h.ok.rulen; omega), edges := h.ok.edges, edge := h.ok.edge, defs := (by show S.defs.length + 4000 * m ≤ _; have := h.ok.defs; omega), lines := h.ok.lines, count := h.ok.count } }
theorem varS_varR (S : St) (no : Nat) (t : ByteArray) (rest : List Line) : varS S no t rest = match varR (envL [S.top]) t with
  | none => .error (.syn, no)
  | some xy => .ok ({ S with top := setB S.top xy.1 xy.2 }, rest) := by
 unfold varS varR
 rw [envOf_one]
 cases bindS t with
 | none => rfl
 | some nv =>
  simp only
  cases expandS (envL [S.top]) nv.2 with
  | none => rfl
  | some y => rfl
theorem varR_size {E : ByteArray → ByteArray} {t : ByteArray} {xy : ByteArray × ByteArray} (h : varR E t = some xy) : xy.2.size ≤ 4000 + t.size ∧ 0 < xy.1.size := by
 unfold varR at h
 cases hb : bindS t with
 | none => rw [hb] at h; cases h
 | some nv =>
  rw [hb] at h
  obtain ⟨y, hy, rfl⟩ := Option.map_eq_some_iff.1 h
  have h1 := bindS_size hb
  have h2 := expandS_size hy
  exact ⟨by show y.size ≤ _; omega, h1.2.2⟩
theorem topVar_any {p : PV} {a : Nat → Addr} {B : Nat} {w : World} {rb no : Nat} {ls : List Line} {S : St} {m : Nat} {t : ByteArray} (h : PStC p a B w rb (no : Nat) ls S (m + 1)) (ht : t.size ≤ 4000) :
  Calls Tryz.prog 198 #[.pointer (some ⟨rb, 0, none⟩), .string t, .pointer (some ⟨p.sb, 0, none⟩)] w (stmtEnd a B rb m w (varS S no t ls)) := by
 have hc := readVariable_any h.at0 h.gl ht h.const.now.2.1 h.top (by have := h.few; omega) h.scopes h.boks
 refine hc.mono ?_
 intro e w' hx
 rw [varS_varR]
 cases hv : varR (envL [S.top]) t with
 | none =>
  rw [hv] at hx
  exact ⟨hx.1, hx.2.mono h.bw⟩
 | some xy =>
  rw [hv] at hx
  have hs := varR_size hv
  refine ⟨hx.1, ⟨_, _, h.addTop hx.2.2 hx.2.1 (by omega) hs.2⟩, grown_below hx.2.2 ?_ h.bw⟩
  rcases Nat.lt_or_ge p.tb B with q | q
  ·have h1 := h.low p.tb q; have h2 := h.c2; omega
  ·exact q
theorem newScope_any (q : Value) (hq : ∃ ao, q = .pointer ao) (w : World) :
  Calls Tryz.prog 111 #[q] w fun e w' => ∃ sb tb, e = .returned (.pointer (some ⟨sb, 0, none⟩)) ∧ w'.heap[sb]? = some (.cells #[.map (some tb), q] 302 (0, 0)) ∧ BMap w' tb 0 [] ∧ w.heap.size ≤ tb ∧ tb < sb ∧ Below w.heap.size w w' := by
 obtain ⟨ao, rfl⟩ := hq
 have hmade : BMap (w.alloc (.map #[] 0)) w.heap.size 0 [] := TMap.made textC textZ ⟨_, _, rfl⟩ w
 have HM : Hid (BMap (w.alloc (.map #[] 0)) w.heap.size 0 []) := hmade
 clear hmade
 have hmm := @run_makeMap Tryz.prog
 go_enter Tryz.func111, Tryz.ntmps111
 go_wp2_with fail
 go_ret
 refine ⟨w.heap.size + 1, w.heap.size, by simp, ?_, ?_, Nat.le_refl _, Nat.lt_succ_self _, ?_⟩
 ·exact heapA_new (w.alloc (.map #[] 0)) _ _ (by simp)
 ·exact TMap.keep HM.out (heapA_old (w.alloc (.map #[] 0)) _ _ (by simp))
 ·exact ((Below.refl _ _).alloc (Nat.le_refl _) _).alloc (by simp) _
end Go.Proofs.YthhbpebihgjpjaaGreatDoor

namespace Go.Proofs.YthhbpebihgjpjaaGreatDoor
set_option maxRecDepth 1000000

theorem env_three (e : EdgeS) (top : Binds) : envOf (ownAll e) top = envL [setB (setB [] tIn (joinP e.ins)) tOut (joinP e.outs), e.own, top] := by
 rw [envOf_two]
 funext x
 show (bindOf (ownAll e) x).getD (envL [top] x) = (bindOf (setB (setB [] tIn (joinP e.ins)) tOut (joinP e.outs)) x).getD ((bindOf e.own x).getD (envL [top] x))
 unfold ownAll
 rw [bindOf_set, bindOf_set, bindOf_set, bindOf_set]
 by_cases h1 : x = tOut
 ·rw [if_pos h1, if_pos h1]; rfl
 ·rw [if_neg h1, if_neg h1]
  by_cases h2 : x = tIn
  ·rw [if_pos h2, if_pos h2]; rfl
  ·rw [if_neg h2, if_neg h2]; rfl
theorem ownS_ok {top : Binds} : ∀ {rest : List Line} {own own' : Binds} {rest' : List Line}, ownS top rest own = .ok (own', rest') → BOk own → (∀ x ∈ rest, x.2.size ≤ 4000) → BOk own' ∧ own'.length + rest'.length ≤ own.length + rest.length ∧ (∀ x ∈ rest', x ∈ rest)
 | [], own, own', rest', h, ho, _ => by
  rw [ownS] at h
  injection h with h
  obtain ⟨rfl, rfl⟩ := Prod.mk.inj h
  exact ⟨ho, Nat.le_refl _, fun x hx => hx⟩
 | y :: rest, own, own', rest', h, ho, hs => by
  rw [ownS] at h
  by_cases hb : begins y.2 32 = true
  ·rw [if_pos hb] at h
   cases hbs : bindS y.2 with
   | none => rw [hbs] at h; cases h
   | some nv =>
    rw [hbs] at h
    simp only at h
    cases hx : expandS (envOf own top) nv.2 with
    | none => rw [hx] at h; cases h
    | some z =>
     rw [hx] at h
     simp only at h
     have h1 := bindS_size hbs
     have h2 := expandS_size hx
     have h3 := hs y List.mem_cons_self
     obtain ⟨h4, h5, h6⟩ := ownS_ok h (setB_ok ho (by omega) h1.2.2) (fun x hx => hs x (List.mem_cons_of_mem _ hx))
     have h7 := setB_length nv.1 z own
     exact ⟨h4, by rw [List.length_cons]; omega, fun x hx => List.mem_cons_of_mem _ (h6 x hx)⟩
  ·rw [if_neg hb] at h
   injection h with h
   obtain ⟨rfl, rfl⟩ := Prod.mk.inj h
   exact ⟨ho, Nat.le_refl _, fun x hx => hx⟩
def EdgeDone : Prop := ∀ (p : PV) (a : Nat → Addr) (B : Nat) (w : World) (rb no : Nat) (ls : List Line) (S : St) (m : Nat) (t : ByteArray), PStC p a B w rb (no : Nat) ls S (m + 1) → t.size ≤ 4000 → Calls Tryz.prog 196 #[.pointer (some ⟨rb, 0, none⟩), .string t] w (stmtEnd a B rb m w (buildS S no t ls))
end Go.Proofs.YthhbpebihgjpjaaGreatDoor

namespace Go.Proofs.YthhbpebihgjpjaaGreatDoor
open Go.RowKit Go.Maps
set_option maxRecDepth 1000000

theorem memB_cons (x y : ByteArray) (l : List ByteArray) : memB x (y :: l) = (decide (y = x) || memB x l) := rfl
theorem UMap.add {w' : World} {b n : Nat} {l : List ByteArray} {x : ByteArray} (h : TMap unitC (.agg #[]) w' b n (fun y => if y = x then some (.agg #[]) else if memB y l = true then some (.agg #[]) else none)) : UMap w' b n (x :: l) := by
 have e : (fun y => if y = x then some (Value.agg #[]) else if memB y l = true then some (.agg #[]) else none) = fun y => if memB y (x :: l) = true then some (.agg #[]) else none := by
  funext y
  rw [memB_cons]
  by_cases h : y = x
  ·rw [if_pos h, decide_eq_true h.symm]; rfl
  ·rw [if_neg h, decide_eq_false (fun e => h e.symm)]; rfl
 unfold UMap
 rw [← e]; exact h
theorem UMap.same {w : World} {b n : Nat} {l l' : List ByteArray} (h : UMap w b n l) (e : ∀ x, memB x l' = memB x l) : UMap w b n l' := by
 have : (fun x => if memB x l' = true then some (Value.agg #[]) else none) = fun x => if memB x l = true then some (.agg #[]) else none := by
  funext x; rw [e x]
 unfold UMap
 rw [this]; exact h
theorem memB_append (x : ByteArray) (l r : List ByteArray) : memB x (l ++ r) = (memB x l || memB x r) := by unfold memB; rw [List.any_append]
theorem memB_reverse (x : ByteArray) (l : List ByteArray) : memB x l.reverse = memB x l := by unfold memB; rw [List.any_reverse]
def claimEnd (a : Nat → Addr) (B : Nat) (n : Int) (mm n3 : Nat) (made outs : List ByteArray) (w : World) (e : Ending) (w' : World) : Prop :=
 if twiceS made outs = true then Stopped n (reasonV a 6) e w' ∧ Below B w w'
 else e = .returned (.tuple #[]) ∧ UMap w' mm (n3 + outs.length) (outs.reverse ++ made) ∧ w.grownBy w' (some mm)
set_option maxHeartbeats 4000000 in
theorem claim_any {p : PV} {a : Nat → Addr} {B : Nat} {w : World} {rb : Nat} {n : Int} {ls : List Line} {S : St} {m : Nat} {outs : List ByteArray} {v : Value} (h : PStC p a B w rb n ls S m) (hv : TextsAt w v outs) (hne : v.ownBlock ≠ some p.mm) (ho : outs.length ≤ 10000) (hos : ∀ x ∈ outs, x.size ≤ 10000) :
  Calls Tryz.prog 269 #[.pointer (some ⟨rb, 0, none⟩), v] w (claimEnd a B n p.mm p.n3 (madeS S) outs w) := by
 have H : Hid (PStC p a B w rb n ls S m) := h
 have HZ : Hid (∀ w, (zeroValue 86).run Tryz.prog w = .ok (.agg #[]) w) := fun w => by kernel_rfl
 have HOS : Hid (∀ x ∈ outs, x.size ≤ 10000) := hos
 have hn3 : p.n3 ≤ 40000000 := by have := h.few; omega
 have hmb : B ≤ p.mm := by
  rcases Nat.lt_or_ge p.mm B with q | q
  ·have h1 := h.low p.mm q; have h2 := h.c4; omega
  ·exact q
 have hrm : rb ≠ p.mm := fun e => by have h1 := h.c1; have h2 := h.c4; rw [e] at h1; omega
 obtain ⟨ao, cap, rfl, hc, hv⟩ := hv
 have HV : Hid (((ao = none → cap = 0) ∧ outs = [] ∧ True) ∨ ∃ b o, ao = some ⟨b, o, none⟩ ∧ ∀ k s, outs[k]? = some s → w.cell? ⟨b, o + k, none⟩ = some (.string s)) := hv
 have n0 : (outs.length : Int) ≤ 10000 := by omega
 clear h hv hos
 generalize hL : outs.length = L at *
 have HL : Hid (outs.length = L) := hL
 clear hL
 go_enter Tryz.func269, Tryz.ntmps269
 go_wp2_with fail
 go_loopw [10] (fun i wr => ∃ j : Nat, i = .int .i64 j ∧ j ≤ L ∧ UMap wr p.mm (p.n3 + j) ((outs.take j).reverse ++ madeS S) ∧ twiceS ((outs.take j).reverse ++ madeS S) (outs.drop j) = twiceS (madeS S) outs ∧ w.grownBy wr (some p.mm)) (fun i _ => L - (intOf i).toNat)
 case atStart => exact ⟨0, rfl, Nat.zero_le _, H.out.made, rfl, ⟨rfl, rfl, rfl, Nat.le_refl _, fun _ _ _ => rfl⟩⟩
 case round =>
  obtain ⟨j, rfl, hle, hu, htw, hgr⟩ := hrel
  have HU : Hid (UMap wr p.mm (p.n3 + j) ((outs.take j).reverse ++ madeS S)) := hu
  have HTW : Hid (twiceS ((outs.take j).reverse ++ madeS S) (outs.drop j) = twiceS (madeS S) outs) := htw
  have HGR : Hid (w.grownBy wr (some p.mm)) := hgr
  clear hu htw hgr
  have j0 : (0 : Int) ≤ (j : Int) := by omega
  by_cases hlt : j < L
  ·have j1 : (j : Int) < (L : Int) := by omega
   obtain ⟨y, hy⟩ : ∃ y, outs[j]? = some y := ⟨outs[j]'(by have := HL.out; omega), by simp⟩
   obtain ⟨b, o, rfl, q⟩ : ∃ b o, ao = some ⟨b, o, none⟩ ∧ ∀ k s, outs[k]? = some s → w.cell? ⟨b, o + k, none⟩ = some (.string s) := by
    rcases HV.out with e | e
    ·rw [e.2.1] at hy; simp at hy
    ·exact e
   have cy := q j y hy
   have r1 : wr.cell? ⟨b, o + j, none⟩ = some (.string y) := (World.cell?_of_block (w := w) (a := ⟨b, o + j, none⟩) (HGR.out.block b (block_lt_of_cell cy) (fun e => hne (by rw [← e]; rfl)))).trans cy
   have hys := HOS.out y (List.mem_of_getElem? hy)
   have HDR : Hid (outs.drop j = y :: outs.drop (j + 1) ∧ outs.take (j + 1) = outs.take j ++ [y]) := by
    obtain ⟨h1, h2⟩ := List.getElem?_eq_some_iff.1 hy
    exact ⟨by rw [List.drop_eq_getElem_cons h1, h2], by rw [List.take_succ_eq_append_getElem h1, h2]⟩
   have hrow : wr.heap[rb]? = w.heap[rb]? := HGR.out.block rb H.out.rowlt (fun e => hrm (Option.some.inj e))
   have d4 : wr.cell? ⟨rb, 4, none⟩ = some (.map (some p.mm)) := by rw [cell_of_row _ _ _ _ _ _ (hrow.trans H.out.row)]; rfl
   have d0 : wr.cell? ⟨rb, 0, none⟩ = some (.int .i64 n) := by rw [cell_of_row _ _ _ _ _ _ (hrow.trans H.out.row)]; rfl
   have hrb : rb < wr.heap.size := Nat.lt_of_lt_of_le H.out.rowlt HGR.out.size
   have g6 : wr.cell? ⟨6, 0, none⟩ = some (.iface 472 (.pointer (some (a 6)))) := (World.cell?_of_block (w := w) (a := ⟨6, 0, none⟩) (HGR.out.block 6 (by have := H.out.gl.size; omega) (fun e => by have h1 : 6 = p.mm := Option.some.inj e; have := H.out.base; omega))).trans (H.out.gl.errs 6 (by decide))
   have l6 : 6 < wr.heap.size := by have := H.out.gl.size; have := HGR.out.size; omega
   have HLK : Hid ((Instr.lookup 122 (.map (some p.mm)) (.string y) true).run Tryz.prog wr = .ok (.tuple #[(if memB y ((outs.take j).reverse ++ madeS S) = true then some (Value.agg #[]) else none).getD (.agg #[]), .bool (if memB y ((outs.take j).reverse ++ madeS S) = true then some (Value.agg #[]) else none).isSome]) wr) := TMap.look_ok HU.out (t := 122) Tryz.underlying122 HZ.out y (by unfold maxLen; omega)
   clear q cy hy hrow
   cases hmem : memB y ((outs.take j).reverse ++ madeS S) with
   | true =>
    have HF : Hid (twiceS (madeS S) outs = true) := by rw [← HTW.out, HDR.out.1, twiceS, hmem]; rfl
    rw [hmem] at HLK
    have hlk : (Instr.lookup 122 (.map (some p.mm)) (.string y) true).run Tryz.prog wr = .ok (.tuple #[.agg #[], .bool true]) wr := HLK.out
    clear HLK hmem
    have HNO := need_no rb n 472 (.pointer (some (a 6))) (wr.alloc (.cells #[] 86)) (by rw [World.cell?_of_block (w := wr) (a := ⟨rb, 0, none⟩) (heapA_old wr _ rb hrb)]; exact d0)
    go_wp2_with fail
    refine HNO.mono ?_
    rintro e w8 ⟨⟨b', rfl, s0, s1⟩, hb8⟩
    refine ⟨rfl, ?_⟩
    unfold claimEnd
    rw [if_pos HF.out]
    exact ⟨⟨b', rfl, s0, s1⟩, ((grown_below HGR.out hmb H.out.bw).alloc (Nat.le_trans H.out.bw HGR.out.size) _).trans (hb8.mono (by have := HGR.out.size; have := H.out.bw; simp; omega))⟩
   | false =>
    rw [hmem] at HLK
    have hlk : (Instr.lookup 122 (.map (some p.mm)) (.string y) true).run Tryz.prog wr = .ok (.tuple #[.agg #[], .bool false]) wr := HLK.out
    have HTN : Hid (twiceS ((outs.take (j + 1)).reverse ++ madeS S) (outs.drop (j + 1)) = twiceS (madeS S) outs) := by
     show _ = _
     rw [← HTW.out, HDR.out.1, twiceS, hmem, HDR.out.2, List.reverse_append]; rfl
    clear HLK hmem
    have HUA : UMap (wr.alloc (.cells #[] 86)) p.mm (p.n3 + j) ((outs.take j).reverse ++ madeS S) := TMap.keep HU.out (heapA_old wr _ p.mm HU.out.lt)
    obtain ⟨w9, hrun9, hst9, hg9⟩ := TMap.store HUA (t := 122) Tryz.underlying122 (by unfold maxLen; omega) y (by unfold maxLen; omega) (.agg #[]) ⟨_, _, rfl⟩
    have HU9 : Hid (UMap w9 p.mm (p.n3 + (j + 1)) ((outs.take (j + 1)).reverse ++ madeS S)) := by
     show UMap _ _ _ _
     rw [HDR.out.2, List.reverse_append]
     exact UMap.add hst9
    have HG9 : Hid (w.grownBy w9 (some p.mm)) := ⟨hg9.os.trans HGR.out.os, hg9.tape.trans HGR.out.tape, hg9.output.trans HGR.out.output, by have := hg9.size; have := HGR.out.size; simp at this ⊢; simp at *; omega, fun k hk hn => (hg9.block k (by have := HGR.out.size; simp; omega) hn).trans ((heapA_old wr _ k (by have := HGR.out.size; omega)).trans (HGR.out.block k hk hn))⟩
    clear hst9 hg9 HUA
    go_wp2_with fail
    refine (need_yes _ _ _).mono ?_
    rintro e w8 ⟨rfl, rfl⟩
    go_wp2_with fail
    exact ⟨⟨j + 1, by go_num, hlt, HU9.out, HTN.out, HG9.out⟩, by simp [intOf]; omega⟩
  ·obtain rfl : j = L := by omega
   have HF : Hid (twiceS (madeS S) outs = false) := by
    rw [← HTW.out, ← HL.out, List.drop_length]; rfl
   have HUF : Hid (UMap wr p.mm (p.n3 + outs.length) (outs.reverse ++ madeS S)) := by
    have h := HU.out
    rw [← HL.out, List.take_length] at h
    exact h
   have j1 : ¬ (j : Int) < (j : Int) := by omega
   go_wp2_with fail
   go_end0
   unfold claimEnd
   rw [if_neg (by rw [HF.out]; decide)]
   exact ⟨rfl, HUF.out, HGR.out⟩
end Go.Proofs.YthhbpebihgjpjaaGreatDoor

namespace Go.Proofs.YthhbpebihgjpjaaGreatDoor
open Go.RowKit
set_option maxRecDepth 1000000

set_option maxHeartbeats 2000000 in
theorem grow_any (n : Nat) (hn : n ≤ 1048576) (w : World) :
  Calls Tryz.prog 276 #[.slice none 0 0, .int .i64 n] w fun e w' => ∃ v, e = .returned v ∧ w'.ownsRow w.heap.size 9 1 v 0 [] ∧ Below w.heap.size w w' := by
 have hinf : (Tryz.prog.info? 9).map (fun i => (i.size, i.bytes, i.zero)) = some (1, 16, some (.string ⟨#[]⟩)) := by kernel_rfl
 obtain ⟨ti, hti, htj⟩ := Option.map_eq_some_iff.1 hinf
 simp only [Prod.mk.injEq] at htj
 have n1 : ¬ (n : Int) < 0 := by omega
 have n2 : (n : Int) ≤ 1048576 := by omega
 by_cases h0 : n = 0
 ·subst h0
  clear hinf hti htj
  go_enter Tryz.func276, Tryz.ntmps276
  go_wp2_with fail
  go_ret
  exact ⟨_, rfl, World.ownsRow_nil _ _ _ _, Below.refl _ _⟩
 ·have hrun := fun ty => Lib.run_append_nil_zeros (P := Tryz.prog) w 32 3 ty 9 ti (.string ⟨#[]⟩) .i64 .i64 Tryz.underlying32 Tryz.underlying3 hti htj.2.2 n (by omega) (by rw [htj.1]; decide) (by omega) (by rw [htj.2.1]; omega)
  have hge := grownCap_ge w n 0 9
  have hle := grownCap_le_maxLen w n 0 9 (by unfold maxLen; omega)
  generalize grownCap w n 0 9 = G at *
  have hsz : (Builtin.zeroCells (Value.string ⟨#[]⟩).cells n ++ Builtin.zeroCells (Value.string ⟨#[]⟩).cells (G - n)).size = G * 1 := by
   rw [Array.size_append, size_zeroCells, size_zeroCells]
   show n * 1 + (G - n) * 1 = _
   omega
  generalize Builtin.zeroCells (Value.string ⟨#[]⟩).cells n ++ Builtin.zeroCells (Value.string ⟨#[]⟩).cells (G - n) = CS at *
  have HRUN : Hid (∀ ty, (Builtin.append_ #[32, 3] ty #[.slice none 0 0, .int .i64 n]).run Tryz.prog w = .ok (.slice (some ⟨w.heap.size, 0, none⟩) n G) (w.drew.alloc (.cells CS 9))) := hrun
  have HOW : Hid ((w.drew.alloc (.cells CS 9)).ownsRow w.heap.size 9 1 (.slice (some ⟨w.heap.size, 0, none⟩) 0 G) 0 []) := World.ownsRow_made w.drew CS G (Nat.le_refl _) hle hsz
  have HB : Hid (Below w.heap.size w (w.drew.alloc (.cells CS 9))) := (Below.refl _ _).drew.alloc (Nat.le_refl _) _
  have n3 : (0 : Int) < (n : Int) := by omega
  have hsl0 : ∀ wx, (Instr.slice 32 (.slice none 0 0) none (some (.int .i64 0)) none).run Tryz.prog wx = .ok (.slice none 0 0) wx := fun wx => by kernel_rfl
  have g0 : ¬ (G : Int) < 0 := by omega
  have hsl : ∀ wx, (Instr.slice 32 (.slice (some ⟨w.heap.size, 0, none⟩) n G) none (some (.int .i64 0)) none).run Tryz.prog wx = .ok (.slice (some ⟨w.heap.size, 0, none⟩) 0 G) wx := fun wx => by
   simp [Instr.slice, run_underlying Tryz.underlying32, go_sem]
  clear hrun hinf hti htj hsz
  go_enter Tryz.func276, Tryz.ntmps276
  go_wp2_with (at_builtin; refine Lib.wpList_append_run _ rfl (.tmp 20) (.tmp 21) 32 3 rfl _ _ rfl rfl _ _ (HRUN.out _) ?_; refine Hid.out ?_)
  unfold Hid
  go_wp2_with fail
  go_ret
  exact ⟨_, rfl, HOW.out, HB.out⟩
def flatL (ll : List (Value × List ByteArray)) : List ByteArray := ll.flatMap (·.2)
theorem flatL_snoc (ll : List (Value × List ByteArray)) (x : Value × List ByteArray) : flatL (ll ++ [x]) = flatL ll ++ x.2 := by simp [flatL]
set_option maxHeartbeats 4000000 in
theorem concat_any (ll : List (Value × List ByteArray)) (cb : Nat) (w : World) (hc : ∀ (i : Nat) x, ll[i]? = some x → w.cell? ⟨cb, i, none⟩ = some x.1 ∧ TextsAt w x.1 x.2) (hl : ll.length ≤ 10) (hs : ∀ x ∈ ll, x.2.length ≤ 10000) :
  Calls Tryz.prog 202 #[.slice (some ⟨cb, 0, none⟩) ll.length ll.length] w fun e w' => ∃ v, e = .returned v ∧ w'.ownsRow w.heap.size 9 1 v (flatL ll).length ((flatL ll).map Value.string) ∧ Below w.heap.size w w' := by
 have hinf : (Tryz.prog.info? 9).map (fun i => (i.size, i.bytes, i.zero)) = some (1, 16, some (.string ⟨#[]⟩)) := by kernel_rfl
 obtain ⟨ti, hti, htj⟩ := Option.map_eq_some_iff.1 hinf
 simp only [Prod.mk.injEq] at htj
 have HTI : Hid (Tryz.prog.info? 9 = some ti ∧ ti.size = 1 ∧ ti.bytes = 16 ∧ ti.zero = some (.string ⟨#[]⟩)) := ⟨hti, htj.1, htj.2.1, htj.2.2⟩
 clear hinf hti htj
 have HC : Hid (∀ (i : Nat) x, ll[i]? = some x → w.cell? ⟨cb, i, none⟩ = some x.1 ∧ TextsAt w x.1 x.2) := hc
 have HS : Hid (∀ x ∈ ll, x.2.length ≤ 10000) := hs
 have n0 : (ll.length : Int) ≤ 10 := by omega
 have HFL : Hid (∀ j, j ≤ ll.length → (flatL (ll.take j)).length ≤ j * 10000) := by
  intro j
  induction j with
  | zero => intro _; exact Nat.le_refl _
  | succ j ih =>
   intro hj
   have h1 := ih (by omega)
   rw [List.take_succ_eq_append_getElem (by omega), flatL_snoc, List.length_append]
   have h2 := hs ll[j] (List.getElem_mem _)
   omega
 clear hc hs
 generalize hL : ll.length = L at *
 have HL : Hid (ll.length = L) := hL
 clear hL
 go_enter Tryz.func202, Tryz.ntmps202
 go_wp2_with fail
 go_loop [3, 11] (fun z i => ∃ j : Nat, i = .int .i64 j ∧ z = .int .i64 ((flatL (ll.take j)).length : Nat) ∧ j ≤ L) (fun _ i => L - (intOf i).toNat)
 case atStart => exact ⟨0, rfl, rfl, Nat.zero_le _⟩
 case round =>
  obtain ⟨j, rfl, rfl, hle⟩ := hrel
  have j0 : (0 : Int) ≤ (j : Int) := by omega
  have hfl := HFL.out j hle
  by_cases hlt : j < L
  ·obtain ⟨x, hx⟩ : ∃ x, ll[j]? = some x := ⟨ll[j]'(by have := HL.out; omega), by simp⟩
   obtain ⟨c1, ht⟩ := HC.out j x hx
   obtain ⟨ao, cap, hv, _, _⟩ := ht
   rw [hv] at c1
   have j1 : (j : Int) < (L : Int) := by omega
   have HN : Hid ((flatL (ll.take (j + 1))).length = (flatL (ll.take j)).length + x.2.length) := by
    show _ = _
    obtain ⟨h1, h2⟩ := List.getElem?_eq_some_iff.1 hx
    rw [List.take_succ_eq_append_getElem h1, flatL_snoc, List.length_append, h2]
   have hxl := HS.out x (List.mem_of_getElem? hx)
   clear hv hx
   generalize x.2.length = XL at *
   generalize (flatL (ll.take j)).length = FL at *
   have f1 : ¬ (FL : Int) + (XL : Int) < 0 := by omega
   have f2 : (FL : Int) ≤ 100000 := by omega
   have f3 : (XL : Int) ≤ 10000 := by omega
   go_wp2_with fail
   exact ⟨⟨j + 1, by go_num, by rw [HN.out]; go_num, hlt⟩, by simp [intOf]; omega⟩
  ·obtain rfl : j = L := by omega
   have HE : Hid (flatL (ll.take j) = flatL ll) := by show _ = _; rw [← HL.out, List.take_length]
   generalize hFL : (flatL (ll.take j)).length = FL at *
   have HGW : Hid (Calls Tryz.prog 276 #[.slice none 0 0, .int .i64 FL] w fun e w' => ∃ v, e = .returned v ∧ w'.ownsRow w.heap.size 9 1 v 0 [] ∧ Below w.heap.size w w') := grow_any FL (by omega) w
   clear hFL
   go_wp2_with fail
   refine HGW.out.mono ?_
   rintro e w1 ⟨v1, rfl, ho1, hb1⟩
   have HO1 : Hid (w1.ownsRow w.heap.size 9 1 v1 0 []) := ho1
   have HB1 : Hid (Below w.heap.size w w1) := hb1
   clear ho1 hb1
   go_wp2_with fail
   go_loopw [6, 27] (fun v i wr => ∃ (k : Nat) (ao : Option Addr) (nn cap : Nat), i = .int .i64 k ∧ v = .slice ao nn cap ∧ nn = (flatL (ll.take k)).length ∧ k ≤ j ∧ wr.ownsRow w.heap.size 9 1 (.slice ao nn cap) nn ((flatL (ll.take k)).map Value.string) ∧ Below w.heap.size w wr) (fun _ i _ => j - (intOf i).toNat)
   case atStart =>
    obtain ⟨ao1, cap1, e1, _, _⟩ := row_form HO1.out
    exact ⟨0, ao1, 0, cap1, rfl, e1, rfl, Nat.zero_le _, by rw [← e1]; exact HO1.out, HB1.out⟩
   case round =>
    obtain ⟨k, ao, nn, cap, rfl, rfl, hnn, hke, hown, hbw⟩ := hrel
    have HO : Hid (wr.ownsRow w.heap.size 9 1 (.slice ao nn cap) nn ((flatL (ll.take k)).map Value.string)) := hown
    have HBW : Hid (Below w.heap.size w wr) := hbw
    have hfk := HFL.out k hke
    rw [← hnn] at hfk
    have HNN : Hid (nn = (flatL (ll.take k)).length) := hnn
    clear hown hbw hnn
    have k0 : (0 : Int) ≤ (k : Int) := by omega
    by_cases hlt2 : k < j
    ·obtain ⟨x, hx⟩ : ∃ x, ll[k]? = some x := ⟨ll[k]'(by have := HL.out; omega), by simp⟩
     obtain ⟨c0, ht⟩ := HC.out k x hx
     have c1 : wr.cell? ⟨cb, k, none⟩ = some x.1 := (HBW.out.cell (p := ⟨cb, k, none⟩) (block_lt_of_cell c0)).trans c0
     have HN : Hid (flatL (ll.take (k + 1)) = flatL (ll.take k) ++ x.2) := by
      show _ = _
      obtain ⟨h1, h2⟩ := List.getElem?_eq_some_iff.1 hx
      rw [List.take_succ_eq_append_getElem h1, flatL_snoc, h2]
     have hxl := HS.out x (List.mem_of_getElem? hx)
     have k1 : (k : Int) < (j : Int) := by omega
     obtain ⟨av, capv, hv, _, h⟩ := ht.keepB HBW.out
     rw [hv] at c1
     have hbs : w.heap.size ≤ wr.heap.size := HBW.out.size
     obtain ⟨x1, xl⟩ := x
     simp only at hv c1 HN hxl h
     clear hx c0 hv ht
     generalize flatL (ll.take k) = F at *
     rcases h with ⟨h0, rfl, _⟩ | ⟨b, o, rfl, h⟩
     ·rw [List.append_nil] at HN
      cases av with
      | none =>
       obtain rfl := h0 rfl
       go_wp2_with (at_builtin; refine wpList_append_own_none rfl (.tmp 31) (.tmp 32) 32 rfl w.heap.size 9 ti 1 Tryz.underlying32 HTI.out.1 _ nn _ rfl (by exact HO.out) rfl ?_; refine Hid.out ?_)
       unfold Hid
       go_wp2_with fail
       exact ⟨⟨k + 1, ao, nn, cap, by go_num, rfl, by rw [HN.out]; exact HNN.out, hlt2, by rw [HN.out]; exact HO.out, HBW.out⟩, by simp [intOf]; omega⟩
      | some a0 =>
       clear h0
       go_wp2_with (at_builtin; refine wpList_append_own _ rfl (.tmp 31) (.tmp 32) 32 rfl w.heap.size 9 ti (.string ⟨#[]⟩) 1 16 Tryz.underlying32 HTI.out.1 HTI.out.2.2.2 HTI.out.2.1 HTI.out.2.2.1 rfl (by decide) _ nn _ rfl (by exact HO.out) a0 0 capv [] rfl rfl (by intro j u hu; simp at hu) (by intro u hu; cases hu) (by unfold maxLen; omega) (by omega) hbs ?_; intro v5 w5 hv5 hg5 hn5; refine Hid.out ?_)
       have HO5 : Hid (w5.ownsRow w.heap.size 9 1 v5 nn (F.map Value.string)) := by have h := hv5; rw [List.append_nil] at h; exact h
       have HB5 : Hid (Below w.heap.size w w5) := HBW.out.grown hg5 hbs (fun q hq => (rblock HO.out q hq).1)
       obtain ⟨ao5, cap5, rfl, _, _⟩ := row_form HO5.out
       clear hv5 hg5 hn5
       unfold Hid
       go_wp2_with fail
       exact ⟨⟨k + 1, ao5, nn, cap5, by go_num, rfl, by rw [HN.out]; exact HNN.out, hlt2, by rw [HN.out]; exact HO5.out, HB5.out⟩, by simp [intOf]; omega⟩
     ·have HNW : Hid (∀ (j : Nat) u, (xl.map Value.string)[j]? = some u → wr.cell? ((⟨b, o, none⟩ : Addr).add j) = some u) := by
       intro j u hu
       have hadd : (⟨b, o, none⟩ : Addr).add j = ⟨b, o + j, none⟩ := by unfold Addr.add; split <;> simp_all
       rw [List.getElem?_map] at hu
       obtain ⟨s, hs1, rfl⟩ := Option.map_eq_some_iff.1 hu
       rw [hadd]; exact h j s hs1
      clear h
      go_wp2_with (at_builtin; refine wpList_append_own _ rfl (.tmp 31) (.tmp 32) 32 rfl w.heap.size 9 ti (.string ⟨#[]⟩) 1 16 Tryz.underlying32 HTI.out.1 HTI.out.2.2.2 HTI.out.2.1 HTI.out.2.2.1 rfl (by decide) _ nn _ rfl (by exact HO.out) ⟨b, o, none⟩ xl.length capv (xl.map Value.string) rfl (by simp) HNW.out (by intro u hu; obtain ⟨s, _, rfl⟩ := List.mem_map.1 hu; rfl) (by unfold maxLen; omega) (by omega) hbs ?_; intro v5 w5 hv5 hg5 hn5; refine Hid.out ?_)
      have HO5 : Hid (w5.ownsRow w.heap.size 9 1 v5 (nn + xl.length) ((F ++ xl).map Value.string)) := by rw [List.map_append]; exact hv5
      have HB5 : Hid (Below w.heap.size w w5) := HBW.out.grown hg5 hbs (fun q hq => (rblock HO.out q hq).1)
      obtain ⟨ao5, cap5, rfl, _, _⟩ := row_form HO5.out
      clear hv5 hg5 hn5
      unfold Hid
      go_wp2_with fail
      exact ⟨⟨k + 1, ao5, nn + xl.length, cap5, by go_num, rfl, by rw [HN.out, List.length_append, ← HNN.out], hlt2, by rw [HN.out]; exact HO5.out, HB5.out⟩, by simp [intOf]; omega⟩
    ·obtain rfl : k = j := by omega
     have HF : Hid (wr.ownsRow w.heap.size 9 1 (.slice ao nn cap) (flatL ll).length ((flatL ll).map Value.string)) := by
      rw [← HE.out, ← HNN.out]; exact HO.out
     have k1 : ¬ (k : Int) < (k : Int) := by omega
     go_wp2_with fail
     go_ret
     exact ⟨_, rfl, HF.out, HBW.out⟩
end Go.Proofs.YthhbpebihgjpjaaGreatDoor
