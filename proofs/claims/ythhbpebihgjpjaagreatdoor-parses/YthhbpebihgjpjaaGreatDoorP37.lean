import Derived.Test.YthhbpebihgjpjaaGreatDoorP07
import Derived.Deep.AppendLies
import Derived.Laws.AppendOwnNone
import Derived.Test.YthhbpebihgjpjaaGreatDoorP36
import Derived.Test.YthhbpebihgjpjaaGreatDoorP16
namespace Go.Proofs.YthhbpebihgjpjaaGreatDoor
open Go.RowKit
set_option maxRecDepth 1000000

theorem run_append_texts {w : World} (ty : TypeId) (B : Nat) (v : Value) (n : Nat) (ds : List Value) (hown : w.ownsRow B 9 1 v n ds) (x : Value) (l : List ByteArray) (hx : TextsAt w x l) (hle : n + l.length ≤ 100000000) (hb : B ≤ w.heap.size) : ∃ ao' cap' w', (Builtin.append_ #[32, 32] ty #[v, x]).run Tryz.prog w = .ok (.slice ao' (n + l.length) cap') w' ∧ w'.ownsRow B 9 1 (.slice ao' (n + l.length) cap') (n + l.length) (ds ++ l.map Value.string) ∧ w.grownBy w' v.ownBlock ∧ ∀ k, (Value.slice ao' (n + l.length) cap').ownBlock = some k → v.ownBlock = some k ∨ w.heap.size ≤ k := by
 have hinf : (Tryz.prog.info? 9).map (fun i => (i.size, i.bytes, i.zero)) = some (1, 16, some (.string ⟨#[]⟩)) := by kernel_rfl
 obtain ⟨ti, hti, htj⟩ := Option.map_eq_some_iff.1 hinf
 simp only [Prod.mk.injEq] at htj
 obtain ⟨ao, cap, rfl, hc, hh⟩ := hx
 have main : ∀ b o, ao = some ⟨b, o, none⟩ → (∀ k s, l[k]? = some s → w.cell? ⟨b, o + k, none⟩ = some (.string s)) → ∃ ao' cap' w', (Builtin.append_ #[32, 32] ty #[v, .slice ao l.length cap]).run Tryz.prog w = .ok (.slice ao' (n + l.length) cap') w' ∧ w'.ownsRow B 9 1 (.slice ao' (n + l.length) cap') (n + l.length) (ds ++ l.map Value.string) ∧ w.grownBy w' v.ownBlock ∧ ∀ k, (Value.slice ao' (n + l.length) cap').ownBlock = some k → v.ownBlock = some k ∨ w.heap.size ≤ k := by
  intro b o hao hcell
  subst hao
  obtain ⟨v', w', hr, h2, h3, _, h5⟩ := run_append_own_at (P := Tryz.prog) w B 32 ty 9 ti (.string ⟨#[]⟩) 1 16 Tryz.underlying32 hti htj.2.2 htj.1 htj.2.1 rfl (by decide) v n ds hown ⟨b, o, none⟩ l.length cap (l.map Value.string) (by rw [List.length_map]; omega) (fun j u hu => by
   have hadd : (⟨b, o, none⟩ : Addr).add j = ⟨b, o + j, none⟩ := by unfold Addr.add; split <;> simp_all
   rw [List.getElem?_map] at hu
   obtain ⟨y, hy, rfl⟩ := Option.map_eq_some_iff.1 hu
   rw [hadd]; exact hcell j y hy) (by intro u hu; obtain ⟨y, _, rfl⟩ := List.mem_map.1 hu; rfl) (by unfold maxLen; omega) (by omega) hb
  obtain ⟨ao', cap', rfl, _, _⟩ := row_form h2
  refine ⟨ao', cap', w', hr, h2, h3, fun k hk => ?_⟩
  rcases h5 with h5 | h5
  ·exact Or.inl (by rw [← h5]; exact hk)
  ·rw [hk] at h5
   have := Option.some.inj h5
   exact Or.inr (by omega)
 rcases hh with ⟨h0, rfl, _⟩ | ⟨b, o, rfl, hcell⟩
 ·cases ao with
  | none =>
   obtain rfl := h0 rfl
   obtain ⟨ao', cap', rfl, _, _⟩ := row_form hown
   refine ⟨ao', cap', w, run_append_owned_none (P := Tryz.prog) (w := w) B 32 ty 9 ti 1 Tryz.underlying32 hti _ n ds hown, ?_, ⟨rfl, rfl, rfl, Nat.le_refl _, fun _ _ _ => rfl⟩, fun k hk => Or.inl hk⟩
   rw [List.map_nil, List.append_nil]; exact hown
  | some a =>
   obtain ⟨b, o, f⟩ := a
   obtain ⟨v', w', hr, h2, h3, _, h5⟩ := run_append_own_at (P := Tryz.prog) w B 32 ty 9 ti (.string ⟨#[]⟩) 1 16 Tryz.underlying32 hti htj.2.2 htj.1 htj.2.1 rfl (by decide) v n ds hown ⟨b, o, f⟩ 0 cap [] rfl (fun j u hu => by simp at hu) (fun u hu => by cases hu) (by unfold maxLen; simp at hle; omega) (by simp at hle; omega) hb
   obtain ⟨ao', cap', rfl, _, _⟩ := row_form h2
   refine ⟨ao', cap', w', hr, h2, h3, fun k hk => ?_⟩
   rcases h5 with h5 | h5
   ·exact Or.inl (by rw [← h5]; exact hk)
   ·have hk' : (Value.slice ao' (n + 0) cap').ownBlock = some k := hk
    rw [hk'] at h5
    have := Option.some.inj h5
    exact Or.inr (by omega)
 ·exact main b o rfl hcell
theorem wp_append_texts {w : World} {o : Oper} {a : Act} {K : Act → World → Prop} {Q : Exit → Act → World → Prop} (s x : Operand)
  (ho : o.op = .call { callee := .builtin .append, args := #[s, x], argTypes := #[32, 32] }) (B : Nat) (v : Value) (n : Nat) (ds : List Value) (hs : a.eval s = v) (hown : w.ownsRow B 9 1 v n ds) (vx : Value) (l : List ByteArray) (hx : a.eval x = vx) (hxl : TextsAt w vx l) (hle : n + l.length ≤ 100000000) (hb : B ≤ w.heap.size)
  (h : ∀ ao' cap' w', w'.ownsRow B 9 1 (.slice ao' (n + l.length) cap') (n + l.length) (ds ++ l.map Value.string) → w.grownBy w' v.ownBlock → (∀ k, (Value.slice ao' (n + l.length) cap').ownBlock = some k → v.ownBlock = some k ∨ w.heap.size ≤ k) → K (a.put o.dst (.slice ao' (n + l.length) cap')) w') : o.wp Tryz.prog a w K Q := by
 obtain ⟨ao', cap', w', hr, h2, h3, h4⟩ := run_append_texts o.type B v n ds hown vx l hxl hle hb
 unfold Oper.wp execOp
 simp only [ho, resolve, invoke, builtin, Sem.run_bind, Sem.run_pure, Result.andThen_ok, List.map_toArray, List.map_cons, List.map_nil, hs, hx, hr]
 exact h ao' cap' w' h2 h3 h4
theorem wpList_append_texts {w : World} {ops : Array Oper} {rest : List Oper} {o : Oper} {a : Act} {Q : Exit → Act → World → Prop} (hgd : o.guard = none) (s x : Operand)
  (ho : o.op = .call { callee := .builtin .append, args := #[s, x], argTypes := #[32, 32] }) (B : Nat) (v : Value) (n : Nat) (ds : List Value) (hs : a.eval s = v) (hown : w.ownsRow B 9 1 v n ds) (vx : Value) (l : List ByteArray) (hx : a.eval x = vx) (hxl : TextsAt w vx l) (hle : n + l.length ≤ 100000000) (hb : B ≤ w.heap.size)
  (h : ∀ ao' cap' w', w'.ownsRow B 9 1 (.slice ao' (n + l.length) cap') (n + l.length) (ds ++ l.map Value.string) → w.grownBy w' v.ownBlock → (∀ k, (Value.slice ao' (n + l.length) cap').ownBlock = some k → v.ownBlock = some k ∨ w.heap.size ≤ k) → wpList Tryz.prog ops Q rest (a.put o.dst (.slice ao' (n + l.length) cap')) w') : wpList Tryz.prog ops Q (o :: rest) a w :=
 wpList_plain hgd fun _ hK => wp_append_texts s x ho B v n ds hs hown vx l hx hxl hle hb fun ao' cap' w' h2 h3 h4 => hK _ _ (h ao' cap' w' h2 h3 h4)
theorem step_append_texts {w : World} {ops : Array Oper} {o : Oper} {a : Act} {K : Act → World → Prop} {Q : Exit → Act → World → Prop} {E : Prop} (hgd : o.guard = none) (s x : Operand)
  (ho : o.op = .call { callee := .builtin .append, args := #[s, x], argTypes := #[32, 32] }) (B : Nat) (v : Value) (n : Nat) (ds : List Value) (hs : a.eval s = v) (hown : w.ownsRow B 9 1 v n ds) (vx : Value) (l : List ByteArray) (hx : a.eval x = vx) (hxl : TextsAt w vx l) (hle : n + l.length ≤ 100000000) (hb : B ≤ w.heap.size)
  (h : ∀ ao' cap' w', w'.ownsRow B 9 1 (.slice ao' (n + l.length) cap') (n + l.length) (ds ++ l.map Value.string) → w.grownBy w' v.ownBlock → (∀ k, (Value.slice ao' (n + l.length) cap').ownBlock = some k → v.ownBlock = some k ∨ w.heap.size ≤ k) → K (a.put o.dst (.slice ao' (n + l.length) cap')) w') : if Region.wanted o (yielded ops a.tmps) = true then Oper.wp Tryz.prog o a w K Q else E := by
 have hw : Region.wanted o (yielded ops a.tmps) = true := by simp [Region.wanted, hgd]
 rw [if_pos hw]
 exact wp_append_texts s x ho B v n ds hs hown vx l hx hxl hle hb h
end Go.Proofs.YthhbpebihgjpjaaGreatDoor

namespace Go.Proofs.YthhbpebihgjpjaaGreatDoor
open Go.RowKit
set_option maxRecDepth 1000000

theorem default_head {t : ByteArray} (h : keywordB t tDefault = true) : 7 ≤ t.size ∧ byteOf t 0 = 100 ∧ headB t = tDefault := by
 rw [keyword_is] at h
 have h1 := of_decide_eq_true (Bool.and_eq_true_iff.1 h).2
 have h2 := headB_size t
 have h3 : wordLenB t ≤ t.size := spanLen_le _ _
 have h4 : (headB t).size = 7 := by rw [h1]; rfl
 have h6 : wordLenB t = 7 := by omega
 refine ⟨by omega, ?_, h1⟩
 have h5 : byteOf (headB t) 0 = byteOf t 0 := by
  unfold headB at h4 ⊢
  have := byteOf_extract t 0 (wordLenB t) 0 (by omega) (by omega)
  simpa using this
 rw [← h5, h1]
 rfl
theorem not_keyword {t k : ByteArray} (h : headB t = tDefault) (hk : k ≠ tDefault) : keywordB t k = false := by
 rw [keyword_is, h, decide_eq_false (fun e => hk e.symm), Bool.and_false]
theorem RV.failed_same {r : RV} {k : Int} {n : Nat} (h : r.e ≠ 0) : r.failed k n = r := if_neg h
set_option maxHeartbeats 16000000 in
theorem rstatement_default {r : RV} {ds : List REdgeV} {c : Nat → Nat} {B : Nat} {w : World} {rb : Nat} {L : List Line} {S : St} {m : Nat} {x : Line} (h : RSt r ds c B w rb L S (m + 1)) (hx : L[r.at']? = some x) (hnd : keywordB x.2 tDefault = true) :
  Calls Tryz.prog 211 #[.pointer (some ⟨rb, 0, none⟩)] w (rstepEnd r ds c B rb m L w S x) := by
 obtain ⟨hz7, hby, hhd⟩ := default_head hnd
 have H : Hid (RSt r ds c B w rb L S (m + 1)) := h
 have HX : Hid (L[r.at']? = some x) := hx
 have hts : x.2.size ≤ 4000 := h.len.2 x (List.mem_of_getElem? hx)
 obtain ⟨aol, capl, hvl, hcl, hll⟩ := h.const.now.1
 obtain ⟨gl, ol, rfl, hl2⟩ : ∃ g o, aol = some ⟨g, o, none⟩ ∧ ∀ (k : Nat) x, L[k]? = some x → w.cell? ⟨g, o + k * 2, none⟩ = some (.string x.2) ∧ w.cell? ⟨g, o + k * 2 + 1, none⟩ = some (.int .i64 (x.1 : Nat)) := by
  rcases hll with e | e
  ·rw [e] at hx; simp at hx
  ·exact e
 have d1 := (hl2 r.at' x hx).1
 have c0 : w.cell? ⟨rb, 0, none⟩ = some (.slice (some ⟨gl, ol, none⟩) L.length capl) := by rw [cell_of_row _ _ _ _ _ _ h.row]; exact congrArg some hvl
 have c1 : w.cell? ⟨rb, 1, none⟩ = some (.int .i64 (r.at' : Nat)) := by rw [cell_of_row _ _ _ _ _ _ h.row]; rfl
 have hjl : r.at' < L.length := (List.getElem?_eq_some_iff.1 hx).1
 have j0 : (0 : Int) ≤ (r.at' : Int) := by omega
 have jl : (r.at' : Int) < (L.length : Int) := by omega
 have ll5 : (L.length : Int) ≤ 5000 := by have := h.len.1; omega
 have hlf : leftB x.2 = x.2 := left_self (fun _ => by rw [hby]; decide)
 have hem : emptyB x.2 = false := by
  unfold emptyB
  rw [hlf]
  simp [hby]
  intro e
  rw [e] at hz7
  exact absurd hz7 (by decide)
 have hbg : begins x.2 32 = false := by rw [begins_spec, hby]; simp
 have hk1 : keywordB x.2 tRule = false := not_keyword hhd (by intro e; exact absurd (congrArg ByteArray.size e) (by decide))
 have hk2 : keywordB x.2 tBuild = false := not_keyword hhd (by intro e; exact absurd (congrArg ByteArray.size e) (by decide))
 have HF : Hid (stmtS S x.1 x.2 (said (L.drop (r.at' + 1))) = defaultS S x.1 (x.2.extract 7 x.2.size) (said (L.drop (r.at' + 1)))) := by
  show stmtS _ _ _ _ = _
  unfold stmtS
  rw [if_neg (by rw [hbg]; decide), if_neg (by rw [hk1]; decide), if_neg (by rw [hk2]; decide), if_pos hnd]
 have HEM : Hid (∀ wx, Calls Tryz.prog 281 #[.string x.2] wx fun e w' => e = .returned (.bool (emptyB x.2)) ∧ w' = wx) := fun wx => rempty_any x.2 (by omega) wx
 have HK1 : Hid (∀ wx, Calls Tryz.prog 282 #[.string x.2, .string ⟨#[114, 117, 108, 101]⟩] wx fun e w' => e = .returned (.bool (keywordB x.2 tRule)) ∧ w' = wx) := fun wx => rkeyword_any x.2 tRule (by omega) wx
 have HK2 : Hid (∀ wx, Calls Tryz.prog 282 #[.string x.2, .string ⟨#[98, 117, 105, 108, 100]⟩] wx fun e w' => e = .returned (.bool (keywordB x.2 tBuild)) ∧ w' = wx) := fun wx => rkeyword_any x.2 tBuild (by omega) wx
 have HK3 : Hid (∀ wx, Calls Tryz.prog 282 #[.string x.2, .string ⟨#[100, 101, 102, 97, 117, 108, 116]⟩] wx fun e w' => e = .returned (.bool (keywordB x.2 tDefault)) ∧ w' = wx) := fun wx => rkeyword_any x.2 tDefault (by omega) wx
 rw [hem] at HEM
 rw [hk1] at HK1
 rw [hk2] at HK2
 rw [hnd] at HK3
 have HG : Hid (∀ e w', rstmtEnd B rb m L w (stmtS S x.1 x.2 (said (L.drop (r.at' + 1)))) e w' → rstepEnd r ds c B rb m L w S x e w') := fun e w' hq => by unfold rstepEnd; rw [if_neg (by rw [hem]; decide)]; exact hq
 have hix0 : ∀ wx, (Instr.index 9 (.string x.2) (.int .i64 0)).run Tryz.prog wx = .ok (.int .u8 (byteOf x.2 0)) wx := fun wx => run_index_text x.2 0 (by omega) wx
 have hp1 : (0 : Int) < (x.2.size : Int) := by omega
 rw [hby] at hix0
 have hsl : ∀ wx, (Instr.slice 9 (.string x.2) (some (.int .i64 7)) none none).run Tryz.prog wx = .ok (.string (x.2.extract 7 x.2.size)) wx := fun wx => slice_from x.2 7 hz7 wx
 have hes : (x.2.extract 7 x.2.size).size ≤ 4000 := by rw [ByteArray.size_extract]; omega
 obtain ⟨aof, capf, hvf, _, _⟩ := row_form H.out.defs
 have HVF : Hid (r.vf = .slice aof S.defs.length capf) := hvf
 clear h hx hvl hcl hll hl2 hem hbg hk1 hk2 hby hhd hlf hnd hvf
 generalize x.2.extract 7 x.2.size = T7 at *
 go_enter Tryz.func211, Tryz.ntmps211
 go_wp2_with fail
 go_quiet (fail)
 have HS1 : Hid (RSt r ds c B (w.drewN nq) rb L S (m + 1)) := H.out.below (below_drewN (Below.refl _ _) nq)
 have HB1 : Hid (Below B w (w.drewN nq)) := below_drewN (Below.refl _ _) nq
 generalize w.drewN nq = w1 at *
 clear c0 c1 d1
 go_wp2_with fail
 refine (HEM.out _).mono ?_
 rintro e w2 ⟨rfl, hw⟩
 rw [hw]
 clear hw w2
 go_wp2_with fail
 refine (HK1.out _).mono ?_
 rintro e w2 ⟨rfl, hw⟩
 rw [hw]
 clear hw w2
 go_wp2_with fail
 refine (HK2.out _).mono ?_
 rintro e w2 ⟨rfl, hw⟩
 rw [hw]
 clear hw w2
 go_wp2_with fail
 refine (HK3.out _).mono ?_
 rintro e w2 ⟨rfl, hw⟩
 rw [hw]
 clear hw w2
 have HA1 : Hid (RAt r w1 rb L x) := HS1.out.at HX.out
 have HRP := rpaths_any T7 false false HA1.out H.out.e0 HS1.out.binds.1 (fun g o n c' e q => by have h1 := H.out.c2 g (by rw [e]; rfl); have h2 := H.out.c1; rw [q] at h1; omega) (by have := H.out.ok.tops; omega) hes H.out.ok.top
 go_wp2_with fail
 refine HRP.mono ?_
 rintro e w5 ⟨vl, vq, ll, sl, r5, rfl, hll, htq, hlen, hl1, hl2, hr5, hg5, hout⟩
 obtain ⟨gl1, capL, rfl, hcL, hgL, hcell⟩ := hll
 have h0 : 0 < ll.length := by omega
 obtain ⟨l0, hl0⟩ : ∃ l0, ll[0]? = some l0 := ⟨ll[0], by simp⟩
 obtain ⟨pv, hpv, hptx⟩ := hcell 0 l0 hl0
 obtain ⟨aoP, cpP, rfl, _, _⟩ := hptx.1
 have hl0m : l0.length ≤ 10000 := hl2 l0 (List.mem_of_getElem? hl0)
 have H5 : Hid (RRow r5 w5 rb ∧ r5.at' = r.at' ∧ r5.vf = r.vf ∧ r5.vl = r.vl) := ⟨hr5, by rcases hout with ⟨e, _⟩ | ⟨b, e, _⟩ <;> rw [e]; (exact (RV.failed_vl _ _ _).2.1), by rcases hout with ⟨e, _⟩ | ⟨b, e, _⟩ <;> rw [e]; (unfold RV.failed; split <;> rfl), by rcases hout with ⟨e, _⟩ | ⟨b, e, _⟩ <;> rw [e]; (exact (RV.failed_vl _ _ _).1)⟩
 have HA5 : Hid (RAt r5 w5 rb L x) := HA1.out.grown hg5 hr5 ⟨H5.out.2.2.2, H5.out.2.1⟩
 have HB5 : Hid (Below B w w5) := HB1.out.trans (grown_below hg5 HS1.out.rlow HS1.out.bw)
 have HG5 : Hid (w1.grownBy w5 (some rb)) := hg5
 have HC5 : Hid (w5.cell? ⟨gl1, 0, none⟩ = some (.slice aoP l0.length cpP) ∧ TextsF w1.heap.size w5 (.slice aoP l0.length cpP) l0) := ⟨hpv, hptx⟩
 have HNR : Hid (¬ gl1 = rb ∧ gl1 < w5.heap.size) := ⟨fun e => by have := HS1.out.row.lt; omega, block_lt_of_cell hpv⟩
 have HOUT : Hid ((r5 = r ∧ sl = [] ∧ defaultS S x.1 T7 (said (L.drop (r.at' + 1))) = (if l0 = [] then .error (.syn, x.1) else .ok ({ S with defs := S.defs ++ l0 }, said (L.drop (r.at' + 1)))) ∧ l0.length ≤ 4000) ∨ ∃ b, r5.e = ((badK b : Nat) : Int) + 1 ∧ r5.line = (x.1 : Nat) ∧ defaultS S x.1 T7 (said (L.drop (r.at' + 1))) = .error (b, x.1)) := by
  rcases hout with ⟨e, A, hne, hA1, hA2, hA3⟩ | ⟨b, e, hb⟩
  ·left
   have hA3 : pathsS (envOf [] S.top) [] T7 = .ok A := hA3
   have hok := pathsS_ok hA3
   have ht : A.tail = [] := by
    cases hq : A.tail with
    | nil => rfl
    | cons y q =>
     have := hok.1.marks y (by rw [hq]; exact List.mem_cons_self)
     simp [memB] at this
   obtain ⟨y, hy0, hfs, hym⟩ := hok.1.firstS
   have hl0' : l0 = y.2 := by
    have : (A.map (·.2))[0]? = some y.2 := by rw [List.getElem?_map, hy0]; rfl
    rw [hA1, hl0] at this
    exact Option.some.inj this
   refine ⟨e, by rw [← hA2, ht]; rfl, ?_, ?_⟩
   ·unfold defaultS
    rw [hA3]
    simp only
    rw [hfs, ← hl0']
   ·rw [hl0']
    have := countS_mem hym
    omega
  ·right
   refine ⟨b, by rw [e]; exact RV.failed_e H.out.e0, by rw [e]; exact RV.failed_line H.out.e0, ?_⟩
   have hb : pathsS (envOf [] S.top) [] T7 = .error b := hb
   unfold defaultS
   rw [hb]
 obtain ⟨aoq, capq, rfl, hcq, _⟩ := htq.1
 have hlz : (0 : Int) < (ll.length : Int) := by omega
 have hlz2 : ¬ ll.length = 0 := by omega
 have hfl : Hid (Calls Tryz.prog 283 #[.pointer (some ⟨rb, 0, none⟩), .int .i64 5] w5 fun e w' => e = .returned (.tuple #[]) ∧ RRow (r5.failed 5 x.1) w' rb ∧ w5.grownBy w' (some rb)) := rfail_any 5 HA5.out.row HA5.out.lines HA5.out.at' HA5.out.ne
 have HDF5 : Hid (w5.ownsRow B 9 1 (.slice aof S.defs.length capf) S.defs.length (S.defs.map Value.string)) := by
  have h := HS1.out.defs
  rw [HVF.out] at h
  exact rkeep h (fun k hk => HG5.out.block k (rblock h k hk).2 (fun e => by have h1 := HS1.out.c6 k (by rw [HVF.out]; exact hk); have h2 := HS1.out.c1; rw [Option.some.inj e] at h1; omega))
 have HLL : Hid (ll.length = sl.length + 1) := hlen
 have hdl : S.defs.length ≤ 20000000 := by have := H.out.ok.defs; omega
 clear htq hlen hl1 hl2 hr5 hg5 hout hcell hl0 hpv hptx hcL hgL h0
 generalize hDL : S.defs.length = DL at *
 have HDL : Hid (S.defs.length = DL) := hDL
 clear hDL
 generalize ll.length = LL at *
 generalize hXL : l0.length = XL at *
 have HXL : Hid (l0.length = XL) := hXL
 clear hXL
 have cl5 : w5.cell? ⟨gl1, 0, none⟩ = some (.slice aoP XL cpP) := HC5.out.1
 rcases sl with _ | ⟨s0, sl'⟩
 case' nil =>
  by_cases hx0 : XL = 0
  case' pos =>
   have HER : Hid ((∃ b, r5.e = ((badK b : Nat) : Int) + 1 ∧ r5.line = (x.1 : Nat) ∧ defaultS S x.1 T7 (said (L.drop (r.at' + 1))) = .error (b, x.1)) ∨ r5.e = 0 ∧ defaultS S x.1 T7 (said (L.drop (r.at' + 1))) = .error (.syn, x.1)) := by
    rcases HOUT.out with ⟨e, _, q, _⟩ | q
    ·right
     refine ⟨by rw [e]; exact H.out.e0, ?_⟩
     rw [q, if_pos (List.length_eq_zero_iff.1 (HXL.out.trans hx0))]
    ·exact Or.inl q
   have hx1 : (((XL : Nat) : Int) == 0) = true := by simp [hx0]
   clear HOUT hx0
   go_wp2_with fail
   refine hfl.out.mono ?_
   rintro e w6 ⟨rfl, hr6, hg6⟩
   obtain ⟨r6, hr6e⟩ : ∃ r6, r6 = r5.failed 5 x.1 := ⟨_, rfl⟩
   rw [← hr6e] at hr6
   have H6 : Hid (RRow r6 w6 rb ∧ r6.at' = r.at' ∧ r6.vf = .slice aof DL capf) := ⟨hr6, by rw [hr6e, (RV.failed_vl _ _ _).2.1]; exact H5.out.2.1, by rw [hr6e]; refine Eq.trans ?_ (H5.out.2.2.1.trans HVF.out); unfold RV.failed; split <;> rfl⟩
   have HS6 : Hid (SlV r6.vl) := by rw [hr6e]; exact RV.failed_sl (by rw [H5.out.2.2.2]; exact H.out.sl)
   have HEND : Hid ((∃ bk : Bad × Nat, defaultS S x.1 T7 (said (L.drop (r.at' + 1))) = .error bk ∧ r6.e = ((badK bk.1 : Nat) : Int) + 1 ∧ r6.line = (bk.2 : Nat)) ∨ (defaultS S x.1 T7 (said (L.drop (r.at' + 1))) = .ok ({ S with defs := S.defs ++ l0 }, said (L.drop (r.at' + 1))) ∧ l0.length ≤ 4000 ∧ RSt r ds c B w6 rb L S (m + 1) ∧ r.vf = .slice aof DL capf)) := by
    left
    rcases HER.out with ⟨b, q1, q2, q3⟩ | ⟨q1, q2⟩
    ·refine ⟨(b, x.1), q3, ?_, ?_⟩
     ·rw [hr6e, RV.failed_same (by rw [q1]; omega)]; exact q1
     ·rw [hr6e, RV.failed_same (by rw [q1]; omega)]; exact q2
    ·exact ⟨(.syn, x.1), q2, by rw [hr6e]; exact RV.failed_e q1, by rw [hr6e]; exact RV.failed_line q1⟩
   have HG6 : Hid (∀ k, k < w5.heap.size → k ≠ rb → w6.heap[k]? = w5.heap[k]?) := fun k hk hn => hg6.block k hk (fun e => hn (Option.some.inj e))
   have HC6 : Hid (w6.cell? ⟨gl1, 0, none⟩ = some (.slice aoP _ cpP) ∧ TextsF w1.heap.size w6 (.slice aoP _ cpP) l0) := ⟨(World.cell?_of_block (w := w5) (a := ⟨gl1, 0, none⟩) (HG6.out gl1 HNR.out.2 HNR.out.1)).trans HC5.out.1, TextsF.same (W0 := w1.heap.size) (w := w5) HC5.out.2 (fun k h1 h2 => HG6.out k h2 (fun e => by have := HS1.out.row.lt; omega))⟩
   have HB6 : Hid (Below B w w6) := HB5.out.trans (grown_below hg6 H.out.rlow (Nat.le_trans H.out.bw HB5.out.size))
   clear hr6 hg6 hr6e HER HC5 hfl H5 HA5 HNR HB5 cl5
  case' neg =>
   have hx1 : (((XL : Nat) : Int) == 0) = false := by simpa using hx0
   have H6 : Hid (RRow r5 w5 rb ∧ r5.at' = r.at' ∧ r5.vf = .slice aof DL capf) := ⟨H5.out.1, H5.out.2.1, H5.out.2.2.1.trans HVF.out⟩
   have HEND : Hid ((∃ bk : Bad × Nat, defaultS S x.1 T7 (said (L.drop (r.at' + 1))) = .error bk ∧ r5.e = ((badK bk.1 : Nat) : Int) + 1 ∧ r5.line = (bk.2 : Nat)) ∨ (defaultS S x.1 T7 (said (L.drop (r.at' + 1))) = .ok ({ S with defs := S.defs ++ l0 }, said (L.drop (r.at' + 1))) ∧ l0.length ≤ 4000 ∧ RSt r ds c B w5 rb L S (m + 1) ∧ r.vf = .slice aof DL capf)) := by
    rcases HOUT.out with ⟨e, _, q, q2⟩ | ⟨b, q1, q2, q3⟩
    ·right
     refine ⟨?_, by rw [HXL.out]; exact q2, ?_, HVF.out⟩
     ·rw [q, if_neg (fun e => hx0 (by rw [← HXL.out, e]; rfl))]
     ·have h5 := H5.out.1
      rw [e] at h5
      exact HS1.out.moved (j := r.at') HG5.out h5
    ·exact Or.inl ⟨(b, x.1), q3, q1, q2⟩
   have HC6 : Hid (w5.cell? ⟨gl1, 0, none⟩ = some (.slice aoP XL cpP) ∧ TextsF w1.heap.size w5 (.slice aoP XL cpP) l0) := HC5.out
   have HB6 : Hid (Below B w w5) := HB5.out
   have HS6 : Hid (SlV r5.vl) := by rw [H5.out.2.2.2]; exact H.out.sl
   clear HOUT HC5 hfl H5 HA5 HNR HB5
   go_wp2_with fail
   obtain ⟨w6, hw6⟩ : ∃ w6, w6 = w5 := ⟨_, rfl⟩
   subst hw6
   obtain ⟨r6, hr6⟩ : ∃ r6, r6 = r5 := ⟨_, rfl⟩
   subst hr6
   have HG6 : Hid (∀ k, k < w6.heap.size → k ≠ rb → w6.heap[k]? = w6.heap[k]?) := fun _ _ _ => rfl
 case' cons =>
  have hs1 : (0 : Int) < (((s0 :: sl').length : Nat) : Int) := by simp
  have HER : Hid ((∃ b, r5.e = ((badK b : Nat) : Int) + 1 ∧ r5.line = (x.1 : Nat) ∧ defaultS S x.1 T7 (said (L.drop (r.at' + 1))) = .error (b, x.1)) ∨ r5.e = 0 ∧ defaultS S x.1 T7 (said (L.drop (r.at' + 1))) = .error (.syn, x.1)) := by
   rcases HOUT.out with ⟨_, e, _, _⟩ | q
   ·cases e
   ·exact Or.inl q
  clear HOUT
  generalize (s0 :: sl').length = SL at *
  go_wp2_with fail
  refine hfl.out.mono ?_
  rintro e w6 ⟨rfl, hr6, hg6⟩
  obtain ⟨r6, hr6e⟩ : ∃ r6, r6 = r5.failed 5 x.1 := ⟨_, rfl⟩
  rw [← hr6e] at hr6
  have H6 : Hid (RRow r6 w6 rb ∧ r6.at' = r.at' ∧ r6.vf = .slice aof DL capf) := ⟨hr6, by rw [hr6e, (RV.failed_vl _ _ _).2.1]; exact H5.out.2.1, by rw [hr6e]; refine Eq.trans ?_ (H5.out.2.2.1.trans HVF.out); unfold RV.failed; split <;> rfl⟩
  have HS6 : Hid (SlV r6.vl) := by rw [hr6e]; exact RV.failed_sl (by rw [H5.out.2.2.2]; exact H.out.sl)
  have HEND : Hid ((∃ bk : Bad × Nat, defaultS S x.1 T7 (said (L.drop (r.at' + 1))) = .error bk ∧ r6.e = ((badK bk.1 : Nat) : Int) + 1 ∧ r6.line = (bk.2 : Nat)) ∨ (defaultS S x.1 T7 (said (L.drop (r.at' + 1))) = .ok ({ S with defs := S.defs ++ l0 }, said (L.drop (r.at' + 1))) ∧ l0.length ≤ 4000 ∧ RSt r ds c B w6 rb L S (m + 1) ∧ r.vf = .slice aof DL capf)) := by
   left
   rcases HER.out with ⟨b, q1, q2, q3⟩ | ⟨q1, q2⟩
   ·refine ⟨(b, x.1), q3, ?_, ?_⟩
    ·rw [hr6e, RV.failed_same (by rw [q1]; omega)]; exact q1
    ·rw [hr6e, RV.failed_same (by rw [q1]; omega)]; exact q2
   ·exact ⟨(.syn, x.1), q2, by rw [hr6e]; exact RV.failed_e q1, by rw [hr6e]; exact RV.failed_line q1⟩
  have HG6 : Hid (∀ k, k < w5.heap.size → k ≠ rb → w6.heap[k]? = w5.heap[k]?) := fun k hk hn => hg6.block k hk (fun e => hn (Option.some.inj e))
  have HC6 : Hid (w6.cell? ⟨gl1, 0, none⟩ = some (.slice aoP _ cpP) ∧ TextsF w1.heap.size w6 (.slice aoP _ cpP) l0) := ⟨(World.cell?_of_block (w := w5) (a := ⟨gl1, 0, none⟩) (HG6.out gl1 HNR.out.2 HNR.out.1)).trans HC5.out.1, TextsF.same (W0 := w1.heap.size) (w := w5) HC5.out.2 (fun k h1 h2 => HG6.out k h2 (fun e => by have := HS1.out.row.lt; omega))⟩
  have HB6 : Hid (Below B w w6) := HB5.out.trans (grown_below hg6 H.out.rlow (Nat.le_trans H.out.bw HB5.out.size))
  clear hr6 hg6 hr6e HER HC5 hfl H5 HA5 HNR HB5 cl5
 all_goals
  have c66 : w6.cell? ⟨rb, 6, none⟩ = some (.slice aof DL capf) := by rw [cell_of_row _ _ _ _ _ _ H6.out.1]; exact congrArg some H6.out.2.2
  have cl6 : w6.cell? ⟨gl1, 0, none⟩ = some (.slice aoP XL cpP) := HC6.out.1
  have HDF : Hid (w6.ownsRow B 9 1 (.slice aof DL capf) DL (S.defs.map Value.string)) := rkeep HDF5.out (fun k hk => HG6.out k (rblock HDF5.out k hk).2 (fun e => by have h1 := HS1.out.c6 k (by rw [HVF.out]; exact hk); have h2 := HS1.out.c1; rw [e] at h1; omega))
  go_wp2_with fail
  refine wp_region_any (by kernel_rfl) ?_
  change wpAny _ _ _ _ _ _ _ (World.drew _)
  refine wpAny_take (i := 0) (v := .pointer (some ⟨rb, 0, none⟩)) rfl (by kernel_rfl) (by kernel_rfl) (by kernel_rfl) (fun _ _ _ h => h) (Or.inl ⟨by rfl, ?_⟩) ?_
  ·intro w
   go_simp
  refine wpAny_take (i := 1) (v := .pointer (some ⟨rb, 0, none⟩)) rfl (by kernel_rfl) (by kernel_rfl) (by kernel_rfl) (fun _ _ _ h => h) (Or.inl ⟨by rfl, ?_⟩) ?_
  ·intro w
   go_simp
  refine wpAny_take (i := 2) (v := .pointer (some ⟨rb, 0, none⟩)) rfl (by kernel_rfl) (by kernel_rfl) (by kernel_rfl) (fun _ _ _ h => h) (Or.inl ⟨by rfl, ?_⟩) ?_
  ·intro w
   go_simp
  refine wpAny_take (i := 3) (v := .pointer (some ⟨rb, 5, none⟩)) rfl (by kernel_rfl) (by kernel_rfl) (by kernel_rfl) (fun _ _ _ h => h) (Or.inl ⟨by rfl, ?_⟩) ?_
  ·intro w
   go_simp
  refine wpAny_take (i := 4) (v := .pointer (some ⟨rb, 6, none⟩)) rfl (by kernel_rfl) (by kernel_rfl) (by kernel_rfl) (fun _ _ _ h => h) (Or.inl ⟨by rfl, ?_⟩) ?_
  ·intro w
   go_simp
  refine wpAny_take (i := 6) (v := .slice (some ⟨gl1, 0, none⟩) LL capL) rfl (by kernel_rfl) (by kernel_rfl) (by kernel_rfl) (fun _ _ _ h => h) (Or.inl ⟨by rfl, ?_⟩) ?_
  ·intro w
   go_simp
  refine wpAny_take (i := 7) (v := .pointer (some ⟨gl1, 0, none⟩)) rfl (by kernel_rfl) (by kernel_rfl) (by kernel_rfl) (fun _ _ _ h => h) (Or.inl ⟨by rfl, ?_⟩) ?_
  ·intro w
   go_simp
  refine wpAny_ready (rs := [5, 8]) (by kernel_rfl) (by simp) ?_
  refine AllReady.cons rfl (fun K hK => ?_) (AllReady.cons rfl (fun K hK => ?_) AllReady.nil)
  case' _ =>
   go_simp
   refine hK _ _ ?_
   clear hK K
   refine wpAny_ready (rs := [8]) (by kernel_rfl) (by simp) ?_
   refine AllReady.cons rfl (fun K hK => ?_) AllReady.nil
   go_simp
  rotate_left
  case' _ =>
   go_simp
   refine hK _ _ ?_
   clear hK K
   refine wpAny_ready (rs := [5]) (by kernel_rfl) (by simp) ?_
   refine AllReady.cons rfl (fun K hK => ?_) AllReady.nil
   go_simp
  all_goals
   refine hK _ _ ?_
   clear hK K
   have HD7 : Hid (w6.drew.ownsRow B 9 1 (.slice aof DL capf) DL (S.defs.map Value.string)) := HDF.out
   have HT7 : Hid (TextsAt w6.drew (.slice aoP XL cpP) l0) := HC6.out.2.1
   refine wpAny_ready (rs := [9]) (by kernel_rfl) (by simp) ?_
   refine AllReady.cons rfl (fun K hK => ?_) AllReady.nil
   refine step_append_texts rfl (.tmp 110) (.tmp 113) rfl B _ DL (S.defs.map Value.string) rfl HD7.out _ l0 rfl HT7.out (by rw [HXL.out]; omega) (by have := HB6.out.size; have := H.out.bw; show B ≤ w6.heap.size; omega) ?_
   rw [HXL.out]
   intro ao7 cap7 w7 hv7 hg7 hat7
   have hrow7 : w7.heap[rb]? = w6.heap[rb]? := hg7.block rb H6.out.1.lt (fun e => by
    have h1 := H.out.c6 rb (by rw [HVF.out]; exact e.symm)
    have h2 := H.out.c1
    omega)
   have d7 : w7.cell? ⟨rb, 6, none⟩ = some (.slice aof DL capf) := (World.cell?_of_block (w := w6) (a := ⟨rb, 6, none⟩) hrow7).trans c66
   have f7 : w7.frozen? ⟨rb, 6, none⟩ = false := frozen_of_row _ _ _ _ _ (hrow7.trans H6.out.1)
   have HR8 : Hid (RRow { r6 with vf := .slice ao7 (DL + XL) cap7 } (w7.setCell ⟨rb, 6, none⟩ (.slice ao7 (DL + XL) cap7)) rb) := by
    show (w7.setCell ⟨rb, 6, none⟩ (.slice ao7 (DL + XL) cap7)).heap[rb]? = _
    rw [heap_setCell_same _ _ _ _ _ _ (hrow7.trans H6.out.1)]; rfl
   have HB8 : Hid (Below B w (w7.setCell ⟨rb, 6, none⟩ (.slice ao7 (DL + XL) cap7))) := (HB6.out.grown (w' := w7) ⟨hg7.os, hg7.tape, hg7.output, hg7.size, hg7.block⟩ (Nat.le_trans H.out.bw HB6.out.size) (fun k hk => (rblock HDF.out k hk).1)).setCell (p := ⟨rb, 6, none⟩) H.out.rlow _
   have c18 : (w7.setCell ⟨rb, 6, none⟩ (.slice ao7 (DL + XL) cap7)).cell? ⟨rb, 1, none⟩ = some (.int .i64 (r.at' : Nat)) := by rw [cell_of_row _ _ _ _ _ _ HR8.out]; exact congrArg (fun z : Nat => some (Value.int .i64 (z : Nat))) H6.out.2.1
   have f18 : (w7.setCell ⟨rb, 6, none⟩ (.slice ao7 (DL + XL) cap7)).frozen? ⟨rb, 1, none⟩ = false := frozen_of_row _ _ _ _ _ HR8.out
   have HFIN : Hid (rstmtEnd B rb m L w (stmtS S x.1 x.2 (said (L.drop (r.at' + 1)))) (.returned (.tuple #[])) ((w7.setCell ⟨rb, 6, none⟩ (.slice ao7 (DL + XL) cap7)).setCell ⟨rb, 1, none⟩ (.int .i64 ((r.at' : Int) + 1)))) := by
    refine ⟨rfl, HB8.out.setCell (p := ⟨rb, 1, none⟩) H.out.rlow _, ?_⟩
    rw [HF.out]
    rcases HEND.out with ⟨bk, q1, q2, q3⟩ | ⟨q1, q2, q3, q4⟩
    ·rw [q1]
     exact ⟨_, RRow.setAt HR8.out (r.at' + 1) _ (by omega), q2, q3, HS6.out⟩
    ·rw [q1]
     have h8 := q3.addDefs (l := l0) (w3 := w7) (vr' := .slice ao7 (DL + XL) cap7) (by rw [q4]; exact ⟨hg7.os, hg7.tape, hg7.output, hg7.size, hg7.block⟩) (by rw [HDL.out, HXL.out]; exact hv7) (fun k hk => by rw [q4]; exact hat7 k hk) q2
     have h9 := h8.moved (j := r.at' + 1) (w' := (w7.setCell ⟨rb, 6, none⟩ (.slice ao7 (DL + XL) cap7)).setCell ⟨rb, 1, none⟩ (.int .i64 ((r.at' : Int) + 1))) ⟨rfl, rfl, rfl, by simp, fun k hk hn => heap_setCell_other _ _ _ _ (fun e => hn (by rw [e]))⟩ (RRow.setAt h8.row (r.at' + 1) _ (by omega))
     exact ⟨_, _, _, h9, rfl⟩
   clear hv7 hg7 hat7 hrow7
   refine hK _ _ ?_
   clear hK K
   refine wpAny_take (i := 10) (v := .pointer (some ⟨rb, 0, none⟩)) rfl (by kernel_rfl) (by kernel_rfl) (by kernel_rfl) (fun _ _ _ h => h) (Or.inl ⟨by rfl, ?_⟩) ?_
   ·intro w
    go_simp
   refine wpAny_take (i := 11) (v := .pointer (some ⟨rb, 5, none⟩)) rfl (by kernel_rfl) (by kernel_rfl) (by kernel_rfl) (fun _ _ _ h => h) (Or.inl ⟨by rfl, ?_⟩) ?_
   ·intro w
    go_simp
   refine wpAny_take (i := 12) (v := .pointer (some ⟨rb, 6, none⟩)) rfl (by kernel_rfl) (by kernel_rfl) (by kernel_rfl) (fun _ _ _ h => h) (Or.inl ⟨by rfl, ?_⟩) ?_
   ·intro w
    go_simp
   refine wpAny_ready (rs := [13]) (by kernel_rfl) (by simp) ?_
   refine AllReady.cons rfl (fun K hK => ?_) AllReady.nil
   go_simp
   refine hK _ _ ?_
   clear hK K
   refine wpAny_done (by kernel_rfl) ?_ _
   generalize w7.setCell ⟨rb, 6, none⟩ (.slice ao7 (DL + XL) cap7) = w8 at *
   clear d7 f7
   go_wp2_with fail
   go_end0
   exact HG.out _ _ HFIN.out
end Go.Proofs.YthhbpebihgjpjaaGreatDoor
