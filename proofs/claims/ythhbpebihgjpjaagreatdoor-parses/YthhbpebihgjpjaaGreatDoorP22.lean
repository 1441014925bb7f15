import Derived.Test.YthhbpebihgjpjaaGreatDoorP21
import Derived.Test.YthhbpebihgjpjaaGreatDoorP03
import Derived.Deep.QuietTactic
import Derived.BigQuiet
import Derived.BigRegion
import Derived.Deep.AppendLies
import Derived.Laws.AppendOwnNone
namespace Go.Proofs.YthhbpebihgjpjaaGreatDoor
open Go.RowKit
set_option maxRecDepth 1000000

def EdgeRowAt (w : World) (v : Value) (es : List EdgeS) (cs : List ByteArray) : Prop := ∃ ao cap, v = .slice ao es.length cap ∧ (es = [] ∨ ∃ g o, ao = some ⟨g, o, none⟩ ∧ ∀ (k : Nat) e c, es[k]? = some e → cs[k]? = some c → ∃ vo vi vm vr, (w.cell? ⟨g, o + k * 6, none⟩ = some vo ∧ w.cell? ⟨g, o + k * 6 + 1, none⟩ = some vi ∧ w.cell? ⟨g, o + k * 6 + 2, none⟩ = some vm ∧ w.cell? ⟨g, o + k * 6 + 3, none⟩ = some vr ∧ w.cell? ⟨g, o + k * 6 + 4, none⟩ = some (.string e.rule) ∧ w.cell? ⟨g, o + k * 6 + 5, none⟩ = some (.string c)) ∧ TextsAt w vo e.outs ∧ TextsAt w vi e.ins ∧ TextsAt w vm e.impl ∧ TextsAt w vr e.ord)
theorem texts_drew {w : World} {v : Value} {l : List ByteArray} (h : TextsAt w v l) (q : Nat) : TextsAt (w.drewN q) v l := h.keepB (below_drewN (Below.refl _ _) q)
set_option maxHeartbeats 8000000 in
theorem sameEdges_same (es : List EdgeS) (cs : List ByteArray) (v1 v2 : Value) (w : World) (h1 : EdgeRowAt w v1 es cs) (h2 : EdgeRowAt w v2 es cs) (hl : es.length ≤ 64) (hc : cs.length = es.length) (hok : ∀ e ∈ es, e.outs.length ≤ 10000 ∧ e.ins.length ≤ 10000 ∧ e.impl.length ≤ 10000 ∧ e.ord.length ≤ 10000) :
  Calls Tryz.prog 93 #[v1, v2] w fun e w' => e = .returned (.bool true) ∧ ∃ q, w' = w.drewN q := by
 obtain ⟨a1, c1, rfl, h1⟩ := h1
 obtain ⟨a2, c2, rfl, h2⟩ := h2
 have H1 : Hid (es = [] ∨ ∃ g o, a1 = some ⟨g, o, none⟩ ∧ ∀ (k : Nat) e c, es[k]? = some e → cs[k]? = some c → ∃ vo vi vm vr, (w.cell? ⟨g, o + k * 6, none⟩ = some vo ∧ w.cell? ⟨g, o + k * 6 + 1, none⟩ = some vi ∧ w.cell? ⟨g, o + k * 6 + 2, none⟩ = some vm ∧ w.cell? ⟨g, o + k * 6 + 3, none⟩ = some vr ∧ w.cell? ⟨g, o + k * 6 + 4, none⟩ = some (.string e.rule) ∧ w.cell? ⟨g, o + k * 6 + 5, none⟩ = some (.string c)) ∧ TextsAt w vo e.outs ∧ TextsAt w vi e.ins ∧ TextsAt w vm e.impl ∧ TextsAt w vr e.ord) := h1
 have H2 : Hid (es = [] ∨ ∃ g o, a2 = some ⟨g, o, none⟩ ∧ ∀ (k : Nat) e c, es[k]? = some e → cs[k]? = some c → ∃ vo vi vm vr, (w.cell? ⟨g, o + k * 6, none⟩ = some vo ∧ w.cell? ⟨g, o + k * 6 + 1, none⟩ = some vi ∧ w.cell? ⟨g, o + k * 6 + 2, none⟩ = some vm ∧ w.cell? ⟨g, o + k * 6 + 3, none⟩ = some vr ∧ w.cell? ⟨g, o + k * 6 + 4, none⟩ = some (.string e.rule) ∧ w.cell? ⟨g, o + k * 6 + 5, none⟩ = some (.string c)) ∧ TextsAt w vo e.outs ∧ TextsAt w vi e.ins ∧ TextsAt w vm e.impl ∧ TextsAt w vr e.ord) := h2
 have HOK : Hid (∀ e ∈ es, e.outs.length ≤ 10000 ∧ e.ins.length ≤ 10000 ∧ e.impl.length ≤ 10000 ∧ e.ord.length ≤ 10000) := hok
 have HC : Hid (cs.length = es.length) := hc
 clear h1 h2 hok hc
 generalize hL : es.length = L at *
 have HL : Hid (es.length = L) := hL
 have l0 : (L : Int) ≤ 64 := by omega
 clear hL
 go_enter Tryz.func93, Tryz.ntmps93
 go_wp2_with fail
 go_loopw [5] (fun i wr => ∃ j : Nat, i = .int .i64 j ∧ j ≤ L ∧ ∃ q, wr = w.drewN q) (fun i _ => L - (intOf i).toNat)
 case atStart => exact ⟨0, rfl, Nat.zero_le _, 0, rfl⟩
 case round =>
  obtain ⟨j, rfl, hle, q, hq⟩ := hrel
  have HQ : Hid (∃ q, wr = w.drewN q) := ⟨q, hq⟩
  have j0 : (0 : Int) ≤ (j : Int) := by omega
  by_cases hlt : j < L
  ·have j1 : (j : Int) < (L : Int) := by omega
   obtain ⟨e0, he0⟩ : ∃ e, es[j]? = some e := ⟨es[j]'(by have := HL.out; omega), by simp⟩
   obtain ⟨cm, hcm⟩ : ∃ c, cs[j]? = some c := ⟨cs[j]'(by have := HC.out; have := HL.out; omega), by simp⟩
   have hek := HOK.out e0 (List.mem_of_getElem? he0)
   obtain ⟨g1, o1, rfl, r1⟩ : ∃ g o, a1 = some ⟨g, o, none⟩ ∧ _ := by
    rcases H1.out with e | e
    ·rw [e] at he0; simp at he0
    ·exact e
   obtain ⟨g2, o2, rfl, r2⟩ : ∃ g o, a2 = some ⟨g, o, none⟩ ∧ _ := by
    rcases H2.out with e | e
    ·rw [e] at he0; simp at he0
    ·exact e
   obtain ⟨vo1, vi1, vm1, vr1, ⟨p0, p1, p2, p3, p4, p5⟩, to1, ti1, tm1, tr1⟩ := r1 j e0 cm he0 hcm
   obtain ⟨vo2, vi2, vm2, vr2, ⟨s0, s1, s2, s3, s4, s5⟩, to2, ti2, tm2, tr2⟩ := r2 j e0 cm he0 hcm
   have hst : ∀ {v1 v2 : Value} {l : List ByteArray}, TextsAt w v1 l → TextsAt w v2 l → l.length ≤ 10000 → ∀ (W : World), (∃ q, W = w.drewN q) → ∀ n, Calls Tryz.prog 91 #[v1, v2] (W.drewN n) fun e w' => e = .returned (.bool true) ∧ ∃ m, w' = (W.drewN n).drewN m := by
    rintro v1 v2 l t1 t2 hl W ⟨q, rfl⟩ n
    have h := sameTexts_any l l v1 v2 ((w.drewN q).drewN n) (texts_drew (texts_drew t1 q) n) (texts_drew (texts_drew t2 q) n) (by omega)
    rw [decide_eq_true rfl] at h; exact h
   have HO : Hid (∀ W, (∃ q, W = w.drewN q) → ∀ n, Calls Tryz.prog 91 #[vo1, vo2] (W.drewN n) fun e w' => e = .returned (.bool true) ∧ ∃ m, w' = (W.drewN n).drewN m) := hst to1 to2 hek.1
   have HI : Hid (∀ W, (∃ q, W = w.drewN q) → ∀ n, Calls Tryz.prog 91 #[vi1, vi2] (W.drewN n) fun e w' => e = .returned (.bool true) ∧ ∃ m, w' = (W.drewN n).drewN m) := hst ti1 ti2 hek.2.1
   have HM : Hid (∀ W, (∃ q, W = w.drewN q) → ∀ n, Calls Tryz.prog 91 #[vm1, vm2] (W.drewN n) fun e w' => e = .returned (.bool true) ∧ ∃ m, w' = (W.drewN n).drewN m) := hst tm1 tm2 hek.2.2.1
   have HR : Hid (∀ W, (∃ q, W = w.drewN q) → ∀ n, Calls Tryz.prog 91 #[vr1, vr2] (W.drewN n) fun e w' => e = .returned (.bool true) ∧ ∃ m, w' = (W.drewN n).drewN m) := hst tr1 tr2 hek.2.2.2
   have hcl : ∀ (W : World), (∃ q, W = w.drewN q) → ∀ a, W.cell? a = w.cell? a := by rintro W ⟨q, rfl⟩ a; rfl
   have HCL : Hid (∀ (W : World), (∃ q, W = w.drewN q) → ∀ a, W.cell? a = w.cell? a) := hcl
   have HP : Hid ((w.cell? ⟨g1, o1 + j * 6, none⟩ = some vo1 ∧ w.cell? ⟨g1, o1 + j * 6 + 1, none⟩ = some vi1 ∧ w.cell? ⟨g1, o1 + j * 6 + 2, none⟩ = some vm1 ∧ w.cell? ⟨g1, o1 + j * 6 + 3, none⟩ = some vr1 ∧ w.cell? ⟨g1, o1 + j * 6 + 4, none⟩ = some (.string e0.rule) ∧ w.cell? ⟨g1, o1 + j * 6 + 5, none⟩ = some (.string cm)) ∧ (w.cell? ⟨g2, o2 + j * 6, none⟩ = some vo2 ∧ w.cell? ⟨g2, o2 + j * 6 + 1, none⟩ = some vi2 ∧ w.cell? ⟨g2, o2 + j * 6 + 2, none⟩ = some vm2 ∧ w.cell? ⟨g2, o2 + j * 6 + 3, none⟩ = some vr2 ∧ w.cell? ⟨g2, o2 + j * 6 + 4, none⟩ = some (.string e0.rule) ∧ w.cell? ⟨g2, o2 + j * 6 + 5, none⟩ = some (.string cm))) := ⟨⟨p0, p1, p2, p3, p4, p5⟩, s0, s1, s2, s3, s4, s5⟩
   have z4 : (e0.rule.toList == e0.rule.toList) = true := by simp
   have z5 : (cm.toList == cm.toList) = true := by simp
   clear r1 r2 to1 ti1 tm1 tr1 to2 ti2 tm2 tr2 he0 hcm hek hq hst hcl p0 p1 p2 p3 p4 p5 s0 s1 s2 s3 s4 s5
   have x1 : wr.cell? ⟨g1, o1 + j * 6, none⟩ = some vo1 := (HCL.out _ HQ.out _).trans HP.out.1.1
   have x2 : wr.cell? ⟨g2, o2 + j * 6, none⟩ = some vo2 := (HCL.out _ HQ.out _).trans HP.out.2.1
   have HCk : Hid (∀ n, Calls Tryz.prog 91 #[vo1, vo2] (wr.drewN n) fun e w' => e = .returned (.bool true) ∧ ∃ m, w' = (wr.drewN n).drewN m) := HO.out wr HQ.out
   go_wp2_with fail
   go_quiet ((go_at_call 91; exact Calls.quiet_of (HCk.out _)))
   have HQ0 : Hid (∃ q, wr.drewN nq = w.drewN q) := by obtain ⟨q, hq⟩ := HQ.out; exact ⟨q + nq, by rw [hq, World.drewN_drewN]⟩
   generalize wr.drewN nq = W0 at *
   clear x1 x2 HCk
   have x1 : W0.cell? ⟨g1, o1 + j * 6 + 1, none⟩ = some vi1 := (HCL.out _ HQ0.out _).trans HP.out.1.2.1
   have x2 : W0.cell? ⟨g2, o2 + j * 6 + 1, none⟩ = some vi2 := (HCL.out _ HQ0.out _).trans HP.out.2.2.1
   have HCk : Hid (∀ n, Calls Tryz.prog 91 #[vi1, vi2] (W0.drewN n) fun e w' => e = .returned (.bool true) ∧ ∃ m, w' = (W0.drewN n).drewN m) := HI.out W0 HQ0.out
   go_wp2_with fail
   go_quiet ((go_at_call 91; exact Calls.quiet_of (HCk.out _)))
   have HQ1 : Hid (∃ q, W0.drewN nq = w.drewN q) := by obtain ⟨q, hq⟩ := HQ0.out; exact ⟨q + nq, by rw [hq, World.drewN_drewN]⟩
   generalize W0.drewN nq = W1 at *
   clear x1 x2 HCk
   have x1 : W1.cell? ⟨g1, o1 + j * 6 + 2, none⟩ = some vm1 := (HCL.out _ HQ1.out _).trans HP.out.1.2.2.1
   have x2 : W1.cell? ⟨g2, o2 + j * 6 + 2, none⟩ = some vm2 := (HCL.out _ HQ1.out _).trans HP.out.2.2.2.1
   have HCk : Hid (∀ n, Calls Tryz.prog 91 #[vm1, vm2] (W1.drewN n) fun e w' => e = .returned (.bool true) ∧ ∃ m, w' = (W1.drewN n).drewN m) := HM.out W1 HQ1.out
   go_wp2_with fail
   go_quiet ((go_at_call 91; exact Calls.quiet_of (HCk.out _)))
   have HQ2 : Hid (∃ q, W1.drewN nq = w.drewN q) := by obtain ⟨q, hq⟩ := HQ1.out; exact ⟨q + nq, by rw [hq, World.drewN_drewN]⟩
   generalize W1.drewN nq = W2 at *
   clear x1 x2 HCk
   have x1 : W2.cell? ⟨g1, o1 + j * 6 + 3, none⟩ = some vr1 := (HCL.out _ HQ2.out _).trans HP.out.1.2.2.2.1
   have x2 : W2.cell? ⟨g2, o2 + j * 6 + 3, none⟩ = some vr2 := (HCL.out _ HQ2.out _).trans HP.out.2.2.2.2.1
   have HCk : Hid (∀ n, Calls Tryz.prog 91 #[vr1, vr2] (W2.drewN n) fun e w' => e = .returned (.bool true) ∧ ∃ m, w' = (W2.drewN n).drewN m) := HR.out W2 HQ2.out
   go_wp2_with fail
   go_quiet ((go_at_call 91; exact Calls.quiet_of (HCk.out _)))
   have HQ3 : Hid (∃ q, W2.drewN nq = w.drewN q) := by obtain ⟨q, hq⟩ := HQ2.out; exact ⟨q + nq, by rw [hq, World.drewN_drewN]⟩
   generalize W2.drewN nq = W3 at *
   clear x1 x2 HCk
   have x1 : W3.cell? ⟨g1, o1 + j * 6 + 4, none⟩ = some (.string e0.rule) := (HCL.out _ HQ3.out _).trans HP.out.1.2.2.2.2.1
   have x2 : W3.cell? ⟨g2, o2 + j * 6 + 4, none⟩ = some (.string e0.rule) := (HCL.out _ HQ3.out _).trans HP.out.2.2.2.2.2.1
   have x3 : W3.cell? ⟨g1, o1 + j * 6 + 5, none⟩ = some (.string cm) := (HCL.out _ HQ3.out _).trans HP.out.1.2.2.2.2.2
   have x4 : W3.cell? ⟨g2, o2 + j * 6 + 5, none⟩ = some (.string cm) := (HCL.out _ HQ3.out _).trans HP.out.2.2.2.2.2.2
   go_wp2_with fail
   go_quiet (fail)
   have HQ4 : Hid (∃ q, W3.drewN nq = w.drewN q) := by obtain ⟨q, hq⟩ := HQ3.out; exact ⟨q + nq, by rw [hq, World.drewN_drewN]⟩
   generalize W3.drewN nq = W4 at *
   clear x1 x2 x3 x4
   go_wp2_with fail
   exact ⟨⟨j + 1, by go_num, hlt, HQ4.out⟩, by simp [intOf]; omega⟩
  ·have j1 : ¬ (j : Int) < (L : Int) := by omega
   clear hq
   go_wp2_with fail
   go_ret
   exact ⟨rfl, HQ.out⟩
end Go.Proofs.YthhbpebihgjpjaaGreatDoor

namespace Go.Proofs.YthhbpebihgjpjaaGreatDoor
open Go.RowKit
set_option maxRecDepth 1000000

theorem texts_of_row {w : World} {base : Nat} {v : Value} {l : List ByteArray} (h : w.ownsRow base 9 1 v l.length (l.map Value.string)) : TextsAt w v l := by
 obtain ⟨_, ⟨rfl, h0⟩ | ⟨g, cap, cur, rfl, _, hh, hc, _, _, htk⟩⟩ := h
 ·have : l = [] := List.eq_nil_of_length_eq_zero h0
  subst this
  exact ⟨none, 0, rfl, Nat.le_refl _, Or.inl ⟨fun _ => rfl, rfl, trivial⟩⟩
 ·refine ⟨_, cap, rfl, hc, Or.inr ⟨g, 0, rfl, fun k s hs => ?_⟩⟩
  have hk : k < l.length := (List.getElem?_eq_some_iff.1 hs).1
  rw [Nat.zero_add, cell_of_row _ _ _ _ _ _ hh, ← Array.getElem?_toList]
  have h2 : (l.map Value.string)[k]? = some (.string s) := by simp [hs]
  rw [← htk, List.getElem?_take, if_pos (by omega)] at h2
  exact h2

set_option maxHeartbeats 2000000 in
theorem texts_any (l : List ByteArray) (v : Value) (w : World) (h : TextsAt w v l) (hs : l.length ≤ 1048576) :
  Calls Tryz.prog 84 #[v] w fun e w' => ∃ v', e = .returned v' ∧ w'.ownsRow w.heap.size 9 1 v' l.length (l.map Value.string) ∧ Below w.heap.size w w' := by
 have hinf : (Tryz.prog.info? 9).map (fun i => (i.size, i.bytes, i.zero)) = some (1, 16, some (.string ⟨#[]⟩)) := by kernel_rfl
 obtain ⟨ti, hti, htj⟩ := Option.map_eq_some_iff.1 hinf
 simp only [Prod.mk.injEq] at htj
 have HTI : Hid (Tryz.prog.info? 9 = some ti ∧ ti.size = 1 ∧ ti.bytes = 16 ∧ ti.zero = some (.string ⟨#[]⟩)) := ⟨hti, htj.1, htj.2.1, htj.2.2⟩
 have HBA : Hid (Below w.heap.size w (w.alloc (.cells #[] 9))) := (Below.refl _ _).alloc (Nat.le_refl _) _
 have HOW : Hid ((w.alloc (.cells #[] 9)).ownsRow w.heap.size 9 1 (.slice (some ⟨w.heap.size, 0, none⟩) 0 0) 0 []) := ⟨rfl, Or.inr ⟨w.heap.size, 0, #[], rfl, Nat.le_refl _, heapA_new _ _ _ rfl, Nat.le_refl _, Nat.zero_le _, rfl, rfl⟩⟩
 clear hinf hti htj
 obtain ⟨ao, cap, rfl, hc, h⟩ := h
 rcases h with ⟨h0, rfl, _⟩ | ⟨b, o, rfl, h⟩
 ·cases ao with
  | none =>
   obtain rfl := h0 rfl
   go_enter Tryz.func84, Tryz.ntmps84
   go_wp2_with (refine wpList_append_own_none rfl (.tmp 3) (.tmp 4) 32 rfl w.heap.size 9 ti 1 Tryz.underlying32 HTI.out.1 _ 0 [] rfl (by exact HOW.out) rfl ?_; refine Hid.out ?_)
   generalize w.alloc (.cells #[] 9) = w5 at *
   unfold Hid
   go_wp2
   go_ret
   exact ⟨_, rfl, HOW.out, HBA.out⟩
  | some a0 =>
   clear h0
   go_enter Tryz.func84, Tryz.ntmps84
   go_wp2_with (refine wpList_append_own _ rfl (.tmp 3) (.tmp 4) 32 rfl w.heap.size 9 ti (.string ⟨#[]⟩) 1 16 Tryz.underlying32 HTI.out.1 HTI.out.2.2.2 HTI.out.2.1 HTI.out.2.2.1 rfl (by decide) _ 0 [] rfl (by exact HOW.out) a0 0 cap [] rfl rfl (by intro j u hu; simp at hu) (by intro u hu; cases hu) (by unfold maxLen; omega) (by omega) (by simp) ?_; intro v5 w5 hv5 hg5 hn5; refine Hid.out ?_)
   have HB5 : Hid (Below w.heap.size w w5) := HBA.out.grown hg5 (by simp) (fun k hk => by have h : w.heap.size = k := Option.some.inj hk; omega)
   have HO5 : Hid (w5.ownsRow w.heap.size 9 1 v5 0 []) := hv5
   clear hv5 hg5 hn5
   unfold Hid
   go_wp2
   go_ret
   exact ⟨_, rfl, HO5.out, HB5.out⟩
 ·have HNW : Hid (∀ (ob : Obj) (j : Nat) u, (l.map Value.string)[j]? = some u → (w.alloc ob).cell? ((⟨b, o, none⟩ : Addr).add j) = some u) := by
   intro ob j u hu
   have hadd : (⟨b, o, none⟩ : Addr).add j = ⟨b, o + j, none⟩ := by unfold Addr.add; split <;> simp_all
   obtain ⟨s, hs1, rfl⟩ : ∃ s, l[j]? = some s ∧ .string s = u := by simpa using hu
   have hcell := h j s hs1
   rw [hadd, World.cell?_alloc_lt _ _ ⟨b, o + j, none⟩ (block_lt_of_cell hcell)]; exact hcell
  have HONE : Hid (∀ u ∈ l.map Value.string, u.oneCell' = true) := by
   intro u hu
   obtain ⟨s, _, rfl⟩ := List.mem_map.1 hu
   rfl
  clear h
  go_enter Tryz.func84, Tryz.ntmps84
  go_wp2_with (refine wpList_append_own _ rfl (.tmp 3) (.tmp 4) 32 rfl w.heap.size 9 ti (.string ⟨#[]⟩) 1 16 Tryz.underlying32 HTI.out.1 HTI.out.2.2.2 HTI.out.2.1 HTI.out.2.2.1 rfl (by decide) _ 0 [] rfl (by exact HOW.out) ⟨b, o, none⟩ l.length cap (l.map Value.string) rfl (by simp) (by exact HNW.out _) (by exact HONE.out) (by unfold maxLen; omega) (by omega) (by simp) ?_; intro v5 w5 hv5 hg5 hn5; refine Hid.out ?_)
  have HB5 : Hid (Below w.heap.size w w5) := HBA.out.grown hg5 (by simp) (fun k hk => by have h : w.heap.size = k := Option.some.inj hk; omega)
  have HO5 : Hid (w5.ownsRow w.heap.size 9 1 v5 l.length (l.map Value.string)) := by have := hv5; rw [Nat.zero_add] at this; exact this
  clear hv5 hg5 hn5 HNW HONE
  unfold Hid
  go_wp2
  go_ret
  exact ⟨_, rfl, HO5.out, HB5.out⟩
end Go.Proofs.YthhbpebihgjpjaaGreatDoor
