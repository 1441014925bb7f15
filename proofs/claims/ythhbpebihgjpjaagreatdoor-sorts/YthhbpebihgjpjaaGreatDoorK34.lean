import Derived.Test.YthhbpebihgjpjaaGreatDoorK33
import Derived.Test.YthhbpebihgjpjaaGreatDoorK03
import Derived.Deep.QuietTactic
import Derived.BigQuiet
import Derived.Test.YthhbpebihgjpjaaGreatDoorK13
namespace Go.Proofs.YthhbpebihgjpjaaGreatDoor
open Go.RowKit
set_option maxRecDepth 1000000

/-- Edges that are there, whoever owns them. -/
def EdgeRowAt (w : World) (v : Value) (es : List EdgeS) (cs : List ByteArray) : Prop := ∃ ao cap, v = .slice ao es.length cap ∧ (es = [] ∨ ∃ g o, ao = some ⟨g, o, none⟩ ∧ ∀ (k : Nat) e c, es[k]? = some e → cs[k]? = some c → ∃ vo vi vm vr, (w.cell? ⟨g, o + k * 6, none⟩ = some vo ∧ w.cell? ⟨g, o + k * 6 + 1, none⟩ = some vi ∧ w.cell? ⟨g, o + k * 6 + 2, none⟩ = some vm ∧ w.cell? ⟨g, o + k * 6 + 3, none⟩ = some vr ∧ w.cell? ⟨g, o + k * 6 + 4, none⟩ = some (.string e.rule) ∧ w.cell? ⟨g, o + k * 6 + 5, none⟩ = some (.string c)) ∧ TextsAt w vo e.outs ∧ TextsAt w vi e.ins ∧ TextsAt w vm e.impl ∧ TextsAt w vr e.ord)
theorem texts_drew {w : World} {v : Value} {l : List ByteArray} (h : TextsAt w v l) (q : Nat) : TextsAt (w.drewN q) v l := h.keepB (below_drewN (Below.refl _ _) q)
set_option maxHeartbeats 8000000 in
theorem sameEdges_same (es : List EdgeS) (cs : List ByteArray) (v1 v2 : Value) (w : World) (h1 : EdgeRowAt w v1 es cs) (h2 : EdgeRowAt w v2 es cs) (hl : es.length ≤ 64) (hc : cs.length = es.length) (hok : ∀ e ∈ es, e.outs.length ≤ 10000 ∧ e.ins.length ≤ 10000 ∧ e.impl.length ≤ 10000 ∧ e.ord.length ≤ 10000) :
    Calls Tryz.prog 93 #[v1, v2] w fun e w' => e = .returned (.bool true) ∧ ∃ q, w' = w.drewN q := by
  obtain ⟨a1, c1, rfl, h1⟩ := h1
  obtain ⟨a2, c2, rfl, h2⟩ := h2
  have H1 : Hid (es = [] ∨ ∃ g o, a1 = some ⟨g, o, none⟩ ∧ ∀ (k : Nat) e c, es[k]? = some e → cs[k]? = some c → ∃ vo vi vm vr, (w.cell? ⟨g, o + k * 6, none⟩ = some vo ∧ w.cell? ⟨g, o + k * 6 + 1, none⟩ = some vi ∧ w.cell? ⟨g, o + k * 6 + 2, none⟩ = some vm ∧ w.cell? ⟨g, o + k * 6 + 3, none⟩ = some vr ∧ w.cell? ⟨g, o + k * 6 + 4, none⟩ = some (.string e.rule) ∧ w.cell? ⟨g, o + k * 6 + 5, none⟩ = some (.string c)) ∧ TextsAt w vo e.outs ∧ TextsAt w vi e.ins ∧ TextsAt w vm e.impl ∧ TextsAt w vr e.ord) := h1
  have H2 : Hid (es = [] ∨ ∃ g o, a2 = some ⟨g, o, none⟩ ∧ ∀ (k : Nat) e c, es[k]? = some e → cs[k]? = some c → ∃ vo vi vm vr, (w.cell? ⟨g, o + k * 6, none⟩ = some vo ∧ w.cell? ⟨g, o + k * 6 + 1, none⟩ = some vi ∧ w.cell? ⟨g, o + k * 6 + 2, none⟩ = some vm ∧ w.cell? ⟨g, o + k * 6 + 3, none⟩ = some vr ∧ w.cell? ⟨g, o + k * 6 + 4, none⟩ = some (.string e.rule) ∧ w.cell? ⟨g, o + k * 6 + 5, none⟩ = some (.string c)) ∧ TextsAt w vo e.outs ∧ TextsAt w vi e.ins ∧ TextsAt w vm e.impl ∧ TextsAt w vr e.ord) := h2
  have HOK : Hid (∀ e ∈ es, e.outs.length ≤ 10000 ∧ e.ins.length ≤ 10000 ∧ e.impl.length ≤ 10000 ∧ e.ord.length ≤ 10000) := hok
  have HC : Hid (cs.length = es.length) := hc
  clear h1 h2 hok hc
  generalize hL : es.length = L at *
  have HL : Hid (es.length = L) := hL
  have l0 : (L : Int) ≤ 64 := by omega
  clear hL
  go_enter Tryz.func93, Tryz.ntmps93
  go_wp2_with fail
  go_loopw [5] (fun i wr => ∃ j : Nat, i = .int .i64 j ∧ j ≤ L ∧ ∃ q, wr = w.drewN q) (fun i _ => L - (intOf i).toNat)
  case atStart => exact ⟨0, rfl, Nat.zero_le _, 0, rfl⟩
  case round =>
    obtain ⟨j, rfl, hle, q, hq⟩ := hrel
    have HQ : Hid (∃ q, wr = w.drewN q) := ⟨q, hq⟩
    have j0 : (0 : Int) ≤ (j : Int) := by omega
    by_cases hlt : j < L
    · have j1 : (j : Int) < (L : Int) := by omega
      obtain ⟨e0, he0⟩ : ∃ e, es[j]? = some e := ⟨es[j]'(by have := HL.out; omega), by simp⟩
      obtain ⟨cm, hcm⟩ : ∃ c, cs[j]? = some c := ⟨cs[j]'(by have := HC.out; have := HL.out; omega), by simp⟩
      have hek := HOK.out e0 (List.mem_of_getElem? he0)
      obtain ⟨g1, o1, rfl, r1⟩ : ∃ g o, a1 = some ⟨g, o, none⟩ ∧ _ := by
        rcases H1.out with e | e
        · rw [e] at he0; simp at he0
        · exact e
      obtain ⟨g2, o2, rfl, r2⟩ : ∃ g o, a2 = some ⟨g, o, none⟩ ∧ _ := by
        rcases H2.out with e | e
        · rw [e] at he0; simp at he0
        · exact e
      obtain ⟨vo1, vi1, vm1, vr1, ⟨p0, p1, p2, p3, p4, p5⟩, to1, ti1, tm1, tr1⟩ := r1 j e0 cm he0 hcm
      obtain ⟨vo2, vi2, vm2, vr2, ⟨s0, s1, s2, s3, s4, s5⟩, to2, ti2, tm2, tr2⟩ := r2 j e0 cm he0 hcm
      have hst : ∀ {v1 v2 : Value} {l : List ByteArray}, TextsAt w v1 l → TextsAt w v2 l → l.length ≤ 10000 → ∀ (W : World), (∃ q, W = w.drewN q) → ∀ n, Calls Tryz.prog 91 #[v1, v2] (W.drewN n) fun e w' => e = .returned (.bool true) ∧ ∃ m, w' = (W.drewN n).drewN m := by
        rintro v1 v2 l t1 t2 hl W ⟨q, rfl⟩ n
        have h := sameTexts_any l l v1 v2 ((w.drewN q).drewN n) (texts_drew (texts_drew t1 q) n) (texts_drew (texts_drew t2 q) n) (by omega)
        rw [decide_eq_true rfl] at h; exact h
      have HO : Hid (∀ W, (∃ q, W = w.drewN q) → ∀ n, Calls Tryz.prog 91 #[vo1, vo2] (W.drewN n) fun e w' => e = .returned (.bool true) ∧ ∃ m, w' = (W.drewN n).drewN m) := hst to1 to2 hek.1
      have HI : Hid (∀ W, (∃ q, W = w.drewN q) → ∀ n, Calls Tryz.prog 91 #[vi1, vi2] (W.drewN n) fun e w' => e = .returned (.bool true) ∧ ∃ m, w' = (W.drewN n).drewN m) := hst ti1 ti2 hek.2.1
      have HM : Hid (∀ W, (∃ q, W = w.drewN q) → ∀ n, Calls Tryz.prog 91 #[vm1, vm2] (W.drewN n) fun e w' => e = .returned (.bool true) ∧ ∃ m, w' = (W.drewN n).drewN m) := hst tm1 tm2 hek.2.2.1
      have HR : Hid (∀ W, (∃ q, W = w.drewN q) → ∀ n, Calls Tryz.prog 91 #[vr1, vr2] (W.drewN n) fun e w' => e = .returned (.bool true) ∧ ∃ m, w' = (W.drewN n).drewN m) := hst tr1 tr2 hek.2.2.2
      have hcl : ∀ (W : World), (∃ q, W = w.drewN q) → ∀ a, W.cell? a = w.cell? a := by rintro W ⟨q, rfl⟩ a; rfl
      have HCL : Hid (∀ (W : World), (∃ q, W = w.drewN q) → ∀ a, W.cell? a = w.cell? a) := hcl
      have HP : Hid ((w.cell? ⟨g1, o1 + j * 6, none⟩ = some vo1 ∧ w.cell? ⟨g1, o1 + j * 6 + 1, none⟩ = some vi1 ∧ w.cell? ⟨g1, o1 + j * 6 + 2, none⟩ = some vm1 ∧ w.cell? ⟨g1, o1 + j * 6 + 3, none⟩ = some vr1 ∧ w.cell? ⟨g1, o1 + j * 6 + 4, none⟩ = some (.string e0.rule) ∧ w.cell? ⟨g1, o1 + j * 6 + 5, none⟩ = some (.string cm)) ∧ (w.cell? ⟨g2, o2 + j * 6, none⟩ = some vo2 ∧ w.cell? ⟨g2, o2 + j * 6 + 1, none⟩ = some vi2 ∧ w.cell? ⟨g2, o2 + j * 6 + 2, none⟩ = some vm2 ∧ w.cell? ⟨g2, o2 + j * 6 + 3, none⟩ = some vr2 ∧ w.cell? ⟨g2, o2 + j * 6 + 4, none⟩ = some (.string e0.rule) ∧ w.cell? ⟨g2, o2 + j * 6 + 5, none⟩ = some (.string cm))) := ⟨⟨p0, p1, p2, p3, p4, p5⟩, s0, s1, s2, s3, s4, s5⟩
      have z4 : (e0.rule.toList == e0.rule.toList) = true := by simp
      have z5 : (cm.toList == cm.toList) = true := by simp
      clear r1 r2 to1 ti1 tm1 tr1 to2 ti2 tm2 tr2 he0 hcm hek hq hst hcl p0 p1 p2 p3 p4 p5 s0 s1 s2 s3 s4 s5
      have x1 : wr.cell? ⟨g1, o1 + j * 6, none⟩ = some vo1 := (HCL.out _ HQ.out _).trans HP.out.1.1
      have x2 : wr.cell? ⟨g2, o2 + j * 6, none⟩ = some vo2 := (HCL.out _ HQ.out _).trans HP.out.2.1
      have HCk : Hid (∀ n, Calls Tryz.prog 91 #[vo1, vo2] (wr.drewN n) fun e w' => e = .returned (.bool true) ∧ ∃ m, w' = (wr.drewN n).drewN m) := HO.out wr HQ.out
      go_wp2_with fail
      go_quiet ((go_at_call 91; exact Calls.quiet_of (HCk.out _)))
      have HQ0 : Hid (∃ q, wr.drewN nq = w.drewN q) := by obtain ⟨q, hq⟩ := HQ.out; exact ⟨q + nq, by rw [hq, World.drewN_drewN]⟩
      generalize wr.drewN nq = W0 at *
      clear x1 x2 HCk
      have x1 : W0.cell? ⟨g1, o1 + j * 6 + 1, none⟩ = some vi1 := (HCL.out _ HQ0.out _).trans HP.out.1.2.1
      have x2 : W0.cell? ⟨g2, o2 + j * 6 + 1, none⟩ = some vi2 := (HCL.out _ HQ0.out _).trans HP.out.2.2.1
      have HCk : Hid (∀ n, Calls Tryz.prog 91 #[vi1, vi2] (W0.drewN n) fun e w' => e = .returned (.bool true) ∧ ∃ m, w' = (W0.drewN n).drewN m) := HI.out W0 HQ0.out
      go_wp2_with fail
      go_quiet ((go_at_call 91; exact Calls.quiet_of (HCk.out _)))
      have HQ1 : Hid (∃ q, W0.drewN nq = w.drewN q) := by obtain ⟨q, hq⟩ := HQ0.out; exact ⟨q + nq, by rw [hq, World.drewN_drewN]⟩
      generalize W0.drewN nq = W1 at *
      clear x1 x2 HCk
      have x1 : W1.cell? ⟨g1, o1 + j * 6 + 2, none⟩ = some vm1 := (HCL.out _ HQ1.out _).trans HP.out.1.2.2.1
      have x2 : W1.cell? ⟨g2, o2 + j * 6 + 2, none⟩ = some vm2 := (HCL.out _ HQ1.out _).trans HP.out.2.2.2.1
      have HCk : Hid (∀ n, Calls Tryz.prog 91 #[vm1, vm2] (W1.drewN n) fun e w' => e = .returned (.bool true) ∧ ∃ m, w' = (W1.drewN n).drewN m) := HM.out W1 HQ1.out
      go_wp2_with fail
      go_quiet ((go_at_call 91; exact Calls.quiet_of (HCk.out _)))
      have HQ2 : Hid (∃ q, W1.drewN nq = w.drewN q) := by obtain ⟨q, hq⟩ := HQ1.out; exact ⟨q + nq, by rw [hq, World.drewN_drewN]⟩
      generalize W1.drewN nq = W2 at *
      clear x1 x2 HCk
      have x1 : W2.cell? ⟨g1, o1 + j * 6 + 3, none⟩ = some vr1 := (HCL.out _ HQ2.out _).trans HP.out.1.2.2.2.1
      have x2 : W2.cell? ⟨g2, o2 + j * 6 + 3, none⟩ = some vr2 := (HCL.out _ HQ2.out _).trans HP.out.2.2.2.2.1
      have HCk : Hid (∀ n, Calls Tryz.prog 91 #[vr1, vr2] (W2.drewN n) fun e w' => e = .returned (.bool true) ∧ ∃ m, w' = (W2.drewN n).drewN m) := HR.out W2 HQ2.out
      go_wp2_with fail
      go_quiet ((go_at_call 91; exact Calls.quiet_of (HCk.out _)))
      have HQ3 : Hid (∃ q, W2.drewN nq = w.drewN q) := by obtain ⟨q, hq⟩ := HQ2.out; exact ⟨q + nq, by rw [hq, World.drewN_drewN]⟩
      generalize W2.drewN nq = W3 at *
      clear x1 x2 HCk
      have x1 : W3.cell? ⟨g1, o1 + j * 6 + 4, none⟩ = some (.string e0.rule) := (HCL.out _ HQ3.out _).trans HP.out.1.2.2.2.2.1
      have x2 : W3.cell? ⟨g2, o2 + j * 6 + 4, none⟩ = some (.string e0.rule) := (HCL.out _ HQ3.out _).trans HP.out.2.2.2.2.2.1
      have x3 : W3.cell? ⟨g1, o1 + j * 6 + 5, none⟩ = some (.string cm) := (HCL.out _ HQ3.out _).trans HP.out.1.2.2.2.2.2
      have x4 : W3.cell? ⟨g2, o2 + j * 6 + 5, none⟩ = some (.string cm) := (HCL.out _ HQ3.out _).trans HP.out.2.2.2.2.2.2
      go_wp2_with fail
      go_quiet (fail)
      have HQ4 : Hid (∃ q, W3.drewN nq = w.drewN q) := by obtain ⟨q, hq⟩ := HQ3.out; exact ⟨q + nq, by rw [hq, World.drewN_drewN]⟩
      generalize W3.drewN nq = W4 at *
      clear x1 x2 x3 x4
      go_wp2_with fail
      exact ⟨⟨j + 1, by go_num, hlt, HQ4.out⟩, by simp [intOf]; omega⟩
    · have j1 : ¬ (j : Int) < (L : Int) := by omega
      clear hq
      go_wp2_with fail
      go_ret
      exact ⟨rfl, HQ.out⟩
end Go.Proofs.YthhbpebihgjpjaaGreatDoor

namespace Go.Proofs.YthhbpebihgjpjaaGreatDoor
open Go.RowKit Go.Maps
set_option maxRecDepth 1000000

def mkV (f : ByteArray → Option Nat) (x : ByteArray) : Option Value := (f x).map fun p => .int .i64 ((p : Nat) : Int)
theorem makerS_snoc {es : List EdgeS} {e : EdgeS} {x : ByteArray} (hn : memB x e.outs = true → makerS es x = none) : makerS (es ++ [e]) x = if memB x e.outs = true then some es.length else makerS es x := by
  unfold makerS at *
  rw [List.findIdx?_append]
  by_cases h : memB x e.outs = true
  · rw [if_pos h, hn h]
    simp [h]
  · rw [if_neg h]
    simp [h]
theorem mem_memB {y : ByteArray} {l : List ByteArray} : memB y l = true ↔ y ∈ l := by
  unfold memB
  simp
/-- No file is made by two. -/
theorem makers_apart {es : List EdgeS} {j : Nat} {e0 : EdgeS} {y : ByteArray} (hnd : (es.flatMap (·.outs)).Nodup) (he : es[j]? = some e0) (hy : memB y e0.outs = true) : makerS (es.take j) y = none := by
  have hsp : es = es.take j ++ e0 :: es.drop (j + 1) := by
    have hj := (List.getElem?_eq_some_iff.1 he).1
    have := List.take_append_drop j es
    rw [List.drop_eq_getElem_cons hj, (List.getElem?_eq_some_iff.1 he).2] at this
    exact this.symm
  rw [hsp, List.flatMap_append, List.flatMap_cons] at hnd
  have hd := (List.nodup_append.1 hnd).2.2
  unfold makerS
  rw [List.findIdx?_eq_none_iff]
  intro e hm
  rcases hq : memB y e.outs with _ | _
  · rfl
  · exact absurd rfl (hd y (List.mem_flatMap.2 ⟨e, hm, mem_memB.1 hq⟩) y (List.mem_append_left _ (mem_memB.1 hy)))
set_option maxHeartbeats 8000000 in
theorem makersOf_any {w : World} {v : Value} {es : List EdgeS} {cs : List ByteArray} (h : EdgeRowAt w v es cs) (hl : es.length ≤ 64) (hc : cs.length = es.length) (hok : ∀ e ∈ es, e.outs.length ≤ 10000 ∧ ∀ x ∈ e.outs, x.size ≤ 32) (hnd : (es.flatMap (·.outs)).Nodup) :
    Calls Tryz.prog 67 #[v] w fun e w' => ∃ mb n, e = .returned (.map (some mb)) ∧ TMap intC (.int .i64 0) w' mb n (mkV (makerS es)) ∧ w.heap.size ≤ mb ∧ n ≤ 1000000 ∧ Below w.heap.size w w' := by
  obtain ⟨ao, cap, rfl, hrow⟩ := h
  have HROW : Hid (es = [] ∨ ∃ g o, ao = some ⟨g, o, none⟩ ∧ ∀ (k : Nat) e c, es[k]? = some e → cs[k]? = some c → ∃ vo vi vm vr, (w.cell? ⟨g, o + k * 6, none⟩ = some vo ∧ w.cell? ⟨g, o + k * 6 + 1, none⟩ = some vi ∧ w.cell? ⟨g, o + k * 6 + 2, none⟩ = some vm ∧ w.cell? ⟨g, o + k * 6 + 3, none⟩ = some vr ∧ w.cell? ⟨g, o + k * 6 + 4, none⟩ = some (.string e.rule) ∧ w.cell? ⟨g, o + k * 6 + 5, none⟩ = some (.string c)) ∧ TextsAt w vo e.outs ∧ TextsAt w vi e.ins ∧ TextsAt w vm e.impl ∧ TextsAt w vr e.ord) := hrow
  have HOK : Hid ((∀ e ∈ es, e.outs.length ≤ 10000 ∧ ∀ x ∈ e.outs, x.size ≤ 32) ∧ (es.flatMap (·.outs)).Nodup ∧ cs.length = es.length) := ⟨hok, hnd, hc⟩
  have HM0 : Hid (TMap intC (.int .i64 0) (w.alloc (.map #[] 0)) w.heap.size 0 (mkV (makerS []))) := TMap.made intC _ ⟨_, _, rfl⟩ w
  have HB0 : Hid (Below w.heap.size w (w.alloc (.map #[] 0))) := (Below.refl _ _).alloc (Nat.le_refl _) _
  have hmk : (Instr.makeMap 136 none).run Tryz.prog w = .ok (.map (some w.heap.size)) (w.alloc (.map #[] 0)) := by simp [Instr.makeMap, go_sem]
  clear hrow hok hnd hc
  generalize hL : es.length = L at *
  have HL : Hid (es.length = L) := hL
  clear hL
  have l0 : (L : Int) ≤ 64 := by omega
  go_enter Tryz.func67, Tryz.ntmps67
  go_wp2_with fail
  clear hmk
  generalize w.alloc (.map #[] 0) = w1 at *
  generalize hmb : w.heap.size = mb at *
  have HMB : Hid (w.heap.size = mb) := hmb
  clear hmb
  go_loopw [11] (fun i wr => ∃ (j n : Nat), i = .int .i64 j ∧ j ≤ L ∧ TMap intC (.int .i64 0) wr mb n (mkV (makerS (es.take j))) ∧ n ≤ j * 10000 ∧ Below mb w wr) (fun i _ => L - (intOf i).toNat)
  case atStart => exact ⟨0, 0, rfl, Nat.zero_le _, HM0.out, Nat.zero_le _, HB0.out⟩
  case round =>
    clear HM0 HB0
    obtain ⟨j, n, rfl, hj, hmap, hn, hbl⟩ := hrel
    have HM : Hid (TMap intC (.int .i64 0) wr mb n (mkV (makerS (es.take j))) ∧ n ≤ j * 10000 ∧ Below mb w wr) := ⟨hmap, hn, hbl⟩
    have j0 : (0 : Int) ≤ (j : Int) := by omega
    by_cases hlt : j < L
    · have j1 : (j : Int) < (L : Int) := by omega
      obtain ⟨e0, he0⟩ : ∃ e, es[j]? = some e := ⟨es[j]'(by have := HL.out; omega), by simp⟩
      obtain ⟨cm, hcm⟩ : ∃ c, cs[j]? = some c := ⟨cs[j]'(by have := HL.out; have := HOK.out.2.2; omega), by simp⟩
      obtain ⟨g, o, rfl, hcells⟩ : ∃ g o, ao = some ⟨g, o, none⟩ ∧ ∀ (k : Nat) e c, es[k]? = some e → cs[k]? = some c → ∃ vo vi vm vr, (w.cell? ⟨g, o + k * 6, none⟩ = some vo ∧ w.cell? ⟨g, o + k * 6 + 1, none⟩ = some vi ∧ w.cell? ⟨g, o + k * 6 + 2, none⟩ = some vm ∧ w.cell? ⟨g, o + k * 6 + 3, none⟩ = some vr ∧ w.cell? ⟨g, o + k * 6 + 4, none⟩ = some (.string e.rule) ∧ w.cell? ⟨g, o + k * 6 + 5, none⟩ = some (.string c)) ∧ TextsAt w vo e.outs ∧ TextsAt w vi e.ins ∧ TextsAt w vm e.impl ∧ TextsAt w vr e.ord := by
        rcases HROW.out with q | q
        · exfalso; have := HL.out; rw [q] at this; simp at this; omega
        · exact q
      obtain ⟨vo, vi, vm, vr, ⟨d0, d1, d2, d3, d4, d5⟩, to', ti', tm', tr'⟩ := hcells j e0 cm he0 hcm
      have kc : ∀ (a : Addr) u, w.cell? a = some u → wr.cell? a = some u := fun a u h => (hbl.cell (p := a) (by have := block_lt_of_cell h; have := HMB.out; omega)).trans h
      have c0 := kc _ _ d0
      have c1 := kc _ _ d1
      have c2 := kc _ _ d2
      have c3 := kc _ _ d3
      have c4 := kc _ _ d4
      have c5 := kc _ _ d5
      obtain ⟨aoo, nO, cO, hvo⟩ : ∃ ao n c, vo = .slice ao n c := by obtain ⟨ao, cap, e, _⟩ := to'; exact ⟨ao, _, cap, e⟩
      obtain ⟨aoi, nI, cI, hvi⟩ : ∃ ao n c, vi = .slice ao n c := by obtain ⟨ao, cap, e, _⟩ := ti'; exact ⟨ao, _, cap, e⟩
      obtain ⟨aom, nM, cM, hvm⟩ : ∃ ao n c, vm = .slice ao n c := by obtain ⟨ao, cap, e, _⟩ := tm'; exact ⟨ao, _, cap, e⟩
      obtain ⟨aor, nR, cR, hvr⟩ : ∃ ao n c, vr = .slice ao n c := by obtain ⟨ao, cap, e, _⟩ := tr'; exact ⟨ao, _, cap, e⟩
      subst hvo hvi hvm hvr
      have HTO : Hid (TextsAt w (.slice aoo nO cO) e0.outs) := to'
      have HE : Hid (es[j]? = some e0) := he0
      clear kc d0 d1 d2 d3 d4 d5 to' ti' tm' tr' hcells hmap hn hbl he0 hcm
      go_wp2_with fail
      clear c0 c1 c2 c3 c4 c5
      have HMA : Hid (TMap intC (.int .i64 0) (wr.alloc (.cells #[.slice aoo nO cO, .slice aoi nI cI, .slice aom nM cM, .slice aor nR cR, .string e0.rule, .string cm] 63)) mb n (mkV (makerS (es.take j))) ∧ n ≤ j * 10000 ∧ Below mb w (wr.alloc (.cells #[.slice aoo nO cO, .slice aoi nI cI, .slice aom nM cM, .slice aor nR cR, .string e0.rule, .string cm] 63))) := ⟨HM.out.1.keep (heapA_old _ _ mb HM.out.1.lt), HM.out.2.1, HM.out.2.2.alloc (by have := HM.out.1.lt; omega) _⟩
      generalize wr.alloc (.cells #[.slice aoo nO cO, .slice aoi nI cI, .slice aom nM cM, .slice aor nR cR, .string e0.rule, .string cm] 63) = wa at *
      obtain ⟨aoo2, cO2, hvo2, hcO, htx⟩ := HTO.out
      injection hvo2 with f1 f2 f3
      subst f1 f3
      have HOL : Hid (e0.outs.length = nO) := f2.symm
      have HTX : Hid (((aoo = none → cO = 0) ∧ e0.outs = [] ∧ True) ∨ ∃ b o, aoo = some ⟨b, o, none⟩ ∧ ∀ k s, e0.outs[k]? = some s → w.cell? ⟨b, o + k, none⟩ = some (.string s)) := htx
      have HEO : Hid ((∀ x ∈ e0.outs, x.size ≤ 32) ∧ e0.outs.length ≤ 10000) := ⟨(HOK.out.1 e0 (List.mem_of_getElem? HE.out)).2, (HOK.out.1 e0 (List.mem_of_getElem? HE.out)).1⟩
      have o0 : (nO : Int) ≤ 10000 := by have := HEO.out.2; have := HOL.out; omega
      clear f2 htx hcO HTO HM
      go_loopw [19] (fun i wr => ∃ (k m : Nat), i = .int .i64 k ∧ k ≤ nO ∧ TMap intC (.int .i64 0) wr mb m (fun x => if memB x (e0.outs.take k) = true then some (.int .i64 (j : Nat)) else mkV (makerS (es.take j)) x) ∧ m ≤ j * 10000 + k ∧ Below mb w wr) (fun i _ => nO - (intOf i).toNat)
      case atStart => exact ⟨0, n, rfl, Nat.zero_le _, HMA.out.1, HMA.out.2.1, HMA.out.2.2⟩
      case round =>
        clear HMA
        obtain ⟨k, m, rfl, hk, hmap, hm, hbl⟩ := hrel
        have HM : Hid (TMap intC (.int .i64 0) wr mb m (fun x => if memB x (e0.outs.take k) = true then some (.int .i64 (j : Nat)) else mkV (makerS (es.take j)) x) ∧ m ≤ j * 10000 + k ∧ Below mb w wr) := ⟨hmap, hm, hbl⟩
        have k0 : (0 : Int) ≤ (k : Int) := by omega
        by_cases hkl : k < nO
        · have k1 : (k : Int) < (nO : Int) := by omega
          obtain ⟨x, hx⟩ : ∃ x, e0.outs[k]? = some x := ⟨e0.outs[k]'(by have := HOL.out; omega), by simp⟩
          obtain ⟨b, o3, rfl, hct⟩ : ∃ b o, aoo = some ⟨b, o, none⟩ ∧ ∀ k s, e0.outs[k]? = some s → w.cell? ⟨b, o + k, none⟩ = some (.string s) := by
            rcases HTX.out with ⟨_, q, _⟩ | q
            · exfalso; rw [q] at hx; simp at hx
            · exact q
          have cx : wr.cell? ⟨b, o3 + k, none⟩ = some (.string x) := (hbl.cell (p := ⟨b, o3 + k, none⟩) (by have := block_lt_of_cell (hct k x hx); have := HMB.out; omega)).trans (hct k x hx)
          have hxs : x.size ≤ 32 := HEO.out.1 x (List.mem_of_getElem? hx)
          obtain ⟨w9, hrun9, hst9, hg9⟩ := hmap.store (t := 136) Tryz.underlying136 (by unfold maxLen; omega) x (by unfold maxLen; omega) (.int .i64 (j : Nat)) ⟨_, _, rfl⟩
          have HM9 : Hid (TMap intC (.int .i64 0) w9 mb (m + 1) (fun y => if memB y (e0.outs.take (k + 1)) = true then some (.int .i64 (j : Nat)) else mkV (makerS (es.take j)) y) ∧ m + 1 ≤ j * 10000 + (k + 1) ∧ Below mb w w9) := by
            refine ⟨?_, by omega, hbl.grown hg9 (by have := hmap.lt; omega) (fun k hk => Nat.le_of_eq (Option.some.inj hk))⟩
            have e : (fun y => if y = x then some (Value.int .i64 ((j : Nat) : Int)) else if memB y (e0.outs.take k) = true then some (.int .i64 (j : Nat)) else mkV (makerS (es.take j)) y) = (fun y => if memB y (e0.outs.take (k + 1)) = true then some (.int .i64 (j : Nat)) else mkV (makerS (es.take j)) y) := by
              funext y
              have ht : e0.outs.take (k + 1) = e0.outs.take k ++ [x] := by
                rw [List.take_add_one, hx]; rfl
              have hmm : memB y (e0.outs.take (k + 1)) = (memB y (e0.outs.take k) || decide (x = y)) := by rw [ht]; unfold memB; simp
              rw [hmm]
              by_cases q : y = x
              · subst q; simp
              · have q' : decide (x = y) = false := decide_eq_false (fun e => q e.symm)
                rw [if_neg q, q', Bool.or_false]
            rw [← e]
            exact hst9
          clear hst9 hg9 hmap hm hbl hct HM
          go_wp2
          exact ⟨⟨k + 1, m + 1, by go_num, by omega, HM9.out.1, HM9.out.2.1, HM9.out.2.2⟩, by simp [intOf]; omega⟩
        · obtain rfl : k = nO := by omega
          have HMJ : Hid (TMap intC (.int .i64 0) wr mb m (mkV (makerS (es.take (j + 1)))) ∧ m ≤ (j + 1) * 10000 ∧ Below mb w wr) := by
            refine ⟨?_, by have := HEO.out.2; have := HOL.out; omega, hbl⟩
            have e : (fun x => if memB x (e0.outs.take k) = true then some (Value.int .i64 ((j : Nat) : Int)) else mkV (makerS (es.take j)) x) = mkV (makerS (es.take (j + 1))) := by
              funext y
              have ht : es.take (j + 1) = es.take j ++ [e0] := by rw [List.take_add_one, HE.out]; rfl
              have hlj : (es.take j).length = j := by rw [List.length_take]; have := HL.out; omega
              unfold mkV
              rw [ht, makerS_snoc (makers_apart HOK.out.2.1 HE.out), hlj, List.take_of_length_le (Nat.le_of_eq HOL.out)]
              by_cases q : memB y e0.outs = true
              · rw [if_pos q, if_pos q]; rfl
              · rw [if_neg q, if_neg q]
            rw [← e]
            exact hmap
          clear hmap hm hbl HM
          go_wp2
          exact ⟨⟨j + 1, m, by go_num, by omega, HMJ.out.1, HMJ.out.2.1, HMJ.out.2.2⟩, by simp [intOf]; omega⟩
    · obtain rfl : j = L := by omega
      have HFIN : Hid (TMap intC (.int .i64 0) wr mb n (mkV (makerS es)) ∧ n ≤ 1000000 ∧ Below mb w wr) := ⟨by have h := HM.out.1; rw [List.take_of_length_le (Nat.le_of_eq HL.out)] at h; exact h, by have := HM.out.2.1; omega, HM.out.2.2⟩
      clear hmap hn hbl HM
      go_wp2
      go_ret
      exact ⟨mb, n, rfl, HFIN.out.1, Nat.le_of_eq HMB.out, HFIN.out.2.1, by rw [HMB.out]; exact HFIN.out.2.2⟩
end Go.Proofs.YthhbpebihgjpjaaGreatDoor
