import Derived.Test.YthhbpebihgjpjaaGreatDoorP07
import Derived.Lib.AppendZeros
import Derived.Laws.AppendOwnNone
import Derived.Test.YthhbpebihgjpjaaGreatDoorP15
namespace Go.Proofs.YthhbpebihgjpjaaGreatDoor
open Go.RowKit
set_option maxRecDepth 1000000

set_option maxHeartbeats 2000000 in
theorem grow_any (n : Nat) (hn : n ≤ 1048576) (w : World) :
  Calls Tryz.prog 276 #[.slice none 0 0, .int .i64 n] w fun e w' => ∃ v, e = .returned v ∧ w'.ownsRow w.heap.size 9 1 v 0 [] ∧ Below w.heap.size w w' := by
 have hinf : (Tryz.prog.info? 9).map (fun i => (i.size, i.bytes, i.zero)) = some (1, 16, some (.string ⟨#[]⟩)) := by kernel_rfl
 obtain ⟨ti, hti, htj⟩ := Option.map_eq_some_iff.1 hinf
 simp only [Prod.mk.injEq] at htj
 have n1 : ¬ (n : Int) < 0 := by omega
 have n2 : (n : Int) ≤ 1048576 := by omega
 by_cases h0 : n = 0
 ·subst h0
  clear hinf hti htj
  go_enter Tryz.func276, Tryz.ntmps276
  go_wp2_with fail
  go_ret
  exact ⟨_, rfl, World.ownsRow_nil _ _ _ _, Below.refl _ _⟩
 ·have hrun := fun ty => Lib.run_append_nil_zeros (P := Tryz.prog) w 32 3 ty 9 ti (.string ⟨#[]⟩) .i64 .i64 Tryz.underlying32 Tryz.underlying3 hti htj.2.2 n (by omega) (by rw [htj.1]; decide) (by omega) (by rw [htj.2.1]; omega)
  have hge := grownCap_ge w n 0 9
  have hle := grownCap_le_maxLen w n 0 9 (by unfold maxLen; omega)
  generalize grownCap w n 0 9 = G at *
  have hsz : (Builtin.zeroCells (Value.string ⟨#[]⟩).cells n ++ Builtin.zeroCells (Value.string ⟨#[]⟩).cells (G - n)).size = G * 1 := by
   rw [Array.size_append, size_zeroCells, size_zeroCells]
   show n * 1 + (G - n) * 1 = _
   omega
  generalize Builtin.zeroCells (Value.string ⟨#[]⟩).cells n ++ Builtin.zeroCells (Value.string ⟨#[]⟩).cells (G - n) = CS at *
  have HRUN : Hid (∀ ty, (Builtin.append_ #[32, 3] ty #[.slice none 0 0, .int .i64 n]).run Tryz.prog w = .ok (.slice (some ⟨w.heap.size, 0, none⟩) n G) (w.drew.alloc (.cells CS 9))) := hrun
  have HOW : Hid ((w.drew.alloc (.cells CS 9)).ownsRow w.heap.size 9 1 (.slice (some ⟨w.heap.size, 0, none⟩) 0 G) 0 []) := World.ownsRow_made w.drew CS G (Nat.le_refl _) hle hsz
  have HB : Hid (Below w.heap.size w (w.drew.alloc (.cells CS 9))) := (Below.refl _ _).drew.alloc (Nat.le_refl _) _
  have n3 : (0 : Int) < (n : Int) := by omega
  have hsl0 : ∀ wx, (Instr.slice 32 (.slice none 0 0) none (some (.int .i64 0)) none).run Tryz.prog wx = .ok (.slice none 0 0) wx := fun wx => by kernel_rfl
  have g0 : ¬ (G : Int) < 0 := by omega
  have hsl : ∀ wx, (Instr.slice 32 (.slice (some ⟨w.heap.size, 0, none⟩) n G) none (some (.int .i64 0)) none).run Tryz.prog wx = .ok (.slice (some ⟨w.heap.size, 0, none⟩) 0 G) wx := fun wx => by
   simp [Instr.slice, run_underlying Tryz.underlying32, go_sem]
  clear hrun hinf hti htj hsz
  go_enter Tryz.func276, Tryz.ntmps276
  go_wp2_with (at_builtin; refine Lib.wpList_append_run _ rfl (.tmp 20) (.tmp 21) 32 3 rfl _ _ rfl rfl _ _ (HRUN.out _) ?_; refine Hid.out ?_)
  unfold Hid
  go_wp2_with fail
  go_ret
  exact ⟨_, rfl, HOW.out, HB.out⟩
def flatL (ll : List (Value × List ByteArray)) : List ByteArray := ll.flatMap (·.2)
theorem flatL_snoc (ll : List (Value × List ByteArray)) (x : Value × List ByteArray) : flatL (ll ++ [x]) = flatL ll ++ x.2 := by simp [flatL]
set_option maxHeartbeats 4000000 in
theorem concat_any (ll : List (Value × List ByteArray)) (cb : Nat) (w : World) (hc : ∀ (i : Nat) x, ll[i]? = some x → w.cell? ⟨cb, i, none⟩ = some x.1 ∧ TextsAt w x.1 x.2) (hl : ll.length ≤ 10) (hs : ∀ x ∈ ll, x.2.length ≤ 10000) :
  Calls Tryz.prog 202 #[.slice (some ⟨cb, 0, none⟩) ll.length ll.length] w fun e w' => ∃ v, e = .returned v ∧ w'.ownsRow w.heap.size 9 1 v (flatL ll).length ((flatL ll).map Value.string) ∧ Below w.heap.size w w' := by
 have hinf : (Tryz.prog.info? 9).map (fun i => (i.size, i.bytes, i.zero)) = some (1, 16, some (.string ⟨#[]⟩)) := by kernel_rfl
 obtain ⟨ti, hti, htj⟩ := Option.map_eq_some_iff.1 hinf
 simp only [Prod.mk.injEq] at htj
 have HTI : Hid (Tryz.prog.info? 9 = some ti ∧ ti.size = 1 ∧ ti.bytes = 16 ∧ ti.zero = some (.string ⟨#[]⟩)) := ⟨hti, htj.1, htj.2.1, htj.2.2⟩
 clear hinf hti htj
 have HC : Hid (∀ (i : Nat) x, ll[i]? = some x → w.cell? ⟨cb, i, none⟩ = some x.1 ∧ TextsAt w x.1 x.2) := hc
 have HS : Hid (∀ x ∈ ll, x.2.length ≤ 10000) := hs
 have n0 : (ll.length : Int) ≤ 10 := by omega
 have HFL : Hid (∀ j, j ≤ ll.length → (flatL (ll.take j)).length ≤ j * 10000) := by
  intro j
  induction j with
  | zero => intro _; exact Nat.le_refl _
  | succ j ih =>
   intro hj
   have h1 := ih (by omega)
   rw [List.take_succ_eq_append_getElem (by omega), flatL_snoc, List.length_append]
   have h2 := hs ll[j] (List.getElem_mem _)
   omega
 clear hc hs
 generalize hL : ll.length = L at *
 have HL : Hid (ll.length = L) := hL
 clear hL
 go_enter Tryz.func202, Tryz.ntmps202
 go_wp2_with fail
 go_loop [3, 11] (fun z i => ∃ j : Nat, i = .int .i64 j ∧ z = .int .i64 ((flatL (ll.take j)).length : Nat) ∧ j ≤ L) (fun _ i => L - (intOf i).toNat)
 case atStart => exact ⟨0, rfl, rfl, Nat.zero_le _⟩
 case round =>
  obtain ⟨j, rfl, rfl, hle⟩ := hrel
  have j0 : (0 : Int) ≤ (j : Int) := by omega
  have hfl := HFL.out j hle
  by_cases hlt : j < L
  ·obtain ⟨x, hx⟩ : ∃ x, ll[j]? = some x := ⟨ll[j]'(by have := HL.out; omega), by simp⟩
   obtain ⟨c1, ht⟩ := HC.out j x hx
   obtain ⟨ao, cap, hv, _, _⟩ := ht
   rw [hv] at c1
   have j1 : (j : Int) < (L : Int) := by omega
   have HN : Hid ((flatL (ll.take (j + 1))).length = (flatL (ll.take j)).length + x.2.length) := by
    show _ = _
    obtain ⟨h1, h2⟩ := List.getElem?_eq_some_iff.1 hx
    rw [List.take_succ_eq_append_getElem h1, flatL_snoc, List.length_append, h2]
   have hxl := HS.out x (List.mem_of_getElem? hx)
   clear hv hx
   generalize x.2.length = XL at *
   generalize (flatL (ll.take j)).length = FL at *
   have f1 : ¬ (FL : Int) + (XL : Int) < 0 := by omega
   have f2 : (FL : Int) ≤ 100000 := by omega
   have f3 : (XL : Int) ≤ 10000 := by omega
   go_wp2_with fail
   exact ⟨⟨j + 1, by go_num, by rw [HN.out]; go_num, hlt⟩, by simp [intOf]; omega⟩
  ·obtain rfl : j = L := by omega
   have HE : Hid (flatL (ll.take j) = flatL ll) := by show _ = _; rw [← HL.out, List.take_length]
   generalize hFL : (flatL (ll.take j)).length = FL at *
   have HGW : Hid (Calls Tryz.prog 276 #[.slice none 0 0, .int .i64 FL] w fun e w' => ∃ v, e = .returned v ∧ w'.ownsRow w.heap.size 9 1 v 0 [] ∧ Below w.heap.size w w') := grow_any FL (by omega) w
   clear hFL
   go_wp2_with fail
   refine HGW.out.mono ?_
   rintro e w1 ⟨v1, rfl, ho1, hb1⟩
   have HO1 : Hid (w1.ownsRow w.heap.size 9 1 v1 0 []) := ho1
   have HB1 : Hid (Below w.heap.size w w1) := hb1
   clear ho1 hb1
   go_wp2_with fail
   go_loopw [6, 27] (fun v i wr => ∃ (k : Nat) (ao : Option Addr) (nn cap : Nat), i = .int .i64 k ∧ v = .slice ao nn cap ∧ nn = (flatL (ll.take k)).length ∧ k ≤ j ∧ wr.ownsRow w.heap.size 9 1 (.slice ao nn cap) nn ((flatL (ll.take k)).map Value.string) ∧ Below w.heap.size w wr) (fun _ i _ => j - (intOf i).toNat)
   case atStart =>
    obtain ⟨ao1, cap1, e1, _, _⟩ := row_form HO1.out
    exact ⟨0, ao1, 0, cap1, rfl, e1, rfl, Nat.zero_le _, by rw [← e1]; exact HO1.out, HB1.out⟩
   case round =>
    obtain ⟨k, ao, nn, cap, rfl, rfl, hnn, hke, hown, hbw⟩ := hrel
    have HO : Hid (wr.ownsRow w.heap.size 9 1 (.slice ao nn cap) nn ((flatL (ll.take k)).map Value.string)) := hown
    have HBW : Hid (Below w.heap.size w wr) := hbw
    have hfk := HFL.out k hke
    rw [← hnn] at hfk
    have HNN : Hid (nn = (flatL (ll.take k)).length) := hnn
    clear hown hbw hnn
    have k0 : (0 : Int) ≤ (k : Int) := by omega
    by_cases hlt2 : k < j
    ·obtain ⟨x, hx⟩ : ∃ x, ll[k]? = some x := ⟨ll[k]'(by have := HL.out; omega), by simp⟩
     obtain ⟨c0, ht⟩ := HC.out k x hx
     have c1 : wr.cell? ⟨cb, k, none⟩ = some x.1 := (HBW.out.cell (p := ⟨cb, k, none⟩) (block_lt_of_cell c0)).trans c0
     have HN : Hid (flatL (ll.take (k + 1)) = flatL (ll.take k) ++ x.2) := by
      show _ = _
      obtain ⟨h1, h2⟩ := List.getElem?_eq_some_iff.1 hx
      rw [List.take_succ_eq_append_getElem h1, flatL_snoc, h2]
     have hxl := HS.out x (List.mem_of_getElem? hx)
     have k1 : (k : Int) < (j : Int) := by omega
     obtain ⟨av, capv, hv, _, h⟩ := ht.keepB HBW.out
     rw [hv] at c1
     have hbs : w.heap.size ≤ wr.heap.size := HBW.out.size
     obtain ⟨x1, xl⟩ := x
     simp only at hv c1 HN hxl h
     clear hx c0 hv ht
     generalize flatL (ll.take k) = F at *
     rcases h with ⟨h0, rfl, _⟩ | ⟨b, o, rfl, h⟩
     ·rw [List.append_nil] at HN
      cases av with
      | none =>
       obtain rfl := h0 rfl
       go_wp2_with (at_builtin; refine wpList_append_own_none rfl (.tmp 31) (.tmp 32) 32 rfl w.heap.size 9 ti 1 Tryz.underlying32 HTI.out.1 _ nn _ rfl (by exact HO.out) rfl ?_; refine Hid.out ?_)
       unfold Hid
       go_wp2_with fail
       exact ⟨⟨k + 1, ao, nn, cap, by go_num, rfl, by rw [HN.out]; exact HNN.out, hlt2, by rw [HN.out]; exact HO.out, HBW.out⟩, by simp [intOf]; omega⟩
      | some a0 =>
       clear h0
       go_wp2_with (at_builtin; refine wpList_append_own _ rfl (.tmp 31) (.tmp 32) 32 rfl w.heap.size 9 ti (.string ⟨#[]⟩) 1 16 Tryz.underlying32 HTI.out.1 HTI.out.2.2.2 HTI.out.2.1 HTI.out.2.2.1 rfl (by decide) _ nn _ rfl (by exact HO.out) a0 0 capv [] rfl rfl (by intro j u hu; simp at hu) (by intro u hu; cases hu) (by unfold maxLen; omega) (by omega) hbs ?_; intro v5 w5 hv5 hg5 hn5; refine Hid.out ?_)
       have HO5 : Hid (w5.ownsRow w.heap.size 9 1 v5 nn (F.map Value.string)) := by have h := hv5; rw [List.append_nil] at h; exact h
       have HB5 : Hid (Below w.heap.size w w5) := HBW.out.grown hg5 hbs (fun q hq => (rblock HO.out q hq).1)
       obtain ⟨ao5, cap5, rfl, _, _⟩ := row_form HO5.out
       clear hv5 hg5 hn5
       unfold Hid
       go_wp2_with fail
       exact ⟨⟨k + 1, ao5, nn, cap5, by go_num, rfl, by rw [HN.out]; exact HNN.out, hlt2, by rw [HN.out]; exact HO5.out, HB5.out⟩, by simp [intOf]; omega⟩
     ·have HNW : Hid (∀ (j : Nat) u, (xl.map Value.string)[j]? = some u → wr.cell? ((⟨b, o, none⟩ : Addr).add j) = some u) := by
       intro j u hu
       have hadd : (⟨b, o, none⟩ : Addr).add j = ⟨b, o + j, none⟩ := by unfold Addr.add; split <;> simp_all
       rw [List.getElem?_map] at hu
       obtain ⟨s, hs1, rfl⟩ := Option.map_eq_some_iff.1 hu
       rw [hadd]; exact h j s hs1
      clear h
      go_wp2_with (at_builtin; refine wpList_append_own _ rfl (.tmp 31) (.tmp 32) 32 rfl w.heap.size 9 ti (.string ⟨#[]⟩) 1 16 Tryz.underlying32 HTI.out.1 HTI.out.2.2.2 HTI.out.2.1 HTI.out.2.2.1 rfl (by decide) _ nn _ rfl (by exact HO.out) ⟨b, o, none⟩ xl.length capv (xl.map Value.string) rfl (by simp) HNW.out (by intro u hu; obtain ⟨s, _, rfl⟩ := List.mem_map.1 hu; rfl) (by unfold maxLen; omega) (by omega) hbs ?_; intro v5 w5 hv5 hg5 hn5; refine Hid.out ?_)
      have HO5 : Hid (w5.ownsRow w.heap.size 9 1 v5 (nn + xl.length) ((F ++ xl).map Value.string)) := by rw [List.map_append]; exact hv5
      have HB5 : Hid (Below w.heap.size w w5) := HBW.out.grown hg5 hbs (fun q hq => (rblock HO.out q hq).1)
      obtain ⟨ao5, cap5, rfl, _, _⟩ := row_form HO5.out
      clear hv5 hg5 hn5
      unfold Hid
      go_wp2_with fail
      exact ⟨⟨k + 1, ao5, nn + xl.length, cap5, by go_num, rfl, by rw [HN.out, List.length_append, ← HNN.out], hlt2, by rw [HN.out]; exact HO5.out, HB5.out⟩, by simp [intOf]; omega⟩
    ·obtain rfl : k = j := by omega
     have HF : Hid (wr.ownsRow w.heap.size 9 1 (.slice ao nn cap) (flatL ll).length ((flatL ll).map Value.string)) := by
      rw [← HE.out, ← HNN.out]; exact HO.out
     have k1 : ¬ (k : Int) < (k : Int) := by omega
     go_wp2_with fail
     go_ret
     exact ⟨_, rfl, HF.out, HBW.out⟩
end Go.Proofs.YthhbpebihgjpjaaGreatDoor

namespace Go.Proofs.YthhbpebihgjpjaaGreatDoor
open Go.RowKit Go.Maps
set_option maxRecDepth 1000000

theorem PStC.fresh {p : PV} {a : Nat → Addr} {B : Nat} {w : World} {rb : Nat} {n : Int} {ls : List Line} {S : St} {m : Nat} (h : PStC p a B w rb n ls S m) : ∃ q : PV, (∀ k, w.heap.size ≤ k → q.c k = 7) ∧ PStC q a B w rb n ls S m := by
 refine ⟨{ p with c := fun k => if w.heap.size ≤ k then 7 else p.c k }, fun k hk => if_pos hk, ?_⟩
 have hc : ∀ k, k < w.heap.size → (if w.heap.size ≤ k then 7 else p.c k) = p.c k := fun k hk => if_neg (by omega)
 exact {
  gl := h.gl, base := h.base, row := h.row
  const := fun w'' hs hk => h.const w'' hs (fun k h1 h2 => hk k h1 ((hc k h1).trans h2))
  top := h.top, rules := h.rules, mlt := h.mlt, drafts := h.drafts, defs := h.defs
  c1 := (hc rb h.rowlt).trans h.c1
  c2 := (hc p.tb h.top.lt).trans h.c2
  c3 := (hc p.rm h.rules.lt).trans h.c3
  c4 := (hc p.mm h.mlt).trans h.c4
  c5 := fun k hk => (hc k (rblock h.drafts k hk).2).trans (h.c5 k hk)
  c6 := fun k hk => (hc k (rblock h.defs k hk).2).trans (h.c6 k hk)
  low := fun k hk => (hc k (Nat.lt_of_lt_of_le hk h.bw)).trans (h.low k hk)
  few := h.few, ok := h.ok, made := h.made }
theorem PStB.wrote {p : PV} {a : Nat → Addr} {B : Nat} {w w' : World} {rb : Nat} {n : Int} {ls : List Line} {S : St} {m b : Nat} (h : PStB p a B w rb n ls S m) (hg : w.grownBy w' (some b)) (hb : p.c b = 4 ∨ p.c b = 7) : PStB p a B w' rb n ls S m := by
 have off : ∀ {k : Nat}, k < w.heap.size → p.c k ≠ 4 → p.c k ≠ 7 → w'.heap[k]? = w.heap[k]? := fun {k} hk h4 h7 => hg.block k hk (fun e => by
  have e := Option.some.inj e
  subst e
  rcases hb with q | q
  ·exact h4 q
  ·exact h7 q)
 exact {
  gl := h.gl.keep hg.size (fun k hk => off (Nat.lt_of_lt_of_le hk h.gl.size) (by rw [h.low k (Nat.lt_of_lt_of_le hk h.base)]; decide) (by rw [h.low k (Nat.lt_of_lt_of_le hk h.base)]; decide))
  base := h.base
  row := (off h.rowlt (by rw [h.c1]; decide) (by rw [h.c1]; decide)).trans h.row
  const := h.const.step hg.size (fun k hk h0 => ⟨off hk (by rw [h0]; decide) (by rw [h0]; decide), h0⟩)
  top := TMap.keep h.top (off h.top.lt (by rw [h.c2]; decide) (by rw [h.c2]; decide))
  rules := TMap.keep h.rules (off h.rules.lt (by rw [h.c3]; decide) (by rw [h.c3]; decide))
  mlt := Nat.lt_of_lt_of_le h.mlt hg.size
  drafts := rkeep h.drafts (fun k hk => off (rblock h.drafts k hk).2 (by rw [h.c5 k hk]; decide) (by rw [h.c5 k hk]; decide))
  defs := rkeep h.defs (fun k hk => off (rblock h.defs k hk).2 (by rw [h.c6 k hk]; decide) (by rw [h.c6 k hk]; decide))
  c1 := h.c1, c2 := h.c2, c3 := h.c3, c4 := h.c4, c5 := h.c5, c6 := h.c6, low := h.low, few := h.few, ok := h.ok }
theorem dcells_append (l r : List DraftV) : dcells (l ++ r) = dcells l ++ dcells r := by unfold dcells; rw [List.flatMap_append]
theorem dcells_one (d : DraftV) : dcells [d] = d.cells := by unfold dcells; simp
theorem drafts_more {w : World} {sb : Nat} {ds : List DraftV} {es : List EdgeS} {d : DraftV} {e : EdgeS} (h : DraftsAt w sb ds es) (hd : DraftAt w sb d e) : DraftsAt w sb (ds ++ [d]) (es ++ [e]) := by
 refine ⟨by simp [h.1], fun k x y hx hy => ?_⟩
 rcases Nat.lt_or_ge k ds.length with q | q
 ·rw [List.getElem?_append_left q] at hx
  rw [List.getElem?_append_left (by rw [← h.1]; exact q)] at hy
  exact h.2 k x y hx hy
 ·have hk : k = ds.length := by
   have := (List.getElem?_eq_some_iff.1 hx).1
   simp at this
   omega
  subst hk
  rw [List.getElem?_append_right (Nat.le_refl _), Nat.sub_self] at hx
  rw [h.1, List.getElem?_append_right (Nat.le_refl _), Nat.sub_self] at hy
  obtain rfl := Option.some.inj hx
  obtain rfl := Option.some.inj hy
  exact hd
def EdgeOk (e : EdgeS) : Prop := BOk e.own ∧ e.own.length ≤ 5000 ∧ e.outs.length ≤ 8000 ∧ e.ins.length ≤ 4000 ∧ (∀ x ∈ e.outs, x.size ≤ 32) ∧ (∀ x ∈ e.ins, x.size ≤ 32) ∧ e.impl.length ≤ 4000 ∧ e.ord.length ≤ 4000
theorem PStB.addEdge {p : PV} {a : Nat → Addr} {B : Nat} {w w3 : World} {rb : Nat} {n : Int} {ls : List Line} {S : St} {m W0 : Nat} {vd' : Value} {d : DraftV} {e : EdgeS} (h : PStB p a B w rb n ls S (m + 1)) (hm : UMap w p.mm (p.n3 + e.outs.length) (e.outs.reverse ++ madeS S)) (hW : ∀ k, W0 ≤ k → p.c k = 7) (hd : ∀ w'' : World, (∀ k, W0 ≤ k → k < w.heap.size → w''.heap[k]? = w.heap[k]?) → DraftAt w'' p.sb d e) (hg : w.grownBy w3 p.vd.ownBlock) (hr : w3.ownsRow B 311 7 vd' (S.edges.length + 1) (dcells p.ds ++ d.cells)) (hat : ∀ k, vd'.ownBlock = some k → p.vd.ownBlock = some k ∨ w.heap.size ≤ k) (he : EdgeOk e) (h64 : S.edges.length < 64) : PStC { p with vd := vd', c := fun k => if vd'.ownBlock = some k then 5 else if p.c k = 7 then 0 else p.c k, n3 := p.n3 + e.outs.length, ds := p.ds ++ [d] } a B (w3.setCell ⟨rb, 5, none⟩ vd') rb n ls { S with edges := S.edges ++ [e] } m := by
 have hrb := h.rowlt
 have hnv : ∀ k, k < w.heap.size → p.c k ≠ 5 → vd'.ownBlock ≠ some k := fun k hk hc e => by
  rcases hat k e with q | q
  ·exact hc (h.c5 k q)
  ·omega
 have hc' : ∀ k, k < w.heap.size → p.c k ≠ 5 → p.c k ≠ 7 → (if vd'.ownBlock = some k then 5 else if p.c k = 7 then 0 else p.c k) = p.c k := fun k hk hc h7 => (if_neg (hnv k hk hc)).trans (if_neg h7)
 have off3 : ∀ k, k < w.heap.size → p.c k ≠ 5 → w3.heap[k]? = w.heap[k]? := fun k hk hc => hg.block k hk (fun e => hc (h.c5 k e.symm))
 have off : ∀ k, k < w.heap.size → p.c k ≠ 5 → p.c k ≠ 1 → (w3.setCell ⟨rb, 5, none⟩ vd').heap[k]? = w.heap[k]? := fun k hk hc h1 => by
  rw [heap_setCell_other _ _ _ _ (show k ≠ rb from fun e => h1 (by rw [e]; exact h.c1))]
  exact off3 k hk hc
 have hsz : w.heap.size ≤ (w3.setCell ⟨rb, 5, none⟩ vd').heap.size := by simpa using hg.size
 exact {
  gl := h.gl.keep hsz (fun k hk => off k (Nat.lt_of_lt_of_le hk h.gl.size) (by rw [h.low k (Nat.lt_of_lt_of_le hk h.base)]; decide) (by rw [h.low k (Nat.lt_of_lt_of_le hk h.base)]; decide))
  base := h.base
  row := by
   have h1 : w3.heap[rb]? = _ := (off3 rb hrb (by rw [h.c1]; decide)).trans h.row
   show (w3.setCell ⟨rb, 5, none⟩ vd').heap[rb]? = _
   rw [heap_setCell_same _ _ _ _ _ _ h1]; rfl
  const := fun w'' hs hk => by
   have hold := h.const w'' (Nat.le_trans hsz hs) (fun k h1 h2 => (hk k (Nat.lt_of_lt_of_le h1 hsz) ((hc' k h1 (by rw [h2]; decide) (by rw [h2]; decide)).trans h2)).trans (off k h1 (by rw [h2]; decide) (by rw [h2]; decide)))
   refine ⟨hold.1, hold.2.1, drafts_more hold.2.2 (hd w'' (fun k h1 h2 => ?_))⟩
   have h7 := hW k h1
   exact (hk k (Nat.lt_of_lt_of_le h2 hsz) (by
    show (if vd'.ownBlock = some k then 5 else if p.c k = 7 then 0 else p.c k) = 0
    rw [if_neg (hnv k h2 (by rw [h7]; decide)), if_pos h7])).trans (off k h2 (by rw [h7]; decide) (by rw [h7]; decide))
  top := TMap.keep h.top (off p.tb h.top.lt (by rw [h.c2]; decide) (by rw [h.c2]; decide))
  rules := TMap.keep h.rules (off p.rm h.rules.lt (by rw [h.c3]; decide) (by rw [h.c3]; decide))
  mlt := Nat.lt_of_lt_of_le h.mlt hsz
  made := by
   have hk := TMap.keep hm (off p.mm h.mlt (by rw [h.c4]; decide) (by rw [h.c4]; decide))
   refine UMap.same (l := e.outs.reverse ++ madeS S) hk (fun x => ?_)
   show memB x ((S.edges ++ [e]).flatMap (·.outs)) = _
   rw [List.flatMap_append, memB_append, memB_append, memB_reverse, Bool.or_comm]
   simp [madeS]
  drafts := by
   show World.ownsRow _ _ _ _ _ (S.edges ++ [e]).length (dcells (p.ds ++ [d]))
   rw [List.length_append, dcells_append, dcells_one]
   exact rkeep hr (fun k hk => heap_setCell_other _ _ _ _ (show k ≠ rb from fun e => hnv rb hrb (by rw [h.c1]; decide) (by rw [← e]; exact hk)))
  defs := rkeep h.defs (fun k hk => off k (rblock h.defs k hk).2 (by rw [h.c6 k hk]; decide) (by rw [h.c6 k hk]; decide))
  c1 := (hc' rb hrb (by rw [h.c1]; decide) (by rw [h.c1]; decide)).trans h.c1
  c2 := (hc' p.tb h.top.lt (by rw [h.c2]; decide) (by rw [h.c2]; decide)).trans h.c2
  c3 := (hc' p.rm h.rules.lt (by rw [h.c3]; decide) (by rw [h.c3]; decide)).trans h.c3
  c4 := (hc' p.mm h.mlt (by rw [h.c4]; decide) (by rw [h.c4]; decide)).trans h.c4
  c5 := fun k hk => if_pos hk
  c6 := fun k hk => (hc' k (rblock h.defs k hk).2 (by rw [h.c6 k hk]; decide) (by rw [h.c6 k hk]; decide)).trans (h.c6 k hk)
  low := fun k hk => by
   have h0 := h.low k hk
   show (if vd'.ownBlock = some k then 5 else if p.c k = 7 then 0 else p.c k) = 9
   rw [if_neg (fun e => by have := (rblock hr k e).1; omega), if_neg (by rw [h0]; decide)]
   exact h0
  few := by show p.n1 + m ≤ 5000 ∧ p.n2 + m ≤ 5000 ∧ p.n3 + e.outs.length + 8000 * m ≤ 40000000; have := h.few; have := he.2.2.1; omega
  ok := { top := h.ok.top, tops := (by show S.top.length + m ≤ 5000; have := h.ok.tops; omega), rules := h.ok.rules, rulen := (by show S.rules.length + m ≤ 5000; have := h.ok.rulen; omega), edges := (by show (S.edges ++ [e]).length ≤ 64; rw [List.length_append]; show _ + 1 ≤ _; omega), edge := (fun x hx => by
       rcases List.mem_append.1 (show x ∈ S.edges ++ [e] from hx) with hx | hx
       ·exact h.ok.edge x hx
       ·obtain rfl := List.mem_singleton.1 hx
        exact he), defs := (by show S.defs.length + 4000 * m ≤ _; have := h.ok.defs; omega), lines := h.ok.lines, count := h.ok.count } }
theorem TextsF.same {W0 : Nat} {w w' : World} {v : Value} {l : List ByteArray} (h : TextsF W0 w v l) (hb : ∀ k, W0 ≤ k → k < w.heap.size → w'.heap[k]? = w.heap[k]?) : TextsF W0 w' v l := by
 refine ⟨?_, h.2⟩
 obtain ⟨ao, cap, rfl, hc, q | ⟨b, o, rfl, q⟩⟩ := h.1
 ·exact ⟨ao, cap, rfl, hc, Or.inl q⟩
 ·exact ⟨_, cap, rfl, hc, Or.inr ⟨b, o, rfl, fun k s hs => (World.cell?_of_block (w := w) (a := ⟨b, o + k, none⟩) (hb b (h.2 b rfl) (block_lt_of_cell (q k s hs)))).trans (q k s hs)⟩⟩
end Go.Proofs.YthhbpebihgjpjaaGreatDoor
