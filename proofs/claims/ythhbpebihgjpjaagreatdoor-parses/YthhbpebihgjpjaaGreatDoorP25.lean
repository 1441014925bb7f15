import Derived.Test.YthhbpebihgjpjaaGreatDoorP18
import Derived.Test.YthhbpebihgjpjaaGreatDoorP24
import Derived.BigRegion
import Derived.Test.YthhbpebihgjpjaaGreatDoorP12
namespace Go.Proofs.YthhbpebihgjpjaaGreatDoor
open Go.RowKit
set_option maxRecDepth 1000000

def rlcells (l : List Line) : List Value := l.flatMap fun x => [.string x.2, .int .i64 (x.1 : Nat)]
def RLinesAt (w : World) (v : Value) (l : List Line) : Prop := ∃ ao cap, v = .slice ao l.length cap ∧ l.length ≤ cap ∧ (l = [] ∨ ∃ g o, ao = some ⟨g, o, none⟩ ∧ ∀ (k : Nat) x, l[k]? = some x → w.cell? ⟨g, o + k * 2, none⟩ = some (.string x.2) ∧ w.cell? ⟨g, o + k * 2 + 1, none⟩ = some (.int .i64 (x.1 : Nat)))
structure RV where
 vl : Value
 at' : Nat
 vt : Value
 vr : Value
 vo : Value
 ve : Value
 vf : Value
 e : Int
 line : Int
def RRow (r : RV) (w : World) (rb : Nat) : Prop := w.heap[rb]? = some (.cells #[r.vl, .int .i64 (r.at' : Nat), r.vt, r.vr, r.vo, r.ve, r.vf, .int .i64 r.e, .int .i64 r.line] 330 (0, 0))
theorem RRow.lt {r : RV} {w : World} {rb : Nat} (h : RRow r w rb) : rb < w.heap.size := by
 rcases Nat.lt_or_ge rb w.heap.size with c | c
 ·exact c
 ·unfold RRow at h; rw [Array.getElem?_eq_none c] at h; cases h
def RV.failed (r : RV) (k : Int) (no : Nat) : RV := if r.e = 0 then { r with e := k, line := no } else r
set_option maxHeartbeats 2000000 in
theorem rfail_any {r : RV} {w : World} {rb : Nat} {L : List Line} {x : Line} (k : Int) (h : RRow r w rb) (hl : RLinesAt w r.vl L) (hx : L[r.at']? = some x) (hne : ∀ g o n c, r.vl = .slice (some ⟨g, o, none⟩) n c → ¬ g = rb) :
  Calls Tryz.prog 283 #[.pointer (some ⟨rb, 0, none⟩), .int .i64 k] w fun e w' => e = .returned (.tuple #[]) ∧ RRow (r.failed k x.1) w' rb ∧ w.grownBy w' (some rb) := by
 have c7 : w.cell? ⟨rb, 7, none⟩ = some (.int .i64 r.e) := by rw [cell_of_row _ _ _ _ _ _ h]; rfl
 have f7 : w.frozen? ⟨rb, 7, none⟩ = false := frozen_of_row _ _ _ _ _ h
 by_cases h0 : r.e = 0
 ·obtain ⟨ao, cap, hv, hc, hl⟩ := hl
  obtain ⟨g, o, rfl, hl2⟩ : ∃ g o, ao = some ⟨g, o, none⟩ ∧ ∀ (k : Nat) x, L[k]? = some x → w.cell? ⟨g, o + k * 2, none⟩ = some (.string x.2) ∧ w.cell? ⟨g, o + k * 2 + 1, none⟩ = some (.int .i64 (x.1 : Nat)) := by
   rcases hl with e | e
   ·rw [e] at hx; simp at hx
   ·exact e
  have d1 := (hl2 r.at' x hx).2
  have hat : r.at' < L.length := (List.getElem?_eq_some_iff.1 hx).1
  have c0 : w.cell? ⟨rb, 0, none⟩ = some (.slice (some ⟨g, o, none⟩) L.length cap) := by rw [cell_of_row _ _ _ _ _ _ h]; exact congrArg some hv
  have c1 : w.cell? ⟨rb, 1, none⟩ = some (.int .i64 (r.at' : Nat)) := by rw [cell_of_row _ _ _ _ _ _ h]; rfl
  have c8 : w.cell? ⟨rb, 8, none⟩ = some (.int .i64 r.line) := by rw [cell_of_row _ _ _ _ _ _ h]; rfl
  have f8 : w.frozen? ⟨rb, 8, none⟩ = false := frozen_of_row _ _ _ _ _ h
  have HFIN : Hid (RRow (r.failed k x.1) ((w.setCell ⟨rb, 7, none⟩ (.int .i64 k)).setCell ⟨rb, 8, none⟩ (.int .i64 (x.1 : Nat))).drew rb ∧ w.grownBy ((w.setCell ⟨rb, 7, none⟩ (.int .i64 k)).setCell ⟨rb, 8, none⟩ (.int .i64 (x.1 : Nat))).drew (some rb)) := by
   refine ⟨?_, ⟨rfl, rfl, rfl, ?_, fun j hj hn => ?_⟩⟩
   ·unfold RV.failed
    rw [if_pos h0]
    show ((w.setCell ⟨rb, 7, none⟩ _).setCell ⟨rb, 8, none⟩ _).heap[rb]? = _
    rw [heap_setCell_same _ _ _ _ _ _ (heap_setCell_same _ _ _ _ _ _ h)]
    rfl
   ·show w.heap.size ≤ ((w.setCell ⟨rb, 7, none⟩ _).setCell ⟨rb, 8, none⟩ _).heap.size
    simp
   ·have hne : j ≠ rb := fun e => hn (by rw [e])
    show ((w.setCell ⟨rb, 7, none⟩ _).setCell ⟨rb, 8, none⟩ _).heap[j]? = _
    rw [heap_setCell_other _ _ _ _ hne, heap_setCell_other _ _ _ _ hne]
  rw [h0] at c7
  have i0 : (0 : Int) ≤ (r.at' : Int) := by omega
  have i1 : (r.at' : Int) < (L.length : Int) := by omega
  have hgr : ¬ g = rb := hne _ _ _ _ hv
  obtain ⟨xn, xt⟩ := x
  simp only at d1 HFIN
  clear h hl hl2 hx hv h0 hne hat
  generalize L.length = LL at *
  generalize r.at' = AT at *
  go_enter Tryz.func283, Tryz.ntmps283
  go_wp2_with fail
  go_region
  all_goals
   go_wp2_with fail
   go_end0
   exact ⟨rfl, HFIN.out⟩
 ·have HF : Hid (r.failed k x.1 = r) := if_neg h0
  have e1 : (r.e == 0) = false := by simpa using h0
  have HR : Hid (RRow r w rb) := h
  clear h hl hx h0 hne
  go_enter Tryz.func283, Tryz.ntmps283
  go_wp2_with fail
  go_end0
  exact ⟨rfl, by rw [HF.out]; exact HR.out, ⟨rfl, rfl, rfl, Nat.le_refl _, fun _ _ _ => rfl⟩⟩
end Go.Proofs.YthhbpebihgjpjaaGreatDoor

namespace Go.Proofs.YthhbpebihgjpjaaGreatDoor
open Go.RowKit
set_option maxRecDepth 1000000

def bindR (t : ByteArray) : Option (ByteArray × ByteArray) :=
 if wordLenB t = 0 ∨ begins (leftB (tailB t)) 61 = false then none
 else some (headB t, leftB ((leftB (tailB t)).extract 1 (leftB (tailB t)).size))
theorem bindS_left (t : ByteArray) : bindS t = bindR (leftB t) := rfl
structure RAt (r : RV) (w : World) (rb : Nat) (L : List Line) (x : Line) : Prop where
 row : RRow r w rb
 lines : RLinesAt w r.vl L
 at' : L[r.at']? = some x
 ne : ∀ g o n c, r.vl = .slice (some ⟨g, o, none⟩) n c → ¬ g = rb
def boundEnd (r : RV) (rb : Nat) (x : Line) (w : World) (o : Option (ByteArray × ByteArray)) (e : Ending) (w' : World) : Prop := match o with
 | some nv => e = .returned (.tuple #[.string nv.1, .string nv.2]) ∧ w' = w
 | none => e = .returned (.tuple #[.string ⟨#[]⟩, .string ⟨#[]⟩]) ∧ RRow (r.failed 5 x.1) w' rb ∧ w.grownBy w' (some rb)
set_option maxHeartbeats 4000000 in
theorem rbound_any {r : RV} {w : World} {rb : Nat} {L : List Line} {x : Line} (t : ByteArray) (h : RAt r w rb L x) (ht : t.size ≤ 1048576) :
  Calls Tryz.prog 287 #[.pointer (some ⟨rb, 0, none⟩), .string t] w (boundEnd r rb x w (bindR t)) := by
 have HFL : Hid (Calls Tryz.prog 283 #[.pointer (some ⟨rb, 0, none⟩), .int .i64 5] w fun e w' => e = .returned (.tuple #[]) ∧ RRow (r.failed 5 x.1) w' rb ∧ w.grownBy w' (some rb)) := rfail_any 5 h.row h.lines h.at' h.ne
 have HB : Hid (bindR t = if wordLenB t = 0 ∨ begins (leftB (tailB t)) 61 = false then none else some (headB t, leftB ((leftB (tailB t)).extract 1 (leftB (tailB t)).size))) := rfl
 have HWL : Hid (∀ wx, Calls Tryz.prog 289 #[.string t] wx fun e w' => e = .returned (.int .i64 (wordLenB t)) ∧ w' = wx) := fun wx => rwordLen_any t (by omega) wx
 have hle : wordLenB t ≤ t.size := spanLen_le _ _
 have hs1 : ∀ wx, (Instr.slice 9 (.string t) (some (.int .i64 (wordLenB t))) none none).run Tryz.prog wx = .ok (.string (tailB t)) wx := fun wx => slice_from t _ hle wx
 have hs2 : ∀ wx, (Instr.slice 9 (.string t) none (some (.int .i64 (wordLenB t))) none).run Tryz.prog wx = .ok (.string (headB t)) wx := fun wx => slice_head t _ hle wx
 have hts := tailB_size t
 have HLF : Hid (∀ wx, Calls Tryz.prog 280 #[.string (tailB t)] wx fun e w' => e = .returned (.string (leftB (tailB t))) ∧ w' = wx) := fun wx => rleft_any (tailB t) (by omega) wx
 have hls := leftB_le (tailB t)
 clear h
 generalize headB t = HD at *
 generalize tailB t = TL at *
 generalize leftB TL = U at *
 generalize wordLenB t = N at *
 have n0 : (0 : Int) ≤ (N : Int) := by omega
 have n1 : (N : Int) ≤ 1048576 := by omega
 have hnU := nil_iff U
 have HBG : Hid (begins U 61 = decide (0 < U.size ∧ byteOf U 0 = 61)) := rfl
 have hidx : 0 < U.size → ∀ wx, (Instr.index 9 (.string U) (.int .i64 0)).run Tryz.prog wx = .ok (.int .u8 (byteOf U 0)) wx := fun h wx => run_index_text U 0 h wx
 by_cases hN : N = 0
 ·have HN : Hid (bindR t = none) := by rw [HB.out, if_pos (Or.inl hN)]; rfl
  have t1 : ((N : Int) == 0) = true := by simp; omega
  clear hidx hN
  go_enter Tryz.func287, Tryz.ntmps287
  go_wp2_with fail
  refine (HWL.out _).mono ?_
  rintro e w1 ⟨rfl, rfl⟩
  go_wp2_with fail
  refine (HLF.out _).mono ?_
  rintro e w2 ⟨rfl, rfl⟩
  go_wp2_with fail
  refine HFL.out.mono ?_
  rintro e w3 ⟨rfl, hr3, hg3⟩
  have HR3 : Hid (RRow (r.failed 5 x.1) w3 rb ∧ w2.grownBy w3 (some rb)) := ⟨hr3, hg3⟩
  clear hr3 hg3
  go_wp2_with fail
  go_ret2
  rw [HN.out]
  exact ⟨rfl, HR3.out⟩
 ·have t1 : ((N : Int) == 0) = false := by simp; omega
  by_cases hU : U.size = 0
  ·have HN : Hid (bindR t = none) := by rw [HB.out, if_pos (Or.inr (by rw [HBG.out]; exact decide_eq_false (by omega)))]; rfl
   rw [decide_eq_true hU] at hnU
   clear hidx
   go_enter Tryz.func287, Tryz.ntmps287
   go_wp2_with fail
   refine (HWL.out _).mono ?_
   rintro e w1 ⟨rfl, rfl⟩
   go_wp2_with fail
   refine (HLF.out _).mono ?_
   rintro e w2 ⟨rfl, rfl⟩
   go_wp2_with fail
   refine HFL.out.mono ?_
   rintro e w3 ⟨rfl, hr3, hg3⟩
   have HR3 : Hid (RRow (r.failed 5 x.1) w3 rb ∧ w2.grownBy w3 (some rb)) := ⟨hr3, hg3⟩
   clear hr3 hg3
   go_wp2_with fail
   go_ret2
   rw [HN.out]
   exact ⟨rfl, HR3.out⟩
  ·rw [decide_eq_false hU] at hnU
   have hi := hidx (by omega)
   have u0 : (0 : Int) < (U.size : Int) := by omega
   clear hidx
   by_cases h61 : byteOf U 0 = 61
   ·have HN : Hid (bindR t = some (HD, leftB (U.extract 1 U.size))) := by
     rw [HB.out, if_neg (by rw [HBG.out, decide_eq_true (show 0 < U.size ∧ byteOf U 0 = 61 from ⟨by omega, h61⟩)]; simp [hN])]; rfl
    have hs3 : ∀ wx, (Instr.slice 9 (.string U) (some (.int .i64 1)) none none).run Tryz.prog wx = .ok (.string (U.extract 1 U.size)) wx := fun wx => slice_from U 1 (by omega) wx
    have HLF2 : Hid (∀ wx, Calls Tryz.prog 280 #[.string (U.extract 1 U.size)] wx fun e w' => e = .returned (.string (leftB (U.extract 1 U.size))) ∧ w' = wx) := fun wx => rleft_any _ (by rw [ByteArray.size_extract]; omega) wx
    generalize leftB (U.extract 1 U.size) = R at *
    generalize U.extract 1 U.size = V at *
    rw [h61] at hi
    clear h61
    go_enter Tryz.func287, Tryz.ntmps287
    go_wp2_with fail
    refine (HWL.out _).mono ?_
    rintro e w1 ⟨rfl, rfl⟩
    go_wp2_with fail
    refine (HLF.out _).mono ?_
    rintro e w2 ⟨rfl, rfl⟩
    go_wp2_with fail
    refine (HLF2.out _).mono ?_
    rintro e w3 ⟨rfl, rfl⟩
    go_wp2_with fail
    go_ret2
    rw [HN.out]
    exact ⟨rfl, rfl⟩
   ·have HN : Hid (bindR t = none) := by rw [HB.out, if_pos (Or.inr (by rw [HBG.out]; exact decide_eq_false (by omega)))]; rfl
    have t2 : ((byteOf U 0 : Int) != 61) = true := by simp; omega
    generalize byteOf U 0 = y at *
    clear h61
    go_enter Tryz.func287, Tryz.ntmps287
    go_wp2_with fail
    refine (HWL.out _).mono ?_
    rintro e w1 ⟨rfl, rfl⟩
    go_wp2_with fail
    refine (HLF.out _).mono ?_
    rintro e w2 ⟨rfl, rfl⟩
    go_wp2_with fail
    refine HFL.out.mono ?_
    rintro e w3 ⟨rfl, hr3, hg3⟩
    have HR3 : Hid (RRow (r.failed 5 x.1) w3 rb ∧ w2.grownBy w3 (some rb)) := ⟨hr3, hg3⟩
    clear hr3 hg3
    go_wp2_with fail
    go_ret2
    rw [HN.out]
    exact ⟨rfl, HR3.out⟩
def valueEnd (r : RV) (rb : Nat) (x : Line) (w : World) (o : Option ByteArray) (e : Ending) (w' : World) : Prop := match o with
 | some y => e = .returned (.string y) ∧ w' = w
 | none => e = .returned (.string ⟨#[]⟩) ∧ RRow (r.failed 5 x.1) w' rb ∧ w.grownBy w' (some rb)
set_option maxHeartbeats 2000000 in
theorem rvalue_any {r : RV} {w : World} {rb : Nat} {L : List Line} {x : Line} (t : ByteArray) (own top : Binds) (vo : Value) (h : RAt r w rb L x) (ho : BindsAt w vo own) (htop : BindsAt w r.vt top) (hl : own.length ≤ 10000) (hl2 : top.length ≤ 10000) (ht : t.size ≤ 1048576) (hE : ∀ y, (envOf own top y).size ≤ 1048576) :
  Calls Tryz.prog 288 #[.pointer (some ⟨rb, 0, none⟩), .string t, vo] w (valueEnd r rb x w (expandS (envOf own top) t)) := by
 have HFL : Hid (Calls Tryz.prog 283 #[.pointer (some ⟨rb, 0, none⟩), .int .i64 5] w fun e w' => e = .returned (.tuple #[]) ∧ RRow (r.failed 5 x.1) w' rb ∧ w.grownBy w' (some rb)) := rfail_any 5 h.row h.lines h.at' h.ne
 have HX := rexpand_any t own top vo r.vt w ho htop (by omega) (by omega) ht hE
 have c2 : w.cell? ⟨rb, 2, none⟩ = some r.vt := by rw [cell_of_row _ _ _ _ _ _ h.row]; rfl
 obtain ⟨a1, p1, rfl, _, _⟩ := ho
 obtain ⟨a2, p2, hv, _, _⟩ := htop
 rw [hv] at c2 HX
 clear h hv
 generalize own.length = OL at *
 generalize top.length = TL at *
 cases hx : expandS (envOf own top) t with
 | none =>
  rw [hx] at HX
  have HX : Hid (Calls Tryz.prog 215 #[.string t, .slice a1 OL p1, .slice a2 TL p2] w fun e w' => e = .returned (.tuple #[.string ⟨#[]⟩, .bool false]) ∧ w' = w) := HX
  go_enter Tryz.func288, Tryz.ntmps288
  go_wp2_with fail
  refine HX.out.mono ?_
  rintro e w1 ⟨rfl, rfl⟩
  go_wp2_with fail
  refine HFL.out.mono ?_
  rintro e w3 ⟨rfl, hr3, hg3⟩
  have HR3 : Hid (RRow (r.failed 5 x.1) w3 rb ∧ w1.grownBy w3 (some rb)) := ⟨hr3, hg3⟩
  clear hr3 hg3
  go_wp2_with fail
  go_ret
  exact ⟨rfl, HR3.out⟩
 | some y =>
  rw [hx] at HX
  have HX : Hid (Calls Tryz.prog 215 #[.string t, .slice a1 OL p1, .slice a2 TL p2] w fun e w' => e = .returned (.tuple #[.string y, .bool true]) ∧ w' = w) := HX
  go_enter Tryz.func288, Tryz.ntmps288
  go_wp2_with fail
  refine HX.out.mono ?_
  rintro e w1 ⟨rfl, rfl⟩
  go_wp2_with fail
  go_ret
  exact ⟨rfl, rfl⟩
end Go.Proofs.YthhbpebihgjpjaaGreatDoor

namespace Go.Proofs.YthhbpebihgjpjaaGreatDoor
open Go.RowKit Go.Shelf
set_option maxRecDepth 1000000

structure RPathsAt (W0 : Nat) (wr : World) (c : Nat → Nat) (v pv vq : Value) (vs : List Value) (I : List (List ByteArray)) (l q : List ByteArray) : Prop where
 rows : wr.ownsRow W0 32 1 v (vs.length + 1) (vs ++ [pv])
 last : wr.ownsRow W0 9 1 pv l.length (l.map Value.string)
 seps : wr.ownsRow W0 9 1 vq q.length (q.map Value.string)
 const : Stable c wr (fun w => vs.length = I.length ∧ ∀ (k : Nat) x y, vs[k]? = some x → I[k]? = some y → TextsF W0 w x y)
 c1 : ∀ k, v.ownBlock = some k → c k = 1
 c2 : ∀ k, pv.ownBlock = some k → c k = 2
 c3 : ∀ k, vq.ownBlock = some k → c k = 3
 low : ∀ k, k < W0 → c k = 9
theorem RPathsAt.later {W0 : Nat} {wr w' : World} {c : Nat → Nat} {v pv vq : Value} {vs : List Value} {I : List (List ByteArray)} {l q : List ByteArray} (h : RPathsAt W0 wr c v pv vq vs I l q) (hs : wr.heap.size ≤ w'.heap.size) (hb : ∀ k, W0 ≤ k → k < wr.heap.size → w'.heap[k]? = wr.heap[k]?) : RPathsAt W0 w' c v pv vq vs I l q where
 rows := rkeep h.rows (fun k hk => hb k (rblock h.rows k hk).1 (rblock h.rows k hk).2)
 last := rkeep h.last (fun k hk => hb k (rblock h.last k hk).1 (rblock h.last k hk).2)
 seps := rkeep h.seps (fun k hk => hb k (rblock h.seps k hk).1 (rblock h.seps k hk).2)
 const := h.const.step hs (fun k hk h0 => ⟨hb k (by
  rcases Nat.lt_or_ge k W0 with q | q
  ·have := h.low k q; omega
  ·exact q) hk, h0⟩)
 c1 := h.c1
 c2 := h.c2
 c3 := h.c3
 low := h.low
theorem RPathsAt.addSep {W0 : Nat} {wr w' : World} {c : Nat → Nat} {v pv vq vq' : Value} {vs : List Value} {I : List (List ByteArray)} {l q : List ByteArray} {s : ByteArray} (h : RPathsAt W0 wr c v pv vq vs I l q) (hg : wr.grownBy w' vq.ownBlock) (hq : w'.ownsRow W0 9 1 vq' (q.length + 1) (q.map Value.string ++ [.string s])) (hat : ∀ k, vq'.ownBlock = some k → vq.ownBlock = some k ∨ wr.heap.size ≤ k) (hW : W0 ≤ wr.heap.size) : ∃ c', RPathsAt W0 w' c' v pv vq' vs I l (q ++ [s]) := by
 have hoff : ∀ k, k < wr.heap.size → c k ≠ 3 → w'.heap[k]? = wr.heap[k]? := fun k hk hc => hg.block k hk (fun e => hc (h.c3 k e.symm))
 have hn : ∀ k, k < wr.heap.size → c k ≠ 3 → vq'.ownBlock ≠ some k := fun k hk hc e => by
  rcases hat k e with q | q
  ·exact hc (h.c3 k q)
  ·omega
 refine ⟨fun k => if vq'.ownBlock = some k then 3 else c k, ?_⟩
 exact {
  rows := rkeep h.rows (fun k hk => hoff k (rblock h.rows k hk).2 (by rw [h.c1 k hk]; decide))
  last := rkeep h.last (fun k hk => hoff k (rblock h.last k hk).2 (by rw [h.c2 k hk]; decide))
  seps := by rw [List.length_append, List.map_append]; exact hq
  const := h.const.step hg.size (fun k hk h0 => ⟨hoff k hk (by omega), (if_neg (hn k hk (by omega))).trans h0⟩)
  c1 := fun k hk => (if_neg (hn k (rblock h.rows k hk).2 (by rw [h.c1 k hk]; decide))).trans (h.c1 k hk)
  c2 := fun k hk => (if_neg (hn k (rblock h.last k hk).2 (by rw [h.c2 k hk]; decide))).trans (h.c2 k hk)
  c3 := fun k hk => if_pos hk
  low := fun k hk => (if_neg (hn k (by omega) (by rw [h.low k hk]; decide))).trans (h.low k hk) }
theorem RPathsAt.addRow {W0 : Nat} {wr w' : World} {c : Nat → Nat} {v v' pv vq : Value} {vs : List Value} {I : List (List ByteArray)} {l q : List ByteArray} (h : RPathsAt W0 wr c v pv vq vs I l q) (hg : wr.grownBy w' v.ownBlock) (hv : w'.ownsRow W0 32 1 v' (vs.length + 1 + 1) (vs ++ [pv] ++ [.slice none 0 0])) (hat : ∀ k, v'.ownBlock = some k → v.ownBlock = some k ∨ wr.heap.size ≤ k) (hW : W0 ≤ wr.heap.size) : ∃ c', RPathsAt W0 w' c' v' (.slice none 0 0) vq (vs ++ [pv]) (I ++ [l]) [] q := by
 have hoff : ∀ k, k < wr.heap.size → c k ≠ 1 → w'.heap[k]? = wr.heap[k]? := fun k hk hc => hg.block k hk (fun e => hc (h.c1 k e.symm))
 have hn : ∀ k, k < wr.heap.size → c k ≠ 1 → v'.ownBlock ≠ some k := fun k hk hc e => by
  rcases hat k e with q | q
  ·exact hc (h.c1 k q)
  ·omega
 refine ⟨fun k => if v'.ownBlock = some k then 1 else if c k = 2 then 0 else if c k = 1 then 4 else c k, ?_⟩
 exact {
  rows := by rw [List.length_append]; exact hv
  last := World.ownsRow_nil _ _ _ _
  seps := rkeep h.seps (fun k hk => hoff k (rblock h.seps k hk).2 (by rw [h.c3 k hk]; decide))
  const := fun w'' hs hk => by
   have hk2 : ∀ k, k < wr.heap.size → c k = 0 ∨ c k = 2 → w''.heap[k]? = wr.heap[k]? := fun k h1 h2 => by
    refine (hk k (Nat.lt_of_lt_of_le h1 hg.size) ?_).trans (hoff k h1 (by omega))
    show (if v'.ownBlock = some k then 1 else if c k = 2 then 0 else if c k = 1 then 4 else c k) = 0
    rw [if_neg (hn k h1 (by omega))]
    rcases h2 with h2 | h2
    ·rw [if_neg (by omega), if_neg (by omega)]; exact h2
    ·rw [if_pos h2]
   have hcn := h.const w'' (Nat.le_trans hg.size hs) (fun k h1 h2 => hk2 k h1 (Or.inl h2))
   have hl : w''.ownsRow W0 9 1 pv l.length (l.map Value.string) := rkeep h.last (fun k hk' => hk2 k (rblock h.last k hk').2 (Or.inr (h.c2 k hk')))
   refine ⟨by rw [List.length_append, List.length_append, hcn.1]; rfl, fun k x y hx hy => ?_⟩
   rcases Nat.lt_or_ge k vs.length with q | q
   ·rw [List.getElem?_append_left q] at hx
    rw [List.getElem?_append_left (by rw [← hcn.1]; exact q)] at hy
    exact hcn.2 k x y hx hy
   ·have hkk : k = vs.length := by
     have := (List.getElem?_eq_some_iff.1 hx).1
     rw [List.length_append] at this
     simp at this
     omega
    subst hkk
    rw [List.getElem?_append_right (Nat.le_refl _), Nat.sub_self] at hx
    rw [hcn.1, List.getElem?_append_right (Nat.le_refl _), Nat.sub_self] at hy
    obtain rfl := Option.some.inj hx
    obtain rfl := Option.some.inj hy
    exact ⟨texts_own hl, fun k hk => (rblock hl k hk).1⟩
  c1 := fun k hk => if_pos hk
  c2 := fun k hk => by cases hk
  c3 := fun k hk => by
   have h3 := h.c3 k hk
   show (if v'.ownBlock = some k then 1 else if c k = 2 then 0 else if c k = 1 then 4 else c k) = 3
   rw [if_neg (hn k (rblock h.seps k hk).2 (by omega)), if_neg (by omega), if_neg (by omega)]; exact h3
  low := fun k hk => by
   have h3 := h.low k hk
   show (if v'.ownBlock = some k then 1 else if c k = 2 then 0 else if c k = 1 then 4 else c k) = 9
   rw [if_neg (hn k (by omega) (by omega)), if_neg (by omega), if_neg (by omega)]; exact h3 }
theorem RPathsAt.addPath {W0 : Nat} {wr w6 : World} {c : Nat → Nat} {pv pv' vq : Value} {vs : List Value} {I : List (List ByteArray)} {l q : List ByteArray} {p : ByteArray} {g n cap : Nat} (h : RPathsAt W0 wr c (.slice (some ⟨g, 0, none⟩) n cap) pv vq vs I l q) (hn : n = vs.length + 1) (hg : wr.grownBy w6 pv.ownBlock) (hl : w6.ownsRow W0 9 1 pv' (l.length + 1) (l.map Value.string ++ [.string p])) (hat : ∀ k, pv'.ownBlock = some k → pv.ownBlock = some k ∨ wr.heap.size ≤ k) (_hW : W0 ≤ wr.heap.size) : ∃ c', RPathsAt W0 (w6.setCell ⟨g, vs.length, none⟩ pv') c' (.slice (some ⟨g, 0, none⟩) n cap) pv' vq vs I (l ++ [p]) q := by
 have hgc : c g = 1 := h.c1 g rfl
 have hgb := rblock h.rows g rfl
 have hoff : ∀ k, k < wr.heap.size → c k ≠ 2 → w6.heap[k]? = wr.heap[k]? := fun k hk hc => hg.block k hk (fun e => hc (h.c2 k e.symm))
 have hne2 : ∀ k, k < wr.heap.size → c k ≠ 2 → pv'.ownBlock ≠ some k := fun k hk hc e => by
  rcases hat k e with q | q
  ·exact hc (h.c2 k q)
  ·omega
 have hne : pv'.ownBlock ≠ some g := hne2 g hgb.2 (by rw [hgc]; decide)
 refine ⟨fun k => if pv'.ownBlock = some k then 2 else c k, ?_⟩
 have hs6 : w6.ownsRow W0 32 1 (.slice (some ⟨g, 0, none⟩) n cap) n (vs ++ [pv]) := by
  have h1 := rkeep h.rows (w' := w6) (fun k hk => by
   have e : g = k := Option.some.inj hk
   subst e
   exact hoff _ hgb.2 (by rw [hgc]; decide))
  rw [hn]; rw [hn] at h1; exact h1
 exact {
  rows := by
   have h1 := row_set hs6 vs.length pv'
   rw [show (vs ++ [pv]).set vs.length pv' = vs ++ [pv'] by simp] at h1
   rw [← hn]; exact h1
  last := by
   rw [List.length_append, List.map_append]
   exact rkeep hl (fun k hk => heap_setCell_other _ _ _ _ (fun e => hne (by rw [← show k = g from e]; exact hk)))
  seps := rkeep h.seps (fun k hk => by
   have h3 := h.c3 k hk
   rw [heap_setCell_other _ _ _ _ (show k ≠ g from fun e => by rw [e] at h3; omega)]
   exact hoff k (rblock h.seps k hk).2 (by omega))
  const := h.const.step (by simpa using hg.size) (fun k hk h0 => ⟨by
   rw [heap_setCell_other _ _ _ _ (show k ≠ g from fun e => by rw [e] at h0; omega)]
   exact hoff k hk (by omega), (if_neg (hne2 k hk (by omega))).trans h0⟩)
  c1 := fun k hk => by
   have e : g = k := Option.some.inj hk
   subst e
   exact (if_neg hne).trans hgc
  c2 := fun k hk => if_pos hk
  c3 := fun k hk => (if_neg (hne2 k (rblock h.seps k hk).2 (by rw [h.c3 k hk]; decide))).trans (h.c3 k hk)
  low := fun k hk => (if_neg (hne2 k (by omega) (by rw [h.low k hk]; decide))).trans (h.low k hk) }
theorem RPathsAt.still {W0 : Nat} {wr w6 : World} {c : Nat → Nat} {pv vq : Value} {vs : List Value} {I : List (List ByteArray)} {l q : List ByteArray} {g n cap : Nat} (h : RPathsAt W0 wr c (.slice (some ⟨g, 0, none⟩) n cap) pv vq vs I l q) (hn : n = vs.length + 1) (hg : wr.grownBy w6 pv.ownBlock) : w6.cell? ⟨g, vs.length, none⟩ = some pv ∧ w6.frozen? ⟨g, vs.length, none⟩ = false := by
 have hgc : c g = 1 := h.c1 g rfl
 have hgb := rblock h.rows g rfl
 have h1 := rkeep h.rows (w' := w6) (fun k hk => by
  have e : g = k := Option.some.inj hk
  subst e
  exact hg.block _ hgb.2 (fun e => by have := h.c2 g e.symm; omega))
 rw [← hn] at h1
 exact row_cell h1 vs.length pv (by simp)
def ListsF (W0 : Nat) (w : World) (v : Value) (ll : List (List ByteArray)) : Prop := ∃ g cap, v = .slice (some ⟨g, 0, none⟩) ll.length cap ∧ ll.length ≤ cap ∧ W0 ≤ g ∧ ∀ (i : Nat) y, ll[i]? = some y → ∃ pv, w.cell? ⟨g, i, none⟩ = some pv ∧ TextsF W0 w pv y
theorem RPathsAt.done {W0 : Nat} {wr : World} {c : Nat → Nat} {v pv vq : Value} {vs : List Value} {I : List (List ByteArray)} {l q : List ByteArray} (h : RPathsAt W0 wr c v pv vq vs I l q) : ListsF W0 wr v (I ++ [l]) ∧ TextsF W0 wr vq q := by
 obtain ⟨ao, cap, rfl, hc, hg⟩ := row_form h.rows
 obtain ⟨g, rfl⟩ := hg (by omega)
 have hcn := h.const.now
 have hlen : (I ++ [l]).length = vs.length + 1 := by rw [List.length_append, hcn.1]; rfl
 refine ⟨⟨g, cap, by rw [hlen], by rw [hlen]; exact hc, (rblock h.rows g rfl).1, fun i y hy => ?_⟩, texts_own h.seps, fun k hk => (rblock h.seps k hk).1⟩
 rcases Nat.lt_or_ge i vs.length with q' | q'
 ·rw [List.getElem?_append_left (by rw [← hcn.1]; exact q')] at hy
  refine ⟨vs[i], (row_cell h.rows i vs[i] (by rw [List.getElem?_append_left q']; simp)).1, hcn.2 i _ y (by simp) hy⟩
 ·have hk : i = vs.length := by
   have := (List.getElem?_eq_some_iff.1 hy).1
   rw [hlen] at this
   omega
  subst hk
  rw [hcn.1, List.getElem?_append_right (Nat.le_refl _), Nat.sub_self] at hy
  obtain rfl := Option.some.inj hy
  exact ⟨pv, (row_cell h.rows vs.length pv (by simp)).1, texts_own h.last, fun k hk => (rblock h.last k hk).1⟩
theorem rpaths_start (w : World) : RPathsAt w.heap.size (w.alloc (.cells #[.slice none 0 0] 32)) (fun k => if k < w.heap.size then 9 else if k = w.heap.size then 1 else 0) (.slice (some ⟨w.heap.size, 0, none⟩) 1 1) (.slice none 0 0) (.slice none 0 0) [] [] [] [] where
 rows := World.ownsRow_lit w _ 1 (Nat.le_refl _) (by unfold maxLen; omega) rfl
 last := World.ownsRow_nil _ _ _ _
 seps := World.ownsRow_nil _ _ _ _
 const := fun _ _ _ => ⟨rfl, fun k x y hx => by simp at hx⟩
 c1 := fun k hk => by
  have e : w.heap.size = k := Option.some.inj hk
  subst e
  show (if w.heap.size < w.heap.size then 9 else if w.heap.size = w.heap.size then 1 else 0) = 1
  rw [if_neg (Nat.lt_irrefl _), if_pos rfl]
 c2 := fun k hk => by cases hk
 c3 := fun k hk => by cases hk
 low := fun k hk => if_pos hk
end Go.Proofs.YthhbpebihgjpjaaGreatDoor
