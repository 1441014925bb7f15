import Derived.Test.YthhbpebihgjpjaaGreatDoorP26
import Derived.Test.YthhbpebihgjpjaaGreatDoorP15
namespace Go.Proofs.YthhbpebihgjpjaaGreatDoor
open Go.RowKit Go.Shelf
set_option maxRecDepth 1000000

theorem BindsAt.grown {w w' : World} {rb : Nat} {v : Value} {l : Binds} (h : BindsAt w v l) (hg : w.grownBy w' (some rb)) (hn : ∀ g o n c, v = .slice (some ⟨g, o, none⟩) n c → ¬ g = rb) : BindsAt w' v l := by
 obtain ⟨ao, cap, hv, hc, q⟩ := h
 rcases q with q | ⟨g, o, rfl, q⟩
 ·exact ⟨ao, cap, hv, hc, Or.inl q⟩
 ·have hne := hn g o _ _ hv
  refine ⟨_, cap, hv, hc, Or.inr ⟨g, o, rfl, fun k y hy => ?_⟩⟩
  obtain ⟨q1, q2⟩ := q k y hy
  have hk := hg.block g (block_lt_of_cell q1) (fun e => hne (Option.some.inj e))
  exact ⟨(World.cell?_of_block (w := w) (a := ⟨g, o + k * 2, none⟩) hk).trans q1, (World.cell?_of_block (w := w) (a := ⟨g, o + k * 2 + 1, none⟩) hk).trans q2⟩
theorem grown_more {w w1 w2 : World} {rb : Nat} {b : Option Nat} (hg : w.grownBy w1 (some rb)) (h2 : w1.grownBy w2 b) (hb : ∀ k, b = some k → w.heap.size ≤ k ∨ k = rb) : w.grownBy w2 (some rb) :=
 ⟨h2.os.trans hg.os, h2.tape.trans hg.tape, h2.output.trans hg.output, Nat.le_trans hg.size h2.size, fun k hk hn => (h2.block k (Nat.lt_of_lt_of_le hk hg.size) (fun e => by
  rcases hb k e.symm with q | q
  ·omega
  ·exact hn (by rw [q]))).trans (hg.block k hk hn)⟩
theorem grown_alloc {w w1 : World} {rb : Nat} (hg : w.grownBy w1 (some rb)) (o : Obj) : w.grownBy (w1.alloc o) (some rb) := grown_more hg (World.grownBy_alloc w1 o none) (fun k hk => by cases hk)
theorem scan_far {t : ByteArray} {i : Nat} (hi : i < t.size) (h : byteOf t i ≠ 32) (h1 : byteOf t i ≠ 58) (h2 : byteOf t i ≠ 124) : i < scanAt isSep t i ∧ scanAt isSep t i ≤ t.size + 1 := by
 have hle := scanAt_le isSep t (t.size - i) i (Nat.le_refl _) (by omega)
 refine ⟨?_, hle.2⟩
 by_cases hd : byteOf t i = 36
 ·rw [scanAt_dol isSep t i hi hd]
  rcases Nat.lt_or_ge t.size (i + 2) with q | q
  ·rw [scanAt_end isSep t _ (by omega)]; omega
  ·have := scanAt_le isSep t (t.size - (i + 2)) (i + 2) (Nat.le_refl _) (by omega); omega
 ·rw [scanAt_step isSep t i hi hd (by unfold isSep; simp; omega)]
  have := scanAt_le isSep t (t.size - (i + 1)) (i + 1) (Nat.le_refl _) (by omega); omega
theorem one_at (t : ByteArray) (i : Nat) (c : UInt8) (hi : i < t.size) (hc : byteOf t i = c.toNat) : t.extract i (i + 1) = ⟨#[c]⟩ := by
 have h := extract_one (t.extract i t.size) c (by rw [ByteArray.size_extract]; omega) (by rw [byteOf_extract _ _ _ _ (by omega) (Nat.le_refl _), Nat.add_zero]; exact hc)
 rw [extract_of _ _ _ _ _ (by omega), Nat.add_zero] at h
 exact h
theorem no_colon (bar bars : Bool) : memB tColon (marksOf bar bars) = false := by
 have e1 : decide (tBar = tColon) = false := by decide
 have e2 : decide (tBars = tColon) = false := by decide
 unfold memB marksOf
 cases bar <;> cases bars <;> simp [of_decide_eq_false e1, of_decide_eq_false e2]
theorem mem_bar (bar bars : Bool) : memB tBar (marksOf bar bars) = bar := by
 have e2 : decide (tBars = tBar) = false := by decide
 unfold memB marksOf
 cases bar <;> cases bars <;> simp [of_decide_eq_false e2]
theorem mem_bars (bar bars : Bool) : memB tBars (marksOf bar bars) = bars := by
 have e2 : decide (tBar = tBars) = false := by decide
 unfold memB marksOf
 cases bar <;> cases bars <;> simp [of_decide_eq_false e2]
theorem mark_colon {t : ByteArray} {i : Nat} (hi : i < t.size) (h : byteOf t i = 58) : markB (t.extract i t.size) = tColon := by
 have hs : (t.extract i t.size).size = t.size - i := by rw [ByteArray.size_extract]; omega
 have hb0 : byteOf (t.extract i t.size) 0 = 58 := by rw [byteOf_extract _ _ _ _ (by omega) (Nat.le_refl _), Nat.add_zero]; exact h
 unfold markB begins
 rw [hb0, if_neg (by simp), if_pos (by simp; omega)]
theorem mark_bar {t : ByteArray} {i : Nat} (hi : i < t.size) (h : byteOf t i = 124) (h2 : ¬ (i + 1 < t.size ∧ byteOf t (i + 1) = 124)) : markB (t.extract i t.size) = tBar := by
 have hs : (t.extract i t.size).size = t.size - i := by rw [ByteArray.size_extract]; omega
 have hb0 : byteOf (t.extract i t.size) 0 = 124 := by rw [byteOf_extract _ _ _ _ (by omega) (Nat.le_refl _), Nat.add_zero]; exact h
 unfold markB begins
 rw [hb0, if_pos (by simp; omega), if_neg (fun q => h2 ⟨by omega, by
  have := q.2
  rwa [byteOf_extract _ _ _ _ (by omega) (Nat.le_refl _)] at this⟩)]
theorem mark_bars {t : ByteArray} {i : Nat} (hi : i < t.size) (h : byteOf t i = 124) (h2 : i + 1 < t.size) (h3 : byteOf t (i + 1) = 124) : markB (t.extract i t.size) = tBars := by
 have hs : (t.extract i t.size).size = t.size - i := by rw [ByteArray.size_extract]; omega
 have hb0 : byteOf (t.extract i t.size) 0 = 124 := by rw [byteOf_extract _ _ _ _ (by omega) (Nat.le_refl _), Nat.add_zero]; exact h
 unfold markB begins
 rw [hb0, if_pos (by simp; omega), if_pos ⟨by omega, by rw [byteOf_extract _ _ _ _ (by omega) (Nat.le_refl _)]; exact h3⟩]
set_option maxHeartbeats 64000000 in
theorem rpaths_any {r : RV} {w : World} {rb : Nat} {L : List Line} {x : Line} {top : Binds} (t : ByteArray) (bar bars : Bool) (h : RAt r w rb L x) (h0 : r.e = 0) (htop : BindsAt w r.vt top) (hvt : ∀ g o n c, r.vt = .slice (some ⟨g, o, none⟩) n c → ¬ g = rb) (hl2 : top.length ≤ 10000) (ht : t.size ≤ 4000) (hE : BOk top) :
  Calls Tryz.prog 286 #[.pointer (some ⟨rb, 0, none⟩), .string t, .bool bar, .bool bars] w (RPathsEnd (envOf [] top) (marksOf bar bars) t r x.1 rb w) := by
 obtain ⟨MS, hMS⟩ : ∃ MS, MS = marksOf bar bars := ⟨_, rfl⟩
 have HMS : Hid (memB tColon MS = false ∧ memB tBar MS = bar ∧ memB tBars MS = bars) := by rw [hMS]; exact ⟨no_colon bar bars, mem_bar bar bars, mem_bars bar bars⟩
 rw [← hMS]
 clear hMS
 have hinf : (Tryz.prog.info? 32).map (fun i => (i.size, i.bytes, i.zero)) = some (1, 24, some (.slice none 0 0)) := by kernel_rfl
 obtain ⟨ti, hti, htj⟩ := Option.map_eq_some_iff.1 hinf
 simp only [Prod.mk.injEq] at htj
 have HTI : Hid (Tryz.prog.info? 32 = some ti ∧ ti.size = 1 ∧ ti.bytes = 24 ∧ ti.zero = some (.slice none 0 0)) := ⟨hti, htj.1, htj.2.1, htj.2.2⟩
 clear hinf hti htj
 have hinf : (Tryz.prog.info? 9).map (fun i => (i.size, i.bytes, i.zero)) = some (1, 16, some (.string ⟨#[]⟩)) := by kernel_rfl
 obtain ⟨tj, hti, htj⟩ := Option.map_eq_some_iff.1 hinf
 simp only [Prod.mk.injEq] at htj
 have HTJ : Hid (Tryz.prog.info? 9 = some tj ∧ tj.size = 1 ∧ tj.bytes = 16 ∧ tj.zero = some (.string ⟨#[]⟩)) := ⟨hti, htj.1, htj.2.1, htj.2.2⟩
 clear hinf hti htj
 have H : Hid (RAt r w rb L x) := h
 have H0 : Hid (r.e = 0) := h0
 have HTP : Hid (BindsAt w r.vt top ∧ (∀ g o n c, r.vt = .slice (some ⟨g, o, none⟩) n c → ¬ g = rb)) := ⟨htop, hvt⟩
 have HL2 : Hid (top.length ≤ 10000) := hl2
 have HEE : Hid (∀ y, (envOf [] top y).size ≤ 1048576) := fun y => by
  rw [envOf_one]
  have := envL_size (ls := [top]) (fun l hl => by obtain rfl := List.mem_singleton.1 hl; exact hE) y
  omega
 have HRB : Hid (rb < w.heap.size) := h.row.lt
 have HNL : Hid (∀ wx, BindsAt wx (.slice none 0 0) []) := fun wx => ⟨none, 0, rfl, Nat.le_refl _, Or.inl ⟨rfl, trivial⟩⟩
 have tz : (t.size : Int) ≤ 4000 := by omega
 have HT4 : Hid (t.size ≤ 4000) := ht
 have HRBW : Hid ((w.alloc (.cells #[.slice none 0 0] 32)).heap[rb]? = w.heap[rb]?) := heapA_old _ _ _ h.row.lt
 clear h h0 htop hvt hl2 hE ht
 go_enter Tryz.func286, Tryz.ntmps286
 go_wp2_with fail
 go_loopw [10, 11, 12] (fun v10 v11 v12 wr => ∃ (i : Nat) (c : Nat → Nat) (g nn cap : Nat) (pv : Value) (aq : Option Addr) (nq cq : Nat) (vs : List Value) (I : List (List ByteArray)) (l q : List ByteArray) (r' : RV), v12 = .int .i64 i ∧ v10 = .slice (some ⟨g, 0, none⟩) nn cap ∧ v11 = .slice aq nq cq ∧ nn = vs.length + 1 ∧ nq = q.length ∧ q.length = vs.length ∧ RPathsAt w.heap.size wr c (.slice (some ⟨g, 0, none⟩) nn cap) pv (.slice aq nq cq) vs I l q ∧ RRow r' wr rb ∧ w.grownBy wr (some rb) ∧ i ≤ t.size ∧ (∀ y ∈ I ++ [l], y.length + (t.size - i) ≤ 4000) ∧ nn + (t.size - i) ≤ 4001 ∧ RTold (envOf [] top) MS t r x.1 i I l q r') (fun _ _ v12 _ => t.size - (intOf v12).toNat)
 case atStart =>
  refine ⟨0, _, w.heap.size, 1, 1, .slice none 0 0, none, 0, 0, [], [], [], [], r, rfl, rfl, rfl, rfl, rfl, rfl, rpaths_start w, ?_, grown_alloc ⟨rfl, rfl, rfl, Nat.le_refl _, fun _ _ _ => rfl⟩ _, Nat.zero_le _, ?_, ?_, Or.inl ⟨rfl, [(⟨#[]⟩, [])], by simp, rfl, rfl, ?_⟩⟩
  ·exact HRBW.out.trans H.out.row
  ·intro y hy
   obtain rfl := List.mem_singleton.1 (show y ∈ [[]] from hy)
   have := HT4.out
   show 0 + _ ≤ _
   omega
  ·have := HT4.out; omega
  ·rw [ByteArray.extract_zero_size]; rfl
 case round =>
  obtain ⟨i, c, g, nn, cap, pv, aq, nq, cq, vs, I, l, q, r', rfl, rfl, rfl, hnn, hnq, hqv, hp, hrr, hgr, hit, hls, hns, htold⟩ := hrel
  have HP : Hid (RPathsAt w.heap.size wr c (.slice (some ⟨g, 0, none⟩) nn cap) pv (.slice aq nq cq) vs I l q) := hp
  have HRR : Hid (RRow r' wr rb ∧ w.grownBy wr (some rb)) := ⟨hrr, hgr⟩
  have HLS : Hid (∀ y ∈ I ++ [l], y.length + (t.size - i) ≤ 4000) := hls
  have HNS : Hid (nn + (t.size - i) ≤ 4001) := hns
  have HNQ : Hid (nn = vs.length + 1 ∧ nq = q.length ∧ q.length = vs.length) := ⟨hnn, hnq, hqv⟩
  have c7 : wr.cell? ⟨rb, 7, none⟩ = some (.int .i64 r'.e) := by rw [cell_of_row _ _ _ _ _ _ hrr]; rfl
  have HEND : Hid (((r' = r ∧ ∃ A : Secs, A ≠ [] ∧ A.map (·.2) = I ++ [l] ∧ A.tail.map (·.1) = q ∧ pathsS (envOf [] top) MS t = .ok A) ∨ ∃ b, r' = r.failed ((badK b : Nat) + 1) x.1 ∧ pathsS (envOf [] top) MS t = .error b) → RPathsEnd (envOf [] top) MS t r x.1 rb w (.returned (.tuple #[.slice (some ⟨g, 0, none⟩) nn cap, .slice aq nq cq])) wr) := fun hd => by
   have hdn := HP.out.done
   have hll : (I ++ [l]).length = nn := by
    rw [List.length_append, ← HP.out.const.now.1, hnn]; rfl
   refine ⟨_, _, I ++ [l], q, r', rfl, hdn.1, hdn.2, by rw [hll]; omega, by rw [hll]; omega, fun y hy => by have := hls y hy; omega, hrr, hgr, hd⟩
  have i0 : (0 : Int) ≤ (i : Int) := by omega
  clear hp hgr hls hns hnn hnq hqv
  rcases htold with ⟨rfl, A, hA, hA1, hA2, hA3⟩ | ⟨b, hb, hb2⟩
  ·have e0 := H0.out
   rw [e0] at c7
   by_cases hi : i < t.size
   ·have i1 : decide ((i : Int) < (t.size : Int)) = true := decide_eq_true (by omega)
    have i2 : (i : Int) < (t.size : Int) := by omega
    have hix : ∀ wx, (Instr.index 9 (.string t) (.int .i64 i)).run Tryz.prog wx = .ok (.int .u8 (byteOf t i)) wx := fun wx => run_index_text t i hi wx
    have HAT : Hid (RAt r' wr rb L x) := H.out.grown HRR.out.2 HRR.out.1 ⟨rfl, rfl⟩
    have HA : Hid (A ≠ [] ∧ A.map (·.2) = I ++ [l] ∧ A.tail.map (·.1) = q ∧ pathsAt (envOf [] top) MS (t.extract i t.size) A = pathsS (envOf [] top) MS t) := ⟨hA, hA1, hA2, hA3⟩
    have HI : Hid (i < t.size) := hi
    clear hA hA1 hA2 hA3 HEND
    by_cases h32 : byteOf t i = 32
    ·have b1 : (((byteOf t i : Nat) : Int) == 32) = true := by simp; omega
     have HT1 : Hid (RTold (envOf [] top) MS t r' x.1 (i + 1) I l q r') := Or.inl ⟨rfl, A, HA.out.1, HA.out.2.1, HA.out.2.2.1, by rw [← HA.out.2.2.2]; exact (rp_blank _ _ _ _ _ hi h32).symm⟩
     go_wp2_with fail
     exact ⟨⟨i + 1, c, g, nn, cap, pv, aq, nq, cq, vs, I, l, q, r', by go_num, rfl, rfl, HNQ.out.1, HNQ.out.2.1, HNQ.out.2.2, HP.out, HRR.out.1, HRR.out.2, hi, (fun y hy => by have := HLS.out y hy; omega), by have := HNS.out; omega, HT1.out⟩, by simp [intOf]; omega⟩
    have b1 : (((byteOf t i : Nat) : Int) == 32) = false := by simp; omega
    by_cases h58 : byteOf t i = 58
    case' pos =>
     have b2 : (((byteOf t i : Nat) : Int) == 58) = true := by simp; omega
     have b3 : (((byteOf t i : Nat) : Int) == 124) = false := by simp; omega
     have hsl : ∀ wx, (Instr.slice 9 (.string t) (some (.int .i64 i)) (some (.int .i64 ((i : Int) + 1))) none).run Tryz.prog wx = .ok (.string ⟨#[58]⟩) wx := fun wx => by
      rw [slice_mid t i (i + 1) i ((i : Int) + 1) rfl (by omega) (by omega) (by omega) wx, one_at t i 58 hi (by rw [h58]; rfl)]
     have HBAD : Hid (pathsS (envOf [] top) MS t = .error .syn) := by
      rw [← HA.out.2.2.2, rp_mark _ _ _ _ _ tColon hi h32 (mark_colon hi h58) (by decide), HMS.out.1]; rfl
     obtain ⟨M, hM⟩ : ∃ M : ByteArray, M = ⟨#[58]⟩ := ⟨_, rfl⟩
     have tsz : M.size = 1 := by rw [hM]; rfl
     have hit2 : i + 1 ≤ t.size := hi
    case' neg =>
     have b2 : (((byteOf t i : Nat) : Int) == 58) = false := by simp; omega
     by_cases h124 : byteOf t i = 124
     case' pos =>
      have b3 : (((byteOf t i : Nat) : Int) == 124) = true := by simp; omega
      have hsl : ∀ wx, (Instr.slice 9 (.string t) (some (.int .i64 i)) (some (.int .i64 ((i : Int) + 1))) none).run Tryz.prog wx = .ok (.string ⟨#[124]⟩) wx := fun wx => by
       rw [slice_mid t i (i + 1) i ((i : Int) + 1) rfl (by omega) (by omega) (by omega) wx, one_at t i 124 hi (by rw [h124]; rfl)]
      by_cases hbb : i + 1 < t.size ∧ byteOf t (i + 1) = 124
      case' pos =>
       have hix2 : ∀ wx, (Instr.index 9 (.string t) (.int .i64 ((i : Int) + 1))).run Tryz.prog wx = .ok (.int .u8 (byteOf t (i + 1))) wx := fun wx => index_next t i 1 _ (by omega) hbb.1 wx
       have i3 : (i : Int) + 1 < (t.size : Int) := by omega
       have b4 : (((byteOf t (i + 1) : Nat) : Int) == 124) = true := by have := hbb.2; simp; omega
       obtain ⟨M, hM⟩ : ∃ M : ByteArray, M = ⟨#[124, 124]⟩ := ⟨_, rfl⟩
       have tsz : M.size = 2 := by rw [hM]; rfl
       have hit2 : i + 2 ≤ t.size := hbb.1
       have HEQ := (rp_mark (envOf [] top) MS t i A tBars hi h32 (mark_bars hi h124 hbb.1 hbb.2) (by decide)).symm.trans HA.out.2.2.2
       rw [HMS.out.2.2, show tBars = M from hM.symm] at HEQ
       generalize hB1 : byteOf t (i + 1) = B1 at *
       generalize hB0 : byteOf t i = B0 at *
       clear hbb h124 h32 h58 hB0 hB1 HMS
       cases bars
       case' false =>
        rw [if_neg (by decide)] at HEQ
        have HBAD : Hid (pathsS (envOf [] top) MS t = .error .syn) := HEQ.symm
        clear HEQ
       case' true =>
        rw [if_pos rfl] at HEQ
        have HGOOD : Hid (pathsAt (envOf [] top) MS (t.extract (i + M.size) t.size) (A ++ [(M, [])]) = pathsS (envOf [] top) MS t) := HEQ
        clear HEQ
      case' neg =>
       obtain ⟨M, hM⟩ : ∃ M : ByteArray, M = ⟨#[124]⟩ := ⟨_, rfl⟩
       have tsz : M.size = 1 := by rw [hM]; rfl
       have hit2 : i + 1 ≤ t.size := hi
       have HEQ := (rp_mark (envOf [] top) MS t i A tBar hi h32 (mark_bar hi h124 hbb) (by decide)).symm.trans HA.out.2.2.2
       rw [HMS.out.2.1, show tBar = M from hM.symm] at HEQ
       by_cases hlast : i + 1 < t.size
       case' pos =>
        have hix2 : ∀ wx, (Instr.index 9 (.string t) (.int .i64 ((i : Int) + 1))).run Tryz.prog wx = .ok (.int .u8 (byteOf t (i + 1))) wx := fun wx => index_next t i 1 _ (by omega) hlast wx
        have i3 : (i : Int) + 1 < (t.size : Int) := by omega
        have hb4 : byteOf t (i + 1) ≠ 124 := fun e => hbb ⟨hlast, e⟩
        have b4 : (((byteOf t (i + 1) : Nat) : Int) == 124) = false := by simp; omega
        generalize hB1 : byteOf t (i + 1) = B1 at *
        generalize hB0 : byteOf t i = B0 at *
        clear hb4 hbb h124 h32 h58 hB0 hB1 HMS
        cases bar
        case' false =>
         rw [if_neg (by decide)] at HEQ
         have HBAD : Hid (pathsS (envOf [] top) MS t = .error .syn) := HEQ.symm
         clear HEQ
        case' true =>
         rw [if_pos rfl] at HEQ
         have HGOOD : Hid (pathsAt (envOf [] top) MS (t.extract (i + M.size) t.size) (A ++ [(M, [])]) = pathsS (envOf [] top) MS t) := HEQ
         clear HEQ
       case' neg =>
        have i3 : ¬ (i : Int) + 1 < (t.size : Int) := by omega
        have i4 : decide ((i : Int) + 1 < (t.size : Int)) = false := decide_eq_false i3
        generalize hB0 : byteOf t i = B0 at *
        clear hbb h124 h32 h58 hB0 HMS
        cases bar
        case' false =>
         rw [if_neg (by decide)] at HEQ
         have HBAD : Hid (pathsS (envOf [] top) MS t = .error .syn) := HEQ.symm
         clear HEQ
        case' true =>
         rw [if_pos rfl] at HEQ
         have HGOOD : Hid (pathsAt (envOf [] top) MS (t.extract (i + M.size) t.size) (A ++ [(M, [])]) = pathsS (envOf [] top) MS t) := HEQ
         clear HEQ
     case' neg =>
      have b3 : (((byteOf t i : Nat) : Int) == 124) = false := by simp; omega
      have HPE := (rp_path (envOf [] top) MS t i A hi h32 h58 h124).symm.trans HA.out.2.2.2
      have HJI : Hid (i < scanAt isSep t i ∧ scanAt isSep t i ≤ t.size + 1) := scan_far hi h32 h58 h124
      generalize hJ : scanAt isSep t i = J at *
      have HJ : Hid (scanAt isSep t i = J) := hJ
      have HPE : Hid ((if J ≤ t.size then (match pathS (envOf [] top) (t.extract i J) with
       | .error e => .error e
       | .ok p => pathsAt (envOf [] top) MS (t.extract J t.size) (addPath A p)) else .error .syn) = pathsS (envOf [] top) MS t) := HPE
      have HBT : Hid (BindsAt wr r'.vt top) := HTP.out.1.grown HRR.out.2 HTP.out.2
      obtain ⟨aop, cpp, hpv, _, _⟩ := row_form HP.out.last
      subst hpv
      clear hJ
      generalize hB0 : byteOf t i = B0 at *
      clear hB0 h32 h58 h124
      go_wp2_with fail
      go_loop [12] (fun z => ∃ j : Nat, z = .int .i64 j ∧ i ≤ j ∧ j ≤ t.size + 1 ∧ scanAt isSep t j = J) (fun z => t.size + 1 - (intOf z).toNat)
      case atStart => exact ⟨i, rfl, Nat.le_refl _, by omega, HJ.out⟩
      case round =>
       obtain ⟨j, rfl, hj1, hj2, hj3⟩ := hrel
       have HJ3 : Hid (scanAt isSep t j = J) := hj3
       clear hj3
       by_cases hjt : j < t.size
       case' neg =>
        have j1 : ¬ (j : Int) < (t.size : Int) := by omega
        have j2 : decide ((j : Int) < (t.size : Int)) = false := decide_eq_false j1
        obtain rfl : J = j := by rw [← HJ3.out]; exact scanAt_end isSep t j (by omega)
       case' pos =>
        have j1 : (j : Int) < (t.size : Int) := by omega
        have j0 : (0 : Int) ≤ (j : Int) := by omega
        have jix : ∀ wx, (Instr.index 9 (.string t) (.int .i64 j)).run Tryz.prog wx = .ok (.int .u8 (byteOf t j)) wx := fun wx => run_index_text t j hjt wx
        by_cases g32 : byteOf t j = 32
        case' pos =>
         have e1 : (((byteOf t j : Nat) : Int) == 32) = true := by simp; omega
         have n1 : (((byteOf t j : Nat) : Int) != 32) = false := by simp; omega
         obtain rfl : J = j := by rw [← HJ3.out]; exact scanAt_hit isSep t j hjt (by omega) (by unfold isSep; simp; omega)
        case' neg =>
         have e1 : (((byteOf t j : Nat) : Int) == 32) = false := by simp; omega
         have n1 : (((byteOf t j : Nat) : Int) != 32) = true := by simp; omega
         by_cases g58 : byteOf t j = 58
         case' pos =>
          have e2 : (((byteOf t j : Nat) : Int) == 58) = true := by simp; omega
          have n2 : (((byteOf t j : Nat) : Int) != 58) = false := by simp; omega
          obtain rfl : J = j := by rw [← HJ3.out]; exact scanAt_hit isSep t j hjt (by omega) (by unfold isSep; simp; omega)
         case' neg =>
          have e2 : (((byteOf t j : Nat) : Int) == 58) = false := by simp; omega
          have n2 : (((byteOf t j : Nat) : Int) != 58) = true := by simp; omega
          by_cases g124 : byteOf t j = 124
          case' pos =>
           have e3 : (((byteOf t j : Nat) : Int) == 124) = true := by simp; omega
           have n3 : (((byteOf t j : Nat) : Int) != 124) = false := by simp; omega
           obtain rfl : J = j := by rw [← HJ3.out]; exact scanAt_hit isSep t j hjt (by omega) (by unfold isSep; simp; omega)
          case' neg =>
           have e3 : (((byteOf t j : Nat) : Int) == 124) = false := by simp; omega
           have n3 : (((byteOf t j : Nat) : Int) != 124) = true := by simp; omega
           by_cases g36 : byteOf t j = 36
           ·have e4 : (((byteOf t j : Nat) : Int) == 36) = true := by simp; omega
            have HN : Hid (scanAt isSep t (j + 2) = J) := by rw [← HJ3.out]; exact (scanAt_dol isSep t j hjt g36).symm
            clear g32 g58 g124 g36
            go_wp2_with fail
            exact ⟨⟨j + 2, by go_num, by omega, by omega, HN.out⟩, by simp [intOf]; omega⟩
           ·have e4 : (((byteOf t j : Nat) : Int) == 36) = false := by simp; omega
            have HN : Hid (scanAt isSep t (j + 1) = J) := by rw [← HJ3.out]; exact (scanAt_step isSep t j hjt g36 (by unfold isSep; simp; omega)).symm
            clear g32 g58 g124 g36
            go_wp2_with fail
            exact ⟨⟨j + 1, by go_num, by omega, by omega, HN.out⟩, by simp [intOf]; omega⟩
       all_goals
        as_aux_lemma =>
         by_cases hJt : J ≤ t.size
         case neg =>
          have hgt : (t.size : Int) < (J : Int) := by omega
          have HBAD : Hid (pathsS (envOf [] top) MS t = .error .syn) := by
           have h := HPE.out
           rw [if_neg hJt] at h
           exact h.symm
          have HFL : Hid (Calls Tryz.prog 283 #[.pointer (some ⟨rb, 0, none⟩), .int .i64 5] wr fun e w' => e = .returned (.tuple #[]) ∧ RRow (r'.failed 5 x.1) w' rb ∧ wr.grownBy w' (some rb)) := rfail_any 5 HAT.out.row HAT.out.lines HAT.out.at' HAT.out.ne
          go_wp2_with fail
          refine HFL.out.mono ?_
          rintro e w3 ⟨rfl, hr3, hg3⟩
          have HFIN : Hid (RPathsEnd (envOf [] top) MS t r' x.1 rb w (.returned (.tuple #[.slice (some ⟨g, 0, none⟩) nn cap, .slice aq nq cq])) w3) := by
           have HP3 := HP.out.later hg3.size (fun k h1 hk => hg3.block k hk (fun e => by have h2 := Option.some.inj e; have h3 := HRB.out; omega))
           have hdn := HP3.done
           have hll : (I ++ [l]).length = nn := by
            rw [List.length_append, ← HP.out.const.now.1, HNQ.out.1]; rfl
           exact ⟨_, _, I ++ [l], q, r'.failed 5 x.1, rfl, hdn.1, hdn.2, by rw [hll]; have := HNQ.out; omega, by rw [hll]; have := HNS.out; omega, fun y hy => by have := HLS.out y hy; omega, hr3, grown_more HRR.out.2 hg3 (fun k hk => Or.inr (Option.some.inj hk).symm), Or.inr ⟨.syn, rfl, HBAD.out⟩⟩
          clear hr3 hg3
          go_wp2_with fail
          go_ret2
          exact HFIN.out
         case' pos =>
          have hgt : ¬ (t.size : Int) < (J : Int) := by omega
          have hslp : ∀ wx, (Instr.slice 9 (.string t) (some (.int .i64 i)) (some (.int .i64 J)) none).run Tryz.prog wx = .ok (.string (t.extract i J)) wx := fun wx => slice_mid t i J i J rfl rfl (by omega) hJt wx
          have HPO : Hid ((match pathS (envOf [] top) (t.extract i J) with
           | .error e => .error e
           | .ok p => pathsAt (envOf [] top) MS (t.extract J t.size) (addPath A p)) = pathsS (envOf [] top) MS t) := by have h := HPE.out; rw [if_pos hJt] at h; exact h
          have hpz : (t.extract i J).size ≤ 4000 := by rw [ByteArray.size_extract]; have := HT4.out; omega
          have HVA := rvalue_any (t.extract i J) [] top (.slice none 0 0) HAT.out (HNL.out wr) HBT.out (Nat.zero_le _) HL2.out (by omega) HEE.out
          generalize t.extract i J = PT at *
          cases hex : expandS (envOf [] top) PT
          case' none =>
           rw [hex] at HVA
           have HVA : Hid (Calls Tryz.prog 288 #[.pointer (some ⟨rb, 0, none⟩), .string PT, .slice none 0 0] wr fun e w' => e = .returned (.string ⟨#[]⟩) ∧ RRow (r'.failed 5 x.1) w' rb ∧ wr.grownBy w' (some rb)) := HVA
           have HBAD : Hid (pathsS (envOf [] top) MS t = .error .syn) := by
            rw [← HPO.out]; unfold pathS; rw [hex]; rfl
           clear hex
           go_wp2_with fail
           refine HVA.out.mono ?_
           rintro e w3 ⟨rfl, hr3, hg3⟩
           obtain ⟨r2, hr2⟩ : ∃ r2, r2 = r'.failed 5 x.1 := ⟨_, rfl⟩
           rw [← hr2] at hr3
           have HAT2 : Hid (RAt r2 w3 rb L x) := HAT.out.grown hg3 hr3 (by rw [hr2]; exact ⟨(RV.failed_vl _ _ _).1, (RV.failed_vl _ _ _).2.1⟩)
           have HFN : Hid (Calls Tryz.prog 283 #[.pointer (some ⟨rb, 0, none⟩), .int .i64 1] w3 fun e w' => e = .returned (.tuple #[]) ∧ RRow (r2.failed 1 x.1) w' rb ∧ w3.grownBy w' (some rb)) := rfail_any 1 HAT2.out.row HAT2.out.lines HAT2.out.at' HAT2.out.ne
           have HTW : Hid (r2.failed 1 x.1 = r2) := by rw [hr2]; exact RV.failed_twice H0.out (by decide)
           have HNA : Hid (∀ wx, Calls Tryz.prog 226 #[.string ⟨#[]⟩] wx fun e w' => e = .returned (.bool false) ∧ w' = wx) := fun wx => named_any ⟨#[]⟩ (by decide) wx
           have HR3 : Hid (RRow r2 w3 rb ∧ w.grownBy w3 (some rb)) := ⟨hr3, grown_more HRR.out.2 hg3 (fun k hk => Or.inr (Option.some.inj hk).symm)⟩
           have HP3 : Hid (RPathsAt w.heap.size w3 c (.slice (some ⟨g, 0, none⟩) nn cap) (.slice aop l.length cpp) (.slice aq nq cq) vs I l q) := HP.out.later hg3.size (fun k h1 hk => hg3.block k hk (fun e => by have h2 := Option.some.inj e; have h3 := HRB.out; omega))
           have HT2 : Hid (RTold (envOf [] top) MS t r' x.1 J I (l ++ [⟨#[]⟩]) q r2) := Or.inr ⟨.syn, hr2, HBAD.out⟩
           clear hr3 hg3 hr2 HVA c7 hslp
           go_wp2_with fail
           refine (HNA.out _).mono ?_
           rintro e w4 ⟨rfl, hw⟩
           rw [hw]
           clear hw w4
           go_wp2_with fail
           refine HFN.out.mono ?_
           rintro e w4 ⟨rfl, hr4, hg4⟩
           rw [HTW.out] at hr4
           have HR2' : Hid (RRow r2 w4 rb ∧ w.grownBy w4 (some rb)) := ⟨hr4, grown_more HR3.out.2 hg4 (fun k hk => Or.inr (Option.some.inj hk).symm)⟩
           have HP2' : Hid (RPathsAt w.heap.size w4 c (.slice (some ⟨g, 0, none⟩) nn cap) (.slice aop l.length cpp) (.slice aq nq cq) vs I l q) := HP3.out.later hg4.size (fun k h1 hk => hg4.block k hk (fun e => by have h2 := Option.some.inj e; have h3 := HRB.out; omega))
           clear hr4 hg4 HFN HR3 HP3 HAT2
           clear w3
           obtain ⟨w3, hw3e⟩ : ∃ w3, w3 = w4 := ⟨_, rfl⟩
           rw [← hw3e]
           have HR2 : Hid (RRow r2 w3 rb ∧ w.grownBy w3 (some rb)) := by rw [hw3e]; exact HR2'.out
           have HP2 : Hid (RPathsAt w.heap.size w3 c (.slice (some ⟨g, 0, none⟩) nn cap) (.slice aop l.length cpp) (.slice aq nq cq) vs I l q) := by rw [hw3e]; exact HP2'.out
           clear hw3e HR2' HP2'
           generalize (⟨#[]⟩ : ByteArray) = p at HT2 ⊢
          case' some p =>
           rw [hex] at HVA
           have HVA : Hid (Calls Tryz.prog 288 #[.pointer (some ⟨rb, 0, none⟩), .string PT, .slice none 0 0] wr fun e w' => e = .returned (.string p) ∧ w' = wr) := HVA
           have hps : p.size ≤ 8000 := by have := expandS_size hex; omega
           have HNA : Hid (∀ wx, Calls Tryz.prog 226 #[.string p] wx fun e w' => e = .returned (.bool (named p)) ∧ w' = wx) := fun wx => named_any p (by omega) wx
           have HEX : Hid (expandS (envOf [] top) PT = some p) := hex
           clear hex
           cases hnm : named p
           case' false =>
            have HOK : Hid (okName p = false) := by show _ = _; unfold okName; rw [hnm]; rfl
            rw [hnm] at HNA
            have HFN : Hid (Calls Tryz.prog 283 #[.pointer (some ⟨rb, 0, none⟩), .int .i64 1] wr fun e w' => e = .returned (.tuple #[]) ∧ RRow (r'.failed 1 x.1) w' rb ∧ wr.grownBy w' (some rb)) := rfail_any 1 HAT.out.row HAT.out.lines HAT.out.at' HAT.out.ne
            have HBAD : Hid (pathsS (envOf [] top) MS t = .error .nam) := by
             rw [← HPO.out]; unfold pathS; rw [HEX.out]; simp only; rw [if_neg (by rw [HOK.out]; decide)]; rfl
            go_wp2_with fail
            refine (HVA.out).mono ?_
            rintro e w3' ⟨rfl, hw⟩
            rw [hw]
            clear hw
            go_wp2_with fail
            refine (HNA.out _).mono ?_
            rintro e w3' ⟨rfl, hw⟩
            rw [hw]
            clear hw
            go_wp2_with fail
            refine HFN.out.mono ?_
            rintro e w3 ⟨rfl, hr3, hg3⟩
            obtain ⟨r2, hr2⟩ : ∃ r2, r2 = r'.failed 1 x.1 := ⟨_, rfl⟩
            have HR2 : Hid (RRow r2 w3 rb ∧ w.grownBy w3 (some rb)) := ⟨by rw [hr2]; exact hr3, grown_more HRR.out.2 hg3 (fun k hk => Or.inr (Option.some.inj hk).symm)⟩
            have HP2 : Hid (RPathsAt w.heap.size w3 c (.slice (some ⟨g, 0, none⟩) nn cap) (.slice aop l.length cpp) (.slice aq nq cq) vs I l q) := HP.out.later hg3.size (fun k h1 hk => hg3.block k hk (fun e => by have h2 := Option.some.inj e; have h3 := HRB.out; omega))
            have HT2 : Hid (RTold (envOf [] top) MS t r' x.1 J I (l ++ [p]) q r2) := Or.inr ⟨.nam, hr2, HBAD.out⟩
            clear hr3 hg3 hr2 HFN c7
           case' true =>
            by_cases hlg : p = tLog
            case' pos =>
             have HOK : Hid (okName p = false) := by show _ = _; unfold okName; rw [hlg]; decide
             rw [hnm] at HNA
             clear hnm
             subst hlg
             unfold tLog at HNA HVA HEX HOK hps
             have HFN : Hid (Calls Tryz.prog 283 #[.pointer (some ⟨rb, 0, none⟩), .int .i64 1] wr fun e w' => e = .returned (.tuple #[]) ∧ RRow (r'.failed 1 x.1) w' rb ∧ wr.grownBy w' (some rb)) := rfail_any 1 HAT.out.row HAT.out.lines HAT.out.at' HAT.out.ne
             have HBAD : Hid (pathsS (envOf [] top) MS t = .error .nam) := by
              rw [← HPO.out]; unfold pathS; rw [HEX.out]; simp only; rw [if_neg (by rw [HOK.out]; decide)]; rfl
             go_wp2_with fail
             refine (HVA.out).mono ?_
             rintro e w3' ⟨rfl, hw⟩
             rw [hw]
             clear hw
             go_wp2_with fail
             refine (HNA.out _).mono ?_
             rintro e w3' ⟨rfl, hw⟩
             rw [hw]
             clear hw
             go_wp2_with fail
             refine HFN.out.mono ?_
             rintro e w3 ⟨rfl, hr3, hg3⟩
             obtain ⟨r2, hr2⟩ : ∃ r2, r2 = r'.failed 1 x.1 := ⟨_, rfl⟩
             have HR2 : Hid (RRow r2 w3 rb ∧ w.grownBy w3 (some rb)) := ⟨by rw [hr2]; exact hr3, grown_more HRR.out.2 hg3 (fun k hk => Or.inr (Option.some.inj hk).symm)⟩
             have HP2 : Hid (RPathsAt w.heap.size w3 c (.slice (some ⟨g, 0, none⟩) nn cap) (.slice aop l.length cpp) (.slice aq nq cq) vs I l q) := HP.out.later hg3.size (fun k h1 hk => hg3.block k hk (fun e => by have h2 := Option.some.inj e; have h3 := HRB.out; omega))
             have HT2 : Hid (RTold (envOf [] top) MS t r' x.1 J I (l ++ [⟨#[46, 108, 111, 103]⟩]) q r2) := Or.inr ⟨.nam, hr2, HBAD.out⟩
             clear hr3 hg3 hr2 HFN c7
             generalize (⟨#[46, 108, 111, 103]⟩ : ByteArray) = p at HT2 ⊢
            case' neg =>
             by_cases hln : p = tLogNew
             case' pos =>
              have HOK : Hid (okName p = false) := by show _ = _; unfold okName; rw [hln]; decide
              rw [hnm] at HNA
              clear hnm hlg
              subst hln
              unfold tLogNew at HNA HVA HEX HOK hps
              have HFN : Hid (Calls Tryz.prog 283 #[.pointer (some ⟨rb, 0, none⟩), .int .i64 1] wr fun e w' => e = .returned (.tuple #[]) ∧ RRow (r'.failed 1 x.1) w' rb ∧ wr.grownBy w' (some rb)) := rfail_any 1 HAT.out.row HAT.out.lines HAT.out.at' HAT.out.ne
              have HBAD : Hid (pathsS (envOf [] top) MS t = .error .nam) := by
               rw [← HPO.out]; unfold pathS; rw [HEX.out]; simp only; rw [if_neg (by rw [HOK.out]; decide)]; rfl
              go_wp2_with fail
              refine (HVA.out).mono ?_
              rintro e w3' ⟨rfl, hw⟩
              rw [hw]
              clear hw
              go_wp2_with fail
              refine (HNA.out _).mono ?_
              rintro e w3' ⟨rfl, hw⟩
              rw [hw]
              clear hw
              go_wp2_with fail
              refine HFN.out.mono ?_
              rintro e w3 ⟨rfl, hr3, hg3⟩
              obtain ⟨r2, hr2⟩ : ∃ r2, r2 = r'.failed 1 x.1 := ⟨_, rfl⟩
              have HR2 : Hid (RRow r2 w3 rb ∧ w.grownBy w3 (some rb)) := ⟨by rw [hr2]; exact hr3, grown_more HRR.out.2 hg3 (fun k hk => Or.inr (Option.some.inj hk).symm)⟩
              have HP2 : Hid (RPathsAt w.heap.size w3 c (.slice (some ⟨g, 0, none⟩) nn cap) (.slice aop l.length cpp) (.slice aq nq cq) vs I l q) := HP.out.later hg3.size (fun k h1 hk => hg3.block k hk (fun e => by have h2 := Option.some.inj e; have h3 := HRB.out; omega))
              have HT2 : Hid (RTold (envOf [] top) MS t r' x.1 J I (l ++ [⟨#[46, 108, 111, 103, 46, 110, 101, 119]⟩]) q r2) := Or.inr ⟨.nam, hr2, HBAD.out⟩
              clear hr3 hg3 hr2 HFN c7
              generalize (⟨#[46, 108, 111, 103, 46, 110, 101, 119]⟩ : ByteArray) = p at HT2 ⊢
             case' neg =>
              have q1 : (p.toList == [46, 108, 111, 103]) = false := text_differ hlg
              have q2 : (p.toList == [46, 108, 111, 103, 46, 110, 101, 119]) = false := text_differ hln
              have HOK : Hid (okName p = true) := by show _ = _; unfold okName; rw [hnm, decide_eq_false hlg, decide_eq_false hln]; rfl
              rw [hnm] at HNA
              have HGO : Hid (pathsAt (envOf [] top) MS (t.extract J t.size) (addPath A p) = pathsS (envOf [] top) MS t) := by
               have h := HPO.out
               unfold pathS at h
               rw [HEX.out] at h
               simp only at h
               rw [if_pos HOK.out] at h
               exact h
              clear hnm hlg hln
              go_wp2_with fail
              refine (HVA.out).mono ?_
              rintro e w3' ⟨rfl, hw⟩
              rw [hw]
              clear hw
              go_wp2_with fail
              refine (HNA.out _).mono ?_
              rintro e w3' ⟨rfl, hw⟩
              rw [hw]
              clear hw
              obtain ⟨w3, hw3e⟩ : ∃ w3, w3 = wr := ⟨_, rfl⟩
              obtain ⟨r2, hr2⟩ : ∃ r2, r2 = r' := ⟨_, rfl⟩
              have HR2 : Hid (RRow r2 w3 rb ∧ w.grownBy w3 (some rb)) := by rw [hr2, hw3e]; exact HRR.out
              have HP2 : Hid (RPathsAt w.heap.size w3 c (.slice (some ⟨g, 0, none⟩) nn cap) (.slice aop l.length cpp) (.slice aq nq cq) vs I l q) := by rw [hw3e]; exact HP.out
              have HT2 : Hid (RTold (envOf [] top) MS t r' x.1 J I (l ++ [p]) q r2) := by rw [hr2]; exact RTold.path HA.out.1 HA.out.2.1 HA.out.2.2.1 HGO.out
              rw [← hw3e]
              clear hr2 hw3e c7
         all_goals
          have HPa : Hid (RPathsAt w.heap.size (w3.alloc (.cells #[.string p] 9)) c (.slice (some ⟨g, 0, none⟩) nn cap) (.slice aop l.length cpp) (.slice aq nq cq) vs I l q) := HP2.out.later (by simp) (fun k _ hk => heapA_old _ _ k hk)
          have hnn9 : nn ≤ 4001 := by have := HNS.out; omega
          have hll9 : l.length ≤ 4000 := by have := HLS.out l (by simp); omega
          have hw3 : w.heap.size ≤ w3.heap.size := HR2.out.2.size
          have HGA : Hid (w.grownBy (w3.alloc (.cells #[.string p] 9)) (some rb)) := grown_alloc HR2.out.2 _
          obtain ⟨VL, hVL⟩ : ∃ VL, VL = vs.length := ⟨_, rfl⟩
          have HVL : Hid (VL = vs.length) := hVL
          have hrc := row_cell (show w3.ownsRow w.heap.size 32 1 (.slice (some ⟨g, 0, none⟩) nn cap) nn (vs ++ [.slice aop l.length cpp]) by have h := HP2.out.rows; rw [← HNQ.out.1] at h; exact h) vs.length (.slice aop l.length cpp) (by simp)
          have cg : w3.cell? ⟨g, VL, none⟩ = some (.slice aop l.length cpp) := by rw [hVL]; exact hrc.1
          have hw0 : IntKind.i64.wrap ((nn : Int) - 1) = (VL : Int) := by rw [IntKind.wrap_i64]; have := HNQ.out.1; omega
          have v0 : (0 : Int) ≤ (VL : Int) := by omega
          have v1 : (VL : Int) < (nn : Int) := by have := HNQ.out.1; omega
          clear hVL hrc
          go_wp2_with (at_builtin; refine wpList_append_lies _ rfl (.tmp 163) (.tmp 165) 32 rfl w.heap.size 9 tj (.string ⟨#[]⟩) 1 16 Tryz.underlying32 HTJ.out.1 HTJ.out.2.2.2 HTJ.out.2.1 HTJ.out.2.2.1 rfl (by decide) _ l.length (l.map Value.string) rfl HPa.out.last ⟨w3.heap.size, 0, none⟩ 1 1 [.string p] rfl rfl (by exact newCells w3 _ _) (by intro u hu; simp only [List.mem_cons, List.not_mem_nil, or_false] at hu; subst hu; rfl) (by decide) (by unfold maxLen; omega) (by omega) (by simp; omega) _ rfl ?_; intro g7 cap7 w7 hv7 hg7 hat7 hlt7; refine Hid.out ?_)
          have hstl := HPa.out.still HNQ.out.1 hg7
          have HP7 : Hid (∃ c', RPathsAt w.heap.size (w7.setCell ⟨g, VL, none⟩ (.slice (some ⟨g7, 0, none⟩) (l.length + 1) cap7)) c' (.slice (some ⟨g, 0, none⟩) nn cap) (.slice (some ⟨g7, 0, none⟩) (l.length + 1) cap7) (.slice aq nq cq) vs I (l ++ [p]) q) := by
           rw [HVL.out]
           refine HPa.out.addPath HNQ.out.1 hg7 hv7 (fun k hk => ?_) (by simp; omega)
           have e : g7 = k := Option.some.inj hk
           subst e
           rcases hat7 with e2 | e2
           ·exact Or.inl e2
           ·right; rw [e2]; exact Nat.le_refl _
          have hgb := rblock HPa.out.rows g rfl
          have HR7 : Hid (RRow r2 (w7.setCell ⟨g, VL, none⟩ (.slice (some ⟨g7, 0, none⟩) (l.length + 1) cap7)) rb ∧ w.grownBy (w7.setCell ⟨g, VL, none⟩ (.slice (some ⟨g7, 0, none⟩) (l.length + 1) cap7)) (some rb)) := by
           have hbk : ∀ k, (Value.slice aop l.length cpp).ownBlock = some k → w.heap.size ≤ k := fun k hk => (rblock HPa.out.last k hk).1
           have h1 : w.grownBy w7 (some rb) := grown_more HGA.out hg7 (fun k hk => Or.inl (hbk k hk))
           have h2 : rb ≠ g := fun e => by have := hgb.1; have := HRB.out; omega
           refine ⟨?_, h1.os, h1.tape, h1.output, by have := h1.size; simpa using this, fun k hk hn => ?_⟩
           ·show (w7.setCell ⟨g, VL, none⟩ _).heap[rb]? = _
            rw [heap_setCell_other _ _ _ _ h2]
            exact (hg7.block rb (by simp; have := HRB.out; omega) (fun e => by have := hbk rb e.symm; have := HRB.out; omega)).trans ((heapA_old _ _ rb (by have := HRB.out; omega)).trans HR2.out.1)
           ·rw [heap_setCell_other _ _ _ _ (show k ≠ g from fun e => by have := hgb.1; omega)]
            exact h1.block k hk hn
          rw [← HVL.out] at hstl
          have cs7 := hstl.1
          have fs7 := hstl.2
          clear hv7 hg7 hat7 hlt7 HGA hstl hgb
          obtain ⟨c7', hc7'⟩ := HP7.out
          unfold Hid
          go_wp2_with fail
          refine ⟨⟨J, c7', g, nn, cap, .slice (some ⟨g7, 0, none⟩) (l.length + 1) cap7, aq, nq, cq, vs, I, l ++ [p], q, r2, rfl, rfl, rfl, HNQ.out.1, HNQ.out.2.1, HNQ.out.2.2, hc7', HR7.out.1, HR7.out.2, hJt, (fun y hy => by
           have hji := HJI.out.1
           rcases List.mem_append.1 hy with hy | hy
           ·have := HLS.out y (List.mem_append_left _ hy); omega
           ·obtain rfl := List.mem_singleton.1 hy
            have := HLS.out l (by simp)
            rw [List.length_append]; show _ + 1 + _ ≤ _; omega), by have := HNS.out; have := HJI.out.1; omega, HT2.out⟩, by have := HJI.out.1; simp [intOf]; omega⟩
    all_goals
     as_aux_lemma =>
      have HM : Hid (M = _) := hM
      clear hM
      first
       |
        have HBAD := HBAD
        have HFL : Hid (Calls Tryz.prog 283 #[.pointer (some ⟨rb, 0, none⟩), .int .i64 5] wr fun e w' => e = .returned (.tuple #[]) ∧ RRow (r'.failed 5 x.1) w' rb ∧ wr.grownBy w' (some rb)) := rfail_any 5 HAT.out.row HAT.out.lines HAT.out.at' HAT.out.ne
        go_wp2_with fail
        refine HFL.out.mono ?_
        rintro e w3 ⟨rfl, hr3, hg3⟩
        obtain ⟨r2, hr2⟩ : ∃ r2, r2 = r'.failed 5 x.1 := ⟨_, rfl⟩
        have HR2 : Hid (RRow r2 w3 rb ∧ w.grownBy w3 (some rb)) := ⟨by rw [hr2]; exact hr3, grown_more HRR.out.2 hg3 (fun k hk => Or.inr (Option.some.inj hk).symm)⟩
        have HP2 : Hid (RPathsAt w.heap.size w3 c (.slice (some ⟨g, 0, none⟩) nn cap) pv (.slice aq nq cq) vs I l q) := HP.out.later hg3.size (fun k h1 hk => hg3.block k hk (fun e => by have h2 := Option.some.inj e; have h3 := HRB.out; omega))
        have HT2 : Hid (RTold (envOf [] top) MS t r' x.1 (i + (M : ByteArray).size) (I ++ [l]) [] (q ++ [M]) r2) := Or.inr ⟨.syn, hr2, HBAD.out⟩
        clear hr3 hg3 hr2 HFL
       |
        have HGOOD := HGOOD
        obtain ⟨w3, hw3e⟩ : ∃ w3, w3 = wr := ⟨_, rfl⟩
        obtain ⟨r2, hr2⟩ : ∃ r2, r2 = r' := ⟨_, rfl⟩
        have HR2 : Hid (RRow r2 w3 rb ∧ w.grownBy w3 (some rb)) := by rw [hr2, hw3e]; exact HRR.out
        have HP2 : Hid (RPathsAt w.heap.size w3 c (.slice (some ⟨g, 0, none⟩) nn cap) pv (.slice aq nq cq) vs I l q) := by rw [hw3e]; exact HP.out
        have HT2 : Hid (RTold (envOf [] top) MS t r' x.1 (i + (M : ByteArray).size) (I ++ [l]) [] (q ++ [M]) r2) := by rw [hr2]; exact RTold.mark HA.out.1 HA.out.2.1 HA.out.2.2.1 HGOOD.out
        rw [← hw3e] at c7
        rw [← hw3e]
        clear hr2 hw3e
      have HPa : Hid (RPathsAt w.heap.size (w3.alloc (.cells #[.string M] 9)) c (.slice (some ⟨g, 0, none⟩) nn cap) pv (.slice aq nq cq) vs I l q) := HP2.out.later (by simp) (fun k _ hk => heapA_old _ _ k hk)
      have HSP : Hid ((w3.alloc (.cells #[.string M] 9)).ownsRow w.heap.size 9 1 (.slice aq nq cq) nq (q.map Value.string)) := by have h := HPa.out.seps; rw [← HNQ.out.2.1] at h; exact h
      have hnn9 : nn ≤ 4001 := by have := HNS.out; omega
      have hnq9 : nq ≤ 4001 := by have := HNQ.out; omega
      have hw3 : w.heap.size ≤ w3.heap.size := HR2.out.2.size
      have HGA : Hid (w.grownBy (w3.alloc (.cells #[.string M] 9)) (some rb)) := grown_alloc HR2.out.2 _
      go_wp2_with (at_builtin; rw [← HM.out]; refine wpList_append_lies _ rfl (.tmp 84) (.tmp 86) 32 rfl w.heap.size 9 tj (.string ⟨#[]⟩) 1 16 Tryz.underlying32 HTJ.out.1 HTJ.out.2.2.2 HTJ.out.2.1 HTJ.out.2.2.1 rfl (by decide) _ nq (q.map Value.string) rfl HSP.out ⟨w3.heap.size, 0, none⟩ 1 1 [.string M] rfl rfl (by exact newCells w3 _ _) (by intro u hu; simp only [List.mem_cons, List.not_mem_nil, or_false] at hu; subst hu; rfl) (by decide) (by unfold maxLen; omega) (by omega) (by simp; omega) _ rfl ?_; intro g7 cap7 w7 hv7 hg7 hat7 hlt7; refine Hid.out ?_)
      have HP7 : Hid (∃ c', RPathsAt w.heap.size w7 c' (.slice (some ⟨g, 0, none⟩) nn cap) pv (.slice (some ⟨g7, 0, none⟩) (nq + 1) cap7) vs I l (q ++ [M])) := by
       refine HPa.out.addSep hg7 (by rw [← HNQ.out.2.1]; exact hv7) (fun k hk => ?_) (by simp; omega)
       have e : g7 = k := Option.some.inj hk
       subst e
       rcases hat7 with e2 | e2
       ·exact Or.inl e2
       ·right; rw [e2]; exact Nat.le_refl _
      have HR7 : Hid (RRow r2 w7 rb ∧ w.grownBy w7 (some rb)) := by
       have hbk : ∀ k, (Value.slice aq nq cq).ownBlock = some k → w.heap.size ≤ k := fun k hk => (rblock HSP.out k hk).1
       refine ⟨(hg7.block rb (by simp; have := HRB.out; omega) (fun e => by have := hbk rb e.symm; have := HRB.out; omega)).trans ((heapA_old _ _ rb (by have := HRB.out; omega)).trans HR2.out.1), grown_more HGA.out hg7 (fun k hk => Or.inl (hbk k hk))⟩
      clear hv7 hg7 hat7 hlt7 HGA HSP HPa
      obtain ⟨c7', hc7'⟩ := HP7.out
      have HP7 : Hid (RPathsAt w.heap.size w7 c7' (.slice (some ⟨g, 0, none⟩) nn cap) pv (.slice (some ⟨g7, 0, none⟩) (nq + 1) cap7) vs I l (q ++ [M])) := hc7'
      clear hc7'
      unfold Hid
      have HPb : Hid (RPathsAt w.heap.size (w7.alloc (.cells #[.slice none 0 0] 32)) c7' (.slice (some ⟨g, 0, none⟩) nn cap) pv (.slice (some ⟨g7, 0, none⟩) (nq + 1) cap7) vs I l (q ++ [M])) := HP7.out.later (by simp) (fun k _ hk => heapA_old _ _ k hk)
      have HSR : Hid ((w7.alloc (.cells #[.slice none 0 0] 32)).ownsRow w.heap.size 32 1 (.slice (some ⟨g, 0, none⟩) nn cap) nn (vs ++ [pv])) := by have h := HPb.out.rows; rw [← HNQ.out.1] at h; exact h
      have hw7 : w.heap.size ≤ w7.heap.size := HR7.out.2.size
      have HGB : Hid (w.grownBy (w7.alloc (.cells #[.slice none 0 0] 32)) (some rb)) := grown_alloc HR7.out.2 _
      go_wp2_with (at_builtin; refine wpList_append_lies _ rfl (.tmp 88) (.tmp 89) 410 rfl w.heap.size 32 ti (.slice none 0 0) 1 24 Tryz.underlying410 HTI.out.1 HTI.out.2.2.2 HTI.out.2.1 HTI.out.2.2.1 rfl (by decide) _ nn (vs ++ [pv]) rfl HSR.out ⟨w7.heap.size, 0, none⟩ 1 1 [.slice none 0 0] rfl rfl (by exact newCells w7 _ _) (by intro u hu; simp only [List.mem_cons, List.not_mem_nil, or_false] at hu; subst hu; rfl) (by decide) (by unfold maxLen; omega) (by omega) (by simp; omega) _ rfl ?_; intro g8 cap8 w8 hv8 hg8 hat8 hlt8; refine Hid.out ?_)
      have HP8 : Hid (∃ c', RPathsAt w.heap.size w8 c' (.slice (some ⟨g8, 0, none⟩) (nn + 1) cap8) (.slice none 0 0) (.slice (some ⟨g7, 0, none⟩) (nq + 1) cap7) (vs ++ [pv]) (I ++ [l]) [] (q ++ [M])) := by
       refine HPb.out.addRow hg8 (by rw [← HNQ.out.1]; exact hv8) (fun k hk => ?_) (by simp; omega)
       have e : g8 = k := Option.some.inj hk
       subst e
       rcases hat8 with e2 | e2
       ·exact Or.inl e2
       ·right; rw [e2]; exact Nat.le_refl _
      have HR8 : Hid (RRow r2 w8 rb ∧ w.grownBy w8 (some rb)) := by
       have hbk : ∀ k, (Value.slice (some ⟨g, 0, none⟩) nn cap).ownBlock = some k → w.heap.size ≤ k := fun k hk => (rblock HSR.out k hk).1
       refine ⟨(hg8.block rb (by simp; have := HRB.out; omega) (fun e => by have := hbk rb e.symm; have := HRB.out; omega)).trans ((heapA_old _ _ rb (by have := HRB.out; omega)).trans HR7.out.1), grown_more HGB.out hg8 (fun k hk => Or.inl (hbk k hk))⟩
      clear hv8 hg8 hat8 hlt8 HGB HSR HPb HP7 HR7
      obtain ⟨c8', hc8'⟩ := HP8.out
      unfold Hid
      go_wp2_with fail
      refine ⟨⟨i + (M : ByteArray).size, c8', g8, nn + 1, cap8, .slice none 0 0, some ⟨g7, 0, none⟩, nq + 1, cap7, vs ++ [pv], I ++ [l], [], q ++ [M], r2, by simp only [tsz]; go_num, rfl, rfl, by rw [List.length_append, HNQ.out.1]; rfl, by rw [List.length_append, HNQ.out.2.1]; rfl, by rw [List.length_append, List.length_append, HNQ.out.2.2]; rfl, hc8', HR8.out.1, HR8.out.2, by rw [tsz]; omega, (fun y hy => by
       rw [tsz]
       rcases List.mem_append.1 hy with hy | hy
       ·have := HLS.out y hy; omega
       ·obtain rfl := List.mem_singleton.1 hy; show 0 + _ ≤ _; have := HT4.out; omega), by rw [tsz]; have := HNS.out; omega, HT2.out⟩, by simp [intOf]; omega⟩
   ·have i1 : decide ((i : Int) < (t.size : Int)) = false := decide_eq_false (by omega)
    have i2 : ¬ (i : Int) < (t.size : Int) := by omega
    have HFIN := HEND.out (Or.inl ⟨rfl, A, hA, hA1, hA2, by rw [← hA3]; exact rp_end _ _ _ _ _ (by omega)⟩)
    have HFIN : Hid (RPathsEnd (envOf [] top) MS t r' x.1 rb w (.returned (.tuple #[.slice (some ⟨g, 0, none⟩) nn cap, .slice aq nq cq])) wr) := HFIN
    clear hA3
    go_wp2_with fail
    go_ret2
    exact HFIN.out
  ·have hre : r'.e = ((badK b : Nat) : Int) + 1 := by rw [hb]; exact RV.failed_e H0.out
   have HFIN : Hid (RPathsEnd (envOf [] top) MS t r x.1 rb w (.returned (.tuple #[.slice (some ⟨g, 0, none⟩) nn cap, .slice aq nq cq])) wr) := HEND.out (Or.inr ⟨b, hb, hb2⟩)
   rw [hre] at c7
   have e1 : (((badK b : Nat) : Int) + 1 == 0) = false := by simp; omega
   clear hb hb2 hre
   by_cases hi : i < t.size
   ·have i1 : decide ((i : Int) < (t.size : Int)) = true := decide_eq_true (by omega)
    have i2 : (i : Int) < (t.size : Int) := by omega
    go_wp2_with fail
    go_ret2
    exact HFIN.out
   ·have i1 : decide ((i : Int) < (t.size : Int)) = false := decide_eq_false (by omega)
    have i2 : ¬ (i : Int) < (t.size : Int) := by omega
    go_wp2_with fail
    go_ret2
    exact HFIN.out
end Go.Proofs.YthhbpebihgjpjaaGreatDoor
