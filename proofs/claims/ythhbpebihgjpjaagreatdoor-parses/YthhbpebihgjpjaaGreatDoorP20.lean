import Derived.Test.YthhbpebihgjpjaaGreatDoorP17
import Derived.Test.YthhbpebihgjpjaaGreatDoorP19
import Derived.BigRegion
import Derived.Deep.RegionHeld3
namespace Go.Proofs.YthhbpebihgjpjaaGreatDoor
open Go.RowKit Go.Maps
set_option maxRecDepth 1000000

theorem stmtS_rules {S : St} {no : Nat} {t : ByteArray} {rest : List Line} {S' : St} {rest' : List Line} (h : stmtS S no t rest = .ok (S', rest')) (ht : t.size ≤ 4000) (hS : ∀ e ∈ S.edges, e.rule.size ≤ 4000) : ∀ e ∈ S'.edges, e.rule.size ≤ 4000 := by
 unfold stmtS at h
 split at h
 ·cases h
 ·split at h
  ·unfold ruleS at h
   split at h
   ·cases h
   ·split at h
    ·cases h
    ·split at h
     ·cases h
     ·split at h
      ·cases h
      ·split at h
       ·cases h
       ·split at h
        ·cases h
        ·injection h with h
         obtain ⟨rfl, _⟩ := Prod.mk.inj h
         exact hS
  ·split at h
   ·unfold buildS at h
    split at h
    ·cases h
    ·split at h
     ·cases h
     ·split at h
      ·cases h
      ·split at h
       ·cases h
       ·split at h
        ·cases h
        ·injection h with h
         obtain ⟨rfl, _⟩ := Prod.mk.inj h
         intro e he
         rcases List.mem_append.1 he with he | he
         ·exact hS e he
         ·obtain rfl := List.mem_singleton.1 he
          show (headB _).size ≤ 4000
          have hw : ∀ u : ByteArray, (headB u).size ≤ u.size := fun u => by rw [headB_size]; exact spanLen_le _ _
          refine Nat.le_trans (hw _) (Nat.le_trans (leftB_le _) ?_)
          rw [ByteArray.size_extract, ByteArray.size_extract]
          omega
   ·split at h
    ·unfold defaultS at h
     split at h
     ·cases h
     ·split at h
      ·cases h
      ·injection h with h
       obtain ⟨rfl, _⟩ := Prod.mk.inj h
       exact hS
    ·unfold varS at h
     split at h
     ·cases h
     ·split at h
      ·cases h
      ·injection h with h
       obtain ⟨rfl, _⟩ := Prod.mk.inj h
       exact hS
def ManAt (W0 : Nat) (S : St) (cs : List ByteArray) (mb : Nat) (w : World) : Prop :=
 ∃ ev dv ds, w.heap[mb]? = some (.cells #[ev, dv] 101 (0, 0)) ∧ w.ownsRow W0 63 6 ev S.edges.length (ecells ds cs) ∧ ds.length = S.edges.length ∧ cs.length = S.edges.length ∧ (∀ (k : Nat) d e, ds[k]? = some d → S.edges[k]? = some e → TextsAt w d.vo e.outs ∧ TextsAt w d.vi e.ins ∧ TextsAt w d.vm e.impl ∧ TextsAt w d.vr e.ord ∧ d.rule = e.rule) ∧ TextsAt w dv S.defs
def ManK (W0 : Nat) (S : St) (cs : List ByteArray) (mb : Nat) (w : World) : Prop := ∀ w'', w.heap.size ≤ w''.heap.size → (∀ k, W0 ≤ k → k < w.heap.size → w''.heap[k]? = w.heap[k]?) → ManAt W0 S cs mb w''
theorem ManK.now {W0 : Nat} {S : St} {cs : List ByteArray} {mb : Nat} {w : World} (h : ManK W0 S cs mb w) : ManAt W0 S cs mb w := h w (Nat.le_refl _) (fun _ _ _ => rfl)
theorem ManK.below {W0 : Nat} {S : St} {cs : List ByteArray} {mb : Nat} {w w' : World} (h : ManK W0 S cs mb w) (hb : Below w.heap.size w w') : ManK W0 S cs mb w' := fun w'' hs hk => h w'' (Nat.le_trans hb.size hs) (fun k h1 h2 => (hk k h1 (Nat.lt_of_lt_of_le h2 hb.size)).trans (hb.block k h2))
def manEnd (a : Nat → Addr) (W0 : Nat) (r : Except (Bad × Nat) (St × List ByteArray)) (e : Ending) (w' : World) : Prop := match r with
 | .error bk => ∃ fb, e = .returned (.tuple #[.pointer none, .iface 129 (.pointer (some ⟨fb, 0, none⟩))]) ∧ w'.cell? ⟨fb, 0, none⟩ = some (.int .i64 (bk.2 : Nat)) ∧ w'.cell? ⟨fb, 1, none⟩ = some (reasonV a (badK bk.1))
 | .ok Sc => ∃ mb, e = .returned (.tuple #[.pointer (some ⟨mb, 0, none⟩), .nilIface]) ∧ ManK W0 Sc.1 Sc.2 mb w' ∧ SOk Sc.1 0 []
def StmtDone : Prop := ∀ (p : PV) (a : Nat → Addr) (B : Nat) (w : World) (rb : Nat) (n : Int) (x : Line) (rest : List Line) (S : St) (m : Nat), PStC p a B w rb n (x :: rest) S (m + 1) → Calls Tryz.prog 114 #[.pointer (some ⟨rb, 0, none⟩)] w (stmtEnd a B rb m w (stmtS S x.1 x.2 rest))
theorem parse_is (t : ByteArray) (ht : t.size ≤ 4000) : parseS t = match runAll St.none (saidS t) with
  | .error e => .error e
  | .ok S => match commandsS S S.edges with
    | .none => .error (.syn, 0)
    | some cs => .ok (S, cs) := by
 unfold parseS runAll
 rw [if_neg (by omega)]
 rfl
theorem man_door {a : Nat → Addr} {w w1 w8 : World} {t : ByteArray} {b : Nat} {bk : Bad × Nat} {T : Array Value} (hT2 : T[2]? = some (.pointer none)) (hT3 : T[3]? = some (.pointer (some ⟨w.heap.size, 0, none⟩))) (hWS : Below w.heap.size w w1) (hRZ : w1.heap.size = w.heap.size + 1) (hRN : w1.heap[w.heap.size]? = some (.cells #[.nilIface] 70 (0, 0))) (hB8 : Below w1.heap.size w1 w8) (s0 : w8.cell? ⟨b, 0, none⟩ = some (.int .i64 (bk.2 : Nat))) (s1 : w8.cell? ⟨b, 1, none⟩ = some (reasonV a (badK bk.1))) (hF : parseS t = .error bk) :
  bodyPostD Tryz.prog Tryz.f66 (fun e w' => manEnd a w.heap.size (parseS t) e w' ∧ Below w.heap.size w w') (Exit.panic [{ v := .iface 129 (.pointer (some ⟨b, 0, none⟩)), recovered := false }]) { tmps := T, defers := [{ target := Target.fn (Fn.func 110) #[.pointer (some ⟨w.heap.size, 0, none⟩)], args := #[] }] } w8 := by
 have HWS : Hid (Below w.heap.size w w1) := hWS
 have HRZ : Hid (w1.heap.size = w.heap.size + 1) := hRZ
 have HRN : Hid (w1.heap[w.heap.size]? = some (.cells #[.nilIface] 70 (0, 0))) := hRN
 have HB8 : Hid (Below w1.heap.size w1 w8) := hB8
 have hrz := HRZ.out
 have HE8 : w8.heap[w.heap.size]? = some (.cells #[.nilIface] 70 (0, 0)) := (HB8.out.block _ (by omega)).trans HRN.out
 have hce : w8.cell? ⟨w.heap.size, 0, none⟩ = some .nilIface := by rw [cell_of_row _ _ _ _ _ _ HE8]; rfl
 have hne : b ≠ w.heap.size := fun e => by rw [e, hce] at s0; cases s0
 have q0 : (w8.setCell ⟨w.heap.size, 0, none⟩ (.iface 129 (.pointer (some ⟨b, 0, none⟩)))).cell? ⟨b, 0, none⟩ = _ := (World.cell?_of_block (w := w8) (a := ⟨b, 0, none⟩) (heap_setCell_other _ _ _ _ hne)).trans s0
 have q1 : (w8.setCell ⟨w.heap.size, 0, none⟩ (.iface 129 (.pointer (some ⟨b, 0, none⟩)))).cell? ⟨b, 1, none⟩ = _ := (World.cell?_of_block (w := w8) (a := ⟨b, 1, none⟩) (heap_setCell_other _ _ _ _ hne)).trans s1
 have qe : (w8.setCell ⟨w.heap.size, 0, none⟩ (.iface 129 (.pointer (some ⟨b, 0, none⟩)))).cell? ⟨w.heap.size, 0, none⟩ = some (.iface 129 (.pointer (some ⟨b, 0, none⟩))) := by
  rw [cell_of_row _ _ _ _ _ _ (heap_setCell_same _ _ _ _ _ _ HE8)]; rfl
 have HBF : Hid (Below w.heap.size w (w8.setCell ⟨w.heap.size, 0, none⟩ (.iface 129 (.pointer (some ⟨b, 0, none⟩))))) := (HWS.out.trans (HB8.out.mono HWS.out.size)).setCell (p := ⟨w.heap.size, 0, none⟩) (Nat.le_refl _) _
 refine leaves_cons (f := 110) (args := #[.pointer (some ⟨w.heap.size, 0, none⟩)]) (by simp) (by simp [go_sem]) ?_
 refine (catch_panicking ⟨w.heap.size, 0, none⟩ b .nilIface w8 hce (frozen_of_row _ _ _ _ _ HE8)).mono ?_
 rintro e u' w9 ⟨rfl, rfl, rfl⟩
 simp [Leaves, settle, results, Tryz.results66, go_sem, qe, hT2, hT3]
 rw [hF]
 exact ⟨⟨b, rfl, q0, q1⟩, HBF.out⟩
theorem commands_length {S : St} : ∀ {es : List EdgeS} {cs : List ByteArray}, commandsS S es = some cs → cs.length = es.length
 | [], cs, h => by rw [commandsS] at h; obtain rfl := Option.some.inj h; rfl
 | e :: es, cs, h => by
  rw [commandsS] at h
  split at h
  ·cases h
  ·obtain ⟨cs', h1, rfl⟩ := Option.map_eq_some_iff.1 h
   rw [List.length_cons, List.length_cons, commands_length h1]
set_option maxHeartbeats 8000000 in
theorem readManifest_any (hSD : StmtDone) (t : ByteArray) (a : Nat → Addr) (w : World) (hg : Gl a w) (ht : t.size ≤ 140737488351232) :
  Calls Tryz.prog 66 #[.string t] w fun e w' => manEnd a w.heap.size (parseS t) e w' ∧ Below w.heap.size w w' := by
 have hmf : ∀ (fn : Fn) (first cap : Array Value) (w : World), (Instr.makeFunc fn first cap).run Tryz.prog w = .ok (.func fn first cap) w := fun _ _ _ _ => rfl
 have hmm := @run_makeMap Tryz.prog
 have HG : Hid (Gl a w) := hg
 have HSD : Hid StmtDone := hSD
 have HWS : Hid (Below w.heap.size w (w.alloc (.cells #[.nilIface] 70))) := (Below.refl _ _).alloc (Nat.le_refl _) _
 have HRN : Hid ((w.alloc (.cells #[.nilIface] 70)).heap[w.heap.size]? = some (.cells #[.nilIface] 70 (0, 0))) := heapA_new _ _ _ rfl
 have HRZ : Hid ((w.alloc (.cells #[.nilIface] 70)).heap.size = w.heap.size + 1) := by show _ = _; simp
 have HG1 : Hid (Gl a (w.alloc (.cells #[.nilIface] 70))) := hg.keep (by simp) (fun k hk => heapA_old _ _ k (Nat.lt_of_lt_of_le hk hg.size))
 clear hSD hg
 go_enter_defers Tryz.func66, Tryz.ntmps66
 go_wp2_with fail
 obtain ⟨w1, hw1⟩ : ∃ w1, w1 = w.alloc (.cells #[.nilIface] 70) := ⟨_, rfl⟩
 rw [← hw1] at HWS HRN HRZ HG1
 rw [← hw1]
 clear hw1
 refine (newScope_any (.pointer none) ⟨_, rfl⟩ w1).mono ?_
 rintro e w2 ⟨sb, tb, rfl, hs2, hm2, ht2, ht3, hb2⟩
 have HS2 : Hid (w2.heap[sb]? = some (.cells #[.map (some tb), .pointer none] 302 (0, 0)) ∧ BMap w2 tb 0 [] ∧ w1.heap.size ≤ tb ∧ tb < sb ∧ Below w1.heap.size w1 w2) := ⟨hs2, hm2, ht2, ht3, hb2⟩
 obtain ⟨w3, hw3⟩ : ∃ w3, w3 = ((w2.alloc (.map #[] 0)).alloc (.map #[] 0)).alloc (.cells #[.int .i64 0, .slice none 0 0, .pointer (some ⟨sb, 0, none⟩), .map (some w2.heap.size), .map (some (w2.heap.size + 1)), .slice none 0 0, .slice none 0 0] 201) := ⟨_, rfl⟩
 have HB3 : Hid (Below w2.heap.size w2 w3) := by rw [hw3]; exact (((Below.refl _ _).alloc (Nat.le_refl _) _).alloc (by simp) _).alloc (by simp; omega) _
 have HR3 : Hid (w3.heap[w2.heap.size + 2]? = some (.cells #[.int .i64 0, .slice none 0 0, .pointer (some ⟨sb, 0, none⟩), .map (some w2.heap.size), .map (some (w2.heap.size + 1)), .slice none 0 0, .slice none 0 0] 201 (0, 0))) := by rw [hw3]; exact heapA_new _ _ _ (by simp)
 have HW3 : Hid (w3 = ((w2.alloc (.map #[] 0)).alloc (.map #[] 0)).alloc (.cells #[.int .i64 0, .slice none 0 0, .pointer (some ⟨sb, 0, none⟩), .map (some w2.heap.size), .map (some (w2.heap.size + 1)), .slice none 0 0, .slice none 0 0] 201)) := hw3
 have HB13 : Hid (Below w1.heap.size w1 w3) := hb2.trans (HB3.out.mono hb2.size)
 have HG3 : Hid (Gl a w3) := HG1.out.below HB13.out HG1.out.size
 have c34 : w3.cell? ⟨4, 0, none⟩ = some (.iface 472 (.pointer (some (a 4)))) := HG3.out.errs 4 (by decide)
 have c30 : w3.cell? ⟨w2.heap.size + 2, 0, none⟩ = some (.int .i64 0) := by rw [cell_of_row _ _ _ _ _ _ HR3.out]; rfl
 clear hs2 hm2 ht2 ht3 hb2
 by_cases h4 : t.size ≤ 4000
 ·have HPI : Hid (parseS t = _) := parse_is t h4
  have HSK := said_ok t
  have HSK : Hid ((saidS t).length ≤ 4001 ∧ ∀ x ∈ saidS t, x.2.size ≤ 4000) := ⟨by omega, fun x hx => by have := HSK.2 x hx; omega⟩
  have HLN := linesOf_any t (by omega) a w3 HG3.out
  have t4 : (t.size : Int) ≤ 4000 := by omega
  clear h4
  generalize saidS t = LS at *
  rw [hw3] at c34
  go_wp2_with fail
  rw [← hw3]
  refine (need_yes _ _ _).mono ?_
  rintro e w3' ⟨rfl, hw⟩
  rw [hw]
  clear hw c34 hw3
  obtain ⟨rb, hrb⟩ : ∃ rb, rb = w2.heap.size + 1 + 1 := ⟨_, rfl⟩
  rw [← hrb]
  have HRB : Hid (rb = w2.heap.size + 2) := hrb
  have c31 : w3.cell? ⟨rb, 1, none⟩ = some (.slice none 0 0) := by rw [hrb, cell_of_row _ _ _ _ _ _ HR3.out]; rfl
  have hrw : rb < w3.heap.size := by rw [hrb]; exact heap_lt HR3.out
  have HRW : Hid (w3.heap[rb]? = some (.cells #[.int .i64 0, .slice none 0 0, .pointer (some ⟨sb, 0, none⟩), .map (some w2.heap.size), .map (some (w2.heap.size + 1)), .slice none 0 0, .slice none 0 0] 201 (0, 0))) := by rw [hrb]; exact HR3.out
  clear hrb c30
  go_wp2_with fail
  refine HLN.mono ?_
  rintro e w4 ⟨v4, rfl, hl4, hb4⟩
  obtain ⟨ao4, cap4, rfl, _, _⟩ := row_form hl4
  have HST := state_start (B := w1.heap.size) (w := w1) HG1.out (by have h1 := HG.out.size; have h2 := HRZ.out; omega) (Nat.le_refl _) HS2.out.1 HS2.out.2.1 ⟨HS2.out.2.2.1, HS2.out.2.2.2.1⟩ HS2.out.2.2.2.2 (by rw [← HW3.out]; exact hl4) (by rw [← HW3.out]; exact hb4) HSK.out.2 (by have := HSK.out.1; omega)
  rw [← HRB.out] at HST
  have HST1 : Hid (∃ p, PStC p a w1.heap.size (w4.setCell ⟨rb, 1, none⟩ (.slice ao4 LS.length cap4)) rb (0 : Nat) LS St.none 5000) := HST
  have c41 : w4.cell? ⟨rb, 1, none⟩ = some (.slice none 0 0) := (hb4.cell (p := ⟨rb, 1, none⟩) hrw).trans c31
  have f41 : w4.frozen? ⟨rb, 1, none⟩ = false := frozen_of_row _ _ _ _ _ ((hb4.block _ hrw).trans HRW.out)
  have HRL : Hid (w1.heap.size ≤ rb) := by have h1 := HRB.out; have h2 := HS2.out.2.2.2.2.size; show _ ≤ _; omega
  have HB4 : Hid (Below w1.heap.size w1 (w4.setCell ⟨rb, 1, none⟩ (.slice ao4 LS.length cap4))) := (HB13.out.trans (hb4.mono HB13.out.size)).setCell (p := ⟨rb, 1, none⟩) HRL.out _
  clear hl4 hb4 HST c31 HLN HRW hrw HW3 HR3 HB3 HS2 HG3 HB13
  go_wp2_with fail
  generalize w4.setCell ⟨rb, 1, none⟩ (.slice ao4 LS.length cap4) = w5 at *
  clear c41 f41
  go_loopw [] (fun wr => ∃ (p : PV) (n : Int) (S : St) (ls : List Line) (m : Nat), PStC p a w1.heap.size wr rb n ls S m ∧ ls.length ≤ m ∧ runAll S ls = runAll St.none LS ∧ (∀ e ∈ S.edges, e.rule.size ≤ 4000) ∧ Below w1.heap.size w1 wr) (fun wr => lenVP (wr.cell? ⟨rb, 1, none⟩))
  case atStart =>
   obtain ⟨p, hp⟩ := HST1.out
   exact ⟨p, _, _, _, 5000, hp, by have := HSK.out.1; omega, rfl, (fun e he => by cases he), HB4.out⟩
  case round =>
   obtain ⟨p, n, S, ls, m, hp, hlm, hrun, hru, hbl⟩ := hrel
   have HP : Hid (PStC p a w1.heap.size wr rb n ls S m) := hp
   have HRUN : Hid (runAll S ls = runAll St.none LS) := hrun
   have HRU : Hid (∀ e ∈ S.edges, e.rule.size ≤ 4000) := hru
   have HBL : Hid (Below w1.heap.size w1 wr) := hbl
   obtain ⟨aol, capl, hvl, _, _⟩ := hp.const.now.1
   have c1 : wr.cell? ⟨rb, 1, none⟩ = some (.slice aol ls.length capl) := by rw [cell_of_row _ _ _ _ _ _ hp.row]; exact congrArg some hvl
   clear hp hrun hru hbl hvl
   cases ls with
   | cons x rest =>
    obtain ⟨m', rfl⟩ : ∃ m', m = m' + 1 := ⟨m - 1, by rw [List.length_cons] at hlm; omega⟩
    have HLE : Hid (lenVP (wr.cell? ⟨rb, 1, none⟩) = rest.length + 1) := by rw [c1]; rfl
    have HRS := HSD.out p a w1.heap.size wr rb n x rest S m' HP.out
    have l0 : (0 : Int) < ((x :: rest).length : Int) := by rw [List.length_cons]; omega
    have hlm2 : rest.length ≤ m' := by rw [List.length_cons] at hlm; omega
    generalize (x :: rest).length = LL at *
    go_wp2_with fail
    refine HRS.mono ?_
    intro e w8 hend
    have HRC := (runAll_cons S x rest).symm.trans HRUN.out
    cases hss : stmtS S x.1 x.2 rest with
    | error bk =>
     rw [hss] at hend HRC
     obtain ⟨⟨b, rfl, s0, s1⟩, hb8⟩ := hend
     have HF : Hid (parseS t = .error bk) := by rw [HPI.out, ← HRC]; rfl
     have HB8 : Hid (Below w1.heap.size w1 w8) := HBL.out.trans hb8
     have hrz := HRZ.out
     have HE8 : w8.heap[w.heap.size]? = some (.cells #[.nilIface] 70 (0, 0)) := (HB8.out.block _ (by omega)).trans HRN.out
     have hce : w8.cell? ⟨w.heap.size, 0, none⟩ = some .nilIface := by rw [cell_of_row _ _ _ _ _ _ HE8]; rfl
     have hne : b ≠ w.heap.size := fun e => by rw [e, hce] at s0; cases s0
     have q0 : (w8.setCell ⟨w.heap.size, 0, none⟩ (.iface 129 (.pointer (some ⟨b, 0, none⟩)))).cell? ⟨b, 0, none⟩ = _ := (World.cell?_of_block (w := w8) (a := ⟨b, 0, none⟩) (heap_setCell_other _ _ _ _ hne)).trans s0
     have q1 : (w8.setCell ⟨w.heap.size, 0, none⟩ (.iface 129 (.pointer (some ⟨b, 0, none⟩)))).cell? ⟨b, 1, none⟩ = _ := (World.cell?_of_block (w := w8) (a := ⟨b, 1, none⟩) (heap_setCell_other _ _ _ _ hne)).trans s1
     have qe : (w8.setCell ⟨w.heap.size, 0, none⟩ (.iface 129 (.pointer (some ⟨b, 0, none⟩)))).cell? ⟨w.heap.size, 0, none⟩ = some (.iface 129 (.pointer (some ⟨b, 0, none⟩))) := by
      rw [cell_of_row _ _ _ _ _ _ (heap_setCell_same _ _ _ _ _ _ HE8)]; rfl
     have HBF : Hid (Below w.heap.size w (w8.setCell ⟨w.heap.size, 0, none⟩ (.iface 129 (.pointer (some ⟨b, 0, none⟩))))) := (HWS.out.trans (HB8.out.mono HWS.out.size)).setCell (p := ⟨w.heap.size, 0, none⟩) (Nat.le_refl _) _
     refine leaves_cons (f := 110) (args := #[.pointer (some ⟨w.heap.size, 0, none⟩)]) (by simp) (by simp [go_sem]) ?_
     refine (catch_panicking ⟨w.heap.size, 0, none⟩ b .nilIface w8 hce (frozen_of_row _ _ _ _ _ HE8)).mono ?_
     rintro e u' w9 ⟨rfl, rfl, rfl⟩
     simp [Leaves, settle, results, Tryz.results66, go_sem, qe]
     rw [HF.out]
     exact ⟨⟨b, rfl, q0, q1⟩, HBF.out⟩
    | ok Sr =>
     rw [hss] at hend HRC
     obtain ⟨rfl, ⟨p', n', hp'⟩, hb8⟩ := hend
     have hr := stmtS_rest (S' := Sr.1) (rest' := Sr.2) hss
     have HNX : Hid (∃ (p : PV) (n : Int) (S : St) (ls : List Line) (m : Nat), PStC p a w1.heap.size w8 rb n ls S m ∧ ls.length ≤ m ∧ runAll S ls = runAll St.none LS ∧ (∀ e ∈ S.edges, e.rule.size ≤ 4000) ∧ Below w1.heap.size w1 w8) := ⟨p', n', Sr.1, Sr.2, m', hp', by omega, HRC, stmtS_rules (S' := Sr.1) (rest' := Sr.2) hss (HP.out.ok.lines x List.mem_cons_self) HRU.out, HBL.out.trans hb8⟩
     have HLN8 : Hid (lenVP (w8.cell? ⟨rb, 1, none⟩) = Sr.2.length) := by
      show _ = _
      obtain ⟨ao, cap, hv, _, _⟩ := hp'.const.now.1
      rw [cell_of_row _ _ _ _ _ _ hp'.row]
      show lenVP (some p'.vl) = _
      rw [hv]; rfl
     clear hp' hb8 hss HRC HRS
     go_wp2_with fail
     refine ⟨HNX.out, ?_⟩
     rw [HLN8.out, HLE.out]
     omega
   | nil =>
    have HOK : Hid (parseS t = match commandsS S S.edges with
     | .none => .error (.syn, 0)
     | some cs => .ok (S, cs)) := by
     rw [HPI.out, ← HRUN.out, runAll_nil]; rfl
    simp only [List.length_nil] at c1
    have c0 := HP.out.at0
    have f0 : wr.frozen? ⟨rb, 0, none⟩ = false := frozen_of_row _ _ _ _ _ HP.out.row
    have HP0 : Hid (PStB p a w1.heap.size (wr.setCell ⟨rb, 0, none⟩ (.int .i64 0)) rb (0 : Nat) [] S m) := by
     refine PStB.turn (p' := p) (vl' := p.vl) HP.out.toPStB ⟨rfl, rfl, rfl, by simp, fun k hk hn => heap_setCell_other _ _ _ _ (fun e => hn (by rw [e]))⟩ rfl ?_ (fun _ h => h) HP.out.ok
     show (wr.setCell ⟨rb, 0, none⟩ (.int .i64 0)).heap[rb]? = _
     rw [heap_setCell_same _ _ _ _ _ _ HP.out.row]; rfl
    have HB0 : Hid (Below w1.heap.size w1 (wr.setCell ⟨rb, 0, none⟩ (.int .i64 0))) := HBL.out.setCell (p := ⟨rb, 0, none⟩) HRL.out _
    have HSO : Hid (SOk S 0 []) := (HP.out.fewer (Nat.zero_le _)).ok
    have HRUS := HRU.out
    clear hlm HP HRUN HBL
    go_wp2_with fail
    generalize wr.setCell ⟨rb, 0, none⟩ (.int .i64 0) = w5 at *
    clear c0 f0 c1
    obtain ⟨aof, capf, hvf, _, _⟩ := row_form HP0.out.defs
    have c6 : w5.cell? ⟨rb, 6, none⟩ = some (.slice aof S.defs.length capf) := by rw [cell_of_row _ _ _ _ _ _ HP0.out.row]; exact congrArg some hvf
    have HVF : Hid (p.vf = .slice aof S.defs.length capf) := hvf
    have HFN := finished_any (HP0.out.below (Below.refl w5.heap.size w5).drew) HRUS
    have c6a : ∀ wx, Below w5.heap.size w5.drew wx → wx.cell? ⟨rb, 6, none⟩ = some (.slice aof S.defs.length capf) := fun wx hb => (hb.cell (p := ⟨rb, 6, none⟩) (show rb < w5.heap.size from HP0.out.rowlt)).trans c6
    have HC6 : Hid (∀ wx, Below w5.heap.size w5.drew wx → wx.cell? ⟨rb, 6, none⟩ = some (.slice aof S.defs.length capf)) := c6a
    clear hvf c6a HRUS
    generalize S.defs.length = DL at *
    cases hcm : commandsS S S.edges with
    | none =>
     have HF : Hid (parseS t = .error (.syn, 0)) := by rw [HOK.out, hcm]; rfl
     rw [hcm] at HFN
     refine wp_region_any (by kernel_rfl) ?_
     change wpAny _ _ _ _ _ _ _ (World.drew _)
     refine wpAny_ready (rs := [0, 2]) (by kernel_rfl) (by simp) ?_
     refine AllReady.cons rfl (fun K hK => ?_) (AllReady.cons rfl (fun K hK => ?_) AllReady.nil)
     ·skip
      go_simp
      refine hK _ _ ?_
      clear hK K
      refine wpAny_ready (rs := [1, 2]) (by kernel_rfl) (by simp) ?_
      refine AllReady.cons rfl (fun K hK => ?_) (AllReady.cons rfl (fun K hK => ?_) AllReady.nil)
      ·skip
       go_simp
       refine HFN.mono ?_
       rintro e w8 ⟨⟨b, rfl, s0, s1⟩, hb8⟩
       exact man_door (bk := (.syn, 0)) rfl rfl HWS.out HRZ.out HRN.out (HB0.out.drew.trans (hb8.mono HB0.out.size)) s0 s1 HF.out
      ·skip
       go_simp
       refine hK _ _ ?_
       clear hK K
       refine wpAny_ready (rs := [1, 3]) (by kernel_rfl) (by simp) ?_
       refine AllReady.cons rfl (fun K hK => ?_) (AllReady.cons rfl (fun K hK => ?_) AllReady.nil)
       ·skip
        go_simp
        refine HFN.mono ?_
        rintro e w8 ⟨⟨b, rfl, s0, s1⟩, hb8⟩
        exact man_door (bk := (.syn, 0)) rfl rfl HWS.out HRZ.out HRN.out (HB0.out.drew.trans (hb8.mono HB0.out.size)) s0 s1 HF.out
       ·skip
        go_simp
        refine hK _ _ ?_
        clear hK K
        refine wpAny_ready (rs := [1, 4]) (by kernel_rfl) (by simp) ?_
        refine AllReady.cons rfl (fun K hK => ?_) (AllReady.cons rfl (fun K hK => ?_) AllReady.nil)
        ·skip
         go_simp
         refine HFN.mono ?_
         rintro e w8 ⟨⟨b, rfl, s0, s1⟩, hb8⟩
         exact man_door (bk := (.syn, 0)) rfl rfl HWS.out HRZ.out HRN.out (HB0.out.drew.trans (hb8.mono HB0.out.size)) s0 s1 HF.out
        ·skip
         go_simp
         refine hK _ _ ?_
         clear hK K
         refine wpAny_ready (rs := [1, 5]) (by kernel_rfl) (by simp) ?_
         refine AllReady.cons rfl (fun K hK => ?_) (AllReady.cons rfl (fun K hK => ?_) AllReady.nil)
         ·skip
          go_simp
          refine HFN.mono ?_
          rintro e w8 ⟨⟨b, rfl, s0, s1⟩, hb8⟩
          exact man_door (bk := (.syn, 0)) rfl rfl HWS.out HRZ.out HRN.out (HB0.out.drew.trans (hb8.mono HB0.out.size)) s0 s1 HF.out
         ·skip
          go_simp
          refine hK _ _ ?_
          clear hK K
          refine wpAny_ready (rs := [1]) (by kernel_rfl) (by simp) ?_
          refine AllReady.cons rfl (fun K hK => ?_) AllReady.nil
          go_simp
          refine HFN.mono ?_
          rintro e w8 ⟨⟨b, rfl, s0, s1⟩, hb8⟩
          exact man_door (bk := (.syn, 0)) rfl rfl HWS.out HRZ.out HRN.out (HB0.out.drew.trans (hb8.mono HB0.out.size)) s0 s1 HF.out
     ·skip
      go_simp
      refine hK _ _ ?_
      clear hK K
      refine wpAny_ready (rs := [0, 3]) (by kernel_rfl) (by simp) ?_
      refine AllReady.cons rfl (fun K hK => ?_) (AllReady.cons rfl (fun K hK => ?_) AllReady.nil)
      ·skip
       go_simp
       refine hK _ _ ?_
       clear hK K
       refine wpAny_ready (rs := [1, 3]) (by kernel_rfl) (by simp) ?_
       refine AllReady.cons rfl (fun K hK => ?_) (AllReady.cons rfl (fun K hK => ?_) AllReady.nil)
       ·skip
        go_simp
        refine HFN.mono ?_
        rintro e w8 ⟨⟨b, rfl, s0, s1⟩, hb8⟩
        exact man_door (bk := (.syn, 0)) rfl rfl HWS.out HRZ.out HRN.out (HB0.out.drew.trans (hb8.mono HB0.out.size)) s0 s1 HF.out
       ·skip
        go_simp
        refine hK _ _ ?_
        clear hK K
        refine wpAny_ready (rs := [1, 4]) (by kernel_rfl) (by simp) ?_
        refine AllReady.cons rfl (fun K hK => ?_) (AllReady.cons rfl (fun K hK => ?_) AllReady.nil)
        ·skip
         go_simp
         refine HFN.mono ?_
         rintro e w8 ⟨⟨b, rfl, s0, s1⟩, hb8⟩
         exact man_door (bk := (.syn, 0)) rfl rfl HWS.out HRZ.out HRN.out (HB0.out.drew.trans (hb8.mono HB0.out.size)) s0 s1 HF.out
        ·skip
         go_simp
         refine hK _ _ ?_
         clear hK K
         refine wpAny_ready (rs := [1, 5]) (by kernel_rfl) (by simp) ?_
         refine AllReady.cons rfl (fun K hK => ?_) (AllReady.cons rfl (fun K hK => ?_) AllReady.nil)
         ·skip
          go_simp
          refine HFN.mono ?_
          rintro e w8 ⟨⟨b, rfl, s0, s1⟩, hb8⟩
          exact man_door (bk := (.syn, 0)) rfl rfl HWS.out HRZ.out HRN.out (HB0.out.drew.trans (hb8.mono HB0.out.size)) s0 s1 HF.out
         ·skip
          go_simp
          refine hK _ _ ?_
          clear hK K
          refine wpAny_ready (rs := [1]) (by kernel_rfl) (by simp) ?_
          refine AllReady.cons rfl (fun K hK => ?_) AllReady.nil
          go_simp
          refine HFN.mono ?_
          rintro e w8 ⟨⟨b, rfl, s0, s1⟩, hb8⟩
          exact man_door (bk := (.syn, 0)) rfl rfl HWS.out HRZ.out HRN.out (HB0.out.drew.trans (hb8.mono HB0.out.size)) s0 s1 HF.out
      ·skip
       go_simp
       refine hK _ _ ?_
       clear hK K
       refine wpAny_ready (rs := [0, 4]) (by kernel_rfl) (by simp) ?_
       refine AllReady.cons rfl (fun K hK => ?_) (AllReady.cons rfl (fun K hK => ?_) AllReady.nil)
       ·skip
        go_simp
        refine hK _ _ ?_
        clear hK K
        refine wpAny_ready (rs := [1, 4]) (by kernel_rfl) (by simp) ?_
        refine AllReady.cons rfl (fun K hK => ?_) (AllReady.cons rfl (fun K hK => ?_) AllReady.nil)
        ·skip
         go_simp
         refine HFN.mono ?_
         rintro e w8 ⟨⟨b, rfl, s0, s1⟩, hb8⟩
         exact man_door (bk := (.syn, 0)) rfl rfl HWS.out HRZ.out HRN.out (HB0.out.drew.trans (hb8.mono HB0.out.size)) s0 s1 HF.out
        ·skip
         go_simp
         refine hK _ _ ?_
         clear hK K
         refine wpAny_ready (rs := [1, 5]) (by kernel_rfl) (by simp) ?_
         refine AllReady.cons rfl (fun K hK => ?_) (AllReady.cons rfl (fun K hK => ?_) AllReady.nil)
         ·skip
          go_simp
          refine HFN.mono ?_
          rintro e w8 ⟨⟨b, rfl, s0, s1⟩, hb8⟩
          exact man_door (bk := (.syn, 0)) rfl rfl HWS.out HRZ.out HRN.out (HB0.out.drew.trans (hb8.mono HB0.out.size)) s0 s1 HF.out
         ·skip
          go_simp
          refine hK _ _ ?_
          clear hK K
          refine wpAny_ready (rs := [1]) (by kernel_rfl) (by simp) ?_
          refine AllReady.cons rfl (fun K hK => ?_) AllReady.nil
          go_simp
          refine HFN.mono ?_
          rintro e w8 ⟨⟨b, rfl, s0, s1⟩, hb8⟩
          exact man_door (bk := (.syn, 0)) rfl rfl HWS.out HRZ.out HRN.out (HB0.out.drew.trans (hb8.mono HB0.out.size)) s0 s1 HF.out
       ·skip
        go_simp
        refine hK _ _ ?_
        clear hK K
        refine wpAny_ready (rs := [0, 5]) (by kernel_rfl) (by simp) ?_
        refine AllReady.cons rfl (fun K hK => ?_) (AllReady.cons rfl (fun K hK => ?_) AllReady.nil)
        ·skip
         go_simp
         refine hK _ _ ?_
         clear hK K
         refine wpAny_ready (rs := [1, 5]) (by kernel_rfl) (by simp) ?_
         refine AllReady.cons rfl (fun K hK => ?_) (AllReady.cons rfl (fun K hK => ?_) AllReady.nil)
         ·skip
          go_simp
          refine HFN.mono ?_
          rintro e w8 ⟨⟨b, rfl, s0, s1⟩, hb8⟩
          exact man_door (bk := (.syn, 0)) rfl rfl HWS.out HRZ.out HRN.out (HB0.out.drew.trans (hb8.mono HB0.out.size)) s0 s1 HF.out
         ·skip
          go_simp
          refine hK _ _ ?_
          clear hK K
          refine wpAny_ready (rs := [1]) (by kernel_rfl) (by simp) ?_
          refine AllReady.cons rfl (fun K hK => ?_) AllReady.nil
          go_simp
          refine HFN.mono ?_
          rintro e w8 ⟨⟨b, rfl, s0, s1⟩, hb8⟩
          exact man_door (bk := (.syn, 0)) rfl rfl HWS.out HRZ.out HRN.out (HB0.out.drew.trans (hb8.mono HB0.out.size)) s0 s1 HF.out
        ·skip
         go_simp
         refine hK _ _ ?_
         clear hK K
         refine wpAny_ready (rs := [0]) (by kernel_rfl) (by simp) ?_
         refine AllReady.cons rfl (fun K hK => ?_) AllReady.nil
         go_simp
         refine hK _ _ ?_
         clear hK K
         refine wpAny_ready (rs := [1]) (by kernel_rfl) (by simp) ?_
         refine AllReady.cons rfl (fun K hK => ?_) AllReady.nil
         go_simp
         refine HFN.mono ?_
         rintro e w8 ⟨⟨b, rfl, s0, s1⟩, hb8⟩
         exact man_door (bk := (.syn, 0)) rfl rfl HWS.out HRZ.out HRN.out (HB0.out.drew.trans (hb8.mono HB0.out.size)) s0 s1 HF.out
    | some cs =>
     have HF : Hid (parseS t = .ok (S, cs)) := by rw [HOK.out, hcm]; rfl
     have HCL : Hid (cs.length = S.edges.length) := commands_length hcm
     rw [hcm] at HFN
     refine wp_region_noPanic ?_
     refine wp_region_any (by kernel_rfl) ?_
     change wpAny _ _ _ _ _ _ _ (World.drew _)
     refine wpAny_take (i := 0) (v := .pointer (some ⟨rb, 0, none⟩)) rfl (by kernel_rfl) (by kernel_rfl) (by kernel_rfl) (fun _ _ _ h => h) (Or.inl ⟨by rfl, ?_⟩) ?_
     ·intro w
      go_simp
     refine wpAny_take (i := 2) (v := .pointer (some ⟨rb, 0, none⟩)) rfl (by kernel_rfl) (by kernel_rfl) (by kernel_rfl) (fun _ _ _ h => h) (Or.inl ⟨by rfl, ?_⟩) ?_
     ·intro w
      go_simp
     refine wpAny_take (i := 3) (v := .pointer (some ⟨rb, 0, none⟩)) rfl (by kernel_rfl) (by kernel_rfl) (by kernel_rfl) (fun _ _ _ h => h) (Or.inl ⟨by rfl, ?_⟩) ?_
     ·intro w
      go_simp
     refine wpAny_take (i := 4) (v := .pointer (some ⟨rb, 6, none⟩)) rfl (by kernel_rfl) (by kernel_rfl) (by kernel_rfl) (fun _ _ _ h => h) (Or.inl ⟨by rfl, ?_⟩) ?_
     ·intro w
      go_simp
     refine wpAny_ready (rs := [1, 5]) (by kernel_rfl) (by simp) ?_
     refine AllReady.cons rfl (fun K hK => ?_) (AllReady.cons rfl (fun K hK => ?_) AllReady.nil)
     ·go_simp
      refine HFN.mono ?_
      rintro e w6 ⟨⟨ev, rfl, hev⟩, hb6⟩
      obtain ⟨aoe, cape, rfl, _, _⟩ := row_form hev
      have d6 : w6.cell? ⟨rb, 6, none⟩ = some (.slice aof DL capf) := HC6.out w6 hb6
      have HEV : Hid (w6.ownsRow w5.heap.size 63 6 (.slice aoe S.edges.length cape) S.edges.length (ecells p.ds cs) ∧ Below w5.heap.size w5.drew w6) := ⟨hev, hb6⟩
      clear hev hb6
      refine hK _ _ ?_
      clear hK K
      refine wpAny_ready (rs := [5]) (by kernel_rfl) (by simp) ?_
      refine AllReady.cons rfl (fun K hK => ?_) AllReady.nil
      go_simp
      refine hK _ _ ?_
      clear hK K
      refine wpAny_ready (rs := [6]) (by kernel_rfl) (by simp) ?_
      refine AllReady.cons rfl (fun K hK => ?_) AllReady.nil
      go_simp
      refine hK _ _ ?_
      clear hK K
      refine wpAny_ready (rs := [7]) (by kernel_rfl) (by simp) ?_
      refine AllReady.cons rfl (fun K hK => ?_) AllReady.nil
      go_simp
      refine hK _ _ ?_
      clear hK K
      obtain ⟨wa, hwa⟩ : ∃ wa, wa = w6.alloc (.cells #[.slice aoe S.edges.length cape, .slice aof DL capf] 101) := ⟨_, rfl⟩
      have HMB : Hid (wa.heap[w6.heap.size]? = some (.cells #[.slice aoe S.edges.length cape, .slice aof DL capf] 101 (0, 0))) := by rw [hwa]; exact heapA_new _ _ _ rfl
      have HBA : Hid (Below w6.heap.size w6 wa) := by rw [hwa]; exact (Below.refl _ _).alloc (Nat.le_refl _) _
      rw [← hwa]
      clear hwa d6
      have HB5a : Hid (Below w5.heap.size w5 wa) := ((Below.refl _ _).drew.trans HEV.out.2).trans (HBA.out.mono HEV.out.2.size)
      have HB1a : Hid (Below w1.heap.size w1 wa) := HB0.out.trans (HB5a.out.mono HB0.out.size)
      have HEa : Hid (wa.heap[w.heap.size]? = some (.cells #[.nilIface] 70 (0, 0))) := (HB1a.out.block _ (by have := HRZ.out; omega)).trans HRN.out
      have z0 : wa.cell? ⟨w.heap.size, 0, none⟩ = some .nilIface := by rw [cell_of_row _ _ _ _ _ _ HEa.out]; rfl
      have zf : wa.frozen? ⟨w.heap.size, 0, none⟩ = false := frozen_of_row _ _ _ _ _ HEa.out
      refine wpAny_ready (rs := [8]) (by kernel_rfl) (by simp) ?_
      refine AllReady.cons rfl (fun K hK => ?_) AllReady.nil
      go_simp
      refine hK _ _ ?_
      clear hK K
      refine wpAny_ready (rs := [9]) (by kernel_rfl) (by simp) ?_
      refine AllReady.cons rfl (fun K hK => ?_) AllReady.nil
      go_simp
      refine hK _ _ ?_
      clear hK K
      refine wpAny_done (by kernel_rfl) (NoPanic.normal ?_) _
      have hsame : ∀ k, (wa.setCell ⟨w.heap.size, 0, none⟩ .nilIface).heap[k]? = wa.heap[k]? := fun k => by
       by_cases hk : k = w.heap.size
       ·rw [hk, heap_setCell_same _ _ _ _ _ _ HEa.out, HEa.out]; rfl
       ·exact heap_setCell_other _ _ _ _ hk
      have HFIN : Hid (ManK w.heap.size S cs w6.heap.size (wa.setCell ⟨w.heap.size, 0, none⟩ .nilIface) ∧ Below w.heap.size w (wa.setCell ⟨w.heap.size, 0, none⟩ .nilIface)) := by
       refine ⟨?_, (HWS.out.trans (HB1a.out.mono HWS.out.size)).setCell (p := ⟨w.heap.size, 0, none⟩) (Nat.le_refl _) _⟩
       intro w'' hs hk
       have hs' : wa.heap.size ≤ w''.heap.size := by simpa using hs
       have hka : ∀ k, w.heap.size ≤ k → k < wa.heap.size → w''.heap[k]? = wa.heap[k]? := fun k h1 h2 => (hk k h1 (by simpa using h2)).trans (hsame k)
       have hz := HRZ.out
       have s0 := HB0.out.size
       have s5 := HB5a.out.size
       have sA := HBA.out.size
       have s6 : w5.heap.size ≤ w6.heap.size := HEV.out.2.size
       have h5 : ∀ k, w.heap.size ≤ k → k < w5.heap.size → w''.heap[k]? = w5.heap[k]? := fun k h1 h2 => (hka k h1 (by omega)).trans (HB5a.out.block k h2)
       have hdr := HP0.out.const.now.2.2
       have hd2 := (HP0.out.const w'' (by omega) (fun k h1 h2 => h5 k (by
        rcases Nat.lt_or_ge k w.heap.size with q | q
        ·have := HP0.out.low k (by omega); omega
        ·exact q) h1)).2.2
       have hmb := heap_lt HMB.out
       refine ⟨_, _, p.ds, (hka _ (by omega) hmb).trans HMB.out, ?_, hdr.1, HCL.out, fun k d e h1 h2 => ⟨(hd2.2 k d e h1 h2).outs, (hd2.2 k d e h1 h2).ins, (hd2.2 k d e h1 h2).impl, (hd2.2 k d e h1 h2).ord, (hd2.2 k d e h1 h2).rule⟩, ?_⟩
       ·refine row_mono (rkeep HEV.out.1 (fun k hk => (hka k (by have := (rblock HEV.out.1 k hk).1; omega) (by have := (rblock HEV.out.1 k hk).2; omega)).trans (HBA.out.block k (rblock HEV.out.1 k hk).2))) ?_
        have h1 := HB0.out.size
        have h2 := HRZ.out
        omega
       ·have h3 := HP0.out.defs
        rw [HVF.out] at h3
        exact texts_own (rkeep h3 (fun k hk => h5 k (by have := (rblock h3 k hk).1; omega) (rblock h3 k hk).2))
      have ze : (wa.setCell ⟨w.heap.size, 0, none⟩ .nilIface).cell? ⟨w.heap.size, 0, none⟩ = some .nilIface := (World.cell?_of_block (w := wa) (a := ⟨w.heap.size, 0, none⟩) (hsame _)).trans z0
      clear z0 zf hsame HMB HBA HEa HB1a HB5a
      generalize wa.setCell ⟨w.heap.size, 0, none⟩ .nilIface = wf at *
      go_wp2_with fail
      refine leaves_cons (f := 110) (args := #[.pointer (some ⟨w.heap.size, 0, none⟩)]) (by simp) (by simp [go_sem]) ?_
      refine (catch_idle ⟨w.heap.size, 0, none⟩ _).mono ?_
      rintro e u' w9 ⟨rfl, rfl, rfl⟩
      simp [Leaves, settle, results, Tryz.results66, go_sem, ze]
      rw [HF.out]
      exact ⟨⟨_, rfl, HFIN.out.1, HSO.out⟩, HFIN.out.2⟩
     ·go_simp
      refine hK _ _ ?_
      clear hK K
      refine wpAny_ready (rs := [1]) (by kernel_rfl) (by simp) ?_
      refine AllReady.cons rfl (fun K hK => ?_) AllReady.nil
      go_simp
      refine HFN.mono ?_
      rintro e w6 ⟨⟨ev, rfl, hev⟩, hb6⟩
      obtain ⟨aoe, cape, rfl, _, _⟩ := row_form hev
      have d6 : w6.cell? ⟨rb, 6, none⟩ = some (.slice aof DL capf) := HC6.out w6 hb6
      have HEV : Hid (w6.ownsRow w5.heap.size 63 6 (.slice aoe S.edges.length cape) S.edges.length (ecells p.ds cs) ∧ Below w5.heap.size w5.drew w6) := ⟨hev, hb6⟩
      clear hev hb6
      refine hK _ _ ?_
      clear hK K
      refine wpAny_ready (rs := [6]) (by kernel_rfl) (by simp) ?_
      refine AllReady.cons rfl (fun K hK => ?_) AllReady.nil
      go_simp
      refine hK _ _ ?_
      clear hK K
      refine wpAny_ready (rs := [7]) (by kernel_rfl) (by simp) ?_
      refine AllReady.cons rfl (fun K hK => ?_) AllReady.nil
      go_simp
      refine hK _ _ ?_
      clear hK K
      obtain ⟨wa, hwa⟩ : ∃ wa, wa = w6.alloc (.cells #[.slice aoe S.edges.length cape, .slice aof DL capf] 101) := ⟨_, rfl⟩
      have HMB : Hid (wa.heap[w6.heap.size]? = some (.cells #[.slice aoe S.edges.length cape, .slice aof DL capf] 101 (0, 0))) := by rw [hwa]; exact heapA_new _ _ _ rfl
      have HBA : Hid (Below w6.heap.size w6 wa) := by rw [hwa]; exact (Below.refl _ _).alloc (Nat.le_refl _) _
      rw [← hwa]
      clear hwa d6
      have HB5a : Hid (Below w5.heap.size w5 wa) := ((Below.refl _ _).drew.trans HEV.out.2).trans (HBA.out.mono HEV.out.2.size)
      have HB1a : Hid (Below w1.heap.size w1 wa) := HB0.out.trans (HB5a.out.mono HB0.out.size)
      have HEa : Hid (wa.heap[w.heap.size]? = some (.cells #[.nilIface] 70 (0, 0))) := (HB1a.out.block _ (by have := HRZ.out; omega)).trans HRN.out
      have z0 : wa.cell? ⟨w.heap.size, 0, none⟩ = some .nilIface := by rw [cell_of_row _ _ _ _ _ _ HEa.out]; rfl
      have zf : wa.frozen? ⟨w.heap.size, 0, none⟩ = false := frozen_of_row _ _ _ _ _ HEa.out
      refine wpAny_ready (rs := [8]) (by kernel_rfl) (by simp) ?_
      refine AllReady.cons rfl (fun K hK => ?_) AllReady.nil
      go_simp
      refine hK _ _ ?_
      clear hK K
      refine wpAny_ready (rs := [9]) (by kernel_rfl) (by simp) ?_
      refine AllReady.cons rfl (fun K hK => ?_) AllReady.nil
      go_simp
      refine hK _ _ ?_
      clear hK K
      refine wpAny_done (by kernel_rfl) (NoPanic.normal ?_) _
      have hsame : ∀ k, (wa.setCell ⟨w.heap.size, 0, none⟩ .nilIface).heap[k]? = wa.heap[k]? := fun k => by
       by_cases hk : k = w.heap.size
       ·rw [hk, heap_setCell_same _ _ _ _ _ _ HEa.out, HEa.out]; rfl
       ·exact heap_setCell_other _ _ _ _ hk
      have HFIN : Hid (ManK w.heap.size S cs w6.heap.size (wa.setCell ⟨w.heap.size, 0, none⟩ .nilIface) ∧ Below w.heap.size w (wa.setCell ⟨w.heap.size, 0, none⟩ .nilIface)) := by
       refine ⟨?_, (HWS.out.trans (HB1a.out.mono HWS.out.size)).setCell (p := ⟨w.heap.size, 0, none⟩) (Nat.le_refl _) _⟩
       intro w'' hs hk
       have hs' : wa.heap.size ≤ w''.heap.size := by simpa using hs
       have hka : ∀ k, w.heap.size ≤ k → k < wa.heap.size → w''.heap[k]? = wa.heap[k]? := fun k h1 h2 => (hk k h1 (by simpa using h2)).trans (hsame k)
       have hz := HRZ.out
       have s0 := HB0.out.size
       have s5 := HB5a.out.size
       have sA := HBA.out.size
       have s6 : w5.heap.size ≤ w6.heap.size := HEV.out.2.size
       have h5 : ∀ k, w.heap.size ≤ k → k < w5.heap.size → w''.heap[k]? = w5.heap[k]? := fun k h1 h2 => (hka k h1 (by omega)).trans (HB5a.out.block k h2)
       have hdr := HP0.out.const.now.2.2
       have hd2 := (HP0.out.const w'' (by omega) (fun k h1 h2 => h5 k (by
        rcases Nat.lt_or_ge k w.heap.size with q | q
        ·have := HP0.out.low k (by omega); omega
        ·exact q) h1)).2.2
       have hmb := heap_lt HMB.out
       refine ⟨_, _, p.ds, (hka _ (by omega) hmb).trans HMB.out, ?_, hdr.1, HCL.out, fun k d e h1 h2 => ⟨(hd2.2 k d e h1 h2).outs, (hd2.2 k d e h1 h2).ins, (hd2.2 k d e h1 h2).impl, (hd2.2 k d e h1 h2).ord, (hd2.2 k d e h1 h2).rule⟩, ?_⟩
       ·refine row_mono (rkeep HEV.out.1 (fun k hk => (hka k (by have := (rblock HEV.out.1 k hk).1; omega) (by have := (rblock HEV.out.1 k hk).2; omega)).trans (HBA.out.block k (rblock HEV.out.1 k hk).2))) ?_
        have h1 := HB0.out.size
        have h2 := HRZ.out
        omega
       ·have h3 := HP0.out.defs
        rw [HVF.out] at h3
        exact texts_own (rkeep h3 (fun k hk => h5 k (by have := (rblock h3 k hk).1; omega) (rblock h3 k hk).2))
      have ze : (wa.setCell ⟨w.heap.size, 0, none⟩ .nilIface).cell? ⟨w.heap.size, 0, none⟩ = some .nilIface := (World.cell?_of_block (w := wa) (a := ⟨w.heap.size, 0, none⟩) (hsame _)).trans z0
      clear z0 zf hsame HMB HBA HEa HB1a HB5a
      generalize wa.setCell ⟨w.heap.size, 0, none⟩ .nilIface = wf at *
      go_wp2_with fail
      refine leaves_cons (f := 110) (args := #[.pointer (some ⟨w.heap.size, 0, none⟩)]) (by simp) (by simp [go_sem]) ?_
      refine (catch_idle ⟨w.heap.size, 0, none⟩ _).mono ?_
      rintro e u' w9 ⟨rfl, rfl, rfl⟩
      simp [Leaves, settle, results, Tryz.results66, go_sem, ze]
      rw [HF.out]
      exact ⟨⟨_, rfl, HFIN.out.1, HSO.out⟩, HFIN.out.2⟩
 ·have t4 : ¬ (t.size : Int) ≤ 4000 := by omega
  have HF : Hid (parseS t = .error (.syn, 0)) := by show _ = _; unfold parseS; rw [if_pos (by omega)]
  have t5 : decide ((t.size : Int) ≤ 4000) = false := decide_eq_false t4
  have HNO := need_no (w2.heap.size + 2) 0 472 (.pointer (some (a 4))) w3 c30
  rw [hw3] at c34
  go_wp2_with fail
  rw [← hw3]
  refine HNO.mono ?_
  rintro e w8 ⟨⟨b, rfl, s0, s1⟩, hb8⟩
  have HB8 : Hid (Below w1.heap.size w1 w8) := HB13.out.trans (hb8.mono HB13.out.size)
  have hrz := HRZ.out
  have HE8 : w8.heap[w.heap.size]? = some (.cells #[.nilIface] 70 (0, 0)) := (HB8.out.block _ (by omega)).trans HRN.out
  have hce : w8.cell? ⟨w.heap.size, 0, none⟩ = some .nilIface := by rw [cell_of_row _ _ _ _ _ _ HE8]; rfl
  have hne : b ≠ w.heap.size := fun e => by rw [e, hce] at s0; cases s0
  have q0 : (w8.setCell ⟨w.heap.size, 0, none⟩ (.iface 129 (.pointer (some ⟨b, 0, none⟩)))).cell? ⟨b, 0, none⟩ = _ := (World.cell?_of_block (w := w8) (a := ⟨b, 0, none⟩) (heap_setCell_other _ _ _ _ hne)).trans s0
  have q1 : (w8.setCell ⟨w.heap.size, 0, none⟩ (.iface 129 (.pointer (some ⟨b, 0, none⟩)))).cell? ⟨b, 1, none⟩ = _ := (World.cell?_of_block (w := w8) (a := ⟨b, 1, none⟩) (heap_setCell_other _ _ _ _ hne)).trans s1
  have qe : (w8.setCell ⟨w.heap.size, 0, none⟩ (.iface 129 (.pointer (some ⟨b, 0, none⟩)))).cell? ⟨w.heap.size, 0, none⟩ = some (.iface 129 (.pointer (some ⟨b, 0, none⟩))) := by
   rw [cell_of_row _ _ _ _ _ _ (heap_setCell_same _ _ _ _ _ _ HE8)]; rfl
  have HBF : Hid (Below w.heap.size w (w8.setCell ⟨w.heap.size, 0, none⟩ (.iface 129 (.pointer (some ⟨b, 0, none⟩))))) := (HWS.out.trans (HB8.out.mono HWS.out.size)).setCell (p := ⟨w.heap.size, 0, none⟩) (Nat.le_refl _) _
  refine leaves_cons (f := 110) (args := #[.pointer (some ⟨w.heap.size, 0, none⟩)]) (by simp) (by simp [go_sem]) ?_
  refine (catch_panicking ⟨w.heap.size, 0, none⟩ b .nilIface w8 hce (frozen_of_row _ _ _ _ _ HE8)).mono ?_
  rintro e u' w9 ⟨rfl, rfl, rfl⟩
  simp [Leaves, settle, results, Tryz.results66, go_sem, qe]
  rw [HF.out]
  exact ⟨⟨b, rfl, q0, q1⟩, HBF.out⟩
end Go.Proofs.YthhbpebihgjpjaaGreatDoor
