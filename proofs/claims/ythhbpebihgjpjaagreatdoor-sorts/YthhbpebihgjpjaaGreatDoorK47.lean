import Derived.Test.YthhbpebihgjpjaaGreatDoorK03
import Derived.Deep.Strs
import Derived.SizedLaws
import Derived.ProofKit
import Derived.OpenShut
import Derived.Test.YthhbpebihgjpjaaGreatDoorK43
import Derived.Test.YthhbpebihgjpjaaGreatDoorRows
import Derived.LaidMore
import Derived.LaidHandle
import Derived.Stop.Joined
import Derived.Stop.LaidTwo
import Derived.Lib.LaidTab
namespace Go.Proofs.YthhbpebihgjpjaaGreatDoor
open Go.ChangeShapes Go.WideShapes Go.RowKit Go.Deep
set_option maxRecDepth 1000000

section
variable {H : Type} {enc : TypeId × Value → H}

theorem weightsAll_mem {P : Program} {e : TypeId} : ∀ {l : List (DataW H)} {d : DataW H}, d ∈ l → ∀ n ∈ d.weights P e, n ∈ DataW.weightsAll P e l
  | [], _, h, _, _ => by cases h
  | x :: l, d, h, n, hn => by
    simp only [DataW.weightsAll, List.mem_append]
    rcases List.mem_cons.1 h with rfl | h
    · exact Or.inl hn
    · exact Or.inr (weightsAll_mem h n hn)
theorem reach_le : reachBytes = 140737488351232 := rfl
theorem add_at (a : Addr) (i : Nat) (h : a.spot = none) : a.add i = ⟨a.block, a.off + i, none⟩ := by
  obtain ⟨b, o, s⟩ := a
  subst h
  exact Addr.add_mid b o i

theorem strs_at {W : World} {fuel : Nat} {c : Value} {x : DataW H × List MemPlace} (h : DataW.trod enc Tryz.prog W 0 (fun _ => true) true fuel 32 [c] = some x) (hw : ∀ n ∈ x.1.weights Tryz.prog 32, n ≤ reachBytes) :
    ∃ ao n cap, c = .slice ao n cap ∧ Strs W ao n := by
  rcases open_strs Tryz.underlying32 Tryz.underlying9 (by kernel_rfl) h with ⟨hc, _⟩ | ⟨a, len, cap, m, Sx, hc, _, hl, hm, hmm, rfl, hx⟩
  · simp only [List.cons.injEq, and_true] at hc
    exact ⟨none, 0, 0, hc, by omega, Or.inl rfl⟩
  · simp only [List.cons.injEq, and_true] at hc
    simp only [if_true] at hmm
    subst hmm
    refine ⟨some a, len, m, hc, ?_, ?_⟩
    · unfold maxLen at hm; omega
    · by_cases h0 : len = 0
      · exact Or.inl h0
      · right
        have hs : a.spot = none := by
          have := World.cell?_spot (hx 0 (by omega)).1
          simpa [Addr.add] using this
        refine ⟨a.block, a.off, by obtain ⟨b, o, s⟩ := a; cases hs; rfl, ?_, fun k hk => ?_⟩
        · have := block_lt_of_cell (hx 0 (by omega)).1
          simpa [Addr.add] using this
        · have h1 := (hx k (by omega)).1
          rw [add_at a k hs] at h1
          refine ⟨Sx k, ?_, h1⟩
          rw [← reach_le]
          refine hw _ ?_
          rw [DataW.weights, Tryz.underlying32]
          refine List.mem_cons_of_mem _ (List.mem_append_left _ (weightsAll_mem (d := .lit (.string (Sx k).data.toList)) (List.mem_map.2 ⟨k, List.mem_range.2 hk, rfl⟩) _ ?_))
          rw [DataW.weights, List.mem_singleton, Array.length_toList]
          rfl

theorem wf_i64 {n : Int} (h : (Lit.int .i64 n).wf = true) : -9223372036854775808 ≤ n ∧ n ≤ 9223372036854775807 := by
  have e : IntKind.i64.min = -9223372036854775808 := by decide
  simpa [Lit.wf, e] using h
theorem op_at {W : World} {fuel : Nat} {cs : List Value} {x : DataW H × List MemPlace} (h : DataW.trod enc Tryz.prog W 0 (fun _ => true) true fuel 104 cs = some x) (hw : ∀ n ∈ x.1.weights Tryz.prog 104, n ≤ reachBytes)
    (b o : Nat) (hb : b < W.heap.size) (hr : W.rangeAt b o cs) : ∃ y, OpAt W y b o := by
  obtain ⟨xs, n, _, rfl, hlen, hxl, hf⟩ := DataW.trod_struct Tryz.underlying104 h
  have h8 : Tryz.prog.cellsOf 104 = 8 := by kernel_rfl
  have c3 : Tryz.prog.cellsOf 3 = 1 := by kernel_rfl
  have c9 : Tryz.prog.cellsOf 9 = 1 := by kernel_rfl
  have c26 : Tryz.prog.cellsOf 32 = 1 := by kernel_rfl
  rw [h8] at hlen
  match cs, hlen with
  | [v0, v1, v2, v3, v4, v5, v6, v7], _ =>
    have hx8 : xs.length = 8 := hxl
    match xs, hx8 with
    | [x0, x1, x2, x3, x4, x5, x6, x7], _ =>
      have t0 : DataW.trod enc Tryz.prog W 0 (fun _ => true) true n 3 [v0] = some x0 := by
        have h := hf 0 _ rfl
        change DataW.trod _ _ _ _ _ _ _ _ (List.take (Tryz.prog.cellsOf 3) _) = _ at h
        rw [c3] at h
        exact h
      have t1 : DataW.trod enc Tryz.prog W 0 (fun _ => true) true n 3 [v1] = some x1 := by
        have h := hf 1 _ rfl
        change DataW.trod _ _ _ _ _ _ _ _ (List.take (Tryz.prog.cellsOf 3) _) = _ at h
        rw [c3] at h
        exact h
      have t2 : DataW.trod enc Tryz.prog W 0 (fun _ => true) true n 3 [v2] = some x2 := by
        have h := hf 2 _ rfl
        change DataW.trod _ _ _ _ _ _ _ _ (List.take (Tryz.prog.cellsOf 3) _) = _ at h
        rw [c3] at h
        exact h
      have t3 : DataW.trod enc Tryz.prog W 0 (fun _ => true) true n 3 [v3] = some x3 := by
        have h := hf 3 _ rfl
        change DataW.trod _ _ _ _ _ _ _ _ (List.take (Tryz.prog.cellsOf 3) _) = _ at h
        rw [c3] at h
        exact h
      have t4 : DataW.trod enc Tryz.prog W 0 (fun _ => true) true n 9 [v4] = some x4 := by
        have h := hf 4 _ rfl
        change DataW.trod _ _ _ _ _ _ _ _ (List.take (Tryz.prog.cellsOf 9) _) = _ at h
        rw [c9] at h
        exact h
      have t5 : DataW.trod enc Tryz.prog W 0 (fun _ => true) true n 9 [v5] = some x5 := by
        have h := hf 5 _ rfl
        change DataW.trod _ _ _ _ _ _ _ _ (List.take (Tryz.prog.cellsOf 9) _) = _ at h
        rw [c9] at h
        exact h
      have t6 : DataW.trod enc Tryz.prog W 0 (fun _ => true) true n 32 [v6] = some x6 := by
        have h := hf 6 _ rfl
        change DataW.trod _ _ _ _ _ _ _ _ (List.take (Tryz.prog.cellsOf 32) _) = _ at h
        rw [c26] at h
        exact h
      have t7 : DataW.trod enc Tryz.prog W 0 (fun _ => true) true n 32 [v7] = some x7 := by
        have h := hf 7 _ rfl
        change DataW.trod _ _ _ _ _ _ _ _ (List.take (Tryz.prog.cellsOf 32) _) = _ at h
        rw [c26] at h
        exact h
      have hwf : ∀ (j : Nat) t (d : DataW H), [3, 3, 3, 3, 9, 9, 32, 32][j]? = some t → [x0.1, x1.1, x2.1, x3.1, x4.1, x5.1, x6.1, x7.1][j]? = some d → ∀ m ∈ d.weights Tryz.prog t, m ≤ reachBytes := fun j t d ht hd m hm => by
        refine hw m ?_
        rw [DataW.weights, Tryz.underlying104]
        exact DataW.weights_mem_each (ts := [3, 3, 3, 3, 9, 9, 32, 32]) ht hd m hm
      obtain ⟨n0, e0, _, _⟩ := DataW.trod_int Tryz.underlying3 t0
      obtain ⟨n1, e1, _, w1⟩ := DataW.trod_int Tryz.underlying3 t1
      obtain ⟨n2, e2, _, _⟩ := DataW.trod_int Tryz.underlying3 t2
      obtain ⟨n3, e3, _, w3⟩ := DataW.trod_int Tryz.underlying3 t3
      obtain ⟨s4, e4, g4, _⟩ := DataW.trod_string Tryz.underlying9 t4
      obtain ⟨s5, e5, g5, _⟩ := DataW.trod_string Tryz.underlying9 t5
      obtain ⟨la, ln, lc, e6, hL⟩ := strs_at t6 (hwf 6 _ _ rfl rfl)
      obtain ⟨ma, mn, mc, e7, hM⟩ := strs_at t7 (hwf 7 _ _ rfl rfl)
      simp only [List.cons.injEq, and_true] at e0 e1 e2 e3 e4 e5
      subst e0 e1 e2 e3 e4 e5 e6 e7
      have hs4 : s4.size ≤ 140737488351232 := by
        rw [← reach_le]
        refine hwf 4 _ _ rfl rfl _ ?_
        rw [g4]
        simp only [DataW.weights, List.mem_singleton]
        rw [Array.length_toList]; rfl
      have hs5 : s5.size ≤ 140737488351232 := by
        rw [← reach_le]
        refine hwf 5 _ _ rfl rfl _ ?_
        rw [g5]
        simp only [DataW.weights, List.mem_singleton]
        rw [Array.length_toList]; rfl
      exact ⟨⟨n0, n1, n2, n3, s4, s5, la, ln, lc, ma, mn, mc⟩, hr, hb, hs4, hs5, hL, hM, wf_i64 w1, wf_i64 w3⟩

theorem script_at {W : World} {v : Value} {d : DataW H} {ps : List MemPlace} (h : DataW.Trod enc Tryz.prog W 0 (fun _ => true) true 22 v d ps) (hw : ∀ n ∈ d.weights Tryz.prog 22, n ≤ reachBytes)
    (ao : Option Addr) (n cap : Nat) (hv : v = .slice ao n cap) : ScriptAt W ao n := by
  obtain ⟨fuel, h⟩ := h
  subst hv
  have h8 : Tryz.prog.cellsOf 104 = 8 := by kernel_rfl
  rcases open_slice Tryz.underlying22 h with ⟨hc, _⟩ | ⟨a, len, cap', m, k, D, Pl, hc, _, hl, hm, hmm, hx, hall⟩
  · have hc' : [Value.slice ao n cap] = [.slice none 0 0] := hc
    simp only [List.cons.injEq, and_true, Value.slice.injEq] at hc'
    exact ⟨by omega, Or.inl hc'.2.1⟩
  · have hc' : [Value.slice ao n cap] = [.slice (some a) len cap'] := hc
    simp only [List.cons.injEq, and_true, Value.slice.injEq] at hc'
    obtain ⟨rfl, rfl, rfl⟩ := hc'
    simp only [if_true] at hmm
    subst hmm
    obtain ⟨rfl, rfl⟩ := Prod.mk.inj hx
    have hwl : (n + (m - n)) * Tryz.prog.bytesOf 104 ≤ reachBytes := by
      refine hw _ ?_
      rw [DataW.weights, Tryz.underlying22]
      refine List.mem_cons.2 (Or.inl ?_)
      simp
    have hby : Tryz.prog.bytesOf 104 = 112 := by kernel_rfl
    rw [hby, reach_le] at hwl
    refine ⟨by omega, ?_⟩
    by_cases h0 : n = 0
    · exact Or.inl h0
    · right
      obtain ⟨cs0, hcs0, _⟩ := hall 0 (by omega)
      rw [h8] at hall hcs0
      obtain ⟨_, hl0, hc0⟩ := World.cells?_some hcs0
      have hcell0 : ∃ u, W.cell? (a.add 0) = some u := by
        have := hc0 0 (by omega)
        rw [List.getElem?_eq_getElem (by omega)] at this
        exact ⟨_, by simpa [Addr.add] using this⟩
      obtain ⟨u0, hu0⟩ := hcell0
      have hs : a.spot = none := by
        have := World.cell?_spot hu0
        simpa [Addr.add] using this
      have hb : a.block < W.heap.size := by
        have := block_lt_of_cell hu0
        simpa [Addr.add] using this
      refine ⟨a.block, a.off, by obtain ⟨b, o, s⟩ := a; cases hs; rfl, fun i hi => ?_⟩
      obtain ⟨cs, hcs, ht⟩ := hall i (by omega)
      obtain ⟨_, hlc, hcc⟩ := World.cells?_some hcs
      refine op_at ht (fun q hq => hw q ?_) a.block (a.off + i * 8) hb (fun j v hv => ?_)
      · rw [DataW.weights, Tryz.underlying22]
        exact List.mem_cons_of_mem _ (List.mem_append_left _ (weightsAll_mem (List.mem_map.2 ⟨i, List.mem_range.2 hi, rfl⟩) q hq))
      · have hj : j < 8 := by
          have := (List.getElem?_eq_some_iff.1 hv).1
          omega
        have := hcc j hj
        rw [hv, add_at a (i * 8) hs, Addr.add_mid] at this
        exact this
end
end Go.Proofs.YthhbpebihgjpjaaGreatDoor

namespace Go.Proofs.YthhbpebihgjpjaaGreatDoor
open Go.ChangeShapes Go.WideShapes Go.RowKit Go.Deep
set_option maxRecDepth 1000000

section
variable {H : Type} {enc : TypeId × Value → H}

theorem kop_at {W : World} {fuel : Nat} {cs : List Value} {x : DataW H × List MemPlace} (h : DataW.trod enc Tryz.prog W 0 (fun _ => true) true fuel 58 cs = some x) (hw : ∀ n ∈ x.1.weights Tryz.prog 58, n ≤ reachBytes)
    (b o : Nat) (hb : b < W.heap.size) (hr : W.rangeAt b o cs) : ∃ y, KOpAt W y b o := by
  obtain ⟨xs, n, _, rfl, hlen, hxl, hf⟩ := DataW.trod_struct Tryz.underlying58 h
  have h5 : Tryz.prog.cellsOf 58 = 5 := by kernel_rfl
  have c3 : Tryz.prog.cellsOf 3 = 1 := by kernel_rfl
  have c9 : Tryz.prog.cellsOf 9 = 1 := by kernel_rfl
  rw [h5] at hlen
  match cs, hlen with
  | [v0, v1, v2, v3, v4], _ =>
    have hx5 : xs.length = 5 := hxl
    match xs, hx5 with
    | [x0, x1, x2, x3, x4], _ =>
      have t0 : DataW.trod enc Tryz.prog W 0 (fun _ => true) true n 3 [v0] = some x0 := by
        have h := hf 0 _ rfl
        change DataW.trod _ _ _ _ _ _ _ _ (List.take (Tryz.prog.cellsOf 3) _) = _ at h
        rw [c3] at h
        exact h
      have t1 : DataW.trod enc Tryz.prog W 0 (fun _ => true) true n 3 [v1] = some x1 := by
        have h := hf 1 _ rfl
        change DataW.trod _ _ _ _ _ _ _ _ (List.take (Tryz.prog.cellsOf 3) _) = _ at h
        rw [c3] at h
        exact h
      have t2 : DataW.trod enc Tryz.prog W 0 (fun _ => true) true n 3 [v2] = some x2 := by
        have h := hf 2 _ rfl
        change DataW.trod _ _ _ _ _ _ _ _ (List.take (Tryz.prog.cellsOf 3) _) = _ at h
        rw [c3] at h
        exact h
      have t3 : DataW.trod enc Tryz.prog W 0 (fun _ => true) true n 9 [v3] = some x3 := by
        have h := hf 3 _ rfl
        change DataW.trod _ _ _ _ _ _ _ _ (List.take (Tryz.prog.cellsOf 9) _) = _ at h
        rw [c9] at h
        exact h
      have t4 : DataW.trod enc Tryz.prog W 0 (fun _ => true) true n 9 [v4] = some x4 := by
        have h := hf 4 _ rfl
        change DataW.trod _ _ _ _ _ _ _ _ (List.take (Tryz.prog.cellsOf 9) _) = _ at h
        rw [c9] at h
        exact h
      have hwf : ∀ (j : Nat) t (d : DataW H), [3, 3, 3, 9, 9][j]? = some t → [x0.1, x1.1, x2.1, x3.1, x4.1][j]? = some d → ∀ m ∈ d.weights Tryz.prog t, m ≤ reachBytes := fun j t d ht hd m hm => by
        refine hw m ?_
        rw [DataW.weights, Tryz.underlying58]
        exact DataW.weights_mem_each (ts := [3, 3, 3, 9, 9]) ht hd m hm
      obtain ⟨n0, e0, _, _⟩ := DataW.trod_int Tryz.underlying3 t0
      obtain ⟨n1, e1, _, _⟩ := DataW.trod_int Tryz.underlying3 t1
      obtain ⟨n2, e2, _, _⟩ := DataW.trod_int Tryz.underlying3 t2
      obtain ⟨s3, e3, g3, _⟩ := DataW.trod_string Tryz.underlying9 t3
      obtain ⟨s4, e4, g4, _⟩ := DataW.trod_string Tryz.underlying9 t4
      simp only [List.cons.injEq, and_true] at e0 e1 e2 e3 e4
      subst e0 e1 e2 e3 e4
      have hs3 : s3.size ≤ 140737488351232 := by
        rw [← reach_le]
        refine hwf 3 _ _ rfl rfl _ ?_
        rw [g3]
        simp only [DataW.weights, List.mem_singleton]
        rw [Array.length_toList]; rfl
      have hs4 : s4.size ≤ 140737488351232 := by
        rw [← reach_le]
        refine hwf 4 _ _ rfl rfl _ ?_
        rw [g4]
        simp only [DataW.weights, List.mem_singleton]
        rw [Array.length_toList]; rfl
      exact ⟨⟨n0, n1, n2, s3, s4⟩, hr, hb, hs3, hs4⟩

theorem kscript_at {W : World} {v : Value} {d : DataW H} {ps : List MemPlace} (h : DataW.Trod enc Tryz.prog W 0 (fun _ => true) true 26 v d ps) (hw : ∀ n ∈ d.weights Tryz.prog 26, n ≤ reachBytes)
    (ao : Option Addr) (n cap : Nat) (hv : v = .slice ao n cap) : KScriptAt W ao n := by
  obtain ⟨fuel, h⟩ := h
  subst hv
  have h5 : Tryz.prog.cellsOf 58 = 5 := by kernel_rfl
  rcases open_slice Tryz.underlying26 h with ⟨hc, _⟩ | ⟨a, len, cap', m, k, D, Pl, hc, _, hl, hm, hmm, hx, hall⟩
  · have hc' : [Value.slice ao n cap] = [.slice none 0 0] := hc
    simp only [List.cons.injEq, and_true, Value.slice.injEq] at hc'
    exact ⟨by omega, Or.inl hc'.2.1⟩
  · have hc' : [Value.slice ao n cap] = [.slice (some a) len cap'] := hc
    simp only [List.cons.injEq, and_true, Value.slice.injEq] at hc'
    obtain ⟨rfl, rfl, rfl⟩ := hc'
    simp only [if_true] at hmm
    subst hmm
    obtain ⟨rfl, rfl⟩ := Prod.mk.inj hx
    have hwl : (n + (m - n)) * Tryz.prog.bytesOf 58 ≤ reachBytes := by
      refine hw _ ?_
      rw [DataW.weights, Tryz.underlying26]
      refine List.mem_cons.2 (Or.inl ?_)
      simp
    have hby : Tryz.prog.bytesOf 58 = 56 := by kernel_rfl
    rw [hby, reach_le] at hwl
    refine ⟨by omega, ?_⟩
    by_cases h0 : n = 0
    · exact Or.inl h0
    · right
      obtain ⟨cs0, hcs0, _⟩ := hall 0 (by omega)
      rw [h5] at hall hcs0
      obtain ⟨_, hl0, hc0⟩ := World.cells?_some hcs0
      have hcell0 : ∃ u, W.cell? (a.add 0) = some u := by
        have := hc0 0 (by omega)
        rw [List.getElem?_eq_getElem (by omega)] at this
        exact ⟨_, by simpa [Addr.add] using this⟩
      obtain ⟨u0, hu0⟩ := hcell0
      have hs : a.spot = none := by
        have := World.cell?_spot hu0
        simpa [Addr.add] using this
      have hb : a.block < W.heap.size := by
        have := block_lt_of_cell hu0
        simpa [Addr.add] using this
      refine ⟨a.block, a.off, by obtain ⟨b, o, s⟩ := a; cases hs; rfl, fun i hi => ?_⟩
      obtain ⟨cs, hcs, ht⟩ := hall i (by omega)
      obtain ⟨_, hlc, hcc⟩ := World.cells?_some hcs
      refine kop_at ht (fun q hq => hw q ?_) a.block (a.off + i * 5) hb (fun j v hv => ?_)
      · rw [DataW.weights, Tryz.underlying26]
        exact List.mem_cons_of_mem _ (List.mem_append_left _ (weightsAll_mem (List.mem_map.2 ⟨i, List.mem_range.2 hi, rfl⟩) q hq))
      · have hj : j < 5 := by
          have := (List.getElem?_eq_some_iff.1 hv).1
          omega
        have := hcc j hj
        rw [hv, add_at a (i * 5) hs, Addr.add_mid] at this
        exact this
end
end Go.Proofs.YthhbpebihgjpjaaGreatDoor

namespace Go.Proofs.YthhbpebihgjpjaaGreatDoor
open Go.ChangeShapes Go.WideShapes Go.RowKit
set_option maxRecDepth 1000000

theorem Tryz.own : ownKnob Tryz.prog.godebug = none := by kernel_rfl
/-- The library's pinned table, in the door's own heap . -/
def pinFirst : Obj → Obj
  | .cells _ t frozen => .cells (Go.Pinned.utf8FirstZ.map fun n : Nat => Value.int .u8 (n : Int)).toArray t frozen
  | o => o
end Go.Proofs.YthhbpebihgjpjaaGreatDoor
