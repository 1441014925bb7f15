import Derived.Test.YthhbpebihgjpjaaGreatDoorP22
import Derived.Test.YthhbpebihgjpjaaGreatDoorP04
namespace Go.Proofs.YthhbpebihgjpjaaGreatDoor
open Go.RowKit
set_option maxRecDepth 1000000

def EdgeK (W0 : Nat) (w : World) (v : Value) (es : List EdgeS) (cs : List ByteArray) : Prop := ∀ w'', w.heap.size ≤ w''.heap.size → (∀ k, W0 ≤ k → k < w.heap.size → w''.heap[k]? = w.heap[k]?) → EdgeRowAt w'' v es cs
theorem EdgesAt.stays {W0 : Nat} {w : World} {c : Nat → Nat} {v : Value} {ds : List DraftV} {es : List EdgeS} {cs : List ByteArray} (h : EdgesAt W0 w c v ds es cs) : EdgeK W0 w v es cs := fun w'' hs hk => by
 have hrow := rkeep h.row (w' := w'') (fun k hq => hk k (rblock h.row k hq).1 (rblock h.row k hq).2)
 have hc := h.const w'' hs (fun k h1 h2 => hk k (by
  rcases Nat.lt_or_ge k W0 with q | q
  ·have := h.low k q; omega
  ·exact q) h1)
 obtain ⟨ao, cap, rfl, hcap, hg⟩ := row_form hrow
 refine ⟨ao, cap, rfl, ?_⟩
 by_cases h0 : es = []
 ·exact Or.inl h0
 ·obtain ⟨g, rfl⟩ := hg (List.length_pos_iff.2 h0)
  refine Or.inr ⟨g, 0, rfl, fun k e y he hy => ?_⟩
  have hlt : k < ds.length := by rw [hc.1]; exact (List.getElem?_eq_some_iff.1 he).1
  obtain ⟨d, hd⟩ : ∃ d, ds[k]? = some d := ⟨ds[k], by simp⟩
  have hl := hc.2 k d e hd he
  have cell : ∀ i u, i < 6 → (ecell d y)[i]? = some u → w''.cell? ⟨g, k * 6 + i, none⟩ = some u := fun i u hi hu => (row_cell hrow (k * 6 + i) u (by rw [ecells_at ds cs k d y i hd hy hi]; exact hu)).1
  rw [Nat.zero_add]
  refine ⟨d.vo, d.vi, d.vm, d.vr, ⟨cell 0 _ (by omega) rfl, cell 1 _ (by omega) rfl, cell 2 _ (by omega) rfl, cell 3 _ (by omega) rfl, ?_, cell 5 _ (by omega) rfl⟩, hl.1, hl.2.1, hl.2.2.1, hl.2.2.2.1⟩
  rw [← hl.2.2.2.2]
  exact cell 4 _ (by omega) rfl
end Go.Proofs.YthhbpebihgjpjaaGreatDoor

namespace Go.Proofs.YthhbpebihgjpjaaGreatDoor
open Go.RowKit
set_option maxRecDepth 1000000

set_option maxHeartbeats 8000000 in
theorem rexpand_any (t : ByteArray) (own top : Binds) (vo vt : Value) (w : World) (h1 : BindsAt w vo own) (h2 : BindsAt w vt top) (hs : own.length ≤ 1099511627776) (hs2 : top.length ≤ 1099511627776) (ht : t.size ≤ 1048576) (hE : ∀ x, (envOf own top x).size ≤ 1048576) :
  Calls Tryz.prog 215 #[.string t, vo, vt] w fun e w' => e = .returned (expPost (expandS (envOf own top) t)) ∧ w' = w := by
 have HGET : Hid (∀ x, Calls Tryz.prog 290 #[vo, vt, .string x] w fun e w' => e = .returned (.string (envOf own top x)) ∧ w' = w) := fun x => rget_any own top vo vt x w h1 h2 hs hs2
 have HE : Hid (∀ x, (envOf own top x).size ≤ 1048576) := hE
 have t0 : (t.size : Int) ≤ 1048576 := by omega
 have HT : Hid (t.size ≤ 1048576) := ht
 obtain ⟨a1, c1, rfl, _, _⟩ := h1
 obtain ⟨a2, c2, rfl, _, _⟩ := h2
 generalize own.length = OL at *
 generalize top.length = TL at *
 clear hs hs2 hE
 go_enter Tryz.func215, Tryz.ntmps215
 go_wp2_with fail
 go_loop [8, 9] (fun o i => ∃ (j : Nat) (out : ByteArray), o = .string out ∧ i = .int .i64 j ∧ j ≤ t.size ∧ out.size ≤ 4000 + j ∧ expandAt (envOf own top) t j out = expandS (envOf own top) t) (fun _ i => t.size - (intOf i).toNat)
 case atStart => exact ⟨0, ⟨#[]⟩, rfl, rfl, Nat.zero_le _, Nat.zero_le _, rfl⟩
 case round =>
  obtain ⟨j, out, rfl, rfl, hle, hos, hex⟩ := hrel
  have HEX : Hid (expandAt (envOf own top) t j out = expandS (envOf own top) t) := hex
  clear hex
  have j0 : (0 : Int) ≤ (j : Int) := by omega
  have o0 : (out.size : Int) ≤ 2000000 := by omega
  by_cases hlt : j < t.size
  ·have j1 : (j : Int) < (t.size : Int) := by omega
   have hidx : ∀ wx, (Instr.index 9 (.string t) (.int .i64 j)).run Tryz.prog wx = .ok (.int .u8 (byteOf t j)) wx := fun wx => run_index_text t j hlt wx
   by_cases hd : byteOf t j = 36
   ·rw [hd] at hidx
    have HD : Hid (byteOf t j = 36) := hd
    clear hd
    by_cases hend : t.size ≤ j + 1
    ·have HN : Hid (expandS (envOf own top) t = none) := HEX.out.symm.trans (expandAt_none _ t j out hlt HD.out (by unfold formAt; rw [if_pos hend]))
     have e1 : ((j : Int) + 1 == (t.size : Int)) = true := by simp; omega
     go_wp2
     go_ret2
     exact ⟨by rw [HN.out]; rfl, rfl⟩
    ·have e1 : ((j : Int) + 1 == (t.size : Int)) = false := by simp; omega
     have HFA : Hid (formAt t j = (if byteOf t (j + 1) = 36 ∨ byteOf t (j + 1) = 32 ∨ byteOf t (j + 1) = 58 ∨ byteOf t (j + 1) = 124 then some (.inl (t.extract (j + 1) (j + 2)), j + 2)
       else if byteOf t (j + 1) = 123 then
        (if wordLenB (t.extract (j + 2) t.size) = 0 ∨ t.size ≤ j + 2 + wordLenB (t.extract (j + 2) t.size) ∨ byteOf t (j + 2 + wordLenB (t.extract (j + 2) t.size)) ≠ 125 then none
         else some (.inr (t.extract (j + 2) (j + 2 + wordLenB (t.extract (j + 2) t.size))), j + wordLenB (t.extract (j + 2) t.size) + 3))
       else if wordLenB (t.extract (j + 1) t.size) = 0 then none
       else some (.inr (t.extract (j + 1) (j + 1 + wordLenB (t.extract (j + 1) t.size))), j + 1 + wordLenB (t.extract (j + 1) t.size)))) := by
      show _ = _
      conv => lhs; unfold formAt
      rw [if_neg hend]
     have hidx1 : ∀ wx, (Instr.index 9 (.string t) (.int .i64 ((j : Int) + 1))).run Tryz.prog wx = .ok (.int .u8 (byteOf t (j + 1))) wx := fun wx => index_next t j 1 _ (by omega) (by omega) wx
     by_cases h4 : byteOf t (j + 1) = 36 ∨ byteOf t (j + 1) = 32 ∨ byteOf t (j + 1) = 58 ∨ byteOf t (j + 1) = 124
     ·have HF : Hid (formAt t j = some (.inl (t.extract (j + 1) (j + 2)), j + 2)) := by rw [HFA.out, if_pos h4]; rfl
      have HST : Hid (expandS (envOf own top) t = if 4000 < (out ++ t.extract (j + 1) (j + 2)).size then none else expandAt (envOf own top) t (j + 2) (out ++ t.extract (j + 1) (j + 2))) := HEX.out.symm.trans (expandAt_form _ t j _ _ out hlt HD.out HF.out)
      have hsl : ∀ wx, (Instr.slice 9 (.string t) (some (.int .i64 ((j : Int) + 1))) (some (.int .i64 ((j : Int) + 2))) none).run Tryz.prog wx = .ok (.string (t.extract (j + 1) (j + 2))) wx := fun wx => slice_mid t _ _ _ _ (by omega) (by omega) (by omega) (by omega) wx
      have hvs : (t.extract (j + 1) (j + 2)).size = 1 := by rw [ByteArray.size_extract]; omega
      clear HFA HF
      generalize t.extract (j + 1) (j + 2) = V at *
      have hcs : ¬ 9223372036854775807 < out.size + V.size := by omega
      have hsum : (out ++ V).size = out.size + V.size := ByteArray.size_append
      obtain ⟨K, hK⟩ : ∃ K, K = j + 2 := ⟨_, rfl⟩
      rw [← hK] at HST
      have HK : Hid (K ≤ t.size) := by show _ ≤ _; omega
      have HKJ : Hid (j < K) := by show _ < _; omega
      have HKE : Hid (K = j + 2) := hK
      clear hK
      rcases h4 with h4 | h4 | h4 | h4
      all_goals
       rw [h4] at hidx1
       clear h4
       by_cases hov : 4000 < (out ++ V).size
       ·have HN : Hid (expandS (envOf own top) t = none) := HST.out.trans (if_pos hov)
        have hov2 : (4000 : Int) < ((out ++ V).size : Int) := by omega
        go_wp2
        go_ret2
        exact ⟨by rw [HN.out]; rfl, rfl⟩
       ·have HN : Hid (expandAt (envOf own top) t K (out ++ V) = expandS (envOf own top) t) := (HST.out.trans (if_neg hov)).symm
        have HSZ : Hid ((out ++ V).size ≤ 4000 + K) := by show _ ≤ _; omega
        have hov2 : ¬ (4000 : Int) < ((out ++ V).size : Int) := by omega
        go_wp2
        exact ⟨⟨K, out ++ V, rfl, by rw [HKE.out]; go_num, HK.out, HSZ.out, HN.out⟩, by simp [intOf]; have := HKJ.out; have := HK.out; omega⟩
     ·have q1 : ¬ ((byteOf t (j + 1) : Int) = 36) := by omega
      have q2 : ¬ ((byteOf t (j + 1) : Int) = 32) := by omega
      have q3 : ¬ ((byteOf t (j + 1) : Int) = 58) := by omega
      have q4 : ¬ ((byteOf t (j + 1) : Int) = 124) := by omega
      rw [if_neg h4] at HFA
      clear h4
      have hj2 : j + 2 ≤ t.size := by omega
      by_cases h123 : byteOf t (j + 1) = 123
      ·rw [if_pos h123] at HFA
       rw [h123] at hidx1
       clear q1 q2 q3 q4 h123
       have hs2 : ∀ wx, (Instr.slice 9 (.string t) (some (.int .i64 ((j : Int) + 2))) none none).run Tryz.prog wx = .ok (.string (t.extract (j + 2) t.size)) wx := fun wx => slice_next t (j + 2) _ (by omega) hj2 wx
       have hsz2 : (t.extract (j + 2) t.size).size = t.size - (j + 2) := by rw [ByteArray.size_extract]; omega
       have HW : Hid (Calls Tryz.prog 289 #[.string (t.extract (j + 2) t.size)] w fun e w' => e = .returned (.int .i64 (wordLenB (t.extract (j + 2) t.size))) ∧ w' = w) := rwordLen_any _ (by omega) w
       have hN : wordLenB (t.extract (j + 2) t.size) ≤ t.size - (j + 2) := by rw [← hsz2]; exact spanLen_le _ _
       clear hsz2
       generalize wordLenB (t.extract (j + 2) t.size) = N at *
       generalize t.extract (j + 2) t.size = S2 at *
       have n0 : (0 : Int) ≤ (N : Int) := by omega
       have n1 : (N : Int) ≤ 1048576 := by omega
       by_cases hn0 : N = 0
       ·subst hn0
        have HN : Hid (expandS (envOf own top) t = none) := HEX.out.symm.trans (expandAt_none _ t j out hlt HD.out (by rw [HFA.out, if_pos (Or.inl rfl)]))
        go_wp2_with fail
        refine HW.out.mono ?_
        rintro e w' ⟨rfl, rfl⟩
        go_wp2
        go_ret2
        exact ⟨by rw [HN.out]; rfl, rfl⟩
       ·have n2 : ((N : Int) == 0) = false := by simp; omega
        by_cases hb : t.size ≤ j + 2 + N
        ·have HN : Hid (expandS (envOf own top) t = none) := HEX.out.symm.trans (expandAt_none _ t j out hlt HD.out (by rw [HFA.out, if_pos (Or.inr (Or.inl hb))]))
         have b1 : (t.size : Int) ≤ (j : Int) + 2 + (N : Int) := by omega
         go_wp2_with fail
         refine HW.out.mono ?_
         rintro e w' ⟨rfl, rfl⟩
         go_wp2
         go_ret2
         exact ⟨by rw [HN.out]; rfl, rfl⟩
        ·have b1 : (j : Int) + 2 + (N : Int) < (t.size : Int) := by omega
         have hidx2 : ∀ wx, (Instr.index 9 (.string t) (.int .i64 ((j : Int) + 2 + (N : Int)))).run Tryz.prog wx = .ok (.int .u8 (byteOf t (j + 2 + N))) wx := fun wx => index_next t (j + 2) N _ (by omega) (by omega) wx
         by_cases hy : byteOf t (j + 2 + N) = 125
         ·rw [hy] at hidx2
          have HF : Hid (formAt t j = some (.inr (t.extract (j + 2) (j + 2 + N)), j + N + 3)) := by rw [HFA.out, if_neg (by omega)]; rfl
          have HST : Hid (expandS (envOf own top) t = if 4000 < (out ++ envOf own top (t.extract (j + 2) (j + 2 + N))).size then none else expandAt (envOf own top) t (j + N + 3) (out ++ envOf own top (t.extract (j + 2) (j + 2 + N)))) := HEX.out.symm.trans (expandAt_form _ t j _ _ out hlt HD.out HF.out)
          have hsl : ∀ wx, (Instr.slice 9 (.string t) (some (.int .i64 ((j : Int) + 2))) (some (.int .i64 ((j : Int) + 2 + (N : Int)))) none).run Tryz.prog wx = .ok (.string (t.extract (j + 2) (j + 2 + N))) wx := fun wx => slice_mid t _ _ _ _ (by omega) (by omega) (by omega) (by omega) wx
          have HG := HGET.out (t.extract (j + 2) (j + 2 + N))
          have hvs := HE.out (t.extract (j + 2) (j + 2 + N))
          have HG : Hid (Calls Tryz.prog 290 #[.slice a1 OL c1, .slice a2 TL c2, .string (t.extract (j + 2) (j + 2 + N))] w fun e w' => e = .returned (.string (envOf own top (t.extract (j + 2) (j + 2 + N)))) ∧ w' = w) := HG
          clear HFA HF hy
          generalize envOf own top (t.extract (j + 2) (j + 2 + N)) = V at *
          generalize t.extract (j + 2) (j + 2 + N) = X at *
          have hcs : ¬ 9223372036854775807 < out.size + V.size := by omega
          have hsum : (out ++ V).size = out.size + V.size := ByteArray.size_append
          obtain ⟨K, hK⟩ : ∃ K, K = j + N + 3 := ⟨_, rfl⟩
          rw [← hK] at HST
          have HK : Hid (K ≤ t.size) := by show _ ≤ _; omega
          have HKJ : Hid (j < K) := by show _ < _; omega
          have HKE : Hid (K = j + N + 3) := hK
          clear hK hb
          go_wp2_with fail
          refine HW.out.mono ?_
          rintro e w' ⟨rfl, rfl⟩
          go_wp2_with fail
          refine HG.out.mono ?_
          rintro e w' ⟨rfl, rfl⟩
          by_cases hov : 4000 < (out ++ V).size
          ·have HN : Hid (expandS (envOf own top) t = none) := HST.out.trans (if_pos hov)
           have hov2 : (4000 : Int) < ((out ++ V).size : Int) := by omega
           go_wp2
           go_ret2
           exact ⟨by rw [HN.out]; rfl, rfl⟩
          ·have HN : Hid (expandAt (envOf own top) t K (out ++ V) = expandS (envOf own top) t) := (HST.out.trans (if_neg hov)).symm
           have HSZ : Hid ((out ++ V).size ≤ 4000 + K) := by show _ ≤ _; omega
           have hov2 : ¬ (4000 : Int) < ((out ++ V).size : Int) := by omega
           go_wp2
           exact ⟨⟨K, out ++ V, rfl, by rw [HKE.out]; go_num, HK.out, HSZ.out, HN.out⟩, by simp [intOf]; have := HKJ.out; have := HK.out; omega⟩
         ·have HN : Hid (expandS (envOf own top) t = none) := HEX.out.symm.trans (expandAt_none _ t j out hlt HD.out (by rw [HFA.out, if_pos (Or.inr (Or.inr hy))]))
          have hy2 : ((byteOf t (j + 2 + N) : Int) != 125) = true := by simp; omega
          generalize byteOf t (j + 2 + N) = y at *
          go_wp2_with fail
          refine HW.out.mono ?_
          rintro e w' ⟨rfl, rfl⟩
          go_wp2
          go_ret2
          exact ⟨by rw [HN.out]; rfl, rfl⟩
      ·rw [if_neg h123] at HFA
       have q5 : ¬ ((byteOf t (j + 1) : Int) = 123) := by omega
       generalize byteOf t (j + 1) = y at *
       have hs2 : ∀ wx, (Instr.slice 9 (.string t) (some (.int .i64 ((j : Int) + 1))) none none).run Tryz.prog wx = .ok (.string (t.extract (j + 1) t.size)) wx := fun wx => slice_next t (j + 1) _ (by omega) (by omega) wx
       have hsz2 : (t.extract (j + 1) t.size).size = t.size - (j + 1) := by rw [ByteArray.size_extract]; omega
       have HW : Hid (Calls Tryz.prog 289 #[.string (t.extract (j + 1) t.size)] w fun e w' => e = .returned (.int .i64 (wordLenB (t.extract (j + 1) t.size))) ∧ w' = w) := rwordLen_any _ (by omega) w
       have hN : wordLenB (t.extract (j + 1) t.size) ≤ t.size - (j + 1) := by rw [← hsz2]; exact spanLen_le _ _
       clear hsz2 h123
       generalize wordLenB (t.extract (j + 1) t.size) = N at *
       generalize t.extract (j + 1) t.size = S2 at *
       have n0 : (0 : Int) ≤ (N : Int) := by omega
       have n1 : (N : Int) ≤ 1048576 := by omega
       by_cases hn0 : N = 0
       ·subst hn0
        have HN : Hid (expandS (envOf own top) t = none) := HEX.out.symm.trans (expandAt_none _ t j out hlt HD.out (by rw [HFA.out, if_pos rfl]))
        go_wp2_with fail
        refine HW.out.mono ?_
        rintro e w' ⟨rfl, rfl⟩
        go_wp2
        go_ret2
        exact ⟨by rw [HN.out]; rfl, rfl⟩
       ·have n2 : ((N : Int) == 0) = false := by simp; omega
        have HF : Hid (formAt t j = some (.inr (t.extract (j + 1) (j + 1 + N)), j + 1 + N)) := by rw [HFA.out, if_neg hn0]; rfl
        have HST : Hid (expandS (envOf own top) t = if 4000 < (out ++ envOf own top (t.extract (j + 1) (j + 1 + N))).size then none else expandAt (envOf own top) t (j + 1 + N) (out ++ envOf own top (t.extract (j + 1) (j + 1 + N)))) := HEX.out.symm.trans (expandAt_form _ t j _ _ out hlt HD.out HF.out)
        have hsl : ∀ wx, (Instr.slice 9 (.string t) (some (.int .i64 ((j : Int) + 1))) (some (.int .i64 ((j : Int) + 1 + (N : Int)))) none).run Tryz.prog wx = .ok (.string (t.extract (j + 1) (j + 1 + N))) wx := fun wx => slice_mid t _ _ _ _ (by omega) (by omega) (by omega) (by omega) wx
        have hvs := HE.out (t.extract (j + 1) (j + 1 + N))
        have HG : Hid (Calls Tryz.prog 290 #[.slice a1 OL c1, .slice a2 TL c2, .string (t.extract (j + 1) (j + 1 + N))] w fun e w' => e = .returned (.string (envOf own top (t.extract (j + 1) (j + 1 + N)))) ∧ w' = w) := HGET.out _
        clear HFA HF
        generalize envOf own top (t.extract (j + 1) (j + 1 + N)) = V at *
        generalize t.extract (j + 1) (j + 1 + N) = X at *
        have hcs : ¬ 9223372036854775807 < out.size + V.size := by omega
        have hsum : (out ++ V).size = out.size + V.size := ByteArray.size_append
        obtain ⟨K, hK⟩ : ∃ K, K = j + 1 + N := ⟨_, rfl⟩
        rw [← hK] at HST
        have HK : Hid (K ≤ t.size) := by show _ ≤ _; omega
        have HKJ : Hid (j < K) := by show _ < _; omega
        have HKE : Hid (K = j + 1 + N) := hK
        clear hK
        go_wp2_with fail
        refine HW.out.mono ?_
        rintro e w' ⟨rfl, rfl⟩
        go_wp2_with fail
        refine HG.out.mono ?_
        rintro e w' ⟨rfl, rfl⟩
        by_cases hov : 4000 < (out ++ V).size
        ·have HN : Hid (expandS (envOf own top) t = none) := HST.out.trans (if_pos hov)
         have hov2 : (4000 : Int) < ((out ++ V).size : Int) := by omega
         go_wp2
         go_ret2
         exact ⟨by rw [HN.out]; rfl, rfl⟩
        ·have HN : Hid (expandAt (envOf own top) t K (out ++ V) = expandS (envOf own top) t) := (HST.out.trans (if_neg hov)).symm
         have HSZ : Hid ((out ++ V).size ≤ 4000 + K) := by show _ ≤ _; omega
         have hov2 : ¬ (4000 : Int) < ((out ++ V).size : Int) := by omega
         go_wp2
         exact ⟨⟨K, out ++ V, rfl, by rw [HKE.out]; go_num, HK.out, HSZ.out, HN.out⟩, by simp [intOf]; have := HKJ.out; have := HK.out; omega⟩
   ·have HD : Hid (expandAt (envOf own top) t (j + 1) (out ++ t.extract j (j + 1)) = expandS (envOf own top) t) := (expandAt_plain _ t j out hlt hd).symm.trans HEX.out
    have hd2 : ¬ ((byteOf t j : Int) = 36) := by omega
    generalize byteOf t j = x at *
    have hsl : ∀ wx, (Instr.slice 9 (.string t) (some (.int .i64 j)) (some (.int .i64 ((j : Int) + 1))) none).run Tryz.prog wx = .ok (.string (t.extract j (j + 1))) wx := fun wx => slice_mid t _ _ _ _ rfl (by omega) (by omega) (by omega) wx
    have hvs : (t.extract j (j + 1)).size = 1 := by rw [ByteArray.size_extract]; omega
    generalize t.extract j (j + 1) = V at *
    have hcs : ¬ 9223372036854775807 < out.size + V.size := by omega
    have HSZ : Hid ((out ++ V).size ≤ 4000 + (j + 1)) := by show _ ≤ _; rw [ByteArray.size_append]; omega
    clear hvs
    go_wp2
    exact ⟨⟨j + 1, out ++ V, rfl, by go_num, hlt, HSZ.out, HD.out⟩, by simp [intOf]; omega⟩
  ·obtain rfl : j = t.size := by omega
   have HN : Hid (expandS (envOf own top) t = some out) := HEX.out.symm.trans (expandAt_end _ t _ out (Nat.le_refl _))
   go_wp2
   go_ret2
   exact ⟨by rw [HN.out]; rfl, rfl⟩
end Go.Proofs.YthhbpebihgjpjaaGreatDoor
