import Derived.Test.YthhbpebihgjpjaaGreatDoorP03
import Derived.BigRegion
namespace Go.Proofs.YthhbpebihgjpjaaGreatDoor
open Go.RowKit
set_option maxRecDepth 1000000

def expPost (o : Option ByteArray) : Value := .tuple #[.string (o.getD ⟨#[]⟩), .bool o.isSome]
def envOf (own top : Binds) (x : ByteArray) : ByteArray := ((bindOf own x).or (bindOf top x)).getD ⟨#[]⟩
theorem index_next (t : ByteArray) (j k : Nat) (z : Int) (hz : z = ((j + k : Nat) : Int)) (h : j + k < t.size) (wx : World) : (Instr.index 9 (.string t) (.int .i64 z)).run Tryz.prog wx = .ok (.int .u8 (byteOf t (j + k))) wx := by
 subst hz; exact run_index_text t (j + k) h wx
theorem slice_next (t : ByteArray) (n : Nat) (z : Int) (hz : z = (n : Int)) (h : n ≤ t.size) (wx : World) : (Instr.slice 9 (.string t) (some (.int .i64 z)) none none).run Tryz.prog wx = .ok (.string (t.extract n t.size)) wx := by
 subst hz; exact slice_from t n h wx
theorem slice_mid (t : ByteArray) (a b : Nat) (y z : Int) (hy : y = (a : Int)) (hz : z = (b : Int)) (h : a ≤ b) (h2 : b ≤ t.size) (wx : World) : (Instr.slice 9 (.string t) (some (.int .i64 y)) (some (.int .i64 z)) none).run Tryz.prog wx = .ok (.string (t.extract a b)) wx := by
 subst hy hz
 simp [Instr.slice, run_underlying Tryz.underlying9, go_sem, h, h2]

set_option maxHeartbeats 8000000 in
theorem rexpand_any (t : ByteArray) (own top : Binds) (vo vt : Value) (w : World) (h1 : BindsAt w vo own) (h2 : BindsAt w vt top) (hs : own.length ≤ 1099511627776) (hs2 : top.length ≤ 1099511627776) (ht : t.size ≤ 1048576) (hE : ∀ x, (envOf own top x).size ≤ 1048576) :
  Calls Tryz.prog 215 #[.string t, vo, vt] w fun e w' => e = .returned (expPost (expandS (envOf own top) t)) ∧ w' = w := by
 have HGET : Hid (∀ x, Calls Tryz.prog 290 #[vo, vt, .string x] w fun e w' => e = .returned (.string (envOf own top x)) ∧ w' = w) := fun x => rget_any own top vo vt x w h1 h2 hs hs2
 have HE : Hid (∀ x, (envOf own top x).size ≤ 1048576) := hE
 have t0 : (t.size : Int) ≤ 1048576 := by omega
 have HT : Hid (t.size ≤ 1048576) := ht
 obtain ⟨a1, c1, rfl, _, _⟩ := h1
 obtain ⟨a2, c2, rfl, _, _⟩ := h2
 generalize own.length = OL at *
 generalize top.length = TL at *
 clear hs hs2 hE
 go_enter Tryz.func215, Tryz.ntmps215
 go_wp2_with fail
 go_loop [8, 9] (fun o i => ∃ (j : Nat) (out : ByteArray), o = .string out ∧ i = .int .i64 j ∧ j ≤ t.size ∧ out.size ≤ 4000 + j ∧ expandAt (envOf own top) t j out = expandS (envOf own top) t) (fun _ i => t.size - (intOf i).toNat)
 case atStart => exact ⟨0, ⟨#[]⟩, rfl, rfl, Nat.zero_le _, Nat.zero_le _, rfl⟩
 case round =>
  obtain ⟨j, out, rfl, rfl, hle, hos, hex⟩ := hrel
  have HEX : Hid (expandAt (envOf own top) t j out = expandS (envOf own top) t) := hex
  clear hex
  have j0 : (0 : Int) ≤ (j : Int) := by omega
  have o0 : (out.size : Int) ≤ 2000000 := by omega
  by_cases hlt : j < t.size
  ·have j1 : (j : Int) < (t.size : Int) := by omega
   have hidx : ∀ wx, (Instr.index 9 (.string t) (.int .i64 j)).run Tryz.prog wx = .ok (.int .u8 (byteOf t j)) wx := fun wx => run_index_text t j hlt wx
   by_cases hd : byteOf t j = 36
   ·rw [hd] at hidx
    have HD : Hid (byteOf t j = 36) := hd
    clear hd
    by_cases hend : t.size ≤ j + 1
    ·have HN : Hid (expandS (envOf own top) t = none) := HEX.out.symm.trans (expandAt_none _ t j out hlt HD.out (by unfold formAt; rw [if_pos hend]))
     have e1 : ((j : Int) + 1 == (t.size : Int)) = true := by simp; omega
     go_wp2
     go_ret2
     exact ⟨by rw [HN.out]; rfl, rfl⟩
    ·have e1 : ((j : Int) + 1 == (t.size : Int)) = false := by simp; omega
     have HFA : Hid (formAt t j = (if byteOf t (j + 1) = 36 ∨ byteOf t (j + 1) = 32 ∨ byteOf t (j + 1) = 58 ∨ byteOf t (j + 1) = 124 then some (.lit (t.extract (j + 1) (j + 2)), j + 2)
       else if byteOf t (j + 1) = 123 then
        (if wordLenB (t.extract (j + 2) t.size) = 0 ∨ t.size ≤ j + 2 + wordLenB (t.extract (j + 2) t.size) ∨ byteOf t (j + 2 + wordLenB (t.extract (j + 2) t.size)) ≠ 125 then none
         else some (.var (t.extract (j + 2) (j + 2 + wordLenB (t.extract (j + 2) t.size))), j + wordLenB (t.extract (j + 2) t.size) + 3))
       else if wordLenB (t.extract (j + 1) t.size) = 0 then none
       else some (.var (t.extract (j + 1) (j + 1 + wordLenB (t.extract (j + 1) t.size))), j + 1 + wordLenB (t.extract (j + 1) t.size)))) := by
      show _ = _
      conv => lhs; unfold formAt
      rw [if_neg hend]
     have hidx1 : ∀ wx, (Instr.index 9 (.string t) (.int .i64 ((j : Int) + 1))).run Tryz.prog wx = .ok (.int .u8 (byteOf t (j + 1))) wx := fun wx => index_next t j 1 _ (by omega) (by omega) wx
     by_cases h4 : byteOf t (j + 1) = 36 ∨ byteOf t (j + 1) = 32 ∨ byteOf t (j + 1) = 58 ∨ byteOf t (j + 1) = 124
     ·have HF : Hid (formAt t j = some (.lit (t.extract (j + 1) (j + 2)), j + 2)) := by rw [HFA.out, if_pos h4]; rfl
      have HST : Hid (expandS (envOf own top) t = if 4000 < (out ++ t.extract (j + 1) (j + 2)).size then none else expandAt (envOf own top) t (j + 2) (out ++ t.extract (j + 1) (j + 2))) := HEX.out.symm.trans (expandAt_form _ t j _ _ out hlt HD.out HF.out)
      have hsl : ∀ wx, (Instr.slice 9 (.string t) (some (.int .i64 ((j : Int) + 1))) (some (.int .i64 ((j : Int) + 2))) none).run Tryz.prog wx = .ok (.string (t.extract (j + 1) (j + 2))) wx := fun wx => slice_mid t _ _ _ _ (by omega) (by omega) (by omega) (by omega) wx
      have hvs : (t.extract (j + 1) (j + 2)).size = 1 := by rw [ByteArray.size_extract]; omega
      clear HFA HF
      generalize t.extract (j + 1) (j + 2) = V at *
      have hcs : ¬ 9223372036854775807 < out.size + V.size := by omega
      have hsum : (out ++ V).size = out.size + V.size := ByteArray.size_append
      obtain ⟨K, hK⟩ : ∃ K, K = j + 2 := ⟨_, rfl⟩
      rw [← hK] at HST
      have HK : Hid (K ≤ t.size) := by show _ ≤ _; omega
      have HKJ : Hid (j < K) := by show _ < _; omega
      have HKE : Hid (K = j + 2) := hK
      clear hK
      rcases h4 with h4 | h4 | h4 | h4
      all_goals
       rw [h4] at hidx1
       clear h4
       by_cases hov : 4000 < (out ++ V).size
       ·have HN : Hid (expandS (envOf own top) t = none) := HST.out.trans (if_pos hov)
        have hov2 : (4000 : Int) < ((out ++ V).size : Int) := by omega
        go_wp2
        go_ret2
        exact ⟨by rw [HN.out]; rfl, rfl⟩
       ·have HN : Hid (expandAt (envOf own top) t K (out ++ V) = expandS (envOf own top) t) := (HST.out.trans (if_neg hov)).symm
        have HSZ : Hid ((out ++ V).size ≤ 4000 + K) := by show _ ≤ _; omega
        have hov2 : ¬ (4000 : Int) < ((out ++ V).size : Int) := by omega
        go_wp2
        exact ⟨⟨K, out ++ V, rfl, by rw [HKE.out]; go_num, HK.out, HSZ.out, HN.out⟩, by simp [intOf]; have := HKJ.out; have := HK.out; omega⟩
     ·have q1 : ¬ ((byteOf t (j + 1) : Int) = 36) := by omega
      have q2 : ¬ ((byteOf t (j + 1) : Int) = 32) := by omega
      have q3 : ¬ ((byteOf t (j + 1) : Int) = 58) := by omega
      have q4 : ¬ ((byteOf t (j + 1) : Int) = 124) := by omega
      rw [if_neg h4] at HFA
      clear h4
      have hj2 : j + 2 ≤ t.size := by omega
      by_cases h123 : byteOf t (j + 1) = 123
      ·rw [if_pos h123] at HFA
       rw [h123] at hidx1
       clear q1 q2 q3 q4 h123
       have hs2 : ∀ wx, (Instr.slice 9 (.string t) (some (.int .i64 ((j : Int) + 2))) none none).run Tryz.prog wx = .ok (.string (t.extract (j + 2) t.size)) wx := fun wx => slice_next t (j + 2) _ (by omega) hj2 wx
       have hsz2 : (t.extract (j + 2) t.size).size = t.size - (j + 2) := by rw [ByteArray.size_extract]; omega
       have HW : Hid (Calls Tryz.prog 289 #[.string (t.extract (j + 2) t.size)] w fun e w' => e = .returned (.int .i64 (wordLenB (t.extract (j + 2) t.size))) ∧ w' = w) := rwordLen_any _ (by omega) w
       have hN : wordLenB (t.extract (j + 2) t.size) ≤ t.size - (j + 2) := by rw [← hsz2]; exact spanLen_le _ _
       clear hsz2
       generalize wordLenB (t.extract (j + 2) t.size) = N at *
       generalize t.extract (j + 2) t.size = S2 at *
       have n0 : (0 : Int) ≤ (N : Int) := by omega
       have n1 : (N : Int) ≤ 1048576 := by omega
       by_cases hn0 : N = 0
       ·subst hn0
        have HN : Hid (expandS (envOf own top) t = none) := HEX.out.symm.trans (expandAt_none _ t j out hlt HD.out (by rw [HFA.out, if_pos (Or.inl rfl)]))
        go_wp2_with fail
        refine HW.out.mono ?_
        rintro e w' ⟨rfl, rfl⟩
        go_wp2
        go_ret2
        exact ⟨by rw [HN.out]; rfl, rfl⟩
       ·have n2 : ((N : Int) == 0) = false := by simp; omega
        by_cases hb : t.size ≤ j + 2 + N
        ·have HN : Hid (expandS (envOf own top) t = none) := HEX.out.symm.trans (expandAt_none _ t j out hlt HD.out (by rw [HFA.out, if_pos (Or.inr (Or.inl hb))]))
         have b1 : (t.size : Int) ≤ (j : Int) + 2 + (N : Int) := by omega
         go_wp2_with fail
         refine HW.out.mono ?_
         rintro e w' ⟨rfl, rfl⟩
         go_wp2
         go_ret2
         exact ⟨by rw [HN.out]; rfl, rfl⟩
        ·have b1 : (j : Int) + 2 + (N : Int) < (t.size : Int) := by omega
         have hidx2 : ∀ wx, (Instr.index 9 (.string t) (.int .i64 ((j : Int) + 2 + (N : Int)))).run Tryz.prog wx = .ok (.int .u8 (byteOf t (j + 2 + N))) wx := fun wx => index_next t (j + 2) N _ (by omega) (by omega) wx
         by_cases hy : byteOf t (j + 2 + N) = 125
         ·rw [hy] at hidx2
          have HF : Hid (formAt t j = some (.var (t.extract (j + 2) (j + 2 + N)), j + N + 3)) := by rw [HFA.out, if_neg (by omega)]; rfl
          have HST : Hid (expandS (envOf own top) t = if 4000 < (out ++ envOf own top (t.extract (j + 2) (j + 2 + N))).size then none else expandAt (envOf own top) t (j + N + 3) (out ++ envOf own top (t.extract (j + 2) (j + 2 + N)))) := HEX.out.symm.trans (expandAt_form _ t j _ _ out hlt HD.out HF.out)
          have hsl : ∀ wx, (Instr.slice 9 (.string t) (some (.int .i64 ((j : Int) + 2))) (some (.int .i64 ((j : Int) + 2 + (N : Int)))) none).run Tryz.prog wx = .ok (.string (t.extract (j + 2) (j + 2 + N))) wx := fun wx => slice_mid t _ _ _ _ (by omega) (by omega) (by omega) (by omega) wx
          have HG := HGET.out (t.extract (j + 2) (j + 2 + N))
          have hvs := HE.out (t.extract (j + 2) (j + 2 + N))
          have HG : Hid (Calls Tryz.prog 290 #[.slice a1 OL c1, .slice a2 TL c2, .string (t.extract (j + 2) (j + 2 + N))] w fun e w' => e = .returned (.string (envOf own top (t.extract (j + 2) (j + 2 + N)))) ∧ w' = w) := HG
          clear HFA HF hy
          generalize envOf own top (t.extract (j + 2) (j + 2 + N)) = V at *
          generalize t.extract (j + 2) (j + 2 + N) = X at *
          have hcs : ¬ 9223372036854775807 < out.size + V.size := by omega
          have hsum : (out ++ V).size = out.size + V.size := ByteArray.size_append
          obtain ⟨K, hK⟩ : ∃ K, K = j + N + 3 := ⟨_, rfl⟩
          rw [← hK] at HST
          have HK : Hid (K ≤ t.size) := by show _ ≤ _; omega
          have HKJ : Hid (j < K) := by show _ < _; omega
          have HKE : Hid (K = j + N + 3) := hK
          clear hK hb
          go_wp2_with fail
          refine HW.out.mono ?_
          rintro e w' ⟨rfl, rfl⟩
          go_wp2_with fail
          refine HG.out.mono ?_
          rintro e w' ⟨rfl, rfl⟩
          by_cases hov : 4000 < (out ++ V).size
          ·have HN : Hid (expandS (envOf own top) t = none) := HST.out.trans (if_pos hov)
           have hov2 : (4000 : Int) < ((out ++ V).size : Int) := by omega
           go_wp2
           go_ret2
           exact ⟨by rw [HN.out]; rfl, rfl⟩
          ·have HN : Hid (expandAt (envOf own top) t K (out ++ V) = expandS (envOf own top) t) := (HST.out.trans (if_neg hov)).symm
           have HSZ : Hid ((out ++ V).size ≤ 4000 + K) := by show _ ≤ _; omega
           have hov2 : ¬ (4000 : Int) < ((out ++ V).size : Int) := by omega
           go_wp2
           exact ⟨⟨K, out ++ V, rfl, by rw [HKE.out]; go_num, HK.out, HSZ.out, HN.out⟩, by simp [intOf]; have := HKJ.out; have := HK.out; omega⟩
         ·have HN : Hid (expandS (envOf own top) t = none) := HEX.out.symm.trans (expandAt_none _ t j out hlt HD.out (by rw [HFA.out, if_pos (Or.inr (Or.inr hy))]))
          have hy2 : ((byteOf t (j + 2 + N) : Int) != 125) = true := by simp; omega
          generalize byteOf t (j + 2 + N) = y at *
          go_wp2_with fail
          refine HW.out.mono ?_
          rintro e w' ⟨rfl, rfl⟩
          go_wp2
          go_ret2
          exact ⟨by rw [HN.out]; rfl, rfl⟩
      ·rw [if_neg h123] at HFA
       have q5 : ¬ ((byteOf t (j + 1) : Int) = 123) := by omega
       generalize byteOf t (j + 1) = y at *
       have hs2 : ∀ wx, (Instr.slice 9 (.string t) (some (.int .i64 ((j : Int) + 1))) none none).run Tryz.prog wx = .ok (.string (t.extract (j + 1) t.size)) wx := fun wx => slice_next t (j + 1) _ (by omega) (by omega) wx
       have hsz2 : (t.extract (j + 1) t.size).size = t.size - (j + 1) := by rw [ByteArray.size_extract]; omega
       have HW : Hid (Calls Tryz.prog 289 #[.string (t.extract (j + 1) t.size)] w fun e w' => e = .returned (.int .i64 (wordLenB (t.extract (j + 1) t.size))) ∧ w' = w) := rwordLen_any _ (by omega) w
       have hN : wordLenB (t.extract (j + 1) t.size) ≤ t.size - (j + 1) := by rw [← hsz2]; exact spanLen_le _ _
       clear hsz2 h123
       generalize wordLenB (t.extract (j + 1) t.size) = N at *
       generalize t.extract (j + 1) t.size = S2 at *
       have n0 : (0 : Int) ≤ (N : Int) := by omega
       have n1 : (N : Int) ≤ 1048576 := by omega
       by_cases hn0 : N = 0
       ·subst hn0
        have HN : Hid (expandS (envOf own top) t = none) := HEX.out.symm.trans (expandAt_none _ t j out hlt HD.out (by rw [HFA.out, if_pos rfl]))
        go_wp2_with fail
        refine HW.out.mono ?_
        rintro e w' ⟨rfl, rfl⟩
        go_wp2
        go_ret2
        exact ⟨by rw [HN.out]; rfl, rfl⟩
       ·have n2 : ((N : Int) == 0) = false := by simp; omega
        have HF : Hid (formAt t j = some (.var (t.extract (j + 1) (j + 1 + N)), j + 1 + N)) := by rw [HFA.out, if_neg hn0]; rfl
        have HST : Hid (expandS (envOf own top) t = if 4000 < (out ++ envOf own top (t.extract (j + 1) (j + 1 + N))).size then none else expandAt (envOf own top) t (j + 1 + N) (out ++ envOf own top (t.extract (j + 1) (j + 1 + N)))) := HEX.out.symm.trans (expandAt_form _ t j _ _ out hlt HD.out HF.out)
        have hsl : ∀ wx, (Instr.slice 9 (.string t) (some (.int .i64 ((j : Int) + 1))) (some (.int .i64 ((j : Int) + 1 + (N : Int)))) none).run Tryz.prog wx = .ok (.string (t.extract (j + 1) (j + 1 + N))) wx := fun wx => slice_mid t _ _ _ _ (by omega) (by omega) (by omega) (by omega) wx
        have hvs := HE.out (t.extract (j + 1) (j + 1 + N))
        have HG : Hid (Calls Tryz.prog 290 #[.slice a1 OL c1, .slice a2 TL c2, .string (t.extract (j + 1) (j + 1 + N))] w fun e w' => e = .returned (.string (envOf own top (t.extract (j + 1) (j + 1 + N)))) ∧ w' = w) := HGET.out _
        clear HFA HF
        generalize envOf own top (t.extract (j + 1) (j + 1 + N)) = V at *
        generalize t.extract (j + 1) (j + 1 + N) = X at *
        have hcs : ¬ 9223372036854775807 < out.size + V.size := by omega
        have hsum : (out ++ V).size = out.size + V.size := ByteArray.size_append
        obtain ⟨K, hK⟩ : ∃ K, K = j + 1 + N := ⟨_, rfl⟩
        rw [← hK] at HST
        have HK : Hid (K ≤ t.size) := by show _ ≤ _; omega
        have HKJ : Hid (j < K) := by show _ < _; omega
        have HKE : Hid (K = j + 1 + N) := hK
        clear hK
        go_wp2_with fail
        refine HW.out.mono ?_
        rintro e w' ⟨rfl, rfl⟩
        go_wp2_with fail
        refine HG.out.mono ?_
        rintro e w' ⟨rfl, rfl⟩
        by_cases hov : 4000 < (out ++ V).size
        ·have HN : Hid (expandS (envOf own top) t = none) := HST.out.trans (if_pos hov)
         have hov2 : (4000 : Int) < ((out ++ V).size : Int) := by omega
         go_wp2
         go_ret2
         exact ⟨by rw [HN.out]; rfl, rfl⟩
        ·have HN : Hid (expandAt (envOf own top) t K (out ++ V) = expandS (envOf own top) t) := (HST.out.trans (if_neg hov)).symm
         have HSZ : Hid ((out ++ V).size ≤ 4000 + K) := by show _ ≤ _; omega
         have hov2 : ¬ (4000 : Int) < ((out ++ V).size : Int) := by omega
         go_wp2
         exact ⟨⟨K, out ++ V, rfl, by rw [HKE.out]; go_num, HK.out, HSZ.out, HN.out⟩, by simp [intOf]; have := HKJ.out; have := HK.out; omega⟩
   ·have HD : Hid (expandAt (envOf own top) t (j + 1) (out ++ t.extract j (j + 1)) = expandS (envOf own top) t) := (expandAt_plain _ t j out hlt hd).symm.trans HEX.out
    have hd2 : ¬ ((byteOf t j : Int) = 36) := by omega
    generalize byteOf t j = x at *
    have hsl : ∀ wx, (Instr.slice 9 (.string t) (some (.int .i64 j)) (some (.int .i64 ((j : Int) + 1))) none).run Tryz.prog wx = .ok (.string (t.extract j (j + 1))) wx := fun wx => slice_mid t _ _ _ _ rfl (by omega) (by omega) (by omega) wx
    have hvs : (t.extract j (j + 1)).size = 1 := by rw [ByteArray.size_extract]; omega
    generalize t.extract j (j + 1) = V at *
    have hcs : ¬ 9223372036854775807 < out.size + V.size := by omega
    have HSZ : Hid ((out ++ V).size ≤ 4000 + (j + 1)) := by show _ ≤ _; rw [ByteArray.size_append]; omega
    clear hvs
    go_wp2
    exact ⟨⟨j + 1, out ++ V, rfl, by go_num, hlt, HSZ.out, HD.out⟩, by simp [intOf]; omega⟩
  ·obtain rfl : j = t.size := by omega
   have HN : Hid (expandS (envOf own top) t = some out) := HEX.out.symm.trans (expandAt_end _ t _ out (Nat.le_refl _))
   go_wp2
   go_ret2
   exact ⟨by rw [HN.out]; rfl, rfl⟩
end Go.Proofs.YthhbpebihgjpjaaGreatDoor

namespace Go.Proofs.YthhbpebihgjpjaaGreatDoor
open Go.RowKit Go.Shelf
set_option maxRecDepth 1000000

theorem byteOf_extract (t : ByteArray) (a b k : Nat) (h : a + k < b) (hb : b ≤ t.size) : byteOf (t.extract a b) k = byteOf t (a + k) := by
 unfold byteOf
 rw [ByteArray.data_extract, Array.getElem?_extract, if_pos (by show k < min b t.data.size - a; have : t.data.size = t.size := rfl; omega)]
theorem extract_of (t : ByteArray) (a b c d : Nat) (h : a + d ≤ b) : (t.extract a b).extract c d = t.extract (a + c) (a + d) := by
 rw [ByteArray.extract_extract, Nat.min_eq_left h]
theorem below_drewN {B : Nat} {a w : World} (h : Below B a w) (n : Nat) : Below B a (w.drewN n) := ⟨h.os, h.tape, h.output, h.size, h.block⟩
theorem below_store3 (w : World) (o : Obj) (n : Nat) (x y z : Value) : Below w.heap.size w (((((w.alloc o).drewN n).setCell ⟨w.heap.size, 0, none⟩ x).setCell ⟨w.heap.size, 1, none⟩ y).setCell ⟨w.heap.size, 2, none⟩ z) :=
 (((below_drewN ((Below.refl _ _).alloc (Nat.le_refl _) _) n).setCell (p := ⟨w.heap.size, 0, none⟩) (Nat.le_refl _) x).setCell (p := ⟨w.heap.size, 1, none⟩) (Nat.le_refl _) y).setCell (p := ⟨w.heap.size, 2, none⟩) (Nat.le_refl _) z
def begins (t : ByteArray) (c : Nat) : Bool := decide (0 < t.size ∧ byteOf t 0 = c)
theorem begins_prefix (t : ByteArray) (c : UInt8) : Lib.hasPrefix t.data.toList [c] = begins t c.toNat := by
 unfold Lib.hasPrefix begins byteOf
 rw [← Array.getElem?_toList]
 have hs : t.size = t.data.toList.length := by rw [Array.length_toList]; rfl
 rw [hs]
 cases t.data.toList with
 | nil => rfl
 | cons d l =>
  show (c == d && ([] : List UInt8).isPrefixOf l) = _
  rw [Bool.eq_iff_iff]
  simp
  exact ⟨fun e => by rw [e], fun e => (UInt8.toNat_inj.1 e).symm⟩
def formU (u : ByteArray) : Option (Form × Nat) :=
 if u.size = 0 then none
 else if byteOf u 0 = 36 ∨ byteOf u 0 = 32 ∨ byteOf u 0 = 58 ∨ byteOf u 0 = 124 then some (.lit (u.extract 0 1), 1)
 else if byteOf u 0 = 123 then
  (if wordLenB (u.extract 1 u.size) = 0 ∨ begins (tailB (u.extract 1 u.size)) 125 = false then none else some (.var (headB (u.extract 1 u.size)), wordLenB (u.extract 1 u.size) + 2))
 else if wordLenB u = 0 then none
 else some (.var (headB u), wordLenB u)
theorem formAt_u (t : ByteArray) (i : Nat) (h : i < t.size) : formAt t i = (formU (t.extract (i + 1) t.size)).map fun p => (p.1, i + 1 + p.2) := by
 have hsz : (t.extract (i + 1) t.size).size = t.size - (i + 1) := by rw [ByteArray.size_extract]; omega
 unfold formAt formU
 rw [hsz]
 by_cases h0 : t.size ≤ i + 1
 ·rw [if_pos h0, if_pos (show t.size - (i + 1) = 0 by omega)]; rfl
 ·rw [if_neg h0, if_neg (show ¬ t.size - (i + 1) = 0 by omega)]
  have hb0 : byteOf (t.extract (i + 1) t.size) 0 = byteOf t (i + 1) := by rw [byteOf_extract _ _ _ _ (by omega) (Nat.le_refl _)]
  rw [hb0]
  by_cases h1 : byteOf t (i + 1) = 36 ∨ byteOf t (i + 1) = 32 ∨ byteOf t (i + 1) = 58 ∨ byteOf t (i + 1) = 124
  ·rw [if_pos h1, if_pos h1, extract_of _ _ _ _ _ (by omega)]; rfl
  ·rw [if_neg h1, if_neg h1]
   have hx1 : (t.extract (i + 1) t.size).extract 1 (t.size - (i + 1)) = t.extract (i + 2) t.size := by
    rw [extract_of _ _ _ _ _ (by omega), show i + 1 + (t.size - (i + 1)) = t.size by omega]
   by_cases h2 : byteOf t (i + 1) = 123
   ·rw [if_pos h2, if_pos h2, hx1]
    have hl : wordLenB (t.extract (i + 2) t.size) ≤ (t.extract (i + 2) t.size).size := spanLen_le _ _
    have hsz2 : (t.extract (i + 2) t.size).size = t.size - (i + 2) := by rw [ByteArray.size_extract]; omega
    have htl : tailB (t.extract (i + 2) t.size) = t.extract (i + 2 + wordLenB (t.extract (i + 2) t.size)) t.size := by
     unfold tailB
     rw [hsz2, extract_of _ _ _ _ _ (by omega), show i + 2 + (t.size - (i + 2)) = t.size by omega]
    have hhd : headB (t.extract (i + 2) t.size) = t.extract (i + 2) (i + 2 + wordLenB (t.extract (i + 2) t.size)) := by
     unfold headB
     rw [extract_of _ _ _ _ _ (by omega), Nat.add_zero]
    rw [htl, hhd]
    generalize wordLenB (t.extract (i + 2) t.size) = N at *
    have hbg : begins (t.extract (i + 2 + N) t.size) 125 = false ↔ (t.size ≤ i + 2 + N ∨ byteOf t (i + 2 + N) ≠ 125) := by
     unfold begins
     rw [decide_eq_false_iff_not, ByteArray.size_extract]
     by_cases hq : t.size ≤ i + 2 + N
     ·exact ⟨fun _ => Or.inl hq, fun _ hc => by omega⟩
     ·rw [byteOf_extract _ _ _ _ (by omega) (Nat.le_refl _)]
      show ¬ (_ ∧ byteOf t (i + 2 + N) = 125) ↔ _
      omega
    by_cases h3 : N = 0 ∨ t.size ≤ i + 2 + N ∨ byteOf t (i + 2 + N) ≠ 125
    ·rw [if_pos h3, if_pos (h3.imp id hbg.2)]; rfl
    ·rw [if_neg h3, if_neg (fun c => h3 (c.imp id hbg.1))]
     show some (_, _) = some (_, i + 1 + (N + 2))
     rw [show i + 1 + (N + 2) = i + N + 3 by omega]
   ·rw [if_neg h2, if_neg h2]
    have hl : wordLenB (t.extract (i + 1) t.size) ≤ (t.extract (i + 1) t.size).size := spanLen_le _ _
    have hhd : headB (t.extract (i + 1) t.size) = t.extract (i + 1) (i + 1 + wordLenB (t.extract (i + 1) t.size)) := by
     unfold headB
     rw [extract_of _ _ _ _ _ (by omega), Nat.add_zero]
    rw [hhd]
    generalize wordLenB (t.extract (i + 1) t.size) = N at *
    by_cases h3 : N = 0
    ·rw [if_pos h3, if_pos h3]; rfl
    ·rw [if_neg h3, if_neg h3]; rfl
def FormIs : Option (Form × Nat) → ByteArray → ByteArray → Int → Prop
 | none, _, _, _ => True
 | some (.lit b, n), lit, var, k => lit = b ∧ var = ⟨#[]⟩ ∧ k = n
 | some (.var x, n), lit, var, k => lit = ⟨#[]⟩ ∧ var = x ∧ k = n
def formPost (o : Option (Form × Nat)) (e : Ending) : Prop := ∃ lit var k, e = .returned (.tuple #[.agg #[.string lit, .string var, .int .i64 k], .bool o.isSome]) ∧ FormIs o lit var k
set_option maxHeartbeats 4000000 in
theorem formOf_any (u : ByteArray) (hu : u.size ≤ 1048576) (w : World) :
  Calls Tryz.prog 273 #[.string u] w fun e w' => formPost (formU u) e ∧ Below w.heap.size w w' := by
 have hn := nil_iff u
 have HU : Hid (u.size ≤ 1048576) := hu
 by_cases h0 : u.size = 0
 ·have HF : Hid (formU u = none) := by show _ = _; unfold formU; rw [if_pos h0]
  rw [decide_eq_true h0] at hn
  go_enter Tryz.func273, Tryz.ntmps273
  go_wp2
  refine bodyPost_ret (v := .tuple #[.agg #[.string ⟨#[]⟩, .string ⟨#[]⟩, .int .i64 0], .bool false]) (by simp [results, Tryz.results273, go_sem]) rfl ⟨?_, ?_⟩
  ·rw [HF.out]; exact ⟨_, _, _, rfl, trivial⟩
  ·exact (Below.refl _ _).alloc (Nat.le_refl _) _
 ·rw [decide_eq_false h0] at hn
  have u0 : (0 : Int) < (u.size : Int) := by omega
  have hidx : ∀ wx, (Instr.index 9 (.string u) (.int .i64 0)).run Tryz.prog wx = .ok (.int .u8 (byteOf u 0)) wx := fun wx => run_index_text u 0 (by omega) wx
  have HFU : Hid (formU u = (if byteOf u 0 = 36 ∨ byteOf u 0 = 32 ∨ byteOf u 0 = 58 ∨ byteOf u 0 = 124 then some (.lit (u.extract 0 1), 1)
    else if byteOf u 0 = 123 then
     (if wordLenB (u.extract 1 u.size) = 0 ∨ begins (tailB (u.extract 1 u.size)) 125 = false then none else some (.var (headB (u.extract 1 u.size)), wordLenB (u.extract 1 u.size) + 2))
    else if wordLenB u = 0 then none
    else some (.var (headB u), wordLenB u))) := by
   show _ = _
   conv => lhs; unfold formU
   rw [if_neg h0]
  by_cases h4 : byteOf u 0 = 36 ∨ byteOf u 0 = 32 ∨ byteOf u 0 = 58 ∨ byteOf u 0 = 124
  ·have HF : Hid (formU u = some (.lit (u.extract 0 1), 1)) := by rw [HFU.out, if_pos h4]; rfl
   have hsl : ∀ wx, (Instr.slice 9 (.string u) none (some (.int .i64 1)) none).run Tryz.prog wx = .ok (.string (u.extract 0 1)) wx := fun wx => slice_head u 1 (by omega) wx
   clear HFU
   generalize u.extract 0 1 = V at *
   rcases h4 with h4 | h4 | h4 | h4
   all_goals
    rw [h4] at hidx
    clear h4
    go_enter Tryz.func273, Tryz.ntmps273
    go_wp2
    refine bodyPost_ret (v := .tuple #[.agg #[.string V, .string ⟨#[]⟩, .int .i64 1], .bool true]) (by simp [results, Tryz.results273, go_sem]) rfl ⟨?_, ?_⟩
    ·rw [HF.out]; exact ⟨_, _, _, rfl, rfl, rfl, rfl⟩
    ·exact (Below.refl _ _).alloc (Nat.le_refl _) _
  ·rw [if_neg h4] at HFU
   have q1 : ((byteOf u 0 : Int) == 36) = false := by simp; omega
   have q2 : ((byteOf u 0 : Int) == 32) = false := by simp; omega
   have q3 : ((byteOf u 0 : Int) == 58) = false := by simp; omega
   have q4 : ((byteOf u 0 : Int) == 124) = false := by simp; omega
   clear h4
   by_cases h123 : byteOf u 0 = 123
   ·rw [if_pos h123] at HFU
    rw [h123] at hidx
    clear q1 q2 q3 q4 h123
    have hs1 : ∀ wx, (Instr.slice 9 (.string u) (some (.int .i64 1)) none none).run Tryz.prog wx = .ok (.string (u.extract 1 u.size)) wx := fun wx => slice_from u 1 (by omega) wx
    have hsz : (u.extract 1 u.size).size ≤ 1048576 := by rw [ByteArray.size_extract]; omega
    generalize u.extract 1 u.size = S at *
    have HCW : Hid (∀ wx, Calls Tryz.prog 194 #[.string S] wx fun e w' => e = .returned (.tuple #[.string (headB S), .string (tailB S)]) ∧ ∃ n, w' = wx.drewN n) := fun wx => cutWord_any S (by omega) wx
    have hpre : ∀ wx, Calls Tryz.prog 193 #[.string (tailB S), .string ⟨#[125]⟩] wx fun e w' => e = .returned (.bool (begins (tailB S) 125)) ∧ w' = wx := fun wx => by
     have := Any.strings_HasPrefix Tryz.lays99 (tailB S) ⟨#[125]⟩ wx
     rw [show (⟨#[125]⟩ : ByteArray).data.toList = [125] from rfl, begins_prefix] at this
     exact this
    have HPRE : Hid (∀ wx, Calls Tryz.prog 193 #[.string (tailB S), .string ⟨#[125]⟩] wx fun e w' => e = .returned (.bool (begins (tailB S) 125)) ∧ w' = wx) := hpre
    have hl : wordLenB S ≤ S.size := spanLen_le _ _
    have hhs := headB_size S
    have hnn := nil_iff (headB S)
    rw [hhs] at hnn
    clear hpre
    generalize begins (tailB S) 125 = B at *
    generalize tailB S = TL at *
    generalize headB S = HD at *
    have hd0 : (HD.size : Int) ≤ 1048576 := by omega
    have hd1 : HD.size = wordLenB S := hhs
    rw [← hd1] at HFU hnn
    clear hhs hl
    generalize wordLenB S = N at *
    subst hd1
    by_cases hN : HD.size = 0
    ·rw [decide_eq_true hN] at hnn
     have HF : Hid (formU u = none) := by rw [HFU.out, if_pos (Or.inl hN)]; rfl
     go_enter Tryz.func273, Tryz.ntmps273
     go_wp2_with fail
     refine (HCW.out _).mono ?_
     rintro e w2 ⟨rfl, n2, rfl⟩
     go_wp2_with fail
     refine bodyPost_ret (v := .tuple #[.agg #[.string ⟨#[]⟩, .string HD, .int .i64 2], .bool false]) (by simp [results, Tryz.results273, go_sem]) rfl ⟨?_, ?_⟩
     ·rw [HF.out]; exact ⟨_, _, _, rfl, trivial⟩
     ·exact below_store3 w _ n2 _ _ _
    ·rw [decide_eq_false hN] at hnn
     go_enter Tryz.func273, Tryz.ntmps273
     go_wp2_with fail
     refine (HCW.out _).mono ?_
     rintro e w2 ⟨rfl, n2, rfl⟩
     go_wp2_with fail
     refine (HPRE.out _).mono ?_
     rintro e w3 ⟨rfl, rfl⟩
     cases B with
     | false =>
      have HF : Hid (formU u = none) := by rw [HFU.out, if_pos (Or.inr rfl)]; rfl
      go_wp2_with fail
      refine bodyPost_ret (v := .tuple #[.agg #[.string ⟨#[]⟩, .string HD, .int .i64 ((HD.size : Int) + 2)], .bool false]) (by simp [results, Tryz.results273, go_sem]) rfl ⟨?_, ?_⟩
      ·rw [HF.out]; exact ⟨_, _, _, rfl, trivial⟩
      ·exact below_store3 w _ n2 _ _ _
     | true =>
      have HF : Hid (formU u = some (.var HD, HD.size + 2)) := by rw [HFU.out, if_neg (by simp [hN])]; rfl
      go_wp2_with fail
      refine bodyPost_ret (v := .tuple #[.agg #[.string ⟨#[]⟩, .string HD, .int .i64 ((HD.size : Int) + 2)], .bool true]) (by simp [results, Tryz.results273, go_sem]) rfl ⟨?_, ?_⟩
      ·rw [HF.out]; exact ⟨_, _, _, rfl, rfl, rfl, by omega⟩
      ·exact below_store3 w _ n2 _ _ _
   ·rw [if_neg h123] at HFU
    have q5 : ((byteOf u 0 : Int) == 123) = false := by simp; omega
    generalize byteOf u 0 = y at *
    have HCW : Hid (∀ wx, Calls Tryz.prog 194 #[.string u] wx fun e w' => e = .returned (.tuple #[.string (headB u), .string (tailB u)]) ∧ ∃ n, w' = wx.drewN n) := fun wx => cutWord_any u (by omega) wx
    have hl : wordLenB u ≤ u.size := spanLen_le _ _
    have hhs := headB_size u
    have hnn := nil_iff (headB u)
    rw [hhs] at hnn
    generalize tailB u = TL at *
    generalize headB u = HD at *
    have hd0 : (HD.size : Int) ≤ 1048576 := by omega
    have hd1 : HD.size = wordLenB u := hhs
    rw [← hd1] at HFU hnn
    clear hhs hl
    generalize wordLenB u = N at *
    subst hd1
    by_cases hN : HD.size = 0
    ·rw [decide_eq_true hN] at hnn
     have HF : Hid (formU u = none) := by rw [HFU.out, if_pos hN]; rfl
     go_enter Tryz.func273, Tryz.ntmps273
     go_wp2_with fail
     refine (HCW.out _).mono ?_
     rintro e w2 ⟨rfl, n2, rfl⟩
     go_wp2_with fail
     refine bodyPost_ret (v := .tuple #[.agg #[.string ⟨#[]⟩, .string HD, .int .i64 0], .bool false]) (by simp [results, Tryz.results273, go_sem]) rfl ⟨?_, ?_⟩
     ·rw [HF.out]; exact ⟨_, _, _, rfl, trivial⟩
     ·exact below_store3 w _ n2 _ _ _
    ·rw [decide_eq_false hN] at hnn
     have HF : Hid (formU u = some (.var HD, HD.size)) := by rw [HFU.out, if_neg hN]; rfl
     go_enter Tryz.func273, Tryz.ntmps273
     go_wp2_with fail
     refine (HCW.out _).mono ?_
     rintro e w2 ⟨rfl, n2, rfl⟩
     go_wp2_with fail
     refine bodyPost_ret (v := .tuple #[.agg #[.string ⟨#[]⟩, .string HD, .int .i64 HD.size], .bool true]) (by simp [results, Tryz.results273, go_sem]) rfl ⟨?_, ?_⟩
     ·rw [HF.out]; exact ⟨_, _, _, rfl, rfl, rfl, rfl⟩
     ·exact below_store3 w _ n2 _ _ _
end Go.Proofs.YthhbpebihgjpjaaGreatDoor
