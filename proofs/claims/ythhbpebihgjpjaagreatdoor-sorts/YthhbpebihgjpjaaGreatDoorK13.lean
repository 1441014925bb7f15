import Derived.Test.YthhbpebihgjpjaaGreatDoorK03
import Derived.BigRegion
import Derived.Deep.AppendLies
import Derived.Laws.AppendOwnNone
import Derived.Test.YthhbpebihgjpjaaGreatDoorK12
import Derived.Test.YthhbpebihgjpjaaGreatDoorK08
import Derived.Test.YthhbpebihgjpjaaGreatDoorK06
import Derived.Lib.SplitLaws
import Derived.Lib.CountLaws
namespace Go.Proofs.YthhbpebihgjpjaaGreatDoor
open Go.RowKit
set_option maxRecDepth 1000000

/-- An owned row of texts is a list that is there. -/
theorem texts_of_row {w : World} {base : Nat} {v : Value} {l : List ByteArray} (h : w.ownsRow base 9 1 v l.length (l.map Value.string)) : TextsAt w v l := by
  obtain ⟨_, ⟨rfl, h0⟩ | ⟨g, cap, cur, rfl, _, hh, hc, _, _, htk⟩⟩ := h
  · have : l = [] := List.eq_nil_of_length_eq_zero h0
    subst this
    exact ⟨none, 0, rfl, Nat.le_refl _, Or.inl ⟨fun _ => rfl, rfl, trivial⟩⟩
  · refine ⟨_, cap, rfl, hc, Or.inr ⟨g, 0, rfl, fun k s hs => ?_⟩⟩
    have hk : k < l.length := (List.getElem?_eq_some_iff.1 hs).1
    rw [Nat.zero_add, cell_of_row _ _ _ _ _ _ hh, ← Array.getElem?_toList]
    have h2 : (l.map Value.string)[k]? = some (.string s) := by simp [hs]
    rw [← htk, List.getElem?_take, if_pos (by omega)] at h2
    exact h2

set_option maxHeartbeats 2000000 in
theorem texts_any (l : List ByteArray) (v : Value) (w : World) (h : TextsAt w v l) (hs : l.length ≤ 1048576) :
    Calls Tryz.prog 84 #[v] w fun e w' => ∃ v', e = .returned v' ∧ w'.ownsRow w.heap.size 9 1 v' l.length (l.map Value.string) ∧ Below w.heap.size w w' := by
  have hinf : (Tryz.prog.info? 9).map (fun i => (i.size, i.bytes, i.zero)) = some (1, 16, some (.string ⟨#[]⟩)) := by kernel_rfl
  obtain ⟨ti, hti, htj⟩ := Option.map_eq_some_iff.1 hinf
  simp only [Prod.mk.injEq] at htj
  have HTI : Hid (Tryz.prog.info? 9 = some ti ∧ ti.size = 1 ∧ ti.bytes = 16 ∧ ti.zero = some (.string ⟨#[]⟩)) := ⟨hti, htj.1, htj.2.1, htj.2.2⟩
  have HBA : Hid (Below w.heap.size w (w.alloc (.cells #[] 9))) := (Below.refl _ _).alloc (Nat.le_refl _) _
  have HOW : Hid ((w.alloc (.cells #[] 9)).ownsRow w.heap.size 9 1 (.slice (some ⟨w.heap.size, 0, none⟩) 0 0) 0 []) := ⟨rfl, Or.inr ⟨w.heap.size, 0, #[], rfl, Nat.le_refl _, heapA_new _ _ _ rfl, Nat.le_refl _, Nat.zero_le _, rfl, rfl⟩⟩
  clear hinf hti htj
  obtain ⟨ao, cap, rfl, hc, h⟩ := h
  rcases h with ⟨h0, rfl, _⟩ | ⟨b, o, rfl, h⟩
  · cases ao with
    | none =>
      obtain rfl := h0 rfl
      go_enter Tryz.func84, Tryz.ntmps84
      go_wp2_with (refine wpList_append_own_none rfl (.tmp 3) (.tmp 4) 32 rfl w.heap.size 9 ti 1 Tryz.underlying32 HTI.out.1 _ 0 [] rfl (by exact HOW.out) rfl ?_; refine Hid.out ?_)
      generalize w.alloc (.cells #[] 9) = w5 at *
      unfold Hid
      go_wp2
      go_ret
      exact ⟨_, rfl, HOW.out, HBA.out⟩
    | some a0 =>
      clear h0
      go_enter Tryz.func84, Tryz.ntmps84
      go_wp2_with (refine wpList_append_own _ rfl (.tmp 3) (.tmp 4) 32 rfl w.heap.size 9 ti (.string ⟨#[]⟩) 1 16 Tryz.underlying32 HTI.out.1 HTI.out.2.2.2 HTI.out.2.1 HTI.out.2.2.1 rfl (by decide) _ 0 [] rfl (by exact HOW.out) a0 0 cap [] rfl rfl (by intro j u hu; simp at hu) (by intro u hu; cases hu) (by unfold maxLen; omega) (by omega) (by simp) ?_; intro v5 w5 hv5 hg5 hn5; refine Hid.out ?_)
      have HB5 : Hid (Below w.heap.size w w5) := HBA.out.grown hg5 (by simp) (fun k hk => by have h : w.heap.size = k := Option.some.inj hk; omega)
      have HO5 : Hid (w5.ownsRow w.heap.size 9 1 v5 0 []) := hv5
      clear hv5 hg5 hn5
      unfold Hid
      go_wp2
      go_ret
      exact ⟨_, rfl, HO5.out, HB5.out⟩
  · have HNW : Hid (∀ (ob : Obj) (j : Nat) u, (l.map Value.string)[j]? = some u → (w.alloc ob).cell? ((⟨b, o, none⟩ : Addr).add j) = some u) := by
      intro ob j u hu
      have hadd : (⟨b, o, none⟩ : Addr).add j = ⟨b, o + j, none⟩ := by unfold Addr.add; split <;> simp_all
      obtain ⟨s, hs1, rfl⟩ : ∃ s, l[j]? = some s ∧ .string s = u := by simpa using hu
      have hcell := h j s hs1
      rw [hadd, World.cell?_alloc_lt _ _ ⟨b, o + j, none⟩ (block_lt_of_cell hcell)]; exact hcell
    have HONE : Hid (∀ u ∈ l.map Value.string, u.oneCell' = true) := by
      intro u hu
      obtain ⟨s, _, rfl⟩ := List.mem_map.1 hu
      rfl
    clear h
    go_enter Tryz.func84, Tryz.ntmps84
    go_wp2_with (refine wpList_append_own _ rfl (.tmp 3) (.tmp 4) 32 rfl w.heap.size 9 ti (.string ⟨#[]⟩) 1 16 Tryz.underlying32 HTI.out.1 HTI.out.2.2.2 HTI.out.2.1 HTI.out.2.2.1 rfl (by decide) _ 0 [] rfl (by exact HOW.out) ⟨b, o, none⟩ l.length cap (l.map Value.string) rfl (by simp) (by exact HNW.out _) (by exact HONE.out) (by unfold maxLen; omega) (by omega) (by simp) ?_; intro v5 w5 hv5 hg5 hn5; refine Hid.out ?_)
    have HB5 : Hid (Below w.heap.size w w5) := HBA.out.grown hg5 (by simp) (fun k hk => by have h : w.heap.size = k := Option.some.inj hk; omega)
    have HO5 : Hid (w5.ownsRow w.heap.size 9 1 v5 l.length (l.map Value.string)) := by have := hv5; rw [Nat.zero_add] at this; exact this
    clear hv5 hg5 hn5 HNW HONE
    unfold Hid
    go_wp2
    go_ret
    exact ⟨_, rfl, HO5.out, HB5.out⟩
end Go.Proofs.YthhbpebihgjpjaaGreatDoor

namespace Go.Proofs.YthhbpebihgjpjaaGreatDoor
open Go.RowKit Go.Maps
set_option maxRecDepth 1000000

/-- Numbers, in a map. -/
def intR : Value → Option (DataW Unit × List MemPlace)
  | .int .i64 k => some (.lit (.int .i64 k), [])
  | _ => none
theorem intR_inj {v v' : Value} {d : DataW Unit} {p p' : List MemPlace} (h : intR v = some (d, p)) (h' : intR v' = some (d, p')) : v = v' := by
  unfold intR at h h'
  split at h
  · split at h'
    · have e1 := congrArg Prod.fst (Option.some.inj h)
      have e2 := congrArg Prod.fst (Option.some.inj h')
      rw [← e1] at e2
      injection e2 with e2
      injection e2 with _ e2
      rw [e2]
    · cases h'
  · cases h
def intC : Coded := ⟨intR, intR_inj⟩
set_option maxHeartbeats 4000000 in
theorem filesNeeded_any {w : World} {vo vi vm vr : Value} {r c : ByteArray} (e : EdgeS) (tv : ∃ ao n c, vo = .slice ao n c) (ti : TextsAt w vi e.ins) (tm : TextsAt w vm e.impl) (tr : TextsAt w vr e.ord) (hi : e.ins.length ≤ 10000) (hm : e.impl.length ≤ 10000) (hr : e.ord.length ≤ 10000) :
    Calls Tryz.prog 116 #[.agg #[vo, vi, vm, vr, .string r, .string c]] w fun e' w' => ∃ v, e' = .returned v ∧ w'.ownsRow w.heap.size 9 1 v (depsS e).length ((depsS e).map Value.string) ∧ Below w.heap.size w w' := by
  obtain ⟨aoo, nO, cO, rfl⟩ := tv
  obtain ⟨aoi, nI, cI, hvi⟩ : ∃ ao n c, vi = .slice ao n c := by obtain ⟨ao, cap, e, _⟩ := ti; exact ⟨ao, _, cap, e⟩
  obtain ⟨aom, nM, cM, hvm⟩ : ∃ ao n c, vm = .slice ao n c := by obtain ⟨ao, cap, e, _⟩ := tm; exact ⟨ao, _, cap, e⟩
  obtain ⟨aor, nR, cR, hvr⟩ : ∃ ao n c, vr = .slice ao n c := by obtain ⟨ao, cap, e, _⟩ := tr; exact ⟨ao, _, cap, e⟩
  subst hvi hvm hvr
  obtain ⟨W1, hW1⟩ : ∃ W1, W1 = w.alloc (.cells #[.slice aoo nO cO, .slice aoi nI cI, .slice aom nM cM, .slice aor nR cR, .string r, .string c] 63) := ⟨_, rfl⟩
  have hb1 : Below w.heap.size w W1 := by rw [hW1]; exact (Below.refl _ _).alloc (Nat.le_refl _) _
  obtain ⟨W2, hW2⟩ : ∃ W2, W2 = W1.alloc (.cells #[.slice aoi nI cI, .slice aom nM cM, .slice aor nR cR] 32) := ⟨_, rfl⟩
  have hb2 : Below w.heap.size w W2 := by rw [hW2]; exact hb1.alloc hb1.size _
  have hrow : W2.heap[W1.heap.size]? = some (.cells #[.slice aoi nI cI, .slice aom nM cM, .slice aor nR cR] 32 (0, 0)) := by rw [hW2]; exact heapA_new _ _ _ rfl
  have HC := concat_any [(.slice aoi nI cI, e.ins), (.slice aom nM cM, e.impl), (.slice aor nR cR, e.ord)] W1.heap.size W2 (fun i x hx => by
    match i, hx with
    | 0, hx => obtain rfl := Option.some.inj hx; exact ⟨by rw [cell_of_row _ _ _ _ _ _ hrow]; rfl, ti.keepB hb2⟩
    | 1, hx => obtain rfl := Option.some.inj hx; exact ⟨by rw [cell_of_row _ _ _ _ _ _ hrow]; rfl, tm.keepB hb2⟩
    | 2, hx => obtain rfl := Option.some.inj hx; exact ⟨by rw [cell_of_row _ _ _ _ _ _ hrow]; rfl, tr.keepB hb2⟩
    | i + 3, hx => cases hx) (show 3 ≤ 10 by decide) (fun x hx => by
    rcases List.mem_cons.1 hx with rfl | hx
    · exact hi
    · rcases List.mem_cons.1 hx with rfl | hx
      · exact hm
      · obtain rfl := List.mem_singleton.1 hx
        exact hr)
  have HC : Hid (Calls Tryz.prog 202 #[.slice (some ⟨W1.heap.size, 0, none⟩) 3 3] W2 fun e' w' => ∃ v, e' = .returned v ∧ w'.ownsRow W2.heap.size 9 1 v (flatL [(.slice aoi nI cI, e.ins), (.slice aom nM cM, e.impl), (.slice aor nR cR, e.ord)]).length ((flatL [(.slice aoi nI cI, e.ins), (.slice aom nM cM, e.impl), (.slice aor nR cR, e.ord)]).map Value.string) ∧ Below W2.heap.size W2 w') := HC
  have hfl : flatL [(.slice aoi nI cI, e.ins), (.slice aom nM cM, e.impl), (.slice aor nR cR, e.ord)] = depsS e := by simp [flatL, depsS]
  rw [hfl] at HC
  have HB2 : Hid (Below w.heap.size w W2) := hb2
  have HW : Hid (W2 = (w.alloc (.cells #[.slice aoo nO cO, .slice aoi nI cI, .slice aom nM cM, .slice aor nR cR, .string r, .string c] 63)).alloc (.cells #[.slice aoi nI cI, .slice aom nM cM, .slice aor nR cR] 32)) := by rw [hW2, hW1]; rfl
  have HZ : Hid (W1.heap.size = w.heap.size + 1) := by rw [hW1]; exact World.size_alloc _ _
  rw [HZ.out] at HC
  clear hW1 hW2 hb1 hb2 hrow ti tm tr hi hm hr hfl
  go_enter Tryz.func116, Tryz.ntmps116
  go_wp2_with fail
  rw [← HW.out]
  refine HC.out.mono ?_
  rintro e1 w3 ⟨v, rfl, hv3, hb3⟩
  have HF : Hid (w3.ownsRow w.heap.size 9 1 v (depsS e).length ((depsS e).map Value.string) ∧ Below w.heap.size w w3) := ⟨row_mono hv3 HB2.out.size, HB2.out.trans (hb3.mono HB2.out.size)⟩
  clear hv3 hb3 HC
  go_wp2
  go_ret
  exact ⟨_, rfl, HF.out⟩
end Go.Proofs.YthhbpebihgjpjaaGreatDoor

namespace Go.Proofs.YthhbpebihgjpjaaGreatDoor
open Go.RowKit Go.Shelf
set_option maxRecDepth 1000000

theorem dol_size (t : ByteArray) : ((⟨(Lib.trimRightB t.data.toList 36).toArray⟩ : ByteArray).size) = t.size - dolB t := by
  show (Lib.trimRightB t.data.toList 36).toArray.size = _
  unfold Lib.trimRightB dolB dolL
  rw [List.size_toArray, List.length_reverse]
  have h := spanL_drop (· == 36) t.data.toList.reverse
  have e : (t.data.toList.reverse.dropWhile fun c => c.toNat == 36) = t.data.toList.reverse.dropWhile (· == 36) := by
    congr 1
    funext c
    rw [Bool.eq_iff_iff]
    simp only [beq_iff_eq]
    exact ⟨fun e => UInt8.toNat_inj.1 e, fun e => by rw [e]; rfl⟩
  rw [← e, ← h, List.length_drop, List.length_reverse, Array.length_toList]
  rfl
theorem dolB_le (t : ByteArray) : dolB t ≤ t.size := by
  unfold dolB dolL
  refine Nat.le_trans (spanL_le _ _) ?_
  rw [List.length_reverse, Array.length_toList]
  exact Nat.le_refl _
theorem cutJoint_any (t : ByteArray) (ht : t.size ≤ 1048576) (w : World) :
    Calls Tryz.prog 260 #[.string t] w fun e w' => e = .returned (.tuple #[.string (partB t), .bool (oddB t)]) ∧ w' = w := by
  have HC : Hid (Calls Tryz.prog 313 #[.string t, .string ⟨#[36]⟩] w fun e w' => e = .returned (.string ⟨(Lib.trimRightB t.data.toList 36).toArray⟩) ∧ w' = w) := Any.strings_TrimRight_one Tryz.lays162 t 36 (by decide) w (by omega)
  have hsz := dol_size t
  have hdl := dolB_le t
  generalize (⟨(Lib.trimRightB t.data.toList 36).toArray⟩ : ByteArray) = T at *
  have t0 : (t.size : Int) ≤ 1048576 := by omega
  have t1 : (T.size : Int) ≤ (t.size : Int) := by omega
  have hsub : (t.size : Int) - (T.size : Int) = (dolB t : Int) := by omega
  have HO : Hid (oddB t = decide (dolB t % 2 = 1)) := rfl
  have HP : Hid (partB t = if oddB t = true then t.extract 0 (t.size - 1) else t) := rfl
  have d0 : (0 : Int) ≤ (dolB t : Int) := by omega
  have d1 : (dolB t : Int) ≤ 1048576 := by omega
  generalize dolB t = D at *
  clear hsz
  by_cases hodd : D % 2 = 1
  · have hO : oddB t = true := by rw [HO.out]; exact decide_eq_true hodd
    have hP : partB t = t.extract 0 (t.size - 1) := by rw [HP.out, if_pos hO]
    rw [hO, hP]
    have q : ((D : Int) % 2 == 0) = false := by simp; omega
    have hsl : ∀ wx, (Instr.slice 9 (.string t) none (some (.int .i64 ((t.size : Int) - 1))) none).run Tryz.prog wx = .ok (.string (t.extract 0 (t.size - 1))) wx := fun wx => by
      have := slice_head t (t.size - 1) (by omega) wx
      rw [show ((t.size - 1 : Nat) : Int) = (t.size : Int) - 1 by omega] at this
      exact this
    generalize t.extract 0 (t.size - 1) = V at *
    clear hO hP
    go_enter Tryz.func260, Tryz.ntmps260
    go_wp2_with fail
    refine HC.out.mono ?_
    rintro e w' ⟨rfl, rfl⟩
    go_wp2_with fail
    go_ret2
    exact ⟨rfl, rfl⟩
  · have hO : oddB t = false := by rw [HO.out]; exact decide_eq_false hodd
    have hP : partB t = t := by rw [HP.out, if_neg (by rw [hO]; decide)]
    rw [hO, hP]
    have q : ((D : Int) % 2 == 0) = true := by simp; omega
    clear hO hP
    go_enter Tryz.func260, Tryz.ntmps260
    go_wp2_with fail
    refine HC.out.mono ?_
    rintro e w' ⟨rfl, rfl⟩
    go_wp2_with fail
    go_ret2
    exact ⟨rfl, rfl⟩
theorem partB_le (t : ByteArray) : (partB t).size ≤ t.size := by
  unfold partB
  split
  · rw [ByteArray.size_extract]; omega
  · exact Nat.le_refl _
theorem addLast_snoc (l : List Line) (x : Line) (s : ByteArray) : addLast (l ++ [x]) s = l ++ [(x.1, x.2 ++ s)] := by
  unfold addLast
  rw [List.getLast?_append, List.getLast?_singleton]
  simp
/-- How many bytes lines have. -/
def sumL (l : List Line) : Nat := (l.map (·.2.size)).sum
def sumR (l : List ByteArray) : Nat := (l.map (·.size)).sum
theorem sumL_append (l r : List Line) : sumL (l ++ r) = sumL l + sumL r := by unfold sumL; rw [List.map_append, List.sum_append]
theorem sumL_mem : ∀ {l : List Line} {x : Line}, x ∈ l → x.2.size ≤ sumL l
  | y :: l, x, h => by
    have e : sumL (y :: l) = y.2.size + sumL l := by unfold sumL; simp
    rcases List.mem_cons.1 h with rfl | h
    · omega
    · have := sumL_mem h; omega
theorem joinStep_sum (L : List Line) (on : Bool) (no : Nat) (r : ByteArray) : sumL (joinStep L on no r) ≤ sumL L + r.size := by
  have hp := partB_le r
  have hl := leftB_le (partB r)
  unfold joinStep
  split
  · rcases List.eq_nil_or_concat L with rfl | ⟨l, x, rfl⟩
    · exact Nat.zero_le _
    · rw [List.concat_eq_append, addLast_snoc, sumL_append, sumL_append]
      show _ + sumL [(x.1, x.2 ++ leftB (partB r))] ≤ sumL l + sumL [x] + _
      unfold sumL
      simp only [List.map_cons, List.map_nil, List.sum_cons, List.sum_nil, ByteArray.size_append]
      omega
  · rw [sumL_append]
    show _ + sumL [(no, partB r)] ≤ _
    unfold sumL
    simp only [List.map_cons, List.map_nil, List.sum_cons, List.sum_nil]
    omega
theorem joinFrom_sum : ∀ (R : List ByteArray) (no : Nat) (L : List Line) (on : Bool), sumL (joinFrom no R L on) ≤ sumL L + sumR R
  | [], _, L, _ => by show sumL L ≤ _; omega
  | r :: R, no, L, on => by
    have h1 := joinFrom_sum R (no + 1) (joinStep L on no r) (oddB r)
    have h2 := joinStep_sum L on no r
    show sumL (joinFrom (no + 1) R (joinStep L on no r) (oddB r)) ≤ sumL L + sumR (r :: R)
    have e : sumR (r :: R) = r.size + sumR R := by unfold sumR; simp
    omega
theorem joinStep_len (L : List Line) (on : Bool) (no : Nat) (r : ByteArray) : (joinStep L on no r).length ≤ L.length + 1 := by
  unfold joinStep
  split
  · rcases List.eq_nil_or_concat L with rfl | ⟨l, x, rfl⟩
    · exact Nat.zero_le _
    · rw [List.concat_eq_append, addLast_snoc, List.length_append, List.length_append]; show _ + 1 ≤ _ + 1 + 1; omega
  · rw [List.length_append]; exact Nat.le_refl _
theorem joinFrom_len : ∀ (R : List ByteArray) (no : Nat) (L : List Line) (on : Bool), (joinFrom no R L on).length ≤ L.length + R.length
  | [], _, _, _ => Nat.le_refl _
  | r :: R, no, L, on => by
    have h1 := joinFrom_len R (no + 1) (joinStep L on no r) (oddB r)
    have h2 := joinStep_len L on no r
    show (joinFrom (no + 1) R (joinStep L on no r) (oddB r)).length ≤ L.length + (R.length + 1)
    omega
theorem splitB_sum : ∀ (k : Nat) (s : ByteArray), Lib.countB s nl = k → sumR (Lib.splitB nl 0 k s) ≤ s.size
  | 0, s, _ => by show sumR [s] ≤ _; unfold sumR; simp
  | k + 1, s, h => by
    rcases Lib.indexB_cases s nl with hi | ⟨i, hi, hr⟩
    · rw [Lib.splitB_miss _ _ _ _ hi]; unfold sumR; simp
    · have hc := Lib.countB_hit s nl i (by decide) hi
      have := splitB_sum k (s.extract (i + nl.size) s.size) (by omega)
      rw [Lib.splitB_hit _ _ _ _ _ hi]
      have e : sumR (s.extract 0 (i + 0) :: Lib.splitB nl 0 k (s.extract (i + nl.size) s.size)) = (s.extract 0 (i + 0)).size + sumR (Lib.splitB nl 0 k (s.extract (i + nl.size) s.size)) := by unfold sumR; simp
      rw [ByteArray.size_extract] at this
      rw [e, ByteArray.size_extract]
      omega
theorem rawB_sum (t : ByteArray) : sumR (rawB t) ≤ t.size := splitB_sum _ t rfl
theorem rawB_length (t : ByteArray) : (rawB t).length = Lib.countB t nl + 1 := Lib.splitB_all nl (by decide) 0 _ t rfl
theorem rawB_count (t : ByteArray) : Lib.countB t nl ≤ t.size := Lib.countB_le nl (by decide) _ t (Nat.le_refl _)
theorem linesS_sum (t : ByteArray) : sumL (linesS t) ≤ t.size := by
  have h1 := joinFrom_sum (rawB t) 1 [] false
  have h2 := rawB_sum t
  have : sumL [] = 0 := rfl
  unfold linesS
  omega
end Go.Proofs.YthhbpebihgjpjaaGreatDoor
