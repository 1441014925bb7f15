import Derived.Test.YthhbpebihgjpjaaGreatDoorR08
import Derived.Test.YthhbpebihgjpjaaGreatDoorR11
namespace Go.Proofs.YthhbpebihgjpjaaGreatDoor
open Go.RowKit
set_option maxRecDepth 1000000

theorem primes_64 : primesM 64 1000 2 [] = some primes64 := by decide +kernel
theorem primes64_lt (i : Nat) : primes64.getD i 0 < 1048576 := by
  by_cases h : i < 64
  · have : ∀ x ∈ primes64, x < 1048576 := by decide
    rw [List.getD_eq_getElem?_getD, List.getElem?_eq_getElem (by exact h)]
    exact this _ (List.getElem_mem _)
  · rw [List.getD_eq_getElem?_getD, List.getElem?_eq_none (by show 64 ≤ i; omega)]; decide
theorem take_next (l : List Nat) (i : Nat) (h : i < l.length) : l.take (i + 1) = l.take i ++ [l.getD i 0] := by
  rw [List.take_succ_eq_append_getElem h, List.getD_eq_getElem?_getD, List.getElem?_eq_getElem h]; rfl

theorem roots2_at (i : Nat) (hi : i < 8) : rootM (primes64.getD i 0) 2 = some (heads.getD i 0) := by
  have := congrArg (fun x => x[i]?) roots2
  have hl : i < primes64.length := by show i < 64; omega
  have hk : i < heads.length := hi
  simp only [List.getElem?_map, List.getElem?_take, if_pos hi, List.getElem?_eq_getElem hl, List.getElem?_eq_getElem hk, Option.map_some, Option.some.injEq] at this
  simpa [List.getD_eq_getElem?_getD, List.getElem?_eq_getElem hl, List.getElem?_eq_getElem hk] using this
theorem Own.mono {base base' : Nat} {v : Value} {l : List Nat} {w : World} (h : Own base v l w) (hb : base' ≤ base) : Own base' v l w := by
  obtain ⟨h1, ⟨rfl, h0⟩ | ⟨g, cap, cur, rfl, hg, r⟩⟩ := h.own
  · exact ⟨⟨h1, Or.inl ⟨rfl, h0⟩⟩⟩
  · exact ⟨⟨h1, Or.inr ⟨g, cap, cur, rfl, Nat.le_trans hb hg, r⟩⟩⟩

set_option maxHeartbeats 2000000 in
theorem constants_any (w : World) :
    Calls Tryz.prog 79 #[] w fun e w' => ∃ vk vh, e = .returned (.tuple #[vk, vh]) ∧ Own w.heap.size vk keys w' ∧ Own w.heap.size vh heads w' ∧ Below w.heap.size w w' := by
  go_enter Tryz.func79, Tryz.ntmps79
  go_wp2_with fail
  refine (primes_any 64 primes64 primes_64 (by omega) _).mono ?_
  rintro e w1 ⟨v, rfl, ho1, hb1⟩
  obtain ⟨g, cap, hv, hg, hcell⟩ := ho1.row (by decide)
  rw [show primes64.length = 64 from rfl] at hv
  subst hv
  have HC : Hid (∀ i, i < 64 → w1.cell? ⟨g, i, none⟩ = some (.int .i64 ((primes64.getD i 0 : Nat) : Int))) := hcell
  have HB1 : Hid (Below w.heap.size w w1) := hb1
  have hgl : g < w1.heap.size := block_lt_of_cell (hcell 0 (by decide))
  clear ho1 hb1 hcell
  have hinf : (Tryz.prog.info? 3).map (fun i => (i.size, i.bytes, i.zero)) = some (1, 8, some (.int .i64 0)) := by kernel_rfl
  obtain ⟨ti, hti, htj⟩ := Option.map_eq_some_iff.1 hinf
  simp only [Prod.mk.injEq] at htj
  have HTI : Hid (Tryz.prog.info? 3 = some ti ∧ ti.size = 1 ∧ ti.bytes = 8 ∧ ti.zero = some (.int .i64 0)) := ⟨hti, htj.1, htj.2.1, htj.2.2⟩
  clear hinf hti htj
  go_wp2
  go_loopw [3, 5] (fun v q wr => ∃ i : Nat, i ≤ 64 ∧ q = .int .i64 i ∧ Own w1.heap.size v (keys.take i) wr ∧ Below w1.heap.size w1 wr) (fun _ q _ => 64 - (intOf q).toNat)
  case atStart => exact ⟨0, by omega, rfl, ⟨⟨rfl, Or.inl ⟨rfl, rfl⟩⟩⟩, Below.refl _ _⟩
  case round =>
    obtain ⟨i, hi, rfl, hown, hbel⟩ := hrel
    obtain ⟨ao, cap2, hform⟩ := hown.form
    subst hform
    have HO : Hid (Own w1.heap.size (.slice ao (keys.take i).length cap2) (keys.take i) wr) := hown
    have HB : Hid (Below w1.heap.size w1 wr) := hbel
    have hlen : (keys.take i).length = i := by rw [List.length_take]; show min i 64 = i; omega
    clear hown hbel
    by_cases hlt : i < 64
    · have cx : wr.cell? ⟨g, i, none⟩ = some (.int .i64 ((primes64.getD i 0 : Nat) : Int)) := by
        rw [HB.out.cell (p := ⟨g, i, none⟩) (by show g < _; omega)]; exact HC.out i (by omega)
      obtain ⟨r, hr⟩ : ∃ r, r = keys.getD i 0 := ⟨_, rfl⟩
      have HR : Hid (rootM (primes64.getD i 0) 3 = some r) := by rw [hr]; exact roots3 i hlt
      have HX : Hid (primes64.getD i 0 < 1048576) := primes64_lt i
      have HT : Hid (keys.take (i + 1) = keys.take i ++ [r]) := by rw [hr]; exact take_next _ _ (by show i < 64; omega)
      clear hr
      generalize primes64.getD i 0 = x at *
      generalize keys.take i = l at *
      generalize hl2 : keys.take (i + 1) = l2 at *
      have HL2 : Hid (keys.take (i + 1) = l2) := hl2
      clear hl2
      have HL : Hid (l.length = i) := hlen
      clear hlen
      have i1 : (i : Int) < 64 := by omega
      have i2 : (i : Int) < 64 := by omega
      go_wp2_with fail
      refine (root3 x r HR.out HX.out _).mono ?_
      rintro e w2 ⟨rfl, hb2⟩
      have HO2 : Hid (Own w1.heap.size (.slice ao l.length cap2) l w2) := HO.out.later (fun k hk => hb2.block k hk)
      have HB2 : Hid (Below w1.heap.size w1 w2) := HB.out.trans (hb2.mono HB.out.size)
      clear hb2 HO HB cx
      go_wp2_with (refine wpList_append_own _ rfl (.tmp 19) (.tmp 21) 48 rfl w1.heap.size 3 ti (.int .i64 0) 1 8 Tryz.underlying48 HTI.out.1 HTI.out.2.2.2 HTI.out.2.1 HTI.out.2.2.1 rfl (by decide) _ l.length (vals l) rfl (by exact (HO2.out.later (fun k hk => heapA_old w2 _ k hk)).own) ⟨w2.heap.size, 0, none⟩ 1 1 [.int .i64 (r : Int)] rfl rfl (by exact cell_one_new w2 _ _) (by intro u hu; simp at hu; subst hu; rfl) (by have := HL.out; unfold maxLen; omega) (by have := HL.out; omega) (by have := HB2.out.size; simp; omega) ?_; intro v' w3 hv3 hg3 hn3; refine Hid.out ?_)
      have HO3 : Hid (Own w1.heap.size v' l2 w3) := by
        rw [HT.out]
        exact ⟨by rw [List.length_append, vals_append]; exact hv3⟩
      have HB3 : Hid (Below w1.heap.size w1 w3) := (HB2.out.alloc HB2.out.size _).grown hg3 (by have := HB2.out.size; simp; omega) (fun k hk => HO2.out.block k hk)
      clear hv3 hg3 hn3 HO2 HB2
      unfold Hid
      go_wp2
      go_roundw
      case rel =>
        first
          | exact ⟨i + 1, by omega, by go_num, by rw [HL2.out]; exact HO3.out, HB3.out⟩
          | ((repeat apply Exists.intro); exact ⟨⟨i + 1, by omega, by go_num, by rw [HL2.out]; exact HO3.out, HB3.out⟩, rfl⟩)
      case measure => simp [intOf]; omega
    · obtain rfl : i = 64 := by omega
      have HOk : Hid (Own w1.heap.size (.slice ao 64 cap2) keys wr) := HO.out
      have HBk : Hid (Below w1.heap.size w1 wr) := HB.out
      have hsl : (keys.take 64).length = 64 := rfl
      have HCk : Hid (∀ i, i < 64 → wr.cell? ⟨g, i, none⟩ = some (.int .i64 ((primes64.getD i 0 : Nat) : Int))) := fun i hi => by
        rw [HBk.out.cell (p := ⟨g, i, none⟩) (by show g < _; exact hgl)]; exact HC.out i hi
      have hgk : g < wr.heap.size := Nat.lt_of_lt_of_le hgl HBk.out.size
      rw [hsl]
      clear HO HB hlen hsl HC
      obtain ⟨wk, rfl⟩ : ∃ wk : World, wk = wr := ⟨_, rfl⟩
      go_wp2
      go_loopw [4, 7] (fun v q wr => ∃ i : Nat, i ≤ 8 ∧ q = .int .i64 i ∧ Own wk.heap.size v (heads.take i) wr ∧ Below wk.heap.size wk wr) (fun _ q _ => 8 - (intOf q).toNat)
      case atStart => exact ⟨0, by omega, rfl, ⟨⟨rfl, Or.inl ⟨rfl, rfl⟩⟩⟩, Below.refl _ _⟩
      case round =>
        obtain ⟨i, hi, rfl, hown, hbel⟩ := hrel
        obtain ⟨ao, cap2, hform⟩ := hown.form
        subst hform
        have HO : Hid (Own wk.heap.size (.slice ao (heads.take i).length cap2) (heads.take i) wr) := hown
        have HB : Hid (Below wk.heap.size wk wr) := hbel
        have hlen : (heads.take i).length = i := by rw [List.length_take]; show min i 8 = i; omega
        clear hown hbel
        by_cases hlt : i < 8
        · have cx : wr.cell? ⟨g, i, none⟩ = some (.int .i64 ((primes64.getD i 0 : Nat) : Int)) := by
            rw [HB.out.cell (p := ⟨g, i, none⟩) (by show g < _; exact hgk)]; exact HCk.out i (by omega)
          obtain ⟨r, hr⟩ : ∃ r, r = heads.getD i 0 := ⟨_, rfl⟩
          have HR : Hid (rootM (primes64.getD i 0) 2 = some r) := by rw [hr]; exact roots2_at i hlt
          have HX : Hid (primes64.getD i 0 < 1048576) := primes64_lt i
          have HT : Hid (heads.take (i + 1) = heads.take i ++ [r]) := by rw [hr]; exact take_next _ _ (by show i < 8; omega)
          clear hr
          generalize primes64.getD i 0 = x at *
          generalize heads.take i = l at *
          generalize hl2 : heads.take (i + 1) = l2 at *
          have HL2 : Hid (heads.take (i + 1) = l2) := hl2
          clear hl2
          have HL : Hid (l.length = i) := hlen
          clear hlen
          have i1 : (i : Int) < 8 := by omega
          have i2 : (i : Int) < 64 := by omega
          go_wp2_with fail
          refine (root2 x r HR.out HX.out _).mono ?_
          rintro e w2 ⟨rfl, hb2⟩
          have HO2 : Hid (Own wk.heap.size (.slice ao l.length cap2) l w2) := HO.out.later (fun k hk => hb2.block k hk)
          have HB2 : Hid (Below wk.heap.size wk w2) := HB.out.trans (hb2.mono HB.out.size)
          clear hb2 HO HB cx
          go_wp2_with (refine wpList_append_own _ rfl (.tmp 32) (.tmp 34) 48 rfl wk.heap.size 3 ti (.int .i64 0) 1 8 Tryz.underlying48 HTI.out.1 HTI.out.2.2.2 HTI.out.2.1 HTI.out.2.2.1 rfl (by decide) _ l.length (vals l) rfl (by exact (HO2.out.later (fun k hk => heapA_old w2 _ k hk)).own) ⟨w2.heap.size, 0, none⟩ 1 1 [.int .i64 (r : Int)] rfl rfl (by exact cell_one_new w2 _ _) (by intro u hu; simp at hu; subst hu; rfl) (by have := HL.out; unfold maxLen; omega) (by have := HL.out; omega) (by have := HB2.out.size; simp; omega) ?_; intro v' w3 hv3 hg3 hn3; refine Hid.out ?_)
          have HO3 : Hid (Own wk.heap.size v' l2 w3) := by
            rw [HT.out]
            exact ⟨by rw [List.length_append, vals_append]; exact hv3⟩
          have HB3 : Hid (Below wk.heap.size wk w3) := (HB2.out.alloc HB2.out.size _).grown hg3 (by have := HB2.out.size; simp; omega) (fun k hk => HO2.out.block k hk)
          clear hv3 hg3 hn3 HO2 HB2
          unfold Hid
          go_wp2
          go_roundw
          case rel =>
            first
              | exact ⟨i + 1, by omega, by go_num, by rw [HL2.out]; exact HO3.out, HB3.out⟩
              | ((repeat apply Exists.intro); exact ⟨⟨i + 1, by omega, by go_num, by rw [HL2.out]; exact HO3.out, HB3.out⟩, rfl⟩)
          case measure => simp [intOf]; omega
        · obtain rfl : i = 8 := by omega
          have HOh : Hid (Own wk.heap.size (.slice ao (heads.take 8).length cap2) heads wr) := HO.out
          have HBh : Hid (Below wk.heap.size wk wr) := HB.out
          clear HO HB hlen
          go_wp2
          go_ret2
          refine ⟨_, _, rfl, ?_, ?_, ?_⟩
          · exact (HOk.out.later (fun k hk => HBh.out.block k hk)).mono HB1.out.size
          · exact HOh.out.mono (Nat.le_trans HB1.out.size HBk.out.size)
          · exact HB1.out.trans ((HBk.out.trans (HBh.out.mono HBk.out.size)).mono HB1.out.size)
end Go.Proofs.YthhbpebihgjpjaaGreatDoor
