import Derived.Test.YthhbpebihgjpjaaGreatDoorJ26
namespace Go.Proofs.YthhbpebihgjpjaaGreatDoor
open Go.RowKit Go.MuLone Go.Maps
set_option maxRecDepth 1000000

def namesOf (l : List FileV) : List ByteArray := l.map (·.1)
theorem names_row (l : List FileV) : (nameKeys l).map encStr = (namesOf l).map Value.string := by
  simp only [nameKeys, namesOf, List.map_map]
  refine List.map_congr_left (fun x _ => ?_)
  simp [encStr]
theorem read_at (r : RefD) (hs : SortL r.seen) (j : Nat) (x : FileV) (hx : r.seen[j]? = some x) : refRead r x.1 = (x.2, 0) := by
  have hm := List.mem_of_getElem? hx
  obtain ⟨a, b, hab⟩ := List.append_of_mem hm
  have hd := hs.distinct
  have hp : posIn r.seen x.1 ≠ -1 := fun e => posIn_none r.seen x.1 e x hm rfl
  rw [refRead, if_neg hp]
  rw [hab] at hd ⊢
  rw [dataOf_mid a b x.1 x.2 hd]

theorem RefAt.keepFoot {w w' : World} {gb : Nat} {r : RefD} {vs vn vw : Value} (h : RefAt w gb r vs vn vw) (hk : ∀ k, RefFoot gb vs vn vw k → w'.heap[k]? = w.heap[k]?) : RefAt w' gb r vs vn vw :=
  ⟨(hk gb (Or.inl rfl)).trans h.row, h.safe.keep (fun k e => hk k (Or.inr (Or.inl e))), h.seen.keep (fun k e => hk k (Or.inr (Or.inr (Or.inl e)))), h.wait.keep (fun k e => hk k (Or.inr (Or.inr (Or.inr e)))), h.ne, h.apart⟩

theorem irow_mono {w : World} {base base' : Nat} {e : TypeId} {s : Nat} {v : Value} {n : Nat} {xs : List Value} (h : w.ownsRow base e s v n xs) (hb : base' ≤ base) : w.ownsRow base' e s v n xs := by
  obtain ⟨h1, ⟨rfl, h0⟩ | ⟨g, cap, cur, rfl, hg, r⟩⟩ := h
  · exact ⟨h1, Or.inl ⟨rfl, h0⟩⟩
  · exact ⟨h1, Or.inr ⟨g, cap, cur, rfl, Nat.le_trans hb hg, r⟩⟩
/-- What image leaves: one list more was handed out. -/
def ImagePost (A : Nat → Nat) (wb i c fb gb : Nat) (mv va vl : Value) (L : List (Value × Value)) (left : Int) (r : RefD) (d : ProgD) (w : World) (e : Ending) (w' : World) : Prop :=
  e = .returned (.bool true) ∧ ∃ vl' x, LawRow w' wb mv va vl' left ∧ OwnL vl' (L ++ [x]) w' ∧ w'.ownsRow w.heap.size 9 1 x.1 r.seen.length ((namesOf r.seen).map Value.string) ∧ w'.ownsRow w.heap.size 9 1 x.2 r.seen.length ((namesOf r.seen).map Value.string) ∧ Lies vl vl' w ∧ (∃ A', (∀ k, k < w.heap.size → A' k = A k) ∧ (∀ k, vl'.ownBlock = some k → w.heap.size ≤ k → A' k = 1) ∧ (∀ k, x.1.ownBlock = some k ∨ x.2.ownBlock = some k → A' k = 0) ∧ ProgAt A' (2 * i + 2) c fb d r w' ∧ RefIn A' (2 * i + 3) gb r w') ∧ Turns (fun k => A k = 2 * i + 2 ∨ k = wb ∨ vl.ownBlock = some k) w w'

set_option maxHeartbeats 4000000 in
theorem image_any {A : Nat → Nat} {a : Nat → Addr} {t : Nat → ByteArray} {wb ab ao i c fb gb : Nat} {mv va vl : Value} {left : Int} {r : RefD} {w : World} (whole : Bool) (L : List (Value × Value)) (h : FileIn A a t wb ab ao i c fb gb mv va vl left r w) (hz : ∀ k, w.heap.size ≤ k → A k = 0) (hc : c < 1048576) (hL : OwnL vl L w) (hLl : L.length < 1048576) (hvl : vl.ownBlock ≠ some wb) (hvo : ∀ k, vl.ownBlock = some k → A k = 1) (hvb : vl.ownBlock ≠ some ab) (hnames : ∀ (j : Nat) (x : FileV), r.seen[j]? = some x → x.1.size ≤ 140737488351232) :
    Calls Tryz.prog 142 #[.pointer (some ⟨wb, 0, none⟩), .pointer (some ⟨ab, ao, none⟩), .bool whole] w fun e w' => ∃ d, Inv c r d ∧ ImagePost A wb i c fb gb mv va vl L left r d w e w' := by
  have HF : Hid (FileIn A a t wb ab ao i c fb gb mv va vl left r w) := h
  have HL : Hid (OwnL vl L w) := hL
  have pf : w.cell? ⟨ab, ao, none⟩ = some (.pointer (some ⟨fb, 0, none⟩)) := h.pf
  have hid : (2 * i + 2) ≠ 0 := by omega
  obtain ⟨d, hpp, hrr, hii⟩ := h.pair
  have HP : Hid (ProgAt A (2 * i + 2) c fb d r w) := hpp
  have HRI : Hid (RefIn A (2 * i + 3) gb r w) := hrr
  have HII : Hid (Inv c r d) := hii
  clear h hL hpp hrr hii
  go_enter Tryz.func142, Tryz.ntmps142
  go_wp2_with fail
  refine (pNames_any hid HP.out HII.out hc).mono ?_
  rintro e w1 ⟨g, hg, rfl, hrow1, hp1, ht1⟩
  have HP1 : Hid (ProgAt A (2 * i + 2) c fb d r w1) := hp1
  have HT1 : Hid (Turns (fun k => A k = 2 * i + 2) w w1) := ht1
  have HRW : Hid (w1.ownsRow w.heap.size 9 1 (.slice (some ⟨g, 0, none⟩) r.seen.length r.seen.length) r.seen.length ((namesOf r.seen).map Value.string)) := by rw [← names_row]; exact hrow1
  have HR1 : Hid (RefIn A (2 * i + 3) gb r w1) := HRI.out.behind (fun _ _ => rfl) ht1
  have HPG : Hid (w1.cell? ⟨ab, ao + 1, none⟩ = some (.pointer (some ⟨gb, 0, none⟩)) ∧ w1.cell? ⟨ab, ao, none⟩ = some (.pointer (some ⟨fb, 0, none⟩))) := by
    have k1 : w1.heap[ab]? = w.heap[ab]? := ht1.block ab (block_lt_of_cell HF.out.pf) (by rw [HF.out.ab1]; omega)
    exact ⟨(World.cell?_of_block (w := w) (a := ⟨ab, ao + 1, none⟩) k1).trans HF.out.pg, (World.cell?_of_block (w := w) (a := ⟨ab, ao, none⟩) k1).trans HF.out.pf⟩
  clear hrow1 hp1 ht1 pf
  obtain ⟨vs, vn, vw, hr1, hf1⟩ := HR1.out
  have HRA : Hid (RefAt w1 gb r vs vn vw) := hr1
  obtain ⟨an, cn, hform⟩ := hr1.seen.form
  subst hform
  clear hr1
  have hinf : (Tryz.prog.info? 9).map (fun i => (i.size, i.bytes, i.zero)) = some (1, 16, some (.string ⟨#[]⟩)) := by kernel_rfl
  obtain ⟨ti, hti, htj⟩ := Option.map_eq_some_iff.1 hinf
  simp only [Prod.mk.injEq] at htj
  have HTI : Hid (Tryz.prog.info? 9 = some ti ∧ ti.size = 1 ∧ ti.bytes = 16 ∧ ti.zero = some (.string ⟨#[]⟩)) := ⟨hti, htj.1, htj.2.1, htj.2.2⟩
  clear hinf hti htj
  have hsl : r.seen.length ≤ 1048576 := Nat.le_trans HII.out.seenLen (by omega)
  have n0 : (r.seen.length : Int) ≤ 1048576 := by omega
  go_wp2_with fail
  go_loopw [8, 9] (fun v k wr => ∃ j : Nat, k = .int .i64 j ∧ j ≤ r.seen.length ∧ wr.ownsRow w1.heap.size 9 1 v j (((namesOf r.seen).take j).map Value.string) ∧ Turns (fun _ => False) w1 wr) (fun _ k _ => r.seen.length - (intOf k).toNat)
  case atStart => exact ⟨0, rfl, Nat.zero_le _, ⟨rfl, Or.inl ⟨rfl, rfl⟩⟩, Turns.refl _ _⟩
  case round =>
    obtain ⟨j, rfl, hle, hown, htw⟩ := hrel
    have HT2 : Hid (Turns (fun _ => False) w1 wr) := htw
    have HO2 : Hid (wr.ownsRow w1.heap.size 9 1 u8 j (((namesOf r.seen).take j).map Value.string)) := hown
    have HR2 : Hid (RefAt wr gb r vs (.slice an r.seen.length cn) vw) := HRA.out.later (fun k hk => htw.block k hk id)
    have p1 : wr.cell? ⟨ab, ao + 1, none⟩ = some (.pointer (some ⟨gb, 0, none⟩)) := (World.cell?_of_block (w := w1) (a := ⟨ab, ao + 1, none⟩) (htw.block ab (block_lt_of_cell HPG.out.1) id)).trans HPG.out.1
    have s1 : wr.cell? ⟨gb, 1, none⟩ = some (.slice an r.seen.length cn) := by rw [cell_of_row _ _ _ _ _ _ HR2.out.row]; rfl
    clear hown htw
    have i0 : (0 : Int) ≤ (j : Int) := by omega
    by_cases hlt : j < r.seen.length
    · have i1 : (j : Int) < (r.seen.length : Int) := by omega
      obtain ⟨x, hx⟩ : ∃ x, r.seen[j]? = some x := ⟨r.seen[j]'hlt, by simp⟩
      obtain ⟨gs, hgs⟩ : ∃ gs, an = some ⟨gs, 0, none⟩ := by
        obtain ⟨_, ⟨e, h0⟩ | ⟨g9, cap9, cur, e, _⟩⟩ := HR2.out.seen.own
        · omega
        · injection e with e1 _ _; exact ⟨g9, e1⟩
      subst hgs
      have s2 := (HR2.out.seen.at.cell j x hx).1
      obtain ⟨xn, xd⟩ := x
      simp only at s2
      have hsz : w1.heap.size ≤ wr.heap.size := HT2.out.size
      go_wp2_with (at_builtin; refine wpList_append_own _ rfl (.tmp 31) (.tmp 43) 32 rfl w1.heap.size 9 ti (.string ⟨#[]⟩) 1 16 Tryz.underlying32 HTI.out.1 HTI.out.2.2.2 HTI.out.2.1 HTI.out.2.2.1 rfl (by decide) _ j _ rfl (by exact row_keep HO2.out (fun k hk => heapA_old wr _ k (row_block HO2.out k hk).2)) ⟨wr.heap.size, 0, none⟩ 1 1 [.string xn] rfl rfl (by exact new_cells wr _ _) (by simp [Value.oneCell']) (by unfold maxLen; omega) (by omega) (by simp; omega) ?_; intro v5 w5 hv5 hg5 hn5; refine Hid.out ?_)
      have HO5 : Hid (w5.ownsRow w1.heap.size 9 1 v5 (j + 1) (((namesOf r.seen).take (j + 1)).map Value.string)) := by
        have e : (namesOf r.seen).take (j + 1) = (namesOf r.seen).take j ++ [xn] := by
          have hn : (namesOf r.seen)[j]? = some xn := by simp [namesOf, hx]
          obtain ⟨hj, hv⟩ := List.getElem?_eq_some_iff.1 hn
          rw [List.take_succ_eq_append_getElem hj, hv]
        rw [e, List.map_append]; exact hv5
      have HT5 : Hid (Turns (fun _ => False) w1 w5) := ⟨hg5.os.trans HT2.out.os, hg5.output.trans HT2.out.output, by have := hg5.size; simp at this; omega, fun k hk _ => by
        rw [hg5.block k (by simp; omega) (fun e => by have := (row_block HO2.out k e.symm).1; omega), heapA_old wr _ k (by omega)]
        exact HT2.out.block k hk id⟩
      clear hv5 hg5 hn5 HO2 HT2 HR2 p1 s1 s2
      unfold Hid
      go_wp2
      first
        | refine ⟨⟨j + 1, by go_num, hlt, HO5.out, HT5.out⟩, by simp [intOf]; omega⟩
        | (go_roundw
           case rel => exact ⟨j + 1, by go_num, hlt, HO5.out, HT5.out⟩
           case measure => simp [intOf]; omega)
    · obtain rfl : j = r.seen.length := by omega
      have hlen : (namesOf r.seen).length = r.seen.length := by simp [namesOf]
      have HTB : Hid (TextsAt wr u8 (namesOf r.seen)) := texts_of_row (base := w1.heap.size) (by
        have := HO2.out
        rw [← hlen, List.take_length] at this; exact this)
      have HTA : Hid (TextsAt wr (.slice (some ⟨g, 0, none⟩) r.seen.length r.seen.length) (namesOf r.seen)) := texts_of_row (base := w.heap.size) (by
        rw [hlen]
        exact row_keep HRW.out (fun k hk => HT2.out.block k (row_block HRW.out k hk).2 id))
      obtain ⟨ab8, cb8, hb8, _⟩ := HTB.out
      rw [hlen] at hb8
      subst hb8
      have HLEN : Hid ((namesOf r.seen).length = r.seen.length) := hlen
      have hnl : (namesOf r.seen).length ≤ 1099511627776 := by omega
      have HSAME : Hid (Calls Tryz.prog 91 #[.slice (some ⟨g, 0, none⟩) r.seen.length r.seen.length, .slice ab8 r.seen.length cb8] wr fun e w' => e = .returned (.bool true) ∧ ∃ m, w' = wr.drewN m) := (sameTexts_any (namesOf r.seen) (namesOf r.seen) _ _ wr HTA.out HTB.out hnl).mono (fun e w' h => ⟨by rw [h.1]; simp, h.2⟩)
      clear hlen hnl
      have HLR : Hid (LawRow wr wb mv va vl left) := (HT2.out.block wb (Nat.lt_of_lt_of_le HF.out.row.lt HT1.out.size) id).trans ((HT1.out.block wb HF.out.row.lt (by rw [HF.out.wb1]; omega)).trans HF.out.row)
      go_wp2_with fail
      refine HSAME.out.mono ?_
      rintro e w3 ⟨rfl, m3, rfl⟩
      have HT3 : Hid (Turns (fun _ => False) w1 (wr.drewN m3)) := ⟨HT2.out.os, HT2.out.output, HT2.out.size, HT2.out.block⟩
      have HT03 : Hid (Turns (fun k => A k = 2 * i + 2) w (wr.drewN m3)) := HT1.out.trans HT3.out (fun _ h => h.elim)
      have HLR3 : Hid (LawRow (wr.drewN m3) wb mv va vl left) := HLR.out
      have HL3 : Hid (OwnL vl L (wr.drewN m3)) := HL.out.keep (fun k hk => HT03.out.block k (HL.out.lt k hk) (by rw [hvo k hk]; omega))
      have HTA3 : Hid (TextsAt (wr.drewN m3) (.slice (some ⟨g, 0, none⟩) (namesOf r.seen).length (namesOf r.seen).length) (namesOf r.seen)) := by rw [HLEN.out]; exact HTA.out
      clear HTA HTB HSAME HLR HO2 HT2 HR2 p1 s1
      generalize wr.drewN m3 = w3 at *
      have HOT : Hid (Calls Tryz.prog 140 #[.pointer (some ⟨wb, 0, none⟩), .slice (some ⟨g, 0, none⟩) r.seen.length r.seen.length] w3 fun e w' => e = .returned (.tuple #[]) ∧ ∃ vl' u, LawRow w' wb mv va vl' left ∧ OwnL vl' (L ++ [(.slice (some ⟨g, 0, none⟩) r.seen.length r.seen.length, u)]) w' ∧ Turns (fun k => k = wb ∨ vl.ownBlock = some k) w3 w' ∧ Lies vl vl' w3 ∧ w'.ownsRow w3.heap.size 9 1 u r.seen.length ((namesOf r.seen).map Value.string) ∧ (∀ k, u.ownBlock = some k → vl'.ownBlock ≠ some k)) := by
        have := ownTexts_any (namesOf r.seen) g L wb mv va vl left w3 HLR3.out HL3.out (by omega) hvl HTA3.out (by rw [HLEN.out]; exact hsl)
        rw [HLEN.out] at this; exact this
      go_wp2_with fail
      refine HOT.out.mono ?_
      rintro e w4 ⟨rfl, vl', u, hlr4, hol4, ht4, hli4, hu4, hne4⟩
      obtain ⟨A1, b1, b2, b3⟩ := assign A w3.heap.size 1 (fun b => vl'.ownBlock = some b)
      have HB : Hid ((∀ k, k < w3.heap.size → A1 k = A k) ∧ (∀ k, w3.heap.size ≤ k → vl'.ownBlock = some k → A1 k = 1) ∧ (∀ k, w3.heap.size ≤ k → vl'.ownBlock ≠ some k → A1 k = 0)) := ⟨b1, b2, b3⟩
      have hsz13 : w1.heap.size ≤ w3.heap.size := HT3.out.size
      have hsz01 : w.heap.size ≤ w1.heap.size := HT1.out.size
      have HSZ : Hid (w.heap.size ≤ w1.heap.size ∧ w1.heap.size ≤ w3.heap.size) := ⟨hsz01, hsz13⟩
      have HFT : Hid (∀ k, RefFoot gb vs (.slice an r.seen.length cn) vw k → A1 k = 2 * i + 3) := fun k hk => by
        show _ = _
        rw [b1 k (Nat.lt_of_lt_of_le (HRA.out.foot_lt k hk) hsz13)]; exact hf1 k hk
      have HFA : Hid (∀ k, RefFoot gb vs (.slice an r.seen.length cn) vw k → A k = 2 * i + 3) := hf1
      have HQ4 : Hid (LawRow w4 wb mv va vl' left ∧ OwnL vl' (L ++ [(.slice (some ⟨g, 0, none⟩) r.seen.length r.seen.length, u)]) w4 ∧ Lies vl vl' w3 ∧ w4.ownsRow w3.heap.size 9 1 u r.seen.length ((namesOf r.seen).map Value.string) ∧ (∀ k, u.ownBlock = some k → vl'.ownBlock ≠ some k)) := ⟨hlr4, hol4, hli4, hu4, hne4⟩
      have HT14 : Hid (Turns (fun k => k = wb ∨ vl.ownBlock = some k) w1 w4) := (HT3.out.mono (fun _ h => h.elim)).trans ht4 (fun k h => Or.inl h)
      have hA1 : ∀ k, (k = wb ∨ vl.ownBlock = some k) → A k = 1 := fun k e => by
        rcases e with e | e
        · rw [e]; exact HF.out.wb1
        · exact hvo k e
      have HP4 : Hid (ProgAt A1 (2 * i + 2) c fb d r w4) := HP1.out.keep (Nat.le_refl _) (fun k hk => b1 k (Nat.lt_of_lt_of_le hk hsz13)) (fun k hk e => HT14.out.block k hk (fun q => by rw [hA1 k q] at e; omega))
      have HR4 : Hid (RefAt w4 gb r vs (.slice an r.seen.length cn) vw) := HRA.out.keepFoot (fun k hk => HT14.out.block k (HRA.out.foot_lt k hk) (fun q => by have := hA1 k q; rw [HFA.out k hk] at this; omega))
      have HE4 : Hid (EnvAt A1 a t w4) := (HF.out.env.keep (A' := A) HT1.out.size (fun _ _ => rfl) (fun k hk e => HT1.out.block k hk (by rw [e]; omega))).keep HT14.out.size (fun k hk => b1 k (Nat.lt_of_lt_of_le hk hsz13)) (fun k hk e => HT14.out.block k hk (fun q => by rw [hA1 k q] at e; cases e))
      have HPG4 : Hid (w4.cell? ⟨ab, ao + 1, none⟩ = some (.pointer (some ⟨gb, 0, none⟩)) ∧ w4.cell? ⟨ab, ao, none⟩ = some (.pointer (some ⟨fb, 0, none⟩))) := by
        have k1 : w4.heap[ab]? = w1.heap[ab]? := HT14.out.block ab (block_lt_of_cell HPG.out.1) (fun q => by
          rcases q with q | q
          · exact HF.out.ne q.symm
          · exact hvb q)
        exact ⟨(World.cell?_of_block (w := w1) (a := ⟨ab, ao + 1, none⟩) k1).trans HPG.out.1, (World.cell?_of_block (w := w1) (a := ⟨ab, ao, none⟩) k1).trans HPG.out.2⟩
      have hA1b : A1 ab = 1 := by rw [b1 ab (by have := block_lt_of_cell HF.out.pf; simp only at this; omega)]; exact HF.out.ab1
      have hA1w : A1 wb = 1 := by rw [b1 wb (by have := HF.out.row.lt; omega)]; exact HF.out.wb1
      clear hlr4 hol4 ht4 hli4 hu4 hne4 hf1 HOT HLR3 HL3 HTA3 b1 b2 b3 hsz13 hsz01
      go_wp2_with fail
      go_loopw [10, 11] (fun ok k wr => ∃ j : Nat, ok = .bool true ∧ k = .int .i64 j ∧ j ≤ r.seen.length ∧ ProgAt A1 (2 * i + 2) c fb d r wr ∧ Turns (fun k => A1 k = 2 * i + 2) w4 wr) (fun _ k _ => r.seen.length - (intOf k).toNat)
      case atStart => exact ⟨0, rfl, rfl, Nat.zero_le _, HP4.out, Turns.refl _ _⟩
      case round =>
        obtain ⟨j, rfl, rfl, hle, hp5, ht5⟩ := hrel
        have HP5 : Hid (ProgAt A1 (2 * i + 2) c fb d r wr) := hp5
        have HT5 : Hid (Turns (fun k => A1 k = 2 * i + 2) w4 wr) := ht5
        have HR5 : Hid (RefAt wr gb r vs (.slice an r.seen.length cn) vw) := HR4.out.keepFoot (fun k hk => ht5.block k (HR4.out.foot_lt k hk) (by rw [HFT.out k hk]; omega))
        have HE5 : Hid (EnvAt A1 a t wr) := HE4.out.keep ht5.size (fun _ _ => rfl) (fun k hk e => ht5.block k hk (by rw [e]; omega))
        have k5 : wr.heap[ab]? = w4.heap[ab]? := ht5.block ab (block_lt_of_cell HPG4.out.1) (by rw [hA1b]; omega)
        have p0 : wr.cell? ⟨ab, ao, none⟩ = some (.pointer (some ⟨fb, 0, none⟩)) := (World.cell?_of_block (w := w4) (a := ⟨ab, ao, none⟩) k5).trans HPG4.out.2
        have p1 : wr.cell? ⟨ab, ao + 1, none⟩ = some (.pointer (some ⟨gb, 0, none⟩)) := (World.cell?_of_block (w := w4) (a := ⟨ab, ao + 1, none⟩) k5).trans HPG4.out.1
        have s1 : wr.cell? ⟨gb, 1, none⟩ = some (.slice an r.seen.length cn) := by rw [cell_of_row _ _ _ _ _ _ HR5.out.row]; rfl
        have HFIN : Hid (ImagePost A wb i c fb gb mv va vl L left r d w (.returned (.bool true)) wr) := by
          have hsz := HSZ.out
          have hB := HB.out
          have hq := HQ4.out
          have hnw : ∀ k, w.heap.size ≤ k → A1 k ≠ 2 * i + 2 := fun k h1 => by
            rcases Nat.lt_or_ge k w3.heap.size with c1 | c1
            · rw [hB.1 k c1, hz k h1]; omega
            · by_cases hv : vl'.ownBlock = some k
              · rw [hB.2.1 k c1 hv]; omega
              · rw [hB.2.2 k c1 hv]; omega
          have hnew : ∀ k, w.heap.size ≤ k → k < w4.heap.size → wr.heap[k]? = w4.heap[k]? := fun k h1 h2 => ht5.block k h2 (hnw k h1)
          have hxu : ∀ k, (Value.slice (some ⟨g, 0, none⟩) r.seen.length r.seen.length).ownBlock = some k ∨ u.ownBlock = some k → A1 k = 0 := by
            rintro k (hk | hk)
            · have hb := row_block HRW.out k hk
              rw [hB.1 k (by omega), hz k hb.1]
            · have hb := row_block hq.2.2.2.1 k hk
              exact hB.2.2 k hb.1 (hq.2.2.2.2 k hk)
          refine ⟨rfl, vl', (.slice (some ⟨g, 0, none⟩) r.seen.length r.seen.length, u), (ht5.block wb hq.1.lt (by rw [hA1w]; omega)).trans hq.1, hq.2.1.keep (fun k hk => ht5.block k (hq.2.1.lt k hk) ?_), ?_, ?_, ?_, ⟨A1, fun k hk => hB.1 k (by omega), fun k hk h1 => ?_, hxu, hp5, ⟨vs, _, vw, HR5.out, HFT.out⟩⟩, ?_⟩
          · rcases hq.2.2.1 k hk with q | q
            · have h2 := HL.out.lt k q
              rw [hB.1 k (by omega), hvo k q]; omega
            · exact hnw k (by omega)
          · refine row_keep HRW.out (fun k hk => ?_)
            have hb := row_block HRW.out k hk
            have e1 := HT14.out.block k hb.2 (fun q => by have := hA1 k q; rw [hz k hb.1] at this; cases this)
            exact (hnew k hb.1 (Nat.lt_of_lt_of_le hb.2 HT14.out.size)).trans e1
          · refine irow_mono (row_keep hq.2.2.2.1 (fun k hk => ?_)) (by omega : w.heap.size ≤ w3.heap.size)
            have hb := row_block hq.2.2.2.1 k hk
            exact hnew k (by omega) hb.2
          · intro k hk
            rcases hq.2.2.1 k hk with q | q
            · exact Or.inl q
            · exact Or.inr (by omega)
          · rcases hq.2.2.1 k hk with q | q
            · have h2 := HL.out.lt k q; omega
            · exact hB.2.1 k q hk
          · refine ((HT1.out.mono (fun k e => Or.inl e)).trans HT14.out (fun k e => Or.inl (Or.inr e))).trans ht5 (fun k e => ?_)
            rcases Nat.lt_or_ge k w.heap.size with c1 | c1
            · rw [hB.1 k (by omega)] at e; exact Or.inl (Or.inl e)
            · exact Or.inr c1
        clear hp5 ht5 k5
        have i0 : (0 : Int) ≤ (j : Int) := by omega
        by_cases hlt : j < r.seen.length
        · have i1 : (j : Int) < (r.seen.length : Int) := by omega
          cases whole
          · go_wp2
            go_ret
            exact ⟨d, HII.out, HFIN.out⟩
          · obtain ⟨x, hx⟩ : ∃ x, r.seen[j]? = some x := ⟨r.seen[j]'hlt, by simp⟩
            obtain ⟨gs, hgs⟩ : ∃ gs, an = some ⟨gs, 0, none⟩ := by
              obtain ⟨_, ⟨e, h0⟩ | ⟨g9, cap9, cur, e, _⟩⟩ := HR5.out.seen.own
              · omega
              · injection e with e1 _ _; exact ⟨g9, e1⟩
            subst hgs
            have s2 := (HR5.out.seen.at.cell j x hx).1
            have s3 := (HR5.out.seen.at.cell j x hx).2
            have hrd := read_at r HII.out.sorted j x hx
            have hxs : x.1.size ≤ 140737488351232 := hnames j x hx
            obtain ⟨xn, xd⟩ := x
            simp only at s2 s3 hrd hxs
            have HCALL : Hid (Calls Tryz.prog 21 #[.pointer (some ⟨fb, 0, none⟩), .string xn] wr.drew fun e w' => e = .returned (.tuple #[.string xd, .int .i64 0]) ∧ ProgAt A1 (2 * i + 2) c fb d r w' ∧ Turns (fun k => A1 k = 2 * i + 2) wr.drew w') := by
              have := plainRead_any (w := wr.drew) hid (HE5.out.keep (Nat.le_refl _) (fun _ _ => rfl) (fun _ _ _ => rfl)) (HP5.out.keep (Nat.le_refl _) (fun _ _ => rfl) (fun _ _ _ => rfl)) xn hxs
              rw [hrd] at this; exact this
            have HSK : Hid (∀ w6, Turns (fun k => A1 k = 2 * i + 2) wr.drew w6 → w6.cell? ⟨ab, ao, none⟩ = some (.pointer (some ⟨fb, 0, none⟩)) ∧ w6.cell? ⟨ab, ao + 1, none⟩ = some (.pointer (some ⟨gb, 0, none⟩)) ∧ w6.cell? ⟨gb, 1, none⟩ = some (.slice (some ⟨gs, 0, none⟩) r.seen.length cn) ∧ w6.cell? ⟨gs, j * 2, none⟩ = some (.string xn) ∧ w6.cell? ⟨gs, j * 2 + 1, none⟩ = some (.string xd)) := fun w6 ht => by
              have k1 : w6.heap[ab]? = wr.heap[ab]? := ht.block ab (block_lt_of_cell p0) (by rw [hA1b]; omega)
              have k2 : w6.heap[gb]? = wr.heap[gb]? := ht.block gb (block_lt_of_cell s1) (by rw [HFT.out gb (Or.inl rfl)]; omega)
              have k3 : w6.heap[gs]? = wr.heap[gs]? := ht.block gs (block_lt_of_cell s2) (by rw [HFT.out gs (Or.inr (Or.inr (Or.inl rfl)))]; omega)
              exact ⟨(World.cell?_of_block (w := wr) (a := ⟨ab, ao, none⟩) k1).trans p0, (World.cell?_of_block (w := wr) (a := ⟨ab, ao + 1, none⟩) k1).trans p1, (World.cell?_of_block (w := wr) (a := ⟨gb, 1, none⟩) k2).trans s1, (World.cell?_of_block (w := wr) (a := ⟨gs, j * 2, none⟩) k3).trans s2, (World.cell?_of_block (w := wr) (a := ⟨gs, j * 2 + 1, none⟩) k3).trans s3⟩
            clear hrd hx
            go_wp2_with fail
            go_region_held3 (fun w' => w'.cell? ⟨ab, ao, none⟩ = some (.pointer (some ⟨fb, 0, none⟩)) ∧ w'.cell? ⟨ab, ao + 1, none⟩ = some (.pointer (some ⟨gb, 0, none⟩)) ∧ w'.cell? ⟨gb, 1, none⟩ = some (.slice (some ⟨gs, 0, none⟩) r.seen.length cn) ∧ w'.cell? ⟨gs, j * 2, none⟩ = some (.string xn) ∧ w'.cell? ⟨gs, j * 2 + 1, none⟩ = some (.string xd)) (first | exact ⟨p0, p1, s1, s2, s3⟩ | exact hS6) (first | (go_at_call 21; refine HCALL.out.mono ?_; rintro e w6 ⟨rfl, hp6, ht6⟩; have hS6 := HSK.out w6 ht6))
            all_goals
              have HN : Hid (ProgAt A1 (2 * i + 2) c fb d r w6 ∧ Turns (fun k => A1 k = 2 * i + 2) w4 w6) := ⟨hp6, HT5.out.trans ⟨ht6.os, ht6.output, ht6.size, ht6.block⟩ (fun k e => Or.inl e)⟩
              have y1 := hS6.2.1
              have y2 := hS6.2.2.1
              have y4 := hS6.2.2.2.2
              clear hp6 ht6 hS6 HCALL HSK p0 p1 s1 s2 s3 HFIN HP5 HR5 HE5 HT5
              go_wp2
              refine ⟨⟨j + 1, rfl, by go_num, hlt, HN.out.1, HN.out.2⟩, by simp [intOf]; omega⟩
        · obtain rfl : j = r.seen.length := by omega
          go_wp2
          go_ret
          exact ⟨d, HII.out, HFIN.out⟩
end Go.Proofs.YthhbpebihgjpjaaGreatDoor
