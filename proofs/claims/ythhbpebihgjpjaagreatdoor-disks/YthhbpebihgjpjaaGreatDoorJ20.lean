import Derived.Test.YthhbpebihgjpjaaGreatDoorJ15
import Derived.Test.YthhbpebihgjpjaaGreatDoorJ18
import Derived.Test.YthhbpebihgjpjaaGreatDoorJ13
import Derived.Shelf.Sort.Plain
import Derived.Test.YthhbpebihgjpjaaGreatDoorShelf
import Derived.Sort.KeysCollected
import Derived.Sort.OwnSorted
import Derived.Maps.OwnSet
import Derived.OwnWalk
namespace Go.Proofs.YthhbpebihgjpjaaGreatDoor
open Go.RowKit Go.MuLone Go.Maps
set_option maxRecDepth 1000000

def removeNo (l : List FileV) (name : ByteArray) (vN vO : Value) : Option Value :=
  if named name = true then (if posIn l name = -1 then some vO else none) else some vN

set_option maxHeartbeats 4000000 in
theorem progRemove_any (name : ByteArray) (hn : name.size ≤ maxLen) (l : List FileV) (hdt : (dataOf l name).size ≤ 1099511627776) (S : List KeptV) (vN vO vR vD : Value) (d : ProgD) (fb : Nat) (nb sb n : Nat) (sv : Value) (w : World)
    (h : OpIn l S vN vO vR vD d fb nb sb n sv 0 w) (hroom : n < maxLen) (hhi : d.fuse ≤ 9223372036854775807) (hSl : S.length ≤ 1048576) (hlow : 14 ≤ fb) (hne : sv.ownBlock ≠ some fb ∧ sv.ownBlock ≠ some nb ∧ fb ≠ nb) :
    Calls Tryz.prog 78 #[.pointer (some ⟨fb, 0, none⟩), .string name] w (OpPost (removeNo l name vN vO) vD l ⟨4, name, ⟨#[]⟩⟩ S d fb nb sb n sv w) := by
  have hgd : 3 ≠ fb := by omega
  obtain ⟨w2, hw2⟩ : ∃ w2, w2 = ((w.alloc (.cells #[.pointer (some ⟨fb, 0, none⟩)] 31)).alloc (.cells #[.string name] 9)) := ⟨_, rfl⟩
  have hB : Below w.heap.size w w2 := by rw [hw2]; exact ((Below.refl _ _).alloc (Nat.le_refl _) _).alloc (by simp) _
  have hI : OpIn l S vN vO vR vD d fb nb sb n sv 0 w2 := h.below hB
  have hb0 : w2.cell? ⟨w.heap.size, 0, none⟩ = some (.pointer (some ⟨fb, 0, none⟩)) := by
    rw [hw2, World.cell?_alloc_lt _ _ ⟨w.heap.size, 0, none⟩ (by simp)]; exact cell_fresh w _ _ 0 _ rfl
  have hb1 : w2.cell? ⟨w.heap.size + 1, 0, none⟩ = some (.string name) := by
    rw [hw2]; simp
  have h0 : w2.cell? ⟨fb, 0, none⟩ = some (.int .i32 0) := by rw [cell_of_row _ _ _ _ _ _ hI.row]; rfl
  have f0 : w2.frozen? ⟨fb, 0, none⟩ = false := frozen_of_row _ _ _ _ _ hI.row
  have hfb : fb < w.heap.size := h.row.lt
  have HT : Hid (Turns (fun k => k = fb) w w2) := Turns.of_below _ hB
  have HI : Hid (OpIn l S vN vO vR vD d fb nb sb n sv 1 (w2.setCell ⟨fb, 0, none⟩ (.int .i32 1))) := hI.lock 1 hlow hne
  have HT1 : Hid (Turns (fun k => k = fb) w (w2.setCell ⟨fb, 0, none⟩ (.int .i32 1))) := HT.out.setCell ⟨fb, 0, none⟩ _ (Or.inl rfl)
  have b0 : (w2.setCell ⟨fb, 0, none⟩ (.int .i32 1)).cell? ⟨w.heap.size, 0, none⟩ = some (.pointer (some ⟨fb, 0, none⟩)) := by
    rw [World.cell?_of_block (w := w2) (a := ⟨w.heap.size, 0, none⟩) (heap_setCell_other _ _ _ _ (show w.heap.size ≠ fb by omega))]; exact hb0
  have b1 : (w2.setCell ⟨fb, 0, none⟩ (.int .i32 1)).cell? ⟨w.heap.size + 1, 0, none⟩ = some (.string name) := by
    rw [World.cell?_of_block (w := w2) (a := ⟨w.heap.size + 1, 0, none⟩) (heap_setCell_other _ _ _ _ (show w.heap.size + 1 ≠ fb by omega))]; exact hb1
  have HH : Hid (OpIn l S vN vO vR vD d fb nb sb n sv 0 w) := h
  clear h hB hI HT hb0 hb1
  go_enter_defers Tryz.func78, Tryz.ntmps78
  go_wp2_with fail
  rw [← hw2]
  refine (lock_free muLib ⟨fb, 0, none⟩ _ h0 f0).mono ?_
  rintro e w1 ⟨rfl, rfl⟩
  refine Hid.out ?_
  clear h0 f0 hw2
  generalize w2.setCell ⟨fb, 0, none⟩ (.int .i32 1) = w3 at *
  unfold Hid
  have e0 : w3.cell? ⟨0, 0, none⟩ = some vN := HI.out.errs.name
  go_wp2_with fail
  refine (isName_any name w3).mono ?_
  rintro e w4 ⟨rfl, rfl⟩
  by_cases hnm : named name = true
  · rw [hnm]
    have HR4 : Hid (ProgRow w4 fb d 1 nb sb sv) := HI.out.row
    go_wp2_with fail
    refine (has_any name hn l d fb 1 nb sb n sv w4 HI.out.row HI.out.map).mono ?_
    rintro e w5 ⟨rfl, hB5⟩
    have HI5 : Hid (OpIn l S vN vO vR vD d fb nb sb n sv 1 w5) := HI.out.below hB5
    have HT5 : Hid (Turns (fun k => k = fb) w w5) := HT1.out.trans (Turns.of_below (fun k => k = fb) hB5) (fun i hi => Or.inl hi)
    have b05 : w5.cell? ⟨w.heap.size, 0, none⟩ = some (.pointer (some ⟨fb, 0, none⟩)) := (World.cell?_of_block (w := w4) (a := ⟨w.heap.size, 0, none⟩) (hB5.block w.heap.size (block_lt_of_cell b0))).trans b0
    have b15 : w5.cell? ⟨w.heap.size + 1, 0, none⟩ = some (.string name) := (World.cell?_of_block (w := w4) (a := ⟨w.heap.size + 1, 0, none⟩) (hB5.block (w.heap.size + 1) (block_lt_of_cell b1))).trans b1
    have e25 : w5.cell? ⟨1, 0, none⟩ = some vO := HI5.out.errs.gone
    clear hB5 HI HT1 e0 b0 b1 HR4
    by_cases hps : decide (posIn l name ≠ -1) = true
    · rw [hps]
      have HX : Hid (removeNo l name vN vO = none) := by show _ = _; rw [removeNo, if_pos hnm, if_neg (by simpa using hps)]
      have HL : Hid (nb < w.heap.size ∧ ∀ j, sv.ownBlock = some j → j < w.heap.size) := ⟨HH.out.map.lt, HH.out.own.lt⟩
      go_wp2_with fail
      refine (operate_post ⟨126, #[.pointer (some ⟨w.heap.size, 0, none⟩), .pointer (some ⟨w.heap.size + 1, 0, none⟩)], ⟨#[]⟩, false⟩ ⟨4, name, ⟨#[]⟩⟩ (fun _ => rfl) S vD l d fb 1 nb sb n sv w5 HI5.out.row HI5.out.map hhi HI5.out.own hSl hne ⟨_, _, b05, b15, Or.inr (Or.inr (Or.inr ⟨rfl, rfl⟩))⟩ ?_ hroom hn (Nat.zero_le _) (Nat.zero_le _) hdt HI5.out.errs.down hgd).mono ?_
      · intro b hb
        simp [BoxOf] at hb
        have hlt := HL.out
        refine ⟨by omega, by omega, fun e => ?_⟩
        have := hlt.2 b e
        omega
      rintro e w6 hp
      have HP : Hid (OperPost ⟨126, #[.pointer (some ⟨w.heap.size, 0, none⟩), .pointer (some ⟨w.heap.size + 1, 0, none⟩)], ⟨#[]⟩, false⟩ ⟨4, name, ⟨#[]⟩⟩ vD l S d fb 1 nb sb n sv w5 e w6) := hp
      obtain ⟨v, rfl⟩ := HP.out.ret
      obtain ⟨sv2, hr2⟩ := HP.out.row
      have HR2 : Hid (ProgRow w6 fb (burnD d) 1 nb sb sv2) := hr2
      clear hp hr2
      go_wp2
      refine leaves_cons (f := 59) (args := #[.pointer (some ⟨fb, 0, none⟩)]) (by simp) (by simp [go_sem]) ?_; refine (unlock_deferred muLib ⟨fb, 0, none⟩ .returning _ ?_ ?_).mono ?_; (rw [cell_of_row _ _ _ _ _ _ HR2.out]; rfl); (exact frozen_of_row _ _ _ _ _ HR2.out); rintro e u' w'' ⟨rfl, rfl, rfl⟩
      refine ⟨_, results_tmp rfl _ _ _, ?_⟩
      exact op_done HX.out hfb HT5.out (fun b hb => by simp [BoxOf] at hb; omega) HP.out hne
    · have hps2 : decide (posIn l name ≠ -1) = false := by simpa using hps
      rw [hps2]
      have HX : Hid (removeNo l name vN vO = some vO) := by show _ = _; rw [removeNo, if_pos hnm, if_pos (by simpa using hps)]
      go_wp2
      have HR2 : Hid (ProgRow w5 fb d 1 nb sb sv) := HI5.out.row
      refine leaves_cons (f := 59) (args := #[.pointer (some ⟨fb, 0, none⟩)]) (by simp) (by simp [go_sem]) ?_; refine (unlock_deferred muLib ⟨fb, 0, none⟩ .returning _ ?_ ?_).mono ?_; (rw [cell_of_row _ _ _ _ _ _ HR2.out]; rfl); (exact frozen_of_row _ _ _ _ _ HR2.out); rintro e u' w'' ⟨rfl, rfl, rfl⟩
      refine ⟨_, results_tmp rfl _ _ _, ?_⟩
      have hI9 := HI5.out.lock 0 hlow hne
      exact ⟨(HT5.out.setCell ⟨fb, 0, none⟩ _ (Or.inl rfl)).mono (fun _ hk => Or.inl hk), Or.inl ⟨vO, HX.out, rfl, hI9.row, hI9.map, hI9.own⟩⟩
  · have hnm2 : named name = false := by simpa using hnm
    rw [hnm2]
    have HX : Hid (removeNo l name vN vO = some vN) := by show _ = _; rw [removeNo, if_neg hnm]
    go_wp2
    have HR2 : Hid (ProgRow w4 fb d 1 nb sb sv) := HI.out.row
    refine leaves_cons (f := 59) (args := #[.pointer (some ⟨fb, 0, none⟩)]) (by simp) (by simp [go_sem]) ?_; refine (unlock_deferred muLib ⟨fb, 0, none⟩ .returning _ ?_ ?_).mono ?_; (rw [cell_of_row _ _ _ _ _ _ HR2.out]; rfl); (exact frozen_of_row _ _ _ _ _ HR2.out); rintro e u' w'' ⟨rfl, rfl, rfl⟩
    refine ⟨_, results_tmp rfl _ _ _, ?_⟩
    have hI9 := HI.out.lock 0 hlow hne
    exact ⟨(HT1.out.setCell ⟨fb, 0, none⟩ _ (Or.inl rfl)).mono (fun _ hk => Or.inl hk), Or.inl ⟨vN, HX.out, rfl, hI9.row, hI9.map, hI9.own⟩⟩
end Go.Proofs.YthhbpebihgjpjaaGreatDoor

namespace Go.Proofs.YthhbpebihgjpjaaGreatDoor
open Go.RowKit Go.MuLone Go.Maps Go.Sort
set_option maxRecDepth 1000000

theorem sort_any (blk off cap : Nat) (ss : List (List UInt8)) (w : World) (hH : Holds encStr w blk off ss.toArray) (hblk : blk < w.heap.size) (hsz : ss.length < 4611686018427387904) :
    Calls Tryz.prog 65 #[.slice (some ⟨blk, off, none⟩) ss.length cap] w fun e w' =>
      e = .returned (.tuple #[]) ∧ ∃ n os, w' = grow (putRow encStr (Sort.ahead w n) blk off (ss.mergeSort fun x y => decide (x ≤ y)).toArray) os :=
  Any.slices_Sort_string Tryz.lays190 blk off cap ss w hH hblk hsz

/-- The names, each as the list of its bytes. -/
def nameKeys (l : List FileV) : List (List UInt8) := l.map fun x => x.1.data.toList
theorem nameKeys_nodup {l : List FileV} (h : SortL l) : (nameKeys l).Nodup := by
  refine List.pairwise_map.2 (h.imp (fun {a b} hab e => ?_))
  exact lessT_ne hab (bytes_ext e)
theorem nameKeys_sorted {l : List FileV} (h : SortL l) : (nameKeys l).mergeSort leB = nameKeys l := by
  refine List.mergeSort_of_pairwise ?_
  refine List.pairwise_map.2 (h.imp (fun {a b} hab => ?_))
  simp only [leB, decide_eq_true_eq]
  exact List.le_of_lt ((lessT_iff a.1 b.1).1 hab)
theorem mem_nameKeys {l : List FileV} {D : DataW Unit} (h : MapHolds D l) (x : List UInt8) : x ∈ nameKeys l ↔ has D (.string x) = true := by
  have e : Lit.string x = keyLit ⟨x.toArray⟩ := by simp [keyLit]
  rw [e, h.has]
  constructor
  · intro hx
    obtain ⟨y, hy, rfl⟩ := List.mem_map.1 hx
    have := findL_here l y hy
    simpa using this
  · intro hx
    obtain ⟨c, hc⟩ := Option.isSome_iff_exists.1 hx
    obtain ⟨y, hy, he⟩ := findL_mem l _ c hc
    exact List.mem_map.2 ⟨y, hy, by rw [he]⟩
theorem collected_names {l : List FileV} {D : DataW Unit} {left : Lit → Bool} {ss : List (List UInt8)} (h : MapHolds D l) (hs : SortL l) (hC : Collected D left ss) (hl : ∀ kl, left kl = false) : ss.mergeSort leB = nameKeys l ∧ ss.length = l.length := by
  have hp : ss.Perm (nameKeys l) := (List.perm_ext_iff_of_nodup hC.1 (nameKeys_nodup hs)).2 fun x => by rw [mem_nameKeys h, hC.2 x]; simp [hl]
  exact ⟨by rw [mergeSort_of_perm hp, nameKeys_sorted hs], by rw [hp.length_eq]; simp [nameKeys]⟩

/-- What Names hands out: a row of its own, of the names as they rise, with no spare room. -/
def NamesPost (l : List FileV) (d : ProgD) (fb nb sb : Nat) (sv : Value) (w : World) (e : Ending) (w' : World) : Prop :=
  ∃ g, w.heap.size ≤ g ∧ e = .returned (.slice (some ⟨g, 0, none⟩) l.length l.length) ∧ w'.ownsRow w.heap.size 9 1 (.slice (some ⟨g, 0, none⟩) l.length l.length) l.length ((nameKeys l).map encStr) ∧ ProgRow w' fb d 0 nb sb sv ∧ Turns (fun k => k = fb) w w'

set_option maxHeartbeats 4000000 in
theorem progNames_any (l : List FileV) (hs : SortL l) (d : ProgD) (fb : Nat) (nb sb n : Nat) (sv : Value) (w : World) (h : ProgRow w fb d 0 nb sb sv) (hm : MapAt w nb n l) (hn : n ≤ 1048576) (hnb : nb ≠ fb) :
    Calls Tryz.prog 44 #[.pointer (some ⟨fb, 0, none⟩)] w (NamesPost l d fb nb sb sv w) := by
  have hinf : (Tryz.prog.info? 9).map (fun i => (i.zero, i.size, i.bytes)) = some (some (.string ⟨#[]⟩), 1, 16) := by kernel_rfl
  obtain ⟨i0, hi, hz0, hz1, hz2⟩ := info_parts hinf
  have HR1 : Hid (ProgRow (w.setCell ⟨fb, 0, none⟩ (.int .i32 1)) fb d 1 nb sb sv) := h.setLock 1
  have HT1 : Hid (Turns (fun k => k = fb) w (w.setCell ⟨fb, 0, none⟩ (.int .i32 1))) := (Turns.refl _ w).setCell ⟨fb, 0, none⟩ _ (Or.inl rfl)
  obtain ⟨D, hown, hh⟩ := (show MapAt (w.setCell ⟨fb, 0, none⟩ (.int .i32 1)) nb n l from hm.keep (heap_setCell_other _ _ _ _ hnb))
  have HH : Hid (MapHolds D l) := hh
  have HSO : Hid (SortL l) := hs
  have h0 : w.cell? ⟨fb, 0, none⟩ = some (.int .i32 0) := by rw [cell_of_row _ _ _ _ _ _ h]; rfl
  have f0 : w.frozen? ⟨fb, 0, none⟩ = false := frozen_of_row _ _ _ _ _ h
  have hsz1 : w.heap.size = (w.setCell ⟨fb, 0, none⟩ (.int .i32 1)).heap.size := by simp [World.setCell]
  have HSZ : Hid (w.heap.size = (w.setCell ⟨fb, 0, none⟩ (.int .i32 1)).heap.size) := hsz1
  clear h hm hh hs hinf hsz1
  go_enter_defers Tryz.func44, Tryz.ntmps44
  go_wp2_with (go_at_call 58; refine (lock_free muLib ⟨fb, 0, none⟩ _ h0 f0).mono ?_; rintro e w1 ⟨rfl, rfl⟩; refine Hid.out ?_)
  clear h0 f0
  generalize w.setCell ⟨fb, 0, none⟩ (.int .i32 1) = w2 at *
  have c3 : w2.cell? ⟨fb, 3, none⟩ = some (.map (some nb)) := by rw [cell_of_row _ _ _ _ _ _ HR1.out]; rfl
  have hbl := hown.lt
  have hfb2 : fb < w2.heap.size := HR1.out.lt
  have HSZ2 : Hid (Maps.size D ≤ n) := hown.size_le
  unfold Hid
  go_wp2_with (first
    | (at_len; refine wpList_len_own _ rfl _ 85 rfl 9 117 Tryz.underlying85 _ nb n _ rfl hown ?_)
    | (at_make; refine wpList_make_own _ rfl _ _ 32 rfl w2.heap.size 9 i0 (.string ⟨#[]⟩) 1 Tryz.underlying32 hi hz0 hz1 _ _ _ (Maps.size D) rfl rfl rfl (by have := HSZ2.out; rw [hz2]; omega) (by have := HSZ2.out; unfold maxLen; omega) (Nat.le_refl _) ?_; intro w3 hrow3 hg3; have c33 : w3.cell? ⟨fb, 3, none⟩ = some (.map (some nb)) := (World.cell?_of_block (w := w2) (a := ⟨fb, 3, none⟩) (hg3.block fb hfb2 (by simp))).trans c3)
    | (at_range; refine wpList_range_own _ rfl _ 85 rfl 9 117 lawS Tryz.underlying85 _ nb n _ rfl (hown.kept hg3 (by simp)) ?_; intro w0 hrg0 hg0 hs0)
    | fail)
  go_frame
  clear c3 c33
  go_loopw [3] (fun v wr => ∃ (left : Lit → Bool) (cnt : Nat) (ss : List (List UInt8)), wr.ranges Tryz.prog 9 fileElem nb w3.heap.size n D left cnt ∧ ss.length + cnt ≤ Maps.size D ∧ v = .slice (some ⟨w2.heap.size, 0, none⟩) ss.length (Maps.size D) ∧
      wr.ownsRow w2.heap.size 9 1 (.slice (some ⟨w2.heap.size, 0, none⟩) ss.length (Maps.size D)) ss.length (ss.map encStr) ∧ Collected D left ss ∧ Below w2.heap.size w2 wr)
    (fun _ wr => wr.rangeLeft nb w3.heap.size)
  case atStart =>
    exact ⟨_, _, [], hrg0, by simp, rfl, hrow3.kept hg0 (Or.inr (by simp [Value.ownBlock])), Collected.start D,
      ((Below.refl _ _).grown hg3 (Nat.le_refl _) (fun j hj => by cases hj)).grown hg0 hg3.size (fun j hj => by cases hj)⟩
  case round =>
    obtain ⟨left, cnt, ss, hrg, hcs, rfl, hrow, hC, hnx⟩ := hrel
    go_wp2_with (first
      | (at_next; refine wpList_next_files _ rfl _ rfl nb w3.heap.size n _ _ _ rfl hrg ?_ ?_)
      | fail)
    · intro hc0 hl0
      have HCN : Hid (ss.mergeSort leB = nameKeys l ∧ ss.length = l.length) := collected_names HH.out HSO.out hC hl0
      have HPL : Hid (Maps.size D = ss.length) := by
        show _ = _
        have hp := (hC.perm hown lawS Tryz.underlying9 hl0).length_eq
        obtain ⟨es, he, _⟩ := hown.keysOf
        rw [he] at hp ⊢
        simpa [strKeys, Maps.size] using hp.symm
      obtain ⟨_, ⟨hnil, _⟩ | ⟨g, cap, cur, hv, hbase, hb, q1, q2, q3, q4⟩⟩ := hrow
      · cases hnil
      injection hv with v1 v2 v3
      injection v1 with v1
      injection v1 with v4 v5 v6
      subst v4 v3
      have hH : Holds encStr wr w2.heap.size 0 ss.toArray := holds_of_block hb (by simpa using q4)
      have hgl : w2.heap.size < wr.heap.size := (Array.getElem?_eq_some_iff.1 hb).1
      have HC : Hid (Calls Tryz.prog 65 #[.slice (some ⟨w2.heap.size, 0, none⟩) ss.length (Maps.size D)] wr fun e w' => e = .returned (.tuple #[]) ∧ ∃ n os, w' = grow (putRow encStr (Sort.ahead wr n) w2.heap.size 0 (ss.mergeSort fun x y => decide (x ≤ y)).toArray) os) := sort_any w2.heap.size 0 _ ss wr hH hgl (by have := HSZ2.out; omega)
      have HFIN : Hid (∀ nn os, NamesPost l d fb nb sb sv w (.returned (.slice (some ⟨w2.heap.size, 0, none⟩) ss.length (Maps.size D))) ((grow (putRow encStr (Sort.ahead wr nn) w2.heap.size 0 (ss.mergeSort fun x y => decide (x ≤ y)).toArray) os).setCell ⟨fb, 0, none⟩ (.int .i32 0)) ∧ ProgRow (grow (putRow encStr (Sort.ahead wr nn) w2.heap.size 0 (ss.mergeSort fun x y => decide (x ≤ y)).toArray) os) fb d 1 nb sb sv) := fun nn os => by
        have hgr := grownBy_sorted (w := wr) (g := w2.heap.size) (n := nn) (os := os) (ss.mergeSort leB).toArray
        have hbel := hnx.grown hgr hnx.size (fun j hj => by cases hj; exact Nat.le_refl _)
        have hr : ProgRow (grow (putRow encStr (Sort.ahead wr nn) w2.heap.size 0 (ss.mergeSort leB).toArray) os) fb d 1 nb sb sv := (hbel.block fb hfb2).trans HR1.out
        have hrs := ownsRow_sorted (w := wr) (base := w2.heap.size) (n := nn) (os := os) (ts := ss.mergeSort leB) (ss := ss) (by simp) (Nat.le_refl _) hb q1 q2 q3
        have ht : Turns (fun k => k = fb) w (grow (putRow encStr (Sort.ahead wr nn) w2.heap.size 0 (ss.mergeSort leB).toArray) os) := HT1.out.trans (Turns.of_below (fun k => k = fb) hbel) (fun i hi => Or.inl hi)
        refine ⟨⟨w2.heap.size, by rw [HSZ.out]; exact Nat.le_refl _, by rw [HPL.out, HCN.out.2], ?_, hr.setLock 0, ht.setCell ⟨fb, 0, none⟩ _ (Or.inl rfl)⟩, hr⟩
        have h9 := hrs.kept (grownBy.setCell' (World.grownBy.refl _ (some fb)) ⟨fb, 0, none⟩ (.int .i32 0) (Or.inl rfl)) (Or.inr (by simp [Value.ownBlock]; omega))
        rw [HSZ.out]
        rw [HPL.out, HCN.out.1, HCN.out.2] at h9
        rw [HCN.out.1]
        exact h9
      clear hb hH q1 q2 q3 q4 hgl hC hl0
      go_wp2_with fail
      refine HC.out.mono ?_
      rintro e w9 ⟨rfl, nn, os, rfl⟩
      have HF := HFIN.out nn os
      clear HFIN HC
      generalize grow (putRow encStr (Sort.ahead wr nn) w2.heap.size 0 (ss.mergeSort fun x y => decide (x ≤ y)).toArray) os = w9 at *
      have HR2 : Hid (ProgRow w9 fb d 1 nb sb sv) := HF.2
      have HF1 : Hid (NamesPost l d fb nb sb sv w (.returned (.slice (some ⟨w2.heap.size, 0, none⟩) ss.length (Maps.size D))) (w9.setCell ⟨fb, 0, none⟩ (.int .i32 0))) := HF.1
      clear HF
      go_wp2
      refine leaves_cons (f := 59) (args := #[.pointer (some ⟨fb, 0, none⟩)]) (by simp) (by simp [go_sem]) ?_; refine (unlock_deferred muLib ⟨fb, 0, none⟩ .returning _ ?_ ?_).mono ?_; (rw [cell_of_row _ _ _ _ _ _ HR2.out]; rfl); (exact frozen_of_row _ _ _ _ _ HR2.out); rintro e u' w'' ⟨rfl, rfl, rfl⟩
      refine ⟨_, results_tmp rfl _ _ _, ?_⟩
      exact HF1.out
    · intro x c w4 cnt4 hlk hat hrg4 hlt hg4 hs4 hen
      have hrow4 := hrow.kept hg4 (Or.inr (row_ne_iter hrow hrg).symm)
      have hC4 := hC.step (x := x.data.toList) hlk hat
      clear hs4
      go_wp2_with (first
        | (at_builtin; refine wpList_append_fits _ rfl _ _ 32 rfl w2.heap.size 9 i0 1 Tryz.underlying32 hi hz1 w2.heap.size ss.length (Maps.size D) (ss.map encStr) rfl (hrow4.alloc _) ⟨w4.heap.size, 0, none⟩ 1 1 [.string x] rfl rfl (cell_one_new _ _ _) (by simp [Value.oneCell']) (by omega) ?_; intro w5 hown5 hg5; go_frame)
        | fail)
      have hrg5 := (hrg4.alloc (.cells #[.string x] 9)).kept hg5 (by simp; omega) (by have := (row_ne_iter hrow4 hrg4); simpa [Value.ownBlock] using this)
      have he : encStr x.data.toList = .string x := by simp [encStr]
      refine ⟨⟨_, cnt4, ss ++ [x.data.toList], hrg5, by simp; omega, by simp, by simpa [he] using hown5, hC4, ?_⟩, ?_⟩
      · exact ((hnx.grown hg4 hnx.size (fun j hj => by cases hj; exact hg3.size)).alloc (by have := hnx.size; have := hg4.size; omega) _).grown hg5 (by have := hnx.size; have := hg4.size; simp; omega) (fun j hj => by cases hj; exact Nat.le_refl _)
      · rw [hrg5.left_eq, hrg.left_eq]; exact hlt
end Go.Proofs.YthhbpebihgjpjaaGreatDoor
