import Derived.Test.YthhbpebihgjpjaaGreatDoorJ12
import Derived.Shelf.SlMaps.Clone
namespace Go.Proofs.YthhbpebihgjpjaaGreatDoor
open Go.RowKit Go.MuLone Go.Maps
set_option maxRecDepth 1000000

set_option maxHeartbeats 2000000 in
theorem doRename_any (frm to part : ByteArray) (hn : frm.size ≤ maxLen) (hn2 : to.size ≤ maxLen) (l : List FileV) (d : ProgD) (fb : Nat) (lk : Int) (nb sb n : Nat) (sv : Value) (bf bn bt : Nat) (w : World) (h : ProgRow w fb d lk nb sb sv) (hm : MapAt w nb n l) (hroom : n < maxLen) (hne : fb ≠ nb ∧ bf ≠ nb ∧ bn ≠ nb ∧ bt ≠ nb)
    (b0 : w.cell? ⟨bf, 0, none⟩ = some (.pointer (some ⟨fb, 0, none⟩))) (b1 : w.cell? ⟨bn, 0, none⟩ = some (.string frm)) (b2 : w.cell? ⟨bt, 0, none⟩ = some (.string to)) :
    Calls Tryz.prog 252 #[.string part, .pointer (some ⟨bf, 0, none⟩), .pointer (some ⟨bn, 0, none⟩), .pointer (some ⟨bt, 0, none⟩)] w fun e w' => e = .returned (.tuple #[]) ∧ MapAt w' nb (n + 1) (putL (withoutL l frm) to (dataOf l frm)) ∧ Turns (fun k => k = nb) w w' := by
  have c3 : w.cell? ⟨fb, 3, none⟩ = some (.map (some nb)) := by rw [cell_of_row _ _ _ _ _ _ h]; rfl
  have hl := (show MapAt w.drew nb n l from hm.keep rfl).look frm hn
  have hl2 := (show MapAt (w.alloc (.cells #[.string ⟨#[]⟩] 117)).drew nb n l from hm.keep (heapA_old w _ nb hm.lt)).look frm hn
  have hcz : ∀ (p : Addr) (v : Value), w.cell? p = some v → (w.alloc (.cells #[.string ⟨#[]⟩] 117)).drew.cell? p = some v := fun p v hp => by
    have := World.cell?_alloc_lt w (.cells #[.string ⟨#[]⟩] 117) p (block_lt_of_cell hp)
    exact this.trans hp
  have c3z := hcz _ _ c3
  have b0z := hcz _ _ b0
  have b1z := hcz _ _ b1
  have HM : Hid (MapAt w nb n l) := hm
  have hnb := hm.lt
  clear h hm hcz
  generalize dataOf l frm = dt at *
  go_enter Tryz.func252, Tryz.ntmps252
  go_wp2_with fail
  go_region
  all_goals
    have HM0 : Hid (MapAt (w.alloc (.cells #[.string dt] 117)).drew nb n l) := HM.out.keep (heapA_old w _ nb hnb)
    have HT0 : Hid (Turns (fun k => k = nb) w (w.alloc (.cells #[.string dt] 117)).drew) := ⟨rfl, rfl, by simp [World.drew], fun k hk _ => heapA_old w _ k hk⟩
    have hcell : ∀ (p : Addr) (v : Value), w.cell? p = some v → (w.alloc (.cells #[.string dt] 117)).drew.cell? p = some v := fun p v hp => (World.cell?_alloc_lt w (.cells #[.string dt] 117) p (block_lt_of_cell hp)).trans hp
    have c3' := hcell _ _ c3
    have b0' := hcell _ _ b0
    have b1' := hcell _ _ b1
    have b2' := hcell _ _ b2
    have hwas : (w.alloc (.cells #[.string dt] 117)).drew.cell? ⟨w.heap.size, 0, none⟩ = some (.string dt) := by
      have h1 : (w.alloc (.cells #[.string dt] 117)).cell? ⟨w.heap.size, 0, none⟩ = some (.string dt) := by rw [cell_of_row _ _ _ _ _ _ (heapA_new w _ _ rfl)]; rfl
      exact h1
    have hnw : w.heap.size ≠ nb := by omega
    clear hcell c3 b0 b1 b2 c3z b0z b1z hl hl2 HM
    generalize (w.alloc (.cells #[.string dt] 117)).drew = W at *
    go_wp2_with fail
    go_region_law (refine step_delete_files rfl _ _ rfl nb n l frm hn rfl rfl ?_ ?_; exact HM0.out.keep rfl; intro w1 hm1 hg1)
    all_goals
      have hc1 : ∀ (p : Addr) (v : Value), W.cell? p = some v → p.block ≠ nb → w1.cell? p = some v := fun p v hp hb => by
        rw [World.cell?_of_block (w := W) (hg1.block p.block (block_lt_of_cell hp) (fun e => hb (Option.some.inj e)))]; exact hp
      have c3 := hc1 _ _ c3' hne.1
      have b0 := hc1 _ _ b0' hne.2.1
      have b1 := hc1 _ _ b1' hne.2.2.1
      have b2 := hc1 _ _ b2' hne.2.2.2
      have hws := hc1 _ _ hwas hnw
      have HT1 : Hid (Turns (fun k => k = nb) w w1) := HT0.out.trans (G := fun k => k = nb) ⟨hg1.os, hg1.output, hg1.size, fun k hk hn => hg1.block k hk (fun e => hn (Option.some.inj e))⟩ (fun i hi => Or.inl hi)
      obtain ⟨w2, hst, hm2, hg2⟩ := (show MapAt w1.drew nb n (withoutL l frm) from hm1.keep rfl).store hroom to dt hn2
      have HX : Hid (MapAt w2 nb (n + 1) (putL (withoutL l frm) to dt) ∧ Turns (fun k => k = nb) w w2) := ⟨hm2, HT1.out.trans (G := fun k => k = nb) ⟨hg2.os, hg2.output, hg2.size, fun k hk hn => hg2.block k hk (fun e => hn (Option.some.inj e))⟩ (fun i hi => Or.inl hi)⟩
      clear hc1 hg1 c3' b0' b1' b2' hwas hm1 hm2 hg2 HT1
      go_wp2_with fail
      go_region
      all_goals
        go_wp2
        go_end0
        exact ⟨rfl, HX.out.1, HX.out.2⟩
end Go.Proofs.YthhbpebihgjpjaaGreatDoor

namespace Go.Proofs.YthhbpebihgjpjaaGreatDoor
open Go.RowKit Go.MuLone Go.Maps
set_option maxRecDepth 1000000

set_option maxHeartbeats 2000000 in
theorem progNew_any (n : Int) (w : World) :
    Calls Tryz.prog 27 #[.int .i64 n] w fun e w' => ∃ fb nb sb, e = .returned (.pointer (some ⟨fb, 0, none⟩)) ∧ ProgRow w' fb ⟨min (max n 0) 65536, 0, false⟩ 0 nb sb (.slice none 0 0) ∧ MapAt w' nb 0 [] ∧ MapAt w' sb 0 [] ∧ w.heap.size ≤ fb ∧ w.heap.size ≤ nb ∧ w.heap.size ≤ sb ∧ nb ≠ fb ∧ sb ≠ fb ∧ nb ≠ sb ∧ Below w.heap.size w w' := by
  have hmm := @run_makeMap Tryz.prog
  go_enter Tryz.func27, Tryz.ntmps27
  go_wp2_with (go_at_call 48; refine (within_any n _).mono ?_; rintro e w2 ⟨rfl, rfl⟩)
  go_ret
  have s1 : (w2.alloc (.map #[] 0)).heap.size = w2.heap.size + 1 := World.size_alloc _ _
  have s2 : ((w2.alloc (.map #[] 0)).alloc (.map #[] 0)).heap.size = w2.heap.size + 1 + 1 := by rw [World.size_alloc, s1]
  have m2 : MapAt ((w2.alloc (.map #[] 0)).alloc (.map #[] 0)) (w2.heap.size + 1) 0 [] := by have := MapAt.made (w2.alloc (.map #[] 0)); rw [s1] at this; exact this
  have m1 : MapAt ((w2.alloc (.map #[] 0)).alloc (.map #[] 0)) w2.heap.size 0 [] := (MapAt.made w2).keep (heapA_old _ _ _ (by rw [s1]; omega))
  refine ⟨w2.heap.size + 1 + 1, w2.heap.size, w2.heap.size + 1, rfl, ?_, m1.keep (heapA_old _ _ _ m1.lt), m2.keep (heapA_old _ _ _ m2.lt), by omega, by omega, by omega, by omega, by omega, by omega, (((Below.refl _ _).alloc (Nat.le_refl _) _).alloc (by rw [s1]; omega) _).alloc (by rw [s2]; omega) _⟩
  have h : (((w2.alloc (.map #[] 0)).alloc (.map #[] 0)).alloc (.cells #[.int .i32 0, .int .u32 0, .int .i64 (min (max n 0) 65536), .map (some w2.heap.size), .map (some (w2.heap.size + 1)), .slice none 0 0, .int .i64 0, .bool false] 95)).heap[((w2.alloc (.map #[] 0)).alloc (.map #[] 0)).heap.size]? = some (.cells #[.int .i32 0, .int .u32 0, .int .i64 (min (max n 0) 65536), .map (some w2.heap.size), .map (some (w2.heap.size + 1)), .slice none 0 0, .int .i64 0, .bool false] 95 (0, 0)) := heapA_new _ _ _ rfl
  rw [s2] at h
  exact h
end Go.Proofs.YthhbpebihgjpjaaGreatDoor

namespace Go.Proofs.YthhbpebihgjpjaaGreatDoor
open Go.RowKit Go.MuLone Go.Maps
set_option maxRecDepth 1000000

set_option maxHeartbeats 2000000 in
theorem clone_any (b : Nat) (es : Array MapEntry) (clock : Nat) (w : World) (hb : w.heap[b]? = some (.map es clock)) :
    Calls Tryz.prog 60 #[.map (some b)] w fun e w' => e = .returned (.map (some w.heap.size)) ∧ w' = w.alloc (.map es clock) := by
  have hq := fun w => run_eql_map_nil_sl (P := Tryz.prog) w 85 _ _ (some b) Tryz.underlying85
  go_enter Tryz.func60, Tryz.ntmps60
  go_wp2
  rw [run_callFunc_extern Tryz.func96 (by kernel_rfl) (by kernel_rfl) (by kernel_rfl) (e := Extern.MapsClone.clone) (by kernel_rfl), run_maps_clone_sl w 85 hb]
  simp only [Result.andThen]
  rw [Oper.upon_value]
  go_wp2
  rw [run_typeAssert_map_sl _ 85 20 _ _ _ Tryz.underlying85]
  simp only [Result.andThen]
  rw [Oper.upon_value]
  go_wp2
  go_ret
  exact ⟨rfl, rfl⟩
/-- A copy holds what the map holds. -/
theorem MapAt.cloned {w : World} {b n : Nat} {l : List FileV} (h : MapAt w b n l) : ∃ es clock, w.heap[b]? = some (.map es clock) ∧ MapAt (w.alloc (.map es clock)) w.heap.size n l := by
  obtain ⟨D, ⟨es, clock, hb, r⟩, hh⟩ := h
  exact ⟨es, clock, hb, D, ⟨es, clock, (MapKept.heap_alloc w _).1, r⟩, hh⟩

theorem ProgRow.setSafe {w : World} {fb : Nat} {d : ProgD} {lk : Int} {nb sb : Nat} {sv : Value} (h : ProgRow w fb d lk nb sb sv) (x : Nat) : ProgRow (w.setCell ⟨fb, 4, none⟩ (.map (some x))) fb d lk nb x sv := by
  unfold ProgRow; rw [heap_setCell_same _ _ _ _ _ _ h]; rfl
theorem ProgRow.setSince {w : World} {fb : Nat} {d : ProgD} {lk : Int} {nb sb : Nat} {sv : Value} (h : ProgRow w fb d lk nb sb sv) (x : Value) : ProgRow (w.setCell ⟨fb, 5, none⟩ x) fb d lk nb sb x := by
  unfold ProgRow; rw [heap_setCell_same _ _ _ _ _ _ h]; rfl
theorem ProgRow.setNow {w : World} {fb : Nat} {d : ProgD} {lk : Int} {nb sb : Nat} {sv : Value} (h : ProgRow w fb d lk nb sb sv) (x : Nat) : ProgRow (w.setCell ⟨fb, 3, none⟩ (.map (some x))) fb d lk x sb sv := by
  unfold ProgRow; rw [heap_setCell_same _ _ _ _ _ _ h]; rfl

set_option maxHeartbeats 2000000 in
theorem keepSafe_any (l : List FileV) (d : ProgD) (fb : Nat) (lk : Int) (nb sb n : Nat) (sv : Value) (w : World) (h : ProgRow w fb d lk nb sb sv) (hm : MapAt w nb n l) (hnb : nb ≠ fb) :
    Calls Tryz.prog 61 #[.pointer (some ⟨fb, 0, none⟩)] w fun e w' => e = .returned (.tuple #[]) ∧ ProgRow w' fb d lk nb w.heap.size (.slice none 0 0) ∧ MapAt w' nb n l ∧ MapAt w' w.heap.size n l ∧ Turns (fun k => k = fb) w w' := by
  have c3 : w.cell? ⟨fb, 3, none⟩ = some (.map (some nb)) := by rw [cell_of_row _ _ _ _ _ _ h]; rfl
  have hfb := h.lt
  obtain ⟨es, clock, hb, hc⟩ := hm.cloned
  have HC : Hid (MapAt (w.alloc (.map es clock)) w.heap.size n l) := hc
  have HN : Hid (MapAt (w.alloc (.map es clock)) nb n l) := hm.keep (heapA_old _ _ _ hm.lt)
  have HR : Hid (ProgRow (w.alloc (.map es clock)) fb d lk nb sb sv) := (heapA_old w _ fb hfb).trans h
  have HT : Hid (Turns (fun k => k = fb) w (w.alloc (.map es clock))) := Turns.of_below _ ((Below.refl _ _).alloc (Nat.le_refl _) _)
  clear h hm hc
  go_enter Tryz.func61, Tryz.ntmps61
  go_wp2_with fail
  refine (clone_any nb es clock w hb).mono ?_
  rintro e w3 ⟨rfl, hw3⟩
  rw [← hw3] at HC HN HR HT
  obtain ⟨z, hz⟩ : ∃ z, z = w.heap.size := ⟨_, rfl⟩
  rw [← hz] at HC ⊢
  have HZ : Hid (z ≠ fb) := by show _ ≠ _; omega
  have c4 : w3.cell? ⟨fb, 4, none⟩ = some (.map (some sb)) := by rw [cell_of_row _ _ _ _ _ _ HR.out]; rfl
  have f4 : w3.frozen? ⟨fb, 4, none⟩ = false := frozen_of_row _ _ _ _ _ HR.out
  obtain ⟨cs5, hc5⟩ : ∃ u, u = sv := ⟨_, rfl⟩
  have c5 : w3.cell? ⟨fb, 5, none⟩ = some sv := by rw [cell_of_row _ _ _ _ _ _ HR.out]; rfl
  have f5 : w3.frozen? ⟨fb, 5, none⟩ = false := frozen_of_row _ _ _ _ _ HR.out
  have HX : Hid (ProgRow ((w3.setCell ⟨fb, 4, none⟩ (.map (some z))).setCell ⟨fb, 5, none⟩ (.slice none 0 0)) fb d lk nb z (.slice none 0 0) ∧ MapAt ((w3.setCell ⟨fb, 4, none⟩ (.map (some z))).setCell ⟨fb, 5, none⟩ (.slice none 0 0)) nb n l ∧ MapAt ((w3.setCell ⟨fb, 4, none⟩ (.map (some z))).setCell ⟨fb, 5, none⟩ (.slice none 0 0)) z n l ∧ Turns (fun k => k = fb) w ((w3.setCell ⟨fb, 4, none⟩ (.map (some z))).setCell ⟨fb, 5, none⟩ (.slice none 0 0))) :=
    ⟨(HR.out.setSafe z).setSince _, (HN.out.keep (heap_setCell_other _ _ _ _ hnb)).keep (heap_setCell_other _ _ _ _ hnb), (HC.out.keep (heap_setCell_other _ _ _ _ HZ.out)).keep (heap_setCell_other _ _ _ _ HZ.out), (HT.out.setCell ⟨fb, 4, none⟩ _ (Or.inl rfl)).setCell ⟨fb, 5, none⟩ _ (Or.inl rfl)⟩
  have HZ2 : Hid (w.heap.size = z) := hz.symm
  clear HC HN HR HT hw3 hz hb c3 hc5
  go_wp2
  go_end0
  exact ⟨rfl, by rw [HZ2.out]; exact HX.out.1, HX.out.2.1, by rw [HZ2.out]; exact HX.out.2.2.1, HX.out.2.2.2⟩
end Go.Proofs.YthhbpebihgjpjaaGreatDoor

namespace Go.Proofs.YthhbpebihgjpjaaGreatDoor
open Go.RowKit Go.MuLone Go.Maps
set_option maxRecDepth 1000000

/-- What Sync leaves. -/
def SyncPost (l : List FileV) (vD : Value) (d : ProgD) (fb nb sb n : Nat) (sv : Value) (w : World) (e : Ending) (w' : World) : Prop :=
  MapAt w' nb n l ∧ Turns (fun k => k = fb) w w' ∧
  (((burnD d).down = true ∧ e = .returned vD ∧ ProgRow w' fb (burnD d) 0 nb sb sv) ∨
   ((burnD d).down = false ∧ e = .returned .nilIface ∧ ∃ z, w.heap.size ≤ z ∧ ProgRow w' fb (burnD d) 0 nb z (.slice none 0 0) ∧ MapAt w' z n l))

set_option maxHeartbeats 2000000 in
theorem progSync_any (l : List FileV) (vD : Value) (d : ProgD) (fb : Nat) (nb sb n : Nat) (sv : Value) (w : World) (h : ProgRow w fb d 0 nb sb sv) (hm : MapAt w nb n l) (hnb : nb ≠ fb) (hhi : d.fuse ≤ 9223372036854775807)
    (hv : w.cell? ⟨3, 0, none⟩ = some vD) (hg : 3 ≠ fb) :
    Calls Tryz.prog 173 #[.pointer (some ⟨fb, 0, none⟩)] w (SyncPost l vD d fb nb sb n sv w) := by
  have HR1 : Hid (ProgRow (w.setCell ⟨fb, 0, none⟩ (.int .i32 1)) fb d 1 nb sb sv) := h.setLock 1
  have HT1 : Hid (Turns (fun k => k = fb) w (w.setCell ⟨fb, 0, none⟩ (.int .i32 1))) := (Turns.refl _ w).setCell ⟨fb, 0, none⟩ _ (Or.inl rfl)
  have HV0 : Hid (w.cell? ⟨3, 0, none⟩ = some vD) := hv
  have HM0 : Hid (MapAt w nb n l) := hm
  have h0 : w.cell? ⟨fb, 0, none⟩ = some (.int .i32 0) := by rw [cell_of_row _ _ _ _ _ _ h]; rfl
  have f0 : w.frozen? ⟨fb, 0, none⟩ = false := frozen_of_row _ _ _ _ _ h
  clear h hm hv
  go_enter_defers Tryz.func173, Tryz.ntmps173
  go_wp2_with (go_at_call 58; refine (lock_free muLib ⟨fb, 0, none⟩ _ h0 f0).mono ?_; rintro e w1 ⟨rfl, rfl⟩; refine Hid.out ?_)
  clear h0 f0
  generalize w.setCell ⟨fb, 0, none⟩ (.int .i32 1) = w1 at *
  unfold Hid
  go_wp2_with fail
  refine (burn_any d fb 1 nb sb sv w1 HR1.out hhi).mono ?_
  rintro e w2 ⟨rfl, hr2, ht2⟩
  have HT2 : Hid (Turns (fun k => k = fb) w w2) := HT1.out.trans ht2 (fun i hi => Or.inl hi)
  have HR2 : Hid (ProgRow w2 fb (burnD d) 1 nb sb sv) := hr2
  have HM2 : Hid (MapAt w2 nb n l) := HM0.out.keep (HT2.out.block nb HM0.out.lt hnb)
  have hv2 : w2.cell? ⟨3, 0, none⟩ = some vD := by
    rw [World.cell?_of_block (w := w) (a := ⟨3, 0, none⟩) (HT2.out.block _ (block_lt_of_cell HV0.out) hg)]; exact HV0.out
  clear hr2 ht2 HR1 HT1
  by_cases hdn : (burnD d).down = true
  · have HX : Hid (∀ w', ProgRow w' fb (burnD d) 0 nb sb sv → MapAt w' nb n l → Turns (fun k => k = fb) w w' → SyncPost l vD d fb nb sb n sv w (.returned vD) w') := fun w' a b c => ⟨b, c, Or.inl ⟨hdn, rfl, a⟩⟩
    rw [hdn]
    go_wp2
    refine leaves_cons (f := 59) (args := #[.pointer (some ⟨fb, 0, none⟩)]) (by simp) (by simp [go_sem]) ?_; refine (unlock_deferred muLib ⟨fb, 0, none⟩ .returning _ ?_ ?_).mono ?_; (rw [cell_of_row _ _ _ _ _ _ HR2.out]; rfl); (exact frozen_of_row _ _ _ _ _ HR2.out); rintro e u' w'' ⟨rfl, rfl, rfl⟩
    refine ⟨_, results_tmp rfl _ _ _, ?_⟩
    exact HX.out _ (HR2.out.setLock 0) (HM2.out.keep (heap_setCell_other _ _ _ _ hnb)) (HT2.out.setCell ⟨fb, 0, none⟩ _ (Or.inl rfl))
  · have hdn2 : (burnD d).down = false := by simpa using hdn
    have HX : Hid (∀ w' z, w.heap.size ≤ z → ProgRow w' fb (burnD d) 0 nb z (.slice none 0 0) → MapAt w' nb n l → MapAt w' z n l → Turns (fun k => k = fb) w w' → SyncPost l vD d fb nb sb n sv w (.returned .nilIface) w') := fun w' z hz a b b2 c => ⟨b, c, Or.inr ⟨hdn2, rfl, z, hz, a, b2⟩⟩
    rw [hdn2]
    go_wp2_with fail
    refine (keepSafe_any l (burnD d) fb 1 nb sb n sv w2 HR2.out HM2.out hnb).mono ?_
    rintro e w3 ⟨rfl, hr3, hm3, hz3, ht3⟩
    have HT3 : Hid (Turns (fun k => k = fb) w w3) := HT2.out.trans ht3 (fun i hi => Or.inl hi)
    have HR3 : Hid (ProgRow w3 fb (burnD d) 1 nb w2.heap.size (.slice none 0 0)) := hr3
    have HM3 : Hid (MapAt w3 nb n l ∧ MapAt w3 w2.heap.size n l) := ⟨hm3, hz3⟩
    have hzf : w2.heap.size ≠ fb := by have := HR2.out.lt; omega
    have hws : w.heap.size ≤ w2.heap.size := HT2.out.size
    clear hr3 hm3 hz3 ht3 HR2 HM2 HT2 hv2
    have HR2 := HR3
    go_wp2
    refine leaves_cons (f := 59) (args := #[.pointer (some ⟨fb, 0, none⟩)]) (by simp) (by simp [go_sem]) ?_; refine (unlock_deferred muLib ⟨fb, 0, none⟩ .returning _ ?_ ?_).mono ?_; (rw [cell_of_row _ _ _ _ _ _ HR2.out]; rfl); (exact frozen_of_row _ _ _ _ _ HR2.out); rintro e u' w'' ⟨rfl, rfl, rfl⟩
    refine ⟨_, results_tmp rfl _ _ _, ?_⟩
    exact HX.out _ w2.heap.size hws (HR2.out.setLock 0) (HM3.out.1.keep (heap_setCell_other _ _ _ _ hnb)) (HM3.out.2.keep (heap_setCell_other _ _ _ _ hzf)) (HT3.out.setCell ⟨fb, 0, none⟩ _ (Or.inl rfl))
end Go.Proofs.YthhbpebihgjpjaaGreatDoor

namespace Go.Proofs.YthhbpebihgjpjaaGreatDoor
open Go.RowKit Go.MuLone Go.Maps
set_option maxRecDepth 1000000

set_option maxHeartbeats 2000000 in
theorem operate_down (fv : Value) (data : ByteArray) (cuts : Bool) (vD : Value) (d : ProgD) (fb : Nat) (lk : Int) (nb sb : Nat) (sv : Value) (w : World) (h : ProgRow w fb d lk nb sb sv) (hhi : d.fuse ≤ 9223372036854775807) (hdn : (burnD d).down = true)
    (hv : w.cell? ⟨3, 0, none⟩ = some vD) (hg : 3 ≠ fb) :
    Calls Tryz.prog 75 #[.pointer (some ⟨fb, 0, none⟩), .agg #[fv, .string data, .bool cuts]] w fun e w' => e = .returned vD ∧ ProgRow w' fb (burnD d) lk nb sb sv ∧ Turns (fun k => k = fb) w w' := by
  have HR : Hid (ProgRow (w.alloc (.cells #[fv, .string data, .bool cuts] 120)) fb d lk nb sb sv) := (heapA_old w _ fb h.lt).trans h
  have HT : Hid (Turns (fun k => k = fb) w (w.alloc (.cells #[fv, .string data, .bool cuts] 120))) := Turns.of_below _ ((Below.refl _ _).alloc (Nat.le_refl _) _)
  have HV : Hid (w.cell? ⟨3, 0, none⟩ = some vD) := hv
  clear h hv
  go_enter Tryz.func75, Tryz.ntmps75
  go_wp2_with fail
  generalize w.alloc (.cells #[fv, .string data, .bool cuts] 120) = w1 at *
  refine (burn_any d fb lk nb sb sv w1 HR.out hhi).mono ?_
  rintro e w2 ⟨rfl, hr2, ht2⟩
  have HR2 : Hid (ProgRow w2 fb (burnD d) lk nb sb sv) := hr2
  have HT2 : Hid (Turns (fun k => k = fb) w w2) := HT.out.trans ht2 (fun i hi => Or.inl hi)
  have hv2 : w2.cell? ⟨3, 0, none⟩ = some vD := by
    rw [World.cell?_of_block (w := w) (a := ⟨3, 0, none⟩) (HT2.out.block _ (block_lt_of_cell HV.out) hg)]; exact HV.out
  clear hr2 ht2 HR HT
  rw [hdn]
  go_wp2
  go_ret
  exact ⟨rfl, HR2.out, HT2.out⟩
end Go.Proofs.YthhbpebihgjpjaaGreatDoor
