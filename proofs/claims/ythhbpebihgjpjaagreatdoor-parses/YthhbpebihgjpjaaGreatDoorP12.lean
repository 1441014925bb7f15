import Derived.Test.YthhbpebihgjpjaaGreatDoorP11
import Derived.Test.YthhbpebihgjpjaaGreatDoorP07
import Derived.Deep.AppendLies
namespace Go.Proofs.YthhbpebihgjpjaaGreatDoor
open Go.RowKit Go.Shelf
set_option maxRecDepth 1000000

def pathEnd' (a : Nat → Addr) (n : Int) (r : Except Bad ByteArray) (e : Ending) (w' : World) : Prop := match r with
 | .ok p => e = .returned (.string p)
 | .error b => Stopped n (reasonV a (badK b)) e w'
set_option maxHeartbeats 4000000 in
theorem readPath_any (rb : Nat) (n : Int) (t : ByteArray) (ls : List Binds) (ao : Option Addr) (a : Nat → Addr) (w : World) (h0 : w.cell? ⟨rb, 0, none⟩ = some (.int .i64 n)) (h2 : w.cell? ⟨rb, 2, none⟩ = some (.pointer ao)) (hs : ScopesAt w (.pointer ao) ls) (hg : Gl a w) (ht : t.size ≤ 1048576) (hE : ∀ l ∈ ls, BOk l) :
  Calls Tryz.prog 320 #[.pointer (some ⟨rb, 0, none⟩), .string t] w fun e w' => pathEnd' a n (pathS (envL ls) t) e w' ∧ Below w.heap.size w w' := by
 have HX : Hid (Calls Tryz.prog 201 #[.pointer (some ⟨rb, 0, none⟩), .string t, .pointer ao] w fun e w' => expEnd a n (expandS (envL ls) t) e w' ∧ Below w.heap.size w w') := expand_any rb n t ls _ a w h0 hs hg ht (fun x => Nat.le_trans (envL_size hE x) (by omega)) (envL_nil hE)
 have HPS : Hid (pathS (envL ls) t = match expandS (envL ls) t with
  | none => .error .syn
  | some p => if okName p = true then .ok p else .error .nam) := rfl
 have H0 : Hid (w.cell? ⟨rb, 0, none⟩ = some (.int .i64 n)) := h0
 have HG : Hid (Gl a w) := hg
 have HGS : Hid (14 ≤ w.heap.size) := hg.size
 have hrb : rb < w.heap.size := block_lt_of_cell h0
 clear hs hg hE h0
 cases hx : expandS (envL ls) t with
 | none =>
  have HF : Hid (pathS (envL ls) t = .error .syn) := by rw [HPS.out, hx]; rfl
  rw [hx] at HX
  go_enter Tryz.func320, Tryz.ntmps320
  go_wp2_with fail
  refine HX.out.mono ?_
  rintro e w1 ⟨⟨b, rfl, s0, s1⟩, hb1⟩
  exact ⟨rfl, (by rw [HF.out]; exact ⟨b, rfl, s0, s1⟩), hb1⟩
 | some p =>
  rw [hx] at HX HPS
  have HNM : Hid (∀ wx, Calls Tryz.prog 73 #[.string p] wx fun e w' => e = .returned (.bool (named p)) ∧ w' = wx) := fun wx => isName_any p wx
  have HOK : Hid (okName p = (named p && !decide (p = tLog) && !decide (p = tLogNew))) := rfl
  by_cases hok : okName p = true
  ·have HF : Hid (pathS (envL ls) t = .ok p) := (show pathS (envL ls) t = (if okName p = true then .ok p else .error .nam) from HPS.out).trans (if_pos hok)
   rw [HOK.out] at hok
   simp only [Bool.and_eq_true, Bool.not_eq_true', decide_eq_false_iff_not] at hok
   obtain ⟨⟨hn, hl1⟩, hl2⟩ := hok
   have q1 : (p.toList == [46, 108, 111, 103]) = false := text_differ hl1
   have q2 : (p.toList == [46, 108, 111, 103, 46, 110, 101, 119]) = false := text_differ hl2
   rw [hn] at HNM
   clear HOK
   go_enter Tryz.func320, Tryz.ntmps320
   go_wp2_with fail
   refine HX.out.mono ?_
   rintro e w1 ⟨rfl, hb1⟩
   have HB1 : Hid (Below w.heap.size w w1) := hb1
   have c0 : w1.cell? ⟨0, 0, none⟩ = some (.iface 472 (.pointer (some (a 0)))) := (HG.out.below hb1 HGS.out).errs 0 (by decide)
   clear hb1
   go_wp2_with fail
   go_region_with (first | (go_at_call 73; refine (HNM.out _).mono ?_; rintro e w8 ⟨rfl, rfl⟩) | (go_at_call 112; refine (need_yes _ _ _).mono ?_; rintro e w8 ⟨rfl, rfl⟩))
   all_goals
    go_wp2_with fail
    go_ret
    exact ⟨by rw [HF.out]; rfl, HB1.out.drew⟩
  ·have HF : Hid (pathS (envL ls) t = .error .nam) := (show pathS (envL ls) t = (if okName p = true then .ok p else .error .nam) from HPS.out).trans (if_neg hok)
   rw [HOK.out] at hok
   cases hn : named p with
   | false =>
    rw [hn] at HNM
    clear HOK hok
    go_enter Tryz.func320, Tryz.ntmps320
    go_wp2_with fail
    refine HX.out.mono ?_
    rintro e w1 ⟨rfl, hb1⟩
    have HNO : Hid (Calls Tryz.prog 112 #[.pointer (some ⟨rb, 0, none⟩), .bool false, .iface 472 (.pointer (some (a 0)))] w1.drew fun e w' => Stopped n (reasonV a 0) e w' ∧ Below w.heap.size w w') := (need_no rb n _ _ w1.drew ((hb1.cell (p := ⟨rb, 0, none⟩) hrb).trans H0.out)).mono (fun e w' h => ⟨h.1, hb1.drew.trans (h.2.mono hb1.size)⟩)
    have c0 : w1.cell? ⟨0, 0, none⟩ = some (.iface 472 (.pointer (some (a 0)))) := (HG.out.below hb1 HGS.out).errs 0 (by decide)
    clear hb1
    go_wp2_with fail
    refine wp_region_any (by kernel_rfl) ?_
    change wpAny _ _ _ _ _ _ _ (World.drew _)
    refine wpAny_take (i := 0) (v := .pointer (some ⟨rb, 0, none⟩)) rfl (by kernel_rfl) (by kernel_rfl) (by kernel_rfl) (fun _ _ _ h => h) (Or.inl ⟨by rfl, ?_⟩) ?_
    ·intro w
     go_simp
    refine wpAny_take (i := 1) (v := .string p) rfl (by kernel_rfl) (by kernel_rfl) (by kernel_rfl) (fun _ _ _ h => h) (Or.inl ⟨by rfl, ?_⟩) ?_
    ·intro w
     go_simp
    refine wpAny_ready (rs := [2, 11]) (by kernel_rfl) (by simp) ?_
    refine AllReady.cons rfl (fun K hK => ?_) (AllReady.cons rfl (fun K hK => ?_) AllReady.nil)
    ·go_simp
     go_wp2_with (go_at_call 73; refine (HNM.out _).mono ?_; rintro e w8 ⟨rfl, rfl⟩)
     refine wpAny_take (i := 3) (v := .bool false) rfl (by kernel_rfl) (by kernel_rfl) (by kernel_rfl) (fun _ _ _ h => h) (Or.inl ⟨by rfl, ?_⟩) ?_
     ·intro w
      go_simp
     refine wpAny_take (i := 4) (v := undef) rfl (by kernel_rfl) (by kernel_rfl) (by kernel_rfl) (fun _ _ _ h => h) (Or.inr ⟨by rfl, rfl⟩) ?_
     refine wpAny_take (i := 5) (v := undef) rfl (by kernel_rfl) (by kernel_rfl) (by kernel_rfl) (fun _ _ _ h => h) (Or.inr ⟨by rfl, rfl⟩) ?_
     refine wpAny_take (i := 6) (v := .bool false) rfl (by kernel_rfl) (by kernel_rfl) (by kernel_rfl) (fun _ _ _ h => h) (Or.inl ⟨by rfl, ?_⟩) ?_
     ·intro w
      go_simp
     refine wpAny_take (i := 7) (v := .bool false) rfl (by kernel_rfl) (by kernel_rfl) (by kernel_rfl) (fun _ _ _ h => h) (Or.inl ⟨by rfl, ?_⟩) ?_
     ·intro w
      go_simp
     refine wpAny_take (i := 8) (v := undef) rfl (by kernel_rfl) (by kernel_rfl) (by kernel_rfl) (fun _ _ _ h => h) (Or.inr ⟨by rfl, rfl⟩) ?_
     refine wpAny_take (i := 9) (v := undef) rfl (by kernel_rfl) (by kernel_rfl) (by kernel_rfl) (fun _ _ _ h => h) (Or.inr ⟨by rfl, rfl⟩) ?_
     refine wpAny_take (i := 10) (v := .bool false) rfl (by kernel_rfl) (by kernel_rfl) (by kernel_rfl) (fun _ _ _ h => h) (Or.inl ⟨by rfl, ?_⟩) ?_
     ·intro w
      go_simp
     refine wpAny_ready (rs := [11]) (by kernel_rfl) (by simp) ?_
     refine AllReady.cons rfl (fun K hK => ?_) AllReady.nil
     go_simp
     refine hK _ _ ?_
     clear hK K
     refine wpAny_ready (rs := [12]) (by kernel_rfl) (by simp) ?_
     refine AllReady.cons rfl (fun K hK => ?_) AllReady.nil
     go_simp
     refine HNO.out.mono ?_
     rintro e w8 ⟨hst, hb8⟩
     obtain ⟨b, rfl, s0, s1⟩ := hst
     exact ⟨rfl, (by rw [HF.out]; exact ⟨b, rfl, s0, s1⟩), hb8⟩
    ·go_simp
     refine hK _ _ ?_
     clear hK K
     refine wpAny_ready (rs := [2]) (by kernel_rfl) (by simp) ?_
     refine AllReady.cons rfl (fun K hK => ?_) AllReady.nil
     go_simp
     go_wp2_with (go_at_call 73; refine (HNM.out _).mono ?_; rintro e w8 ⟨rfl, rfl⟩)
     refine wpAny_take (i := 3) (v := .bool false) rfl (by kernel_rfl) (by kernel_rfl) (by kernel_rfl) (fun _ _ _ h => h) (Or.inl ⟨by rfl, ?_⟩) ?_
     ·intro w
      go_simp
     refine wpAny_take (i := 4) (v := undef) rfl (by kernel_rfl) (by kernel_rfl) (by kernel_rfl) (fun _ _ _ h => h) (Or.inr ⟨by rfl, rfl⟩) ?_
     refine wpAny_take (i := 5) (v := undef) rfl (by kernel_rfl) (by kernel_rfl) (by kernel_rfl) (fun _ _ _ h => h) (Or.inr ⟨by rfl, rfl⟩) ?_
     refine wpAny_take (i := 6) (v := .bool false) rfl (by kernel_rfl) (by kernel_rfl) (by kernel_rfl) (fun _ _ _ h => h) (Or.inl ⟨by rfl, ?_⟩) ?_
     ·intro w
      go_simp
     refine wpAny_take (i := 7) (v := .bool false) rfl (by kernel_rfl) (by kernel_rfl) (by kernel_rfl) (fun _ _ _ h => h) (Or.inl ⟨by rfl, ?_⟩) ?_
     ·intro w
      go_simp
     refine wpAny_take (i := 8) (v := undef) rfl (by kernel_rfl) (by kernel_rfl) (by kernel_rfl) (fun _ _ _ h => h) (Or.inr ⟨by rfl, rfl⟩) ?_
     refine wpAny_take (i := 9) (v := undef) rfl (by kernel_rfl) (by kernel_rfl) (by kernel_rfl) (fun _ _ _ h => h) (Or.inr ⟨by rfl, rfl⟩) ?_
     refine wpAny_take (i := 10) (v := .bool false) rfl (by kernel_rfl) (by kernel_rfl) (by kernel_rfl) (fun _ _ _ h => h) (Or.inl ⟨by rfl, ?_⟩) ?_
     ·intro w
      go_simp
     refine wpAny_ready (rs := [12]) (by kernel_rfl) (by simp) ?_
     refine AllReady.cons rfl (fun K hK => ?_) AllReady.nil
     go_simp
     refine HNO.out.mono ?_
     rintro e w8 ⟨hst, hb8⟩
     obtain ⟨b, rfl, s0, s1⟩ := hst
     exact ⟨rfl, (by rw [HF.out]; exact ⟨b, rfl, s0, s1⟩), hb8⟩
   | true =>
    rw [hn] at HNM hok
    by_cases hl1 : p = tLog
    ·subst hl1
     clear HOK hok
     unfold tLog at *
     go_enter Tryz.func320, Tryz.ntmps320
     go_wp2_with fail
     refine HX.out.mono ?_
     rintro e w1 ⟨rfl, hb1⟩
     have HNO : Hid (Calls Tryz.prog 112 #[.pointer (some ⟨rb, 0, none⟩), .bool false, .iface 472 (.pointer (some (a 0)))] w1.drew fun e w' => Stopped n (reasonV a 0) e w' ∧ Below w.heap.size w w') := (need_no rb n _ _ w1.drew ((hb1.cell (p := ⟨rb, 0, none⟩) hrb).trans H0.out)).mono (fun e w' h => ⟨h.1, hb1.drew.trans (h.2.mono hb1.size)⟩)
     have c0 : w1.cell? ⟨0, 0, none⟩ = some (.iface 472 (.pointer (some (a 0)))) := (HG.out.below hb1 HGS.out).errs 0 (by decide)
     clear hb1
     go_wp2_with fail
     refine wp_region_any (by kernel_rfl) ?_
     change wpAny _ _ _ _ _ _ _ (World.drew _)
     refine wpAny_take (i := 0) (v := .pointer (some ⟨rb, 0, none⟩)) rfl (by kernel_rfl) (by kernel_rfl) (by kernel_rfl) (fun _ _ _ h => h) (Or.inl ⟨by rfl, ?_⟩) ?_
     ·intro w
      go_simp
     refine wpAny_take (i := 1) (v := .string ⟨#[46, 108, 111, 103]⟩) rfl (by kernel_rfl) (by kernel_rfl) (by kernel_rfl) (fun _ _ _ h => h) (Or.inl ⟨by rfl, ?_⟩) ?_
     ·intro w
      go_simp
     refine wpAny_ready (rs := [2, 11]) (by kernel_rfl) (by simp) ?_
     refine AllReady.cons rfl (fun K hK => ?_) (AllReady.cons rfl (fun K hK => ?_) AllReady.nil)
     ·go_simp
      go_wp2_with (go_at_call 73; refine (HNM.out _).mono ?_; rintro e w8 ⟨rfl, rfl⟩)
      refine wpAny_take (i := 3) (v := .bool true) rfl (by kernel_rfl) (by kernel_rfl) (by kernel_rfl) (fun _ _ _ h => h) (Or.inl ⟨by rfl, ?_⟩) ?_
      ·intro w
       go_simp
      refine wpAny_take (i := 4) (v := .string ⟨#[46, 108, 111, 103]⟩) rfl (by kernel_rfl) (by kernel_rfl) (by kernel_rfl) (fun _ _ _ h => h) (Or.inl ⟨by rfl, ?_⟩) ?_
      ·intro w
       go_simp
      refine wpAny_take (i := 5) (v := .bool false) rfl (by kernel_rfl) (by kernel_rfl) (by kernel_rfl) (fun _ _ _ h => h) (Or.inl ⟨by rfl, ?_⟩) ?_
      ·intro w
       go_simp
      refine wpAny_take (i := 6) (v := .bool false) rfl (by kernel_rfl) (by kernel_rfl) (by kernel_rfl) (fun _ _ _ h => h) (Or.inl ⟨by rfl, ?_⟩) ?_
      ·intro w
       go_simp
      refine wpAny_take (i := 7) (v := .bool false) rfl (by kernel_rfl) (by kernel_rfl) (by kernel_rfl) (fun _ _ _ h => h) (Or.inl ⟨by rfl, ?_⟩) ?_
      ·intro w
       go_simp
      refine wpAny_take (i := 8) (v := undef) rfl (by kernel_rfl) (by kernel_rfl) (by kernel_rfl) (fun _ _ _ h => h) (Or.inr ⟨by rfl, rfl⟩) ?_
      refine wpAny_take (i := 9) (v := undef) rfl (by kernel_rfl) (by kernel_rfl) (by kernel_rfl) (fun _ _ _ h => h) (Or.inr ⟨by rfl, rfl⟩) ?_
      refine wpAny_take (i := 10) (v := .bool false) rfl (by kernel_rfl) (by kernel_rfl) (by kernel_rfl) (fun _ _ _ h => h) (Or.inl ⟨by rfl, ?_⟩) ?_
      ·intro w
       go_simp
      refine wpAny_ready (rs := [11]) (by kernel_rfl) (by simp) ?_
      refine AllReady.cons rfl (fun K hK => ?_) AllReady.nil
      go_simp
      refine hK _ _ ?_
      clear hK K
      refine wpAny_ready (rs := [12]) (by kernel_rfl) (by simp) ?_
      refine AllReady.cons rfl (fun K hK => ?_) AllReady.nil
      go_simp
      refine HNO.out.mono ?_
      rintro e w8 ⟨hst, hb8⟩
      obtain ⟨b, rfl, s0, s1⟩ := hst
      exact ⟨rfl, (by rw [HF.out]; exact ⟨b, rfl, s0, s1⟩), hb8⟩
     ·go_simp
      refine hK _ _ ?_
      clear hK K
      refine wpAny_ready (rs := [2]) (by kernel_rfl) (by simp) ?_
      refine AllReady.cons rfl (fun K hK => ?_) AllReady.nil
      go_simp
      go_wp2_with (go_at_call 73; refine (HNM.out _).mono ?_; rintro e w8 ⟨rfl, rfl⟩)
      refine wpAny_take (i := 3) (v := .bool true) rfl (by kernel_rfl) (by kernel_rfl) (by kernel_rfl) (fun _ _ _ h => h) (Or.inl ⟨by rfl, ?_⟩) ?_
      ·intro w
       go_simp
      refine wpAny_take (i := 4) (v := .string ⟨#[46, 108, 111, 103]⟩) rfl (by kernel_rfl) (by kernel_rfl) (by kernel_rfl) (fun _ _ _ h => h) (Or.inl ⟨by rfl, ?_⟩) ?_
      ·intro w
       go_simp
      refine wpAny_take (i := 5) (v := .bool false) rfl (by kernel_rfl) (by kernel_rfl) (by kernel_rfl) (fun _ _ _ h => h) (Or.inl ⟨by rfl, ?_⟩) ?_
      ·intro w
       go_simp
      refine wpAny_take (i := 6) (v := .bool false) rfl (by kernel_rfl) (by kernel_rfl) (by kernel_rfl) (fun _ _ _ h => h) (Or.inl ⟨by rfl, ?_⟩) ?_
      ·intro w
       go_simp
      refine wpAny_take (i := 7) (v := .bool false) rfl (by kernel_rfl) (by kernel_rfl) (by kernel_rfl) (fun _ _ _ h => h) (Or.inl ⟨by rfl, ?_⟩) ?_
      ·intro w
       go_simp
      refine wpAny_take (i := 8) (v := undef) rfl (by kernel_rfl) (by kernel_rfl) (by kernel_rfl) (fun _ _ _ h => h) (Or.inr ⟨by rfl, rfl⟩) ?_
      refine wpAny_take (i := 9) (v := undef) rfl (by kernel_rfl) (by kernel_rfl) (by kernel_rfl) (fun _ _ _ h => h) (Or.inr ⟨by rfl, rfl⟩) ?_
      refine wpAny_take (i := 10) (v := .bool false) rfl (by kernel_rfl) (by kernel_rfl) (by kernel_rfl) (fun _ _ _ h => h) (Or.inl ⟨by rfl, ?_⟩) ?_
      ·intro w
       go_simp
      refine wpAny_ready (rs := [12]) (by kernel_rfl) (by simp) ?_
      refine AllReady.cons rfl (fun K hK => ?_) AllReady.nil
      go_simp
      refine HNO.out.mono ?_
      rintro e w8 ⟨hst, hb8⟩
      obtain ⟨b, rfl, s0, s1⟩ := hst
      exact ⟨rfl, (by rw [HF.out]; exact ⟨b, rfl, s0, s1⟩), hb8⟩
    ·have hl2 : p = tLogNew := by
      by_cases h : p = tLogNew
      ·exact h
      ·exact absurd (by simp [hl1, h]) hok
     subst hl2
     clear HOK hok hl1
     unfold tLogNew at *
     go_enter Tryz.func320, Tryz.ntmps320
     go_wp2_with fail
     refine HX.out.mono ?_
     rintro e w1 ⟨rfl, hb1⟩
     have HNO : Hid (Calls Tryz.prog 112 #[.pointer (some ⟨rb, 0, none⟩), .bool false, .iface 472 (.pointer (some (a 0)))] w1.drew fun e w' => Stopped n (reasonV a 0) e w' ∧ Below w.heap.size w w') := (need_no rb n _ _ w1.drew ((hb1.cell (p := ⟨rb, 0, none⟩) hrb).trans H0.out)).mono (fun e w' h => ⟨h.1, hb1.drew.trans (h.2.mono hb1.size)⟩)
     have c0 : w1.cell? ⟨0, 0, none⟩ = some (.iface 472 (.pointer (some (a 0)))) := (HG.out.below hb1 HGS.out).errs 0 (by decide)
     clear hb1
     go_wp2_with fail
     go_region_with (first | (go_at_call 73; refine (HNM.out _).mono ?_; rintro e w8 ⟨rfl, rfl⟩) | (go_at_call 112; refine HNO.out.mono ?_; rintro e w8 ⟨hst, hb8⟩; obtain ⟨b, rfl, s0, s1⟩ := hst; refine dead_end ⟨rfl, (by rw [HF.out]; exact ⟨b, rfl, s0, s1⟩), hb8⟩ w1 ?_))
     all_goals trivial
end Go.Proofs.YthhbpebihgjpjaaGreatDoor

namespace Go.Proofs.YthhbpebihgjpjaaGreatDoor
open Go.RowKit Go.Shelf
set_option maxRecDepth 1000000

abbrev SecV := List (ByteArray × Value)
def scells (l : SecV) : List Value := l.flatMap fun x => [.string x.1, x.2]
theorem scells_append (l r : SecV) : scells (l ++ r) = scells l ++ scells r := by simp [scells]
theorem scells_at {l : SecV} {i : Nat} {x : ByteArray × Value} (h : l[i]? = some x) : (scells l)[i * 2]? = some (.string x.1) ∧ (scells l)[i * 2 + 1]? = some x.2 := two_cells (fun x : ByteArray × Value => .string x.1) (fun x => x.2) l i x h
theorem scells_set (l : SecV) (mk : ByteArray) (pv pv' : Value) : (scells (l ++ [(mk, pv)])).set (l.length * 2 + 1) pv' = scells (l ++ [(mk, pv')]) := by
 rw [scells_append, scells_append, List.set_append_right _ _ (by unfold scells; rw [two_length]; omega)]
 unfold scells
 rw [two_length, show l.length * 2 + 1 - l.length * 2 = 1 by omega]
 rfl
def TextsF (W0 : Nat) (w : World) (v : Value) (l : List ByteArray) : Prop := TextsAt w v l ∧ ∀ k, v.ownBlock = some k → W0 ≤ k
def SecsC (W0 : Nat) (w : World) (vs : SecV) (I : Secs) : Prop := vs.length = I.length ∧ ∀ (k : Nat) x y, vs[k]? = some x → I[k]? = some y → x.1 = y.1 ∧ TextsF W0 w x.2 y.2
structure PathsAt (W0 : Nat) (w wr : World) (c : Nat → Nat) (v pv : Value) (vs : SecV) (I : Secs) (mk : ByteArray) (l : List ByteArray) : Prop where
 secs : wr.ownsRow W0 399 2 v (vs.length + 1) (scells (vs ++ [(mk, pv)]))
 last : wr.ownsRow W0 9 1 pv l.length (l.map Value.string)
 const : Stable c wr (fun w => SecsC W0 w vs I)
 c1 : ∀ k, v.ownBlock = some k → c k = 1
 c2 : ∀ k, pv.ownBlock = some k → c k = 2
 low : ∀ k, k < W0 → c k = 0
 below : Below W0 w wr
theorem PathsAt.later {W0 : Nat} {w wr w' : World} {c : Nat → Nat} {v pv : Value} {vs : SecV} {I : Secs} {mk : ByteArray} {l : List ByteArray} (h : PathsAt W0 w wr c v pv vs I mk l) (hb : Below wr.heap.size wr w') (hW : W0 ≤ wr.heap.size) : PathsAt W0 w w' c v pv vs I mk l where
 secs := rkeep h.secs (fun k hk => hb.block k (rblock h.secs k hk).2)
 last := rkeep h.last (fun k hk => hb.block k (rblock h.last k hk).2)
 const := h.const.step hb.size (fun k hk h0 => ⟨hb.block k hk, h0⟩)
 c1 := h.c1
 c2 := h.c2
 low := h.low
 below := h.below.trans (hb.mono hW)
theorem texts_own {w : World} {base : Nat} {v : Value} {l : List ByteArray} (h : w.ownsRow base 9 1 v l.length (l.map Value.string)) : TextsAt w v l := by
 obtain ⟨ao2, cap2, e, hc2, hg2⟩ := row_form h
 subst e
 refine ⟨ao2, cap2, rfl, hc2, ?_⟩
 by_cases h0 : l = []
 ·refine Or.inl ⟨fun e => ?_, h0, trivial⟩
  obtain ⟨_, ⟨e2, _⟩ | ⟨g2, _, _, e2, _⟩⟩ := h
  ·injection e2
  ·injection e2 with e3 _ _; rw [e] at e3; cases e3
 ·obtain ⟨g2, rfl⟩ := hg2 (List.length_pos_iff.2 h0)
  refine Or.inr ⟨g2, 0, rfl, fun k s hs => ?_⟩
  rw [Nat.zero_add]
  exact (row_cell h k _ (by rw [List.getElem?_map, hs]; rfl)).1
def SecsAt (W0 : Nat) (w : World) (v : Value) (s : Secs) : Prop := ∃ g cap, v = .slice (some ⟨g, 0, none⟩) s.length cap ∧ s.length ≤ cap ∧ ∃ vs : SecV, SecsC W0 w vs s ∧ ∀ i x, vs[i]? = some x → w.cell? ⟨g, i * 2, none⟩ = some (.string x.1) ∧ w.cell? ⟨g, i * 2 + 1, none⟩ = some x.2
theorem PathsAt.done {W0 : Nat} {w wr : World} {c : Nat → Nat} {v pv : Value} {vs : SecV} {I : Secs} {mk : ByteArray} {l : List ByteArray} (h : PathsAt W0 w wr c v pv vs I mk l) : SecsAt W0 wr v (I ++ [(mk, l)]) := by
 obtain ⟨ao, cap, rfl, hc, hg⟩ := row_form h.secs
 obtain ⟨g, rfl⟩ := hg (by omega)
 have hcn := h.const.now
 have hlen : (I ++ [(mk, l)]).length = vs.length + 1 := by rw [List.length_append, hcn.1]; rfl
 refine ⟨g, cap, by rw [hlen], by rw [hlen]; exact hc, vs ++ [(mk, pv)], ⟨by rw [List.length_append, hlen]; rfl, fun k x y hx hy => ?_⟩, fun i x hx => ?_⟩
 ·rcases Nat.lt_or_ge k vs.length with q | q
  ·rw [List.getElem?_append_left q] at hx
   rw [List.getElem?_append_left (by rw [← hcn.1]; exact q)] at hy
   exact hcn.2 k x y hx hy
  ·have hk : k = vs.length := by
    have := (List.getElem?_eq_some_iff.1 hx).1
    rw [List.length_append] at this
    simp at this
    omega
   subst hk
   rw [List.getElem?_append_right (Nat.le_refl _), Nat.sub_self] at hx
   rw [hcn.1, List.getElem?_append_right (Nat.le_refl _), Nat.sub_self] at hy
   obtain rfl := Option.some.inj hx
   obtain rfl := Option.some.inj hy
   exact ⟨rfl, texts_own h.last, fun k hk => (rblock h.last k hk).1⟩
 ·have hc2 := scells_at hx
  exact ⟨(row_cell h.secs _ _ hc2.1).1, (row_cell h.secs _ _ hc2.2).1⟩
theorem PathsAt.more {W0 : Nat} {w wr w' : World} {c : Nat → Nat} {v v' pv : Value} {vs : SecV} {I : Secs} {mk m2 : ByteArray} {l : List ByteArray} (h : PathsAt W0 w wr c v pv vs I mk l) (hg : wr.grownBy w' v.ownBlock) (hv : w'.ownsRow W0 399 2 v' (vs.length + 1 + 1) (scells (vs ++ [(mk, pv)] ++ [(m2, .slice none 0 0)]))) (hat : ∀ k, v'.ownBlock = some k → v.ownBlock = some k ∨ wr.heap.size ≤ k) (hW : W0 ≤ wr.heap.size) : ∃ c', PathsAt W0 w w' c' v' (.slice none 0 0) (vs ++ [(mk, pv)]) (I ++ [(mk, l)]) m2 [] := by
 have hoff : ∀ k, k < wr.heap.size → c k ≠ 1 → w'.heap[k]? = wr.heap[k]? := fun k hk hc => hg.block k hk (fun e => hc (h.c1 k e.symm))
 refine ⟨fun k => if v'.ownBlock = some k then 1 else if c k = 2 then 0 else if c k = 1 then 3 else c k, ?_⟩
 exact {
  secs := by rw [List.length_append]; exact hv
  last := World.ownsRow_nil _ _ _ _
  const := fun w'' hs hk => by
   have hk2 : ∀ k, k < wr.heap.size → c k = 0 ∨ c k = 2 → w''.heap[k]? = wr.heap[k]? := fun k h1 h2 => by
    refine (hk k (Nat.lt_of_lt_of_le h1 hg.size) ?_).trans (hoff k h1 (by omega))
    show (if v'.ownBlock = some k then 1 else if c k = 2 then 0 else if c k = 1 then 3 else c k) = 0
    rw [if_neg (fun e => by
     rcases hat k e with q | q
     ·have := h.c1 k q; omega
     ·omega)]
    rcases h2 with h2 | h2
    ·rw [if_neg (by omega), if_neg (by omega)]; exact h2
    ·rw [if_pos h2]
   have hcn := h.const w'' (Nat.le_trans hg.size hs) (fun k h1 h2 => hk2 k h1 (Or.inl h2))
   have hl : w''.ownsRow W0 9 1 pv l.length (l.map Value.string) := rkeep h.last (fun k hk' => hk2 k (rblock h.last k hk').2 (Or.inr (h.c2 k hk')))
   refine ⟨by rw [List.length_append, List.length_append, hcn.1]; rfl, fun k x y hx hy => ?_⟩
   rcases Nat.lt_or_ge k vs.length with q | q
   ·rw [List.getElem?_append_left q] at hx
    rw [List.getElem?_append_left (by rw [← hcn.1]; exact q)] at hy
    exact hcn.2 k x y hx hy
   ·have hkk : k = vs.length := by
     have := (List.getElem?_eq_some_iff.1 hx).1
     rw [List.length_append] at this
     simp at this
     omega
    subst hkk
    rw [List.getElem?_append_right (Nat.le_refl _), Nat.sub_self] at hx
    rw [hcn.1, List.getElem?_append_right (Nat.le_refl _), Nat.sub_self] at hy
    obtain rfl := Option.some.inj hx
    obtain rfl := Option.some.inj hy
    exact ⟨rfl, texts_own hl, fun k hk => (rblock hl k hk).1⟩
  c1 := fun k hk => if_pos hk
  c2 := fun k hk => by cases hk
  low := fun k hk => by
   show (if v'.ownBlock = some k then 1 else if c k = 2 then 0 else if c k = 1 then 3 else c k) = 0
   rw [if_neg (fun e => by
    rcases hat k e with q | q
    ·have := h.c1 k q; have := h.low k hk; omega
    ·omega)]
   have := h.low k hk
   rw [if_neg (by omega), if_neg (by omega)]; exact this
  below := h.below.grown hg hW (fun k hk => (rblock h.secs k hk).1) }
end Go.Proofs.YthhbpebihgjpjaaGreatDoor

namespace Go.Proofs.YthhbpebihgjpjaaGreatDoor
open Go.RowKit Go.Shelf
set_option maxRecDepth 1000000

theorem PathsAt.add {W0 : Nat} {w wr w6 : World} {c : Nat → Nat} {pv pv' : Value} {vs : SecV} {I : Secs} {mk p : ByteArray} {l : List ByteArray} {g n cap : Nat} (h : PathsAt W0 w wr c (.slice (some ⟨g, 0, none⟩) n cap) pv vs I mk l) (hn : n = vs.length + 1) (hg : wr.grownBy w6 pv.ownBlock) (hl : w6.ownsRow W0 9 1 pv' (l.length + 1) (l.map Value.string ++ [.string p])) (hat : ∀ k, pv'.ownBlock = some k → pv.ownBlock = some k ∨ wr.heap.size ≤ k) (hW : W0 ≤ wr.heap.size) : ∃ c', PathsAt W0 w (w6.setCell ⟨g, vs.length * 2 + 1, none⟩ pv') c' (.slice (some ⟨g, 0, none⟩) n cap) pv' vs I mk (l ++ [p]) := by
 have hgc : c g = 1 := h.c1 g rfl
 have hgb := rblock h.secs g rfl
 have hoff : ∀ k, k < wr.heap.size → c k ≠ 2 → w6.heap[k]? = wr.heap[k]? := fun k hk hc => hg.block k hk (fun e => hc (h.c2 k e.symm))
 have hne : pv'.ownBlock ≠ some g := fun e => by
  rcases hat g e with q | q
  ·have := h.c2 g q; omega
  ·omega
 refine ⟨fun k => if pv'.ownBlock = some k then 2 else c k, ?_⟩
 have hs6 : w6.ownsRow W0 399 2 (.slice (some ⟨g, 0, none⟩) n cap) n (scells (vs ++ [(mk, pv)])) := by
  have h1 := rkeep h.secs (w' := w6) (fun k hk => by
   have e : g = k := Option.some.inj hk
   subst e
   exact hoff _ hgb.2 (by rw [hgc]; decide))
  rw [hn]; rw [hn] at h1; exact h1
 exact {
  secs := by
   have h1 := row_set hs6 (vs.length * 2 + 1) pv'
   rw [scells_set] at h1
   rw [← hn]; exact h1
  last := by
   rw [List.length_append, List.map_append]
   exact rkeep hl (fun k hk => heap_setCell_other _ _ _ _ (fun e => hne (by rw [← show k = g from e]; exact hk)))
  const := h.const.step (by simpa using hg.size) (fun k hk h0 => ⟨by
   rw [heap_setCell_other _ _ _ _ (show k ≠ g from fun e => by rw [e] at h0; omega)]
   exact hoff k hk (by omega), by
   show (if pv'.ownBlock = some k then 2 else c k) = 0
   rw [if_neg (fun e => by
    rcases hat k e with q | q
    ·have := h.c2 k q; omega
    ·omega)]
   exact h0⟩)
  c1 := fun k hk => by
   have e : g = k := Option.some.inj hk
   subst e
   show (if pv'.ownBlock = some g then 2 else c g) = 1
   rw [if_neg hne]; exact hgc
  c2 := fun k hk => if_pos hk
  low := fun k hk => by
   show (if pv'.ownBlock = some k then 2 else c k) = 0
   rw [if_neg (fun e => by
    rcases hat k e with q | q
    ·have := h.c2 k q; have := h.low k hk; omega
    ·omega)]
   exact h.low k hk
  below := (h.below.grown hg hW (fun k hk => (rblock h.last k hk).1)).setCell (p := ⟨g, vs.length * 2 + 1, none⟩) hgb.1 _ }
theorem PathsAt.still {W0 : Nat} {w wr w6 : World} {c : Nat → Nat} {pv : Value} {vs : SecV} {I : Secs} {mk : ByteArray} {l : List ByteArray} {g n cap : Nat} (h : PathsAt W0 w wr c (.slice (some ⟨g, 0, none⟩) n cap) pv vs I mk l) (hn : n = vs.length + 1) (hg : wr.grownBy w6 pv.ownBlock) : w6.cell? ⟨g, vs.length * 2 + 1, none⟩ = some pv ∧ w6.frozen? ⟨g, vs.length * 2 + 1, none⟩ = false := by
 have hgc : c g = 1 := h.c1 g rfl
 have hgb := rblock h.secs g rfl
 have h1 := rkeep h.secs (w' := w6) (fun k hk => by
  have e : g = k := Option.some.inj hk
  subst e
  exact hg.block _ hgb.2 (fun e => by have := h.c2 g e.symm; omega))
 rw [← hn] at h1
 exact row_cell h1 (vs.length * 2 + 1) pv (scells_at (l := vs ++ [(mk, pv)]) (i := vs.length) (x := (mk, pv)) (by simp)).2
theorem contains_any (ms : List ByteArray) (v : Value) (x : ByteArray) (w : World) (h : TextsAt w v ms) (hl : ms.length ≤ 1048576) :
  Calls Tryz.prog 321 #[v, .string x] w fun e w' => e = .returned (.bool (memB x ms)) ∧ w' = w := by
 obtain ⟨ao, cap, rfl, hc, h⟩ := h
 have hm : ∀ zs : List ByteArray, Lib.containsS zs x = memB x zs := fun zs => by
  rw [Bool.eq_iff_iff, Lib.containsS_iff]
  unfold memB
  rw [List.any_eq_true]
  exact ⟨fun h => ⟨x, h, decide_eq_true rfl⟩, fun ⟨y, h1, h2⟩ => by rw [← of_decide_eq_true h2]; exact h1⟩
 rcases h with ⟨_, rfl, _⟩ | ⟨b, o, rfl, h⟩
 ·exact Any.slices_Contains_string_empty Tryz.lays110 ao cap x w
 ·refine (Any.slices_Contains_string Tryz.lays110 b o ms.length cap ms x w (Nat.le_refl _) (by omega) (fun j hj => ?_)).mono ?_
  ·rw [h j (ms[j]) (by simp)]
   simp [List.getD, hj]
  ·rintro e w' ⟨rfl, rfl⟩
   rw [List.take_length, hm]
   exact ⟨rfl, rfl⟩
end Go.Proofs.YthhbpebihgjpjaaGreatDoor
