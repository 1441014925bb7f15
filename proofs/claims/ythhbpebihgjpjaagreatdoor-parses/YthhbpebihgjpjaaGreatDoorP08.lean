import Derived.Test.YthhbpebihgjpjaaGreatDoorP07
import Derived.Deep.RegionHeld3
import Derived.Deep.RegionWith
namespace Go.Proofs.YthhbpebihgjpjaaGreatDoor
open Go.RowKit Go.Shelf
set_option maxRecDepth 1000000

def reasonV (a : Nat → Addr) (k : Nat) : Value := .iface 472 (.pointer (some (a k)))
structure Gl (a : Nat → Addr) (w : World) : Prop where
 size : 14 ≤ w.heap.size
 errs : ∀ k, k < 9 → w.cell? ⟨k, 0, none⟩ = some (reasonV a k)
 most : ∃ m, w.cell? ⟨11, 0, none⟩ = some (.int .i64 m)
theorem Gl.keep {a : Nat → Addr} {w w' : World} (h : Gl a w) (hs : w.heap.size ≤ w'.heap.size) (hb : ∀ k, k < 14 → w'.heap[k]? = w.heap[k]?) : Gl a w' where
 size := Nat.le_trans h.size hs
 errs k hk := by rw [World.cell?_of_block (w := w) (hb _ (by simp only; omega))]; exact h.errs k hk
 most := by
  obtain ⟨m, hm⟩ := h.most
  exact ⟨m, by rw [World.cell?_of_block (w := w) (hb _ (by decide))]; exact hm⟩
theorem Gl.below {a : Nat → Addr} {w w' : World} {B : Nat} (h : Gl a w) (hb : Below B w w') (hB : 14 ≤ B) : Gl a w' := h.keep hb.size (fun k hk => hb.block k (by omega))
def Form.text : Form → ByteArray
 | .inl b => b
 | .inr x => x
theorem formU_size {u : ByteArray} {f : Form} {k : Nat} (h : formU u = some (f, k)) : f.text.size ≤ u.size := by
 have hw : ∀ v : ByteArray, (headB v).size ≤ v.size := fun v => by rw [headB_size]; exact spanLen_le _ _
 unfold formU at h
 split at h
 ·cases h
 split at h
 ·obtain ⟨rfl, _⟩ := Prod.mk.inj (Option.some.inj h)
  show (u.extract 0 1).size ≤ _
  rw [ByteArray.size_extract]; omega
 split at h
 ·split at h
  ·cases h
  ·obtain ⟨rfl, _⟩ := Prod.mk.inj (Option.some.inj h)
   refine Nat.le_trans (hw _) ?_
   rw [ByteArray.size_extract]; omega
 split at h
 ·cases h
 ·obtain ⟨rfl, _⟩ := Prod.mk.inj (Option.some.inj h)
  exact hw _
def strM : Value → Nat
 | .string s => s.size
 | _ => 0
theorem cut_any (u : ByteArray) (hu : u.size ≤ 1048576) (a : Nat → Addr) (w : World) (hg : Gl a w) :
  Calls Tryz.prog 272 #[.string u, .string dol] w fun e w' => (∃ n, w' = w.drewN n) ∧ ((e = .returned (.tuple #[.string u, .string ⟨#[]⟩, .bool false]) ∧ ∀ k, k < u.size → byteOf u k ≠ 36) ∨ ∃ n, n < u.size ∧ byteOf u n = 36 ∧ (∀ k, k < n → byteOf u k ≠ 36) ∧ e = .returned (.tuple #[.string (u.extract 0 n), .string (u.extract (n + 1) u.size), .bool true])) := by
 obtain ⟨m, hm⟩ := hg.most
 refine (Any.strings_Cut Tryz.lays145 u dol m w (by omega) hm).mono ?_
 rintro e w' ⟨rfl, n, rfl⟩
 refine ⟨⟨n, rfl⟩, ?_⟩
 rcases index_dol u with ⟨h, hk⟩ | ⟨i, h, hi, hd, hk⟩
 ·have := Lib.cutB_miss u dol h
  refine Or.inl ⟨?_, hk⟩
  rw [this.1, this.2.1, this.2.2]
  rfl
 ·have := Lib.cutB_hit u dol i h
  refine Or.inr ⟨i, hi, hd, hk, ?_⟩
  rw [this.1, this.2.1, this.2.2]
  rfl
def expEnd (a : Nat → Addr) (n : Int) (o : Option ByteArray) (e : Ending) (w' : World) : Prop := match o with
 | some y => e = .returned (.string y)
 | none => Stopped n (reasonV a 4) e w'
theorem stopped_below {n : Int} {rv : Value} {e : Ending} {w' : World} (h : Stopped n rv e w') : Stopped n rv e w' := h
theorem kept_obj {T : TypeId} {b : Option Nat} {w w' : World} (h : Lib.OthersKept 5 b w w') {k : Nat} {cs : Array Value} {fz : Nat × Nat} (hk : w.heap[k]? = some (.cells cs T fz)) (hT : T ≠ 5) (hb : some k ≠ b) : w'.heap[k]? = some (.cells cs T fz) :=
 h k _ hk hb (fun c f e => hT (by injection e))
set_option maxHeartbeats 4000000 in
theorem expand_any (rb : Nat) (n : Int) (t : ByteArray) (ls : List Binds) (p : Value) (a : Nat → Addr) (w : World) (h0 : w.cell? ⟨rb, 0, none⟩ = some (.int .i64 n)) (hs : ScopesAt w p ls) (hg : Gl a w) (ht : t.size ≤ 1048576) (hE : ∀ x, (envL ls x).size ≤ 1048576) (hN : envL ls ⟨#[]⟩ = ⟨#[]⟩) :
  Calls Tryz.prog 201 #[.pointer (some ⟨rb, 0, none⟩), .string t, p] w fun e w' => expEnd a n (expandS (envL ls) t) e w' ∧ Below w.heap.size w w' := by
 have HS : Hid (ScopesAt w p ls) := hs
 have HG : Hid (Gl a w) := hg
 have HE : Hid (∀ x, (envL ls x).size ≤ 1048576) := hE
 have HX : Hid (w.cell? ⟨rb, 0, none⟩ = some (.int .i64 n)) := h0
 have hrb : rb < w.heap.size := block_lt_of_cell h0
 have HT : Hid (t.size ≤ 1048576) := ht
 have HN0 : Hid (envL ls ⟨#[]⟩ = ⟨#[]⟩) := hN
 clear hN
 obtain ⟨ao, rfl⟩ : ∃ ao, p = .pointer ao := by
  cases ls with
  | nil => exact ⟨none, hs⟩
  | cons l ls => obtain ⟨sb, _, _, _, e, _⟩ := hs; exact ⟨_, e⟩
 clear hs hg hE h0
 go_enter Tryz.func201, Tryz.ntmps201
 go_wp2_with fail
 go_loopw [1] (fun v wr => ∃ u out, v = .string u ∧ u.size ≤ t.size ∧ out.size ≤ 4000 ∧ BuiltAt wr w.heap.size out ∧ Below w.heap.size w wr ∧ expandAt (envL ls) u 0 out = expandS (envL ls) t) (fun v _ => strM v)
 case atStart =>
  exact ⟨t, ⟨#[]⟩, rfl, Nat.le_refl _, by decide, built_new w, (Below.refl _ _).alloc (Nat.le_refl _) _, rfl⟩
 case round =>
  obtain ⟨u, out, rfl, hus, hos, hbu, hbw, hex⟩ := hrel
  have HBU : Hid (BuiltAt wr w.heap.size out) := hbu
  have HBW : Hid (Below w.heap.size w wr) := hbw
  have HEX : Hid (expandAt (envL ls) u 0 out = expandS (envL ls) t) := hex
  have HGr : Hid (Gl a wr) := HG.out.below hbw HG.out.size
  have HUS : Hid (u.size ≤ t.size) := hus
  clear hbu hbw hex
  go_wp2_with fail
  refine (cut_any u (by have := HT.out; omega) a wr HGr.out).mono ?_
  rintro e w1 ⟨⟨n1, rfl⟩, ⟨rfl, hno⟩ | ⟨i, hi, hd, hno, rfl⟩⟩
  ·have HN : Hid (expandS (envL ls) t = some (out ++ u)) := HEX.out.symm.trans (expand_last _ u out hno)
   have HB1 : Hid (BuiltAt (wr.drewN n1) w.heap.size out) := HBU.out.keep (fun _ _ => rfl)
   clear hno
   go_wp2_with fail
   refine (bstr_any _ out u _ HB1.out (by have := HT.out; omega)).mono ?_
   rintro e w2 ⟨rfl, hb2, hw2⟩
   have HB2 : Hid (BuiltAt w2 w.heap.size (out ++ u)) := hb2
   have HW2 : Hid (Below w.heap.size w w2) := (below_drewN HBW.out n1).trans hw2
   clear hb2 hw2
   go_wp2_with fail
   refine (btext_any _ _ _ HB2.out).mono ?_
   rintro e w3 ⟨rfl, hb3, hw3⟩
   have HW3 : Hid (Below w.heap.size w w3) := HW2.out.trans hw3
   clear hb3 hw3
   go_wp2_with fail
   go_ret
   exact ⟨by rw [HN.out]; rfl, HW3.out⟩
  ·have hvs : (u.extract (i + 1) u.size).size ≤ 1048576 := by rw [ByteArray.size_extract]; have := HT.out; omega
   have HVS : Hid ((u.extract (i + 1) u.size).size < u.size) := by show _ < _; rw [ByteArray.size_extract]; omega
   have hAs : (u.extract 0 i).size ≤ 1048576 := by rw [ByteArray.size_extract]; have := HT.out; omega
   have HBAD : Hid (formU (u.extract (i + 1) u.size) = none → expandS (envL ls) t = none) := fun hf => HEX.out.symm.trans (expand_bad _ u out i hi hd hno hf)
   have HSTEP : Hid (∀ f k, formU (u.extract (i + 1) u.size) = some (f, k) → (expandS (envL ls) t = (if 4000 < (out ++ u.extract 0 i ++ f.val (envL ls)).size then none else expandAt (envL ls) ((u.extract (i + 1) u.size).extract k (u.extract (i + 1) u.size).size) 0 (out ++ u.extract 0 i ++ f.val (envL ls)))) ∧ 0 < k ∧ k ≤ (u.extract (i + 1) u.size).size) := fun f k hf => by
    have h := expand_step (envL ls) u out i hi hd hno f k hf
    exact ⟨HEX.out.symm.trans h.1, h.2⟩
   have HB1 : Hid (BuiltAt (wr.drewN n1) w.heap.size out) := HBU.out.keep (fun _ _ => rfl)
   have HLIT : Hid (∀ b k, formU (u.extract (i + 1) u.size) = some (.inl b, k) → b.size ≤ 1048576) := fun b k hf => Nat.le_trans (formU_size hf) hvs
   have HVAR : Hid (∀ b k, formU (u.extract (i + 1) u.size) = some (.inr b, k) → b.size ≤ 1048576) := fun b k hf => Nat.le_trans (formU_size hf) hvs
   clear hno hd
   generalize u.extract 0 i = A at *
   generalize u.extract (i + 1) u.size = V at *
   go_wp2_with fail
   refine (bstr_any _ out A _ HB1.out (by omega)).mono ?_
   rintro e w2 ⟨rfl, hb2, hw2⟩
   have HB2 : Hid (BuiltAt w2 w.heap.size (out ++ A)) := hb2
   have HW2 : Hid (Below w.heap.size w w2) := (below_drewN HBW.out n1).trans hw2
   have hlt2 : w.heap.size < w2.heap.size := hb2.lt
   clear hb2 hw2
   go_wp2_with fail
   refine (formOf_any V hvs _).mono ?_
   rintro e w3 ⟨⟨lit, var, k, rfl, hfi⟩, hw3⟩
   have HB3 : Hid (BuiltAt w3 w.heap.size (out ++ A)) := HB2.out.below hw3
   have HW3 : Hid (Below w.heap.size w w3) := HW2.out.trans (hw3.mono (by omega))
   have hlt3 : w.heap.size < w3.heap.size := HB3.out.lt
   have hg3 := HG.out.below HW3.out HG.out.size
   have c4 : w3.cell? ⟨4, 0, none⟩ = some (.iface 472 (.pointer (some (a 4)))) := hg3.errs 4 (by decide)
   have l4 : 4 < w3.heap.size := by have := hg3.size; omega
   clear hw3 hg3
   cases hf : formU V with
   | none =>
    have HN : Hid (expandS (envL ls) t = none) := HBAD.out hf
    have HNO : Hid (∀ wx, Below w.heap.size w wx → Calls Tryz.prog 112 #[.pointer (some ⟨rb, 0, none⟩), .bool false, .iface 472 (.pointer (some (a 4)))] wx fun e w' => Stopped n (reasonV a 4) e w' ∧ Below wx.heap.size wx w') := fun wx hb => need_no rb n _ _ wx ((hb.cell (p := ⟨rb, 0, none⟩) hrb).trans HX.out)
    simp only [Option.isSome_none]
    clear hf hfi
    go_wp2_with fail
    refine (HNO.out _ (HW3.out.alloc HW3.out.size _)).mono ?_
    rintro e w4 ⟨⟨b, rfl, s0, s1⟩, hb4⟩
    refine ⟨rfl, ?_, (HW3.out.alloc HW3.out.size _).trans (hb4.mono (by simp; omega))⟩
    rw [HN.out]
    exact ⟨b, rfl, s0, s1⟩
   | some fk =>
    obtain ⟨f, kk⟩ := fk
    obtain ⟨hst, hk0, hk1⟩ := HSTEP.out f kk hf
    have HST : Hid (expandS (envL ls) t = (if 4000 < (out ++ A ++ f.val (envL ls)).size then none else expandAt (envL ls) (V.extract kk V.size) 0 (out ++ A ++ f.val (envL ls)))) := hst
    rw [hf] at hfi
    obtain ⟨hk, HVAL⟩ : k = (kk : Int) ∧ Hid (out ++ A ++ lit ++ envL ls var = out ++ A ++ f.val (envL ls) ∧ lit.size ≤ 1048576 ∧ var.size ≤ 1048576) := by
     cases f with
     | inl b =>
      obtain ⟨rfl, rfl, hk⟩ := hfi
      refine ⟨hk, ?_, HLIT.out _ _ hf, by decide⟩
      rw [HN0.out]; exact ByteArray.append_empty
     | inr x =>
      obtain ⟨rfl, rfl, hk⟩ := hfi
      refine ⟨hk, ?_, by decide, HVAR.out _ _ hf⟩
      rw [show out ++ A ++ (⟨#[]⟩ : ByteArray) = out ++ A from ByteArray.append_empty]; rfl
    subst hk
    simp only [Option.isSome_some]
    clear hf hfi hst HBAD HSTEP
    have k0 : (0 : Int) ≤ (kk : Int) := by omega
    have hsl : ∀ wx, (Instr.slice 9 (.string V) (some (.int .i64 kk)) none none).run Tryz.prog wx = .ok (.string (V.extract kk V.size)) wx := fun wx => slice_from V kk hk1 wx
    go_wp2_with fail
    refine (need_yes _ _ _).mono ?_
    rintro e w4 ⟨rfl, rfl⟩
    go_wp2_with fail
    have HB3a : Hid (BuiltAt (w3.alloc (.cells #[.string lit, .string var, .int .i64 kk] 407)) w.heap.size (out ++ A)) := HB3.out.keep (fun k hk => heapA_old w3 _ k hk)
    have hla : (out ++ A).size = out.size + A.size := ByteArray.size_append
    have hlb := HVAL.out.2.1
    refine (bstr_kept _ (out ++ A) lit _ HB3a.out (by omega)).mono ?_
    rintro e w5 ⟨rfl, hb5, hw5, hk5⟩
    have HB5 : Hid (BuiltAt w5 w.heap.size (out ++ A ++ lit)) := hb5
    have HW5 : Hid (Below w.heap.size w w5) := (HW3.out.alloc HW3.out.size _).trans hw5
    have HR5 : Hid (w5.heap[w3.heap.size]? = some (.cells #[.string lit, .string var, .int .i64 kk] 407 (0, 0))) := kept_obj hk5 (heapA_new w3 _ _ rfl) (by decide) (by simp; omega)
    have d1 : w5.cell? ⟨w3.heap.size, 1, none⟩ = some (.string var) := by rw [cell_of_row _ _ _ _ _ _ HR5.out]; rfl
    clear hb5 hw5 hk5 hsl
    go_wp2_with fail
    refine (svalue_any ls _ var _ (HS.out.keep (fun k hk => HW5.out.block k hk)) HVAL.out.2.2).mono ?_
    rintro e w6 ⟨rfl, hw6⟩
    have HB6 : Hid (BuiltAt w6 w.heap.size (out ++ A ++ lit)) := HB5.out.below hw6
    have HW6 : Hid (Below w.heap.size w w6) := HW5.out.trans (hw6.mono HW5.out.size)
    have HR6 : Hid (w6.heap[w3.heap.size]? = some (.cells #[.string lit, .string var, .int .i64 kk] 407 (0, 0))) := (hw6.block _ (heap_lt HR5.out)).trans HR5.out
    have hv := HE.out var
    have HV : Hid (out ++ A ++ lit ++ envL ls var = out ++ A ++ f.val (envL ls)) := HVAL.out.1
    generalize envL ls var = val at *
    have hlc : (out ++ A ++ lit).size = out.size + A.size + lit.size := by rw [ByteArray.size_append, ByteArray.size_append]
    have hld : (out ++ A ++ lit ++ val).size = out.size + A.size + lit.size + val.size := by rw [ByteArray.size_append, hlc]
    clear hw6 d1
    go_wp2_with fail
    refine (bstr_kept _ (out ++ A ++ lit) val _ HB6.out (by omega)).mono ?_
    rintro e w7 ⟨rfl, hb7, hw7, hk7⟩
    have HB7 : Hid (BuiltAt w7 w.heap.size (out ++ A ++ lit ++ val)) := hb7
    have HW7 : Hid (Below w.heap.size w w7) := HW6.out.trans hw7
    have HR7 : Hid (w7.heap[w3.heap.size]? = some (.cells #[.string lit, .string var, .int .i64 kk] 407 (0, 0))) := kept_obj hk7 HR6.out (by decide) (by simp; omega)
    have e2 : w7.cell? ⟨w3.heap.size, 2, none⟩ = some (.int .i64 kk) := by rw [cell_of_row _ _ _ _ _ _ HR7.out]; rfl
    have hg7 := HG.out.below HW7.out HG.out.size
    have f4 : w7.cell? ⟨4, 0, none⟩ = some (.iface 472 (.pointer (some (a 4)))) := hg7.errs 4 (by decide)
    rw [HV.out] at HB7 hld
    generalize hX : out ++ A ++ f.val (envL ls) = X at *
    clear hb7 hw7 hk7 hg7 c4 HB6 HB5 HB3 HB3a HV HVAL hX
    have x0 : (X.size : Int) ≤ 9000000 := by omega
    clear hld hlc hla
    have hsl : ∀ wx, (Instr.slice 9 (.string V) (some (.int .i64 kk)) none none).run Tryz.prog wx = .ok (.string (V.extract kk V.size)) wx := fun wx => slice_from V kk hk1 wx
    have HLEN : Hid (Calls Tryz.prog 275 #[.pointer (some ⟨w.heap.size, 0, none⟩)] w7.drew fun e w' => e = .returned (.int .i64 X.size) ∧ w' = w7.drew) := blen_any _ X _ (HB7.out.keep (fun _ _ => rfl))
    by_cases hbig : 4000 < X.size
    ·have HN : Hid (expandS (envL ls) t = none) := HST.out.trans (if_pos hbig)
     have b2 : decide ((X.size : Int) ≤ 4000) = false := decide_eq_false (by omega)
     have HNO : Hid (Calls Tryz.prog 112 #[.pointer (some ⟨rb, 0, none⟩), .bool false, .iface 472 (.pointer (some (a 4)))] w7.drew fun e w' => Stopped n (reasonV a 4) e w' ∧ Below w.heap.size w w') := (need_no rb n _ _ w7.drew ((HW7.out.cell (p := ⟨rb, 0, none⟩) hrb).trans HX.out)).mono (fun e w' h => ⟨h.1, HW7.out.drew.trans (h.2.mono HW7.out.size)⟩)
     go_wp2_with fail
     refine wp_region_any (by kernel_rfl) ?_
     change wpAny _ _ _ _ _ _ _ (World.drew _)
     refine wpAny_take (i := 0) (v := .pointer (some ⟨rb, 0, none⟩)) rfl (by kernel_rfl) (by kernel_rfl) (by kernel_rfl) (fun _ _ _ h => h) (Or.inl ⟨by rfl, ?_⟩) ?_
     ·intro w
      go_simp
     refine wpAny_ready (rs := [1, 3]) (by kernel_rfl) (by simp) ?_
     refine AllReady.cons rfl (fun K hK => ?_) (AllReady.cons rfl (fun K hK => ?_) AllReady.nil)
     ·go_simp
      go_wp2_with (go_at_call 275; refine HLEN.out.mono ?_; rintro e w8 ⟨rfl, rfl⟩)
      refine wpAny_take (i := 2) (v := .bool false) rfl (by kernel_rfl) (by kernel_rfl) (by kernel_rfl) (fun _ _ _ h => h) (Or.inl ⟨by rfl, ?_⟩) ?_
      ·intro w
       go_simp
      refine wpAny_ready (rs := [3]) (by kernel_rfl) (by simp) ?_
      refine AllReady.cons rfl (fun K hK => ?_) AllReady.nil
      go_simp
      refine hK _ _ ?_
      clear hK K
      refine wpAny_ready (rs := [4]) (by kernel_rfl) (by simp) ?_
      refine AllReady.cons rfl (fun K hK => ?_) AllReady.nil
      go_simp
      refine HNO.out.mono ?_
      rintro e w8 ⟨⟨b, rfl, s0, s1⟩, hb8⟩
      exact ⟨rfl, (by rw [HN.out]; exact ⟨b, rfl, s0, s1⟩), hb8⟩
     ·go_simp
      refine hK _ _ ?_
      clear hK K
      refine wpAny_ready (rs := [1]) (by kernel_rfl) (by simp) ?_
      refine AllReady.cons rfl (fun K hK => ?_) AllReady.nil
      go_simp
      go_wp2_with (go_at_call 275; refine HLEN.out.mono ?_; rintro e w8 ⟨rfl, rfl⟩)
      refine wpAny_take (i := 2) (v := .bool false) rfl (by kernel_rfl) (by kernel_rfl) (by kernel_rfl) (fun _ _ _ h => h) (Or.inl ⟨by rfl, ?_⟩) ?_
      ·intro w
       go_simp
      refine wpAny_ready (rs := [4]) (by kernel_rfl) (by simp) ?_
      refine AllReady.cons rfl (fun K hK => ?_) AllReady.nil
      go_simp
      refine HNO.out.mono ?_
      rintro e w8 ⟨⟨b, rfl, s0, s1⟩, hb8⟩
      exact ⟨rfl, (by rw [HN.out]; exact ⟨b, rfl, s0, s1⟩), hb8⟩
    ·have HN : Hid (expandAt (envL ls) (V.extract kk V.size) 0 X = expandS (envL ls) t) := (HST.out.trans (if_neg hbig)).symm
     have b1 : (X.size : Int) ≤ 4000 := by omega
     have HYES : Hid (Calls Tryz.prog 112 #[.pointer (some ⟨rb, 0, none⟩), .bool true, .iface 472 (.pointer (some (a 4)))] w7.drew fun e w' => e = .returned (.tuple #[]) ∧ w' = w7.drew) := need_yes _ _ _
     go_wp2_with fail
     go_region_held3 (fun w' => w' = w7.drew ∧ w'.cell? ⟨4, 0, none⟩ = some (.iface 472 (.pointer (some (a 4))))) (first | exact ⟨rfl, f4⟩) (first | (go_at_call 275; refine HLEN.out.mono ?_; rintro e w8 ⟨rfl, rfl⟩) | (go_at_call 112; refine HYES.out.mono ?_; rintro e w8 ⟨rfl, rfl⟩))
     all_goals
      go_wp2_with fail
      exact ⟨⟨V.extract kk V.size, X, rfl, by rw [ByteArray.size_extract]; have := HVS.out; have := HUS.out; omega, by omega, HB7.out.keep (fun _ _ => rfl), HW7.out.drew, HN.out⟩, by show (V.extract kk V.size).size < u.size; rw [ByteArray.size_extract]; have := HVS.out; omega⟩
end Go.Proofs.YthhbpebihgjpjaaGreatDoor
