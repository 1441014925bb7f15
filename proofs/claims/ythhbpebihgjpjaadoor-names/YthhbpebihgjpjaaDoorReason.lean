import Derived.Test.YthhbpebihgjpjaaDoorNumber
namespace Go.Proofs.YthhbpebihgjpjaaDoor
open Go.RowKit Go.Extern.Stop Go.Stop Go.Extern
set_option maxRecDepth 100000

theorem Tryd.methodErrorE (v : Value) (w : World) : (Go.method 219 66 v "Error").run Tryd.prog w = .ok (64, v) w := by kernel_rfl
theorem Tryd.methodErrorF (v : Value) (w : World) : (Go.method 219 28 v "Error").run Tryd.prog w = .ok (33, v) w := by kernel_rfl

theorem eql_sents {a : Nat → Addr} {t : Nat → ByteArray} {w : World} (hS : Sents a t w) (k j : Nat) (hk : k < 9) (hj : j < 9) :
    (binOp .eql 26 (.iface 66 (.pointer (some (a k)))) (.iface 66 (.pointer (some (a j))))).run Tryd.prog w = .ok (.bool (k == j)) w := by
  obtain ⟨i, hi, hcmp⟩ := Option.map_eq_some_iff.1 Tryd.isComp
  obtain ⟨s, hs, hss⟩ := Option.map_eq_some_iff.1 Tryd.isSize
  by_cases e : k = j
  · subst e
    rw [run_eql_iface_ptr_same (P := Tryd.prog) w (a k) Tryd.underlying26 Tryd.underlying66 hi hcmp hs]
    simp
  · obtain ⟨ca, ta, ha⟩ := hS.row k hk
    obtain ⟨cb, tb, hb⟩ := hS.row j hj
    rw [run_eql_iface_ptr_other (P := Tryd.prog) w Tryd.underlying26 Tryd.underlying66 hi hcmp hs (by rw [hss]; decide) (fun h => e (hS.ne k j hk hj h)) ha hb]
    simp [e]

theorem error_any (p : Addr) (s : ByteArray) (w : World) (h : w.cell? p = some (.string s)) :
    Calls Tryd.prog 64 #[.pointer (some p)] w fun e w' => e = .returned (.string s) ∧ w' = w := by
  obtain ⟨b, o, q⟩ := p
  go_enter Tryd.func64, Tryd.ntmps64
  go_wp2
  go_ret
  exact ⟨rfl, rfl⟩

theorem itoa_seven (w : World) : Calls Tryd.prog 35 #[.int .i64 7] w fun e w' => e = .returned (.string ⟨#[55]⟩) ∧ w' = w := by
  go_enter Tryd.func35, Tryd.ntmps35
  go_wp2
  go_ret
  exact ⟨rfl, rfl⟩

theorem reason_text0 (a : Nat → Addr) (t : Nat → ByteArray) (w : World) (hS : Sents a t w) :
    Calls Tryd.prog 36 #[.iface 66 (.pointer (some (a 0)))] w fun e w' => e = .returned (.string (t 0)) ∧ w' = w := by
  have c0 : w.cell? ⟨0, 0, none⟩ = _ := hS.cell 0 (by omega)
  have e0 : (binOp .eql 26 (.iface 66 (.pointer (some (a 0)))) (.iface 66 (.pointer (some (a 0))))).run Tryd.prog w = .ok (.bool true) w := eql_sents hS 0 0 (by omega) (by omega)
  have mE := Tryd.methodErrorE
  have HE : Hid (Calls Tryd.prog 64 #[.pointer (some (a 0))] w fun e w' => e = .returned (.string (t 0)) ∧ w' = w) := error_any _ _ _ (hS.text 0 (by omega))
  go_enter Tryd.func36, Tryd.ntmps36
  go_wp2_with (go_at_call 64; refine HE.out.mono ?_; rintro e w' ⟨rfl, rfl⟩)
  go_ret
  exact ⟨rfl, rfl⟩

theorem reason_text1 (a : Nat → Addr) (t : Nat → ByteArray) (w : World) (hS : Sents a t w) :
    Calls Tryd.prog 36 #[.iface 66 (.pointer (some (a 1)))] w fun e w' => e = .returned (.string (t 1)) ∧ w' = w := by
  have c0 : w.cell? ⟨0, 0, none⟩ = _ := hS.cell 0 (by omega)
  have c1 : w.cell? ⟨1, 0, none⟩ = _ := hS.cell 1 (by omega)
  have e0 : (binOp .eql 26 (.iface 66 (.pointer (some (a 1)))) (.iface 66 (.pointer (some (a 0))))).run Tryd.prog w = .ok (.bool false) w := eql_sents hS 1 0 (by omega) (by omega)
  have e1 : (binOp .eql 26 (.iface 66 (.pointer (some (a 1)))) (.iface 66 (.pointer (some (a 1))))).run Tryd.prog w = .ok (.bool true) w := eql_sents hS 1 1 (by omega) (by omega)
  have mE := Tryd.methodErrorE
  have HE : Hid (Calls Tryd.prog 64 #[.pointer (some (a 1))] w fun e w' => e = .returned (.string (t 1)) ∧ w' = w) := error_any _ _ _ (hS.text 1 (by omega))
  go_enter Tryd.func36, Tryd.ntmps36
  go_wp2_with (go_at_call 64; refine HE.out.mono ?_; rintro e w' ⟨rfl, rfl⟩)
  go_ret
  exact ⟨rfl, rfl⟩

theorem reason_text2 (a : Nat → Addr) (t : Nat → ByteArray) (w : World) (hS : Sents a t w) :
    Calls Tryd.prog 36 #[.iface 66 (.pointer (some (a 2)))] w fun e w' => e = .returned (.string (t 2)) ∧ w' = w := by
  have c0 : w.cell? ⟨0, 0, none⟩ = _ := hS.cell 0 (by omega)
  have c1 : w.cell? ⟨1, 0, none⟩ = _ := hS.cell 1 (by omega)
  have c2 : w.cell? ⟨2, 0, none⟩ = _ := hS.cell 2 (by omega)
  have e0 : (binOp .eql 26 (.iface 66 (.pointer (some (a 2)))) (.iface 66 (.pointer (some (a 0))))).run Tryd.prog w = .ok (.bool false) w := eql_sents hS 2 0 (by omega) (by omega)
  have e1 : (binOp .eql 26 (.iface 66 (.pointer (some (a 2)))) (.iface 66 (.pointer (some (a 1))))).run Tryd.prog w = .ok (.bool false) w := eql_sents hS 2 1 (by omega) (by omega)
  have e2 : (binOp .eql 26 (.iface 66 (.pointer (some (a 2)))) (.iface 66 (.pointer (some (a 2))))).run Tryd.prog w = .ok (.bool true) w := eql_sents hS 2 2 (by omega) (by omega)
  have mE := Tryd.methodErrorE
  have HE : Hid (Calls Tryd.prog 64 #[.pointer (some (a 2))] w fun e w' => e = .returned (.string (t 2)) ∧ w' = w) := error_any _ _ _ (hS.text 2 (by omega))
  go_enter Tryd.func36, Tryd.ntmps36
  go_wp2_with (go_at_call 64; refine HE.out.mono ?_; rintro e w' ⟨rfl, rfl⟩)
  go_ret
  exact ⟨rfl, rfl⟩

theorem reason_text3 (a : Nat → Addr) (t : Nat → ByteArray) (w : World) (hS : Sents a t w) :
    Calls Tryd.prog 36 #[.iface 66 (.pointer (some (a 3)))] w fun e w' => e = .returned (.string (t 3)) ∧ w' = w := by
  have c0 : w.cell? ⟨0, 0, none⟩ = _ := hS.cell 0 (by omega)
  have c1 : w.cell? ⟨1, 0, none⟩ = _ := hS.cell 1 (by omega)
  have c2 : w.cell? ⟨2, 0, none⟩ = _ := hS.cell 2 (by omega)
  have c3 : w.cell? ⟨3, 0, none⟩ = _ := hS.cell 3 (by omega)
  have e0 : (binOp .eql 26 (.iface 66 (.pointer (some (a 3)))) (.iface 66 (.pointer (some (a 0))))).run Tryd.prog w = .ok (.bool false) w := eql_sents hS 3 0 (by omega) (by omega)
  have e1 : (binOp .eql 26 (.iface 66 (.pointer (some (a 3)))) (.iface 66 (.pointer (some (a 1))))).run Tryd.prog w = .ok (.bool false) w := eql_sents hS 3 1 (by omega) (by omega)
  have e2 : (binOp .eql 26 (.iface 66 (.pointer (some (a 3)))) (.iface 66 (.pointer (some (a 2))))).run Tryd.prog w = .ok (.bool false) w := eql_sents hS 3 2 (by omega) (by omega)
  have e3 : (binOp .eql 26 (.iface 66 (.pointer (some (a 3)))) (.iface 66 (.pointer (some (a 3))))).run Tryd.prog w = .ok (.bool true) w := eql_sents hS 3 3 (by omega) (by omega)
  have mE := Tryd.methodErrorE
  have HE : Hid (Calls Tryd.prog 64 #[.pointer (some (a 3))] w fun e w' => e = .returned (.string (t 3)) ∧ w' = w) := error_any _ _ _ (hS.text 3 (by omega))
  go_enter Tryd.func36, Tryd.ntmps36
  go_wp2_with (go_at_call 64; refine HE.out.mono ?_; rintro e w' ⟨rfl, rfl⟩)
  go_ret
  exact ⟨rfl, rfl⟩

theorem reason_text4 (a : Nat → Addr) (t : Nat → ByteArray) (w : World) (hS : Sents a t w) :
    Calls Tryd.prog 36 #[.iface 66 (.pointer (some (a 4)))] w fun e w' => e = .returned (.string (t 4)) ∧ w' = w := by
  have c0 : w.cell? ⟨0, 0, none⟩ = _ := hS.cell 0 (by omega)
  have c1 : w.cell? ⟨1, 0, none⟩ = _ := hS.cell 1 (by omega)
  have c2 : w.cell? ⟨2, 0, none⟩ = _ := hS.cell 2 (by omega)
  have c3 : w.cell? ⟨3, 0, none⟩ = _ := hS.cell 3 (by omega)
  have c4 : w.cell? ⟨4, 0, none⟩ = _ := hS.cell 4 (by omega)
  have e0 : (binOp .eql 26 (.iface 66 (.pointer (some (a 4)))) (.iface 66 (.pointer (some (a 0))))).run Tryd.prog w = .ok (.bool false) w := eql_sents hS 4 0 (by omega) (by omega)
  have e1 : (binOp .eql 26 (.iface 66 (.pointer (some (a 4)))) (.iface 66 (.pointer (some (a 1))))).run Tryd.prog w = .ok (.bool false) w := eql_sents hS 4 1 (by omega) (by omega)
  have e2 : (binOp .eql 26 (.iface 66 (.pointer (some (a 4)))) (.iface 66 (.pointer (some (a 2))))).run Tryd.prog w = .ok (.bool false) w := eql_sents hS 4 2 (by omega) (by omega)
  have e3 : (binOp .eql 26 (.iface 66 (.pointer (some (a 4)))) (.iface 66 (.pointer (some (a 3))))).run Tryd.prog w = .ok (.bool false) w := eql_sents hS 4 3 (by omega) (by omega)
  have e4 : (binOp .eql 26 (.iface 66 (.pointer (some (a 4)))) (.iface 66 (.pointer (some (a 4))))).run Tryd.prog w = .ok (.bool true) w := eql_sents hS 4 4 (by omega) (by omega)
  have mE := Tryd.methodErrorE
  have HE : Hid (Calls Tryd.prog 64 #[.pointer (some (a 4))] w fun e w' => e = .returned (.string (t 4)) ∧ w' = w) := error_any _ _ _ (hS.text 4 (by omega))
  go_enter Tryd.func36, Tryd.ntmps36
  go_wp2_with (go_at_call 64; refine HE.out.mono ?_; rintro e w' ⟨rfl, rfl⟩)
  go_ret
  exact ⟨rfl, rfl⟩

theorem reason_text5 (a : Nat → Addr) (t : Nat → ByteArray) (w : World) (hS : Sents a t w) :
    Calls Tryd.prog 36 #[.iface 66 (.pointer (some (a 5)))] w fun e w' => e = .returned (.string (t 5)) ∧ w' = w := by
  have c0 : w.cell? ⟨0, 0, none⟩ = _ := hS.cell 0 (by omega)
  have c1 : w.cell? ⟨1, 0, none⟩ = _ := hS.cell 1 (by omega)
  have c2 : w.cell? ⟨2, 0, none⟩ = _ := hS.cell 2 (by omega)
  have c3 : w.cell? ⟨3, 0, none⟩ = _ := hS.cell 3 (by omega)
  have c4 : w.cell? ⟨4, 0, none⟩ = _ := hS.cell 4 (by omega)
  have c5 : w.cell? ⟨5, 0, none⟩ = _ := hS.cell 5 (by omega)
  have e0 : (binOp .eql 26 (.iface 66 (.pointer (some (a 5)))) (.iface 66 (.pointer (some (a 0))))).run Tryd.prog w = .ok (.bool false) w := eql_sents hS 5 0 (by omega) (by omega)
  have e1 : (binOp .eql 26 (.iface 66 (.pointer (some (a 5)))) (.iface 66 (.pointer (some (a 1))))).run Tryd.prog w = .ok (.bool false) w := eql_sents hS 5 1 (by omega) (by omega)
  have e2 : (binOp .eql 26 (.iface 66 (.pointer (some (a 5)))) (.iface 66 (.pointer (some (a 2))))).run Tryd.prog w = .ok (.bool false) w := eql_sents hS 5 2 (by omega) (by omega)
  have e3 : (binOp .eql 26 (.iface 66 (.pointer (some (a 5)))) (.iface 66 (.pointer (some (a 3))))).run Tryd.prog w = .ok (.bool false) w := eql_sents hS 5 3 (by omega) (by omega)
  have e4 : (binOp .eql 26 (.iface 66 (.pointer (some (a 5)))) (.iface 66 (.pointer (some (a 4))))).run Tryd.prog w = .ok (.bool false) w := eql_sents hS 5 4 (by omega) (by omega)
  have e5 : (binOp .eql 26 (.iface 66 (.pointer (some (a 5)))) (.iface 66 (.pointer (some (a 5))))).run Tryd.prog w = .ok (.bool true) w := eql_sents hS 5 5 (by omega) (by omega)
  have mE := Tryd.methodErrorE
  have HE : Hid (Calls Tryd.prog 64 #[.pointer (some (a 5))] w fun e w' => e = .returned (.string (t 5)) ∧ w' = w) := error_any _ _ _ (hS.text 5 (by omega))
  go_enter Tryd.func36, Tryd.ntmps36
  go_wp2_with (go_at_call 64; refine HE.out.mono ?_; rintro e w' ⟨rfl, rfl⟩)
  go_ret
  exact ⟨rfl, rfl⟩

theorem reason_text6 (a : Nat → Addr) (t : Nat → ByteArray) (w : World) (hS : Sents a t w) :
    Calls Tryd.prog 36 #[.iface 66 (.pointer (some (a 6)))] w fun e w' => e = .returned (.string (t 6)) ∧ w' = w := by
  have c0 : w.cell? ⟨0, 0, none⟩ = _ := hS.cell 0 (by omega)
  have c1 : w.cell? ⟨1, 0, none⟩ = _ := hS.cell 1 (by omega)
  have c2 : w.cell? ⟨2, 0, none⟩ = _ := hS.cell 2 (by omega)
  have c3 : w.cell? ⟨3, 0, none⟩ = _ := hS.cell 3 (by omega)
  have c4 : w.cell? ⟨4, 0, none⟩ = _ := hS.cell 4 (by omega)
  have c5 : w.cell? ⟨5, 0, none⟩ = _ := hS.cell 5 (by omega)
  have c6 : w.cell? ⟨6, 0, none⟩ = _ := hS.cell 6 (by omega)
  have e0 : (binOp .eql 26 (.iface 66 (.pointer (some (a 6)))) (.iface 66 (.pointer (some (a 0))))).run Tryd.prog w = .ok (.bool false) w := eql_sents hS 6 0 (by omega) (by omega)
  have e1 : (binOp .eql 26 (.iface 66 (.pointer (some (a 6)))) (.iface 66 (.pointer (some (a 1))))).run Tryd.prog w = .ok (.bool false) w := eql_sents hS 6 1 (by omega) (by omega)
  have e2 : (binOp .eql 26 (.iface 66 (.pointer (some (a 6)))) (.iface 66 (.pointer (some (a 2))))).run Tryd.prog w = .ok (.bool false) w := eql_sents hS 6 2 (by omega) (by omega)
  have e3 : (binOp .eql 26 (.iface 66 (.pointer (some (a 6)))) (.iface 66 (.pointer (some (a 3))))).run Tryd.prog w = .ok (.bool false) w := eql_sents hS 6 3 (by omega) (by omega)
  have e4 : (binOp .eql 26 (.iface 66 (.pointer (some (a 6)))) (.iface 66 (.pointer (some (a 4))))).run Tryd.prog w = .ok (.bool false) w := eql_sents hS 6 4 (by omega) (by omega)
  have e5 : (binOp .eql 26 (.iface 66 (.pointer (some (a 6)))) (.iface 66 (.pointer (some (a 5))))).run Tryd.prog w = .ok (.bool false) w := eql_sents hS 6 5 (by omega) (by omega)
  have e6 : (binOp .eql 26 (.iface 66 (.pointer (some (a 6)))) (.iface 66 (.pointer (some (a 6))))).run Tryd.prog w = .ok (.bool true) w := eql_sents hS 6 6 (by omega) (by omega)
  have mE := Tryd.methodErrorE
  have HE : Hid (Calls Tryd.prog 64 #[.pointer (some (a 6))] w fun e w' => e = .returned (.string (t 6)) ∧ w' = w) := error_any _ _ _ (hS.text 6 (by omega))
  go_enter Tryd.func36, Tryd.ntmps36
  go_wp2_with (go_at_call 64; refine HE.out.mono ?_; rintro e w' ⟨rfl, rfl⟩)
  go_ret
  exact ⟨rfl, rfl⟩

theorem reason_text7 (a : Nat → Addr) (t : Nat → ByteArray) (w : World) (hS : Sents a t w) :
    Calls Tryd.prog 36 #[.iface 66 (.pointer (some (a 7)))] w fun e w' => e = .returned (.string (t 7)) ∧ w' = w := by
  have c0 : w.cell? ⟨0, 0, none⟩ = _ := hS.cell 0 (by omega)
  have c1 : w.cell? ⟨1, 0, none⟩ = _ := hS.cell 1 (by omega)
  have c2 : w.cell? ⟨2, 0, none⟩ = _ := hS.cell 2 (by omega)
  have c3 : w.cell? ⟨3, 0, none⟩ = _ := hS.cell 3 (by omega)
  have c4 : w.cell? ⟨4, 0, none⟩ = _ := hS.cell 4 (by omega)
  have c5 : w.cell? ⟨5, 0, none⟩ = _ := hS.cell 5 (by omega)
  have c6 : w.cell? ⟨6, 0, none⟩ = _ := hS.cell 6 (by omega)
  have c7 : w.cell? ⟨7, 0, none⟩ = _ := hS.cell 7 (by omega)
  have e0 : (binOp .eql 26 (.iface 66 (.pointer (some (a 7)))) (.iface 66 (.pointer (some (a 0))))).run Tryd.prog w = .ok (.bool false) w := eql_sents hS 7 0 (by omega) (by omega)
  have e1 : (binOp .eql 26 (.iface 66 (.pointer (some (a 7)))) (.iface 66 (.pointer (some (a 1))))).run Tryd.prog w = .ok (.bool false) w := eql_sents hS 7 1 (by omega) (by omega)
  have e2 : (binOp .eql 26 (.iface 66 (.pointer (some (a 7)))) (.iface 66 (.pointer (some (a 2))))).run Tryd.prog w = .ok (.bool false) w := eql_sents hS 7 2 (by omega) (by omega)
  have e3 : (binOp .eql 26 (.iface 66 (.pointer (some (a 7)))) (.iface 66 (.pointer (some (a 3))))).run Tryd.prog w = .ok (.bool false) w := eql_sents hS 7 3 (by omega) (by omega)
  have e4 : (binOp .eql 26 (.iface 66 (.pointer (some (a 7)))) (.iface 66 (.pointer (some (a 4))))).run Tryd.prog w = .ok (.bool false) w := eql_sents hS 7 4 (by omega) (by omega)
  have e5 : (binOp .eql 26 (.iface 66 (.pointer (some (a 7)))) (.iface 66 (.pointer (some (a 5))))).run Tryd.prog w = .ok (.bool false) w := eql_sents hS 7 5 (by omega) (by omega)
  have e6 : (binOp .eql 26 (.iface 66 (.pointer (some (a 7)))) (.iface 66 (.pointer (some (a 6))))).run Tryd.prog w = .ok (.bool false) w := eql_sents hS 7 6 (by omega) (by omega)
  have e7 : (binOp .eql 26 (.iface 66 (.pointer (some (a 7)))) (.iface 66 (.pointer (some (a 7))))).run Tryd.prog w = .ok (.bool true) w := eql_sents hS 7 7 (by omega) (by omega)
  have mE := Tryd.methodErrorE
  have HE : Hid (Calls Tryd.prog 64 #[.pointer (some (a 7))] w fun e w' => e = .returned (.string (t 7)) ∧ w' = w) := error_any _ _ _ (hS.text 7 (by omega))
  go_enter Tryd.func36, Tryd.ntmps36
  go_wp2_with (go_at_call 64; refine HE.out.mono ?_; rintro e w' ⟨rfl, rfl⟩)
  go_ret
  exact ⟨rfl, rfl⟩

theorem reason_text8 (a : Nat → Addr) (t : Nat → ByteArray) (w : World) (hS : Sents a t w) :
    Calls Tryd.prog 36 #[.iface 66 (.pointer (some (a 8)))] w fun e w' => e = .returned (.string (t 8)) ∧ w' = w := by
  have c0 : w.cell? ⟨0, 0, none⟩ = _ := hS.cell 0 (by omega)
  have c1 : w.cell? ⟨1, 0, none⟩ = _ := hS.cell 1 (by omega)
  have c2 : w.cell? ⟨2, 0, none⟩ = _ := hS.cell 2 (by omega)
  have c3 : w.cell? ⟨3, 0, none⟩ = _ := hS.cell 3 (by omega)
  have c4 : w.cell? ⟨4, 0, none⟩ = _ := hS.cell 4 (by omega)
  have c5 : w.cell? ⟨5, 0, none⟩ = _ := hS.cell 5 (by omega)
  have c6 : w.cell? ⟨6, 0, none⟩ = _ := hS.cell 6 (by omega)
  have c7 : w.cell? ⟨7, 0, none⟩ = _ := hS.cell 7 (by omega)
  have c8 : w.cell? ⟨8, 0, none⟩ = _ := hS.cell 8 (by omega)
  have e0 : (binOp .eql 26 (.iface 66 (.pointer (some (a 8)))) (.iface 66 (.pointer (some (a 0))))).run Tryd.prog w = .ok (.bool false) w := eql_sents hS 8 0 (by omega) (by omega)
  have e1 : (binOp .eql 26 (.iface 66 (.pointer (some (a 8)))) (.iface 66 (.pointer (some (a 1))))).run Tryd.prog w = .ok (.bool false) w := eql_sents hS 8 1 (by omega) (by omega)
  have e2 : (binOp .eql 26 (.iface 66 (.pointer (some (a 8)))) (.iface 66 (.pointer (some (a 2))))).run Tryd.prog w = .ok (.bool false) w := eql_sents hS 8 2 (by omega) (by omega)
  have e3 : (binOp .eql 26 (.iface 66 (.pointer (some (a 8)))) (.iface 66 (.pointer (some (a 3))))).run Tryd.prog w = .ok (.bool false) w := eql_sents hS 8 3 (by omega) (by omega)
  have e4 : (binOp .eql 26 (.iface 66 (.pointer (some (a 8)))) (.iface 66 (.pointer (some (a 4))))).run Tryd.prog w = .ok (.bool false) w := eql_sents hS 8 4 (by omega) (by omega)
  have e5 : (binOp .eql 26 (.iface 66 (.pointer (some (a 8)))) (.iface 66 (.pointer (some (a 5))))).run Tryd.prog w = .ok (.bool false) w := eql_sents hS 8 5 (by omega) (by omega)
  have e6 : (binOp .eql 26 (.iface 66 (.pointer (some (a 8)))) (.iface 66 (.pointer (some (a 6))))).run Tryd.prog w = .ok (.bool false) w := eql_sents hS 8 6 (by omega) (by omega)
  have e7 : (binOp .eql 26 (.iface 66 (.pointer (some (a 8)))) (.iface 66 (.pointer (some (a 7))))).run Tryd.prog w = .ok (.bool false) w := eql_sents hS 8 7 (by omega) (by omega)
  have e8 : (binOp .eql 26 (.iface 66 (.pointer (some (a 8)))) (.iface 66 (.pointer (some (a 8))))).run Tryd.prog w = .ok (.bool true) w := eql_sents hS 8 8 (by omega) (by omega)
  have mE := Tryd.methodErrorE
  have HE : Hid (Calls Tryd.prog 64 #[.pointer (some (a 8))] w fun e w' => e = .returned (.string (t 8)) ∧ w' = w) := error_any _ _ _ (hS.text 8 (by omega))
  go_enter Tryd.func36, Tryd.ntmps36
  go_wp2_with (go_at_call 64; refine HE.out.mono ?_; rintro e w' ⟨rfl, rfl⟩)
  go_ret
  exact ⟨rfl, rfl⟩

theorem reason_text (a : Nat → Addr) (t : Nat → ByteArray) (k : Nat) (hk : k < 9) (w : World) (hS : Sents a t w) :
    Calls Tryd.prog 36 #[.iface 66 (.pointer (some (a k)))] w fun e w' => e = .returned (.string (t k)) ∧ w' = w := by
  match k, hk with
  | 0, _ => exact reason_text0 a t w hS
  | 1, _ => exact reason_text1 a t w hS
  | 2, _ => exact reason_text2 a t w hS
  | 3, _ => exact reason_text3 a t w hS
  | 4, _ => exact reason_text4 a t w hS
  | 5, _ => exact reason_text5 a t w hS
  | 6, _ => exact reason_text6 a t w hS
  | 7, _ => exact reason_text7 a t w hS
  | 8, _ => exact reason_text8 a t w hS
  | n + 9, h => exact absurd h (by omega)

theorem Sents.drewN {a : Nat → Addr} {t : Nat → ByteArray} {w : World} (hS : Sents a t w) (n : Nat) : Sents a t (w.drewN n) := hS.below (below_drewN (Below.refl _ _) n)

theorem fault_error (a : Nat → Addr) (t : Nat → ByteArray) (k : Nat) (hk : k < 9) (pb po : Nat) (w : World) (hS : Sents a t w) (hp0 : w.cell? ⟨pb, po, none⟩ = some (.int .i64 7)) (hp1 : w.cell? ⟨pb, po + 1, none⟩ = some (.iface 66 (.pointer (some (a k))))) :
    Calls Tryd.prog 33 #[.pointer (some ⟨pb, po, none⟩)] w fun e w' => ∃ s : ByteArray, e = .returned (.string s) ∧ 1 ≤ s.size ∧ ∃ n, w' = w.drewN n := by
  have hl := hS.short k hk
  have hadd : ∀ wx, (binOp .add 9 (.string ({ data := #[108, 105, 110, 101, 32] } ++ { data := #[55] } ++ { data := #[58, 32] })) (.string (t k))).run Tryd.prog wx = .ok (.string (({ data := #[108, 105, 110, 101, 32] } ++ { data := #[55] } ++ { data := #[58, 32] }) ++ t k)) wx := by
    intro wx
    simp [go_sem]
    omega
  go_enter Tryd.func33, Tryd.ntmps33
  go_wp2
  go_quiet ((first | (go_at_call 35; exact Calls.quiet_of_same (itoa_seven _)) | (go_at_call 36; exact Calls.quiet_of_same (reason_text a t k hk _ (hS.drewN _)))))
  go_wp2
  go_ret
  refine ⟨_, rfl, ?_, _, rfl⟩
  have hf := hS.full k hk
  simp
  omega
end Go.Proofs.YthhbpebihgjpjaaDoor
