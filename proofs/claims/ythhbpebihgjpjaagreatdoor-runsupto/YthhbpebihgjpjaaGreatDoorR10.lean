import Derived.Test.YthhbpebihgjpjaaGreatDoorR09
namespace Go.Proofs.YthhbpebihgjpjaaGreatDoor
open Go.RowKit
set_option maxRecDepth 1000000

def powM (n k : Nat) : Nat := if k = 2 then n * n else n * n * n
def wholeM (p k : Nat) : Nat → Nat → Option Nat
  | 0, _ => none
  | f + 1, x => if x + 1 ≤ 1000 then (if powM (x + 1) k ≤ p then wholeM p k f (x + 1) else some x) else none
def bitsM (whole p k : Nat) : Nat → Nat → Option Nat
  | 0, v => some v
  | b + 1, v => if v + 2 ^ b < 4294967296 then (belowM whole (v + 2 ^ b) p k).bind fun ok => bitsM whole p k b (if ok then v + 2 ^ b else v) else none
def rootM (p k : Nat) : Option Nat := (wholeM p k 400 1).bind fun x => bitsM x p k 32 0

set_option maxHeartbeats 2000000 in
theorem root2 (p r : Nat) (hr : rootM p 2 = some r) (hp : p < 1048576) (w : World) :
    Calls Tryz.prog 128 #[.int .i64 p, .int .i64 2] w fun e w' => e = .returned (.int .i64 r) ∧ Below w.heap.size w w' := by
  obtain ⟨x, hx, hb⟩ := Option.bind_eq_some_iff.1 hr
  have HX : Hid (wholeM p 2 400 1 = some x) := hx
  have HBt : Hid (bitsM x p 2 32 0 = some r) := hb
  have p1 : (p : Int) < 1048576 := by omega
  clear hr hx hb
  go_enter Tryz.func128, Tryz.ntmps128
  go_wp2
  go_loop [5] (fun v => ∃ (f y : Nat), y ≤ 1000 ∧ v = .int .i64 y ∧ Hid (wholeM p 2 f y = some x)) (fun v => 1000 - (intOf v).toNat)
  case atStart => exact ⟨400, 1, by omega, rfl, HX⟩
  case round =>
    clear HX
    obtain ⟨f, y, hy, rfl, HX⟩ := hrel
    have h := HX.out
    cases f with
    | zero => cases h
    | succ f =>
      unfold wholeM at h
      split at h
      case isFalse => cases h
      rename_i hy1
      have y1 : (y : Int) + 1 ≤ 1000 := by omega
      have HP : Hid (∀ wx, Calls Tryz.prog 207 #[.int .i64 ((y : Int) + 1), .int .i64 2] wx fun e w' => e = .returned (.int .i64 (powM (y + 1) 2 : Nat)) ∧ wx = w') := fun wx => (power2 (y + 1) wx hy1).mono fun _ _ ⟨h1, h2⟩ => ⟨h1, h2.symm⟩
      by_cases hle : powM (y + 1) 2 ≤ p
      · rw [if_pos hle] at h
        have HX2 : Hid (wholeM p 2 f (y + 1) = some x) := h
        clear h HX
        have g1 : ((powM (y + 1) 2 : Nat) : Int) ≤ (p : Int) := by omega
        generalize powM (y + 1) 2 = q at *
        go_wp2_with fail
        refine (HP.out _).mono ?_
        rintro e w' ⟨rfl, rfl⟩
        go_wp2
        go_round
        case rel => exact ⟨f, y + 1, by omega, by go_num, HX2⟩
        case measure => simp [intOf]; omega
      · rw [if_neg hle] at h
        have hxy : y = x := Option.some.inj h
        subst hxy
        clear h HX
        have g1 : ¬ ((powM (y + 1) 2 : Nat) : Int) ≤ (p : Int) := by omega
        generalize powM (y + 1) 2 = q at *
        go_wp2_with fail
        refine (HP.out _).mono ?_
        rintro e w' ⟨rfl, rfl⟩
        go_wp2
        clear HP
        go_loopw [6, 7] (fun u v wr => ∃ (b z : Nat), b ≤ 32 ∧ v = .int .i64 ((b : Int) - 1) ∧ u = .int .i64 z ∧ Hid (bitsM y p 2 b z = some r) ∧ Below w.heap.size w wr) (fun _ v _ => (intOf v + 1).toNat)
        case atStart => exact ⟨32, 0, by omega, rfl, rfl, HBt, Below.refl _ _⟩
        case round =>
          clear HBt
          obtain ⟨b, z, hb, rfl, rfl, HBt, hbel⟩ := hrel
          have HB : Hid (Below w.heap.size w wr) := hbel
          clear hbel
          cases b with
          | zero =>
            have hz : z = r := Option.some.inj HBt.out
            subst hz
            go_wp2
            go_ret
            exact ⟨rfl, HB.out⟩
          | succ b =>
            have h := HBt.out
            unfold bitsM at h
            split at h
            case isFalse => cases h
            rename_i hz1
            obtain ⟨ok, ho, h⟩ := Option.bind_eq_some_iff.1 h
            have eb : ((b + 1 : Nat) : Int) - 1 = (b : Int) := by omega
            have b1 : (b : Int) < 32 := by omega
            have b0 : (0 : Int) ≤ (b : Int) := by omega
            rw [eb]
            have ew : wrap64 ((z : Int) + wrap64 (2 ^ b)) = ((z + 2 ^ b : Nat) : Int) := by
              have e2 : (2 : Int) ^ b = ((2 ^ b : Nat) : Int) := by simp
              have hp2 : 2 ^ b < 4294967296 := by omega
              rw [e2]
              generalize 2 ^ b = q2 at *
              unfold wrap64
              omega
            have EW : Hid (wrap64 ((z : Int) + wrap64 (2 ^ b)) = ((z + 2 ^ b : Nat) : Int)) := ew
            have HO : Hid (belowM y (z + 2 ^ b) p 2 = some ok) := ho
            have HN : Hid (bitsM y p 2 b (if ok then z + 2 ^ b else z) = some r) := h
            have HZ : Hid (z + 2 ^ b < 4294967296) := hz1
            clear ew ho h hz1 HBt
            go_wp2_with fail
            rw [EW.out]
            generalize z + 2 ^ b = tt at *
            refine (below2 y tt p ok HO.out HZ.out hp _).mono ?_
            rintro e w2 ⟨rfl, hb2⟩
            have HB2 : Hid (Below w.heap.size w w2) := HB.out.trans (hb2.mono HB.out.size)
            clear hb2 HB HO EW
            cases ok
            · have HN2 : Hid (bitsM y p 2 b z = some r) := HN.out
              clear HN
              go_wp2
              go_roundw
              case rel =>
                first
                  | exact ⟨b, z, by omega, rfl, rfl, HN2, HB2.out⟩
                  | ((repeat apply Exists.intro); exact ⟨⟨b, z, by omega, rfl, rfl, HN2, HB2.out⟩, rfl⟩)
              case measure => simp [intOf]
            · have HN2 : Hid (bitsM y p 2 b tt = some r) := HN.out
              clear HN
              go_wp2
              go_roundw
              case rel =>
                first
                  | exact ⟨b, tt, by omega, rfl, rfl, HN2, HB2.out⟩
                  | ((repeat apply Exists.intro); exact ⟨⟨b, tt, by omega, rfl, rfl, HN2, HB2.out⟩, rfl⟩)
              case measure => simp [intOf]

set_option maxHeartbeats 2000000 in
theorem root3 (p r : Nat) (hr : rootM p 3 = some r) (hp : p < 1048576) (w : World) :
    Calls Tryz.prog 128 #[.int .i64 p, .int .i64 3] w fun e w' => e = .returned (.int .i64 r) ∧ Below w.heap.size w w' := by
  obtain ⟨x, hx, hb⟩ := Option.bind_eq_some_iff.1 hr
  have HX : Hid (wholeM p 3 400 1 = some x) := hx
  have HBt : Hid (bitsM x p 3 32 0 = some r) := hb
  have p1 : (p : Int) < 1048576 := by omega
  clear hr hx hb
  go_enter Tryz.func128, Tryz.ntmps128
  go_wp2
  go_loop [5] (fun v => ∃ (f y : Nat), y ≤ 1000 ∧ v = .int .i64 y ∧ Hid (wholeM p 3 f y = some x)) (fun v => 1000 - (intOf v).toNat)
  case atStart => exact ⟨400, 1, by omega, rfl, HX⟩
  case round =>
    clear HX
    obtain ⟨f, y, hy, rfl, HX⟩ := hrel
    have h := HX.out
    cases f with
    | zero => cases h
    | succ f =>
      unfold wholeM at h
      split at h
      case isFalse => cases h
      rename_i hy1
      have y1 : (y : Int) + 1 ≤ 1000 := by omega
      have HP : Hid (∀ wx, Calls Tryz.prog 207 #[.int .i64 ((y : Int) + 1), .int .i64 3] wx fun e w' => e = .returned (.int .i64 (powM (y + 1) 3 : Nat)) ∧ wx = w') := fun wx => (power3 (y + 1) wx hy1).mono fun _ _ ⟨h1, h2⟩ => ⟨h1, h2.symm⟩
      by_cases hle : powM (y + 1) 3 ≤ p
      · rw [if_pos hle] at h
        have HX2 : Hid (wholeM p 3 f (y + 1) = some x) := h
        clear h HX
        have g1 : ((powM (y + 1) 3 : Nat) : Int) ≤ (p : Int) := by omega
        generalize powM (y + 1) 3 = q at *
        go_wp2_with fail
        refine (HP.out _).mono ?_
        rintro e w' ⟨rfl, rfl⟩
        go_wp2
        go_round
        case rel => exact ⟨f, y + 1, by omega, by go_num, HX2⟩
        case measure => simp [intOf]; omega
      · rw [if_neg hle] at h
        have hxy : y = x := Option.some.inj h
        subst hxy
        clear h HX
        have g1 : ¬ ((powM (y + 1) 3 : Nat) : Int) ≤ (p : Int) := by omega
        generalize powM (y + 1) 3 = q at *
        go_wp2_with fail
        refine (HP.out _).mono ?_
        rintro e w' ⟨rfl, rfl⟩
        go_wp2
        clear HP
        go_loopw [6, 7] (fun u v wr => ∃ (b z : Nat), b ≤ 32 ∧ v = .int .i64 ((b : Int) - 1) ∧ u = .int .i64 z ∧ Hid (bitsM y p 3 b z = some r) ∧ Below w.heap.size w wr) (fun _ v _ => (intOf v + 1).toNat)
        case atStart => exact ⟨32, 0, by omega, rfl, rfl, HBt, Below.refl _ _⟩
        case round =>
          clear HBt
          obtain ⟨b, z, hb, rfl, rfl, HBt, hbel⟩ := hrel
          have HB : Hid (Below w.heap.size w wr) := hbel
          clear hbel
          cases b with
          | zero =>
            have hz : z = r := Option.some.inj HBt.out
            subst hz
            go_wp2
            go_ret
            exact ⟨rfl, HB.out⟩
          | succ b =>
            have h := HBt.out
            unfold bitsM at h
            split at h
            case isFalse => cases h
            rename_i hz1
            obtain ⟨ok, ho, h⟩ := Option.bind_eq_some_iff.1 h
            have eb : ((b + 1 : Nat) : Int) - 1 = (b : Int) := by omega
            have b1 : (b : Int) < 32 := by omega
            have b0 : (0 : Int) ≤ (b : Int) := by omega
            rw [eb]
            have ew : wrap64 ((z : Int) + wrap64 (2 ^ b)) = ((z + 2 ^ b : Nat) : Int) := by
              have e2 : (2 : Int) ^ b = ((2 ^ b : Nat) : Int) := by simp
              have hp2 : 2 ^ b < 4294967296 := by omega
              rw [e2]
              generalize 2 ^ b = q2 at *
              unfold wrap64
              omega
            have EW : Hid (wrap64 ((z : Int) + wrap64 (2 ^ b)) = ((z + 2 ^ b : Nat) : Int)) := ew
            have HO : Hid (belowM y (z + 2 ^ b) p 3 = some ok) := ho
            have HN : Hid (bitsM y p 3 b (if ok then z + 2 ^ b else z) = some r) := h
            have HZ : Hid (z + 2 ^ b < 4294967296) := hz1
            clear ew ho h hz1 HBt
            go_wp2_with fail
            rw [EW.out]
            generalize z + 2 ^ b = tt at *
            refine (below3 y tt p ok HO.out HZ.out hp _).mono ?_
            rintro e w2 ⟨rfl, hb2⟩
            have HB2 : Hid (Below w.heap.size w w2) := HB.out.trans (hb2.mono HB.out.size)
            clear hb2 HB HO EW
            cases ok
            · have HN2 : Hid (bitsM y p 3 b z = some r) := HN.out
              clear HN
              go_wp2
              go_roundw
              case rel =>
                first
                  | exact ⟨b, z, by omega, rfl, rfl, HN2, HB2.out⟩
                  | ((repeat apply Exists.intro); exact ⟨⟨b, z, by omega, rfl, rfl, HN2, HB2.out⟩, rfl⟩)
              case measure => simp [intOf]
            · have HN2 : Hid (bitsM y p 3 b tt = some r) := HN.out
              clear HN
              go_wp2
              go_roundw
              case rel =>
                first
                  | exact ⟨b, tt, by omega, rfl, rfl, HN2, HB2.out⟩
                  | ((repeat apply Exists.intro); exact ⟨⟨b, tt, by omega, rfl, rfl, HN2, HB2.out⟩, rfl⟩)
              case measure => simp [intOf]
end Go.Proofs.YthhbpebihgjpjaaGreatDoor
