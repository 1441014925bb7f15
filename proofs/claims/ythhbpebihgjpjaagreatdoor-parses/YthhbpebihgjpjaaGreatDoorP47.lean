import Derived.Test.YthhbpebihgjpjaaGreatDoorP46
namespace Go.Proofs.YthhbpebihgjpjaaGreatDoor
open Go.RowKit
set_option maxRecDepth 1000000

def powM (n k : Nat) : Nat := if k = 2 then n * n else n * n * n
def wholeM (p k : Nat) : Nat → Nat → Option Nat
 | 0, _ => none
 | f + 1, x => if x + 1 ≤ 1000 then (if powM (x + 1) k ≤ p then wholeM p k f (x + 1) else some x) else none
def bitsM (whole p k : Nat) : Nat → Nat → Option Nat
 | 0, v => some v
 | b + 1, v => if v + 2 ^ b < 4294967296 then (belowM whole (v + 2 ^ b) p k).bind fun ok => bitsM whole p k b (if ok then v + 2 ^ b else v) else none
def rootM (p k : Nat) : Option Nat := (wholeM p k 400 1).bind fun x => bitsM x p k 32 0

set_option maxHeartbeats 2000000 in
theorem root2 (p r : Nat) (hr : rootM p 2 = some r) (hp : p < 1048576) (w : World) :
  Calls Tryz.prog 128 #[.int .i64 p, .int .i64 2] w fun e w' => e = .returned (.int .i64 r) ∧ Below w.heap.size w w' := by
 obtain ⟨x, hx, hb⟩ := Option.bind_eq_some_iff.1 hr
 have HX : Hid (wholeM p 2 400 1 = some x) := hx
 have HBt : Hid (bitsM x p 2 32 0 = some r) := hb
 have p1 : (p : Int) < 1048576 := by omega
 clear hr hx hb
 go_enter Tryz.func128, Tryz.ntmps128
 go_wp2
 go_loop [5] (fun v => ∃ (f y : Nat), y ≤ 1000 ∧ v = .int .i64 y ∧ Hid (wholeM p 2 f y = some x)) (fun v => 1000 - (intOf v).toNat)
 case atStart => exact ⟨400, 1, by omega, rfl, HX⟩
 case round =>
  clear HX
  obtain ⟨f, y, hy, rfl, HX⟩ := hrel
  have h := HX.out
  cases f with
  | zero => cases h
  | succ f =>
   unfold wholeM at h
   split at h
   case isFalse => cases h
   rename_i hy1
   have y1 : (y : Int) + 1 ≤ 1000 := by omega
   have HP : Hid (∀ wx, Calls Tryz.prog 207 #[.int .i64 ((y : Int) + 1), .int .i64 2] wx fun e w' => e = .returned (.int .i64 (powM (y + 1) 2 : Nat)) ∧ wx = w') := fun wx => (power2 (y + 1) wx hy1).mono fun _ _ ⟨h1, h2⟩ => ⟨h1, h2.symm⟩
   by_cases hle : powM (y + 1) 2 ≤ p
   ·rw [if_pos hle] at h
    have HX2 : Hid (wholeM p 2 f (y + 1) = some x) := h
    clear h HX
    have g1 : ((powM (y + 1) 2 : Nat) : Int) ≤ (p : Int) := by omega
    generalize powM (y + 1) 2 = q at *
    go_wp2_with fail
    refine (HP.out _).mono ?_
    rintro e w' ⟨rfl, rfl⟩
    go_wp2
    go_round
    case rel => exact ⟨f, y + 1, by omega, by go_num, HX2⟩
    case measure => simp [intOf]; omega
   ·rw [if_neg hle] at h
    have hxy : y = x := Option.some.inj h
    subst hxy
    clear h HX
    have g1 : ¬ ((powM (y + 1) 2 : Nat) : Int) ≤ (p : Int) := by omega
    generalize powM (y + 1) 2 = q at *
    go_wp2_with fail
    refine (HP.out _).mono ?_
    rintro e w' ⟨rfl, rfl⟩
    go_wp2
    clear HP
    go_loopw [6, 7] (fun u v wr => ∃ (b z : Nat), b ≤ 32 ∧ v = .int .i64 ((b : Int) - 1) ∧ u = .int .i64 z ∧ Hid (bitsM y p 2 b z = some r) ∧ Below w.heap.size w wr) (fun _ v _ => (intOf v + 1).toNat)
    case atStart => exact ⟨32, 0, by omega, rfl, rfl, HBt, Below.refl _ _⟩
    case round =>
     clear HBt
     obtain ⟨b, z, hb, rfl, rfl, HBt, hbel⟩ := hrel
     have HB : Hid (Below w.heap.size w wr) := hbel
     clear hbel
     cases b with
     | zero =>
      have hz : z = r := Option.some.inj HBt.out
      subst hz
      go_wp2
      go_ret
      exact ⟨rfl, HB.out⟩
     | succ b =>
      have h := HBt.out
      unfold bitsM at h
      split at h
      case isFalse => cases h
      rename_i hz1
      obtain ⟨ok, ho, h⟩ := Option.bind_eq_some_iff.1 h
      have eb : ((b + 1 : Nat) : Int) - 1 = (b : Int) := by omega
      have b1 : (b : Int) < 32 := by omega
      have b0 : (0 : Int) ≤ (b : Int) := by omega
      rw [eb]
      have ew : wrap64 ((z : Int) + wrap64 (2 ^ b)) = ((z + 2 ^ b : Nat) : Int) := by
       have e2 : (2 : Int) ^ b = ((2 ^ b : Nat) : Int) := by simp
       have hp2 : 2 ^ b < 4294967296 := by omega
       rw [e2]
       generalize 2 ^ b = q2 at *
       unfold wrap64
       omega
      have EW : Hid (wrap64 ((z : Int) + wrap64 (2 ^ b)) = ((z + 2 ^ b : Nat) : Int)) := ew
      have HO : Hid (belowM y (z + 2 ^ b) p 2 = some ok) := ho
      have HN : Hid (bitsM y p 2 b (if ok then z + 2 ^ b else z) = some r) := h
      have HZ : Hid (z + 2 ^ b < 4294967296) := hz1
      clear ew ho h hz1 HBt
      go_wp2_with fail
      rw [EW.out]
      generalize z + 2 ^ b = tt at *
      refine (below2 y tt p ok HO.out HZ.out hp _).mono ?_
      rintro e w2 ⟨rfl, hb2⟩
      have HB2 : Hid (Below w.heap.size w w2) := HB.out.trans (hb2.mono HB.out.size)
      clear hb2 HB HO EW
      cases ok
      ·have HN2 : Hid (bitsM y p 2 b z = some r) := HN.out
       clear HN
       go_wp2
       go_roundw
       case rel =>
        first
         | exact ⟨b, z, by omega, rfl, rfl, HN2, HB2.out⟩
         | ((repeat apply Exists.intro); exact ⟨⟨b, z, by omega, rfl, rfl, HN2, HB2.out⟩, rfl⟩)
       case measure => simp [intOf]
      ·have HN2 : Hid (bitsM y p 2 b tt = some r) := HN.out
       clear HN
       go_wp2
       go_roundw
       case rel =>
        first
         | exact ⟨b, tt, by omega, rfl, rfl, HN2, HB2.out⟩
         | ((repeat apply Exists.intro); exact ⟨⟨b, tt, by omega, rfl, rfl, HN2, HB2.out⟩, rfl⟩)
       case measure => simp [intOf]

set_option maxHeartbeats 2000000 in
theorem root3 (p r : Nat) (hr : rootM p 3 = some r) (hp : p < 1048576) (w : World) :
  Calls Tryz.prog 128 #[.int .i64 p, .int .i64 3] w fun e w' => e = .returned (.int .i64 r) ∧ Below w.heap.size w w' := by
 obtain ⟨x, hx, hb⟩ := Option.bind_eq_some_iff.1 hr
 have HX : Hid (wholeM p 3 400 1 = some x) := hx
 have HBt : Hid (bitsM x p 3 32 0 = some r) := hb
 have p1 : (p : Int) < 1048576 := by omega
 clear hr hx hb
 go_enter Tryz.func128, Tryz.ntmps128
 go_wp2
 go_loop [5] (fun v => ∃ (f y : Nat), y ≤ 1000 ∧ v = .int .i64 y ∧ Hid (wholeM p 3 f y = some x)) (fun v => 1000 - (intOf v).toNat)
 case atStart => exact ⟨400, 1, by omega, rfl, HX⟩
 case round =>
  clear HX
  obtain ⟨f, y, hy, rfl, HX⟩ := hrel
  have h := HX.out
  cases f with
  | zero => cases h
  | succ f =>
   unfold wholeM at h
   split at h
   case isFalse => cases h
   rename_i hy1
   have y1 : (y : Int) + 1 ≤ 1000 := by omega
   have HP : Hid (∀ wx, Calls Tryz.prog 207 #[.int .i64 ((y : Int) + 1), .int .i64 3] wx fun e w' => e = .returned (.int .i64 (powM (y + 1) 3 : Nat)) ∧ wx = w') := fun wx => (power3 (y + 1) wx hy1).mono fun _ _ ⟨h1, h2⟩ => ⟨h1, h2.symm⟩
   by_cases hle : powM (y + 1) 3 ≤ p
   ·rw [if_pos hle] at h
    have HX2 : Hid (wholeM p 3 f (y + 1) = some x) := h
    clear h HX
    have g1 : ((powM (y + 1) 3 : Nat) : Int) ≤ (p : Int) := by omega
    generalize powM (y + 1) 3 = q at *
    go_wp2_with fail
    refine (HP.out _).mono ?_
    rintro e w' ⟨rfl, rfl⟩
    go_wp2
    go_round
    case rel => exact ⟨f, y + 1, by omega, by go_num, HX2⟩
    case measure => simp [intOf]; omega
   ·rw [if_neg hle] at h
    have hxy : y = x := Option.some.inj h
    subst hxy
    clear h HX
    have g1 : ¬ ((powM (y + 1) 3 : Nat) : Int) ≤ (p : Int) := by omega
    generalize powM (y + 1) 3 = q at *
    go_wp2_with fail
    refine (HP.out _).mono ?_
    rintro e w' ⟨rfl, rfl⟩
    go_wp2
    clear HP
    go_loopw [6, 7] (fun u v wr => ∃ (b z : Nat), b ≤ 32 ∧ v = .int .i64 ((b : Int) - 1) ∧ u = .int .i64 z ∧ Hid (bitsM y p 3 b z = some r) ∧ Below w.heap.size w wr) (fun _ v _ => (intOf v + 1).toNat)
    case atStart => exact ⟨32, 0, by omega, rfl, rfl, HBt, Below.refl _ _⟩
    case round =>
     clear HBt
     obtain ⟨b, z, hb, rfl, rfl, HBt, hbel⟩ := hrel
     have HB : Hid (Below w.heap.size w wr) := hbel
     clear hbel
     cases b with
     | zero =>
      have hz : z = r := Option.some.inj HBt.out
      subst hz
      go_wp2
      go_ret
      exact ⟨rfl, HB.out⟩
     | succ b =>
      have h := HBt.out
      unfold bitsM at h
      split at h
      case isFalse => cases h
      rename_i hz1
      obtain ⟨ok, ho, h⟩ := Option.bind_eq_some_iff.1 h
      have eb : ((b + 1 : Nat) : Int) - 1 = (b : Int) := by omega
      have b1 : (b : Int) < 32 := by omega
      have b0 : (0 : Int) ≤ (b : Int) := by omega
      rw [eb]
      have ew : wrap64 ((z : Int) + wrap64 (2 ^ b)) = ((z + 2 ^ b : Nat) : Int) := by
       have e2 : (2 : Int) ^ b = ((2 ^ b : Nat) : Int) := by simp
       have hp2 : 2 ^ b < 4294967296 := by omega
       rw [e2]
       generalize 2 ^ b = q2 at *
       unfold wrap64
       omega
      have EW : Hid (wrap64 ((z : Int) + wrap64 (2 ^ b)) = ((z + 2 ^ b : Nat) : Int)) := ew
      have HO : Hid (belowM y (z + 2 ^ b) p 3 = some ok) := ho
      have HN : Hid (bitsM y p 3 b (if ok then z + 2 ^ b else z) = some r) := h
      have HZ : Hid (z + 2 ^ b < 4294967296) := hz1
      clear ew ho h hz1 HBt
      go_wp2_with fail
      rw [EW.out]
      generalize z + 2 ^ b = tt at *
      refine (below3 y tt p ok HO.out HZ.out hp _).mono ?_
      rintro e w2 ⟨rfl, hb2⟩
      have HB2 : Hid (Below w.heap.size w w2) := HB.out.trans (hb2.mono HB.out.size)
      clear hb2 HB HO EW
      cases ok
      ·have HN2 : Hid (bitsM y p 3 b z = some r) := HN.out
       clear HN
       go_wp2
       go_roundw
       case rel =>
        first
         | exact ⟨b, z, by omega, rfl, rfl, HN2, HB2.out⟩
         | ((repeat apply Exists.intro); exact ⟨⟨b, z, by omega, rfl, rfl, HN2, HB2.out⟩, rfl⟩)
       case measure => simp [intOf]
      ·have HN2 : Hid (bitsM y p 3 b tt = some r) := HN.out
       clear HN
       go_wp2
       go_roundw
       case rel =>
        first
         | exact ⟨b, tt, by omega, rfl, rfl, HN2, HB2.out⟩
         | ((repeat apply Exists.intro); exact ⟨⟨b, tt, by omega, rfl, rfl, HN2, HB2.out⟩, rfl⟩)
       case measure => simp [intOf]
end Go.Proofs.YthhbpebihgjpjaaGreatDoor

namespace Go.Proofs.YthhbpebihgjpjaaGreatDoor
set_option maxRecDepth 1000000

def primes64 : List Nat := [2, 3, 5, 7, 11, 13, 17, 19, 23, 29, 31, 37, 41, 43, 47, 53, 59, 61, 67, 71, 73, 79, 83, 89, 97, 101, 103, 107, 109, 113, 127, 131, 137, 139, 149, 151, 157, 163, 167, 173, 179, 181, 191, 193, 197, 199, 211, 223, 227, 229, 233, 239, 241, 251, 257, 263, 269, 271, 277, 281, 283, 293, 307, 311]
def keys : List Nat := [1116352408, 1899447441, 3049323471, 3921009573, 961987163, 1508970993, 2453635748, 2870763221, 3624381080, 310598401, 607225278, 1426881987, 1925078388, 2162078206, 2614888103, 3248222580, 3835390401, 4022224774, 264347078, 604807628, 770255983, 1249150122, 1555081692, 1996064986, 2554220882, 2821834349, 2952996808, 3210313671, 3336571891, 3584528711, 113926993, 338241895, 666307205, 773529912, 1294757372, 1396182291, 1695183700, 1986661051, 2177026350, 2456956037, 2730485921, 2820302411, 3259730800, 3345764771, 3516065817, 3600352804, 4094571909, 275423344, 430227734, 506948616, 659060556, 883997877, 958139571, 1322822218, 1537002063, 1747873779, 1955562222, 2024104815, 2227730452, 2361852424, 2428436474, 2756734187, 3204031479, 3329325298]
def heads : List Nat := [1779033703, 3144134277, 1013904242, 2773480762, 1359893119, 2600822924, 528734635, 1541459225]
theorem roots3_0 : ((primes64.drop 0).take 8).map (fun p => rootM p 3) = ((keys.drop 0).take 8).map some := by decide +kernel
theorem roots3_1 : ((primes64.drop 8).take 8).map (fun p => rootM p 3) = ((keys.drop 8).take 8).map some := by decide +kernel
theorem roots3_2 : ((primes64.drop 16).take 8).map (fun p => rootM p 3) = ((keys.drop 16).take 8).map some := by decide +kernel
theorem roots3_3 : ((primes64.drop 24).take 8).map (fun p => rootM p 3) = ((keys.drop 24).take 8).map some := by decide +kernel
theorem roots3_4 : ((primes64.drop 32).take 8).map (fun p => rootM p 3) = ((keys.drop 32).take 8).map some := by decide +kernel
theorem roots3_5 : ((primes64.drop 40).take 8).map (fun p => rootM p 3) = ((keys.drop 40).take 8).map some := by decide +kernel
theorem roots3_6 : ((primes64.drop 48).take 8).map (fun p => rootM p 3) = ((keys.drop 48).take 8).map some := by decide +kernel
theorem roots3_7 : ((primes64.drop 56).take 8).map (fun p => rootM p 3) = ((keys.drop 56).take 8).map some := by decide +kernel
theorem roots3 (i : Nat) (hi : i < 64) : rootM (primes64.getD i 0) 3 = some (keys.getD i 0) := by
 have at8 : ∀ (l k : List Nat) (o j : Nat), ((l.drop o).take 8).map (fun p => rootM p 3) = ((k.drop o).take 8).map some → j < 8 → o + j < l.length → o + j < k.length → rootM (l.getD (o + j) 0) 3 = some (k.getD (o + j) 0) := by
  intro l k o j h hj hl hk
  have := congrArg (fun x => x[j]?) h
  simp only [List.getElem?_map, List.getElem?_take, if_pos hj, List.getElem?_drop, List.getElem?_eq_getElem hl, List.getElem?_eq_getElem hk, Option.map_some, Option.some.injEq] at this
  simpa [List.getD_eq_getElem?_getD, List.getElem?_eq_getElem hl, List.getElem?_eq_getElem hk] using this
 have hlp : primes64.length = 64 := rfl
 have hlk : keys.length = 64 := rfl
 have h8 : i = 8 * (i / 8) + i % 8 := by omega
 have hm : i % 8 < 8 := by omega
 rw [h8]
 match i / 8, (by omega : i / 8 < 8) with
 | 0, _ => exact at8 _ _ 0 _ roots3_0 hm (by omega) (by omega)
 | 1, _ => exact at8 _ _ 8 _ roots3_1 hm (by omega) (by omega)
 | 2, _ => exact at8 _ _ 16 _ roots3_2 hm (by omega) (by omega)
 | 3, _ => exact at8 _ _ 24 _ roots3_3 hm (by omega) (by omega)
 | 4, _ => exact at8 _ _ 32 _ roots3_4 hm (by omega) (by omega)
 | 5, _ => exact at8 _ _ 40 _ roots3_5 hm (by omega) (by omega)
 | 6, _ => exact at8 _ _ 48 _ roots3_6 hm (by omega) (by omega)
 | 7, _ => exact at8 _ _ 56 _ roots3_7 hm (by omega) (by omega)
 | n + 8, h => exact absurd h (by omega)
theorem roots2 : ((primes64.take 8).map fun p => rootM p 2) = heads.map some := by decide +kernel
end Go.Proofs.YthhbpebihgjpjaaGreatDoor
