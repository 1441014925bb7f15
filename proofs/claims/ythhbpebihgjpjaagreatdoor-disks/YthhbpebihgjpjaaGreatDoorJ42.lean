import Derived.Test.YthhbpebihgjpjaaGreatDoorJ41
import Derived.Test.YthhbpebihgjpjaaGreatDoorJ40
namespace Go.Proofs.YthhbpebihgjpjaaGreatDoor
open Go.RowKit
set_option maxRecDepth 1000000

def powM (n k : Nat) : Nat := if k = 2 then n * n else n * n * n
def wholeM (p k : Nat) : Nat → Nat → Option Nat
  | 0, _ => none
  | f + 1, x => if x + 1 ≤ 1000 then (if powM (x + 1) k ≤ p then wholeM p k f (x + 1) else some x) else none
def bitsM (whole p k : Nat) : Nat → Nat → Option Nat
  | 0, v => some v
  | b + 1, v => if v + 2 ^ b < 4294967296 then (belowM whole (v + 2 ^ b) p k).bind fun ok => bitsM whole p k b (if ok then v + 2 ^ b else v) else none
def rootM (p k : Nat) : Option Nat := (wholeM p k 400 1).bind fun x => bitsM x p k 32 0

set_option maxHeartbeats 2000000 in
theorem root2 (p r : Nat) (hr : rootM p 2 = some r) (hp : p < 1048576) (w : World) :
    Calls Tryz.prog 128 #[.int .i64 p, .int .i64 2] w fun e w' => e = .returned (.int .i64 r) ∧ Below w.heap.size w w' := by
  obtain ⟨x, hx, hb⟩ := Option.bind_eq_some_iff.1 hr
  have HX : Hid (wholeM p 2 400 1 = some x) := hx
  have HBt : Hid (bitsM x p 2 32 0 = some r) := hb
  have p1 : (p : Int) < 1048576 := by omega
  clear hr hx hb
  go_enter Tryz.func128, Tryz.ntmps128
  go_wp2
  go_loop [5] (fun v => ∃ (f y : Nat), y ≤ 1000 ∧ v = .int .i64 y ∧ Hid (wholeM p 2 f y = some x)) (fun v => 1000 - (intOf v).toNat)
  case atStart => exact ⟨400, 1, by omega, rfl, HX⟩
  case round =>
    clear HX
    obtain ⟨f, y, hy, rfl, HX⟩ := hrel
    have h := HX.out
    cases f with
    | zero => cases h
    | succ f =>
      unfold wholeM at h
      split at h
      case isFalse => cases h
      rename_i hy1
      have y1 : (y : Int) + 1 ≤ 1000 := by omega
      have HP : Hid (∀ wx, Calls Tryz.prog 207 #[.int .i64 ((y : Int) + 1), .int .i64 2] wx fun e w' => e = .returned (.int .i64 (powM (y + 1) 2 : Nat)) ∧ wx = w') := fun wx => (power2 (y + 1) wx hy1).mono fun _ _ ⟨h1, h2⟩ => ⟨h1, h2.symm⟩
      by_cases hle : powM (y + 1) 2 ≤ p
      · rw [if_pos hle] at h
        have HX2 : Hid (wholeM p 2 f (y + 1) = some x) := h
        clear h HX
        have g1 : ((powM (y + 1) 2 : Nat) : Int) ≤ (p : Int) := by omega
        generalize powM (y + 1) 2 = q at *
        go_wp2_with fail
        refine (HP.out _).mono ?_
        rintro e w' ⟨rfl, rfl⟩
        go_wp2
        go_round
        case rel => exact ⟨f, y + 1, by omega, by go_num, HX2⟩
        case measure => simp [intOf]; omega
      · rw [if_neg hle] at h
        have hxy : y = x := Option.some.inj h
        subst hxy
        clear h HX
        have g1 : ¬ ((powM (y + 1) 2 : Nat) : Int) ≤ (p : Int) := by omega
        generalize powM (y + 1) 2 = q at *
        go_wp2_with fail
        refine (HP.out _).mono ?_
        rintro e w' ⟨rfl, rfl⟩
        go_wp2
        clear HP
        go_loopw [6, 7] (fun u v wr => ∃ (b z : Nat), b ≤ 32 ∧ v = .int .i64 ((b : Int) - 1) ∧ u = .int .i64 z ∧ Hid (bitsM y p 2 b z = some r) ∧ Below w.heap.size w wr) (fun _ v _ => (intOf v + 1).toNat)
        case atStart => exact ⟨32, 0, by omega, rfl, rfl, HBt, Below.refl _ _⟩
        case round =>
          clear HBt
          obtain ⟨b, z, hb, rfl, rfl, HBt, hbel⟩ := hrel
          have HB : Hid (Below w.heap.size w wr) := hbel
          clear hbel
          cases b with
          | zero =>
            have hz : z = r := Option.some.inj HBt.out
            subst hz
            go_wp2
            go_ret
            exact ⟨rfl, HB.out⟩
          | succ b =>
            have h := HBt.out
            unfold bitsM at h
            split at h
            case isFalse => cases h
            rename_i hz1
            obtain ⟨ok, ho, h⟩ := Option.bind_eq_some_iff.1 h
            have eb : ((b + 1 : Nat) : Int) - 1 = (b : Int) := by omega
            have b1 : (b : Int) < 32 := by omega
            have b0 : (0 : Int) ≤ (b : Int) := by omega
            rw [eb]
            have ew : wrap64 ((z : Int) + wrap64 (2 ^ b)) = ((z + 2 ^ b : Nat) : Int) := by
              have e2 : (2 : Int) ^ b = ((2 ^ b : Nat) : Int) := by simp
              have hp2 : 2 ^ b < 4294967296 := by omega
              rw [e2]
              generalize 2 ^ b = q2 at *
              unfold wrap64
              omega
            have EW : Hid (wrap64 ((z : Int) + wrap64 (2 ^ b)) = ((z + 2 ^ b : Nat) : Int)) := ew
            have HO : Hid (belowM y (z + 2 ^ b) p 2 = some ok) := ho
            have HN : Hid (bitsM y p 2 b (if ok then z + 2 ^ b else z) = some r) := h
            have HZ : Hid (z + 2 ^ b < 4294967296) := hz1
            clear ew ho h hz1 HBt
            go_wp2_with fail
            rw [EW.out]
            generalize z + 2 ^ b = tt at *
            refine (below2 y tt p ok HO.out HZ.out hp _).mono ?_
            rintro e w2 ⟨rfl, hb2⟩
            have HB2 : Hid (Below w.heap.size w w2) := HB.out.trans (hb2.mono HB.out.size)
            clear hb2 HB HO EW
            cases ok
            · have HN2 : Hid (bitsM y p 2 b z = some r) := HN.out
              clear HN
              go_wp2
              go_roundw
              case rel =>
                first
                  | exact ⟨b, z, by omega, rfl, rfl, HN2, HB2.out⟩
                  | ((repeat apply Exists.intro); exact ⟨⟨b, z, by omega, rfl, rfl, HN2, HB2.out⟩, rfl⟩)
              case measure => simp [intOf]
            · have HN2 : Hid (bitsM y p 2 b tt = some r) := HN.out
              clear HN
              go_wp2
              go_roundw
              case rel =>
                first
                  | exact ⟨b, tt, by omega, rfl, rfl, HN2, HB2.out⟩
                  | ((repeat apply Exists.intro); exact ⟨⟨b, tt, by omega, rfl, rfl, HN2, HB2.out⟩, rfl⟩)
              case measure => simp [intOf]

set_option maxHeartbeats 2000000 in
theorem root3 (p r : Nat) (hr : rootM p 3 = some r) (hp : p < 1048576) (w : World) :
    Calls Tryz.prog 128 #[.int .i64 p, .int .i64 3] w fun e w' => e = .returned (.int .i64 r) ∧ Below w.heap.size w w' := by
  obtain ⟨x, hx, hb⟩ := Option.bind_eq_some_iff.1 hr
  have HX : Hid (wholeM p 3 400 1 = some x) := hx
  have HBt : Hid (bitsM x p 3 32 0 = some r) := hb
  have p1 : (p : Int) < 1048576 := by omega
  clear hr hx hb
  go_enter Tryz.func128, Tryz.ntmps128
  go_wp2
  go_loop [5] (fun v => ∃ (f y : Nat), y ≤ 1000 ∧ v = .int .i64 y ∧ Hid (wholeM p 3 f y = some x)) (fun v => 1000 - (intOf v).toNat)
  case atStart => exact ⟨400, 1, by omega, rfl, HX⟩
  case round =>
    clear HX
    obtain ⟨f, y, hy, rfl, HX⟩ := hrel
    have h := HX.out
    cases f with
    | zero => cases h
    | succ f =>
      unfold wholeM at h
      split at h
      case isFalse => cases h
      rename_i hy1
      have y1 : (y : Int) + 1 ≤ 1000 := by omega
      have HP : Hid (∀ wx, Calls Tryz.prog 207 #[.int .i64 ((y : Int) + 1), .int .i64 3] wx fun e w' => e = .returned (.int .i64 (powM (y + 1) 3 : Nat)) ∧ wx = w') := fun wx => (power3 (y + 1) wx hy1).mono fun _ _ ⟨h1, h2⟩ => ⟨h1, h2.symm⟩
      by_cases hle : powM (y + 1) 3 ≤ p
      · rw [if_pos hle] at h
        have HX2 : Hid (wholeM p 3 f (y + 1) = some x) := h
        clear h HX
        have g1 : ((powM (y + 1) 3 : Nat) : Int) ≤ (p : Int) := by omega
        generalize powM (y + 1) 3 = q at *
        go_wp2_with fail
        refine (HP.out _).mono ?_
        rintro e w' ⟨rfl, rfl⟩
        go_wp2
        go_round
        case rel => exact ⟨f, y + 1, by omega, by go_num, HX2⟩
        case measure => simp [intOf]; omega
      · rw [if_neg hle] at h
        have hxy : y = x := Option.some.inj h
        subst hxy
        clear h HX
        have g1 : ¬ ((powM (y + 1) 3 : Nat) : Int) ≤ (p : Int) := by omega
        generalize powM (y + 1) 3 = q at *
        go_wp2_with fail
        refine (HP.out _).mono ?_
        rintro e w' ⟨rfl, rfl⟩
        go_wp2
        clear HP
        go_loopw [6, 7] (fun u v wr => ∃ (b z : Nat), b ≤ 32 ∧ v = .int .i64 ((b : Int) - 1) ∧ u = .int .i64 z ∧ Hid (bitsM y p 3 b z = some r) ∧ Below w.heap.size w wr) (fun _ v _ => (intOf v + 1).toNat)
        case atStart => exact ⟨32, 0, by omega, rfl, rfl, HBt, Below.refl _ _⟩
        case round =>
          clear HBt
          obtain ⟨b, z, hb, rfl, rfl, HBt, hbel⟩ := hrel
          have HB : Hid (Below w.heap.size w wr) := hbel
          clear hbel
          cases b with
          | zero =>
            have hz : z = r := Option.some.inj HBt.out
            subst hz
            go_wp2
            go_ret
            exact ⟨rfl, HB.out⟩
          | succ b =>
            have h := HBt.out
            unfold bitsM at h
            split at h
            case isFalse => cases h
            rename_i hz1
            obtain ⟨ok, ho, h⟩ := Option.bind_eq_some_iff.1 h
            have eb : ((b + 1 : Nat) : Int) - 1 = (b : Int) := by omega
            have b1 : (b : Int) < 32 := by omega
            have b0 : (0 : Int) ≤ (b : Int) := by omega
            rw [eb]
            have ew : wrap64 ((z : Int) + wrap64 (2 ^ b)) = ((z + 2 ^ b : Nat) : Int) := by
              have e2 : (2 : Int) ^ b = ((2 ^ b : Nat) : Int) := by simp
              have hp2 : 2 ^ b < 4294967296 := by omega
              rw [e2]
              generalize 2 ^ b = q2 at *
              unfold wrap64
              omega
            have EW : Hid (wrap64 ((z : Int) + wrap64 (2 ^ b)) = ((z + 2 ^ b : Nat) : Int)) := ew
            have HO : Hid (belowM y (z + 2 ^ b) p 3 = some ok) := ho
            have HN : Hid (bitsM y p 3 b (if ok then z + 2 ^ b else z) = some r) := h
            have HZ : Hid (z + 2 ^ b < 4294967296) := hz1
            clear ew ho h hz1 HBt
            go_wp2_with fail
            rw [EW.out]
            generalize z + 2 ^ b = tt at *
            refine (below3 y tt p ok HO.out HZ.out hp _).mono ?_
            rintro e w2 ⟨rfl, hb2⟩
            have HB2 : Hid (Below w.heap.size w w2) := HB.out.trans (hb2.mono HB.out.size)
            clear hb2 HB HO EW
            cases ok
            · have HN2 : Hid (bitsM y p 3 b z = some r) := HN.out
              clear HN
              go_wp2
              go_roundw
              case rel =>
                first
                  | exact ⟨b, z, by omega, rfl, rfl, HN2, HB2.out⟩
                  | ((repeat apply Exists.intro); exact ⟨⟨b, z, by omega, rfl, rfl, HN2, HB2.out⟩, rfl⟩)
              case measure => simp [intOf]
            · have HN2 : Hid (bitsM y p 3 b tt = some r) := HN.out
              clear HN
              go_wp2
              go_roundw
              case rel =>
                first
                  | exact ⟨b, tt, by omega, rfl, rfl, HN2, HB2.out⟩
                  | ((repeat apply Exists.intro); exact ⟨⟨b, tt, by omega, rfl, rfl, HN2, HB2.out⟩, rfl⟩)
              case measure => simp [intOf]
end Go.Proofs.YthhbpebihgjpjaaGreatDoor

namespace Go.Proofs.YthhbpebihgjpjaaGreatDoor
set_option maxRecDepth 1000000

def primes64 : List Nat := [2, 3, 5, 7, 11, 13, 17, 19, 23, 29, 31, 37, 41, 43, 47, 53, 59, 61, 67, 71, 73, 79, 83, 89, 97, 101, 103, 107, 109, 113, 127, 131, 137, 139, 149, 151, 157, 163, 167, 173, 179, 181, 191, 193, 197, 199, 211, 223, 227, 229, 233, 239, 241, 251, 257, 263, 269, 271, 277, 281, 283, 293, 307, 311]
/-- SHA-256's words of the rounds. -/
def keys : List Nat := [1116352408, 1899447441, 3049323471, 3921009573, 961987163, 1508970993, 2453635748, 2870763221, 3624381080, 310598401, 607225278, 1426881987, 1925078388, 2162078206, 2614888103, 3248222580, 3835390401, 4022224774, 264347078, 604807628, 770255983, 1249150122, 1555081692, 1996064986, 2554220882, 2821834349, 2952996808, 3210313671, 3336571891, 3584528711, 113926993, 338241895, 666307205, 773529912, 1294757372, 1396182291, 1695183700, 1986661051, 2177026350, 2456956037, 2730485921, 2820302411, 3259730800, 3345764771, 3516065817, 3600352804, 4094571909, 275423344, 430227734, 506948616, 659060556, 883997877, 958139571, 1322822218, 1537002063, 1747873779, 1955562222, 2024104815, 2227730452, 2361852424, 2428436474, 2756734187, 3204031479, 3329325298]
/-- .. and those that it starts with. -/
def heads : List Nat := [1779033703, 3144134277, 1013904242, 2773480762, 1359893119, 2600822924, 528734635, 1541459225]
theorem roots3_0 : ((primes64.drop 0).take 8).map (fun p => rootM p 3) = ((keys.drop 0).take 8).map some := by decide +kernel
theorem roots3_1 : ((primes64.drop 8).take 8).map (fun p => rootM p 3) = ((keys.drop 8).take 8).map some := by decide +kernel
theorem roots3_2 : ((primes64.drop 16).take 8).map (fun p => rootM p 3) = ((keys.drop 16).take 8).map some := by decide +kernel
theorem roots3_3 : ((primes64.drop 24).take 8).map (fun p => rootM p 3) = ((keys.drop 24).take 8).map some := by decide +kernel
theorem roots3_4 : ((primes64.drop 32).take 8).map (fun p => rootM p 3) = ((keys.drop 32).take 8).map some := by decide +kernel
theorem roots3_5 : ((primes64.drop 40).take 8).map (fun p => rootM p 3) = ((keys.drop 40).take 8).map some := by decide +kernel
theorem roots3_6 : ((primes64.drop 48).take 8).map (fun p => rootM p 3) = ((keys.drop 48).take 8).map some := by decide +kernel
theorem roots3_7 : ((primes64.drop 56).take 8).map (fun p => rootM p 3) = ((keys.drop 56).take 8).map some := by decide +kernel
theorem roots3 (i : Nat) (hi : i < 64) : rootM (primes64.getD i 0) 3 = some (keys.getD i 0) := by
  have at8 : ∀ (l k : List Nat) (o j : Nat), ((l.drop o).take 8).map (fun p => rootM p 3) = ((k.drop o).take 8).map some → j < 8 → o + j < l.length → o + j < k.length → rootM (l.getD (o + j) 0) 3 = some (k.getD (o + j) 0) := by
    intro l k o j h hj hl hk
    have := congrArg (fun x => x[j]?) h
    simp only [List.getElem?_map, List.getElem?_take, if_pos hj, List.getElem?_drop, List.getElem?_eq_getElem hl, List.getElem?_eq_getElem hk, Option.map_some, Option.some.injEq] at this
    simpa [List.getD_eq_getElem?_getD, List.getElem?_eq_getElem hl, List.getElem?_eq_getElem hk] using this
  have hlp : primes64.length = 64 := rfl
  have hlk : keys.length = 64 := rfl
  have h8 : i = 8 * (i / 8) + i % 8 := by omega
  have hm : i % 8 < 8 := by omega
  rw [h8]
  match i / 8, (by omega : i / 8 < 8) with
  | 0, _ => exact at8 _ _ 0 _ roots3_0 hm (by omega) (by omega)
  | 1, _ => exact at8 _ _ 8 _ roots3_1 hm (by omega) (by omega)
  | 2, _ => exact at8 _ _ 16 _ roots3_2 hm (by omega) (by omega)
  | 3, _ => exact at8 _ _ 24 _ roots3_3 hm (by omega) (by omega)
  | 4, _ => exact at8 _ _ 32 _ roots3_4 hm (by omega) (by omega)
  | 5, _ => exact at8 _ _ 40 _ roots3_5 hm (by omega) (by omega)
  | 6, _ => exact at8 _ _ 48 _ roots3_6 hm (by omega) (by omega)
  | 7, _ => exact at8 _ _ 56 _ roots3_7 hm (by omega) (by omega)
  | n + 8, h => exact absurd h (by omega)
theorem roots2 : ((primes64.take 8).map fun p => rootM p 2) = heads.map some := by decide +kernel
end Go.Proofs.YthhbpebihgjpjaaGreatDoor

namespace Go.Proofs.YthhbpebihgjpjaaGreatDoor
open Go.RowKit
set_option maxRecDepth 1000000

theorem primes_64 : primesM 64 1000 2 [] = some primes64 := by decide +kernel
theorem primes64_lt (i : Nat) : primes64.getD i 0 < 1048576 := by
  by_cases h : i < 64
  · have : ∀ x ∈ primes64, x < 1048576 := by decide
    rw [List.getD_eq_getElem?_getD, List.getElem?_eq_getElem (by exact h)]
    exact this _ (List.getElem_mem _)
  · rw [List.getD_eq_getElem?_getD, List.getElem?_eq_none (by show 64 ≤ i; omega)]; decide
theorem take_next (l : List Nat) (i : Nat) (h : i < l.length) : l.take (i + 1) = l.take i ++ [l.getD i 0] := by
  rw [List.take_succ_eq_append_getElem h, List.getD_eq_getElem?_getD, List.getElem?_eq_getElem h]; rfl

theorem roots2_at (i : Nat) (hi : i < 8) : rootM (primes64.getD i 0) 2 = some (heads.getD i 0) := by
  have := congrArg (fun x => x[i]?) roots2
  have hl : i < primes64.length := by show i < 64; omega
  have hk : i < heads.length := hi
  simp only [List.getElem?_map, List.getElem?_take, if_pos hi, List.getElem?_eq_getElem hl, List.getElem?_eq_getElem hk, Option.map_some, Option.some.injEq] at this
  simpa [List.getD_eq_getElem?_getD, List.getElem?_eq_getElem hl, List.getElem?_eq_getElem hk] using this
theorem Own.mono {base base' : Nat} {v : Value} {l : List Nat} {w : World} (h : Own base v l w) (hb : base' ≤ base) : Own base' v l w := by
  obtain ⟨h1, ⟨rfl, h0⟩ | ⟨g, cap, cur, rfl, hg, r⟩⟩ := h.own
  · exact ⟨⟨h1, Or.inl ⟨rfl, h0⟩⟩⟩
  · exact ⟨⟨h1, Or.inr ⟨g, cap, cur, rfl, Nat.le_trans hb hg, r⟩⟩⟩

set_option maxHeartbeats 2000000 in
theorem constants_any (w : World) :
    Calls Tryz.prog 79 #[] w fun e w' => ∃ vk vh, e = .returned (.tuple #[vk, vh]) ∧ Own w.heap.size vk keys w' ∧ Own w.heap.size vh heads w' ∧ Below w.heap.size w w' := by
  go_enter Tryz.func79, Tryz.ntmps79
  go_wp2_with fail
  refine (primes_any 64 primes64 primes_64 (by omega) _).mono ?_
  rintro e w1 ⟨v, rfl, ho1, hb1⟩
  obtain ⟨g, cap, hv, hg, hcell⟩ := ho1.row (by decide)
  rw [show primes64.length = 64 from rfl] at hv
  subst hv
  have HC : Hid (∀ i, i < 64 → w1.cell? ⟨g, i, none⟩ = some (.int .i64 ((primes64.getD i 0 : Nat) : Int))) := hcell
  have HB1 : Hid (Below w.heap.size w w1) := hb1
  have hgl : g < w1.heap.size := block_lt_of_cell (hcell 0 (by decide))
  clear ho1 hb1 hcell
  have hinf : (Tryz.prog.info? 3).map (fun i => (i.size, i.bytes, i.zero)) = some (1, 8, some (.int .i64 0)) := by kernel_rfl
  obtain ⟨ti, hti, htj⟩ := Option.map_eq_some_iff.1 hinf
  simp only [Prod.mk.injEq] at htj
  have HTI : Hid (Tryz.prog.info? 3 = some ti ∧ ti.size = 1 ∧ ti.bytes = 8 ∧ ti.zero = some (.int .i64 0)) := ⟨hti, htj.1, htj.2.1, htj.2.2⟩
  clear hinf hti htj
  go_wp2
  go_loopw [3, 5] (fun v q wr => ∃ i : Nat, i ≤ 64 ∧ q = .int .i64 i ∧ Own w1.heap.size v (keys.take i) wr ∧ Below w1.heap.size w1 wr) (fun _ q _ => 64 - (intOf q).toNat)
  case atStart => exact ⟨0, by omega, rfl, ⟨⟨rfl, Or.inl ⟨rfl, rfl⟩⟩⟩, Below.refl _ _⟩
  case round =>
    obtain ⟨i, hi, rfl, hown, hbel⟩ := hrel
    obtain ⟨ao, cap2, hform⟩ := hown.form
    subst hform
    have HO : Hid (Own w1.heap.size (.slice ao (keys.take i).length cap2) (keys.take i) wr) := hown
    have HB : Hid (Below w1.heap.size w1 wr) := hbel
    have hlen : (keys.take i).length = i := by rw [List.length_take]; show min i 64 = i; omega
    clear hown hbel
    by_cases hlt : i < 64
    · have cx : wr.cell? ⟨g, i, none⟩ = some (.int .i64 ((primes64.getD i 0 : Nat) : Int)) := by
        rw [HB.out.cell (p := ⟨g, i, none⟩) (by show g < _; omega)]; exact HC.out i (by omega)
      obtain ⟨r, hr⟩ : ∃ r, r = keys.getD i 0 := ⟨_, rfl⟩
      have HR : Hid (rootM (primes64.getD i 0) 3 = some r) := by rw [hr]; exact roots3 i hlt
      have HX : Hid (primes64.getD i 0 < 1048576) := primes64_lt i
      have HT : Hid (keys.take (i + 1) = keys.take i ++ [r]) := by rw [hr]; exact take_next _ _ (by show i < 64; omega)
      clear hr
      generalize primes64.getD i 0 = x at *
      generalize keys.take i = l at *
      generalize hl2 : keys.take (i + 1) = l2 at *
      have HL2 : Hid (keys.take (i + 1) = l2) := hl2
      clear hl2
      have HL : Hid (l.length = i) := hlen
      clear hlen
      have i1 : (i : Int) < 64 := by omega
      have i2 : (i : Int) < 64 := by omega
      go_wp2_with fail
      refine (root3 x r HR.out HX.out _).mono ?_
      rintro e w2 ⟨rfl, hb2⟩
      have HO2 : Hid (Own w1.heap.size (.slice ao l.length cap2) l w2) := HO.out.later (fun k hk => hb2.block k hk)
      have HB2 : Hid (Below w1.heap.size w1 w2) := HB.out.trans (hb2.mono HB.out.size)
      clear hb2 HO HB cx
      go_wp2_with (refine wpList_append_own _ rfl (.tmp 19) (.tmp 21) 48 rfl w1.heap.size 3 ti (.int .i64 0) 1 8 Tryz.underlying48 HTI.out.1 HTI.out.2.2.2 HTI.out.2.1 HTI.out.2.2.1 rfl (by decide) _ l.length (vals l) rfl (by exact (HO2.out.later (fun k hk => heapA_old w2 _ k hk)).own) ⟨w2.heap.size, 0, none⟩ 1 1 [.int .i64 (r : Int)] rfl rfl (by exact cell_one_new w2 _ _) (by intro u hu; simp at hu; subst hu; rfl) (by have := HL.out; unfold maxLen; omega) (by have := HL.out; omega) (by have := HB2.out.size; simp; omega) ?_; intro v' w3 hv3 hg3 hn3; refine Hid.out ?_)
      have HO3 : Hid (Own w1.heap.size v' l2 w3) := by
        rw [HT.out]
        exact ⟨by rw [List.length_append, vals_append]; exact hv3⟩
      have HB3 : Hid (Below w1.heap.size w1 w3) := (HB2.out.alloc HB2.out.size _).grown hg3 (by have := HB2.out.size; simp; omega) (fun k hk => HO2.out.block k hk)
      clear hv3 hg3 hn3 HO2 HB2
      unfold Hid
      go_wp2
      go_roundw
      case rel =>
        first
          | exact ⟨i + 1, by omega, by go_num, by rw [HL2.out]; exact HO3.out, HB3.out⟩
          | ((repeat apply Exists.intro); exact ⟨⟨i + 1, by omega, by go_num, by rw [HL2.out]; exact HO3.out, HB3.out⟩, rfl⟩)
      case measure => simp [intOf]; omega
    · obtain rfl : i = 64 := by omega
      have HOk : Hid (Own w1.heap.size (.slice ao 64 cap2) keys wr) := HO.out
      have HBk : Hid (Below w1.heap.size w1 wr) := HB.out
      have hsl : (keys.take 64).length = 64 := rfl
      have HCk : Hid (∀ i, i < 64 → wr.cell? ⟨g, i, none⟩ = some (.int .i64 ((primes64.getD i 0 : Nat) : Int))) := fun i hi => by
        rw [HBk.out.cell (p := ⟨g, i, none⟩) (by show g < _; exact hgl)]; exact HC.out i hi
      have hgk : g < wr.heap.size := Nat.lt_of_lt_of_le hgl HBk.out.size
      rw [hsl]
      clear HO HB hlen hsl HC
      obtain ⟨wk, rfl⟩ : ∃ wk : World, wk = wr := ⟨_, rfl⟩
      go_wp2
      go_loopw [4, 7] (fun v q wr => ∃ i : Nat, i ≤ 8 ∧ q = .int .i64 i ∧ Own wk.heap.size v (heads.take i) wr ∧ Below wk.heap.size wk wr) (fun _ q _ => 8 - (intOf q).toNat)
      case atStart => exact ⟨0, by omega, rfl, ⟨⟨rfl, Or.inl ⟨rfl, rfl⟩⟩⟩, Below.refl _ _⟩
      case round =>
        obtain ⟨i, hi, rfl, hown, hbel⟩ := hrel
        obtain ⟨ao, cap2, hform⟩ := hown.form
        subst hform
        have HO : Hid (Own wk.heap.size (.slice ao (heads.take i).length cap2) (heads.take i) wr) := hown
        have HB : Hid (Below wk.heap.size wk wr) := hbel
        have hlen : (heads.take i).length = i := by rw [List.length_take]; show min i 8 = i; omega
        clear hown hbel
        by_cases hlt : i < 8
        · have cx : wr.cell? ⟨g, i, none⟩ = some (.int .i64 ((primes64.getD i 0 : Nat) : Int)) := by
            rw [HB.out.cell (p := ⟨g, i, none⟩) (by show g < _; exact hgk)]; exact HCk.out i (by omega)
          obtain ⟨r, hr⟩ : ∃ r, r = heads.getD i 0 := ⟨_, rfl⟩
          have HR : Hid (rootM (primes64.getD i 0) 2 = some r) := by rw [hr]; exact roots2_at i hlt
          have HX : Hid (primes64.getD i 0 < 1048576) := primes64_lt i
          have HT : Hid (heads.take (i + 1) = heads.take i ++ [r]) := by rw [hr]; exact take_next _ _ (by show i < 8; omega)
          clear hr
          generalize primes64.getD i 0 = x at *
          generalize heads.take i = l at *
          generalize hl2 : heads.take (i + 1) = l2 at *
          have HL2 : Hid (heads.take (i + 1) = l2) := hl2
          clear hl2
          have HL : Hid (l.length = i) := hlen
          clear hlen
          have i1 : (i : Int) < 8 := by omega
          have i2 : (i : Int) < 64 := by omega
          go_wp2_with fail
          refine (root2 x r HR.out HX.out _).mono ?_
          rintro e w2 ⟨rfl, hb2⟩
          have HO2 : Hid (Own wk.heap.size (.slice ao l.length cap2) l w2) := HO.out.later (fun k hk => hb2.block k hk)
          have HB2 : Hid (Below wk.heap.size wk w2) := HB.out.trans (hb2.mono HB.out.size)
          clear hb2 HO HB cx
          go_wp2_with (refine wpList_append_own _ rfl (.tmp 32) (.tmp 34) 48 rfl wk.heap.size 3 ti (.int .i64 0) 1 8 Tryz.underlying48 HTI.out.1 HTI.out.2.2.2 HTI.out.2.1 HTI.out.2.2.1 rfl (by decide) _ l.length (vals l) rfl (by exact (HO2.out.later (fun k hk => heapA_old w2 _ k hk)).own) ⟨w2.heap.size, 0, none⟩ 1 1 [.int .i64 (r : Int)] rfl rfl (by exact cell_one_new w2 _ _) (by intro u hu; simp at hu; subst hu; rfl) (by have := HL.out; unfold maxLen; omega) (by have := HL.out; omega) (by have := HB2.out.size; simp; omega) ?_; intro v' w3 hv3 hg3 hn3; refine Hid.out ?_)
          have HO3 : Hid (Own wk.heap.size v' l2 w3) := by
            rw [HT.out]
            exact ⟨by rw [List.length_append, vals_append]; exact hv3⟩
          have HB3 : Hid (Below wk.heap.size wk w3) := (HB2.out.alloc HB2.out.size _).grown hg3 (by have := HB2.out.size; simp; omega) (fun k hk => HO2.out.block k hk)
          clear hv3 hg3 hn3 HO2 HB2
          unfold Hid
          go_wp2
          go_roundw
          case rel =>
            first
              | exact ⟨i + 1, by omega, by go_num, by rw [HL2.out]; exact HO3.out, HB3.out⟩
              | ((repeat apply Exists.intro); exact ⟨⟨i + 1, by omega, by go_num, by rw [HL2.out]; exact HO3.out, HB3.out⟩, rfl⟩)
          case measure => simp [intOf]; omega
        · obtain rfl : i = 8 := by omega
          have HOh : Hid (Own wk.heap.size (.slice ao (heads.take 8).length cap2) heads wr) := HO.out
          have HBh : Hid (Below wk.heap.size wk wr) := HB.out
          clear HO HB hlen
          go_wp2
          go_ret2
          refine ⟨_, _, rfl, ?_, ?_, ?_⟩
          · exact (HOk.out.later (fun k hk => HBh.out.block k hk)).mono HB1.out.size
          · exact HOh.out.mono (Nat.le_trans HB1.out.size HBk.out.size)
          · exact HB1.out.trans ((HBk.out.trans (HBh.out.mono HBk.out.size)).mono HB1.out.size)
end Go.Proofs.YthhbpebihgjpjaaGreatDoor
