import Derived.Test.YthhbpebihgjpjaaGreatDoorR01
import Derived.Test.YthhbpebihgjpjaaGreatDoorChecked
import Derived.WalkKit
import Derived.Outline
import Derived.WalkLawsBesides
namespace Go.Proofs.YthhbpebihgjpjaaGreatDoor
open Go.RowKit
set_option maxRecDepth 100000

theorem i64_or_nat (a b : Nat) (ha : a < 9223372036854775808) (hb : b < 9223372036854775808) : bits .or .i64 (a : Int) (b : Int) = ((a ||| b : Nat) : Int) := by
  have hx : a ||| b < 2 ^ 63 := Nat.or_lt_two_pow (by omega) (by omega)
  have h1 : (BitVec.ofInt 64 (a : Int)).toNat = a := by rw [BitVec.ofInt_natCast, BitVec.toNat_ofNat]; exact Nat.mod_eq_of_lt (by omega)
  have h2 : (BitVec.ofInt 64 (b : Int)).toNat = b := by rw [BitVec.ofInt_natCast, BitVec.toNat_ofNat]; exact Nat.mod_eq_of_lt (by omega)
  show IntKind.i64.wrap ((BitVec.ofInt 64 (a : Int) ||| BitVec.ofInt 64 (b : Int)).toNat : Int) = _
  rw [BitVec.toNat_or, h1, h2, IntKind.wrap_i64]
  omega
theorem i64_xor_nat (a b : Nat) (ha : a < 9223372036854775808) (hb : b < 9223372036854775808) : bits .xor .i64 (a : Int) (b : Int) = ((a ^^^ b : Nat) : Int) := by
  have hx : a ^^^ b < 2 ^ 63 := Nat.xor_lt_two_pow (by omega) (by omega)
  have h1 : (BitVec.ofInt 64 (a : Int)).toNat = a := by rw [BitVec.ofInt_natCast, BitVec.toNat_ofNat]; exact Nat.mod_eq_of_lt (by omega)
  have h2 : (BitVec.ofInt 64 (b : Int)).toNat = b := by rw [BitVec.ofInt_natCast, BitVec.toNat_ofNat]; exact Nat.mod_eq_of_lt (by omega)
  show IntKind.i64.wrap ((BitVec.ofInt 64 (a : Int) ^^^ BitVec.ofInt 64 (b : Int)).toNat : Int) = _
  rw [BitVec.toNat_xor, h1, h2, IntKind.wrap_i64]
  omega
theorem i64_and_nat (a b : Nat) (ha : a < 9223372036854775808) (hb : b < 9223372036854775808) : bits .and .i64 (a : Int) (b : Int) = ((a &&& b : Nat) : Int) := by
  have hx : a &&& b < 2 ^ 63 := Nat.lt_of_le_of_lt Nat.and_le_left (by omega)
  have h1 : (BitVec.ofInt 64 (a : Int)).toNat = a := by rw [BitVec.ofInt_natCast, BitVec.toNat_ofNat]; exact Nat.mod_eq_of_lt (by omega)
  have h2 : (BitVec.ofInt 64 (b : Int)).toNat = b := by rw [BitVec.ofInt_natCast, BitVec.toNat_ofNat]; exact Nat.mod_eq_of_lt (by omega)
  show IntKind.i64.wrap ((BitVec.ofInt 64 (a : Int) &&& BitVec.ofInt 64 (b : Int)).toNat : Int) = _
  rw [BitVec.toNat_and, h1, h2, IntKind.wrap_i64]
  omega
theorem rturn_i64 (x n p q : Nat) (hx : x < 4294967296) (hn : 2 ≤ n) (hn' : n ≤ 32) (hp : p = 2 ^ n) (hq : q = 2 ^ (32 - n)) :
    (bits .or .i64 ((x : Int) / (p : Int)) ((x : Int) * (q : Int))).tmod 4294967296 = ((Sha.rotr x n : Nat) : Int) := by
  have hq2 : q ≤ 1073741824 := by rw [hq]; exact Nat.le_trans (Nat.pow_le_pow_right (by decide) (by omega : 32 - n ≤ 30)) (by decide)
  have e1 : ((x : Int) / (p : Int)) = ((x / p : Nat) : Int) := by simp
  have e2 : ((x : Int) * (q : Int)) = ((x * q : Nat) : Int) := by simp
  have l1 : x / p < 4294967296 := Nat.lt_of_le_of_lt (Nat.div_le_self _ _) hx
  have l2 : x * q < 9223372036854775808 := Nat.lt_of_le_of_lt (Nat.mul_le_mul (Nat.le_of_lt hx) hq2) (by decide)
  rw [e1, e2, i64_or_nat _ _ (by omega) l2, Int.tmod_eq_emod_of_nonneg (Int.natCast_nonneg _)]
  have e3 : (x / p ||| x * q) % 4294967296 = Sha.rotr x n := by
    unfold Sha.rotr
    rw [show (4294967296 : Nat) = 2 ^ 32 from rfl, Nat.or_mod_two_pow, Nat.mod_eq_of_lt (show x / p < 2 ^ 32 from l1), hp, hq, Nat.or_comm]
  rw [← e3]
  exact (Int.natCast_emod _ _).symm
theorem rturn2 (x : Nat) (w : World) (hx : x < 4294967296) :
    Calls Tryz.prog 209 #[.int .i64 x, .int .i64 2] w fun e w' => e = .returned (.int .i64 (Sha.rotr x 2 : Nat)) ∧ w' = w := by
  have ht := rturn_i64 x 2 4 1073741824 hx (by decide) (by decide) rfl rfl
  go_enter Tryz.func209, Tryz.ntmps209
  go_wp2
  go_ret
  refine ⟨?_, rfl⟩
  rw [← ht]
  rfl
theorem rturn6 (x : Nat) (w : World) (hx : x < 4294967296) :
    Calls Tryz.prog 209 #[.int .i64 x, .int .i64 6] w fun e w' => e = .returned (.int .i64 (Sha.rotr x 6 : Nat)) ∧ w' = w := by
  have ht := rturn_i64 x 6 64 67108864 hx (by decide) (by decide) rfl rfl
  go_enter Tryz.func209, Tryz.ntmps209
  go_wp2
  go_ret
  refine ⟨?_, rfl⟩
  rw [← ht]
  rfl
theorem rturn7 (x : Nat) (w : World) (hx : x < 4294967296) :
    Calls Tryz.prog 209 #[.int .i64 x, .int .i64 7] w fun e w' => e = .returned (.int .i64 (Sha.rotr x 7 : Nat)) ∧ w' = w := by
  have ht := rturn_i64 x 7 128 33554432 hx (by decide) (by decide) rfl rfl
  go_enter Tryz.func209, Tryz.ntmps209
  go_wp2
  go_ret
  refine ⟨?_, rfl⟩
  rw [← ht]
  rfl
theorem rturn11 (x : Nat) (w : World) (hx : x < 4294967296) :
    Calls Tryz.prog 209 #[.int .i64 x, .int .i64 11] w fun e w' => e = .returned (.int .i64 (Sha.rotr x 11 : Nat)) ∧ w' = w := by
  have ht := rturn_i64 x 11 2048 2097152 hx (by decide) (by decide) rfl rfl
  go_enter Tryz.func209, Tryz.ntmps209
  go_wp2
  go_ret
  refine ⟨?_, rfl⟩
  rw [← ht]
  rfl
theorem rturn13 (x : Nat) (w : World) (hx : x < 4294967296) :
    Calls Tryz.prog 209 #[.int .i64 x, .int .i64 13] w fun e w' => e = .returned (.int .i64 (Sha.rotr x 13 : Nat)) ∧ w' = w := by
  have ht := rturn_i64 x 13 8192 524288 hx (by decide) (by decide) rfl rfl
  go_enter Tryz.func209, Tryz.ntmps209
  go_wp2
  go_ret
  refine ⟨?_, rfl⟩
  rw [← ht]
  rfl
theorem rturn17 (x : Nat) (w : World) (hx : x < 4294967296) :
    Calls Tryz.prog 209 #[.int .i64 x, .int .i64 17] w fun e w' => e = .returned (.int .i64 (Sha.rotr x 17 : Nat)) ∧ w' = w := by
  have ht := rturn_i64 x 17 131072 32768 hx (by decide) (by decide) rfl rfl
  go_enter Tryz.func209, Tryz.ntmps209
  go_wp2
  go_ret
  refine ⟨?_, rfl⟩
  rw [← ht]
  rfl
theorem rturn18 (x : Nat) (w : World) (hx : x < 4294967296) :
    Calls Tryz.prog 209 #[.int .i64 x, .int .i64 18] w fun e w' => e = .returned (.int .i64 (Sha.rotr x 18 : Nat)) ∧ w' = w := by
  have ht := rturn_i64 x 18 262144 16384 hx (by decide) (by decide) rfl rfl
  go_enter Tryz.func209, Tryz.ntmps209
  go_wp2
  go_ret
  refine ⟨?_, rfl⟩
  rw [← ht]
  rfl
theorem rturn19 (x : Nat) (w : World) (hx : x < 4294967296) :
    Calls Tryz.prog 209 #[.int .i64 x, .int .i64 19] w fun e w' => e = .returned (.int .i64 (Sha.rotr x 19 : Nat)) ∧ w' = w := by
  have ht := rturn_i64 x 19 524288 8192 hx (by decide) (by decide) rfl rfl
  go_enter Tryz.func209, Tryz.ntmps209
  go_wp2
  go_ret
  refine ⟨?_, rfl⟩
  rw [← ht]
  rfl
theorem rturn22 (x : Nat) (w : World) (hx : x < 4294967296) :
    Calls Tryz.prog 209 #[.int .i64 x, .int .i64 22] w fun e w' => e = .returned (.int .i64 (Sha.rotr x 22 : Nat)) ∧ w' = w := by
  have ht := rturn_i64 x 22 4194304 1024 hx (by decide) (by decide) rfl rfl
  go_enter Tryz.func209, Tryz.ntmps209
  go_wp2
  go_ret
  refine ⟨?_, rfl⟩
  rw [← ht]
  rfl
theorem rturn25 (x : Nat) (w : World) (hx : x < 4294967296) :
    Calls Tryz.prog 209 #[.int .i64 x, .int .i64 25] w fun e w' => e = .returned (.int .i64 (Sha.rotr x 25 : Nat)) ∧ w' = w := by
  have ht := rturn_i64 x 25 33554432 128 hx (by decide) (by decide) rfl rfl
  go_enter Tryz.func209, Tryz.ntmps209
  go_wp2
  go_ret
  refine ⟨?_, rfl⟩
  rw [← ht]
  rfl

/-! The small functions, as the document's answer works them out. -/
theorem s0_i64 (x : Nat) (hx : x < 4294967296) : bits .xor .i64 (bits .xor .i64 ((Sha.rotr x 7 : Nat) : Int) ((Sha.rotr x 18 : Nat) : Int)) ((x : Int) / 8) = ((Sha.s0 x : Nat) : Int) := by
  have e : ((x : Int) / 8) = ((x / 8 : Nat) : Int) := by omega
  have a := Sha.rotr_lt x 7 hx
  have b := Sha.rotr_lt x 18 hx
  have c := Sha.xor_lt a b
  rw [e, i64_xor_nat _ _ (by omega) (by omega), i64_xor_nat _ _ (by omega) (by omega)]; rfl
theorem s1_i64 (x : Nat) (hx : x < 4294967296) : bits .xor .i64 (bits .xor .i64 ((Sha.rotr x 17 : Nat) : Int) ((Sha.rotr x 19 : Nat) : Int)) ((x : Int) / 1024) = ((Sha.s1 x : Nat) : Int) := by
  have e : ((x : Int) / 1024) = ((x / 1024 : Nat) : Int) := by omega
  have a := Sha.rotr_lt x 17 hx
  have b := Sha.rotr_lt x 19 hx
  have c := Sha.xor_lt a b
  rw [e, i64_xor_nat _ _ (by omega) (by omega), i64_xor_nat _ _ (by omega) (by omega)]; rfl
theorem S1_i64 (x : Nat) (hx : x < 4294967296) : bits .xor .i64 (bits .xor .i64 ((Sha.rotr x 6 : Nat) : Int) ((Sha.rotr x 11 : Nat) : Int)) ((Sha.rotr x 25 : Nat) : Int) = ((Sha.S1 x : Nat) : Int) := by
  have a := Sha.rotr_lt x 6 hx
  have b := Sha.rotr_lt x 11 hx
  have d := Sha.rotr_lt x 25 hx
  have c := Sha.xor_lt a b
  rw [i64_xor_nat _ _ (by omega) (by omega), i64_xor_nat _ _ (by omega) (by omega)]; rfl
theorem S0_i64 (x : Nat) (hx : x < 4294967296) : bits .xor .i64 (bits .xor .i64 ((Sha.rotr x 2 : Nat) : Int) ((Sha.rotr x 13 : Nat) : Int)) ((Sha.rotr x 22 : Nat) : Int) = ((Sha.S0 x : Nat) : Int) := by
  have a := Sha.rotr_lt x 2 hx
  have b := Sha.rotr_lt x 13 hx
  have d := Sha.rotr_lt x 22 hx
  have c := Sha.xor_lt a b
  rw [i64_xor_nat _ _ (by omega) (by omega), i64_xor_nat _ _ (by omega) (by omega)]; rfl
theorem ch_i64 (e f g : Nat) (he : e < 4294967296) (hf : f < 4294967296) (hg : g < 4294967296) : bits .xor .i64 (bits .and .i64 (e : Int) (f : Int)) (bits .and .i64 (4294967295 - (e : Int)) (g : Int)) = ((Sha.ch e f g : Nat) : Int) := by
  have e1 : (4294967295 - (e : Int)) = ((4294967295 - e : Nat) : Int) := by omega
  have a : e &&& f < 4294967296 := Sha.and_lt he
  have b : (4294967295 - e) &&& g < 4294967296 := Sha.and_lt (by omega)
  rw [e1, i64_and_nat _ _ (by omega) (by omega), i64_and_nat _ _ (by omega) (by omega), i64_xor_nat _ _ (by omega) (by omega)]; rfl
theorem maj_i64 (a b c : Nat) (ha : a < 4294967296) (hb : b < 4294967296) (hc : c < 4294967296) : bits .xor .i64 (bits .xor .i64 (bits .and .i64 (a : Int) (b : Int)) (bits .and .i64 (a : Int) (c : Int))) (bits .and .i64 (b : Int) (c : Int)) = ((Sha.maj a b c : Nat) : Int) := by
  have x : a &&& b < 4294967296 := Sha.and_lt ha
  have y : a &&& c < 4294967296 := Sha.and_lt ha
  have z : b &&& c < 4294967296 := Sha.and_lt hb
  have u := Sha.xor_lt x y
  rw [i64_and_nat _ _ (by omega) (by omega), i64_and_nat _ _ (by omega) (by omega), i64_and_nat _ _ (by omega) (by omega), i64_xor_nat _ _ (by omega) (by omega), i64_xor_nat _ _ (by omega) (by omega)]; rfl
theorem add4_i64 (a b c d : Nat) (ha : a < 256) (hb : b < 256) (hc : c < 256) (hd : d < 256) :
    wrap64 (wrap64 (wrap64 (wrap64 (wrap64 (a : Int) * 16777216) + wrap64 (wrap64 (b : Int) * 65536)) + wrap64 (wrap64 (c : Int) * 256)) + wrap64 (d : Int)) = ((a * 16777216 + b * 65536 + c * 256 + d : Nat) : Int) := by
  have f : ∀ x : Int, 0 ≤ x → x < 9223372036854775808 → wrap64 x = x := fun x h0 h1 => by unfold wrap64; omega
  rw [f a (by omega) (by omega), f b (by omega) (by omega), f c (by omega) (by omega), f d (by omega) (by omega), f (a * 16777216) (by omega) (by omega), f (b * 65536) (by omega) (by omega), f (c * 256) (by omega) (by omega), f (a * 16777216 + b * 65536) (by omega) (by omega), f (a * 16777216 + b * 65536 + c * 256) (by omega) (by omega), f (a * 16777216 + b * 65536 + c * 256 + d) (by omega) (by omega)]
  omega
theorem high_i64 (a b c d : Nat) (ha : a < 4294967296) (hb : b < 4294967296) (hc : c < 4294967296) (hd : d < 4294967296) :
    (wrap64 (wrap64 ((a : Int) + (c : Int) + (b : Int)) + (d : Int))).tmod 4294967296 = (((a + b + c + d) % 4294967296 : Nat) : Int) := by
  have f : ∀ x : Int, 0 ≤ x → x < 9223372036854775808 → wrap64 x = x := fun x h0 h1 => by unfold wrap64; omega
  rw [f (a + c + b) (by omega) (by omega), f (a + c + b + d) (by omega) (by omega), Int.tmod_eq_emod_of_nonneg (by omega)]
  omega
end Go.Proofs.YthhbpebihgjpjaaGreatDoor
