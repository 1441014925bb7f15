import Derived.Laws.BitsAllLaws
namespace Go.Proofs.YthhbpebihgjpjaaGreatDoor.Sha

/-- SHA-256's small functions, on numbers below 2^32. -/
def rotr (x n : Nat) : Nat := x * 2 ^ (32 - n) % 4294967296 ||| x / 2 ^ n
def s0 (x : Nat) : Nat := rotr x 7 ^^^ rotr x 18 ^^^ x / 8
def s1 (x : Nat) : Nat := rotr x 17 ^^^ rotr x 19 ^^^ x / 1024
def S0 (x : Nat) : Nat := rotr x 2 ^^^ rotr x 13 ^^^ rotr x 22
def S1 (x : Nat) : Nat := rotr x 6 ^^^ rotr x 11 ^^^ rotr x 25
def ch (e f g : Nat) : Nat := (e &&& f) ^^^ ((4294967295 - e) &&& g)
def maj (a b c : Nat) : Nat := (a &&& b) ^^^ (a &&& c) ^^^ (b &&& c)

theorem rotr_lt (x n : Nat) (hx : x < 4294967296) : rotr x n < 4294967296 := by
  have h1 : x * 2 ^ (32 - n) % 4294967296 < 2 ^ 32 := Nat.mod_lt _ (by decide)
  have h2 : x / 2 ^ n < 2 ^ 32 := Nat.lt_of_le_of_lt (Nat.div_le_self _ _) hx
  exact Nat.or_lt_two_pow h1 h2
theorem xor_lt {a b : Nat} (ha : a < 4294967296) (hb : b < 4294967296) : a ^^^ b < 4294967296 := Nat.xor_lt_two_pow (n := 32) ha hb
theorem and_lt {a b : Nat} (ha : a < 4294967296) : a &&& b < 4294967296 := Nat.lt_of_le_of_lt Nat.and_le_left ha
theorem s0_lt (x : Nat) (hx : x < 4294967296) : s0 x < 4294967296 := xor_lt (xor_lt (rotr_lt _ _ hx) (rotr_lt _ _ hx)) (by omega)
theorem s1_lt (x : Nat) (hx : x < 4294967296) : s1 x < 4294967296 := xor_lt (xor_lt (rotr_lt _ _ hx) (rotr_lt _ _ hx)) (by omega)
theorem S0_lt (x : Nat) (hx : x < 4294967296) : S0 x < 4294967296 := xor_lt (xor_lt (rotr_lt _ _ hx) (rotr_lt _ _ hx)) (rotr_lt _ _ hx)
theorem S1_lt (x : Nat) (hx : x < 4294967296) : S1 x < 4294967296 := xor_lt (xor_lt (rotr_lt _ _ hx) (rotr_lt _ _ hx)) (rotr_lt _ _ hx)
theorem ch_lt (e f g : Nat) (he : e < 4294967296) : ch e f g < 4294967296 := xor_lt (and_lt he) (and_lt (by omega))
theorem maj_lt (a b c : Nat) (ha : a < 4294967296) (hb : b < 4294967296) : maj a b c < 4294967296 := xor_lt (xor_lt (and_lt ha) (and_lt ha)) (and_lt hb)

/-- The turn, as math/bits works it out. -/
theorem turn_u32 (x n : Nat) (hx : x < 4294967296) : bits .or .u32 (IntKind.u32.wrap ((x : Int) * 2 ^ (32 - n))) ((x : Int) / 2 ^ n) = ((rotr x n : Nat) : Int) := by
  have e1 : IntKind.u32.wrap ((x : Int) * 2 ^ (32 - n)) = ((x * 2 ^ (32 - n) % 4294967296 : Nat) : Int) := by
    rw [IntKind.wrap_u32']; simp
  have e2 : ((x : Int) / 2 ^ n) = ((x / 2 ^ n : Nat) : Int) := by simp
  rw [e1, e2, u32_or_nat _ _ (Nat.mod_lt _ (by decide)) (Nat.lt_of_le_of_lt (Nat.div_le_self _ _) hx)]
  rfl

/-- Four bytes, joined. -/
theorem or4 (a b c d : Nat) (ha : a < 256) (hb : b < 256) (hc : c < 256) (hd : d < 256) :
    bits .or .u32 (bits .or .u32 (bits .or .u32 ((a : Int) % 4294967296 * 16777216 % 4294967296) ((b : Int) % 4294967296 * 65536 % 4294967296)) ((c : Int) % 4294967296 * 256 % 4294967296)) ((d : Int) % 4294967296)
      = ((a * 16777216 + b * 65536 + c * 256 + d : Nat) : Int) := by
  have e1 : (a : Int) % 4294967296 * 16777216 % 4294967296 = ((a * 16777216 : Nat) : Int) := by omega
  have e2 : (b : Int) % 4294967296 * 65536 % 4294967296 = ((b * 65536 : Nat) : Int) := by omega
  have e3 : (c : Int) % 4294967296 * 256 % 4294967296 = ((c * 256 : Nat) : Int) := by omega
  have e4 : (d : Int) % 4294967296 = (d : Int) := by omega
  rw [e1, e2, e3, e4, u32_or_nat _ _ (by omega) (by omega), nat_join 24 _ _ (by omega) (by omega), u32_or_nat _ _ (by omega) (by omega), nat_join 16 _ _ (by omega) (by omega), u32_or_nat _ _ (by omega) (by omega), nat_join 8 _ _ (by omega) (by omega)]

theorem s0_u32 (x : Nat) (hx : x < 4294967296) : bits .xor .u32 (bits .xor .u32 ((rotr x 7 : Nat) : Int) ((rotr x 18 : Nat) : Int)) ((x : Int) / 8) = ((s0 x : Nat) : Int) := by
  have e : ((x : Int) / 8) = ((x / 8 : Nat) : Int) := by omega
  rw [e, u32_xor_nat _ _ (rotr_lt _ _ hx) (rotr_lt _ _ hx), u32_xor_nat _ _ (xor_lt (rotr_lt _ _ hx) (rotr_lt _ _ hx)) (by omega)]; rfl
theorem s1_u32 (x : Nat) (hx : x < 4294967296) : bits .xor .u32 (bits .xor .u32 ((rotr x 17 : Nat) : Int) ((rotr x 19 : Nat) : Int)) ((x : Int) / 1024) = ((s1 x : Nat) : Int) := by
  have e : ((x : Int) / 1024) = ((x / 1024 : Nat) : Int) := by omega
  rw [e, u32_xor_nat _ _ (rotr_lt _ _ hx) (rotr_lt _ _ hx), u32_xor_nat _ _ (xor_lt (rotr_lt _ _ hx) (rotr_lt _ _ hx)) (by omega)]; rfl
theorem high_u32 (a b c d : Nat) : ((((a : Int) + (b : Int)) % 4294967296 + (c : Int)) % 4294967296 + (d : Int)) % 4294967296 = (((a + b + c + d) % 4294967296 : Nat) : Int) := by omega

/-- The state: eight words. -/
structure St where
  a : Nat
  b : Nat
  c : Nat
  d : Nat
  e : Nat
  f : Nat
  g : Nat
  h : Nat
structure St.Ok (s : St) : Prop where
  a : s.a < 4294967296
  b : s.b < 4294967296
  c : s.c < 4294967296
  d : s.d < 4294967296
  e : s.e < 4294967296
  f : s.f < 4294967296
  g : s.g < 4294967296
  h : s.h < 4294967296
def round (k w : Nat) (s : St) : St :=
  { a := (s.h + S1 s.e + ch s.e s.f s.g + k + w + (S0 s.a + maj s.a s.b s.c)) % 4294967296, b := s.a, c := s.b, d := s.c,
    e := (s.d + (s.h + S1 s.e + ch s.e s.f s.g + k + w)) % 4294967296, f := s.e, g := s.f, h := s.g }
theorem round_ok (k w : Nat) (s : St) (h : s.Ok) : (round k w s).Ok :=
  ⟨Nat.mod_lt _ (by decide), h.a, h.b, h.c, Nat.mod_lt _ (by decide), h.e, h.f, h.g⟩
theorem S1_u32 (x : Nat) (hx : x < 4294967296) : bits .xor .u32 (bits .xor .u32 ((rotr x 6 : Nat) : Int) ((rotr x 11 : Nat) : Int)) ((rotr x 25 : Nat) : Int) = ((S1 x : Nat) : Int) := by
  rw [u32_xor_nat _ _ (rotr_lt _ _ hx) (rotr_lt _ _ hx), u32_xor_nat _ _ (xor_lt (rotr_lt _ _ hx) (rotr_lt _ _ hx)) (rotr_lt _ _ hx)]; rfl
theorem S0_u32 (x : Nat) (hx : x < 4294967296) : bits .xor .u32 (bits .xor .u32 ((rotr x 2 : Nat) : Int) ((rotr x 13 : Nat) : Int)) ((rotr x 22 : Nat) : Int) = ((S0 x : Nat) : Int) := by
  rw [u32_xor_nat _ _ (rotr_lt _ _ hx) (rotr_lt _ _ hx), u32_xor_nat _ _ (xor_lt (rotr_lt _ _ hx) (rotr_lt _ _ hx)) (rotr_lt _ _ hx)]; rfl
theorem not_nat (e : Nat) (he : e < 4294967296) : 4294967295 ^^^ e = 4294967295 - e := by
  apply Nat.eq_of_testBit_eq
  intro i
  have h1 : (4294967295 : Nat) = 2 ^ 32 - 1 := rfl
  have h2 : 4294967295 - e = 2 ^ 32 - (e + 1) := by omega
  rw [Nat.testBit_xor, h2, Nat.testBit_two_pow_sub_succ he, h1, Nat.testBit_two_pow_sub_one]
  by_cases hi : i < 32
  · simp [hi]
  · have : e.testBit i = false := Nat.testBit_lt_two_pow (Nat.lt_of_lt_of_le he (by show 2 ^ 32 ≤ 2 ^ i; exact Nat.pow_le_pow_right (by decide) (by omega)))
    simp [hi, this]
theorem max_u32 : IntKind.u32.max = ((4294967295 : Nat) : Int) := by decide
theorem ch_u32 (e f g : Nat) (he : e < 4294967296) (hf : f < 4294967296) (hg : g < 4294967296) : bits .xor .u32 (bits .and .u32 (e : Int) (f : Int)) (bits .and .u32 (bits .xor .u32 IntKind.u32.max (e : Int)) (g : Int)) = ((ch e f g : Nat) : Int) := by
  rw [max_u32, u32_xor_nat _ _ (by decide) he, not_nat e he, u32_and_nat _ _ he hf, u32_and_nat _ _ (by omega) hg, u32_xor_nat _ _ (and_lt he) (and_lt (by omega))]; rfl
theorem maj_u32 (a b c : Nat) (ha : a < 4294967296) (hb : b < 4294967296) (hc : c < 4294967296) : bits .xor .u32 (bits .xor .u32 (bits .and .u32 (a : Int) (b : Int)) (bits .and .u32 (a : Int) (c : Int))) (bits .and .u32 (b : Int) (c : Int)) = ((maj a b c : Nat) : Int) := by
  rw [u32_and_nat _ _ ha hb, u32_and_nat _ _ ha hc, u32_and_nat _ _ hb hc, u32_xor_nat _ _ (and_lt ha) (and_lt ha), u32_xor_nat _ _ (xor_lt (and_lt ha) (and_lt ha)) (and_lt hb)]; rfl
theorem round_a (k w : Nat) (s : St) : (((s.h : Int) + (S1 s.e : Nat) + (ch s.e s.f s.g : Nat) + (k : Int) + (w : Int) + (S0 s.a : Nat)) % 4294967296 + (maj s.a s.b s.c : Nat)) % 4294967296 = (((round k w s).a : Nat) : Int) := by
  show _ = (((s.h + S1 s.e + ch s.e s.f s.g + k + w + (S0 s.a + maj s.a s.b s.c)) % 4294967296 : Nat) : Int)
  omega
theorem round_e (k w : Nat) (s : St) : ((s.d : Int) + ((s.h : Int) + (S1 s.e : Nat) + (ch s.e s.f s.g : Nat) + (k : Int) + (w : Int)) % 4294967296) % 4294967296 = (((round k w s).e : Nat) : Int) := by
  show _ = (((s.d + (s.h + S1 s.e + ch s.e s.f s.g + k + w)) % 4294967296 : Nat) : Int)
  omega
/-- Behind n rounds. -/
def after (K W : Nat → Nat) (s : St) : Nat → St
  | 0 => s
  | n + 1 => round (K n) (W n) (after K W s n)
theorem after_ok (K W : Nat → Nat) (s : St) (h : s.Ok) : ∀ n, (after K W s n).Ok
  | 0 => h
  | n + 1 => round_ok _ _ _ (after_ok K W s h n)
def join (s t : St) : St := ⟨(s.a + t.a) % 4294967296, (s.b + t.b) % 4294967296, (s.c + t.c) % 4294967296, (s.d + t.d) % 4294967296, (s.e + t.e) % 4294967296, (s.f + t.f) % 4294967296, (s.g + t.g) % 4294967296, (s.h + t.h) % 4294967296⟩
theorem join_ok (s t : St) : (join s t).Ok := ⟨Nat.mod_lt _ (by decide), Nat.mod_lt _ (by decide), Nat.mod_lt _ (by decide), Nat.mod_lt _ (by decide), Nat.mod_lt _ (by decide), Nat.mod_lt _ (by decide), Nat.mod_lt _ (by decide), Nat.mod_lt _ (by decide)⟩

/-- The words of a block: the n-th out of those ahead of it. -/
def next (b : Nat → Nat) (l : Nat → Nat) (n : Nat) : Nat :=
  if n < 16 then b (4 * n) * 16777216 + b (4 * n + 1) * 65536 + b (4 * n + 2) * 256 + b (4 * n + 3)
  else (l (n - 16) + s0 (l (n - 15)) + l (n - 7) + s1 (l (n - 2))) % 4294967296
/-- The first n words, as a function that is 0 beyond. -/
def upTo (b : Nat → Nat) : Nat → Nat → Nat
  | 0, _ => 0
  | n + 1, i => if i = n then next b (upTo b n) n else upTo b n i
def word (b : Nat → Nat) (i : Nat) : Nat := upTo b (i + 1) i
theorem upTo_old (b : Nat → Nat) : ∀ (n i : Nat), i < n → upTo b n i = word b i := by
  intro n
  induction n with
  | zero => intro i h; omega
  | succ n ih =>
    intro i h
    by_cases e : i = n
    · subst e; rfl
    · show (if i = n then _ else upTo b n i) = _
      rw [if_neg e]; exact ih i (by omega)
theorem word_low (b : Nat → Nat) (n : Nat) (h : n < 16) : word b n = b (4 * n) * 16777216 + b (4 * n + 1) * 65536 + b (4 * n + 2) * 256 + b (4 * n + 3) := by
  show (if n = n then next b (upTo b n) n else _) = _
  rw [if_pos rfl]; unfold next; rw [if_pos h]
theorem word_high (b : Nat → Nat) (n : Nat) (h : 16 ≤ n) : word b n = (word b (n - 16) + s0 (word b (n - 15)) + word b (n - 7) + s1 (word b (n - 2))) % 4294967296 := by
  show (if n = n then next b (upTo b n) n else _) = _
  rw [if_pos rfl]; unfold next; rw [if_neg (by omega), upTo_old b n _ (by omega), upTo_old b n _ (by omega), upTo_old b n _ (by omega), upTo_old b n _ (by omega)]
theorem word_lt (b : Nat → Nat) (hb : ∀ i, b i < 256) (n : Nat) : word b n < 4294967296 := by
  by_cases h : n < 16
  · rw [word_low b n h]
    have h0 := hb (4 * n); have h1 := hb (4 * n + 1); have h2 := hb (4 * n + 2); have h3 := hb (4 * n + 3)
    omega
  · rw [word_high b n (by omega)]; exact Nat.mod_lt _ (by decide)
/-- One block mixed into a state. -/
def mixed (K : Nat → Nat) (s : St) (b : Nat → Nat) : St := join s (after K (word b) s 64)
theorem mixed_ok (K : Nat → Nat) (s : St) (b : Nat → Nat) : (mixed K s b).Ok := join_ok _ _
end Go.Proofs.YthhbpebihgjpjaaGreatDoor.Sha
