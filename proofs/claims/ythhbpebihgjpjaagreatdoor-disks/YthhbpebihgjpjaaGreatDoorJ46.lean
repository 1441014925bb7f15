import Derived.Test.YthhbpebihgjpjaaGreatDoorJ38
import Derived.Test.YthhbpebihgjpjaaGreatDoorJ43
import Derived.Test.YthhbpebihgjpjaaGreatDoorJ45
import Derived.Deep.Upon
import Derived.Laws.IdiomStrings
namespace Go.Proofs.YthhbpebihgjpjaaGreatDoor
open Go.RowKit
set_option maxRecDepth 1000000

/-- As 'Below', but nothing is said of the tape. -/
structure Keeps (B : Nat) (w w' : World) : Prop where
  os : w'.os = w.os
  output : w'.output = w.output
  size : w.heap.size ≤ w'.heap.size
  block : ∀ k, k < B → w'.heap[k]? = w.heap[k]?
theorem Keeps.refl (B : Nat) (w : World) : Keeps B w w := ⟨rfl, rfl, Nat.le_refl _, fun _ _ => rfl⟩
theorem Keeps.of {B : Nat} {w w' : World} (h : Below B w w') : Keeps B w w' := ⟨h.os, h.output, h.size, h.block⟩
theorem Keeps.trans {B : Nat} {a b c : World} (h : Keeps B a b) (k : Keeps B b c) : Keeps B a c :=
  ⟨k.os.trans h.os, k.output.trans h.output, Nat.le_trans h.size k.size, fun i hi => (k.block i hi).trans (h.block i hi)⟩
theorem Keeps.mono {B B' : Nat} {w w' : World} (h : Keeps B w w') (hB : B' ≤ B) : Keeps B' w w' := ⟨h.os, h.output, h.size, fun k hk => h.block k (Nat.lt_of_lt_of_le hk hB)⟩
theorem Keeps.cell {B : Nat} {w w' : World} (h : Keeps B w w') {p : Addr} (hp : p.block < B) : w'.cell? p = w.cell? p := World.cell?_of_block (w := w) (h.block p.block hp)
theorem Keeps.grown {B : Nat} {a w w' : World} {row : Option Nat} (h : Keeps B a w) (hg : w.grownBy w' row) (hB : B ≤ w.heap.size) (hr : ∀ k, row = some k → B ≤ k) : Keeps B a w' :=
  ⟨hg.os.trans h.os, hg.output.trans h.output, Nat.le_trans h.size hg.size, fun k hk => (hg.block k (Nat.lt_of_lt_of_le hk hB) (fun e => by have := hr k e.symm; omega)).trans (h.block k hk)⟩

theorem Keeps.alloc {B : Nat} {a w : World} (h : Keeps B a w) (hB : B ≤ w.heap.size) (o : Obj) : Keeps B a (w.alloc o) :=
  ⟨h.os, h.output, by have := h.size; simp; omega, fun k hk => (heapA_old w o k (by omega)).trans (h.block k hk)⟩
/-- Rows of one's own beside one that turns. -/
theorem grownBy.trans' {a b c : World} {g : Nat} (h : a.grownBy b (some g)) (k : b.grownBy c (some g)) : a.grownBy c (some g) :=
  ⟨k.os.trans h.os, k.tape.trans h.tape, k.output.trans h.output, Nat.le_trans h.size k.size, fun i hi hne => (k.block i (Nat.lt_of_lt_of_le hi h.size) hne).trans (h.block i hi hne)⟩
theorem grownBy.below' {a b c : World} {g : Nat} (h : a.grownBy b (some g)) (k : Below b.heap.size b c) : a.grownBy c (some g) :=
  ⟨k.os.trans h.os, k.tape.trans h.tape, k.output.trans h.output, Nat.le_trans h.size k.size, fun i hi hne => (k.block i (Nat.lt_of_lt_of_le hi h.size)).trans (h.block i hi hne)⟩
/-- A text's bytes as cells. -/
def bcells (l : List UInt8) : List Value := l.map fun b => Value.int .u8 (b.toNat : Int)
theorem bcells_length (l : List UInt8) : (bcells l).length = l.length := by simp [bcells]
theorem bcells_append (l r : List UInt8) : bcells (l ++ r) = bcells l ++ bcells r := by simp [bcells]
theorem bcells_at (l : List UInt8) (i : Nat) (h : i < l.length) : (bcells l)[i]? = some (.int .u8 (byteAt l i : Nat)) := by
  simp [bcells, byteAt, h]

/-- Four bytes of each word, one behind the other. -/
def fours (s : Sha.St) : Nat → ByteArray
  | 0 => ⟨#[]⟩
  | n + 1 => fours s n ++ fourStr (s.get n)
theorem byte_at (s : Sha.St) (i j : Nat) (hj : j < 4) : s.byte (4 * i + j) = s.get i / 2 ^ (24 - 8 * j) % 256 := by
  unfold Sha.St.byte
  rw [show (4 * i + j) / 4 = i by omega, show (4 * i + j) % 4 = j by omega]
theorem fours_out (s : Sha.St) : ∀ n, (fours s n).data.toList = (List.range (4 * n)).map fun j => UInt8.ofNat (s.byte j) := by
  intro n
  induction n with
  | zero => rfl
  | succ n ih =>
    have e : (fours s (n + 1)).data.toList = (fours s n).data.toList ++ (fourStr (s.get n)).data.toList := by
      show (fours s n ++ fourStr (s.get n)).data.toList = _
      rw [ByteArray.data_append]; simp
    rw [e, ih, show 4 * (n + 1) = 4 * n + 1 + 1 + 1 + 1 by omega, List.range_succ, List.range_succ, List.range_succ, List.range_succ]
    simp only [List.map_append, List.map_cons, List.map_nil, List.append_assoc, List.cons_append, List.nil_append]
    congr 1
    have b0 := byte_at s n 0 (by omega)
    have b1 := byte_at s n 1 (by omega)
    have b2 := byte_at s n 2 (by omega)
    have b3 := byte_at s n 3 (by omega)
    rw [show 4 * n + 1 + 1 = 4 * n + 2 by omega, show 4 * n + 2 + 1 = 4 * n + 3 by omega, b1, b2, b3]
    rw [Nat.add_zero] at b0
    rw [b0]
    simp [fourStr]
theorem fours_size (s : Sha.St) (n : Nat) : (fours s n).size = 4 * n := by
  have h : (fours s n).size = (fours s n).data.toList.length := by rw [Array.length_toList]; rfl
  rw [h, fours_out]; simp
theorem fours_eq (s : Sha.St) : fours s 8 = outStr s.byte := by
  have h := fours_out s 8
  have : (fours s 8).data = (outStr s.byte).data := by
    rw [← Array.toList_inj, h]
    simp [outStr]
  cases h1 : fours s 8
  cases h2 : outStr s.byte
  rw [h1, h2] at this
  simp at this
  rw [this]

theorem bytes_came (t : ByteArray) (w : World) (e : TypeId) :
    Came (w.drew.alloc (.cells (bytesRow t (grownCap w t.size 0 e)) e ((bytesRow t (grownCap w t.size 0 e)).size, (bytesRow t (grownCap w t.size 0 e)).size + 1))) 1 (some ⟨w.heap.size, 0, none⟩) w.heap.size 0 t.size (grownCap w t.size 0 e) (bcells t.data.toList) := by
  have hle := grownCap_ge w t.size 0 e
  have hsz : (bytesRow t (grownCap w t.size 0 e)).size = grownCap w t.size 0 e := by
    have : t.data.size = t.size := rfl
    simp [bytesRow]; omega
  refine ⟨hle, fun _ => rfl, fun _ => by simp, by rw [bcells_length, Nat.mul_one, Array.length_toList]; rfl, fun j u hu => ?_, fun j hj => ?_⟩
  · refine (World.cell?_alloc_mark w.drew _ _ _ _).trans ?_
    have hj : j < t.data.size := by
      have := (List.getElem?_eq_some_iff.1 hu).1
      rw [bcells_length, Array.length_toList] at this; exact this
    rw [Nat.zero_add, bytesRow_at t _ j hj]
    rw [← hu]
    simp [bcells, Array.getElem?_eq_getElem hj]
  · rw [Nat.mul_one] at hj
    constructor
    · refine (congrArg Option.isSome (World.cell?_alloc_mark w.drew _ _ _ _)).trans ?_
      rw [Array.getElem?_eq_getElem (by rw [hsz]; omega)]; rfl
    · refine (World.frozen?_alloc_mark w.drew _ _ _ _ _).trans ?_
      rw [hsz]; simp; omega
theorem bytes_conv (t : ByteArray) (w : World) : ∃ cap W, (convert 9 219 (.string t)).run Tryz.prog w = .ok (.slice (some ⟨w.heap.size, 0, none⟩) t.size cap) W ∧ W.heap.size = w.heap.size + 1 ∧ Came W 1 (some ⟨w.heap.size, 0, none⟩) w.heap.size 0 t.size cap (bcells t.data.toList) ∧ Below w.heap.size w W ∧ (t.size ≤ maxLen → cap ≤ maxLen) :=
  ⟨_, _, run_bytes_of_string (P := Tryz.prog) w 9 219 5 t Tryz.underlying9 Tryz.underlying219 Tryz.underlying5, by simp, bytes_came t w _, (Below.refl _ _).drew.alloc (Nat.le_refl _) _, grownCap_le_maxLen _ _ _ _⟩
theorem new_one (w : World) (b : Nat) (x : Value) (t : TypeId) (hb : b = w.heap.size) : ∀ j u, [x][j]? = some u → (w.alloc (.cells #[x] t)).cell? ((⟨b, 0, none⟩ : Addr).add j) = some u := by
  subst hb; exact cell_one_new w x t

def lenV : Value → Nat
  | .slice _ n _ => n
  | _ => 0
/-- What stands behind the text, so far. -/
def tail1 (j : Nat) : List UInt8 := 128 :: List.replicate j 0
theorem tail1_next (j : Nat) : tail1 (j + 1) = tail1 j ++ [0] := by simp [tail1, List.replicate_succ']
def tail2 (n j : Nat) : List UInt8 := tail1 (zeros n) ++ (len8 n).take j
theorem tail2_zero (n : Nat) : tail2 n 0 = tail1 (zeros n) := by simp [tail2]
theorem tail2_next (n j : Nat) (hj : j < 8) : tail2 n (j + 1) = tail2 n j ++ [UInt8.ofNat (n * 8 / 2 ^ (8 * (7 - j)))] := by
  unfold tail2
  rw [List.take_succ_eq_append_getElem (by rw [len8_length]; exact hj), List.append_assoc]
  simp [len8]
theorem tail2_length (n j : Nat) (hj : j ≤ 8) : (tail2 n j).length = zeros n + 1 + j := by
  unfold tail2
  rw [List.length_append, List.length_take, len8_length]
  simp [tail1]; omega
theorem tail2_padded (l : List UInt8) : l ++ tail2 l.length 8 = padded l := by
  unfold tail2 padded tail1
  rw [List.take_of_length_le (by rw [len8_length]; exact Nat.le_refl _)]
  simp
theorem tail1_length (j : Nat) : (tail1 j).length = j + 1 := by simp [tail1]
/-- The bytes so far: the text's, and these behind them. -/
def PRel (t : ByteArray) (W : World) (b cap : Nat) (v : Value) (ks : List UInt8) (wr : World) : Prop :=
  ∃ r, Upon W 5 1 (some ⟨b, 0, none⟩) b 0 t.size cap (bcells t.data.toList) wr v ks.length (bcells ks) r
theorem PRel.form {t : ByteArray} {W : World} {b cap : Nat} {v : Value} {ks : List UInt8} {wr : World} (h : PRel t W b cap v ks wr) : ∃ a c, v = .slice a (t.size + ks.length) c := by
  obtain ⟨r, h⟩ := h
  exact h.shape
theorem PRel.more {t : ByteArray} {W : World} {b cap : Nat} {v : Value} {ks : List UInt8} {wr : World} {r : Nat} (x : UInt8) (y : Int) (hy : y = (x.toNat : Int)) (h : Upon W 5 1 (some ⟨b, 0, none⟩) b 0 t.size cap (bcells t.data.toList) wr v (ks.length + 1) (bcells ks ++ [.int .u8 y]) r) : PRel t W b cap v (ks ++ [x]) wr := by
  subst hy
  refine ⟨r, ?_⟩
  rw [List.length_append, bcells_append]
  exact h

set_option maxHeartbeats 2000000 in
theorem msum_any (t : ByteArray) (ht : t.size ≤ 140737488351232) (mb mo kb kc hb0 hc0 : Nat) (K : Nat → Nat) (w : World)
    (hmk : w.cell? ⟨mb, mo, none⟩ = some (.slice (some ⟨kb, 0, none⟩) 64 kc)) (hmh : w.cell? ⟨mb, mo + 1, none⟩ = some (.slice (some ⟨hb0, 0, none⟩) 8 hc0))
    (hk : ∀ i, i < 64 → w.cell? ⟨kb, i, none⟩ = some (.int .i64 (K i))) (hh : ∀ i, i < 8 → w.cell? ⟨hb0, i, none⟩ = some (.int .i64 (Sha.H0.get i))) (hKl : ∀ i, K i < 4294967296) :
    Calls Tryz.prog 80 #[.pointer (some ⟨mb, mo, none⟩), .string t] w fun e w' => ∃ s : Sha.St, Hid (s = codeSum K t.data.toList) ∧ e = .returned (.string (outStr s.byte)) ∧ Keeps w.heap.size w w' := by
  obtain ⟨cap, W, hconv, hWs, hcame, hbel, hcap⟩ := bytes_conv t w
  have HWS : Hid (W.heap.size = w.heap.size + 1) := hWs
  have HCM : Hid (Came W 1 (some ⟨w.heap.size, 0, none⟩) w.heap.size 0 t.size cap (bcells t.data.toList)) := hcame
  have HBL : Hid (Below w.heap.size w W) := hbel
  have HCP : Hid (cap ≤ maxLen) := hcap (by unfold maxLen; omega)
  have HMK : Hid (w.cell? ⟨mb, mo, none⟩ = some (.slice (some ⟨kb, 0, none⟩) 64 kc)) := hmk
  have HMH : Hid (w.cell? ⟨mb, mo + 1, none⟩ = some (.slice (some ⟨hb0, 0, none⟩) 8 hc0)) := hmh
  have HKK : Hid (∀ i, i < 64 → w.cell? ⟨kb, i, none⟩ = some (.int .i64 (K i))) := hk
  have HHH : Hid (∀ i, i < 8 → w.cell? ⟨hb0, i, none⟩ = some (.int .i64 (Sha.H0.get i))) := hh
  have HKL : Hid (∀ i, K i < 4294967296) := hKl
  have hinf : (Tryz.prog.info? 5).map (fun i => (i.size, i.bytes, i.zero)) = some (1, 1, some (.int .u8 0)) := by kernel_rfl
  obtain ⟨ti, hti, htj⟩ := Option.map_eq_some_iff.1 hinf
  simp only [Prod.mk.injEq] at htj
  have HTI : Hid (Tryz.prog.info? 5 = some ti ∧ ti.size = 1 ∧ ti.bytes = 1 ∧ ti.zero = some (.int .u8 0)) := ⟨hti, htj.1, htj.2.1, htj.2.2⟩
  clear hmk hmh hk hh hKl hcame hbel hcap hinf hti htj hWs
  go_enter Tryz.func80, Tryz.ntmps80
  go_wp2_with (refine wpList_append_upon _ rfl (.tmp 12) (.tmp 13) 219 219 rfl HCM.out ti (.int .u8 0) 1 Tryz.underlying219 HTI.out.1 HTI.out.2.2.2 HTI.out.2.1 HTI.out.2.2.1 rfl rfl (by exact (Upon.start HCM.out).alloc HCM.out _) _ 1 [.int .u8 128] rfl (by exact Src.ofSlice _ Tryz.underlying219 _ 1 1 _ rfl (new_one W _ _ _ rfl) (by intro u hu; simp at hu; subst hu; rfl)) (by unfold maxLen; omega) (by omega) ?_; intro v' w3 hup; refine Hid.out ?_)
  have HP0 : Hid (PRel t W w.heap.size cap v' (tail1 0) w3) := ⟨_, hup⟩
  clear hup
  unfold Hid
  go_wp2
  go_loopw [5] (fun v wr => ∃ j : Nat, j ≤ zeros t.size ∧ PRel t W w.heap.size cap v (tail1 j) wr) (fun v _ => t.size + 1 + zeros t.size - lenV v)
  case atStart => exact ⟨0, by omega, HP0.out⟩
  case round =>
    clear HP0
    obtain ⟨j, hj, hp⟩ := hrel
    obtain ⟨a5, c5, hform⟩ := hp.form
    subst hform
    have HP : Hid (PRel t W w.heap.size cap (.slice a5 (t.size + (tail1 j).length) c5) (tail1 j) wr) := hp
    have HTL : Hid ((tail1 j).length = j + 1) := tail1_length j
    have hz : zeros t.size < 64 ∧ (t.size + 1 + zeros t.size) % 64 = 56 := by unfold zeros; omega
    clear hp
    obtain ⟨N, hN⟩ : ∃ N, N = t.size + (tail1 j).length := ⟨_, rfl⟩
    have hN2 : N = t.size + (j + 1) := by rw [hN, HTL.out]
    have HN : Hid (N = t.size + (tail1 j).length) := hN
    have HN2 : Hid (N = t.size + (j + 1)) := hN2
    rw [← hN]
    have hNl : (N : Int) < 140737488355328 := by omega
    by_cases hlt : j < zeros t.size
    · have hne : ¬ (N : Int) % 64 = 56 := by unfold zeros at hlt hz; omega
      have HQ : Hid (((N : Int) % 64 != 56) = true) := by simpa [Hid] using hne
      obtain ⟨r, hup0⟩ := HP.out
      have HU : Hid (Upon W 5 1 (some ⟨w.heap.size, 0, none⟩) w.heap.size 0 t.size cap (bcells t.data.toList) wr (.slice a5 N c5) (tail1 j).length (bcells (tail1 j)) r) := by rw [hN]; exact hup0
      clear hne hup0
      clear hN hN2
      iterate 32 (first | rw [HQ.out] | go_values | go_skip | go_guarded | go_step | go_upon)
      refine wpList_append_upon _ rfl (.tmp 19) (.tmp 20) 219 219 rfl HCM.out ti (.int .u8 0) 1 Tryz.underlying219 HTI.out.1 HTI.out.2.2.2 HTI.out.2.1 HTI.out.2.2.1 rfl rfl (by exact HU.out.alloc HCM.out _) _ 1 [.int .u8 0] rfl (by exact Src.ofSlice _ Tryz.underlying219 _ 1 1 _ rfl (new_one wr _ _ _ rfl) (by intro u hu; simp at hu; subst hu; rfl)) (by have := HTL.out; have := hz.1; unfold maxLen; omega) (by have := HTL.out; have := hz.1; omega) ?_
      intro v2 w4 hup
      refine Hid.out ?_
      have HP2 : Hid (PRel t W w.heap.size cap v2 (tail1 (j + 1)) w4) := by
        rw [tail1_next]
        exact PRel.more 0 _ rfl hup
      obtain ⟨a6, c6, hform⟩ := HP2.out.form
      subst hform
      clear hup HP HU
      have HTL2 : Hid ((tail1 (j + 1)).length = j + 1 + 1) := tail1_length (j + 1)
      unfold Hid
      go_wp2
      go_roundw
      case rel =>
        first
          | exact ⟨j + 1, by omega, HP2.out⟩
          | ((repeat apply Exists.intro); exact ⟨⟨j + 1, by omega, HP2.out⟩, rfl⟩)
      case measure =>
        have := HTL2.out
        have := HN2.out
        simp [lenV]; omega
    · have hne : (N : Int) % 64 = 56 := by unfold zeros at hlt hz hj; omega
      obtain rfl : j = zeros t.size := by omega
      have HQ0 : Hid (PRel t W w.heap.size cap (.slice a5 N c5) (tail2 t.size 0) wr) := by rw [tail2_zero, HN.out]; exact HP.out
      clear hN hN2 HP
      obtain ⟨wo, rfl⟩ : ∃ wo : World, wo = wr := ⟨_, rfl⟩
      go_wp2
      go_loopw [5, 6] (fun v i wr => ∃ k : Nat, k ≤ 8 ∧ i = .int .i64 ((k : Int) - 1) ∧ PRel t W w.heap.size cap v (tail2 t.size (8 - k)) wr) (fun _ i _ => (intOf i + 1).toNat)
      case atStart => exact ⟨8, by omega, rfl, HQ0.out⟩
      case round =>
        clear HQ0 HN HN2 HTL hne hNl
        obtain ⟨k, hk, rfl, hp⟩ := hrel
        obtain ⟨a7, c7, hform⟩ := hp.form
        subst hform
        have HP : Hid (PRel t W w.heap.size cap (.slice a7 (t.size + (tail2 t.size (8 - k)).length) c7) (tail2 t.size (8 - k)) wr) := hp
        have HTL : Hid ((tail2 t.size (8 - k)).length = zeros t.size + 1 + (8 - k)) := tail2_length _ _ (by omega)
        clear hp
        obtain ⟨N, hN⟩ : ∃ N, N = t.size + (tail2 t.size (8 - k)).length := ⟨_, rfl⟩
        have hN2 : N = t.size + (zeros t.size + 1 + (8 - k)) := by rw [hN, HTL.out]
        have HN : Hid (N = t.size + (tail2 t.size (8 - k)).length) := hN
        have HN2 : Hid (N = t.size + (zeros t.size + 1 + (8 - k))) := hN2
        rw [← hN]
        have hNl : (N : Int) < 140737488355328 := by omega
        clear hN hN2
        by_cases hk0 : 0 < k
        · obtain ⟨m, rfl⟩ : ∃ m, k = m + 1 := ⟨k - 1, by omega⟩
          rw [show ((m + 1 : Nat) : Int) - 1 = (m : Int) by omega]
          have m1 : (m : Int) < 8 := by omega
          have m0 : (0 : Int) ≤ (m : Int) := by omega
          have t1 : (t.size : Int) ≤ 140737488351232 := by omega
          obtain ⟨r, hup0⟩ := HP.out
          have HU : Hid (Upon W 5 1 (some ⟨w.heap.size, 0, none⟩) w.heap.size 0 t.size cap (bcells t.data.toList) wr (.slice a7 N c7) (tail2 t.size (8 - (m + 1))).length (bcells (tail2 t.size (8 - (m + 1)))) r) := by rw [HN.out]; exact hup0
          clear hup0
          iterate 50 (first | go_values | go_skip | go_guarded | go_step | go_upon)
          refine wpList_append_upon _ rfl (.tmp 26) (.tmp 35) 219 219 rfl HCM.out ti (.int .u8 0) 1 Tryz.underlying219 HTI.out.1 HTI.out.2.2.2 HTI.out.2.1 HTI.out.2.2.1 rfl rfl (by exact HU.out.alloc HCM.out _) _ 1 [.int .u8 (8 * (t.size : Int) / 2 ^ (8 * m) % 256)] rfl (by exact Src.ofSlice _ Tryz.underlying219 _ 1 1 _ rfl (new_one wr _ _ _ rfl) (by intro u hu; simp at hu; subst hu; rfl)) (by have := HTL.out; have := hz.1; unfold maxLen; omega) (by have := HTL.out; have := hz.1; omega) ?_
          intro v2 w4 hup
          refine Hid.out ?_
          have HP2 : Hid (PRel t W w.heap.size cap v2 (tail2 t.size (8 - m)) w4) := by
            rw [show 8 - m = (8 - (m + 1)) + 1 by omega, tail2_next _ _ (by omega), show 7 - (8 - (m + 1)) = m by omega]
            exact PRel.more (UInt8.ofNat (t.size * 8 / 2 ^ (8 * m))) _ (by rw [Nat.mul_comm t.size 8]; simp) hup
          obtain ⟨a8, c8, hform⟩ := HP2.out.form
          subst hform
          clear hup HP HU
          unfold Hid
          go_wp2
          go_roundw
          case rel =>
            first
              | exact ⟨m, by omega, by go_num, HP2.out⟩
              | ((repeat apply Exists.intro); exact ⟨⟨m, by omega, by go_num, HP2.out⟩, rfl⟩)
          case measure => simp [intOf] <;> omega
        · obtain rfl : k = 0 := by omega
          obtain ⟨r, hup0⟩ := HP.out
          have hpl : (padded t.data.toList).length = N := by
            rw [HN2.out, padded_length, Array.length_toList]
            show t.size + 1 + zeros t.size + 8 = _
            omega
          have hN64 : N % 64 = 0 := by have := HN2.out; have := hz.2; omega
          obtain ⟨g, o', cap', hv, hc7, _, hcells⟩ := hup0.value HCM.out HCP.out (Or.inr (by have := HTL.out; omega))
          injection hv with e1 e2 e3
          subst e1
          have hNc : N ≤ c7 := by rw [HN.out, e3]; exact hc7
          have HPC : Hid (∀ j, j < N → wr.cell? ⟨g, o' + j, none⟩ = some (.int .u8 (byteAt (padded t.data.toList) j : Nat))) := by
            intro j hj
            have h1 := hcells j (by rw [Nat.mul_one]; have := HN.out; omega)
            rw [h1, ← bcells_append, show tail2 t.size (8 - 0) = tail2 t.data.toList.length 8 by rw [Array.length_toList]; rfl, tail2_padded]
            exact bcells_at _ _ (by omega)
          have hgw : g < wr.heap.size := block_lt_of_cell (HPC.out 0 (by have := HN2.out; omega))
          have HKP : Hid (Keeps w.heap.size w wr) := (Keeps.of HBL.out).trans ⟨hup0.kept.1, hup0.kept.2.1, hup0.kept.size, fun k hk => hup0.kept.block (by have := HWS.out; omega) (fun p hp e => by obtain ⟨j, _, rfl⟩ := hp; have e2 : w.heap.size = k := e; omega)⟩
          have cmh : wr.cell? ⟨mb, mo + 1, none⟩ = some (.slice (some ⟨hb0, 0, none⟩) 8 hc0) := by rw [HKP.out.cell (p := ⟨mb, mo + 1, none⟩) (block_lt_of_cell HMH.out)]; exact HMH.out
          clear hup0 hcells e2 e3 hc7 HP HTL HCM HBL
          have cmh2 : ∀ o, (wr.alloc o).cell? ⟨mb, mo + 1, none⟩ = some (.slice (some ⟨hb0, 0, none⟩) 8 hc0) := fun o => by rw [World.cell?_alloc_lt _ _ ⟨mb, mo + 1, none⟩ (block_lt_of_cell cmh)]; exact cmh
          have hinf : (Tryz.prog.info? 3).map (fun i => (i.size, i.bytes, i.zero)) = some (1, 8, some (.int .i64 0)) := by kernel_rfl
          obtain ⟨tj, htk, htl⟩ := Option.map_eq_some_iff.1 hinf
          simp only [Prod.mk.injEq] at htl
          have HTJ : Hid (Tryz.prog.info? 3 = some tj ∧ tj.size = 1 ∧ tj.bytes = 8 ∧ tj.zero = some (.int .i64 0)) := ⟨htk, htl.1, htl.2.1, htl.2.2⟩
          have HNW : Hid (∀ (o : Obj) (j : Nat) u, ((List.range 8).map fun i => Value.int .i64 (Sha.H0.get i : Nat))[j]? = some u → (wr.alloc o).cell? ((⟨hb0, 0, none⟩ : Addr).add j) = some u) := by
            intro o j u hu
            have hadd : (⟨hb0, 0, none⟩ : Addr).add j = ⟨hb0, j, none⟩ := by unfold Addr.add; split <;> simp_all
            have hlt0 : hb0 < w.heap.size := block_lt_of_cell (HHH.out 0 (by omega))
            by_cases hj : j < 8
            · rw [hadd, World.cell?_alloc_lt _ _ ⟨hb0, j, none⟩ (by have := HKP.out.size; show hb0 < _; omega), HKP.out.cell (p := ⟨hb0, j, none⟩) hlt0, HHH.out j hj]
              simpa [hj] using hu
            · rw [List.getElem?_eq_none (by simp; omega)] at hu; cases hu
          obtain ⟨H8, HH8⟩ : ∃ H8, Hid (H8 = (List.range 8).map fun i => Value.int .i64 (Sha.H0.get i : Nat)) := ⟨_, rfl⟩
          rw [← HH8.out] at HNW
          have H8l : H8.length = 8 := by rw [HH8.out]; simp
          have HONE : Hid (∀ u ∈ H8, u.oneCell' = true) := by intro u hu; rw [HH8.out] at hu; obtain ⟨x, _, rfl⟩ := List.mem_map.1 hu; rfl
          clear hinf htk htl
          iterate 15 (first | go_values | go_skip | go_guarded | go_step | go_upon)
          go_wp2_with (refine wpList_append_own _ rfl (.tmp 37) (.tmp 41) 48 rfl wr.heap.size 3 tj (.int .i64 0) 1 8 Tryz.underlying48 HTJ.out.1 HTJ.out.2.2.2 HTJ.out.2.1 HTJ.out.2.2.1 rfl (by decide) _ 0 [] rfl (by exact ⟨rfl, Or.inr ⟨wr.heap.size, 0, #[], rfl, Nat.le_refl _, heapA_new _ _ _ rfl, Nat.le_refl _, Nat.zero_le _, rfl, rfl⟩⟩) ⟨hb0, 0, none⟩ 8 hc0 H8 rfl (by omega) (by exact HNW.out _) (by exact HONE.out) (by unfold maxLen; omega) (by omega) (by simp) ?_; intro v5 w5 hv5 hg5 hn5; refine Hid.out ?_)
          obtain ⟨_, ⟨_, h0⟩ | ⟨g5, cap5, cur, hv, hg, hrow, _, _, _, htake⟩⟩ := hv5
          · omega
          have HR5 : Hid (Row8 g5 Sha.H0.get w5) := by
            refine ⟨cur, hrow, fun i hi => ?_⟩
            have h1 : (cur.toList.take (0 + 8))[i]? = cur[i]? := by rw [List.getElem?_take, if_pos (by omega)]; simp
            rw [← h1, show 0 + 8 = (0 + 8) * 1 by rfl, htake, HH8.out]
            simp [hi]
          have HK5 : Hid (Keeps w.heap.size w w5) := (HKP.out.alloc (by have := HKP.out.size; omega) _).grown hg5 (by have := HKP.out.size; simp; omega) (fun k hk => by have h : wr.heap.size = k := Option.some.inj hk; have := HKP.out.size; omega)
          have HP5 : Hid (∀ j, j < N → w5.cell? ⟨g, o' + j, none⟩ = some (.int .u8 (byteAt (padded t.data.toList) j : Nat))) := by
            intro j hj
            rw [World.cell?_of_block (w := wr) (a := ⟨g, o' + j, none⟩) (by show w5.heap[g]? = wr.heap[g]?; rw [hg5.block g (by simp; omega) (fun h => by have h : g = wr.heap.size := Option.some.inj h; omega), heapA_old _ _ _ hgw])]
            exact HPC.out j hj
          have hgg : g < g5 := by omega
          have hgw5 : g < w5.heap.size := block_lt_of_cell (HP5.out 0 (by have := HN2.out; omega))
          have hg5w : w.heap.size ≤ g5 := by have := HKP.out.size; omega
          subst hv
          obtain ⟨B, hB⟩ : ∃ B, N = 64 * B := ⟨N / 64, by omega⟩
          have HPL : Hid ((padded t.data.toList).length = N) := hpl
          have HB64 : Hid (N = 64 * B) := hB
          clear hrow htake hg5 hn5 HNW HONE HH8 H8l HPC HKP cmh cmh2 hgw hg hpl hN64 hB HN HN2 hlt hk hk0
          unfold Hid
          go_wp2
          go_loopw [8] (fun i wr => ∃ n A : Nat, n ≤ B ∧ A = 64 * n ∧ i = .int .i64 A ∧ ∃ s : Sha.St, Hid (s = blocks K (padded t.data.toList) n) ∧ Row8 g5 s.get wr ∧ w5.grownBy wr (some g5)) (fun i _ => N - (intOf i).toNat)
          case atStart => exact ⟨0, 0, by omega, rfl, rfl, Sha.H0, rfl, HR5.out, ⟨rfl, rfl, rfl, Nat.le_refl _, fun _ _ _ => rfl⟩⟩
          case round =>
            clear HR5
            obtain ⟨n, A, hn, hA, rfl, s, HS, hrow, hgrow⟩ := hrel
            have HR : Hid (Row8 g5 s.get wr) := hrow
            have HG : Hid (w5.grownBy wr (some g5)) := hgrow
            have hs : s.Ok := by rw [HS.out]; exact blocks_ok _ _ _
            have HA : Hid (A = 64 * n) := hA
            clear hrow hgrow hA
            by_cases hlt : n < B
            · have hAN : A + 64 ≤ N := by have := HB64.out; have := HA.out; omega
              have a0 : (0 : Int) ≤ (A : Int) := by omega
              have a1 : (A : Int) < (N : Int) := by omega
              have a2 : (A : Int) + 64 ≤ (N : Int) := by omega
              have a3 : (A : Int) + 64 ≤ (c7 : Int) := by omega
              have a4 : (A : Int) ≤ (A : Int) + 64 := by omega
              have a5 : A + 64 ≤ c7 := by omega
              have HCW : Hid (∀ p : Addr, p.block < w.heap.size → wr.cell? p = w.cell? p) := fun p hp => (World.cell?_of_block (HG.out.block p.block (by have := HK5.out.size; omega) (fun h => by have h : p.block = g5 := Option.some.inj h; omega))).trans (HK5.out.cell hp)
              go_wp2_with fail
              refine (block_any K s hs (byteAt ((padded t.data.toList).drop (64 * n))) (fun i => byteAt_lt _ _) mb mo kb kc g5 cap5 g (o' + A) (c7 - A) wr ?hp ?hpb HR.out ?hmk ?hmb ?hk ?hkb HKL.out).mono ?_
              case hp =>
                intro i hi
                rw [World.cell?_of_block (w := w5) (a := ⟨g, o' + A + i, none⟩) (HG.out.block g hgw5 (fun h => by have h : g = g5 := Option.some.inj h; omega)), Nat.add_assoc, HP5.out (A + i) (by omega), byteAt_drop, HA.out]
              case hpb => have := HG.out.size; omega
              case hmk => rw [HCW.out ⟨mb, mo, none⟩ (block_lt_of_cell HMK.out)]; exact HMK.out
              case hmb => have h1 : mb < w.heap.size := block_lt_of_cell HMK.out; have := HG.out.size; have := HK5.out.size; omega
              case hk => exact fun i hi => by rw [HCW.out ⟨kb, i, none⟩ (block_lt_of_cell (HKK.out i hi))]; exact HKK.out i hi
              case hkb => have h1 : kb < w.heap.size := block_lt_of_cell (HKK.out 0 (by omega)); have := HG.out.size; have := HK5.out.size; omega
              rintro e w7 ⟨rfl, hrow7, hgrow7⟩
              have HR7 : Hid (Row8 g5 (Sha.mixed K s (byteAt ((padded t.data.toList).drop (64 * n)))).get w7) := hrow7
              have HG7 : Hid (w5.grownBy w7 (some g5)) := grownBy.trans' HG.out hgrow7
              have HS7 : Hid (Sha.mixed K s (byteAt ((padded t.data.toList).drop (64 * n))) = blocks K (padded t.data.toList) (n + 1)) := by show _ = _; rw [HS.out, blocks]
              generalize Sha.mixed K s (byteAt ((padded t.data.toList).drop (64 * n))) = s7 at *
              clear hrow7 hgrow7 HR HG HS
              go_wp2
              go_roundw
              case rel =>
                first
                  | exact ⟨n + 1, A + 64, by omega, by have := HA.out; omega, by go_num, s7, HS7, HR7.out, HG7.out⟩
                  | ((repeat apply Exists.intro); exact ⟨⟨n + 1, A + 64, by omega, by have := HA.out; omega, by go_num, s7, HS7, HR7.out, HG7.out⟩, rfl⟩)
              case measure => simp [intOf]; omega
            · obtain rfl : n = B := by omega
              have a1 : ¬ (A : Int) < (N : Int) := by have := HB64.out; have := HA.out; omega
              have HSF : Hid (s = codeSum K t.data.toList) := by
                show _ = _
                rw [HS.out, ← padded_sum, HPL.out, show N / 64 = n by have := HB64.out; omega]
              obtain ⟨wo5, rfl⟩ : ∃ wo : World, wo = wr := ⟨_, rfl⟩
              clear HS
              go_wp2
              go_loopw [1, 9] (fun tt i wr => ∃ m : Nat, m ≤ 8 ∧ i = .int .i64 m ∧ tt = .string (fours s m) ∧ Row8 g5 s.get wr ∧ w5.grownBy wr (some g5)) (fun _ i _ => 8 - (intOf i).toNat)
              case atStart => exact ⟨0, by omega, rfl, rfl, HR.out, HG.out⟩
              case round =>
                clear HR HG
                obtain ⟨m, hm, rfl, rfl, hrow, hgrow⟩ := hrel
                have HR : Hid (Row8 g5 s.get wr) := hrow
                have HG : Hid (w5.grownBy wr (some g5)) := hgrow
                clear hrow hgrow
                by_cases hlt8 : m < 8
                · have cx : wr.cell? ⟨g5, m, none⟩ = some (.int .i64 (s.get m)) := HR.out.cell m hlt8
                  have i0 : (0 : Int) ≤ (m : Int) := by omega
                  have i1 : (m : Int) < 8 := by omega
                  have l1 : s.get m < 4294967296 := s.get_lt hs m
                  have HF : Hid (fours s m ++ fourStr (s.get m) = fours s (m + 1)) := rfl
                  have hyl : (fours s m).size ≤ 32 := by rw [fours_size]; omega
                  generalize s.get m = x at *
                  generalize fours s m = y at *
                  go_wp2_with fail
                  refine (four_any x l1 _).mono ?_
                  rintro e w8 ⟨rfl, hb8⟩
                  have HR8 : Hid (Row8 g5 s.get w8) := HR.out.later (hb8.block _ HR.out.lt)
                  have HG8 : Hid (w5.grownBy w8 (some g5)) := grownBy.below' HG.out hb8
                  clear hb8 HR HG cx
                  have hzl : (fourStr x).size ≤ 4 := Nat.le_refl 4
                  generalize fourStr x = z at *
                  go_wp2
                  go_roundw
                  case rel =>
                    first
                      | exact ⟨m + 1, by omega, by go_num, by rw [HF.out], HR8.out, HG8.out⟩
                      | ((repeat apply Exists.intro); exact ⟨⟨m + 1, by omega, by go_num, by rw [HF.out], HR8.out, HG8.out⟩, rfl⟩)
                  case measure => simp [intOf]; omega
                · obtain rfl : m = 8 := by omega
                  have HF : Hid (fours s 8 = outStr s.byte) := fours_eq s
                  have HKF : Hid (Keeps w.heap.size w wr) := HK5.out.grown HG.out HK5.out.size (fun k hk => by have h : g5 = k := Option.some.inj hk; omega)
                  generalize fours s 8 = y at *
                  go_wp2
                  go_ret
                  exact ⟨s, HSF, by rw [HF.out]; rfl, HKF.out⟩
end Go.Proofs.YthhbpebihgjpjaaGreatDoor
