import Derived.Test.YthhbpebihgjpjaaGreatDoorR10
namespace Go.Proofs.YthhbpebihgjpjaaGreatDoor
set_option maxRecDepth 1000000

def primes64 : List Nat := [2, 3, 5, 7, 11, 13, 17, 19, 23, 29, 31, 37, 41, 43, 47, 53, 59, 61, 67, 71, 73, 79, 83, 89, 97, 101, 103, 107, 109, 113, 127, 131, 137, 139, 149, 151, 157, 163, 167, 173, 179, 181, 191, 193, 197, 199, 211, 223, 227, 229, 233, 239, 241, 251, 257, 263, 269, 271, 277, 281, 283, 293, 307, 311]
/-- SHA-256's words of the rounds. -/
def keys : List Nat := [1116352408, 1899447441, 3049323471, 3921009573, 961987163, 1508970993, 2453635748, 2870763221, 3624381080, 310598401, 607225278, 1426881987, 1925078388, 2162078206, 2614888103, 3248222580, 3835390401, 4022224774, 264347078, 604807628, 770255983, 1249150122, 1555081692, 1996064986, 2554220882, 2821834349, 2952996808, 3210313671, 3336571891, 3584528711, 113926993, 338241895, 666307205, 773529912, 1294757372, 1396182291, 1695183700, 1986661051, 2177026350, 2456956037, 2730485921, 2820302411, 3259730800, 3345764771, 3516065817, 3600352804, 4094571909, 275423344, 430227734, 506948616, 659060556, 883997877, 958139571, 1322822218, 1537002063, 1747873779, 1955562222, 2024104815, 2227730452, 2361852424, 2428436474, 2756734187, 3204031479, 3329325298]
/-- .. and those that it starts with. -/
def heads : List Nat := [1779033703, 3144134277, 1013904242, 2773480762, 1359893119, 2600822924, 528734635, 1541459225]
theorem roots3_0 : ((primes64.drop 0).take 8).map (fun p => rootM p 3) = ((keys.drop 0).take 8).map some := by decide +kernel
theorem roots3_1 : ((primes64.drop 8).take 8).map (fun p => rootM p 3) = ((keys.drop 8).take 8).map some := by decide +kernel
theorem roots3_2 : ((primes64.drop 16).take 8).map (fun p => rootM p 3) = ((keys.drop 16).take 8).map some := by decide +kernel
theorem roots3_3 : ((primes64.drop 24).take 8).map (fun p => rootM p 3) = ((keys.drop 24).take 8).map some := by decide +kernel
theorem roots3_4 : ((primes64.drop 32).take 8).map (fun p => rootM p 3) = ((keys.drop 32).take 8).map some := by decide +kernel
theorem roots3_5 : ((primes64.drop 40).take 8).map (fun p => rootM p 3) = ((keys.drop 40).take 8).map some := by decide +kernel
theorem roots3_6 : ((primes64.drop 48).take 8).map (fun p => rootM p 3) = ((keys.drop 48).take 8).map some := by decide +kernel
theorem roots3_7 : ((primes64.drop 56).take 8).map (fun p => rootM p 3) = ((keys.drop 56).take 8).map some := by decide +kernel
theorem roots3 (i : Nat) (hi : i < 64) : rootM (primes64.getD i 0) 3 = some (keys.getD i 0) := by
  have at8 : ∀ (l k : List Nat) (o j : Nat), ((l.drop o).take 8).map (fun p => rootM p 3) = ((k.drop o).take 8).map some → j < 8 → o + j < l.length → o + j < k.length → rootM (l.getD (o + j) 0) 3 = some (k.getD (o + j) 0) := by
    intro l k o j h hj hl hk
    have := congrArg (fun x => x[j]?) h
    simp only [List.getElem?_map, List.getElem?_take, if_pos hj, List.getElem?_drop, List.getElem?_eq_getElem hl, List.getElem?_eq_getElem hk, Option.map_some, Option.some.injEq] at this
    simpa [List.getD_eq_getElem?_getD, List.getElem?_eq_getElem hl, List.getElem?_eq_getElem hk] using this
  have hlp : primes64.length = 64 := rfl
  have hlk : keys.length = 64 := rfl
  have h8 : i = 8 * (i / 8) + i % 8 := by omega
  have hm : i % 8 < 8 := by omega
  rw [h8]
  match i / 8, (by omega : i / 8 < 8) with
  | 0, _ => exact at8 _ _ 0 _ roots3_0 hm (by omega) (by omega)
  | 1, _ => exact at8 _ _ 8 _ roots3_1 hm (by omega) (by omega)
  | 2, _ => exact at8 _ _ 16 _ roots3_2 hm (by omega) (by omega)
  | 3, _ => exact at8 _ _ 24 _ roots3_3 hm (by omega) (by omega)
  | 4, _ => exact at8 _ _ 32 _ roots3_4 hm (by omega) (by omega)
  | 5, _ => exact at8 _ _ 40 _ roots3_5 hm (by omega) (by omega)
  | 6, _ => exact at8 _ _ 48 _ roots3_6 hm (by omega) (by omega)
  | 7, _ => exact at8 _ _ 56 _ roots3_7 hm (by omega) (by omega)
  | n + 8, h => exact absurd h (by omega)
theorem roots2 : ((primes64.take 8).map fun p => rootM p 2) = heads.map some := by decide +kernel
end Go.Proofs.YthhbpebihgjpjaaGreatDoor
