import Derived.Test.YthhbpebihgjpjaaGreatDoorJ11
import Derived.Maps.RangeWalk
import Derived.BigRegion
import Derived.Deep.RegionLaw
namespace Go.Proofs.YthhbpebihgjpjaaGreatDoor
open Go.RowKit Go.MuLone Go.Maps
set_option maxRecDepth 1000000

/-- No two files of one name. -/
def DistinctL (l : List FileV) : Prop := l.Pairwise (fun x y => x.1 ≠ y.1)
/-- The bytes of those that are no longer to come. -/
def goneBytes (left : Lit → Bool) : List FileV → Nat
  | [] => 0
  | x :: r => (if left (keyLit x.1) = true then 0 else x.2.size) + goneBytes left r
def totalBytes (l : List FileV) : Nat := goneBytes (fun _ => false) l
theorem key_self (a : ByteArray) : (keyLit a).sameKey (keyLit a) = true := by simp [keyLit, Lit.sameKey]
theorem key_other {a b : ByteArray} (h : a ≠ b) : (keyLit a).sameKey (keyLit b) = false := sameKey_ne (fun e => h (keyLit_inj e))
theorem findL_mem (l : List FileV) (name data : ByteArray) (h : findL l name = some data) : ∃ x ∈ l, x.1 = name := by
  induction l with
  | nil => simp [findL] at h
  | cons y r ih =>
    by_cases e : y.1 = name
    · exact ⟨y, by simp, e⟩
    · rw [findL, if_neg e] at h
      obtain ⟨x, hx, he⟩ := ih h
      exact ⟨x, by simp [hx], he⟩
theorem findL_absent (l : List FileV) (name : ByteArray) (h : ∀ x ∈ l, x.1 ≠ name) : findL l name = none := by
  induction l with
  | nil => rfl
  | cons y r ih => rw [findL, if_neg (h y (by simp)), ih (fun x hx => h x (by simp [hx]))]
theorem gone_same (left : Lit → Bool) (name : ByteArray) : ∀ l : List FileV, (∀ x ∈ l, x.1 ≠ name) → goneBytes (fun z => left z && !z.sameKey (keyLit name)) l = goneBytes left l := by
  intro l
  induction l with
  | nil => intro _; rfl
  | cons y r ih =>
    intro h
    simp only [goneBytes]
    rw [ih (fun x hx => h x (by simp [hx]))]
    simp [key_other (h y (by simp))]
theorem gone_strike (left : Lit → Bool) (name data : ByteArray) (hl : left (keyLit name) = true) : ∀ l : List FileV, DistinctL l → findL l name = some data → goneBytes (fun z => left z && !z.sameKey (keyLit name)) l = goneBytes left l + data.size := by
  intro l
  induction l with
  | nil => intro _ h; simp [findL] at h
  | cons y r ih =>
    intro hd h
    have hp := List.pairwise_cons.1 hd
    by_cases e : y.1 = name
    · rw [findL, if_pos e] at h
      have h2 : y.2 = data := Option.some.inj h
      simp only [goneBytes]
      rw [gone_same left name r (fun x hx hh => hp.1 x hx (e.trans hh.symm))]
      simp [e, hl, key_self, h2]; omega
    · rw [findL, if_neg e] at h
      simp only [goneBytes]
      rw [ih hp.2 h]
      simp [key_other e]; omega
theorem gone_none (left : Lit → Bool) : ∀ l : List FileV, (∀ x ∈ l, left (keyLit x.1) = true) → goneBytes left l = 0 := by
  intro l
  induction l with
  | nil => intro _; rfl
  | cons y r ih => intro h; simp only [goneBytes]; rw [ih (fun x hx => h x (by simp [hx])), if_pos (h y (by simp))]
theorem gone_all (left : Lit → Bool) (h : ∀ kl, left kl = false) (l : List FileV) : goneBytes left l = totalBytes l := by
  have : left = fun _ => false := funext h
  rw [this]; rfl
theorem gone_le (left : Lit → Bool) : ∀ l : List FileV, goneBytes left l ≤ totalBytes l := by
  intro l
  induction l with
  | nil => exact Nat.le_refl _
  | cons y r ih => simp only [totalBytes, goneBytes] at *; split <;> simp <;> omega
theorem findL_here (l : List FileV) : ∀ x ∈ l, (findL l x.1).isSome = true := by
  induction l with
  | nil => intro x hx; cases hx
  | cons y r ih =>
    intro x hx
    by_cases e : y.1 = x.1
    · simp [findL, e]
    · rw [findL, if_neg e]
      rcases List.mem_cons.1 hx with rfl | h
      · exact absurd rfl e
      · exact ih x h
theorem total_append (l r : List FileV) : totalBytes (l ++ r) = totalBytes l + totalBytes r := by
  induction l with
  | nil => simp [totalBytes, goneBytes]
  | cons y l ih => simp only [totalBytes, List.cons_append, goneBytes] at *; rw [ih]; omega
theorem sumBytes_total (l : List FileV) (n : Int) : sumBytes l n l.length = n + (totalBytes l : Int) := by
  have key : ∀ j, j ≤ l.length → sumBytes l n j = n + (totalBytes (l.take j) : Int) := by
    intro j
    induction j with
    | zero => intro _; simp [sumBytes, totalBytes, goneBytes]
    | succ j ih =>
      intro hj
      rw [sumBytes, ih (by omega), take_more l j _ (fileAt_eq l j (by omega)), total_append]
      simp [totalBytes, goneBytes]; omega
  rw [key l.length (Nat.le_refl _), List.take_length]

theorem keyOf_string_inv {key : Value} {kl : Lit} (h : keyOf Tryz.prog 9 key = some kl) : ∃ s : ByteArray, key = .string s ∧ kl = keyLit s := by
  obtain ⟨s, e1, e2, _⟩ := WideMaps.string_of_keyOf Tryz.underlying9 h
  exact ⟨s, e1, e2⟩

/-- The range's step over such a map. -/
theorem wpList_next_files (w : World) {ops : Array Oper} {rest : List Oper} {o : Oper} {a : Act} {Q : Exit → Act → World → Prop} (hg : o.guard = none) (it : Operand) (hop : o.op = Op.next it false)
    (b r n : Nat) (D : DataW Unit) (left : Lit → Bool) (cnt : Nat) (hit : a.eval it = .pointer (some ⟨r, 0, none⟩)) (h : w.ranges Tryz.prog 9 fileElem b r n D left cnt)
    (hDone : cnt = 0 → (∀ kl, left kl = false) → wpList Tryz.prog ops Q rest (a.put o.dst (.tuple #[.bool false])) w)
    (hMore : ∀ (x c : ByteArray) (w' : World) (cnt' : Nat), left (keyLit x) = true → (∀ zd, D.atKey (keyLit x) zd = .lit (.string c.data.toList)) → w'.ranges Tryz.prog 9 fileElem b r n D (fun z => left z && !z.sameKey (keyLit x)) cnt' → cnt' < cnt →
      w.grownBy w' (some r) → w'.heap.size = w.heap.size → (Instr.entry (.pointer (some ⟨r, 0, none⟩))).run Tryz.prog w' = .ok (.tuple #[.string x, .agg #[.string c]]) w' → wpList Tryz.prog ops Q rest (a.put o.dst (.tuple #[.bool true, .string x, .agg #[.string c]])) w') :
    wpList Tryz.prog ops Q (o :: rest) a w :=
  wpList_next_ranges w hg it hop 9 lawS fileElem Value.string (fun c => Value.agg #[.string c]) (fun key kl hkey => by obtain ⟨s, e, _⟩ := keyOf_string_inv hkey; exact ⟨s, e⟩) (fun v y hv => by obtain ⟨s, e, _⟩ := fileElem_inv hv; exact ⟨s, e⟩) b r n D left cnt hit h hDone
    (fun x c kl y w' cnt' hkey hlk hv hat hrg hlt hgr hsz hen => by
      obtain ⟨x', ex, rfl⟩ := keyOf_string_inv hkey
      cases ex
      have h3 : y.1 = .lit (.string c.data.toList) := by
        have := (Option.some.inj hv).symm
        rw [this]
      exact hMore x c w' cnt' hlk (fun zd => (hat zd).trans h3) hrg hlt hgr hsz hen)

set_option maxHeartbeats 2000000 in
theorem bytes_any (l : List FileV) (hd : DistinctL l) (ht : totalBytes l ≤ 1152921504606846976) (d : ProgD) (fb : Nat) (lk : Int) (nb sb n : Nat) (sv : Value) (w : World) (h : ProgRow w fb d lk nb sb sv) (hm : MapAt w nb n l) :
    Calls Tryz.prog 74 #[.pointer (some ⟨fb, 0, none⟩)] w fun e w' => e = .returned (.int .i64 (totalBytes l)) ∧ Below w.heap.size w w' := by
  have c3 : w.cell? ⟨fb, 3, none⟩ = some (.map (some nb)) := by rw [cell_of_row _ _ _ _ _ _ h]; rfl
  obtain ⟨D, hown, hh⟩ := hm
  have HH : Hid (MapHolds D l) := hh
  have HD : Hid (DistinctL l) := hd
  have hbl := hown.lt
  clear h hh hd
  go_enter Tryz.func74, Tryz.ntmps74
  go_wp2_with (first
    | (at_range; refine wpList_range_own _ rfl _ 85 rfl 9 117 lawS Tryz.underlying85 _ nb n _ rfl hown ?_; intro w0 hrg0 hg0 hs0)
    | go_in)
  go_frame
  clear c3
  go_loopw [3] (fun t wr => ∃ (left : Lit → Bool) (cnt : Nat), wr.ranges Tryz.prog 9 fileElem nb w.heap.size n D left cnt ∧ t = .int .i64 (goneBytes left l : Nat) ∧ Below w.heap.size w wr) (fun _ wr => wr.rangeLeft nb w.heap.size)
  case atStart =>
    refine ⟨_, _, hrg0, ?_, (Below.refl _ _).grown hg0 (Nat.le_refl _) (fun j hj => by cases hj)⟩
    rw [gone_none _ l (fun x hx => by rw [HH.out.has]; exact findL_here l x hx)]
    rfl
  case round =>
    obtain ⟨left, cnt, hrg, rfl, hnx⟩ := hrel
    go_wp2_with (first
      | (at_next; refine wpList_next_files _ rfl _ rfl nb w.heap.size n _ _ _ rfl hrg ?_ ?_)
      | go_in)
    · intro hc0 hl0
      have HE : Hid (goneBytes left l = totalBytes l) := gone_all left hl0 l
      clear hl0
      generalize goneBytes left l = t at *
      go_wp2
      go_ret
      exact ⟨by rw [← HE.out]; rfl, hnx⟩
    · intro x c w1 cnt1 hlk hat hrg1 hlt hg1 hs1 hen
      have hfx : findL l x = some c := by
        have h1 : (findL l x).isSome = true := by rw [← HH.out.has x]; exact has_true_of_atKey hat
        obtain ⟨c', hc'⟩ := Option.isSome_iff_exists.1 h1
        have h2 := HH.out.at' x
        rw [hat, hc'] at h2
        injection h2 with h2
        injection h2 with h2
        rw [hc', ByteArray.ext (Array.toList_inj.1 h2)]; rfl
      have HS : Hid (goneBytes (fun z => left z && !z.sameKey (keyLit x)) l = goneBytes left l + c.size) := gone_strike left x c hlk l HD.out hfx
      have hle : goneBytes left l + c.size ≤ 1152921504606846976 := by rw [← HS.out]; exact Nat.le_trans (gone_le _ l) ht
      have HR2 : Hid ((w1.alloc (.cells #[.string c] 117)).ranges Tryz.prog 9 fileElem nb w.heap.size n D (fun z => left z && !z.sameKey (keyLit x)) cnt1) := hrg1.alloc _
      have HB2 : Hid (Below w.heap.size w (w1.alloc (.cells #[.string c] 117))) := (hnx.grown hg1 hnx.size (fun j hj => by cases hj; exact Nat.le_refl _)).alloc (by have := hnx.size; omega) _
      have HLT : Hid (cnt1 < cnt) := hlt
      have HRG : Hid (wr.ranges Tryz.prog 9 fileElem nb w.heap.size n D left cnt) := hrg
      clear hfx hat hlk hrg1 hlt hg1 hs1 hrg hnx
      generalize (fun z => left z && !z.sameKey (keyLit x)) = left2 at *
      have ht2 : ((goneBytes left l : Nat) : Int) + (c.size : Int) ≤ 1152921504606846976 := by omega
      generalize goneBytes left l = t at *
      go_wp2
      go_roundw
      case rel =>
        first
          | exact ⟨left2, cnt1, HR2.out, by rw [HS.out]; go_num, HB2.out⟩
          | ((repeat apply Exists.intro); exact ⟨⟨left2, cnt1, HR2.out, by rw [HS.out]; go_num, HB2.out⟩, rfl⟩)
      case measure => rw [HR2.out.left_eq, HRG.out.left_eq]; exact HLT.out
end Go.Proofs.YthhbpebihgjpjaaGreatDoor

namespace Go.Proofs.YthhbpebihgjpjaaGreatDoor
open Go.RowKit Go.MuLone Go.Maps
set_option maxRecDepth 1000000

/-- What Read tells: the bytes and no error, or none and the variable's value. -/
def readP (l : List FileV) (name : ByteArray) (vN : Value) : Value × Value := if decide (posIn l name ≠ -1) = true then (.string (dataOf l name), .nilIface) else (.string ⟨#[]⟩, vN)

set_option maxHeartbeats 2000000 in
theorem progRead_any (name : ByteArray) (hn : name.size ≤ maxLen) (l : List FileV) (vN : Value) (d : ProgD) (fb : Nat) (nb sb n : Nat) (sv : Value) (w : World) (h : ProgRow w fb d 0 nb sb sv) (hm : MapAt w nb n l) (hnb : nb ≠ fb)
    (hv : w.cell? ⟨1, 0, none⟩ = some vN) (hg : 1 ≠ fb) :
    Calls Tryz.prog 45 #[.pointer (some ⟨fb, 0, none⟩), .string name] w fun e w' => e = .returned (.tuple #[(readP l name vN).1, (readP l name vN).2]) ∧ ProgRow w' fb d 0 nb sb sv ∧ Turns (fun k => k = fb) w w' := by
  have HR1 : Hid (ProgRow (w.setCell ⟨fb, 0, none⟩ (.int .i32 1)) fb d 1 nb sb sv) := h.setLock 1
  have HT1 : Hid (Turns (fun k => k = fb) w (w.setCell ⟨fb, 0, none⟩ (.int .i32 1))) := (Turns.refl _ w).setCell ⟨fb, 0, none⟩ _ (Or.inl rfl)
  have HM1 : Hid (MapAt (w.setCell ⟨fb, 0, none⟩ (.int .i32 1)) nb n l) := hm.keep (heap_setCell_other _ _ _ _ hnb)
  have HV1 : Hid ((w.setCell ⟨fb, 0, none⟩ (.int .i32 1)).cell? ⟨1, 0, none⟩ = some vN) := by
    show _ = _
    rw [World.cell?_of_block (w := w) (a := ⟨1, 0, none⟩) (heap_setCell_other _ _ _ _ hg)]; exact hv
  have h0 : w.cell? ⟨fb, 0, none⟩ = some (.int .i32 0) := by rw [cell_of_row _ _ _ _ _ _ h]; rfl
  have f0 : w.frozen? ⟨fb, 0, none⟩ = false := frozen_of_row _ _ _ _ _ h
  clear h hm hv
  go_enter_defers Tryz.func45, Tryz.ntmps45
  go_wp2_with (go_at_call 58; refine (lock_free muLib ⟨fb, 0, none⟩ _ h0 f0).mono ?_; rintro e w1 ⟨rfl, rfl⟩; refine Hid.out ?_)
  clear h0 f0
  generalize w.setCell ⟨fb, 0, none⟩ (.int .i32 1) = w2 at *
  have c3 : w2.cell? ⟨fb, 3, none⟩ = some (.map (some nb)) := by rw [cell_of_row _ _ _ _ _ _ HR1.out]; rfl
  have hl := HM1.out.look_ok name hn
  obtain ⟨dt, hdt⟩ : ∃ dt, dt = dataOf l name := ⟨_, rfl⟩
  have HDT : Hid (dataOf l name = dt) := hdt.symm
  rw [← hdt] at hl
  clear hdt
  have hv1 : ∀ o, (w2.alloc o).cell? ⟨1, 0, none⟩ = some vN := fun o => by rw [World.cell?_alloc_lt _ _ ⟨1, 0, none⟩ (block_lt_of_cell HV1.out)]; exact HV1.out
  have HR2 : Hid (ProgRow (w2.alloc (.cells #[.string dt] 117)) fb d 1 nb sb sv) := by
    show _ = _
    rw [heapA_old _ _ _ HR1.out.lt]; exact HR1.out
  have HT2 : Hid (Turns (fun k => k = fb) w (w2.alloc (.cells #[.string dt] 117))) := HT1.out.trans (Turns.of_below (fun k => k = fb) ((Below.refl _ _).alloc (Nat.le_refl _) _)) (fun i hi => Or.inl hi)
  by_cases hp : decide (posIn l name ≠ -1) = true
  · rw [hp] at hl
    have HP : Hid (readP l name vN = (.string dt, .nilIface)) := by show _ = _; rw [readP, if_pos hp, HDT.out]
    clear hp HDT
    unfold Hid
    go_wp2
    generalize w2.alloc (.cells #[.string dt] 117) = w3 at *
    refine leaves_cons (f := 59) (args := #[.pointer (some ⟨fb, 0, none⟩)]) (by simp) (by simp [go_sem]) ?_; refine (unlock_deferred muLib ⟨fb, 0, none⟩ .returning _ ?_ ?_).mono ?_; (rw [cell_of_row _ _ _ _ _ _ HR2.out]; rfl); (exact frozen_of_row _ _ _ _ _ HR2.out); rintro e u' w'' ⟨rfl, rfl, rfl⟩
    exact ⟨_, results_tmp2 rfl _ _ _, by rw [HP.out]; rfl, HR2.out.setLock 0, HT2.out.setCell ⟨fb, 0, none⟩ _ (Or.inl rfl)⟩
  · have hp2 : decide (posIn l name ≠ -1) = false := by simpa using hp
    rw [hp2] at hl
    have HP : Hid (readP l name vN = (.string ⟨#[]⟩, vN)) := by show _ = _; rw [readP, if_neg hp]
    clear hp hp2 HDT
    unfold Hid
    go_wp2_with fail
    have hv2 := hv1 (.cells #[.string dt] 117)
    clear hv1 HV1
    generalize w2.alloc (.cells #[.string dt] 117) = w4 at *
    go_quiet (fail)
    have HR2 : Hid (ProgRow (w4.drewN nq) fb d 1 nb sb sv) := HR2.out
    have HT2 : Hid (Turns (fun k => k = fb) w (w4.drewN nq)) := ⟨HT2.out.os, HT2.out.output, HT2.out.size, HT2.out.block⟩
    generalize w4.drewN nq = w3 at *
    go_wp2
    refine leaves_cons (f := 59) (args := #[.pointer (some ⟨fb, 0, none⟩)]) (by simp) (by simp [go_sem]) ?_; refine (unlock_deferred muLib ⟨fb, 0, none⟩ .returning _ ?_ ?_).mono ?_; (rw [cell_of_row _ _ _ _ _ _ HR2.out]; rfl); (exact frozen_of_row _ _ _ _ _ HR2.out); rintro e u' w'' ⟨rfl, rfl, rfl⟩
    exact ⟨_, results_tmp2 rfl _ _ _, by rw [HP.out]; rfl, HR2.out.setLock 0, HT2.out.setCell ⟨fb, 0, none⟩ _ (Or.inl rfl)⟩
end Go.Proofs.YthhbpebihgjpjaaGreatDoor

namespace Go.Proofs.YthhbpebihgjpjaaGreatDoor
open Go.RowKit Go.MuLone Go.Maps
set_option maxRecDepth 1000000

/-- 'delete' as one step of a region that draws. -/
theorem step_delete_files {ops : Array Oper} {o : Oper} {a : Act} {w : World} {K : Act → World → Prop} {Q : Exit → Act → World → Prop} {E : Prop} (hg : o.guard = none) (m x : Operand)
    (hop : o.op = Op.call { callee := Callee.builtin Builtin.delete, args := #[m, x], argTypes := #[85, 9] }) (b n : Nat) (l : List FileV) (name : ByteArray) (hn : name.size ≤ maxLen)
    (hm : a.eval m = .map (some b)) (hx : a.eval x = .string name) (h : MapAt w b n l)
    (hK : ∀ w', MapAt w' b n (withoutL l name) → w.grownBy w' (some b) → K (a.put o.dst (.tuple #[])) w') :
    if Region.wanted o (yielded ops a.tmps) = true then Oper.wp Tryz.prog o a w K Q else E := by
  have hw : Region.wanted o (yielded ops a.tmps) = true := by simp [Region.wanted, hg]
  rw [if_pos hw]
  obtain ⟨w', hrun, h1, h2⟩ := h.drop name hn o.type
  unfold Oper.wp
  simp [execOp, hop, resolve, invoke, builtin, hm, hx, hrun, Result.andThen]
  exact hK w' h1 h2
theorem field_data (dt : ByteArray) (w : World) : (Instr.field 117 (.agg #[.string dt]) 0).run Tryz.prog w = .ok (.string dt) w := by kernel_rfl

set_option maxHeartbeats 2000000 in
theorem doWrite_any (name part : ByteArray) (hn : name.size ≤ maxLen) (l : List FileV) (d : ProgD) (fb : Nat) (lk : Int) (nb sb n : Nat) (sv : Value) (bf bn : Nat) (w : World) (h : ProgRow w fb d lk nb sb sv) (hm : MapAt w nb n l) (hroom : n < maxLen)
    (b0 : w.cell? ⟨bf, 0, none⟩ = some (.pointer (some ⟨fb, 0, none⟩))) (b1 : w.cell? ⟨bn, 0, none⟩ = some (.string name)) :
    Calls Tryz.prog 76 #[.string part, .pointer (some ⟨bf, 0, none⟩), .pointer (some ⟨bn, 0, none⟩)] w fun e w' => e = .returned (.tuple #[]) ∧ MapAt w' nb (n + 1) (putL l name part) ∧ Turns (fun k => k = nb) w w' := by
  have c3 : w.cell? ⟨fb, 3, none⟩ = some (.map (some nb)) := by rw [cell_of_row _ _ _ _ _ _ h]; rfl
  obtain ⟨w1, hst, hm1, hg1⟩ := (show MapAt w.drew nb n l from hm.keep rfl).store hroom name part hn
  have HX : Hid (MapAt w1 nb (n + 1) (putL l name part) ∧ Turns (fun k => k = nb) w w1) := ⟨hm1, ⟨hg1.os, hg1.output, hg1.size, fun k hk hn => hg1.block k hk (fun e => hn (Option.some.inj e))⟩⟩
  clear h hm hm1 hg1
  go_enter Tryz.func76, Tryz.ntmps76
  go_wp2
  go_region
  all_goals
    go_wp2
    go_end0
    exact ⟨rfl, HX.out.1, HX.out.2⟩

set_option maxHeartbeats 2000000 in
theorem doAppend_any (name part : ByteArray) (hn : name.size ≤ maxLen) (l : List FileV) (hp : part.size ≤ 1099511627776) (hdt : (dataOf l name).size ≤ 1099511627776) (d : ProgD) (fb : Nat) (lk : Int) (nb sb n : Nat) (sv : Value) (bf bn : Nat) (w : World) (h : ProgRow w fb d lk nb sb sv) (hm : MapAt w nb n l) (hroom : n < maxLen)
    (b0 : w.cell? ⟨bf, 0, none⟩ = some (.pointer (some ⟨fb, 0, none⟩))) (b1 : w.cell? ⟨bn, 0, none⟩ = some (.string name)) :
    Calls Tryz.prog 303 #[.string part, .pointer (some ⟨bf, 0, none⟩), .pointer (some ⟨bn, 0, none⟩)] w fun e w' => e = .returned (.tuple #[]) ∧ MapAt w' nb (n + 1) (putL l name (dataOf l name ++ part)) ∧ Turns (fun k => k = nb) w w' := by
  have c3 : w.cell? ⟨fb, 3, none⟩ = some (.map (some nb)) := by rw [cell_of_row _ _ _ _ _ _ h]; rfl
  have hl := (show MapAt w.drew nb n l from hm.keep rfl).look name hn
  obtain ⟨w1, hst, hm1, hg1⟩ := (show MapAt w.drew nb n l from hm.keep rfl).store hroom name (dataOf l name ++ part) hn
  have HX : Hid (MapAt w1 nb (n + 1) (putL l name (dataOf l name ++ part)) ∧ Turns (fun k => k = nb) w w1) := ⟨hm1, ⟨hg1.os, hg1.output, hg1.size, fun k hk hn => hg1.block k hk (fun e => hn (Option.some.inj e))⟩⟩
  clear h hm hm1 hg1
  generalize dataOf l name = dt at *
  have hfd := field_data dt w.drew
  go_enter Tryz.func303, Tryz.ntmps303
  go_wp2
  go_region
  all_goals
    go_wp2
    go_end0
    exact ⟨rfl, HX.out.1, HX.out.2⟩

set_option maxHeartbeats 2000000 in
theorem doRemove_any (name part : ByteArray) (hn : name.size ≤ maxLen) (l : List FileV) (d : ProgD) (fb : Nat) (lk : Int) (nb sb n : Nat) (sv : Value) (bf bn : Nat) (w : World) (h : ProgRow w fb d lk nb sb sv) (hm : MapAt w nb n l)
    (b0 : w.cell? ⟨bf, 0, none⟩ = some (.pointer (some ⟨fb, 0, none⟩))) (b1 : w.cell? ⟨bn, 0, none⟩ = some (.string name)) :
    Calls Tryz.prog 126 #[.string part, .pointer (some ⟨bf, 0, none⟩), .pointer (some ⟨bn, 0, none⟩)] w fun e w' => e = .returned (.tuple #[]) ∧ MapAt w' nb n (withoutL l name) ∧ Turns (fun k => k = nb) w w' := by
  have c3 : w.cell? ⟨fb, 3, none⟩ = some (.map (some nb)) := by rw [cell_of_row _ _ _ _ _ _ h]; rfl
  have HM : Hid (MapAt w nb n l) := hm
  clear h hm
  go_enter Tryz.func126, Tryz.ntmps126
  go_wp2_with fail
  go_region_law (refine step_delete_files rfl _ _ rfl nb n l name hn rfl rfl ?_ ?_; exact HM.out.keep rfl; intro w1 hm1 hg1)
  all_goals
    have HX : Hid (MapAt w1 nb n (withoutL l name) ∧ Turns (fun k => k = nb) w w1) := ⟨hm1, ⟨hg1.os, hg1.output, hg1.size, fun k hk hn => hg1.block k hk (fun e => hn (Option.some.inj e))⟩⟩
    clear hm1 hg1
    go_wp2
    go_end0
    exact ⟨rfl, HX.out.1, HX.out.2⟩
end Go.Proofs.YthhbpebihgjpjaaGreatDoor
