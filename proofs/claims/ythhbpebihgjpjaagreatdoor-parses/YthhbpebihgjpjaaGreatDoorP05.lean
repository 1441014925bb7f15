import Derived.Test.YthhbpebihgjpjaaGreatDoorP04
import Derived.Test.YthhbpebihgjpjaaGreatDoorShelf
namespace Go.Proofs.YthhbpebihgjpjaaGreatDoor
open Go.RowKit Go.Shelf
set_option maxRecDepth 1000000

def scanFrom (p : Nat → Bool) (u : ByteArray) : Nat → Nat → Nat
 | 0, i => i
 | g + 1, i => if u.size ≤ i then i else if byteOf u i = 36 then scanFrom p u g (i + 2) else if p (byteOf u i) = true then i else scanFrom p u g (i + 1)
def scanAt (p : Nat → Bool) (u : ByteArray) (i : Nat) : Nat := scanFrom p u (u.size - i) i
def scanB (p : Nat → Bool) (u : ByteArray) : Nat := scanAt p u 0
def isColon (c : Nat) : Bool := decide (c = 58)
def isSep (c : Nat) : Bool := decide (c = 32 ∨ c = 58 ∨ c = 124)
theorem scanFrom_fuel (p : Nat → Bool) (u : ByteArray) : ∀ (g g' i : Nat), u.size ≤ i + g → u.size ≤ i + g' → scanFrom p u g i = scanFrom p u g' i
 | 0, 0, _, _, _ => rfl
 | 0, g' + 1, i, h, _ => by rw [scanFrom, scanFrom, if_pos (by omega)]
 | g + 1, 0, i, _, h => by rw [scanFrom, scanFrom, if_pos (by omega)]
 | g + 1, g' + 1, i, h, h' => by
  rw [scanFrom, scanFrom]
  by_cases c : u.size ≤ i
  ·rw [if_pos c, if_pos c]
  ·rw [if_neg c, if_neg c]
   by_cases d : byteOf u i = 36
   ·rw [if_pos d, if_pos d]; exact scanFrom_fuel p u g g' _ (by omega) (by omega)
   ·rw [if_neg d, if_neg d]
    by_cases q : p (byteOf u i) = true
    ·rw [if_pos q, if_pos q]
    ·rw [if_neg q, if_neg q]; exact scanFrom_fuel p u g g' _ (by omega) (by omega)
theorem scanAt_end (p : Nat → Bool) (u : ByteArray) (i : Nat) (h : u.size ≤ i) : scanAt p u i = i := by
 unfold scanAt
 rw [show u.size - i = 0 by omega, scanFrom]
theorem scanAt_dol (p : Nat → Bool) (u : ByteArray) (i : Nat) (h : i < u.size) (hd : byteOf u i = 36) : scanAt p u i = scanAt p u (i + 2) := by
 unfold scanAt
 rw [show u.size - i = (u.size - (i + 1)) + 1 by omega, scanFrom, if_neg (by omega), if_pos hd]
 exact scanFrom_fuel p u _ _ _ (by omega) (by omega)
theorem scanAt_hit (p : Nat → Bool) (u : ByteArray) (i : Nat) (h : i < u.size) (hd : byteOf u i ≠ 36) (hp : p (byteOf u i) = true) : scanAt p u i = i := by
 unfold scanAt
 rw [show u.size - i = (u.size - (i + 1)) + 1 by omega, scanFrom, if_neg (by omega), if_neg hd, if_pos hp]
theorem scanAt_step (p : Nat → Bool) (u : ByteArray) (i : Nat) (h : i < u.size) (hd : byteOf u i ≠ 36) (hp : p (byteOf u i) = false) : scanAt p u i = scanAt p u (i + 1) := by
 unfold scanAt
 rw [show u.size - i = (u.size - (i + 1)) + 1 by omega, scanFrom, if_neg (by omega), if_neg hd, if_neg (by rw [hp]; decide)]
theorem scanAt_le (p : Nat → Bool) (u : ByteArray) : ∀ (g i : Nat), u.size - i ≤ g → i ≤ u.size + 1 → i ≤ scanAt p u i ∧ scanAt p u i ≤ u.size + 1 := by
 intro g
 induction g with
 | zero => intro i h hi; rw [scanAt_end _ _ _ (by omega)]; omega
 | succ g ih =>
  intro i h hi
  by_cases c : u.size ≤ i
  ·rw [scanAt_end _ _ _ c]; omega
  ·by_cases d : byteOf u i = 36
   ·rw [scanAt_dol _ _ _ (by omega) d]; have := ih (i + 2) (by omega) (by omega); omega
   ·cases q : p (byteOf u i) with
    | true => rw [scanAt_hit _ _ _ (by omega) d q]; omega
    | false => rw [scanAt_step _ _ _ (by omega) d q]; have := ih (i + 1) (by omega) (by omega); omega
theorem scanB_le (p : Nat → Bool) (u : ByteArray) : scanB p u ≤ u.size + 1 := (scanAt_le p u _ 0 (Nat.le_refl _) (by omega)).2
theorem word_plain (t : ByteArray) (q : Nat) (h : q < wordLenB t) : byteOf t q ≠ 36 := by
 have hw : ∀ (l : List UInt8) (q : Nat), q < spanL wordByte l → ∃ c, l[q]? = some c ∧ wordByte c.toNat = true := by
  intro l
  induction l with
  | nil => intro q h; exact absurd h (Nat.not_lt_zero _)
  | cons c r ih =>
   intro q h
   rw [spanL] at h
   by_cases hc : wordByte c.toNat = true
   ·rw [if_pos hc] at h
    cases q with
    | zero => exact ⟨c, rfl, hc⟩
    | succ q => exact ih q (by omega)
   ·rw [if_neg hc] at h; omega
 obtain ⟨c, h1, h2⟩ := hw _ q h
 rw [byteOf_get h1]
 intro e
 rw [e] at h2
 exact absurd h2 (by decide)
theorem form_plain {u : ByteArray} {i k : Nat} {f : Form} (h : formAt u i = some (f, k)) (q : Nat) (a : i + 2 ≤ q) (b : q < k) : byteOf u q ≠ 36 := by
 have hk := formAt_le h
 unfold formAt at h
 split at h
 ·cases h
 split at h
 ·have := (Prod.mk.inj (Option.some.inj h)).2; omega
 split at h
 ·split at h
  ·cases h
  ·rename_i h1 h2 h3 h4
   have e := (Prod.mk.inj (Option.some.inj h)).2
   rcases Nat.lt_or_ge q (i + 2 + wordLenB (u.extract (i + 2) u.size)) with c | c
   ·have := word_plain (u.extract (i + 2) u.size) (q - (i + 2)) (by omega)
    rw [byteOf_extract _ _ _ _ (by omega) (Nat.le_refl _), show i + 2 + (q - (i + 2)) = q by omega] at this
    exact this
   ·rw [show q = i + 2 + wordLenB (u.extract (i + 2) u.size) by omega]
    omega
 split at h
 ·cases h
 ·have e := (Prod.mk.inj (Option.some.inj h)).2
  have := word_plain (u.extract (i + 1) u.size) (q - (i + 1)) (by omega)
  rw [byteOf_extract _ _ _ _ (by omega) (Nat.le_refl _), show i + 1 + (q - (i + 1)) = q by omega] at this
  exact this
theorem scan_past (E : ByteArray → ByteArray) (p : Nat → Bool) (u : ByteArray) : ∀ (g i : Nat), u.size - i ≤ g → i < u.size → scanAt p u i = u.size + 1 → ∀ out, expandAt E u i out = none := by
 intro g
 induction g with
 | zero => intro i h hi; omega
 | succ g ih =>
  intro i h hi hs out
  by_cases d : byteOf u i = 36
  ·rw [scanAt_dol _ _ _ hi d] at hs
   cases hf : formAt u i with
   | none => exact expandAt_none _ _ _ _ hi d hf
   | some fk =>
    obtain ⟨f, k⟩ := fk
    have hle := formAt_le hf
    rw [expandAt_form _ _ _ _ _ _ hi d hf]
    have hk : scanAt p u (i + 2) = u.size + 1 → k < u.size ∧ scanAt p u k = u.size + 1 := by
     have hrun : ∀ (m j : Nat), j + m = k → (∀ q, j ≤ q → q < k → byteOf u q ≠ 36) → scanAt p u j = u.size + 1 → scanAt p u k = u.size + 1 := by
      intro m
      induction m with
      | zero => intro j hj _ h; rw [show k = j by omega]; exact h
      | succ m ihm =>
       intro j hj hq h
       refine ihm (j + 1) (by omega) (fun q a b => hq q (by omega) b) ?_
       have hd := hq j (Nat.le_refl _) (by omega)
       cases hp : p (byteOf u j) with
       | true => rw [scanAt_hit _ _ _ (by omega) hd hp] at h; omega
       | false => rw [scanAt_step _ _ _ (by omega) hd hp] at h; exact h
     intro h2
     have h3 : scanAt p u k = u.size + 1 := hrun (k - (i + 2)) (i + 2) (by omega) (fun q a b => form_plain hf q a b) h2
     refine ⟨?_, h3⟩
     rcases Nat.lt_or_ge k u.size with c | c
     ·exact c
     ·rw [scanAt_end _ _ _ c] at h3; omega
    have := hk hs
    split
    ·rfl
    ·exact ih k (by omega) this.1 this.2 _
  ·rw [expandAt_plain _ _ _ _ hi d]
   cases q : p (byteOf u i) with
   | true => rw [scanAt_hit _ _ _ hi d q] at hs; omega
   | false =>
    rw [scanAt_step _ _ _ hi d q] at hs
    refine ih (i + 1) (by omega) ?_ hs _
    rcases Nat.lt_or_ge (i + 1) u.size with c | c
    ·exact c
    ·rw [scanAt_end _ _ _ c] at hs; omega
theorem indexByte_any (s : ByteArray) (c : Int) (w : World) :
  Calls Tryz.prog 318 #[.string s, .int .u8 c] w fun e w' => e = .returned (.int .i64 (Lib.indexByte s.data.toList c.toNat.toUInt8)) ∧ w' = w := by
 go_enter Tryz.func318, Tryz.ntmps318
 go_wp2_with fail
 refine (Any.stringslite_IndexByte Tryz.lays217 s c _).mono ?_
 rintro e w' ⟨rfl, rfl⟩
 go_wp2
 go_ret
 exact ⟨rfl, rfl⟩
set_option maxHeartbeats 2000000 in
theorem freeIndex_any (p : Nat → Bool) (u bs : ByteArray) (hp : ∀ c, c < 256 → decide ((0 : Int) ≤ Lib.indexByte bs.data.toList c.toUInt8) = p c) (hu : u.size ≤ 1048576) (w : World) :
  Calls Tryz.prog 265 #[.string u, .string bs] w fun e w' => e = .returned (.int .i64 ((min (scanB p u) u.size : Nat) : Int)) ∧ w' = w := by
 have HP : Hid (∀ c, c < 256 → decide ((0 : Int) ≤ Lib.indexByte bs.data.toList c.toUInt8) = p c) := hp
 have u0 : (u.size : Int) ≤ 1048576 := by omega
 clear hp
 go_enter Tryz.func265, Tryz.ntmps265
 go_wp2_with fail
 go_loop [5] (fun i => ∃ j : Nat, i = .int .i64 j ∧ j ≤ u.size + 1 ∧ scanAt p u j = scanB p u) (fun i => u.size + 1 - (intOf i).toNat)
 case atStart => exact ⟨0, rfl, Nat.zero_le _, rfl⟩
 case round =>
  obtain ⟨j, rfl, hle, hag⟩ := hrel
  have HAG : Hid (scanAt p u j = scanB p u) := hag
  clear hag
  have j0 : (0 : Int) ≤ (j : Int) := by omega
  by_cases hlt : j < u.size
  ·have j1 : (j : Int) < (u.size : Int) := by omega
   have hidx : ∀ wx, (Instr.index 9 (.string u) (.int .i64 j)).run Tryz.prog wx = .ok (.int .u8 (byteOf u j)) wx := fun wx => run_index_text u j hlt wx
   have hb := byteOf_lt u j
   have HSC : Hid ((byteOf u j = 36 → scanAt p u (j + 2) = scanB p u) ∧ (byteOf u j ≠ 36 → p (byteOf u j) = true → scanB p u = j) ∧ (byteOf u j ≠ 36 → p (byteOf u j) = false → scanAt p u (j + 1) = scanB p u)) :=
    ⟨fun h => (scanAt_dol p u j hlt h).symm.trans HAG.out, fun h1 h2 => HAG.out.symm.trans (scanAt_hit p u j hlt h1 h2), fun h1 h2 => (scanAt_step p u j hlt h1 h2).symm.trans HAG.out⟩
   generalize byteOf u j = x at *
   by_cases hd : x = 36
   ·subst hd
    have HN := HSC.out.1 rfl
    have HN : Hid (scanAt p u (j + 2) = scanB p u) := HN
    go_wp2_with fail
    exact ⟨⟨j + 2, by go_num, by omega, HN.out⟩, by simp [intOf]; omega⟩
   ·have hd2 : ((x : Int) == 36) = false := by simp; omega
    have HIX : Hid (∀ wx, Calls Tryz.prog 318 #[.string bs, .int .u8 x] wx fun e w' => e = .returned (.int .i64 (Lib.indexByte bs.data.toList x.toUInt8)) ∧ w' = wx) := fun wx => by
     have := indexByte_any bs (x : Int) wx
     rw [show ((x : Int).toNat) = x from Int.toNat_natCast x] at this
     exact this
    have hpx := HP.out x hb
    cases hq : p x with
    | true =>
     rw [hq] at hpx
     have hpx2 := of_decide_eq_true hpx
     have HN : Hid (min (scanB p u) u.size = j) := by show _ = _; rw [HSC.out.2.1 hd hq]; omega
     clear hpx
     generalize Lib.indexByte bs.data.toList x.toUInt8 = ix at *
     go_wp2_with fail
     refine (HIX.out _).mono ?_
     rintro e w' ⟨rfl, rfl⟩
     go_wp2_with fail
     go_ret
     exact ⟨by rw [HN.out]; rfl, rfl⟩
    | false =>
     rw [hq] at hpx
     have hpx2 := of_decide_eq_false hpx
     have HN : Hid (scanAt p u (j + 1) = scanB p u) := HSC.out.2.2 hd hq
     clear hpx
     generalize Lib.indexByte bs.data.toList x.toUInt8 = ix at *
     go_wp2_with fail
     refine (HIX.out _).mono ?_
     rintro e w' ⟨rfl, rfl⟩
     go_wp2_with fail
     exact ⟨⟨j + 1, by go_num, by omega, HN.out⟩, by simp [intOf]; omega⟩
  ·have HN : Hid (min (scanB p u) u.size = u.size) := by
    show _ = _
    rw [← HAG.out, scanAt_end _ _ _ (by omega)]; omega
   have j1 : ¬ (j : Int) < (u.size : Int) := by omega
   go_wp2_with fail
   go_ret
   exact ⟨by rw [HN.out]; rfl, rfl⟩
theorem idx_colon : ∀ c, c < 256 → decide ((0 : Int) ≤ Lib.indexByte (⟨#[58]⟩ : ByteArray).data.toList c.toUInt8) = isColon c := by decide
theorem idx_sep : ∀ c, c < 256 → decide ((0 : Int) ≤ Lib.indexByte (⟨#[32, 58, 124]⟩ : ByteArray).data.toList c.toUInt8) = isSep c := by decide
end Go.Proofs.YthhbpebihgjpjaaGreatDoor

namespace Go.Proofs.YthhbpebihgjpjaaGreatDoor
set_option maxRecDepth 1000000

abbrev Line := Nat × ByteArray
def dolL (l : List UInt8) : Nat := spanL (· == 36) l.reverse
def dolB (t : ByteArray) : Nat := dolL t.data.toList
def oddB (t : ByteArray) : Bool := decide (dolB t % 2 = 1)
def partB (t : ByteArray) : ByteArray := if oddB t = true then t.extract 0 (t.size - 1) else t
def addLast (l : List Line) (s : ByteArray) : List Line := match l.getLast? with
 | none => l
 | some x => l.dropLast ++ [(x.1, x.2 ++ s)]
def joinStep (a : List Line) (on : Bool) (no : Nat) (raw : ByteArray) : List Line := if on = true then addLast a (leftB (partB raw)) else a ++ [(no, partB raw)]
def joinFrom : Nat → List ByteArray → List Line → Bool → List Line
 | _, [], a, _ => a
 | no, r :: rs, a, on => joinFrom (no + 1) rs (joinStep a on no r) (oddB r)
def nl : ByteArray := ⟨#[10]⟩
def rawB (t : ByteArray) : List ByteArray := Lib.splitB nl 0 (Lib.countB t nl) t
def linesS (t : ByteArray) : List Line := joinFrom 1 (rawB t) [] false
def saidS (t : ByteArray) : List Line := (linesS t).filter fun x => !emptyB x.2

def joinP : List ByteArray → ByteArray
 | [] => ⟨#[]⟩
 | x :: l => l.foldl (fun a y => a ++ ⟨#[32]⟩ ++ y) x
def memB (x : ByteArray) (l : List ByteArray) : Bool := l.any fun y => decide (y = x)
def Bad : Type := Fin 9
def Bad.syn : Bad := (4 : Fin 9)
def Bad.rul : Bad := (5 : Fin 9)
def Bad.twi : Bad := (6 : Fin 9)
def Bad.nam : Bad := (0 : Fin 9)
structure EdgeS where
 outs : List ByteArray
 ins : List ByteArray
 impl : List ByteArray
 ord : List ByteArray
 rule : ByteArray
 own : Binds
structure St where
 top : Binds
 rules : Binds
 edges : List EdgeS
 defs : List ByteArray
def setB : Binds → ByteArray → ByteArray → Binds
 | [], x, v => [(x, v)]
 | y :: l, x, v => if y.1 = x then (x, v) :: l else y :: setB l x v
def bindS (t : ByteArray) : Option (ByteArray × ByteArray) :=
 if wordLenB (leftB t) = 0 ∨ begins (leftB (tailB (leftB t))) 61 = false then none
 else some (headB (leftB t), leftB ((leftB (tailB (leftB t))).extract 1 (leftB (tailB (leftB t))).size))
abbrev Secs := List (ByteArray × List ByteArray)
def tBar : ByteArray := ⟨#[124]⟩
def tBars : ByteArray := ⟨#[124, 124]⟩
def tColon : ByteArray := ⟨#[58]⟩
def markB (u : ByteArray) : ByteArray :=
 if begins u 124 = true then (if 1 < u.size ∧ byteOf u 1 = 124 then tBars else tBar)
 else if begins u 58 = true then tColon else ⟨#[]⟩
def tLog : ByteArray := ⟨#[46, 108, 111, 103]⟩
def tLogNew : ByteArray := ⟨#[46, 108, 111, 103, 46, 110, 101, 119]⟩
def okName (p : ByteArray) : Bool := named p && !decide (p = tLog) && !decide (p = tLogNew)
def addPath (a : Secs) (p : ByteArray) : Secs := match a.getLast? with
 | none => a
 | some x => a.dropLast ++ [(x.1, x.2 ++ [p])]
def pathEnd (u : ByteArray) : Nat := min (scanB isSep u) u.size
def pathS (E : ByteArray → ByteArray) (t : ByteArray) : Except Bad ByteArray := match expandS E t with
 | none => .error .syn
 | some p => if okName p = true then .ok p else .error .nam
def pathsFrom (E : ByteArray → ByteArray) (ms : List ByteArray) : Nat → ByteArray → Secs → Except Bad Secs
 | 0, _, a => .ok a
 | g + 1, u, a =>
  if (leftB u).size = 0 then .ok a
  else if markB (leftB u) = ⟨#[]⟩ then
   (match pathS E ((leftB u).extract 0 (pathEnd (leftB u))) with
   | .error e => .error e
   | .ok p => pathsFrom E ms g ((leftB u).extract (pathEnd (leftB u)) (leftB u).size) (addPath a p))
  else if memB (markB (leftB u)) ms = true then pathsFrom E ms g ((leftB u).extract (markB (leftB u)).size (leftB u).size) (a ++ [(markB (leftB u), [])])
  else .error .syn
def pathsAt (E : ByteArray → ByteArray) (ms : List ByteArray) (u : ByteArray) (a : Secs) : Except Bad Secs := pathsFrom E ms (u.size + 1) u a
def pathsS (E : ByteArray → ByteArray) (ms : List ByteArray) (u : ByteArray) : Except Bad Secs := pathsAt E ms u [(⟨#[]⟩, [])]
def risingS : Secs → Bool
 | x :: y :: l => decide (x.1.size < y.1.size) && risingS (y :: l)
 | _ => true
def behindS (a : Secs) (m : ByteArray) : List ByteArray := ((a.find? fun x => decide (x.1 = m)).map (·.2)).getD []
def twiceS : List ByteArray → List ByteArray → Bool
 | _, [] => false
 | made, o :: os => memB o made || twiceS (o :: made) os
def madeS (S : St) : List ByteArray := S.edges.flatMap (·.outs)
def firstS (a : Secs) : List ByteArray := (a.head?.map (·.2)).getD []
def ownS (top : Binds) : List Line → Binds → Except (Bad × Nat) (Binds × List Line)
 | [], own => .ok (own, [])
 | x :: rest, own =>
  if begins x.2 32 = true then
   (match bindS x.2 with
   | none => .error (.syn, x.1)
   | some nv => match expandS (envOf own top) nv.2 with
     | none => .error (.syn, x.1)
     | some y => ownS top rest (setB own nv.1 y))
  else .ok (own, x :: rest)
def tCommand : ByteArray := ⟨#[99, 111, 109, 109, 97, 110, 100]⟩
def noVars (_ : ByteArray) : ByteArray := ⟨#[]⟩
abbrev Res := Except (Bad × Nat) (St × List Line)
def indented : List Line → Option (Line × List Line)
 | [] => none
 | x :: rest => if begins x.2 32 = true then some (x, rest) else none
def ruleS (S : St) (no : Nat) (t : ByteArray) (rest : List Line) : Res :=
 if wordLenB (leftB t) = 0 ∨ (leftB (tailB (leftB t))).size ≠ 0 then .error (.syn, no)
 else if (bindOf S.rules (headB (leftB t))).isSome = true then .error (.rul, no)
 else match indented rest with
  | none => .error (.syn, no)
  | some xr => match bindS xr.1.2 with
    | none => .error (.syn, xr.1.1)
    | some nv =>
     if nv.1 ≠ tCommand ∨ expandS noVars nv.2 = none then .error (.syn, xr.1.1)
     else match indented xr.2 with
      | some y => .error (.syn, y.1.1)
      | none => .ok ({ S with rules := S.rules ++ [(headB (leftB t), nv.2)] }, xr.2)
def edgeOf (outs ins : Secs) (rule : ByteArray) (own : Binds) : EdgeS :=
 { outs := firstS outs ++ behindS outs tBar, ins := firstS ins, impl := behindS ins tBar, ord := behindS ins tBars, rule := rule, own := own }
def edgeBad (S : St) (outs ins : Secs) (u : ByteArray) : Option Bad :=
 if firstS outs = [] ∨ 2 < outs.length then some .syn
 else if wordLenB u = 0 ∨ risingS ins = false then some .syn
 else if 64 ≤ S.edges.length then some .syn
 else if (bindOf S.rules (headB u)).isSome = false then some .rul
 else if twiceS (madeS S) (firstS outs ++ behindS outs tBar) = true then some .twi
 else none
def buildS (S : St) (no : Nat) (t : ByteArray) (rest : List Line) : Res :=
 if t.size ≤ scanB isColon t then .error (.syn, no)
 else match pathsS (envOf [] S.top) [tBar] (t.extract 0 (scanB isColon t)) with
  | .error e => .error (e, no)
  | .ok outs => match pathsS (envOf [] S.top) [tBar, tBars] (tailB (leftB (t.extract (scanB isColon t + 1) t.size))) with
    | .error e => .error (e, no)
    | .ok ins => match edgeBad S outs ins (leftB (t.extract (scanB isColon t + 1) t.size)) with
      | some e => .error (e, no)
      | none => match ownS S.top rest [] with
        | .error e => .error e
        | .ok ol => .ok ({ S with edges := S.edges ++ [edgeOf outs ins (headB (leftB (t.extract (scanB isColon t + 1) t.size))) ol.1] }, ol.2)
def tRule : ByteArray := ⟨#[114, 117, 108, 101]⟩
def tBuild : ByteArray := ⟨#[98, 117, 105, 108, 100]⟩
def tDefault : ByteArray := ⟨#[100, 101, 102, 97, 117, 108, 116]⟩
def defaultS (S : St) (no : Nat) (t : ByteArray) (rest : List Line) : Res :=
 match pathsS (envOf [] S.top) [] t with
 | .error e => .error (e, no)
 | .ok a => if firstS a = [] then .error (.syn, no) else .ok ({ S with defs := S.defs ++ firstS a }, rest)
def varS (S : St) (no : Nat) (t : ByteArray) (rest : List Line) : Res :=
 match bindS t with
 | none => .error (.syn, no)
 | some nv => match expandS (envOf [] S.top) nv.2 with
   | none => .error (.syn, no)
   | some y => .ok ({ S with top := setB S.top nv.1 y }, rest)
def stmtS (S : St) (no : Nat) (t : ByteArray) (rest : List Line) : Res :=
 if begins t 32 = true then .error (.syn, no)
 else if keywordB t tRule = true then ruleS S no (t.extract 4 t.size) rest
 else if keywordB t tBuild = true then buildS S no (t.extract 5 t.size) rest
 else if keywordB t tDefault = true then defaultS S no (t.extract 7 t.size) rest
 else varS S no t rest
def runS : Nat → St → List Line → Except (Bad × Nat) St
 | 0, S, _ => .ok S
 | _ + 1, S, [] => .ok S
 | g + 1, S, x :: rest => match stmtS S x.1 x.2 rest with
   | .error e => .error e
   | .ok Sr => runS g Sr.1 Sr.2
def tIn : ByteArray := ⟨#[105, 110]⟩
def tOut : ByteArray := ⟨#[111, 117, 116]⟩
def ownAll (e : EdgeS) : Binds := setB (setB e.own tIn (joinP e.ins)) tOut (joinP e.outs)
def commandS (S : St) (e : EdgeS) : Option ByteArray := expandS (envOf (ownAll e) S.top) ((bindOf S.rules e.rule).getD ⟨#[]⟩)
def commandsS (S : St) : List EdgeS → Option (List ByteArray)
 | [] => some []
 | e :: l => match commandS S e with
   | none => none
   | some c => (commandsS S l).map (c :: ·)
def St.none : St := ⟨[], [], [], []⟩
def parseS (t : ByteArray) : Except (Bad × Nat) (St × List ByteArray) :=
 if 4000 < t.size then .error (.syn, 0)
 else match runS (saidS t).length St.none (saidS t) with
  | .error e => .error e
  | .ok S => match commandsS S S.edges with
    | .none => .error (.syn, 0)
    | some cs => .ok (S, cs)
end Go.Proofs.YthhbpebihgjpjaaGreatDoor
