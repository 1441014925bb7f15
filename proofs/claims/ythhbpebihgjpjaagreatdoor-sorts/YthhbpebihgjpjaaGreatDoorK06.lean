import Derived.Test.YthhbpebihgjpjaaGreatDoorK04
import Derived.Test.YthhbpebihgjpjaaGreatDoorK05
namespace Go.Proofs.YthhbpebihgjpjaaGreatDoor
set_option maxRecDepth 1000000

/-- A line: its number, its text. -/
abbrev Line := Nat × ByteArray
/-- How many `$` end a text; it without the last, where they are odd. -/
def dolL (l : List UInt8) : Nat := spanL (· == 36) l.reverse
def dolB (t : ByteArray) : Nat := dolL t.data.toList
def oddB (t : ByteArray) : Bool := decide (dolB t % 2 = 1)
def partB (t : ByteArray) : ByteArray := if oddB t = true then t.extract 0 (t.size - 1) else t
def addLast (l : List Line) (s : ByteArray) : List Line := match l.getLast? with
  | none => l
  | some x => l.dropLast ++ [(x.1, x.2 ++ s)]
def joinStep (a : List Line) (on : Bool) (no : Nat) (raw : ByteArray) : List Line := if on = true then addLast a (leftB (partB raw)) else a ++ [(no, partB raw)]
def joinFrom : Nat → List ByteArray → List Line → Bool → List Line
  | _, [], a, _ => a
  | no, r :: rs, a, on => joinFrom (no + 1) rs (joinStep a on no r) (oddB r)
def nl : ByteArray := ⟨#[10]⟩
def rawB (t : ByteArray) : List ByteArray := Lib.splitB nl 0 (Lib.countB t nl) t
def linesS (t : ByteArray) : List Line := joinFrom 1 (rawB t) [] false
/-- .. those that are something. -/
def saidS (t : ByteArray) : List Line := (linesS t).filter fun x => !emptyB x.2

/-- Texts with a blank between. -/
def joinP : List ByteArray → ByteArray
  | [] => ⟨#[]⟩
  | x :: l => l.foldl (fun a y => a ++ ⟨#[32]⟩ ++ y) x
def memB (x : ByteArray) (l : List ByteArray) : Bool := l.any fun y => decide (y = x)
def Bad : Type := Fin 9
def Bad.syn : Bad := (4 : Fin 9)
def Bad.rul : Bad := (5 : Fin 9)
def Bad.twi : Bad := (6 : Fin 9)
def Bad.nam : Bad := (0 : Fin 9)
structure EdgeS where
  outs : List ByteArray
  ins : List ByteArray
  impl : List ByteArray
  ord : List ByteArray
  rule : ByteArray
  own : Binds
structure St where
  top : Binds
  rules : Binds
  edges : List EdgeS
  defs : List ByteArray
def setB : Binds → ByteArray → ByteArray → Binds
  | [], x, v => [(x, v)]
  | y :: l, x, v => if y.1 = x then (x, v) :: l else y :: setB l x v
/-- NAME = VALUE. -/
def bindS (t : ByteArray) : Option (ByteArray × ByteArray) :=
  if wordLenB (leftB t) = 0 ∨ begins (leftB (tailB (leftB t))) 61 = false then none
  else some (headB (leftB t), leftB ((leftB (tailB (leftB t))).extract 1 (leftB (tailB (leftB t))).size))
/-- Paths, and the mark ahead of them. -/
abbrev Secs := List (ByteArray × List ByteArray)
def tBar : ByteArray := ⟨#[124]⟩
def tBars : ByteArray := ⟨#[124, 124]⟩
def tColon : ByteArray := ⟨#[58]⟩
def markB (u : ByteArray) : ByteArray :=
  if begins u 124 = true then (if 1 < u.size ∧ byteOf u 1 = 124 then tBars else tBar)
  else if begins u 58 = true then tColon else ⟨#[]⟩
def tLog : ByteArray := ⟨#[46, 108, 111, 103]⟩
def tLogNew : ByteArray := ⟨#[46, 108, 111, 103, 46, 110, 101, 119]⟩
def okName (p : ByteArray) : Bool := named p && !decide (p = tLog) && !decide (p = tLogNew)
def addPath (a : Secs) (p : ByteArray) : Secs := match a.getLast? with
  | none => a
  | some x => a.dropLast ++ [(x.1, x.2 ++ [p])]
def pathEnd (u : ByteArray) : Nat := min (scanB isSep u) u.size
def pathS (E : ByteArray → ByteArray) (t : ByteArray) : Except Bad ByteArray := match expandS E t with
  | none => .error .syn
  | some p => if okName p = true then .ok p else .error .nam
def pathsFrom (E : ByteArray → ByteArray) (ms : List ByteArray) : Nat → ByteArray → Secs → Except Bad Secs
  | 0, _, a => .ok a
  | g + 1, u, a =>
    if (leftB u).size = 0 then .ok a
    else if markB (leftB u) = ⟨#[]⟩ then
      (match pathS E ((leftB u).extract 0 (pathEnd (leftB u))) with
      | .error e => .error e
      | .ok p => pathsFrom E ms g ((leftB u).extract (pathEnd (leftB u)) (leftB u).size) (addPath a p))
    else if memB (markB (leftB u)) ms = true then pathsFrom E ms g ((leftB u).extract (markB (leftB u)).size (leftB u).size) (a ++ [(markB (leftB u), [])])
    else .error .syn
def pathsAt (E : ByteArray → ByteArray) (ms : List ByteArray) (u : ByteArray) (a : Secs) : Except Bad Secs := pathsFrom E ms (u.size + 1) u a
def pathsS (E : ByteArray → ByteArray) (ms : List ByteArray) (u : ByteArray) : Except Bad Secs := pathsAt E ms u [(⟨#[]⟩, [])]
def risingS : Secs → Bool
  | x :: y :: l => decide (x.1.size < y.1.size) && risingS (y :: l)
  | _ => true
def behindS (a : Secs) (m : ByteArray) : List ByteArray := ((a.find? fun x => decide (x.1 = m)).map (·.2)).getD []
/-- Is one of these made twice? -/
def twiceS : List ByteArray → List ByteArray → Bool
  | _, [] => false
  | made, o :: os => memB o made || twiceS (o :: made) os
def madeS (S : St) : List ByteArray := S.edges.flatMap (·.outs)
def firstS (a : Secs) : List ByteArray := (a.head?.map (·.2)).getD []
/-- The bindings behind a build line. -/
def ownS (top : Binds) : List Line → Binds → Except (Bad × Nat) (Binds × List Line)
  | [], own => .ok (own, [])
  | x :: rest, own =>
    if begins x.2 32 = true then
      (match bindS x.2 with
      | none => .error (.syn, x.1)
      | some nv => match expandS (envOf own top) nv.2 with
        | none => .error (.syn, x.1)
        | some y => ownS top rest (setB own nv.1 y))
    else .ok (own, x :: rest)
def tCommand : ByteArray := ⟨#[99, 111, 109, 109, 97, 110, 100]⟩
def noVars (_ : ByteArray) : ByteArray := ⟨#[]⟩
abbrev Res := Except (Bad × Nat) (St × List Line)
def indented : List Line → Option (Line × List Line)
  | [] => none
  | x :: rest => if begins x.2 32 = true then some (x, rest) else none
def ruleS (S : St) (no : Nat) (t : ByteArray) (rest : List Line) : Res :=
  if wordLenB (leftB t) = 0 ∨ (leftB (tailB (leftB t))).size ≠ 0 then .error (.syn, no)
  else if (bindOf S.rules (headB (leftB t))).isSome = true then .error (.rul, no)
  else match indented rest with
    | none => .error (.syn, no)
    | some xr => match bindS xr.1.2 with
      | none => .error (.syn, xr.1.1)
      | some nv =>
        if nv.1 ≠ tCommand ∨ expandS noVars nv.2 = none then .error (.syn, xr.1.1)
        else match indented xr.2 with
          | some y => .error (.syn, y.1.1)
          | none => .ok ({ S with rules := S.rules ++ [(headB (leftB t), nv.2)] }, xr.2)
def edgeOf (outs ins : Secs) (rule : ByteArray) (own : Binds) : EdgeS :=
  { outs := firstS outs ++ behindS outs tBar, ins := firstS ins, impl := behindS ins tBar, ord := behindS ins tBars, rule := rule, own := own }
def edgeBad (S : St) (outs ins : Secs) (u : ByteArray) : Option Bad :=
  if firstS outs = [] ∨ 2 < outs.length then some .syn
  else if wordLenB u = 0 ∨ risingS ins = false then some .syn
  else if 64 ≤ S.edges.length then some .syn
  else if (bindOf S.rules (headB u)).isSome = false then some .rul
  else if twiceS (madeS S) (firstS outs ++ behindS outs tBar) = true then some .twi
  else none
def buildS (S : St) (no : Nat) (t : ByteArray) (rest : List Line) : Res :=
  if t.size ≤ scanB isColon t then .error (.syn, no)
  else match pathsS (envOf [] S.top) [tBar] (t.extract 0 (scanB isColon t)) with
    | .error e => .error (e, no)
    | .ok outs => match pathsS (envOf [] S.top) [tBar, tBars] (tailB (leftB (t.extract (scanB isColon t + 1) t.size))) with
      | .error e => .error (e, no)
      | .ok ins => match edgeBad S outs ins (leftB (t.extract (scanB isColon t + 1) t.size)) with
        | some e => .error (e, no)
        | none => match ownS S.top rest [] with
          | .error e => .error e
          | .ok ol => .ok ({ S with edges := S.edges ++ [edgeOf outs ins (headB (leftB (t.extract (scanB isColon t + 1) t.size))) ol.1] }, ol.2)
def tRule : ByteArray := ⟨#[114, 117, 108, 101]⟩
def tBuild : ByteArray := ⟨#[98, 117, 105, 108, 100]⟩
def tDefault : ByteArray := ⟨#[100, 101, 102, 97, 117, 108, 116]⟩
def defaultS (S : St) (no : Nat) (t : ByteArray) (rest : List Line) : Res :=
  match pathsS (envOf [] S.top) [] t with
  | .error e => .error (e, no)
  | .ok a => if firstS a = [] then .error (.syn, no) else .ok ({ S with defs := S.defs ++ firstS a }, rest)
def varS (S : St) (no : Nat) (t : ByteArray) (rest : List Line) : Res :=
  match bindS t with
  | none => .error (.syn, no)
  | some nv => match expandS (envOf [] S.top) nv.2 with
    | none => .error (.syn, no)
    | some y => .ok ({ S with top := setB S.top nv.1 y }, rest)
def stmtS (S : St) (no : Nat) (t : ByteArray) (rest : List Line) : Res :=
  if begins t 32 = true then .error (.syn, no)
  else if keywordB t tRule = true then ruleS S no (t.extract 4 t.size) rest
  else if keywordB t tBuild = true then buildS S no (t.extract 5 t.size) rest
  else if keywordB t tDefault = true then defaultS S no (t.extract 7 t.size) rest
  else varS S no t rest
def runS : Nat → St → List Line → Except (Bad × Nat) St
  | 0, S, _ => .ok S
  | _ + 1, S, [] => .ok S
  | g + 1, S, x :: rest => match stmtS S x.1 x.2 rest with
    | .error e => .error e
    | .ok Sr => runS g Sr.1 Sr.2
def tIn : ByteArray := ⟨#[105, 110]⟩
def tOut : ByteArray := ⟨#[111, 117, 116]⟩
def ownAll (e : EdgeS) : Binds := setB (setB e.own tIn (joinP e.ins)) tOut (joinP e.outs)
def commandS (S : St) (e : EdgeS) : Option ByteArray := expandS (envOf (ownAll e) S.top) ((bindOf S.rules e.rule).getD ⟨#[]⟩)
def commandsS (S : St) : List EdgeS → Option (List ByteArray)
  | [] => some []
  | e :: l => match commandS S e with
    | none => none
    | some c => (commandsS S l).map (c :: ·)
def St.none : St := ⟨[], [], [], []⟩
def parseS (t : ByteArray) : Except (Bad × Nat) (St × List ByteArray) :=
  if 4000 < t.size then .error (.syn, 0)
  else match runS (saidS t).length St.none (saidS t) with
    | .error e => .error e
    | .ok S => match commandsS S S.edges with
      | .none => .error (.syn, 0)
      | some cs => .ok (S, cs)
end Go.Proofs.YthhbpebihgjpjaaGreatDoor

namespace Go.Proofs.YthhbpebihgjpjaaGreatDoor
set_option maxRecDepth 1000000

/-- All that an edge hangs on. -/
def depsS (e : EdgeS) : List ByteArray := e.ins ++ (e.impl ++ e.ord)
/-- Which edge makes a file. -/
def makerS (es : List EdgeS) (x : ByteArray) : Option Nat := es.findIdx? fun e => memB x e.outs
def needS (es : List EdgeS) (e : EdgeS) : List Nat := (depsS e).filterMap (makerS es)
def needsS (es : List EdgeS) : List (List Nat) := es.map (needS es)
/-- The walk's steps, the last that was begun first: an edge, and what it needs that was not looked at yet. -/
abbrev Stk := List (Nat × List Nat)
/-- The walk, by steps: s: 0 unseen, 1 begun, 2 walked; o: the order so far. -/
def walkM (N : List (List Nat)) : Nat → Stk → List Nat → List Nat → Bool × List Nat × List Nat
  | 0, _, s, o => (true, s, o)
  | _ + 1, [], s, o => (true, s, o)
  | f + 1, (p, []) :: k, s, o => walkM N f k (s.set p 2) (o ++ [p])
  | f + 1, (p, n :: l) :: k, s, o =>
    if s.getD n 0 = 1 then (false, s, o)
    else if s.getD n 0 = 2 then walkM N f ((p, l) :: k) s o
    else walkM N f ((n, N.getD n []) :: (p, l) :: k) (s.set n 1) o
/-- What is still to be done, at most. -/
def unseenW (N : List (List Nat)) : List Nat → Nat → Nat
  | [], _ => 0
  | x :: s, i => (if x = 0 then (N.getD i []).length + 2 else 0) + unseenW N s (i + 1)
def stkW (k : Stk) : Nat := (k.map fun x => x.2.length + 1).sum
def workM (N : List (List Nat)) (k : Stk) (s : List Nat) : Nat := unseenW N s 0 + stkW k
theorem unseenW_begin (N : List (List Nat)) : ∀ (s : List Nat) (i p : Nat), p < s.length → s.getD p 0 = 0 → unseenW N (s.set p 1) i + ((N.getD (i + p) []).length + 2) = unseenW N s i
  | [], _, p, h, _ => absurd h (Nat.not_lt_zero p)
  | x :: s, i, 0, _, h => by
    have hx : x = 0 := h
    subst hx
    show (if (1 : Nat) = 0 then _ else 0) + unseenW N s (i + 1) + _ = (if (0 : Nat) = 0 then _ else 0) + unseenW N s (i + 1)
    rw [if_neg (by decide), if_pos rfl, show i + 0 = i from rfl]; omega
  | x :: s, i, p + 1, h, hx => by
    have ih := unseenW_begin N s (i + 1) p (Nat.lt_of_succ_lt_succ h) hx
    show (if x = 0 then _ else 0) + unseenW N (s.set p 1) (i + 1) + _ = (if x = 0 then _ else 0) + unseenW N s (i + 1)
    rw [show i + (p + 1) = i + 1 + p by omega]
    omega
theorem unseenW_end (N : List (List Nat)) : ∀ (s : List Nat) (i p : Nat), unseenW N (s.set p 2) i ≤ unseenW N s i
  | [], _, _ => Nat.le_refl _
  | x :: s, i, 0 => by
    show (if (2 : Nat) = 0 then _ else 0) + unseenW N s (i + 1) ≤ (if x = 0 then _ else 0) + unseenW N s (i + 1)
    rw [if_neg (by decide)]; omega
  | x :: s, i, p + 1 => by
    have ih := unseenW_end N s (i + 1) p
    show (if x = 0 then _ else 0) + unseenW N (s.set p 2) (i + 1) ≤ (if x = 0 then _ else 0) + unseenW N s (i + 1)
    omega
theorem stkW_cons (x : Nat × List Nat) (k : Stk) : stkW (x :: k) = x.2.length + 1 + stkW k := by simp [stkW]
theorem work_pop (N : List (List Nat)) (p : Nat) (k : Stk) (s : List Nat) : workM N k (s.set p 2) < workM N ((p, []) :: k) s := by
  have := unseenW_end N s 0 p
  unfold workM
  rw [stkW_cons]
  simp only [List.length_nil]
  omega
theorem work_skip (N : List (List Nat)) (p n : Nat) (l : List Nat) (k : Stk) (s : List Nat) : workM N ((p, l) :: k) s < workM N ((p, n :: l) :: k) s := by
  unfold workM
  rw [stkW_cons, stkW_cons]
  simp only [List.length_cons]
  omega
theorem work_push (N : List (List Nat)) (p n : Nat) (l : List Nat) (k : Stk) (s : List Nat) (hn : n < s.length) (h0 : s.getD n 0 = 0) : workM N ((n, N.getD n []) :: (p, l) :: k) (s.set n 1) < workM N ((p, n :: l) :: k) s := by
  have h := unseenW_begin N s 0 n hn h0
  rw [Nat.zero_add] at h
  unfold workM
  rw [stkW_cons, stkW_cons, stkW_cons]
  simp only [List.length_cons]
  omega
/-- Every place is one; each is unseen, begun or walked. -/
structure Fits (N : List (List Nat)) (k : Stk) (s : List Nat) : Prop where
  len : s.length = N.length
  three : ∀ i, s.getD i 0 ≤ 2
  stk : ∀ x ∈ k, x.1 < N.length ∧ ∀ n ∈ x.2, n < N.length
  needs : ∀ i, ∀ n ∈ N.getD i [], n < N.length
theorem getD_set {s : List Nat} {p v i : Nat} (hp : p < s.length) : (s.set p v).getD i 0 = if i = p then v else s.getD i 0 := by
  by_cases h : i = p
  · subst h; rw [if_pos rfl]; simp [List.getD_eq_getElem?_getD, hp]
  · rw [if_neg h]; simp [List.getD_eq_getElem?_getD, List.getElem?_set_ne (fun e => h e.symm)]
theorem Fits.set {N : List (List Nat)} {k : Stk} {s : List Nat} (h : Fits N k s) {p v : Nat} (hp : p < N.length) (hv : v ≤ 2) : Fits N k (s.set p v) where
  len := by rw [List.length_set]; exact h.len
  three := fun i => by
    rw [getD_set (by rw [h.len]; exact hp)]
    by_cases e : i = p
    · rw [if_pos e]; exact hv
    · rw [if_neg e]; exact h.three i
  stk := h.stk
  needs := h.needs
theorem Fits.pop {N : List (List Nat)} {k : Stk} {s : List Nat} {x : Nat × List Nat} (h : Fits N (x :: k) s) : Fits N k s := ⟨h.len, h.three, fun y hy => h.stk y (List.mem_cons_of_mem _ hy), h.needs⟩
theorem Fits.skip {N : List (List Nat)} {k : Stk} {s : List Nat} {p n : Nat} {l : List Nat} (h : Fits N ((p, n :: l) :: k) s) : Fits N ((p, l) :: k) s := ⟨h.len, h.three, fun y hy => by
  rcases List.mem_cons.1 hy with rfl | hy
  · have := h.stk (p, n :: l) (List.mem_cons_self ..)
    exact ⟨this.1, fun m hm => this.2 m (List.mem_cons_of_mem _ hm)⟩
  · exact h.stk y (List.mem_cons_of_mem _ hy), h.needs⟩
theorem Fits.push {N : List (List Nat)} {k : Stk} {s : List Nat} {n : Nat} (h : Fits N k s) (hn : n < N.length) : Fits N ((n, N.getD n []) :: k) s := ⟨h.len, h.three, fun y hy => by
  rcases List.mem_cons.1 hy with rfl | hy
  · exact ⟨hn, h.needs n⟩
  · exact h.stk y hy, h.needs⟩
/-- More is no other. -/
theorem walkM_more (N : List (List Nat)) : ∀ (f g : Nat) (k : Stk) (s o : List Nat), Fits N k s → workM N k s < f → workM N k s < g → walkM N f k s o = walkM N g k s o
  | 0, _, _, _, _, _, h, _ => absurd h (Nat.not_lt_zero _)
  | _ + 1, 0, _, _, _, _, _, h => absurd h (Nat.not_lt_zero _)
  | f + 1, g + 1, [], s, o, _, _, _ => rfl
  | f + 1, g + 1, (p, []) :: k, s, o, hf, h1, h2 => by
    have hp := (hf.stk (p, []) (List.mem_cons_self ..)).1
    have hw := work_pop N p k s
    exact walkM_more N f g k (s.set p 2) (o ++ [p]) (hf.pop.set hp (by decide)) (by omega) (by omega)
  | f + 1, g + 1, (p, n :: l) :: k, s, o, hf, h1, h2 => by
    have hn := (hf.stk (p, n :: l) (List.mem_cons_self ..)).2 n (List.mem_cons_self ..)
    show (if s.getD n 0 = 1 then _ else if s.getD n 0 = 2 then _ else _) = (if s.getD n 0 = 1 then _ else if s.getD n 0 = 2 then _ else _)
    by_cases a : s.getD n 0 = 1
    · rw [if_pos a, if_pos a]
    · rw [if_neg a, if_neg a]
      by_cases b : s.getD n 0 = 2
      · rw [if_pos b, if_pos b]
        have hw := work_skip N p n l k s
        exact walkM_more N f g _ s o hf.skip (by omega) (by omega)
      · rw [if_neg b, if_neg b]
        have h0 : s.getD n 0 = 0 := by have := hf.three n; omega
        have hw := work_push N p n l k s (by rw [hf.len]; exact hn) h0
        exact walkM_more N f g _ _ o ((hf.skip.push hn).set hn (by decide)) (by omega) (by omega)
/-- The walk to its end. -/
def walkE (N : List (List Nat)) (k : Stk) (s o : List Nat) : Bool × List Nat × List Nat := walkM N (workM N k s + 1) k s o
theorem walkE_nil (N : List (List Nat)) (s o : List Nat) : walkE N [] s o = (true, s, o) := rfl
theorem walkE_pop {N : List (List Nat)} {p : Nat} {k : Stk} {s o : List Nat} (hf : Fits N ((p, []) :: k) s) : walkE N ((p, []) :: k) s o = walkE N k (s.set p 2) (o ++ [p]) := by
  have hp := (hf.stk (p, []) (List.mem_cons_self ..)).1
  exact walkM_more N _ _ k _ _ (hf.pop.set hp (by decide)) (work_pop N p k s) (Nat.lt_succ_self _)
theorem walkE_begun {N : List (List Nat)} {p n : Nat} {l : List Nat} {k : Stk} {s o : List Nat} (h : s.getD n 0 = 1) : walkE N ((p, n :: l) :: k) s o = (false, s, o) := if_pos h
theorem walkE_skip {N : List (List Nat)} {p n : Nat} {l : List Nat} {k : Stk} {s o : List Nat} (hf : Fits N ((p, n :: l) :: k) s) (h : s.getD n 0 = 2) : walkE N ((p, n :: l) :: k) s o = walkE N ((p, l) :: k) s o := by
  refine (if_neg (by omega)).trans ((if_pos h).trans ?_)
  exact walkM_more N _ _ _ _ _ hf.skip (work_skip N p n l k s) (Nat.lt_succ_self _)
theorem walkE_push {N : List (List Nat)} {p n : Nat} {l : List Nat} {k : Stk} {s o : List Nat} (hf : Fits N ((p, n :: l) :: k) s) (h : s.getD n 0 = 0) : walkE N ((p, n :: l) :: k) s o = walkE N ((n, N.getD n []) :: (p, l) :: k) (s.set n 1) o := by
  have hn := (hf.stk (p, n :: l) (List.mem_cons_self ..)).2 n (List.mem_cons_self ..)
  refine (if_neg (by omega)).trans ((if_neg (by omega)).trans ?_)
  exact walkM_more N _ _ _ _ _ ((hf.skip.push hn).set hn (by decide)) (work_push N p n l k s (by rw [hf.len]; exact hn) h) (Nat.lt_succ_self _)
/-- visit. -/
def visitS (N : List (List Nat)) (p : Nat) (s o : List Nat) : Bool × List Nat × List Nat :=
  if s.getD p 0 = 2 then (true, s, o) else walkE N [(p, N.getD p [])] (s.set p 1) o
/-- runsOut, from a place on: visits till one fails. -/
def runsS (N : List (List Nat)) : List Nat → List Nat → List Nat → Bool
  | [], _, _ => true
  | p :: ps, s, o => if (visitS N p s o).1 = true then runsS N ps (visitS N p s o).2.1 (visitS N p s o).2.2 else false
/-- The targets' walk: none where one is made by no edge. -/
def walksS (N : List (List Nat)) (mk : ByteArray → Option Nat) : List ByteArray → List Nat → List Nat → Option (List Nat)
  | [], _, o => some o
  | x :: xs, s, o => match mk x with
    | none => none
    | some p => walksS N mk xs (visitS N p s o).2.1 (visitS N p s o).2.2
def zerosS (n : Nat) : List Nat := List.replicate n 0
/-- The outs that no edge hangs on. -/
def lastS (es : List EdgeS) : List ByteArray := (es.flatMap (·.outs)).filter fun o => !memB o (es.flatMap depsS)
abbrev NoOrder := Bool
def goalsS (S : St) (ts : List ByteArray) : List ByteArray :=
  if ts ≠ [] then ts else if S.defs ≠ [] then S.defs else lastS S.edges
def orderS (S : St) (ts : List ByteArray) : Except NoOrder (List Nat) :=
  if runsS (needsS S.edges) (List.range S.edges.length) (zerosS S.edges.length) [] = true then
    (match walksS (needsS S.edges) (makerS S.edges) (goalsS S ts) (zerosS S.edges.length) [] with
    | none => .error true
    | some o => .ok o)
  else .error false
end Go.Proofs.YthhbpebihgjpjaaGreatDoor
