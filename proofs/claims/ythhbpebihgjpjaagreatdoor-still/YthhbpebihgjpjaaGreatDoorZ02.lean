import Derived.Test.YthhbpebihgjpjaaGreatDoorZ01
import Derived.WalkLawsBesides
namespace Go.Proofs.YthhbpebihgjpjaaGreatDoor
set_option maxHeartbeats 20000000
set_option linter.all false
section
open Go.RowKit
theorem aZ(w:aj)(o:Obj)(i:Nat)(h:i<w.heap.size):(w.alloc o).heap[i]?=w.heap[i]?:=Below.heap_alloc w o i h
theorem aW(w:aj)(o:Obj)(i:Nat)(h:i=w.heap.size):(w.alloc o).heap[i]?=some o:=by
 subst h;show(w.heap.push o)[w.heap.size]?=_
 simp
theorem oM(g:Nat)(vs:List Value):∀(o:Nat) (w:aj) (k:Nat),k≠g->(w.setCells g o vs).heap[k]?=w.heap[k]?:=by
 induction vs with
 |nil=>intro o w k h;rfl
 |cons v r ih=>
  intro o w k h;show((w.setCell ⟨g,o,none⟩ v).setCells g (o+1) r).heap[k]?=_;rw[ih _ _ k h,iP h]
variable {g:Nat}
theorem ji{B:Nat}(vs:List Value):∀(o:Nat) {w0 w:aj},Below B w0 w->B<=g->Below B w0 (w.setCells g o vs):=by
 induction vs with
 |nil=>intro o w0 w h _;exact h
 |cons v r ih=>
  intro o w0 w h hB;exact ih (o+1) (h.setCell (p:=⟨g,o,none⟩) hB v) hB
theorem abl(g:Nat)(t:TypeId)(vs:List Value):∀(o:Nat) (cs:Array Value) (w:aj),w.heap[g]?=some (.cells cs t (0,0))->o+vs.length<=cs.size->
  ∃cs',(w.setCells g o vs).heap[g]?=some (.cells cs' t (0,0))/\cs'.size=cs.size/\(∀j,cs'[j]?=if o<=j/\j<o+vs.length then vs[j-o]? else cs[j]?):=by
 induction vs with
 |nil=>
  intro o cs w hg _;exact⟨cs,hg,rfl,fun j=>by rw[ax (by intro h;simp at h;omega)]⟩
 |cons v r ih=>
  intro o cs w hg hl;simp only[aS] at hl;obtain⟨cs',h1,h2,h3⟩:=ih (o+1) (cs.setIfInBounds o v) (w.setCell ⟨g,o,none⟩ v) (eO w g o cs t v hg) (by simp;omega);refine⟨cs',h1,by simpa using h2,fun j=>?_⟩;rw[h3 j];simp only[aS]
  by_cases e:j=o
  ·subst e;rw[ax (by omega),aD (by omega),Bt]
   simp;omega
  by_cases e2:o+1<=j/\j<o+1+r.length
  ·rw[aD e2,aD (by omega)]
   have:j-o=(j-(o+1))+1:=by omega
   rw[this,iE]
  rw[ax e2,ax (by omega),Bt,ax (fun h=>e h.symm)]
theorem mJ(g:Nat)(t:TypeId)(xs cs:Array Value)(w:aj)(hg:w.heap[g]?=some (.cells cs t (0,0)))(hl:xs.size=cs.size):
  (w.setCells g 0 xs.toList).heap[g]?=some (.cells xs t (0,0)):=by
 obtain⟨cs',h1,h2,h3⟩:=abl g t xs.toList 0 cs w hg (by simp;omega)
 have e:cs'=xs:=by
  apply Array.ext_getElem?;intro j;rw[h3 j]
  by_cases h:j<xs.size
  ·rw[aD (by simp;omega)];simp
  rw[ax (by simp;omega),eU (by omega),eU (by omega)]
 rw[h1,e]
theorem bM{w:aj}{t:TypeId}{cs:Array Value}(hg:w.heap[g]?=some (.cells cs t (0,0)))(o n:Nat)(h:o+n<=cs.size):w.there g o n:=by
 intro j hj;rw[bZ hg];exact⟨by rw[wB (by omega)];rfl,iG hg⟩
