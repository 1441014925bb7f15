import Derived.Test.YthhbpebihgjpjaaGreatDoorZ01
import Derived.WalkLawsBesides
namespace Go.Proofs.YthhbpebihgjpjaaGreatDoor
set_option maxHeartbeats 20000000
set_option linter.all false
section
open Go.RowKit
theorem bC(w:ak)(o:Obj)(i:Nat)(h:i<w.heap.size):(w.alloc o).heap[i]?=w.heap[i]?:=Below.heap_alloc w o i h
theorem bq(w:ak)(o:Obj)(i:Nat)(h:i=w.heap.size):(w.alloc o).heap[i]?=some o:=by
 subst h;show(w.heap.push o)[w.heap.size]?=_
 simp
theorem oN(g:Nat)(vs:List Value):∀(o:Nat) (w:ak) (k:Nat),k≠g->(w.setCells g o vs).heap[k]?=w.heap[k]?:=by
 induction vs with
 |nil=>intro o w k h;rfl
 |cons v r ih=>
  intro o w k h;show((w.setCell ⟨g,o,none⟩ v).setCells g (o+1) r).heap[k]?=_;rw[ih _ _ k h,au _ _ _ _ h]
variable {g:Nat}
theorem jo{B:Nat}(vs:List Value):∀(o:Nat) {w0 w:ak},Below B w0 w->B<=g->Below B w0 (w.setCells g o vs):=by
 induction vs with
 |nil=>intro o w0 w h _;exact h
 |cons v r ih=>
  intro o w0 w h hB;exact ih (o+1) (h.setCell (p:=⟨g,o,none⟩) hB v) hB
theorem abn(g:Nat)(t:TypeId)(vs:List Value):∀(o:Nat) (cs:Array Value) (w:ak),w.heap[g]?=some (.cells cs t (0,0))->o+vs.length<=cs.size->
  ∃cs',(w.setCells g o vs).heap[g]?=some (.cells cs' t (0,0))/\cs'.size=cs.size/\(∀j,cs'[j]?=if o<=j/\j<o+vs.length then vs[j-o]? else cs[j]?):=by
 induction vs with
 |nil=>
  intro o cs w hg _;exact⟨cs,hg,rfl,fun j=>by rw[aA (by intro h;simp at h;omega)]⟩
 |cons v r ih=>
  intro o cs w hg hl;simp only[aY] at hl;obtain⟨cs',h1,h2,h3⟩:=ih (o+1) (cs.setIfInBounds o v) (w.setCell ⟨g,o,none⟩ v) (aR w g o cs t v hg) (by simp;omega);refine⟨cs',h1,by simpa using h2,fun j=>?_⟩;rw[h3 j];simp only[aY]
  by_cases e:j=o
  ·subst e;rw[aA aJ,aH aJ,Bv]
   simp;omega
  by_cases e2:o+1<=j/\j<o+1+r.length
  ·rw[aH e2,aH aJ]
   have:j-o=(j-(o+1))+1:=aJ
   rw[this,iK]
  rw[aA e2,aA aJ,Bv,aA (fun h=>e h.symm)]
theorem mQ(g:Nat)(t:TypeId)(xs cs:Array Value)(w:ak)(hg:w.heap[g]?=some (.cells cs t (0,0)))(hl:xs.size=cs.size):
  (w.setCells g 0 xs.toList).heap[g]?=some (.cells xs t (0,0)):=by
 obtain⟨cs',h1,h2,h3⟩:=abn g t xs.toList 0 cs w hg (by simp;omega)
 have e:cs'=xs:=by
  apply Array.ext_getElem?;intro j;rw[h3 j]
  by_cases h:j<xs.size
  ·rw[aH (by simp;omega)];simp
  rw[aA (by simp;omega),fq aJ,fq aJ]
 rw[h1,e]
theorem bR{w:ak}{t:TypeId}{cs:Array Value}(hg:w.heap[g]?=some (.cells cs t (0,0)))(o n:Nat)(h:o+n<=cs.size):w.there g o n:=by
 intro j hj;rw[aj _ _ _ _ _ _ hg];exact⟨by rw[wF aJ];rfl,aD _ _ _ _ _ hg⟩
end
end Go.Proofs.YthhbpebihgjpjaaGreatDoor
