import Derived.Test.YthhbpebihgjpjaaGreatDoorZ03
import Derived.Maps.AppendAt
namespace Go.Proofs.YthhbpebihgjpjaaGreatDoor
set_option maxRecDepth 1000000
set_option maxHeartbeats 20000000
set_option linter.all false
section
open Go.RowKit
abbrev bP:=ah×ah
def uw(l:List bP):List Value:=l.flatMap fun x=>[.string x.1,.string x.2]
theorem Na(l r:List bP):uw (l++r)=uw l++uw r:=by simp[uw]
theorem Ht(l:List bP):∀i x,l[i]?=some x->(uw l)[i*2]?=some (.string x.1)/\(uw l)[i*2+1]?=some (.string x.2):=by
 induction l with
 |nil=>intro i x h;simp at h
 |cons y r ih=>
  intro i x h
  cases i with
  |zero=>simp at h;subst h;exact⟨rfl,rfl⟩
  |succ i=>
   have:=ih i x (by simpa using h);have e:uw (y::r)=.string y.1::.string y.2::uw r:=rfl;rw[e,show(i+1)*2=(i*2+1)+1 by omega,show i*2+1+1+1=(i*2+1+1)+1 by omega]
   simpa using this
variable {a b:ah}
theorem xL(h:(a.toList==b.toList)=true):a=b:=by
 rw[eG,eG] at h
 have h2:a.data.toList=b.data.toList:=by simpa using h
 cases a;cases b
 simp at h2
 rw[h2]
theorem Xr(h:(a.toList==b.toList)=false):a≠b:=by
 rintro rfl
 simp at h
def pE(name:ah):List bP->Nat->Int
 |[],_=>-1
 |x::r,k=>if x.1=name then (k:Int) else pE name r (k+1)
def iW(l:List bP)(name:ah):Int:=pE name l 0
theorem ZH(w:ak)(cs:List Value)(t:TypeId):∀j u,cs[j]?=some u->(w.alloc (.cells cs.toArray t)).cell? ((⟨w.heap.size,0,none⟩:Addr).add j)=some u:=by
 intro j u hu
 have hadd:(⟨w.heap.size,0,none⟩:Addr).add j=⟨w.heap.size,j,none⟩:=by unfold Addr.add;split<;>simp_all
 rw[hadd,aj _ _ _ _ _ _ (bq w _ _ rfl)]
 simpa using hu
def iO(l:List bP)(name:ah):List bP:=l.filter fun x=>decide (x.1≠name)
theorem aag(l:List bP)(j:Nat)(x:bP)(h:l[j]?=some x):l.take (j+1)=l.take j++[x]:=by
 have hj:=(aN.1 h).1;rw[jk hj]
 congr 2
 exact(aN.1 h).2
end
end Go.Proofs.YthhbpebihgjpjaaGreatDoor
