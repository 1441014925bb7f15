import Derived.Test.YthhbpebihgjpjaaGreatDoorZ03
import Derived.Maps.AppendAt
namespace Go.Proofs.YthhbpebihgjpjaaGreatDoor
set_option maxRecDepth 1000000
set_option maxHeartbeats 20000000
set_option linter.all false
section
open Go.RowKit
abbrev bL:=ah×ah
def um(l:List bL):List Value:=l.flatMap fun x=>[.string x.1,.string x.2]
theorem MX(l r:List bL):um (l++r)=um l++um r:=by simp[um]
theorem Hr(l:List bL):∀i x,l[i]?=some x->(um l)[i*2]?=some (.string x.1)/\(um l)[i*2+1]?=some (.string x.2):=by
 induction l with
 |nil=>intro i x h;simp at h
 |cons y r ih=>
  intro i x h
  cases i with
  |zero=>simp at h;subst h;exact⟨rfl,rfl⟩
  |succ i=>
   have:=ih i x (by simpa using h);have e:um (y::r)=.string y.1::.string y.2::um r:=rfl;rw[e,show(i+1)*2=(i*2+1)+1 by omega,show i*2+1+1+1=(i*2+1+1)+1 by omega]
   simpa using this
variable {a b:ah}
theorem xH(h:(a.toList==b.toList)=true):a=b:=by
 rw[dX,dX] at h
 have h2:a.data.toList=b.data.toList:=by simpa using h
 cases a;cases b
 simp at h2
 rw[h2]
theorem Xq(h:(a.toList==b.toList)=false):a≠b:=by
 rintro rfl
 simp at h
def pu(name:ah):List bL->Nat->Int
 |[],_=>-1
 |x::r,k=>if x.1=name then (k:Int) else pu name r (k+1)
def iQ(l:List bL)(name:ah):Int:=pu name l 0
theorem ZG(w:aj)(cs:List Value)(t:TypeId):∀j u,cs[j]?=some u->(w.alloc (.cells cs.toArray t)).cell? ((⟨w.heap.size,0,none⟩:Addr).add j)=some u:=by
 intro j u hu
 have hadd:(⟨w.heap.size,0,none⟩:Addr).add j=⟨w.heap.size,j,none⟩:=by unfold Addr.add;split<;>simp_all
 rw[hadd,bZ (aW w _ _ rfl)]
 simpa using hu
def iJ(l:List bL)(name:ah):List bL:=l.filter fun x=>decide (x.1≠name)
theorem aaf(l:List bL)(j:Nat)(x:bL)(h:l[j]?=some x):l.take (j+1)=l.take j++[x]:=by
 have hj:=(aJ.1 h).1;rw[jf hj]
 congr 2
 exact(aJ.1 h).2
