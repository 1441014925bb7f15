import Derived.Test.YthhbpebihgjpjaaGreatDoorZ15
import Derived.Laws.AppendOwnNone
namespace Go.Proofs.YthhbpebihgjpjaaGreatDoor
set_option maxRecDepth 1000000
set_option maxHeartbeats 20000000
set_option linter.all false
section
open Go.RowKit
def iR(d:bS):Int×bS:=if (nJ d).down then (4,nJ d) else (0,{nJ d with safe:=(nJ d).seen,wait:=[]})
def iw(l:List lu)(j:Nat):lu:=l[j]?.getD ⟨1,⟨#[]⟩,⟨#[]⟩⟩
def jl(d:bS):Nat->List bL
 |0=>d.safe
 |j+1=>fe (jl d j) (iw d.wait j)
def oZ(d:bS)(keep:Int):Nat:=min d.wait.length keep.toNat
def MS(o:lu)(cut:Int):lu:=if cut<(o.data.size:Int) then {o with data:=o.data.extract 0 cut.toNat} else o
def iK(d:bS)(keep cut:Int):List bL:=
 if oZ d keep<d.wait.length/\(iw d.wait (oZ d keep)).kind<=2/\0<=cut then fe (jl d (oZ d keep)) (MS (iw d.wait (oZ d keep)) cut) else jl d (oZ d keep)
def BK(d:bS)(keep cut:Int):bS:={d with safe:=iK d keep cut,seen:=iK d keep cut,wait:=[],lit:=false,down:=false}
structure dQ where
 room:Int
 fuse:Int
 down:Bool
def dQ.row(d:dQ)(lk:Int)(nb sb:Nat)(sv:Value):Array Value:=#[.int .i32 lk,.int .u32 0,.int .i64 d.room,.map (some nb),.map (some sb),sv,.int .i64 d.fuse,.bool d.down]
def bC(w:aj)(fb:Nat)(d:dQ)(lk:Int)(nb sb:Nat)(sv:Value):Prop:=w.heap[fb]?=some (.cells (d.row lk nb sb sv) 95 (0,0))
variable {w:aj}{fb nb sb:Nat}{d:dQ}{lk:Int}{sv:Value}
theorem bC.lt(h:bC w fb d lk nb sb sv):fb<w.heap.size:=by
 rcases bR fb w.heap.size with c|c
 ·exact c
 unfold bC at h;rw[eU c] at h;cases h
theorem bC.setFuse(h:bC w fb d lk nb sb sv)(x:Int):bC (w.setCell ⟨fb,6,none⟩ (.int .i64 x)) fb {d with fuse:=x} lk nb sb sv:=by
 unfold bC;rw[xY h];rfl
theorem bC.setDown(h:bC w fb d lk nb sb sv)(x:Bool):bC (w.setCell ⟨fb,7,none⟩ (.bool x)) fb {d with down:=x} lk nb sb sv:=by
 unfold bC;rw[xY h];rfl
theorem bC.setRoom(h:bC w fb d lk nb sb sv)(x:Int):bC (w.setCell ⟨fb,2,none⟩ (.int .i64 x)) fb {d with room:=x} lk nb sb sv:=by
 unfold bC;rw[xY h];rfl
def gQ(d:dQ):dQ:=if 0<d.fuse then {d with fuse:=d.fuse-1,down:=d.down||decide (d.fuse-1=0)} else d
theorem Mq(n:Int)(w:aj):
  Calls Tryz.prog 48 #[.int .i64 n] w fun e w'=>e=.returned (.int .i64 (min (max n 0) 65536))/\w'=w:=by
 go_enter Tryz.func48,Tryz.ntmps48
 by_cases h0:n<0
 ·have e:min (max n 0) 65536=0:=by omega
  rw[e]
  go_wp2
  go_ret;exact⟨rfl,rfl⟩
 by_cases h1:n<=65536
 ·have e:min (max n 0) 65536=n:=by omega
  rw[e]
  have h2:0<=n:=by omega
  go_wp2
  all_goals
   go_ret;exact⟨by first|rfl|(exfalso;omega)|(show Ending.returned (.int .i64 _)=_;congr 2;omega),rfl⟩
 have e:min (max n 0) 65536=65536:=by omega
 rw[e]
 have h2:0<=n:=by omega
 go_wp2
 all_goals
  go_ret;exact⟨by first|rfl|(exfalso;omega)|(show Ending.returned (.int .i64 _)=_;congr 2;omega),rfl⟩
theorem JS(d:dQ)(fb:Nat)(lk:Int)(nb sb:Nat)(sv:Value)(w:aj)(h:bC w fb d lk nb sb sv)(hhi:d.fuse<=9223372036854775807):
  Calls Tryz.prog 123 #[.pointer (some ⟨fb,0,none⟩)] w fun e w'=>e=.returned (.bool (gQ d).down)/\bC w' fb (gQ d) lk nb sb sv/\aQ (fun k=>k=fb) w w':=by
 have HR:=aP h
 have c6:w.cell? ⟨fb,6,none⟩=some (.int .i64 d.fuse):=by rw[bZ h];rfl
 have c7:w.cell? ⟨fb,7,none⟩=some (.bool d.down):=by rw[bZ h];rfl
 have f6:w.frozen? ⟨fb,6,none⟩=false:=iG h;have f7:w.frozen? ⟨fb,7,none⟩=false:=iG h;obtain⟨room,fuse,down⟩:=d;simp only at c6 c7 hhi;clear h
 go_enter Tryz.func123,Tryz.ntmps123
 by_cases hz:0<fuse
 ·have HD:Hid (gQ ⟨room,fuse,down⟩=⟨room,fuse-1,down||decide (fuse-1=0)⟩):=by show _=_;simp[gQ,hz]
  have HR2:Hid (∀b,bC ((w.setCell ⟨fb,6,none⟩ (.int .i64 (fuse-1))).setCell ⟨fb,7,none⟩ (.bool b)) fb ⟨room,fuse-1,b⟩ lk nb sb sv):=fun b=>(HR.out.setFuse (fuse-1)).setDown b
  have HT2:Hid (∀b,aQ (fun k=>k=fb) w ((w.setCell ⟨fb,6,none⟩ (.int .i64 (fuse-1))).setCell ⟨fb,7,none⟩ (.bool b))):=fun b=>((aQ.refl (fun k=>k=fb) w).setCell ⟨fb,6,none⟩ _ (aG rfl)).setCell ⟨fb,7,none⟩ _ (aG rfl)
  cases down
  ·go_wp2
   go_ret;exact⟨by rw[HD.out];rfl,by rw[HD.out];exact HR2.out _,HT2.out _⟩
  have HD2:Hid (gQ ⟨room,fuse,true⟩=⟨room,fuse-1,true⟩):=by show _=_;rw[HD.out];rfl
  go_wp2
  go_ret;exact⟨by rw[HD2.out];rfl,by rw[HD2.out];exact HR2.out true,HT2.out true⟩
 have HD:Hid (gQ ⟨room,fuse,down⟩=⟨room,fuse,down⟩):=by show _=_;simp[gQ,hz]
 go_wp2
 go_ret;exact⟨by rw[HD.out];rfl,by rw[HD.out];exact HR.out,aQ.refl _ _⟩
end
def fM:List bL->ah->Option ah
 |[],_=>none
 |x::r,name=>if x.1=name then some x.2 else fM r name
theorem Gn(name:ah):∀(l:List bL) (k:Nat),(pu name l k=-1/\fM l name=none)\/(∃j:Nat,pu name l k=((k+j:Nat):Int)/\(l[j]?).map (·.2)=fM l name/\(fM l name).isSome/\∀x,l[j]?=some x->x.1=name):=by
 intro l
 induction l with
 |nil=>intro k;exact aG ⟨rfl,rfl⟩
 |cons y r ih=>
  intro k
  by_cases e:y.1=name
  ·refine aL ⟨0,by rw[pu,aD e];rfl,by simp[fM,e],by simp[fM,e],fun x hx=>?_⟩
   simp at hx;subst hx;exact e
  rcases ih (k+1) with ⟨h1,h2⟩|⟨j,h1,h2,h3,h4⟩
  ·exact aG ⟨by rw[pu,ax e];exact h1,by rw[fM,ax e];exact h2⟩
  refine aL ⟨j+1,?_,?_,?_,?_⟩
  ·rw[pu,ax e,h1];congr 1;omega
  ·rw[fM,ax e,<-h2];simp
  ·rw[fM,ax e];exact h3
  intro x hx;exact h4 x (by simpa using hx)
theorem Li(l:List bL)(name:ah):decide (iQ l name≠-1)=(fM l name).isSome:=by
 rcases Gn name l 0 with ⟨h1,h2⟩|⟨j,h1,_,h3,_⟩
 ·rw[iQ,h1,h2];rfl
 rw[iQ,h1,h3];simp
theorem oJ(l:List bL)(name:ah):fO l name=(fM l name).getD ⟨#[]⟩:=by
 rcases Gn name l 0 with ⟨h1,h2⟩|⟨j,h1,h2,h3,_⟩
 ·rw[fO,iQ,aD h1,h2];rfl
 rw[fO,iQ,ax (by rw[h1];omega),h1,<-h2]
 have hj:j<l.length:=by
  rcases bR j l.length with c|c
  ·exact c
  rw[gK c] at h2;rw[<-h2] at h3
  simp at h3
 show(jU l (0+j)).2=_;rw[bW,Co l j hj];rfl
theorem EP(l r:List bL)(name:ah):fM (l++r) name=(fM l name).or (fM r name):=by
 induction l with
 |nil=>simp[fM]
 |cons x l ih=>
  by_cases e:x.1=name
  ·simp[fM,e]
  simp[fM,e,ih]
theorem zl(l:List bL)(a name:ah):fM (iJ l a) name=if name=a then none else fM l name:=by
 induction l with
 |nil=>simp[iJ,fM]
 |cons x l ih=>
  unfold iJ at ih⊢
  by_cases e:x.1=a
  ·rw[yj (by simp[e]),ih]
   by_cases n:name=a
   ·simp[n]
   rw[ax n,ax n,fM,ax (by rw[e];exact fun h=>n h.symm)]
  rw[yo (by simp[e])]
  by_cases n:name=a
  ·rw[aD n,fM,ax (by rw[n];exact e),ih,aD n]
  rw[ax n] at ih⊢;rw[fM,fM,ih]
theorem VX(name:ah):∀(l:List bL) (k:Nat),k+1<l.length->(jU l (k+1)).1≠(jU l k).1->fM ((l.set (k+1) (jU l k)).set k (jU l (k+1))) name=fM l name:=by
 intro l
 induction l with
 |nil=>intro k h;simp at h
 |cons x r ih=>
  intro k hk hne
  cases k with
  |zero=>
   cases r with
   |nil=>simp at hk
   |cons y r=>
    have e0:jU (x::y::r) 0=x:=rfl;have e1:jU (x::y::r) (0+1)=y:=rfl;rw[e0,e1] at hne⊢;show fM (y::x::r) name=fM (x::y::r) name;simp only[fM]
    by_cases a:y.1=name
    ·have b:¬x.1=name:=fun h=>hne (a.trans h.symm)
     simp[a,b]
    simp[a]
  |succ k=>
   have h2:∀i,jU (x::r) (i+1)=jU r i:=fun i=>rfl
   have:=ih k (by simpa using hk) (by rw[h2,h2] at hne;exact hne);rw[h2,h2];simp only[List.set_cons_succ,fM];rw[this]
theorem Ff{a b:ah}(h:uw a b=true):a≠b:=by
 rintro rfl;unfold uw at h
 have irr:∀l:List UInt8,Op.bytesLess l l=false:=by
  intro l
  induction l with
  |nil=>rfl
  |cons x r ih=>simp[Op.bytesLess,ih]
 rw[irr] at h
 cases h
theorem Qk(name:ah):∀(k:Nat) (l:List bL),k<l.length->fM (Gc l k) name=fM l name:=by
 intro k
 induction k with
 |zero=>intro l _;rfl
 |succ k ih=>
  intro l hk;rw[Gc]
  by_cases h:uw (jU l (k+1)).1 (jU l k).1=true
  ·rw[aD h,ih _ (by simp;omega)];exact VX name l k hk (Ff h)
  rw[ax h]
theorem Zc(name:ah):∀(l:List bL) (j:Nat) (x:bL) (data:ah),(l[j]?)=some x->(∀i y,i<j->l[i]?=some y->y.1≠x.1)->fM (l.set j (x.1,data)) name=if name=x.1 then some data else fM l name:=by
 intro l
 induction l with
 |nil=>intro j x data h;simp at h
 |cons y r ih=>
  intro j x data h hb
  cases j with
  |zero=>
   simp at h;subst h
   by_cases n:name=y.1
   ·subst n;simp[fM]
   have n2:¬y.1=name:=fun h=>n h.symm
   simp[fM,n,n2]
  |succ j=>
   have hy:y.1≠x.1:=hb 0 y (by omega) rfl;have h2:=ih j x data (by simpa using h) (fun i z hi hz=>hb (i+1) z (by omega) (by simpa using hz));simp only[List.set_cons_succ,fM];rw[h2]
   by_cases n:name=x.1
   ·subst n;simp[hy]
   simp[n]
theorem Lh(name:ah):∀(l:List bL) (k j:Nat),pu name l k=((k+j:Nat):Int)->∀i y,i<j->l[i]?=some y->y.1≠name:=by
 intro l
 induction l with
 |nil=>intro k j _ i y _ h;simp at h
 |cons x r ih=>
  intro k j hp i y hi hy
  by_cases e:x.1=name
  ·rw[pu,aD e] at hp;omega
  rw[pu,ax e] at hp
  cases i with
  |zero=>simp at hy;subst hy;exact e
  |succ i=>exact ih (k+1) (j-1) (by rw[hp];congr 1;omega) i y (by omega) (by simpa using hy)
theorem zL(l:List bL)(a data name:ah):fM (xq l a data) name=if name=a then some data else fM l name:=by
 unfold xq
 rcases Gn a l 0 with ⟨h1,h2⟩|⟨j,h1,h2,h3,h4⟩
 ·rw[aD (show iQ l a=-1 from h1),Qk name l.length _ (by simp),EP]
  by_cases n:name=a
  ·subst n;simp[h2,fM]
  have n2:¬a=name:=fun h=>n h.symm
  simp[fM,n,n2]
 have hp:iQ l a=((0+j:Nat):Int):=h1;rw[ax (by rw[hp];omega),hp]
 have hj:j<l.length:=by
  rcases bR j l.length with c|c
  ·exact c
  rw[gK c] at h2;rw[<-h2] at h3
  simp at h3
 have hx:=h4 _ (Co l j hj);have h5:=Zc name l j (jU l j) data (Co l j hj) (fun i y hi hy=>by rw[hx];exact Lh a l 0 j h1 i y hi hy);rw[hx] at h5;show fM (l.set (0+j) (a,data)) name=_;rw[bW];exact h5
