import Derived.Test.YthhbpebihgjpjaaGreatDoorZ15
import Derived.Laws.AppendOwnNone
namespace Go.Proofs.YthhbpebihgjpjaaGreatDoor
set_option maxRecDepth 1000000
set_option maxHeartbeats 20000000
set_option linter.all false
section
open Go.RowKit
def iX(d:bY):Int×bY:=if (nL d).down then (4,nL d) else (0,{nL d with safe:=(nL d).seen,wait:=[]})
def iD(l:List lG)(j:Nat):lG:=l[j]?.getD ⟨1,⟨#[]⟩,⟨#[]⟩⟩
def jr(d:bY):Nat->List bP
 |0=>d.safe
 |j+1=>fC (jr d j) (iD d.wait j)
def pu(d:bY)(keep:Int):Nat:=min d.wait.length keep.toNat
def MV(o:lG)(cut:Int):lG:=if cut<(o.data.size:Int) then {o with data:=o.data.extract 0 cut.toNat} else o
def iP(d:bY)(keep cut:Int):List bP:=
 if pu d keep<d.wait.length/\(iD d.wait (pu d keep)).kind<=2/\0<=cut then fC (jr d (pu d keep)) (MV (iD d.wait (pu d keep)) cut) else jr d (pu d keep)
def BN(d:bY)(keep cut:Int):bY:={d with safe:=iP d keep cut,seen:=iP d keep cut,wait:=[],lit:=false,down:=false}
structure dX where
 room:Int
 fuse:Int
 down:Bool
def dX.row(d:dX)(lk:Int)(nb sb:Nat)(sv:Value):Array Value:=#[.int .i32 lk,.int .u32 0,.int .i64 d.room,.map (some nb),.map (some sb),sv,.int .i64 d.fuse,.bool d.down]
def bH(w:ak)(fb:Nat)(d:dX)(lk:Int)(nb sb:Nat)(sv:Value):Prop:=w.heap[fb]?=some (.cells (d.row lk nb sb sv) 95 (0,0))
variable {w:ak}{fb nb sb:Nat}{d:dX}{lk:Int}{sv:Value}
theorem bH.lt(h:bH w fb d lk nb sb sv):fb<w.heap.size:=by
 rcases bX fb w.heap.size with c|c
 ·exact c
 unfold bH at h;rw[fq c] at h;cases h
theorem bH.setFuse(h:bH w fb d lk nb sb sv)(x:Int):bH (w.setCell ⟨fb,6,none⟩ (.int .i64 x)) fb {d with fuse:=x} lk nb sb sv:=by
 unfold bH;rw[aR _ _ _ _ _ _ h];rfl
theorem bH.setDown(h:bH w fb d lk nb sb sv)(x:Bool):bH (w.setCell ⟨fb,7,none⟩ (.bool x)) fb {d with down:=x} lk nb sb sv:=by
 unfold bH;rw[aR _ _ _ _ _ _ h];rfl
theorem bH.setRoom(h:bH w fb d lk nb sb sv)(x:Int):bH (w.setCell ⟨fb,2,none⟩ (.int .i64 x)) fb {d with room:=x} lk nb sb sv:=by
 unfold bH;rw[aR _ _ _ _ _ _ h];rfl
def gY(d:dX):dX:=if 0<d.fuse then {d with fuse:=d.fuse-1,down:=d.down||decide (d.fuse-1=0)} else d
theorem Mq(n:Int)(w:ak):
  Calls Tryz.prog 48 #[.int .i64 n] w fun e w'=>e=.returned (.int .i64 (min (max n 0) 65536))/\w'=w:=by
 go_enter Tryz.func48,Tryz.ntmps48
 by_cases h0:n<0
 ·have e:min (max n 0) 65536=0:=aJ
  rw[e]
  go_wp2
  go_ret;exact⟨rfl,rfl⟩
 by_cases h1:n<=65536
 ·have e:min (max n 0) 65536=n:=aJ
  rw[e]
  have h2:0<=n:=aJ
  go_wp2
  all_goals
   go_ret;exact⟨by first|rfl|(exfalso;omega)|(show Ending.returned (.int .i64 _)=_;congr 2;omega),rfl⟩
 have e:min (max n 0) 65536=65536:=aJ
 rw[e]
 have h2:0<=n:=aJ
 go_wp2
 all_goals
  go_ret;exact⟨by first|rfl|(exfalso;omega)|(show Ending.returned (.int .i64 _)=_;congr 2;omega),rfl⟩
theorem JS(d:dX)(fb:Nat)(lk:Int)(nb sb:Nat)(sv:Value)(w:ak)(h:bH w fb d lk nb sb sv)(hhi:d.fuse<=9223372036854775807):
  Calls Tryz.prog 123 #[.pointer (some ⟨fb,0,none⟩)] w fun e w'=>e=.returned (.bool (gY d).down)/\bH w' fb (gY d) lk nb sb sv/\aW (fun k=>k=fb) w w':=by
 have HR:=aV h
 have c6:w.cell? ⟨fb,6,none⟩=some (.int .i64 d.fuse):=by rw[aj _ _ _ _ _ _ h];rfl
 have c7:w.cell? ⟨fb,7,none⟩=some (.bool d.down):=by rw[aj _ _ _ _ _ _ h];rfl
 have f6:w.frozen? ⟨fb,6,none⟩=false:=aD _ _ _ _ _ h;have f7:w.frozen? ⟨fb,7,none⟩=false:=aD _ _ _ _ _ h;obtain⟨room,fuse,down⟩:=d;simp only at c6 c7 hhi;clear h
 go_enter Tryz.func123,Tryz.ntmps123
 by_cases hz:0<fuse
 ·have HD:Hid (gY ⟨room,fuse,down⟩=⟨room,fuse-1,down||decide (fuse-1=0)⟩):=by show _=_;simp[gY,hz]
  have HR2:Hid (∀b,bH ((w.setCell ⟨fb,6,none⟩ (.int .i64 (fuse-1))).setCell ⟨fb,7,none⟩ (.bool b)) fb ⟨room,fuse-1,b⟩ lk nb sb sv):=fun b=>(HR.out.setFuse (fuse-1)).setDown b
  have HT2:Hid (∀b,aW (fun k=>k=fb) w ((w.setCell ⟨fb,6,none⟩ (.int .i64 (fuse-1))).setCell ⟨fb,7,none⟩ (.bool b))):=fun b=>((aW.refl (fun k=>k=fb) w).setCell ⟨fb,6,none⟩ _ (aK rfl)).setCell ⟨fb,7,none⟩ _ (aK rfl)
  cases down
  ·go_wp2
   go_ret;exact⟨by rw[HD.out];rfl,by rw[HD.out];exact HR2.out _,HT2.out _⟩
  have HD2:Hid (gY ⟨room,fuse,true⟩=⟨room,fuse-1,true⟩):=by show _=_;rw[HD.out];rfl
  go_wp2
  go_ret;exact⟨by rw[HD2.out];rfl,by rw[HD2.out];exact HR2.out true,HT2.out true⟩
 have HD:Hid (gY ⟨room,fuse,down⟩=⟨room,fuse,down⟩):=by show _=_;simp[gY,hz]
 go_wp2
 go_ret;exact⟨by rw[HD.out];rfl,by rw[HD.out];exact HR.out,aW.refl _ _⟩
end
def fV:List bP->ah->Option ah
 |[],_=>none
 |x::r,name=>if x.1=name then some x.2 else fV r name
theorem Gp(name:ah):∀(l:List bP) (k:Nat),(pE name l k=-1/\fV l name=none)\/(∃j:Nat,pE name l k=((k+j:Nat):Int)/\(l[j]?).map (·.2)=fV l name/\(fV l name).isSome/\∀x,l[j]?=some x->x.1=name):=by
 intro l
 induction l with
 |nil=>intro k;exact aK ⟨rfl,rfl⟩
 |cons y r ih=>
  intro k
  by_cases e:y.1=name
  ·refine aP ⟨0,by rw[pE,aH e];rfl,by simp[fV,e],by simp[fV,e],fun x hx=>?_⟩
   simp at hx;subst hx;exact e
  rcases ih (k+1) with ⟨h1,h2⟩|⟨j,h1,h2,h3,h4⟩
  ·exact aK ⟨by rw[pE,aA e];exact h1,by rw[fV,aA e];exact h2⟩
  refine aP ⟨j+1,?_,?_,?_,?_⟩
  ·rw[pE,aA e,h1];congr 1;omega
  ·rw[fV,aA e,<-h2];simp
  ·rw[fV,aA e];exact h3
  intro x hx;exact h4 x (by simpa using hx)
theorem Li(l:List bP)(name:ah):decide (iW l name≠-1)=(fV l name).isSome:=by
 rcases Gp name l 0 with ⟨h1,h2⟩|⟨j,h1,_,h3,_⟩
 ·rw[iW,h1,h2];rfl
 rw[iW,h1,h3];simp
theorem oK(l:List bP)(name:ah):fZ l name=(fV l name).getD ⟨#[]⟩:=by
 rcases Gp name l 0 with ⟨h1,h2⟩|⟨j,h1,h2,h3,_⟩
 ·rw[fZ,iW,aH h1,h2];rfl
 rw[fZ,iW,aA (by rw[h1];omega),h1,<-h2]
 have hj:j<l.length:=by
  rcases bX j l.length with c|c
  ·exact c
  rw[gU c] at h2;rw[<-h2] at h3
  simp at h3
 show(jY l (0+j)).2=_;rw[dh,Cr l j hj];rfl
theorem EQ(l r:List bP)(name:ah):fV (l++r) name=(fV l name).or (fV r name):=by
 induction l with
 |nil=>simp[fV]
 |cons x l ih=>
  by_cases e:x.1=name
  ·simp[fV,e]
  simp[fV,e,ih]
theorem zo(l:List bP)(a name:ah):fV (iO l a) name=if name=a then none else fV l name:=by
 induction l with
 |nil=>simp[iO,fV]
 |cons x l ih=>
  unfold iO at ih⊢
  by_cases e:x.1=a
  ·rw[yw (by simp[e]),ih]
   by_cases n:name=a
   ·simp[n]
   rw[aA n,aA n,fV,aA (by rw[e];exact fun h=>n h.symm)]
  rw[yx (by simp[e])]
  by_cases n:name=a
  ·rw[aH n,fV,aA (by rw[n];exact e),ih,aH n]
  rw[aA n] at ih⊢;rw[fV,fV,ih]
theorem VY(name:ah):∀(l:List bP) (k:Nat),k+1<l.length->(jY l (k+1)).1≠(jY l k).1->fV ((l.set (k+1) (jY l k)).set k (jY l (k+1))) name=fV l name:=by
 intro l
 induction l with
 |nil=>intro k h;simp at h
 |cons x r ih=>
  intro k hk hne
  cases k with
  |zero=>
   cases r with
   |nil=>simp at hk
   |cons y r=>
    have e0:jY (x::y::r) 0=x:=rfl;have e1:jY (x::y::r) (0+1)=y:=rfl;rw[e0,e1] at hne⊢;show fV (y::x::r) name=fV (x::y::r) name;simp only[fV]
    by_cases a:y.1=name
    ·have b:¬x.1=name:=fun h=>hne (a.trans h.symm)
     simp[a,b]
    simp[a]
  |succ k=>
   have h2:∀i,jY (x::r) (i+1)=jY r i:=fun i=>rfl
   have:=ih k (by simpa using hk) (by rw[h2,h2] at hne;exact hne);rw[h2,h2];simp only[List.set_cons_succ,fV];rw[this]
theorem Fg{a b:ah}(h:uD a b=true):a≠b:=by
 rintro rfl;unfold uD at h
 have irr:∀l:List UInt8,Op.bytesLess l l=false:=by
  intro l
  induction l with
  |nil=>rfl
  |cons x r ih=>simp[Op.bytesLess,ih]
 rw[irr] at h
 cases h
theorem Qm(name:ah):∀(k:Nat) (l:List bP),k<l.length->fV (Gd l k) name=fV l name:=by
 intro k
 induction k with
 |zero=>intro l _;rfl
 |succ k ih=>
  intro l hk;rw[Gd]
  by_cases h:uD (jY l (k+1)).1 (jY l k).1=true
  ·rw[aH h,ih _ (by simp;omega)];exact VY name l k hk (Fg h)
  rw[aA h]
theorem Zd(name:ah):∀(l:List bP) (j:Nat) (x:bP) (data:ah),(l[j]?)=some x->(∀i y,i<j->l[i]?=some y->y.1≠x.1)->fV (l.set j (x.1,data)) name=if name=x.1 then some data else fV l name:=by
 intro l
 induction l with
 |nil=>intro j x data h;simp at h
 |cons y r ih=>
  intro j x data h hb
  cases j with
  |zero=>
   simp at h;subst h
   by_cases n:name=y.1
   ·subst n;simp[fV]
   have n2:¬y.1=name:=fun h=>n h.symm
   simp[fV,n,n2]
  |succ j=>
   have hy:y.1≠x.1:=hb 0 y aJ rfl;have h2:=ih j x data (by simpa using h) (fun i z hi hz=>hb (i+1) z aJ (by simpa using hz));simp only[List.set_cons_succ,fV];rw[h2]
   by_cases n:name=x.1
   ·subst n;simp[hy]
   simp[n]
theorem Lh(name:ah):∀(l:List bP) (k j:Nat),pE name l k=((k+j:Nat):Int)->∀i y,i<j->l[i]?=some y->y.1≠name:=by
 intro l
 induction l with
 |nil=>intro k j _ i y _ h;simp at h
 |cons x r ih=>
  intro k j hp i y hi hy
  by_cases e:x.1=name
  ·rw[pE,aH e] at hp;omega
  rw[pE,aA e] at hp
  cases i with
  |zero=>simp at hy;subst hy;exact e
  |succ i=>exact ih (k+1) (j-1) (by rw[hp];congr 1;omega) i y aJ (by simpa using hy)
theorem zN(l:List bP)(a data name:ah):fV (xB l a data) name=if name=a then some data else fV l name:=by
 unfold xB
 rcases Gp a l 0 with ⟨h1,h2⟩|⟨j,h1,h2,h3,h4⟩
 ·rw[aH (show iW l a=-1 from h1),Qm name l.length _ eB,EQ]
  by_cases n:name=a
  ·subst n;simp[h2,fV]
  have n2:¬a=name:=fun h=>n h.symm
  simp[fV,n,n2]
 have hp:iW l a=((0+j:Nat):Int):=h1;rw[aA (by rw[hp];omega),hp]
 have hj:j<l.length:=by
  rcases bX j l.length with c|c
  ·exact c
  rw[gU c] at h2;rw[<-h2] at h3
  simp at h3
 have hx:=h4 _ (Cr l j hj);have h5:=Zd name l j (jY l j) data (Cr l j hj) (fun i y hi hy=>by rw[hx];exact Lh a l 0 j h1 i y hi hy);rw[hx] at h5;show fV (l.set (0+j) (a,data)) name=_;rw[dh];exact h5
end Go.Proofs.YthhbpebihgjpjaaGreatDoor
