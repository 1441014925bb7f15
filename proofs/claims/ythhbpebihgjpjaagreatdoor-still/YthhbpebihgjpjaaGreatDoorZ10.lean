import Derived.Test.YthhbpebihgjpjaaGreatDoorZ05
import Derived.Test.YthhbpebihgjpjaaGreatDoorZ09
namespace Go.Proofs.YthhbpebihgjpjaaGreatDoor
set_option maxRecDepth 1000000
set_option maxHeartbeats 20000000
set_option linter.all false
section
open Go.RowKit
abbrev iB:=List (ah×ah)
def eB(l:iB)(x:ah):Option ah:=(l.find? fun y=>decide (y.1=x)).map (·.2)
abbrev IB:=ah⊕ah
def IB.val(E:ah->ah):IB->ah
 |.inl b=>b
 |.inr x=>E x
def uq(t:ah)(i:Nat):Option (IB×Nat):=
 if t.size<=i+1 then none
 else if byteOf t (i+1)=36\/byteOf t (i+1)=32\/byteOf t (i+1)=58\/byteOf t (i+1)=124 then some (.inl (t.extract (i+1) (i+2)),i+2)
 else if byteOf t (i+1)=123 then
  (if di (t.extract (i+2) t.size)=0\/t.size<=i+2+di (t.extract (i+2) t.size)\/byteOf t (i+2+di (t.extract (i+2) t.size))≠125 then none
   else some (.inr (t.extract (i+2) (i+2+di (t.extract (i+2) t.size))),i+di (t.extract (i+2) t.size)+3))
 else if di (t.extract (i+1) t.size)=0 then none
 else some (.inr (t.extract (i+1) (i+1+di (t.extract (i+1) t.size))),i+1+di (t.extract (i+1) t.size))
variable {i:Nat}{f:IB}
theorem zM{t:ah}{k:Nat}(h:uq t i=some (f,k)):i+1<k/\k<=t.size:=by
 unfold uq at h
 split at h
 ·cases h
 split at h
 ·have:=(Prod.mk.inj (ak h)).2;omega
 split at h
 ·split at h
  ·cases h
  have:=(Prod.mk.inj (ak h)).2;omega
 split at h
 ·cases h
 rename_i h1 h2 h3 h4
 have hk:=(Prod.mk.inj (ak h)).2;have hl:di (t.extract (i+1) t.size)<=(t.extract (i+1) t.size).size:=jX _ _;rw[aI] at hl;omega
def gZ(E:ah->ah)(t:ah):Nat->Nat->ah->Option ah
 |0,i,out=>if t.size<=i then some out else none
 |g+1,i,out=>
  if t.size<=i then some out
  else if byteOf t i≠36 then gZ E t g (i+1) (out++t.extract i (i+1))
  else match uq t i with
   |none=>none
   |some (f,k)=>if 4000<(out++f.val E).size then none else gZ E t g k (out++f.val E)
def iy(E:ah->ah)(t:ah):Option ah:=gZ E t t.size 0 ⟨#[]⟩
theorem wI(E:ah->ah)(t:ah):∀(g g' i:Nat) (out:ah),t.size<=i+g->t.size<=i+g'->gZ E t g i out=gZ E t g' i out
 |0,0,_,_,_,_=>rfl
 |0,g'+1,i,out,h,_=>by rw[gZ,gZ,aD (by omega),aD (by omega)]
 |g+1,0,i,out,_,h=>by rw[gZ,gZ,aD (by omega),aD (by omega)]
 |g+1,g'+1,i,out,h,h'=>by
  rw[gZ,gZ]
  by_cases c:t.size<=i
  ·rw[aD c,aD c]
  rw[ax c,ax c]
  by_cases d:byteOf t i≠36
  ·rw[aD d,aD d];exact wI E t g g' _ _ (by omega) (by omega)
  rw[ax d,ax d]
  cases hf:uq t i with
  |none=>rfl
  |some p=>
   obtain⟨f,k⟩:=p;have hk:=zM hf
   simp only
   by_cases q:4000<(out++f.val E).size
   ·rw[aD q,aD q]
   rw[ax q,ax q];exact wI E t g g' _ _ (by omega) (by omega)
def jA(E:ah->ah)(t:ah)(i:Nat)(out:ah):Option ah:=gZ E t (t.size-i) i out
theorem ul(E:ah->ah)(t:ah)(i:Nat)(out:ah)(h:t.size<=i):jA E t i out=some out:=by
 unfold jA;rw[show t.size-i=0 by omega,gZ,aD h]
theorem xR(E:ah->ah)(t:ah)(i:Nat)(out:ah)(h:i<t.size)(hc:byteOf t i≠36):jA E t i out=jA E t (i+1) (out++t.extract i (i+1)):=by
 unfold jA;rw[show t.size-i=(t.size-(i+1))+1 by omega,gZ,ax (by omega),aD hc]
theorem zk(E:ah->ah)(t:ah)(i:Nat)(out:ah)(h:i<t.size)(hc:byteOf t i=36)(hf:uq t i=none):jA E t i out=none:=by
 unfold jA;rw[show t.size-i=(t.size-(i+1))+1 by omega,gZ,ax (by omega),ax (by simpa using hc),hf]
theorem zi(E:ah->ah)(t:ah)(i k:Nat)(f:IB)(out:ah)(h:i<t.size)(hc:byteOf t i=36)(hf:uq t i=some (f,k)):jA E t i out=if 4000<(out++f.val E).size then none else jA E t k (out++f.val E):=by
 have hk:=zM hf;unfold jA;rw[show t.size-i=(t.size-(i+1))+1 by omega,gZ,ax (by omega),ax (by simpa using hc),hf]
 simp only
 rw[wI E t (t.size-(i+1)) (t.size-k) k _ (by omega) (by omega)]
def Di(own top:iB)(x:ah):ah:=((eB own x).or (eB top x)).getD ⟨#[]⟩
theorem Ei(t:ah)(n:Nat)(z:Int)(hz:z=(n:Int))(h:n<=t.size)(wx:aj):(Instr.slice 9 (.string t) (some (.int .i64 z)) none none).run Tryz.prog wx=.ok (.string (t.extract n t.size)) wx:=by
 subst hz;exact nL t n h wx
theorem GN(t:ah)(a b:Nat)(y z:Int)(hy:y=(a:Int))(hz:z=(b:Int))(h:a<=b)(h2:b<=t.size)(wx:aj):(Instr.slice 9 (.string t) (some (.int .i64 y)) (some (.int .i64 z)) none).run Tryz.prog wx=.ok (.string (t.extract a b)) wx:=by
 subst hy hz
 simp[Instr.slice,mZ Tryz.underlying9,go_sem,h,h2]
end
section
open Go.RowKit Go.Shelf
theorem kC(t:ah)(a b k:Nat)(h:a+k<b)(hb:b<=t.size):byteOf (t.extract a b) k=byteOf t (a+k):=by
 unfold byteOf;rw[gq,Array.getElem?_extract,aD (by show k<min b t.data.size-a;have:t.data.size=t.size:=rfl;omega)]
theorem nH(t:ah)(a b c d:Nat)(h:a+d<=b):(t.extract a b).extract c d=t.extract (a+c) (a+d):=by
 rw[ByteArray.extract_extract,lG h]
variable {B:Nat}{w:aj}
theorem bX{a:aj}(h:Below B a w)(n:Nat):Below B a (w.drewN n):=⟨h.os,h.tape,h.output,h.size,h.block⟩
theorem uf(w:aj)(o:Obj)(n:Nat)(x y z:Value):Below w.heap.size w (((((w.alloc o).drewN n).setCell ⟨w.heap.size,0,none⟩ x).setCell ⟨w.heap.size,1,none⟩ y).setCell ⟨w.heap.size,2,none⟩ z):=
 (((bX ((au _ _).alloc (ai _) _) n).setCell (p:=⟨w.heap.size,0,none⟩) (ai _) x).setCell (p:=⟨w.heap.size,1,none⟩) (ai _) y).setCell (p:=⟨w.heap.size,2,none⟩) (ai _) z
def fQ(t:ah)(c:Nat):Bool:=decide (0<t.size/\byteOf t 0=c)
theorem Db(t:ah)(c:UInt8):Lib.hasPrefix t.data.toList [c]=fQ t c.toNat:=by
 unfold Lib.hasPrefix fQ byteOf;rw[<-bV]
 have hs:t.size=t.data.toList.length:=by rw[aR];rfl
 rw[hs]
 cases t.data.toList with
 |nil=>rfl
 |cons d l=>
  show(c==d&&([]:List UInt8).isPrefixOf l)=_;rw[sW]
  simp
  exact⟨fun e=>by rw[e],fun e=>(qc.1 e).symm⟩
def qf(u:ah):Option (IB×Nat):=
 if u.size=0 then none
 else if byteOf u 0=36\/byteOf u 0=32\/byteOf u 0=58\/byteOf u 0=124 then some (.inl (u.extract 0 1),1)
 else if byteOf u 0=123 then
  (if di (u.extract 1 u.size)=0\/fQ (gL (u.extract 1 u.size)) 125=false then none else some (.inr (fo (u.extract 1 u.size)),di (u.extract 1 u.size)+2))
 else if di u=0 then none
 else some (.inr (fo u),di u)
theorem EQ(t:ah)(i:Nat)(h:i<t.size):uq t i=(qf (t.extract (i+1) t.size)).map fun p=>(p.1,i+1+p.2):=by
 have hsz:(t.extract (i+1) t.size).size=t.size-(i+1):=by rw[aI];omega
 unfold uq qf;rw[hsz]
 by_cases h0:t.size<=i+1
 ·rw[aD h0,aD (show t.size-(i+1)=0 by omega)];rfl
 rw[ax h0,ax (show¬t.size-(i+1)=0 by omega)]
 have hb0:byteOf (t.extract (i+1) t.size) 0=byteOf t (i+1):=by rw[kC _ _ _ _ (by omega) (ai _)]
 rw[hb0]
 by_cases h1:byteOf t (i+1)=36\/byteOf t (i+1)=32\/byteOf t (i+1)=58\/byteOf t (i+1)=124
 ·rw[aD h1,aD h1,nH _ _ _ _ _ (by omega)];rfl
 rw[ax h1,ax h1]
 have hx1:(t.extract (i+1) t.size).extract 1 (t.size-(i+1))=t.extract (i+2) t.size:=by
  rw[nH _ _ _ _ _ (by omega),show i+1+(t.size-(i+1))=t.size by omega]
 by_cases h2:byteOf t (i+1)=123
 ·rw[aD h2,aD h2,hx1];have hl:di (t.extract (i+2) t.size)<=(t.extract (i+2) t.size).size:=jX _ _
  have hsz2:(t.extract (i+2) t.size).size=t.size-(i+2):=by rw[aI];omega
  have htl:gL (t.extract (i+2) t.size)=t.extract (i+2+di (t.extract (i+2) t.size)) t.size:=by
   unfold gL;rw[hsz2,nH _ _ _ _ _ (by omega),show i+2+(t.size-(i+2))=t.size by omega]
  have hhd:fo (t.extract (i+2) t.size)=t.extract (i+2) (i+2+di (t.extract (i+2) t.size)):=by
   unfold fo;rw[nH _ _ _ _ _ (by omega),kT]
  rw[htl,hhd];generalize di (t.extract (i+2) t.size)=N at*
  have hbg:fQ (t.extract (i+2+N) t.size) 125=false↔(t.size<=i+2+N\/byteOf t (i+2+N)≠125):=by
   unfold fQ;rw[rz,aI]
   by_cases hq:t.size<=i+2+N
   ·exact⟨fun _=>aG hq,fun _ hc=>by omega⟩
   rw[kC _ _ _ _ (by omega) (ai _)];show¬(_/\byteOf t (i+2+N)=125)↔_;omega
  by_cases h3:N=0\/t.size<=i+2+N\/byteOf t (i+2+N)≠125
  ·rw[aD h3,aD (h3.imp id hbg.2)];rfl
  rw[ax h3,ax (fun c=>h3 (c.imp id hbg.1))];show some (_,_)=some (_,i+1+(N+2));rw[show i+1+(N+2)=i+N+3 by omega]
 rw[ax h2,ax h2];have hl:di (t.extract (i+1) t.size)<=(t.extract (i+1) t.size).size:=jX _ _
 have hhd:fo (t.extract (i+1) t.size)=t.extract (i+1) (i+1+di (t.extract (i+1) t.size)):=by
  unfold fo;rw[nH _ _ _ _ _ (by omega),kT]
 rw[hhd];generalize di (t.extract (i+1) t.size)=N at*
 by_cases h3:N=0
 ·rw[aD h3,aD h3];rfl
 rw[ax h3,ax h3];rfl
def ae1:Option (IB×Nat)->ah->ah->Int->Prop
 |none,_,_,_=>True
 |some (.inl b,n),lit,var,k=>lit=b/\var=⟨#[]⟩/\k=n
 |some (.inr x,n),lit,var,k=>lit=⟨#[]⟩/\var=x/\k=n
def abe(o:Option (IB×Nat))(e:Ending):Prop:=∃lit var k,e=.returned (.tuple #[.agg #[.string lit,.string var,.int .i64 k],.bool o.isSome])/\ae1 o lit var k
theorem VY(u:ah)(hu:u.size<=1048576)(w:aj):
  Calls Tryz.prog 273 #[.string u] w fun e w'=>abe (qf u) e/\Below w.heap.size w w':=by
 have hn:=qN u;have HU:=aP hu
 by_cases h0:u.size=0
 ·have HF:Hid (qf u=none):=by show _=_;unfold qf;rw[aD h0]
  rw[bN h0] at hn
  go_enter Tryz.func273,Tryz.ntmps273
  go_wp2
  refine bP (v:=.tuple #[.agg #[.string ⟨#[]⟩,.string ⟨#[]⟩,.int .i64 0],.bool false]) (by simp[results,Tryz.results273,go_sem]) rfl ⟨?_,?_⟩
  ·rw[HF.out];exact⟨_,_,_,rfl,trivial⟩
  exact(au _ _).alloc (ai _) _
 rw[bH h0] at hn
 have u0:(0:Int)<(u.size:Int):=by omega
 have hidx:∀wx,(Instr.index 9 (.string u) (.int .i64 0)).run Tryz.prog wx=.ok (.int .u8 (byteOf u 0)) wx:=fun wx=>kF u 0 (by omega) wx
 have Rn:Hid (qf u=(if byteOf u 0=36\/byteOf u 0=32\/byteOf u 0=58\/byteOf u 0=124 then some (.inl (u.extract 0 1),1)
   else if byteOf u 0=123 then
    (if di (u.extract 1 u.size)=0\/fQ (gL (u.extract 1 u.size)) 125=false then none else some (.inr (fo (u.extract 1 u.size)),di (u.extract 1 u.size)+2))
   else if di u=0 then none
   else some (.inr (fo u),di u))):=by
  show _=_
  conv=>lhs;unfold qf
  rw[ax h0]
 by_cases h4:byteOf u 0=36\/byteOf u 0=32\/byteOf u 0=58\/byteOf u 0=124
 ·have HF:Hid (qf u=some (.inl (u.extract 0 1),1)):=by rw[Rn.out,aD h4];rfl
  have hsl:∀wx,(Instr.slice 9 (.string u) none (some (.int .i64 1)) none).run Tryz.prog wx=.ok (.string (u.extract 0 1)) wx:=fun wx=>qD u 1 (by omega) wx
  clear Rn;generalize u.extract 0 1=V at*
  rcases h4 with h4|h4|h4|h4
  all_goals
   rw[h4] at hidx;clear h4
   go_enter Tryz.func273,Tryz.ntmps273
   go_wp2
   refine bP (v:=.tuple #[.agg #[.string V,.string ⟨#[]⟩,.int .i64 1],.bool true]) (by simp[results,Tryz.results273,go_sem]) rfl ⟨?_,?_⟩
   ·rw[HF.out];exact⟨_,_,_,rfl,rfl,rfl,rfl⟩
   exact(au _ _).alloc (ai _) _
 rw[ax h4] at Rn
 have q1:((byteOf u 0:Int)==36)=false:=by simp;omega
 have q2:((byteOf u 0:Int)==32)=false:=by simp;omega
 have q3:((byteOf u 0:Int)==58)=false:=by simp;omega
 have q4:((byteOf u 0:Int)==124)=false:=by simp;omega
 clear h4
 by_cases adz:byteOf u 0=123
 ·rw[aD adz] at Rn;rw[adz] at hidx;clear q1 q2 q3 q4 adz
  have hs1:∀wx,(Instr.slice 9 (.string u) (some (.int .i64 1)) none none).run Tryz.prog wx=.ok (.string (u.extract 1 u.size)) wx:=fun wx=>nL u 1 (by omega) wx
  have hsz:(u.extract 1 u.size).size<=1048576:=by rw[aI];omega
  generalize u.extract 1 u.size=S at*
  have Dx:Hid (∀wx,Calls Tryz.prog 194 #[.string S] wx fun e w'=>e=.returned (.tuple #[.string (fo S),.string (gL S)])/\∃n,w'=wx.drewN n):=fun wx=>qy S (by omega) wx
  have hpre:∀wx,Calls Tryz.prog 193 #[.string (gL S),.string ⟨#[125]⟩] wx fun e w'=>e=.returned (.bool (fQ (gL S) 125))/\w'=wx:=fun wx=>by
   have:=Any.strings_HasPrefix Tryz.lays99 (gL S) ⟨#[125]⟩ wx;rw[show(⟨#[125]⟩:ah).data.toList=[125] from rfl,Db] at this;exact this
  have RA:=aP hpre;have hl:di S<=S.size:=jX _ _;have SK:=lX S;have hnn:=qN (fo S);rw[SK] at hnn;clear hpre;generalize fQ (gL S) 125=B at*;generalize gL S=TL at*;generalize fo S=HD at*
  have hd0:(HD.size:Int)<=1048576:=by omega
  have hd1:HD.size=di S:=SK;rw[<-hd1] at Rn hnn;clear SK hl;generalize di S=N at*;subst hd1
  by_cases hN:HD.size=0
  ·rw[bN hN] at hnn
   have HF:Hid (qf u=none):=by rw[Rn.out,aD (aG hN)];rfl
   go_enter Tryz.func273,Tryz.ntmps273
   go_wp2_with fail
   refine(Dx.out _).mono ?_;rintro e w2 ⟨rfl,n2,rfl⟩
   go_wp2_with fail
   refine bP (v:=.tuple #[.agg #[.string ⟨#[]⟩,.string HD,.int .i64 2],.bool false]) (by simp[results,Tryz.results273,go_sem]) rfl ⟨?_,?_⟩
   ·rw[HF.out];exact⟨_,_,_,rfl,trivial⟩
   exact uf w _ n2 _ _ _
  rw[bH hN] at hnn
  go_enter Tryz.func273,Tryz.ntmps273
  go_wp2_with fail
  refine(Dx.out _).mono ?_;rintro e w2 ⟨rfl,n2,rfl⟩
  go_wp2_with fail
  refine(RA.out _).mono ?_;rintro e w3 ⟨rfl,rfl⟩
  cases B with
  |false=>
   have HF:Hid (qf u=none):=by rw[Rn.out,aD (aL rfl)];rfl
   go_wp2_with fail
   refine bP (v:=.tuple #[.agg #[.string ⟨#[]⟩,.string HD,.int .i64 ((HD.size:Int)+2)],.bool false]) (by simp[results,Tryz.results273,go_sem]) rfl ⟨?_,?_⟩
   ·rw[HF.out];exact⟨_,_,_,rfl,trivial⟩
   exact uf w _ n2 _ _ _
  |true=>
   have HF:Hid (qf u=some (.inr HD,HD.size+2)):=by rw[Rn.out,ax (by simp[hN])];rfl
   go_wp2_with fail
   refine bP (v:=.tuple #[.agg #[.string ⟨#[]⟩,.string HD,.int .i64 ((HD.size:Int)+2)],.bool true]) (by simp[results,Tryz.results273,go_sem]) rfl ⟨?_,?_⟩
   ·rw[HF.out];exact⟨_,_,_,rfl,rfl,rfl,by omega⟩
   exact uf w _ n2 _ _ _
 rw[ax adz] at Rn
 have q5:((byteOf u 0:Int)==123)=false:=by simp;omega
 generalize byteOf u 0=y at*
 have Dx:Hid (∀wx,Calls Tryz.prog 194 #[.string u] wx fun e w'=>e=.returned (.tuple #[.string (fo u),.string (gL u)])/\∃n,w'=wx.drewN n):=fun wx=>qy u (by omega) wx
 have hl:di u<=u.size:=jX _ _;have SK:=lX u;have hnn:=qN (fo u);rw[SK] at hnn;generalize gL u=TL at*;generalize fo u=HD at*
 have hd0:(HD.size:Int)<=1048576:=by omega
 have hd1:HD.size=di u:=SK;rw[<-hd1] at Rn hnn;clear SK hl;generalize di u=N at*;subst hd1
 by_cases hN:HD.size=0
 ·rw[bN hN] at hnn
  have HF:Hid (qf u=none):=by rw[Rn.out,aD hN];rfl
  go_enter Tryz.func273,Tryz.ntmps273
  go_wp2_with fail
  refine(Dx.out _).mono ?_;rintro e w2 ⟨rfl,n2,rfl⟩
  go_wp2_with fail
  refine bP (v:=.tuple #[.agg #[.string ⟨#[]⟩,.string HD,.int .i64 0],.bool false]) (by simp[results,Tryz.results273,go_sem]) rfl ⟨?_,?_⟩
  ·rw[HF.out];exact⟨_,_,_,rfl,trivial⟩
  exact uf w _ n2 _ _ _
 rw[bH hN] at hnn
 have HF:Hid (qf u=some (.inr HD,HD.size)):=by rw[Rn.out,ax hN];rfl
 go_enter Tryz.func273,Tryz.ntmps273
 go_wp2_with fail
 refine(Dx.out _).mono ?_;rintro e w2 ⟨rfl,n2,rfl⟩
 go_wp2_with fail
 refine bP (v:=.tuple #[.agg #[.string ⟨#[]⟩,.string HD,.int .i64 HD.size],.bool true]) (by simp[results,Tryz.results273,go_sem]) rfl ⟨?_,?_⟩
 ·rw[HF.out];exact⟨_,_,_,rfl,rfl,rfl,rfl⟩
 exact uf w _ n2 _ _ _
def mq(p:Nat->Bool)(u:ah):Nat->Nat->Nat
 |0,i=>i
 |g+1,i=>if u.size<=i then i else if byteOf u i=36 then mq p u g (i+2) else if p (byteOf u i)=true then i else mq p u g (i+1)
def rD(p:Nat->Bool)(u:ah)(i:Nat):Nat:=mq p u (u.size-i) i
def qC(p:Nat->Bool)(u:ah):Nat:=rD p u 0
def oW(c:Nat):Bool:=decide (c=58)
def Kz(c:Nat):Bool:=decide (c=32\/c=58\/c=124)
theorem zA(p:Nat->Bool)(u:ah):∀(g g' i:Nat),u.size<=i+g->u.size<=i+g'->mq p u g i=mq p u g' i
 |0,0,_,_,_=>rfl
 |0,g'+1,i,h,_=>by rw[mq,mq,aD (by omega)]
 |g+1,0,i,_,h=>by rw[mq,mq,aD (by omega)]
 |g+1,g'+1,i,h,h'=>by
  rw[mq,mq]
  by_cases c:u.size<=i
  ·rw[aD c,aD c]
  rw[ax c,ax c]
  by_cases d:byteOf u i=36
  ·rw[aD d,aD d];exact zA p u g g' _ (by omega) (by omega)
  rw[ax d,ax d]
  by_cases q:p (byteOf u i)=true
  ·rw[aD q,aD q]
  rw[ax q,ax q];exact zA p u g g' _ (by omega) (by omega)
theorem Eh(p:Nat->Bool)(u:ah)(i:Nat)(h:u.size<=i):rD p u i=i:=by
 unfold rD;rw[show u.size-i=0 by omega,mq]
theorem Eg(p:Nat->Bool)(u:ah)(i:Nat)(h:i<u.size)(hd:byteOf u i=36):rD p u i=rD p u (i+2):=by
 unfold rD;rw[show u.size-i=(u.size-(i+1))+1 by omega,mq,ax (by omega),aD hd];exact zA p u _ _ _ (by omega) (by omega)
theorem LK(p:Nat->Bool)(u:ah)(i:Nat)(h:i<u.size)(hd:byteOf u i≠36)(hp:p (byteOf u i)=true):rD p u i=i:=by
 unfold rD;rw[show u.size-i=(u.size-(i+1))+1 by omega,mq,ax (by omega),ax hd,aD hp]
theorem Ca(p:Nat->Bool)(u:ah)(i:Nat)(h:i<u.size)(hd:byteOf u i≠36)(hp:p (byteOf u i)=false):rD p u i=rD p u (i+1):=by
 unfold rD;rw[show u.size-i=(u.size-(i+1))+1 by omega,mq,ax (by omega),ax hd,ax (by rw[hp];decide)]
theorem OV(p:Nat->Bool)(u:ah):∀(g i:Nat),u.size-i<=g->i<=u.size+1->i<=rD p u i/\rD p u i<=u.size+1:=by
 intro g
 induction g with
 |zero=>intro i h hi;rw[Eh _ _ _ (by omega)];omega
 |succ g ih=>
  intro i h hi
  by_cases c:u.size<=i
  ·rw[Eh _ _ _ c];omega
  by_cases d:byteOf u i=36
  ·rw[Eg _ _ _ (by omega) d];have:=ih (i+2) (by omega) (by omega);omega
  cases q:p (byteOf u i) with
  |true=>rw[LK _ _ _ (by omega) d q];omega
  |false=>rw[Ca _ _ _ (by omega) d q];have:=ih (i+1) (by omega) (by omega);omega
theorem Nc(s:ah)(c:Int)(w:aj):
  Calls Tryz.prog 318 #[.string s,.int .u8 c] w fun e w'=>e=.returned (.int .i64 (Lib.indexByte s.data.toList c.toNat.toUInt8))/\w'=w:=by
 go_enter Tryz.func318,Tryz.ntmps318
 go_wp2_with fail
 refine(Any.stringslite_IndexByte Tryz.lays217 s c _).mono ?_;rintro e w' ⟨rfl,rfl⟩
 go_wp2
 go_ret;exact⟨rfl,rfl⟩
theorem Dl(p:Nat->Bool)(u bs:ah)(hp:∀c,c<256->decide ((0:Int)<=Lib.indexByte bs.data.toList c.toUInt8)=p c)(hu:u.size<=1048576)(w:aj):
  Calls Tryz.prog 265 #[.string u,.string bs] w fun e w'=>e=.returned (.int .i64 ((min (qC p u) u.size:Nat):Int))/\w'=w:=by
 have HP:=aP hp
 have u0:(u.size:Int)<=1048576:=by omega
 clear hp
 go_enter Tryz.func265,Tryz.ntmps265
 go_wp2_with fail
 go_loop [5] (fun i=>∃j:Nat,i=.int .i64 j/\j<=u.size+1/\rD p u j=qC p u) (fun i=>u.size+1-(intOf i).toNat)
 case atStart=>exact⟨0,rfl,aN _,rfl⟩
 case round=>
  obtain⟨j,rfl,hle,hag⟩:=hrel;have Rj:=aP hag;clear hag
  have j0:(0:Int)<=(j:Int):=by omega
  by_cases hlt:j<u.size
  ·have j1:(j:Int)<(u.size:Int):=by omega
   have hidx:∀wx,(Instr.index 9 (.string u) (.int .i64 j)).run Tryz.prog wx=.ok (.int .u8 (byteOf u j)) wx:=fun wx=>kF u j hlt wx
   have hb:=xB u j
   have Mt:Hid ((byteOf u j=36->rD p u (j+2)=qC p u)/\(byteOf u j≠36->p (byteOf u j)=true->qC p u=j)/\(byteOf u j≠36->p (byteOf u j)=false->rD p u (j+1)=qC p u)):=
    ⟨fun h=>(Eg p u j hlt h).symm.trans Rj.out,fun h1 h2=>Rj.out.symm.trans (LK p u j hlt h1 h2),fun h1 h2=>(Ca p u j hlt h1 h2).symm.trans Rj.out⟩
   generalize byteOf u j=x at*
   by_cases hd:x=36
   ·subst hd;have HN:=Mt.out.1 rfl;have HN:=aP HN
    go_wp2_with fail
    exact⟨⟨j+2,by go_num,by omega,HN.out⟩,by simp[intOf];omega⟩
   have hd2:((x:Int)==36)=false:=by simp;omega
   have HIX:Hid (∀wx,Calls Tryz.prog 318 #[.string bs,.int .u8 x] wx fun e w'=>e=.returned (.int .i64 (Lib.indexByte bs.data.toList x.toUInt8))/\w'=wx):=fun wx=>by
    have:=Nc bs (x:Int) wx;rw[show((x:Int).toNat)=x from Int.toNat_natCast x] at this;exact this
   have hpx:=HP.out x hb
   cases hq:p x with
   |true=>
    rw[hq] at hpx;have alK:=fC hpx
    have HN:Hid (min (qC p u) u.size=j):=by show _=_;rw[Mt.out.2.1 hd hq];omega
    clear hpx;generalize Lib.indexByte bs.data.toList x.toUInt8=ix at*
    go_wp2_with fail
    refine(HIX.out _).mono ?_;rintro e w' ⟨rfl,rfl⟩
    go_wp2_with fail
    go_ret;exact⟨by rw[HN.out];rfl,rfl⟩
   |false=>
    rw[hq] at hpx;have alK:=xX hpx;have HN:=aP (Mt.out.2.2 hd hq);clear hpx;generalize Lib.indexByte bs.data.toList x.toUInt8=ix at*
    go_wp2_with fail
    refine(HIX.out _).mono ?_;rintro e w' ⟨rfl,rfl⟩
    go_wp2_with fail
    exact⟨⟨j+1,by go_num,by omega,HN.out⟩,by simp[intOf];omega⟩
  have HN:Hid (min (qC p u) u.size=u.size):=by
   show _=_;rw[<-Rj.out,Eh _ _ _ (by omega)];omega
  have j1:¬(j:Int)<(u.size:Int):=by omega
  go_wp2_with fail
  go_ret;exact⟨by rw[HN.out];rfl,rfl⟩
theorem Zm:∀c,c<256->decide ((0:Int)<=Lib.indexByte (⟨#[58]⟩:ah).data.toList c.toUInt8)=oW c:=by decide
theorem adO:∀c,c<256->decide ((0:Int)<=Lib.indexByte (⟨#[32,58,124]⟩:ah).data.toList c.toUInt8)=Kz c:=by decide
end
abbrev dK:=Nat×ah
def afG(l:List UInt8):Nat:=Bg (·==36) l.reverse
def MW(t:ah):Nat:=afG t.data.toList
def Eb(t:ah):Bool:=decide (MW t % 2=1)
def qB(t:ah):ah:=if Eb t=true then t.extract 0 (t.size-1) else t
def Ez(l:List dK)(s:ah):List dK:=match l.getLast? with
 |none=>l
 |some x=>l.dropLast++[(x.1,x.2++s)]
def lD(a:List dK)(on:Bool)(no:Nat)(raw:ah):List dK:=if on=true then Ez a (bD (qB raw)) else a++[(no,qB raw)]
def mP:Nat->List ah->List dK->Bool->List dK
 |_,[],a,_=>a
 |no,r::rs,a,on=>mP (no+1) rs (lD a on no r) (Eb r)
def nl:ah:=⟨#[10]⟩
def zP(t:ah):List ah:=Lib.splitB nl 0 (Lib.countB t nl) t
def uy(t:ah):List dK:=mP 1 (zP t) [] false
def BZ(t:ah):List dK:=(uy t).filter fun x=>!wH x.2
def rM:List ah->ah
 |[]=>⟨#[]⟩
 |x::l=>l.foldl (fun a y=>a++⟨#[32]⟩++y) x
def eT(x:ah)(l:List ah):Bool:=l.any fun y=>decide (y=x)
def FM:Type:=Fin 9
def FM.syn:FM:=(4:Fin 9)
def FM.rul:FM:=(5:Fin 9)
def FM.twi:FM:=(6:Fin 9)
def FM.nam:FM:=(0:Fin 9)
structure dm where
 outs:List ah
 ins:List ah
 impl:List ah
 ord:List ah
 rule:ah
 own:iB
structure St where
 top:iB
 rules:iB
 bB:List dm
 defs:List ah
def oH:iB->ah->ah->iB
 |[],x,v=>[(x,v)]
 |y::l,x,v=>if y.1=x then (x,v)::l else y::oH l x v
def pK(t:ah):Option (ah×ah):=
 if di (bD t)=0\/fQ (bD (gL (bD t))) 61=false then none
 else some (fo (bD t),bD ((bD (gL (bD t))).extract 1 (bD (gL (bD t))).size))
abbrev jh:=List (ah×List ah)
def nT:ah:=⟨#[124]⟩
def uO:ah:=⟨#[124,124]⟩
def ab9:ah:=⟨#[58]⟩
def jI(u:ah):ah:=
 if fQ u 124=true then (if 1<u.size/\byteOf u 1=124 then uO else nT)
 else if fQ u 58=true then ab9 else ⟨#[]⟩
def jJ:ah:=⟨#[46,108,111,103]⟩
def fV:ah:=⟨#[46,108,111,103,46,110,101,119]⟩
def mH(p:ah):Bool:=eD p&&!decide (p=jJ)&&!decide (p=fV)
def tZ(a:jh)(p:ah):jh:=match a.getLast? with
 |none=>a
 |some x=>a.dropLast++[(x.1,x.2++[p])]
def kL(u:ah):Nat:=min (qC Kz u) u.size
def qU(E:ah->ah)(t:ah):Except FM ah:=match iy E t with
 |none=>.error .syn
 |some p=>if mH p=true then .ok p else .error .nam
def jK(E:ah->ah)(ms:List ah):Nat->ah->jh->Except FM jh
 |0,_,a=>.ok a
 |g+1,u,a=>
  if (bD u).size=0 then .ok a
  else if jI (bD u)=⟨#[]⟩ then
   (match qU E ((bD u).extract 0 (kL (bD u))) with
   |.error e=>.error e
   |.ok p=>jK E ms g ((bD u).extract (kL (bD u)) (bD u).size) (tZ a p))
  else if eT (jI (bD u)) ms=true then jK E ms g ((bD u).extract (jI (bD u)).size (bD u).size) (a++[(jI (bD u),[])])
  else .error .syn
def qh(E:ah->ah)(ms:List ah)(u:ah)(a:jh):Except FM jh:=jK E ms (u.size+1) u a
def nK(E:ah->ah)(ms:List ah)(u:ah):Except FM jh:=qh E ms u [(⟨#[]⟩,[])]
def qO:jh->Bool
 |x::y::l=>decide (x.1.size<y.1.size)&&qO (y::l)
 |_=>true
def fu(a:jh)(m:ah):List ah:=((a.find? fun x=>decide (x.1=m)).map (·.2)).getD []
def sK:List ah->List ah->Bool
 |_,[]=>false
 |made,o::os=>eT o made||sK (o::made) os
def qg(S:St):List ah:=S.bB.flatMap (·.outs)
def iF(a:jh):List ah:=(a.head?.map (·.2)).getD []
def Ed(top:iB):List dK->iB->Except (FM×Nat) (iB×List dK)
 |[],own=>.ok (own,[])
 |x::rest,own=>
  if fQ x.2 32=true then
   (match pK x.2 with
   |none=>.error (.syn,x.1)
   |some nv=>match iy (Di own top) nv.2 with
     |none=>.error (.syn,x.1)
     |some y=>Ed top rest (oH own nv.1 y))
  else .ok (own,x::rest)
def xZ:ah:=⟨#[99,111,109,109,97,110,100]⟩
def Gx(_:ah):ah:=⟨#[]⟩
abbrev Res:=Except (FM×Nat) (St×List dK)
def gT:List dK->Option (dK×List dK)
 |[]=>none
 |x::rest=>if fQ x.2 32=true then some (x,rest) else none
def wh(S:St)(no:Nat)(t:ah)(rest:List dK):Res:=
 if di (bD t)=0\/(bD (gL (bD t))).size≠0 then .error (.syn,no)
 else if (eB S.rules (fo (bD t))).isSome=true then .error (.rul,no)
 else match gT rest with
  |none=>.error (.syn,no)
  |some xr=>match pK xr.1.2 with
    |none=>.error (.syn,xr.1.1)
    |some nv=>
     if nv.1≠xZ\/iy Gx nv.2=none then .error (.syn,xr.1.1)
     else match gT xr.2 with
      |some y=>.error (.syn,y.1.1)
      |none=>.ok ({S with rules:=S.rules++[(fo (bD t),nv.2)]},xr.2)
def uZ(outs ins:jh)(rule:ah)(own:iB):dm:=
 {outs:=iF outs++fu outs nT,ins:=iF ins,impl:=fu ins nT,ord:=fu ins uO,rule:=rule,own:=own}
def oU(S:St)(outs ins:jh)(u:ah):Option FM:=
 if iF outs=[]\/2<outs.length then some .syn
 else if di u=0\/qO ins=false then some .syn
 else if 64<=S.bB.length then some .syn
 else if (eB S.rules (fo u)).isSome=false then some .rul
 else if sK (qg S) (iF outs++fu outs nT)=true then some .twi
 else none
def kV(S:St)(no:Nat)(t:ah)(rest:List dK):Res:=
 if t.size<=qC oW t then .error (.syn,no)
 else match nK (Di [] S.top) [nT] (t.extract 0 (qC oW t)) with
  |.error e=>.error (e,no)
  |.ok outs=>match nK (Di [] S.top) [nT,uO] (gL (bD (t.extract (qC oW t+1) t.size))) with
    |.error e=>.error (e,no)
    |.ok ins=>match oU S outs ins (bD (t.extract (qC oW t+1) t.size)) with
      |some e=>.error (e,no)
      |none=>match Ed S.top rest [] with
        |.error e=>.error e
        |.ok ol=>.ok ({S with bB:=S.bB++[uZ outs ins (fo (bD (t.extract (qC oW t+1) t.size))) ol.1]},ol.2)
def UE:ah:=⟨#[114,117,108,101]⟩
def Mc:ah:=⟨#[98,117,105,108,100]⟩
def Ce:ah:=⟨#[100,101,102,97,117,108,116]⟩
def oh(S:St)(no:Nat)(t:ah)(rest:List dK):Res:=
 match nK (Di [] S.top) [] t with
 |.error e=>.error (e,no)
 |.ok a=>if iF a=[] then .error (.syn,no) else .ok ({S with defs:=S.defs++iF a},rest)
def Nu(S:St)(no:Nat)(t:ah)(rest:List dK):Res:=
 match pK t with
 |none=>.error (.syn,no)
 |some nv=>match iy (Di [] S.top) nv.2 with
   |none=>.error (.syn,no)
   |some y=>.ok ({S with top:=oH S.top nv.1 y},rest)
def qV(S:St)(no:Nat)(t:ah)(rest:List dK):Res:=
 if fQ t 32=true then .error (.syn,no)
 else if vU t UE=true then wh S no (t.extract 4 t.size) rest
 else if vU t Mc=true then kV S no (t.extract 5 t.size) rest
 else if vU t Ce=true then oh S no (t.extract 7 t.size) rest
 else Nu S no t rest
def Bn:Nat->St->List dK->Except (FM×Nat) St
 |0,S,_=>.ok S
 |_+1,S,[]=>.ok S
 |g+1,S,x::rest=>match qV S x.1 x.2 rest with
   |.error e=>.error e
   |.ok Sr=>Bn g Sr.1 Sr.2
def tIn:ah:=⟨#[105,110]⟩
def Md:ah:=⟨#[111,117,116]⟩
def QI(e:dm):iB:=oH (oH e.own tIn (rM e.ins)) Md (rM e.outs)
def qw(S:St)(e:dm):Option ah:=iy (Di (QI e) S.top) ((eB S.rules e.rule).getD ⟨#[]⟩)
def jg(S:St):List dm->Option (List ah)
 |[]=>some []
 |e::l=>match qw S e with
   |none=>none
   |some c=>(jg S l).map (c::·)
def St.none:St:=⟨[],[],[],[]⟩
def jV(t:ah):Except (FM×Nat) (St×List ah):=
 if 4000<t.size then .error (.syn,0)
 else match Bn (BZ t).length St.none (BZ t) with
  |.error e=>.error e
  |.ok S=>match jg S S.bB with
    |.none=>.error (.syn,0)
    |some cs=>.ok (S,cs)
def dZ(e:dm):List ah:=e.ins++(e.impl++e.ord)
def fE(es:List dm)(x:ah):Option Nat:=es.findIdx? fun e=>eT x e.outs
def Ig(es:List dm)(e:dm):List Nat:=(dZ e).filterMap (fE es)
def jd(es:List dm):List (List Nat):=es.map (Ig es)
abbrev DI:=List (Nat×List Nat)
def oC(N:List (List Nat)):Nat->DI->List Nat->List Nat->Bool×List Nat×List Nat
 |0,_,s,o=>(true,s,o)
 |_+1,[],s,o=>(true,s,o)
 |f+1,(p,[])::k,s,o=>oC N f k (s.set p 2) (o++[p])
 |f+1,(p,n::l)::k,s,o=>
  if s.getD n 0=1 then (false,s,o)
  else if s.getD n 0=2 then oC N f ((p,l)::k) s o
  else oC N f ((n,N.getD n [])::(p,l)::k) (s.set n 1) o
def fG(N:List (List Nat)):List Nat->Nat->Nat
 |[],_=>0
 |x::s,i=>(if x=0 then (N.getD i []).length+2 else 0)+fG N s (i+1)
def Xo(k:DI):Nat:=(k.map fun x=>x.2.length+1).sum
def kP(N:List (List Nat))(k:DI)(s:List Nat):Nat:=fG N s 0+Xo k
theorem Dv(N:List (List Nat)):∀(s:List Nat) (i p:Nat),p<s.length->s.getD p 0=0->fG N (s.set p 1) i+((N.getD (i+p) []).length+2)=fG N s i
 |[],_,p,h,_=>absurd h (Bw p)
 |x::s,i,0,_,h=>by
  have hx:x=0:=h;subst hx;show(if (1:Nat)=0 then _ else 0)+fG N s (i+1)+_=(if (0:Nat)=0 then _ else 0)+fG N s (i+1);rw[ax (by decide),aD rfl,show i+0=i from rfl];omega
 |x::s,i,p+1,h,hx=>by
  have ih:=Dv N s (i+1) p (Nat.lt_of_succ_lt_succ h) hx;show(if x=0 then _ else 0)+fG N (s.set p 1) (i+1)+_=(if x=0 then _ else 0)+fG N s (i+1);rw[show i+(p+1)=i+1+p by omega];omega
theorem Ir(N:List (List Nat)):∀(s:List Nat) (i p:Nat),fG N (s.set p 2) i<=fG N s i
 |[],_,_=>ai _
 |x::s,i,0=>by
  show(if (2:Nat)=0 then _ else 0)+fG N s (i+1)<=(if x=0 then _ else 0)+fG N s (i+1);rw[ax (by decide)];omega
 |x::s,i,p+1=>by
  have ih:=Ir N s (i+1) p;show(if x=0 then _ else 0)+fG N (s.set p 2) (i+1)<=(if x=0 then _ else 0)+fG N s (i+1);omega
theorem qP(x:Nat×List Nat)(k:DI):Xo (x::k)=x.2.length+1+Xo k:=by simp[Xo]
theorem zY(N:List (List Nat))(p:Nat)(k:DI)(s:List Nat):kP N k (s.set p 2)<kP N ((p,[])::k) s:=by
 have:=Ir N s 0 p;unfold kP;rw[qP];simp only[dR];omega
theorem xJ(N:List (List Nat))(p n:Nat)(l:List Nat)(k:DI)(s:List Nat):kP N ((p,l)::k) s<kP N ((p,n::l)::k) s:=by
 unfold kP;rw[qP,qP];simp only[aS];omega
theorem xI(N:List (List Nat))(p n:Nat)(l:List Nat)(k:DI)(s:List Nat)(hn:n<s.length)(h0:s.getD n 0=0):kP N ((n,N.getD n [])::(p,l)::k) (s.set n 1)<kP N ((p,n::l)::k) s:=by
 have h:=Dv N s 0 n hn h0;rw[bW] at h;unfold kP;rw[qP,qP,qP];simp only[aS];omega
structure qX(N:List (List Nat))(k:DI)(s:List Nat):Prop where
 len:s.length=N.length
 three:∀i,s.getD i 0<=2
 stk:∀x∈k,x.1<N.length/\∀n∈x.2,n<N.length
 needs:∀i,∀n∈N.getD i [],n<N.length
variable {s:List Nat}{p v i:Nat}
theorem SC(hp:p<s.length):(s.set p v).getD i 0=if i=p then v else s.getD i 0:=by
 by_cases h:i=p
 ·subst h;rw[aD rfl];simp[cZ,hp]
 rw[ax h];simp[cZ,Bj (fun e=>h e.symm)]
variable {N:List (List Nat)}{k:DI}
theorem qX.set(h:qX N k s)(hp:p<N.length)(hv:v<=2):qX N k (s.set p v) where
 len:=by rw[Mw];exact h.len
 three:=fun i=>by
  rw[SC (by rw[h.len];exact hp)]
  by_cases e:i=p
  ·rw[aD e];exact hv
  rw[ax e];exact h.three i
 stk:=h.stk
 needs:=h.needs
theorem qX.pop{x:Nat×List Nat}(h:qX N (x::k) s):qX N k s:=⟨h.len,h.three,fun y hy=>h.stk y (aU _ hy),h.needs⟩
variable {n:Nat}{l:List Nat}
theorem qX.skip(h:qX N ((p,n::l)::k) s):qX N ((p,l)::k) s:=⟨h.len,h.three,fun y hy=>by
 rcases aV.1 hy with rfl|hy
 ·have:=h.stk (p,n::l) (aM ..);exact⟨this.1,fun m hm=>this.2 m (aU _ hm)⟩
 exact h.stk y (aU _ hy),h.needs⟩
theorem qX.push(h:qX N k s)(hn:n<N.length):qX N ((n,N.getD n [])::k) s:=⟨h.len,h.three,fun y hy=>by
 rcases aV.1 hy with rfl|hy
 ·exact⟨hn,h.needs n⟩
 exact h.stk y hy,h.needs⟩
theorem vC(N:List (List Nat)):∀(f g:Nat) (k:DI) (s o:List Nat),qX N k s->kP N k s<f->kP N k s<g->oC N f k s o=oC N g k s o
 |0,_,_,_,_,_,h,_=>absurd h (Bw _)
 |_+1,0,_,_,_,_,_,h=>absurd h (Bw _)
 |f+1,g+1,[],s,o,_,_,_=>rfl
 |f+1,g+1,(p,[])::k,s,o,hf,h1,h2=>by
  have hp:=(hf.stk (p,[]) (aM ..)).1;have hw:=zY N p k s;exact vC N f g k (s.set p 2) (o++[p]) (hf.pop.set hp (by decide)) (by omega) (by omega)
 |f+1,g+1,(p,n::l)::k,s,o,hf,h1,h2=>by
  have hn:=(hf.stk (p,n::l) (aM ..)).2 n (aM ..);show(if s.getD n 0=1 then _ else if s.getD n 0=2 then _ else _)=(if s.getD n 0=1 then _ else if s.getD n 0=2 then _ else _)
  by_cases a:s.getD n 0=1
  ·rw[aD a,aD a]
  rw[ax a,ax a]
  by_cases b:s.getD n 0=2
  ·rw[aD b,aD b];have hw:=xJ N p n l k s;exact vC N f g _ s o hf.skip (by omega) (by omega)
  rw[ax b,ax b]
  have h0:s.getD n 0=0:=by have:=hf.three n;omega
  have hw:=xI N p n l k s (by rw[hf.len];exact hn) h0;exact vC N f g _ _ o ((hf.skip.push hn).set hn (by decide)) (by omega) (by omega)
def Cg(N:List (List Nat))(k:DI)(s o:List Nat):Bool×List Nat×List Nat:=oC N (kP N k s+1) k s o
variable {o:List Nat}
theorem aam(hf:qX N ((p,[])::k) s):Cg N ((p,[])::k) s o=Cg N k (s.set p 2) (o++[p]):=by
 have hp:=(hf.stk (p,[]) (aM ..)).1;exact vC N _ _ k _ _ (hf.pop.set hp (by decide)) (zY N p k s) (iX _)
theorem UR(h:s.getD n 0=1):Cg N ((p,n::l)::k) s o=(false,s,o):=aD h
theorem Xx(hf:qX N ((p,n::l)::k) s)(h:s.getD n 0=2):Cg N ((p,n::l)::k) s o=Cg N ((p,l)::k) s o:=by
 refine(ax (by omega)).trans ((aD h).trans ?_);exact vC N _ _ _ _ _ hf.skip (xJ N p n l k s) (iX _)
theorem Xw(hf:qX N ((p,n::l)::k) s)(h:s.getD n 0=0):Cg N ((p,n::l)::k) s o=Cg N ((n,N.getD n [])::(p,l)::k) (s.set n 1) o:=by
 have hn:=(hf.stk (p,n::l) (aM ..)).2 n (aM ..);refine(ax (by omega)).trans ((ax (by omega)).trans ?_);exact vC N _ _ _ _ _ ((hf.skip.push hn).set hn (by decide)) (xI N p n l k s (by rw[hf.len];exact hn) h) (iX _)
def fU(N:List (List Nat))(p:Nat)(s o:List Nat):Bool×List Nat×List Nat:=
 if s.getD p 0=2 then (true,s,o) else Cg N [(p,N.getD p [])] (s.set p 1) o
def zS(N:List (List Nat)):List Nat->List Nat->List Nat->Bool
 |[],_,_=>true
 |p::ps,s,o=>if (fU N p s o).1=true then zS N ps (fU N p s o).2.1 (fU N p s o).2.2 else false
def wQ(N:List (List Nat))(mk:ah->Option Nat):List ah->List Nat->List Nat->Option (List Nat)
 |[],_,o=>some o
 |x::xs,s,o=>match mk x with
   |none=>none
   |some p=>wQ N mk xs (fU N p s o).2.1 (fU N p s o).2.2
def jP(n:Nat):List Nat:=List.replicate n 0
def yF(es:List dm):List ah:=(es.flatMap (·.outs)).filter fun o=>!eT o (es.flatMap dZ)
abbrev XF:=Bool
def wL(S:St)(ts:List ah):List ah:=
 if ts≠[] then ts else if S.defs≠[] then S.defs else yF S.bB
def wO(S:St)(ts:List ah):Except XF (List Nat):=
 if zS (jd S.bB) (List.range S.bB.length) (jP S.bB.length) []=true then
  (match wQ (jd S.bB) (fE S.bB) (wL S ts) (jP S.bB.length) [] with
  |none=>.error true
  |some o=>.ok o)
 else .error false
section
open Go.RowKit Go.Maps
def UH:Value->Option (DataW Unit×List MemPlace)
 |.agg cs=>(match cs.toList with
   |[.string s]=>some (.lit (.string s.data.toList),[])
   |_=>none)
 |_=>none
variable {d:DataW Unit}
theorem Mf{v:Value}{p:List MemPlace}(h:UH v=some (d,p)):∃s,v=.agg #[.string s]/\d=.lit (.string s.data.toList):=by
 unfold UH at h
 split at h
 ·rename_i cs
  split at h
  ·rename_i s e
   refine⟨s,?_,(gW Prod.fst (ak h)).symm⟩;rw[show cs=#[.string s] from fD.1 e]
  cases h
 cases h
theorem aah{v v':Value}{p p':List MemPlace}(h:UH v=some (d,p))(h':UH v'=some (d,p')):v=v':=by
 obtain⟨s,rfl,e⟩:=Mf h;obtain⟨s',rfl,e'⟩:=Mf h';rw[e] at e';injection e' with e';injection e' with e';rw[show s=s' from ByteArray.ext (fD.1 e')]
def UG:zC:=⟨UH,aah⟩
def wu(s:ah):Value:=.agg #[.string s]
def yL:Value:=.agg #[.string ⟨#[]⟩]
theorem UI(s:ah):∃d ps,UG.R (wu s)=some (d,ps):=⟨_,_,rfl⟩
def wD(w:aj)(b n:Nat)(l:iB):Prop:=dU UG yL w b n (fun x=>(eB l x).map wu)
def aiY:Value->Nat
 |.pointer (some a)=>a.block+1
 |_=>0
def lU(w:aj):Value->List iB->Prop
 |p,[]=>p=.pointer none
 |p,l::ls=>∃sb tb n q,p=.pointer (some ⟨sb,0,none⟩)/\aiY q<=sb/\w.heap[sb]?=some (.cells #[.map (some tb),q] 302 (0,0))/\wD w tb n l/\lU w q ls
def gy:List iB->ah->ah
 |[],_=>⟨#[]⟩
 |l::ls,x=>(eB l x).getD (gy ls x)
variable {w:aj}
theorem bI{k:Nat}{o:Obj}(h:w.heap[k]?=some o):k<w.heap.size:=by
 rcases bR k w.heap.size with c|c
 ·exact c
 rw[eU c] at h;cases h
variable {w':aj}
theorem lU.keep(hb:∀k,k<w.heap.size->w'.heap[k]?=w.heap[k]?):∀{ls:List iB} {p:Value},lU w p ls->lU w' p ls
 |[],_,h=>h
 |_::_,_,⟨sb,tb,n,q,hp,hq,hs,hm,hr⟩=>⟨sb,tb,n,q,hp,hq,(hb sb (bI hs)).trans hs,dU.keep hm (hb tb hm.lt),lU.keep hb hr⟩
theorem Xp(ls:List iB)(p:Value)(x:ah)(w:aj)(h:lU w p ls)(hx:x.size<=1048576):
  Calls Tryz.prog 274 #[p,.string x] w fun e w'=>e=.returned (.string (gy ls x))/\Below w.heap.size w w':=by
 have HZ:Hid (∀w,(zeroValue 403).run Tryz.prog w=.ok yL w):=fun w=>by kernel_rfl
 have HP:=aP h
 have hxm:x.size<=maxLen:=by unfold maxLen;omega
 obtain⟨ao,rfl⟩:∃ao,p=.pointer ao:=by
  cases ls with
  |nil=>exact⟨none,h⟩
  |cons l ls=>obtain⟨sb,_,_,_,e,_⟩:=h;exact⟨_,e⟩
 clear h
 go_enter Tryz.func274,Tryz.ntmps274
 go_wp2
 go_loopw [5] (fun at' wr=>∃ap ls',at'=.pointer ap/\Below w.heap.size w wr/\lU wr (.pointer ap) ls'/\gy ls' x=gy ls x) (fun at' _=>aiY at')
 case atStart=>exact⟨_,ls,rfl,au _ _,HP.out,rfl⟩
 case round=>
  obtain⟨ap,ls',rfl,hbw,hsc,hev⟩:=hrel;have lF:=aP hbw;have HEV:=aP hev;clear hbw hev
  cases ls' with
  |nil=>
   obtain rfl:ap=none:=by have e:Value.pointer ap=.pointer none:=hsc;injection e
   go_wp2
   go_ret;exact⟨by rw[<-HEV.out];rfl,lF.out⟩
  |cons l ls2=>
   obtain⟨sb,tb,n,q,hap,hq,hs,hm,hr⟩:=hsc
   obtain rfl:ap=some ⟨sb,0,none⟩:=by injection hap
   obtain⟨qa,rfl⟩:∃qa,q=.pointer qa:=by
    cases ls2 with
    |nil=>exact⟨none,hr⟩
    |cons l ls=>obtain⟨sb,_,_,_,e,_⟩:=hr;exact⟨_,e⟩
   clear hap;have HQ:=aP hq;have HR:=aP hr
   have c0:wr.cell? ⟨sb,0,none⟩=some (.map (some tb)):=by rw[bZ hs];rfl
   have c1:wr.cell? ⟨sb,1,none⟩=some (.pointer qa):=by rw[bZ hs];rfl
   have hsb:sb<wr.heap.size:=bI hs;have hlk:=dU.look_ok hm (t:=300) Tryz.underlying300 HZ.out x hxm;have HE:Hid (gy (l::ls2) x=(eB l x).getD (gy ls2 x)):=rfl;clear hs hm hr hq
   cases hf:eB l x with
   |some y=>
    rw[hf] at hlk HE;have hlk2:(Instr.lookup 300 (.map (some tb)) (.string x) true).run Tryz.prog wr=.ok (.tuple #[.agg #[.string y],.bool true]) wr:=hlk;clear hlk
    go_wp2
    go_ret;exact⟨by rw[<-HEV.out,HE.out];rfl,lF.out.alloc lF.out.size _⟩
   |none=>
    rw[hf] at hlk HE;have hlk2:(Instr.lookup 300 (.map (some tb)) (.string x) true).run Tryz.prog wr=.ok (.tuple #[.agg #[.string ⟨#[]⟩],.bool false]) wr:=hlk;clear hlk
    go_wp2
    exact⟨⟨_,ls2,rfl,lF.out.alloc lF.out.size _,HR.out.keep (fun k hk=>aZ wr _ k hk),by rw[<-HEV.out,HE.out];rfl⟩,Nat.lt_succ_of_le HQ.out⟩
end
section
open Go.RowKit Go.Shelf
theorem aa9(t:ah):((⟨(Lib.trimRightB t.data.toList 36).toArray⟩:ah).size)=t.size-MW t:=by
 show(Lib.trimRightB t.data.toList 36).toArray.size=_;unfold Lib.trimRightB MW afG;rw[bT,RF];have h:=Ej (·==36) t.data.toList.reverse
 have e:(t.data.toList.reverse.dropWhile fun c=>c.toNat==36)=t.data.toList.reverse.dropWhile (·==36):=by
  congr 1
  funext c
  rw[sW];simp only[beq_iff_eq];exact⟨fun e=>qc.1 e,fun e=>by rw[e];rfl⟩
 rw[<-e,<-h,vM,RF,aR];rfl
theorem adu(t:ah):MW t<=t.size:=by
 unfold MW afG;refine aA (LP _ _) ?_;rw[RF,aR];exact ai _
theorem Qb(t:ah)(ht:t.size<=1048576)(w:aj):
  Calls Tryz.prog 260 #[.string t] w fun e w'=>e=.returned (.tuple #[.string (qB t),.bool (Eb t)])/\w'=w:=by
 have HC:Hid (Calls Tryz.prog 313 #[.string t,.string ⟨#[36]⟩] w fun e w'=>e=.returned (.string ⟨(Lib.trimRightB t.data.toList 36).toArray⟩)/\w'=w):=Any.strings_TrimRight_one Tryz.lays162 t 36 (by decide) w (by omega);have hsz:=aa9 t;have hdl:=adu t;generalize (⟨(Lib.trimRightB t.data.toList 36).toArray⟩:ah)=T at*
 have t0:(t.size:Int)<=1048576:=by omega
 have t1:(T.size:Int)<=(t.size:Int):=by omega
 have hsub:(t.size:Int)-(T.size:Int)=(MW t:Int):=by omega
 have HO:Hid (Eb t=decide (MW t % 2=1)):=rfl;have HP:Hid (qB t=if Eb t=true then t.extract 0 (t.size-1) else t):=rfl
 have d0:(0:Int)<=(MW t:Int):=by omega
 have d1:(MW t:Int)<=1048576:=by omega
 generalize MW t=D at*;clear hsz
 by_cases hodd:D % 2=1
 ·have hO:Eb t=true:=by rw[HO.out];exact bN hodd
  have hP:qB t=t.extract 0 (t.size-1):=by rw[HP.out,aD hO]
  rw[hO,hP]
  have q:((D:Int) % 2==0)=false:=by simp;omega
  have hsl:∀wx,(Instr.slice 9 (.string t) none (some (.int .i64 ((t.size:Int)-1))) none).run Tryz.prog wx=.ok (.string (t.extract 0 (t.size-1))) wx:=fun wx=>by
   have:=qD t (t.size-1) (by omega) wx;rw[show((t.size-1:Nat):Int)=(t.size:Int)-1 by omega] at this;exact this
  generalize t.extract 0 (t.size-1)=V at*;clear hO hP
  go_enter Tryz.func260,Tryz.ntmps260
  go_wp2_with fail
  refine HC.out.mono ?_;rintro e w' ⟨rfl,rfl⟩
  go_wp2_with fail
  go_ret2;exact⟨rfl,rfl⟩
 have hO:Eb t=false:=by rw[HO.out];exact bH hodd
 have hP:qB t=t:=by rw[HP.out,ax (by rw[hO];decide)]
 rw[hO,hP]
 have q:((D:Int) % 2==0)=true:=by simp;omega
 clear hO hP
 go_enter Tryz.func260,Tryz.ntmps260
 go_wp2_with fail
 refine HC.out.mono ?_;rintro e w' ⟨rfl,rfl⟩
 go_wp2_with fail
 go_ret2;exact⟨rfl,rfl⟩
theorem Le(t:ah):(qB t).size<=t.size:=by
 unfold qB
 split
 ·rw[aI];omega
 exact ai _
theorem Ai(l:List dK)(x:dK)(s:ah):Ez (l++[x]) s=l++[(x.1,x.2++s)]:=by
 unfold Ez;rw[List.getLast?_append,List.getLast?_singleton]
 simp
def wm(l:List dK):Nat:=(l.map (·.2.size)).sum
def AP(l:List ah):Nat:=(l.map (·.size)).sum
theorem Cc(l r:List dK):wm (l++r)=wm l+wm r:=by unfold wm;rw[iC,adg]
theorem Ma:∀{l:List dK} {x:dK},x∈l->x.2.size<=wm l
 |y::l,x,h=>by
  have e:wm (y::l)=y.2.size+wm l:=by unfold wm;simp
  rcases aV.1 h with rfl|h
  ·omega
  have:=Ma h;omega
theorem Fa(L:List dK)(on:Bool)(no:Nat)(r:ah):wm (lD L on no r)<=wm L+r.size:=by
 have hp:=Le r;have hl:=kD (qB r);unfold lD
 split
 ·rcases tL L with rfl|⟨l,x,rfl⟩
  ·exact aN _
  rw[tK,Ai,Cc,Cc];show _+wm [(x.1,x.2++bD (qB r))]<=wm l+wm [x]+_;unfold wm;simp only[mD,CR,List.sum_cons,List.sum_nil,aH];omega
 rw[Cc];show _+wm [(no,qB r)]<=_;unfold wm;simp only[mD,CR,List.sum_cons,List.sum_nil];omega
theorem EZ:∀(R:List ah) (no:Nat) (L:List dK) (on:Bool),wm (mP no R L on)<=wm L+AP R
 |[],_,L,_=>by show wm L<=_;omega
 |r::R,no,L,on=>by
  have h1:=EZ R (no+1) (lD L on no r) (Eb r);have h2:=Fa L on no r;show wm (mP (no+1) R (lD L on no r) (Eb r))<=wm L+AP (r::R)
  have e:AP (r::R)=r.size+AP R:=by unfold AP;simp
  omega
theorem Qs(L:List dK)(on:Bool)(no:Nat)(r:ah):(lD L on no r).length<=L.length+1:=by
 unfold lD
 split
 ·rcases tL L with rfl|⟨l,x,rfl⟩
  ·exact aN _
  rw[tK,Ai,aF,aF];show _+1<=_+1+1;omega
 rw[aF];exact ai _
theorem EY:∀(R:List ah) (no:Nat) (L:List dK) (on:Bool),(mP no R L on).length<=L.length+R.length
 |[],_,_,_=>ai _
 |r::R,no,L,on=>by
  have h1:=EY R (no+1) (lD L on no r) (Eb r);have h2:=Qs L on no r;show(mP (no+1) R (lD L on no r) (Eb r)).length<=L.length+(R.length+1);omega
theorem LW:∀(k:Nat) (s:ah),Lib.countB s nl=k->AP (Lib.splitB nl 0 k s)<=s.size
 |0,s,_=>by show AP [s]<=_;unfold AP;simp
 |k+1,s,h=>by
  rcases Lib.indexB_cases s nl with hi|⟨i,hi,hr⟩
  ·rw[Lib.splitB_miss _ _ _ _ hi];unfold AP;simp
  have hc:=Lib.countB_hit s nl i (by decide) hi;have:=LW k (s.extract (i+nl.size) s.size) (by omega);rw[Lib.splitB_hit _ _ _ _ _ hi]
  have e:AP (s.extract 0 (i+0)::Lib.splitB nl 0 k (s.extract (i+nl.size) s.size))=(s.extract 0 (i+0)).size+AP (Lib.splitB nl 0 k (s.extract (i+nl.size) s.size)):=by unfold AP;simp
  rw[aI] at this;rw[e,aI];omega
theorem Uh(t:ah):AP (zP t)<=t.size:=LW _ t rfl
theorem BU(t:ah):(zP t).length=Lib.countB t nl+1:=Lib.splitB_all nl (by decide) 0 _ t rfl
theorem Lu(t:ah):Lib.countB t nl<=t.size:=Lib.countB_le nl (by decide) _ t (ai _)
theorem WB(t:ah):wm (uy t)<=t.size:=by
 have h1:=EZ (zP t) 1 [] false;have h2:=Uh t;have:wm []=0:=rfl;unfold uy;omega
theorem Kb(E:ah->ah):∀(g:Nat) (t:ah) (i:Nat) (out:ah),t.size-i<=g->i<=t.size->jA E t i out=jA E (t.extract i t.size) 0 out:=by
 intro g
 induction g with
 |zero=>
  intro t i out h hi;rw[ul _ _ _ _ (by omega),ul _ _ _ _ (by rw[aI];omega)]
 |succ g ih=>
  intro t i out h hi
  have hsz:(t.extract i t.size).size=t.size-i:=by rw[aI];omega
  by_cases he:t.size<=i
  ·rw[ul _ _ _ _ he,ul _ _ _ _ (by omega)]
  have hb:byteOf (t.extract i t.size) 0=byteOf t i:=by rw[kC _ _ _ _ (by omega) (ai _),kT]
  have hx:∀k,i+k<=t.size->(t.extract i t.size).extract k (t.extract i t.size).size=t.extract (i+k) t.size:=fun k hk=>by
   rw[hsz,nH _ _ _ _ _ (by omega),show i+(t.size-i)=t.size by omega]
  by_cases hc:byteOf t i=36
  ·have hfu:uq (t.extract i t.size) 0=(qf (t.extract (i+1) t.size)).map fun p=>(p.1,0+1+p.2):=by
    rw[EQ _ _ (by omega),hx (0+1) (by omega)]
   have hft:=EQ t i (by omega)
   cases hf:qf (t.extract (i+1) t.size) with
   |none=>
    rw[hf] at hfu hft;rw[zk _ _ _ _ (by omega) hc hft,zk _ _ _ _ (by omega) (hb.trans hc) hfu]
   |some p=>
    obtain⟨f,k⟩:=p;rw[hf] at hfu hft;have h1:=zM (show uq t i=some (f,i+1+k) from hft);rw[zi _ _ _ _ _ _ (by omega) hc (show uq t i=some (f,i+1+k) from hft),zi _ _ _ _ _ _ (by omega) (hb.trans hc) (show uq (t.extract i t.size) 0=some (f,0+1+k) from hfu)];rw[ih t (i+1+k) _ (by omega) (by omega),ih (t.extract i t.size) (0+1+k) _ (by omega) (by omega),hx _ (by omega),show i+(0+1+k)=i+1+k by omega]
  rw[xR _ _ _ _ (by omega) hc,xR E (t.extract i t.size) 0 out (by omega) (by rw[hb];exact hc)];rw[ih t (i+1) _ (by omega) (by omega),ih (t.extract i t.size) (0+1) _ (by omega) (by omega),hx _ (by omega),nH _ _ _ _ _ (by omega)];rfl
theorem Qg(t:ah)(a b c:Nat)(h1:a<=b)(h2:b<=c):t.extract a b++t.extract b c=t.extract a c:=by
 rw[Yi,lG h1,Nat.max_eq_right h2]
theorem Ap(E:ah->ah)(t:ah):∀(n i:Nat) (out:ah),i+n<=t.size->(∀k,i<=k->k<i+n->byteOf t k≠36)->jA E t i out=jA E t (i+n) (out++t.extract i (i+n)):=by
 intro n
 induction n with
 |zero=>
  intro i out _ _;rw[kT,show t.extract i i=ByteArray.empty from iD.1 (by rw[aI];omega),Js]
 |succ n ih=>
  intro i out h hk;rw[xR _ _ _ _ (by omega) (hk i (ai _) (by omega)),ih (i+1) _ (by omega) (fun k a b=>hk k (by omega) (by omega)),dH,Qg _ _ _ _ (by omega) (by omega),show i+1+n=i+(n+1) by omega]
def dol:ah:=⟨#[36]⟩
theorem Zo(u:ah):(Lib.indexB u dol=-1/\∀k,k<u.size->byteOf u k≠36)\/∃n:Nat,Lib.indexB u dol=n/\n<u.size/\byteOf u n=36/\∀k,k<n->byteOf u k≠36:=by
 have h1:Lib.indexB u dol=Lib.indexByte u.data.toList 36:=Lib.one u dol rfl
 have hb:∀k,k<u.size->u.data.toList[k]?≠some 36->byteOf u k≠36:=fun k hk hn e=>hn (by
  rw[bV,NN u k hk,e];rfl)
 rcases Lib.indexB_cases u dol with h|⟨i,h,hi⟩
 ·refine aG ⟨h,fun k hk=>hb k hk ?_⟩;rw[h1] at h;exact Lib.indexByte_none h k
 refine aL ⟨i,h,?_,?_,fun k hk=>?_⟩
 ·have:dol.size=1:=rfl;omega
 ·rw[h1] at h;have:=(Lib.indexByte_some h).1;rw[uX this];rfl
 rw[h1] at h;refine hb k ?_ ((Lib.indexByte_some h).2 k hk);have:dol.size=1:=rfl;omega
theorem Sq(E:ah->ah)(u out:ah)(h:∀k,k<u.size->byteOf u k≠36):jA E u 0 out=some (out++u):=by
 rw[Ap E u u.size 0 out (by omega) (fun k _ hk=>h k (by omega)),ul _ _ _ _ (by omega),bW,kr]
theorem VT(E:ah->ah)(u out:ah)(n:Nat)(hn:n<u.size)(hd:byteOf u n=36)(h:∀k,k<n->byteOf u k≠36)(hf:qf (u.extract (n+1) u.size)=none):jA E u 0 out=none:=by
 rw[Ap E u n 0 out (by omega) (fun k _ hk=>h k (by omega)),bW];exact zk _ _ _ _ hn hd (by rw[EQ _ _ hn,hf];rfl)
theorem Sv(E:ah->ah)(u out:ah)(n:Nat)(hn:n<u.size)(hd:byteOf u n=36)(h:∀k,k<n->byteOf u k≠36)(f:IB)(k:Nat)(hf:qf (u.extract (n+1) u.size)=some (f,k)):
  jA E u 0 out=(if 4000<(out++u.extract 0 n++f.val E).size then none else jA E ((u.extract (n+1) u.size).extract k (u.extract (n+1) u.size).size) 0 (out++u.extract 0 n++f.val E))/\0<k/\k<=(u.extract (n+1) u.size).size:=by
 have hf2:uq u n=some (f,n+1+k):=by rw[EQ _ _ hn,hf];rfl
 have hle:=zM hf2
 have hsz:(u.extract (n+1) u.size).size=u.size-(n+1):=by rw[aI];omega
 refine⟨?_,by omega,by omega⟩;rw[Ap E u n 0 out (by omega) (fun k _ hk=>h k (by omega)),bW,zi _ _ _ _ _ _ hn hd hf2,Kb E _ u (n+1+k) _ (ai _) hle.2,hsz,nH _ _ _ _ _ (by omega),show n+1+(u.size-(n+1))=u.size by omega]
def iW(a:Nat->Addr)(k:Nat):Value:=.iface 472 (.pointer (some (a k)))
structure Gl(a:Nat->Addr)(w:aj):Prop where
 size:14<=w.heap.size
 errs:∀k,k<9->w.cell? ⟨k,0,none⟩=some (iW a k)
 most:∃m,w.cell? ⟨11,0,none⟩=some (.int .i64 m)
variable {a:Nat->Addr}{w w':aj}
theorem Gl.keep(h:Gl a w)(hs:w.heap.size<=w'.heap.size)(hb:∀k,k<14->w'.heap[k]?=w.heap[k]?):Gl a w' where
 size:=aA h.size hs
 errs k hk:=by rw[aB (w:=w) (hb _ (by simp only;omega))];exact h.errs k hk
 most:=by
  obtain⟨m,hm⟩:=h.most;exact⟨m,by rw[aB (w:=w) (hb _ (by decide))];exact hm⟩
variable {B:Nat}
theorem Gl.below(h:Gl a w)(hb:Below B w w')(hB:14<=B):Gl a w':=h.keep hb.size (fun k hk=>hb.block k (by omega))
def IB.text:IB->ah
 |.inl b=>b
 |.inr x=>x
variable {f:IB}
theorem Kn{u:ah}{k:Nat}(h:qf u=some (f,k)):f.text.size<=u.size:=by
 have hw:∀v:ah,(fo v).size<=v.size:=fun v=>by rw[lX];exact jX _ _
 unfold qf at h
 split at h
 ·cases h
 split at h
 ·obtain⟨rfl,_⟩:=Prod.mk.inj (ak h);show(u.extract 0 1).size<=_;rw[aI];omega
 split at h
 ·split at h
  ·cases h
  obtain⟨rfl,_⟩:=Prod.mk.inj (ak h);refine aA (hw _) ?_;rw[aI];omega
 split at h
 ·cases h
 obtain⟨rfl,_⟩:=Prod.mk.inj (ak h);exact hw _
def ai0:Value->Nat
 |.string s=>s.size
 |_=>0
theorem ads(u:ah)(hu:u.size<=1048576)(a:Nat->Addr)(w:aj)(hg:Gl a w):
  Calls Tryz.prog 272 #[.string u,.string dol] w fun e w'=>(∃n,w'=w.drewN n)/\((e=.returned (.tuple #[.string u,.string ⟨#[]⟩,.bool false])/\∀k,k<u.size->byteOf u k≠36)\/∃n,n<u.size/\byteOf u n=36/\(∀k,k<n->byteOf u k≠36)/\e=.returned (.tuple #[.string (u.extract 0 n),.string (u.extract (n+1) u.size),.bool true])):=by
 obtain⟨m,hm⟩:=hg.most;refine(Any.strings_Cut Tryz.lays145 u dol m w (by omega) hm).mono ?_;rintro e w' ⟨rfl,n,rfl⟩;refine⟨⟨n,rfl⟩,?_⟩
 rcases Zo u with ⟨h,hk⟩|⟨i,h,hi,hd,hk⟩
 ·have:=Lib.cutB_miss u dol h;refine aG ⟨?_,hk⟩;rw[this.1,this.2.1,this.2.2];rfl
 have:=Lib.cutB_hit u dol i h;refine aL ⟨i,hi,hd,hk,?_⟩;rw[this.1,this.2.1,this.2.2];rfl
def VS(a:Nat->Addr)(n:Int)(o:Option ah)(e:Ending)(w':aj):Prop:=match o with
 |some y=>e=.returned (.string y)
 |none=>jB n (iW a 4) e w'
theorem Tm{T:TypeId}{b:Option Nat}(h:Lib.OthersKept 5 b w w'){k:Nat}{cs:Array Value}{fz:Nat×Nat}(hk:w.heap[k]?=some (.cells cs T fz))(hT:T≠5)(hb:some k≠b):w'.heap[k]?=some (.cells cs T fz):=
 h k _ hk hb (fun c f e=>hT (by injection e))
theorem xS(rb:Nat)(n:Int)(t:ah)(ls:List iB)(p:Value)(a:Nat->Addr)(w:aj)(h0:w.cell? ⟨rb,0,none⟩=some (.int .i64 n))(hs:lU w p ls)(hg:Gl a w)(ht:t.size<=1048576)(hE:∀x,(gy ls x).size<=1048576)(hN:gy ls ⟨#[]⟩=⟨#[]⟩):
  Calls Tryz.prog 201 #[.pointer (some ⟨rb,0,none⟩),.string t,p] w fun e w'=>VS a n (iy (gy ls) t) e w'/\Below w.heap.size w w':=by
 have HS:=aP hs;have HG:=aP hg;have HE:=aP hE;have HX:=aP h0;have hrb:rb<w.heap.size:=aC h0;have HT:=aP ht;have HN0:=aP hN;clear hN
 obtain⟨ao,rfl⟩:∃ao,p=.pointer ao:=by
  cases ls with
  |nil=>exact⟨none,hs⟩
  |cons l ls=>obtain⟨sb,_,_,_,e,_⟩:=hs;exact⟨_,e⟩
 clear hs hg hE h0
 go_enter Tryz.func201,Tryz.ntmps201
 go_wp2_with fail
 go_loopw [1] (fun v wr=>∃u out,v=.string u/\u.size<=t.size/\out.size<=4000/\dP wr w.heap.size out/\Below w.heap.size w wr/\jA (gy ls) u 0 out=iy (gy ls) t) (fun v _=>ai0 v)
 case atStart=>
  exact⟨t,⟨#[]⟩,rfl,ai _,by decide,uW w,(au _ _).alloc (ai _) _,rfl⟩
 case round=>
  obtain⟨u,out,rfl,hus,hos,hbu,hbw,hex⟩:=hrel;have uM:=aP hbu;have lF:=aP hbw;have HEX:=aP hex;have HGr:=aP (HG.out.below hbw HG.out.size);have HUS:=aP hus;clear hbu hbw hex
  go_wp2_with fail
  refine(ads u (by have:=HT.out;omega) a wr HGr.out).mono ?_;rintro e w1 ⟨⟨n1,rfl⟩,⟨rfl,hno⟩|⟨i,hi,hd,hno,rfl⟩⟩
  ·have HN:Hid (iy (gy ls) t=some (out++u)):=HEX.out.symm.trans (Sq _ u out hno);have HB1:Hid (dP (wr.drewN n1) w.heap.size out):=uM.out.keep (fun _ _=>rfl);clear hno
   go_wp2_with fail
   refine(rG _ out u _ HB1.out (by have:=HT.out;omega)).mono ?_;rintro e w2 ⟨rfl,hb2,hw2⟩;have HB2:=aP hb2;have HW2:=aP ((bX lF.out n1).trans hw2);clear hb2 hw2
   go_wp2_with fail
   refine(uV _ _ _ HB2.out).mono ?_;rintro e w3 ⟨rfl,hb3,hw3⟩;have HW3:=aP (HW2.out.trans hw3);clear hb3 hw3
   go_wp2_with fail
   go_ret;exact⟨by rw[HN.out];rfl,HW3.out⟩
  have hvs:(u.extract (i+1) u.size).size<=1048576:=by rw[aI];have:=HT.out;omega
  have HVS:Hid ((u.extract (i+1) u.size).size<u.size):=by show _<_;rw[aI];omega
  have hAs:(u.extract 0 i).size<=1048576:=by rw[aI];have:=HT.out;omega
  have HBAD:Hid (qf (u.extract (i+1) u.size)=none->iy (gy ls) t=none):=fun hf=>HEX.out.symm.trans (VT _ u out i hi hd hno hf)
  have RD:Hid (∀f k,qf (u.extract (i+1) u.size)=some (f,k)->(iy (gy ls) t=(if 4000<(out++u.extract 0 i++f.val (gy ls)).size then none else jA (gy ls) ((u.extract (i+1) u.size).extract k (u.extract (i+1) u.size).size) 0 (out++u.extract 0 i++f.val (gy ls))))/\0<k/\k<=(u.extract (i+1) u.size).size):=fun f k hf=>by
   have h:=Sv (gy ls) u out i hi hd hno f k hf;exact⟨HEX.out.symm.trans h.1,h.2⟩
  have HB1:Hid (dP (wr.drewN n1) w.heap.size out):=uM.out.keep (fun _ _=>rfl)
  have akx:Hid (∀b k,qf (u.extract (i+1) u.size)=some (.inl b,k)->b.size<=1048576):=fun b k hf=>aA (Kn hf) hvs
  have akV:Hid (∀b k,qf (u.extract (i+1) u.size)=some (.inr b,k)->b.size<=1048576):=fun b k hf=>aA (Kn hf) hvs
  clear hno hd;generalize u.extract 0 i=A at*;generalize u.extract (i+1) u.size=V at*
  go_wp2_with fail
  refine(rG _ out A _ HB1.out (by omega)).mono ?_;rintro e w2 ⟨rfl,hb2,hw2⟩;have HB2:=aP hb2;have HW2:=aP ((bX lF.out n1).trans hw2);have hlt2:w.heap.size<w2.heap.size:=hb2.lt;clear hb2 hw2
  go_wp2_with fail
  refine(VY V hvs _).mono ?_;rintro e w3 ⟨⟨lit,var,k,rfl,hfi⟩,hw3⟩;have HB3:=aP (HB2.out.below hw3);have HW3:Hid (Below w.heap.size w w3):=HW2.out.trans (hw3.mono (by omega));have hlt3:w.heap.size<w3.heap.size:=HB3.out.lt;have hg3:=HG.out.below HW3.out HG.out.size;have c4:w3.cell? ⟨4,0,none⟩=some (.iface 472 (.pointer (some (a 4)))):=hg3.errs 4 (by decide)
  have l4:4<w3.heap.size:=by have:=hg3.size;omega
  clear hw3 hg3
  cases hf:qf V with
  |none=>
   have HN:=aP (HBAD.out hf)
   have uR:Hid (∀wx,Below w.heap.size w wx->Calls Tryz.prog 112 #[.pointer (some ⟨rb,0,none⟩),.bool false,.iface 472 (.pointer (some (a 4)))] wx fun e w'=>jB n (iW a 4) e w'/\Below wx.heap.size wx w'):=fun wx hb=>pq rb n _ _ wx ((hb.cell (p:=⟨rb,0,none⟩) hrb).trans HX.out)
   simp only[iN];clear hf hfi
   go_wp2_with fail
   refine(uR.out _ (HW3.out.alloc HW3.out.size _)).mono ?_;rintro e w4 ⟨⟨b,rfl,s0,s1⟩,hb4⟩;refine⟨rfl,?_,(HW3.out.alloc HW3.out.size _).trans (hb4.mono (by simp;omega))⟩;rw[HN.out];exact⟨b,rfl,s0,s1⟩
  |some fk=>
   obtain⟨f,kk⟩:=fk;obtain⟨hst,hk0,hk1⟩:=RD.out f kk hf;have HST:=aP hst;rw[hf] at hfi
   obtain⟨hk,ac7⟩:k=(kk:Int)/\Hid (out++A++lit++gy ls var=out++A++f.val (gy ls)/\lit.size<=1048576/\var.size<=1048576):=by
    cases f with
    |inl b=>
     obtain⟨rfl,rfl,hk⟩:=hfi;refine⟨hk,?_,akx.out _ _ hf,by decide⟩;rw[HN0.out];exact Js
    |inr x=>
     obtain⟨rfl,rfl,hk⟩:=hfi;refine⟨hk,?_,by decide,akV.out _ _ hf⟩;rw[show out++A++(⟨#[]⟩:ah)=out++A from Js];rfl
   subst hk;simp only[fT];clear hf hfi hst HBAD RD
   have k0:(0:Int)<=(kk:Int):=by omega
   have hsl:∀wx,(Instr.slice 9 (.string V) (some (.int .i64 kk)) none none).run Tryz.prog wx=.ok (.string (V.extract kk V.size)) wx:=fun wx=>nL V kk hk1 wx
   go_wp2_with fail
   refine(gD _ _ _).mono ?_;rintro e w4 ⟨rfl,rfl⟩
   go_wp2_with fail
   have ag3:Hid (dP (w3.alloc (.cells #[.string lit,.string var,.int .i64 kk] 407)) w.heap.size (out++A)):=HB3.out.keep (fun k hk=>aZ w3 _ k hk);have hla:(out++A).size=out.size+A.size:=aH;have hlb:=ac7.out.2.1;refine(Gb _ (out++A) lit _ ag3.out (by omega)).mono ?_;rintro e w5 ⟨rfl,hb5,hw5,hk5⟩;have Bo:=aP hb5;have HW5:Hid (Below w.heap.size w w5):=(HW3.out.alloc HW3.out.size _).trans hw5;have HR5:Hid (w5.heap[w3.heap.size]?=some (.cells #[.string lit,.string var,.int .i64 kk] 407 (0,0))):=Tm hk5 (aW w3 _ _ rfl) (by decide) (by simp;omega)
   have d1:w5.cell? ⟨w3.heap.size,1,none⟩=some (.string var):=by rw[bZ HR5.out];rfl
   clear hb5 hw5 hk5 hsl
   go_wp2_with fail
   refine(Xp ls _ var _ (HS.out.keep (fun k hk=>HW5.out.block k hk)) ac7.out.2.2).mono ?_;rintro e w6 ⟨rfl,hw6⟩;have FN:=aP (Bo.out.below hw6);have HW6:=aP (HW5.out.trans (hw6.mono HW5.out.size));have HR6:Hid (w6.heap[w3.heap.size]?=some (.cells #[.string lit,.string var,.int .i64 kk] 407 (0,0))):=(hw6.block _ (bI HR5.out)).trans HR5.out;have hv:=HE.out var;have HV:=aP ac7.out.1;generalize gy ls var=val at*
   have hlc:(out++A++lit).size=out.size+A.size+lit.size:=by rw[aH,aH]
   have hld:(out++A++lit++val).size=out.size+A.size+lit.size+val.size:=by rw[aH,hlc]
   clear hw6 d1
   go_wp2_with fail
   refine(Gb _ (out++A++lit) val _ FN.out (by omega)).mono ?_;rintro e w7 ⟨rfl,Jk,hw7,hk7⟩;have Rx:=aP Jk;have HW7:=aP (HW6.out.trans hw7);have HR7:Hid (w7.heap[w3.heap.size]?=some (.cells #[.string lit,.string var,.int .i64 kk] 407 (0,0))):=Tm hk7 HR6.out (by decide) (by simp;omega)
   have e2:w7.cell? ⟨w3.heap.size,2,none⟩=some (.int .i64 kk):=by rw[bZ HR7.out];rfl
   have wT:=HG.out.below HW7.out HG.out.size;have f4:w7.cell? ⟨4,0,none⟩=some (.iface 472 (.pointer (some (a 4)))):=wT.errs 4 (by decide);rw[HV.out] at Rx hld;generalize hX:out++A++f.val (gy ls)=X at*;clear Jk hw7 hk7 wT c4 FN Bo HB3 ag3 HV ac7 hX
   have x0:(X.size:Int)<=9000000:=by omega
   clear hld hlc hla
   have hsl:∀wx,(Instr.slice 9 (.string V) (some (.int .i64 kk)) none none).run Tryz.prog wx=.ok (.string (V.extract kk V.size)) wx:=fun wx=>nL V kk hk1 wx
   have HLEN:Hid (Calls Tryz.prog 275 #[.pointer (some ⟨w.heap.size,0,none⟩)] w7.drew fun e w'=>e=.returned (.int .i64 X.size)/\w'=w7.drew):=JQ _ X _ (Rx.out.keep (fun _ _=>rfl))
   by_cases hbig:4000<X.size
   ·have HN:=aP (HST.out.trans (aD hbig));have b2:decide ((X.size:Int)<=4000)=false:=bH (by omega);have uR:Hid (Calls Tryz.prog 112 #[.pointer (some ⟨rb,0,none⟩),.bool false,.iface 472 (.pointer (some (a 4)))] w7.drew fun e w'=>jB n (iW a 4) e w'/\Below w.heap.size w w'):=(pq rb n _ _ w7.drew ((HW7.out.cell (p:=⟨rb,0,none⟩) hrb).trans HX.out)).mono (fun e w' h=>⟨h.1,HW7.out.drew.trans (h.2.mono HW7.out.size)⟩)
    go_wp2_with fail
    refine jT (by kernel_rfl) ?_;change wpAny _ _ _ _ _ _ _ (World.drew _);refine uA 0 (.pointer (some ⟨rb,0,none⟩)) rfl ⟨by kernel_rfl,kI,by intro w;go_simp⟩ ?_
    refine pA 1 3 rfl rfl (by kernel_rfl) (fun K hK=>?_) fun K hK=>?_
    ·go_simp
     go_wp2_with (go_at_call 275;refine HLEN.out.mono ?_;rintro e w8 ⟨rfl,rfl⟩)
     refine uA 2 (.bool false) rfl ⟨by kernel_rfl,kI,by intro w;go_simp⟩ ?_
     refine rA 3 rfl (by kernel_rfl) fun K hK=>?_
     go_simp;refine hK _ _ ?_;clear hK K
     refine rA 4 rfl (by kernel_rfl) fun K hK=>?_
     go_simp;refine uR.out.mono ?_;rintro e w8 ⟨⟨b,rfl,s0,s1⟩,mr⟩;exact⟨rfl,(by rw[HN.out];exact⟨b,rfl,s0,s1⟩),mr⟩
    go_simp;refine hK _ _ ?_;clear hK K
    refine rA 1 rfl (by kernel_rfl) fun K hK=>?_
    go_simp
    go_wp2_with (go_at_call 275;refine HLEN.out.mono ?_;rintro e w8 ⟨rfl,rfl⟩)
    refine uA 2 (.bool false) rfl ⟨by kernel_rfl,kI,by intro w;go_simp⟩ ?_
    refine rA 4 rfl (by kernel_rfl) fun K hK=>?_
    go_simp;refine uR.out.mono ?_;rintro e w8 ⟨⟨b,rfl,s0,s1⟩,mr⟩;exact⟨rfl,(by rw[HN.out];exact⟨b,rfl,s0,s1⟩),mr⟩
   have HN:=aP ((HST.out.trans (ax hbig)).symm)
   have b1:(X.size:Int)<=4000:=by omega
   have afx:Hid (Calls Tryz.prog 112 #[.pointer (some ⟨rb,0,none⟩),.bool true,.iface 472 (.pointer (some (a 4)))] w7.drew fun e w'=>e=.returned (.tuple #[])/\w'=w7.drew):=gD _ _ _
   go_wp2_with fail
   go_region_held3 (fun w'=>w'=w7.drew/\w'.cell? ⟨4,0,none⟩=some (.iface 472 (.pointer (some (a 4))))) (first|exact⟨rfl,f4⟩) (first|(go_at_call 275;refine HLEN.out.mono ?_;rintro e w8 ⟨rfl,rfl⟩)|(go_at_call 112;refine afx.out.mono ?_;rintro e w8 ⟨rfl,rfl⟩))
   all_goals
    go_wp2_with fail
    exact⟨⟨V.extract kk V.size,X,rfl,by rw[aI];have:=HVS.out;have:=HUS.out;omega,by omega,Rx.out.keep (fun _ _=>rfl),HW7.out.drew,HN.out⟩,by show(V.extract kk V.size).size<u.size;rw[aI];have:=HVS.out;omega⟩
theorem uj{G:Prop}(h:G)(w:aj):wpAny Tryz.prog .any #[] (fun _ _ _=>True) 0 #[] {tmps:=#[],defers:=[]} w->G:=fun _=>h
def XM(a:Nat->Addr)(n:Int)(o:Option (ah×ah))(e:Ending)(w':aj):Prop:=match o with
 |some nv=>e=.returned (.tuple #[.string nv.1,.string nv.2])
 |none=>jB n (iW a 4) e w'
theorem pR(t:ah)(c:UInt8)(w:aj):
  Calls Tryz.prog 193 #[.string t,.string ⟨#[c]⟩] w fun e w'=>e=.returned (.bool (fQ t c.toNat))/\w'=w:=by
 have:=Any.strings_HasPrefix Tryz.lays99 t ⟨#[c]⟩ w;rw[show(⟨#[c]⟩:ah).data.toList=[c] from rfl,Db] at this;exact this
theorem qx(rb:Nat)(n:Int)(t:ah)(a:Nat->Addr)(w:aj)(h0:w.cell? ⟨rb,0,none⟩=some (.int .i64 n))(hg:Gl a w)(ht:t.size<=1048576):
  Calls Tryz.prog 270 #[.pointer (some ⟨rb,0,none⟩),.string t] w fun e w'=>XM a n (pK t) e w'/\Below w.heap.size w w':=by
 have HB:Hid (pK t=if di (bD t)=0\/fQ (bD (gL (bD t))) 61=false then none else some (fo (bD t),bD ((bD (gL (bD t))).extract 1 (bD (gL (bD t))).size))):=rfl;have HX:=aP h0;have hls:=kD t
 have HW1:Hid (∀wx,Calls Tryz.prog 191 #[.string t] wx fun e w'=>e=.returned (.string (bD t))/\w'=wx):=fun wx=>gG t wx
 generalize bD t=T at*
 have Dx:Hid (∀wx,Calls Tryz.prog 194 #[.string T] wx fun e w'=>e=.returned (.tuple #[.string (fo T),.string (gL T)])/\∃n,w'=wx.drewN n):=fun wx=>qy T (by omega) wx
 have SK:=lX T;have hts:=yc T;generalize gL T=TL at*
 have HW2:Hid (∀wx,Calls Tryz.prog 191 #[.string TL] wx fun e w'=>e=.returned (.string (bD TL))/\w'=wx):=fun wx=>gG TL wx
 have hus:=kD TL;generalize bD TL=U at*
 have RA:Hid (∀wx,Calls Tryz.prog 193 #[.string U,.string ⟨#[61]⟩] wx fun e w'=>e=.returned (.bool (fQ U 61))/\w'=wx):=fun wx=>pR U 61 wx
 have HBG:Hid (fQ U 61=decide (0<U.size/\byteOf U 0=61)):=rfl;have c4:w.cell? ⟨4,0,none⟩=some (.iface 472 (.pointer (some (a 4)))):=hg.errs 4 (by decide);have hnn:=qN (fo T);rw[SK] at hnn;generalize fo T=HD at*;rw[<-SK] at HB hnn;generalize di T=N at*;subst SK
 have uR:Hid (∀k,Calls Tryz.prog 112 #[.pointer (some ⟨rb,0,none⟩),.bool false,.iface 472 (.pointer (some (a 4)))] (w.drewN k).drew fun e w'=>jB n (iW a 4) e w'/\Below w.heap.size w w'):=fun k=>(pq rb n _ _ (w.drewN k).drew HX.out).mono (fun e w' h=>⟨h.1,(bX (au _ w) k).drew.trans h.2⟩)
 clear h0 hg
 by_cases hN:HD.size=0
 ·rw[bN hN] at hnn
  have HF:Hid (pK t=none):=by rw[HB.out,aD (aG hN)];rfl
  obtain rfl:HD=⟨#[]⟩:=iD.1 hN;clear hnn hN
  go_enter Tryz.func270,Tryz.ntmps270
  go_wp2_with fail
  refine(HW1.out _).mono ?_;rintro e w1 ⟨rfl,rfl⟩
  go_wp2_with fail
  refine(Dx.out _).mono ?_;rintro e w2 ⟨rfl,k2,rfl⟩
  go_wp2_with fail
  refine(HW2.out _).mono ?_;rintro e w3 ⟨rfl,rfl⟩
  go_wp2_with fail
  refine jT (by kernel_rfl) ?_;change wpAny _ _ _ _ _ _ _ (World.drew _);refine uA 0 (.pointer (some ⟨rb,0,none⟩)) rfl ?_<|uA 1 (.string ⟨#[]⟩) rfl ?_<|uA 2 (.bool false) rfl ?_<|uA 3 (.bool false) rfl ?_ ?_;(iterate 4 ·exact⟨by kernel_rfl,kI,by intro w;go_simp⟩);refine sA 4 rfl (by kernel_rfl) kI ?_;refine sA 5 rfl (by kernel_rfl) kI ?_;refine uA 6 (.bool false) rfl ⟨by kernel_rfl,kI,by intro w;go_simp⟩ ?_
  refine rA 7 rfl (by kernel_rfl) fun K hK=>?_
  go_simp;refine hK _ _ ?_;clear hK K
  refine rA 8 rfl (by kernel_rfl) fun K hK=>?_
  go_simp;refine(uR.out k2).mono ?_;rintro e w8 ⟨hst,mr⟩;obtain⟨b,rfl,s0,s1⟩:=hst;exact⟨rfl,(by rw[HF.out];exact⟨b,rfl,s0,s1⟩),mr⟩
 rw[bH hN] at hnn
 cases hbg:fQ U 61 with
 |false=>
  have HF:Hid (pK t=none):=by rw[HB.out,aD (aL hbg)];rfl
  rw[hbg] at RA;clear hbg HBG
  go_enter Tryz.func270,Tryz.ntmps270
  go_wp2_with fail
  refine(HW1.out _).mono ?_;rintro e w1 ⟨rfl,rfl⟩
  go_wp2_with fail
  refine(Dx.out _).mono ?_;rintro e w2 ⟨rfl,k2,rfl⟩
  go_wp2_with fail
  refine(HW2.out _).mono ?_;rintro e w3 ⟨rfl,rfl⟩
  go_wp2_with fail
  go_region_with (first|(go_at_call 193;refine(RA.out _).mono ?_;rintro e w8 ⟨rfl,rfl⟩)|(go_at_call 112;refine(uR.out k2).mono ?_;rintro e w8 ⟨hst,mr⟩;obtain⟨b,rfl,s0,s1⟩:=hst;refine uj ⟨rfl,(by rw[HF.out];exact⟨b,rfl,s0,s1⟩),mr⟩ w1 ?_))
  all_goals trivial
 |true=>
  have HF:Hid (pK t=some (HD,bD (U.extract 1 U.size))):=by rw[HB.out,ax (by rw[hbg];simp[hN])];rfl
  have hu1:1<=U.size:=by have h:=HBG.out;rw[hbg] at h;have:=fC h.symm;omega
  have hsl:∀wx,(Instr.slice 9 (.string U) (some (.int .i64 1)) none none).run Tryz.prog wx=.ok (.string (U.extract 1 U.size)) wx:=fun wx=>nL U 1 hu1 wx
  have HW3:Hid (∀wx,Calls Tryz.prog 191 #[.string (U.extract 1 U.size)] wx fun e w'=>e=.returned (.string (bD (U.extract 1 U.size)))/\w'=wx):=fun wx=>gG _ wx
  have afx:Hid (∀wx,Calls Tryz.prog 112 #[.pointer (some ⟨rb,0,none⟩),.bool true,.iface 472 (.pointer (some (a 4)))] wx fun e w'=>e=.returned (.tuple #[])/\w'=wx):=fun wx=>gD _ _ _
  rw[hbg] at RA;generalize bD (U.extract 1 U.size)=R at*;generalize U.extract 1 U.size=V at*;clear hbg HBG
  go_enter Tryz.func270,Tryz.ntmps270
  go_wp2_with fail
  refine(HW1.out _).mono ?_;rintro e w1 ⟨rfl,rfl⟩
  go_wp2_with fail
  refine(Dx.out _).mono ?_;rintro e w2 ⟨rfl,k2,rfl⟩
  go_wp2_with fail
  refine(HW2.out _).mono ?_;rintro e w3 ⟨rfl,rfl⟩
  go_wp2_with fail
  go_region_with (first|(go_at_call 193;refine(RA.out _).mono ?_;rintro e w8 ⟨rfl,rfl⟩)|(go_at_call 112;refine(afx.out _).mono ?_;rintro e w8 ⟨rfl,rfl⟩))
  all_goals
   go_wp2_with fail
   refine(HW3.out _).mono ?_;rintro e w9 ⟨rfl,rfl⟩
   go_wp2_with fail
   go_ret2;exact⟨by rw[HF.out];rfl,(bX (au _ _) k2).drew⟩
end
def Bu(N:List (List Nat))(o:List Nat):DI->Option Nat->Prop
 |[],_=>True
 | (p,l)::k,c=>(∃d,N.getD p []=d++(c.toList++l)/\∀n∈d,n∈o)/\Bu N o k (some p)
theorem Bu.more{o':List Nat}(ho:∀n∈o,n∈o'):∀{k:DI} {c:Option Nat},Bu N o k c->Bu N o' k c
 |[],_,_=>trivial
 | (p,l)::k,c,h=>⟨by obtain⟨d,h1,h2⟩:=h.1;exact⟨d,h1,fun n hn=>ho n (h2 n hn)⟩,Bu.more ho h.2⟩
structure xO(N:List (List Nat))(G:Nat->Prop)(k:DI)(s o:List Nat):Prop where
 fits:qX N k s
 two:∀p,s.getD p 0=2↔p∈o
 one:∀p,s.getD p 0=1↔p∈k.map (·.1)
 nd:o.Nodup
 ahead:∀i p,o[i]?=some p->∀n∈N.getD p [],n∈o.take i
 chain:Bu N o k none
 want:∀p,p∈o\/p∈k.map (·.1)->G p\/∃q,(q∈o\/q∈k.map (·.1))/\p∈N.getD q []
theorem xC(h:qX N k s)(hp:p<N.length):(s.set p v).getD i 0=if i=p then v else s.getD i 0:=SC (by rw[h.len];exact hp)
theorem Vv(h:∀i p,o[i]?=some p->∀n∈N.getD p [],n∈o.take i)(hp:∀n∈N.getD p [],n∈o):∀i q,(o++[p])[i]?=some q->∀n∈N.getD q [],n∈(o++[p]).take i:=by
 intro i q hq n hn
 rcases bR i o.length with c|c
 ·rw[bQ c] at hq;rw[acD (iM c)];exact h i q hq n hn
 rw[dh c] at hq
 have hi:i=o.length:=by
  have:=(aJ.1 hq).1
  simp at this
  omega
 subst hi;rw[qj] at hq
 obtain rfl:p=q:=by simpa using hq
 rw[List.take_left];exact hp n hn
variable {G:Nat->Prop}
theorem xO.pop(h:xO N G ((p,[])::k) s o)(hk:p∉k.map (·.1)):xO N G k (s.set p 2) (o++[p]):=by
 have hp:=(h.fits.stk (p,[]) (aM ..)).1;have h1:s.getD p 0=1:=(h.one p).2 (by simp)
 have hpo:p∉o:=fun q=>by have:=(h.two p).2 q;omega
 obtain⟨⟨d,hd,hdo⟩,hch⟩:=h.chain
 have hN:∀n∈N.getD p [],n∈o:=fun n hn=>hdo n (by rw[hd] at hn;simpa using hn)
 refine⟨h.fits.pop.set hp (by decide),fun q=>?_,fun q=>?_,?_,Vv h.ahead hN,?_,fun q hq=>?_⟩
 ·rw[xC h.fits hp]
  by_cases e:q=p
  ·subst e;simp
  rw[ax e,h.two q];simp[e]
 ·rw[xC h.fits hp]
  by_cases e:q=p
  ·subst e;simp only[if_true];exact⟨fun e=>absurd e (by decide),fun q=>absurd q hk⟩
  rw[ax e,h.one q];simp[e]
 ·exact mX.2 ⟨h.nd,by simp,fun x hx y hy e=>by obtain rfl:=bg.1 hy;subst e;exact hpo hx⟩
 ·have hmo:∀n∈o,n∈o++[p]:=fun n hn=>fq _ hn
  match k,hch with
  |[],_=>trivial
  | (q,l)::k',hch=>
   obtain⟨⟨d',hd',alr⟩,hch'⟩:=hch;refine⟨⟨d'++[p],by rw[hd'];simp,fun n hn=>?_⟩,Bu.more hmo hch'⟩
   rcases bK.1 hn with hn|hn
   ·exact hmo n (alr n hn)
   exact lQ _ hn
 have hor:∀q,(q∈o++[p]\/q∈k.map (·.1))↔(q∈o\/q∈((p,([]:List Nat))::k).map (·.1)):=fun q=>by
  rw[bK,bg,mD,aV];exact⟨fun h=>h.elim (fun h=>h.elim aG (fun h=>aL (aG h))) (fun h=>aL (aL h)),fun h=>h.elim (fun h=>aG (aG h)) (fun h=>h.elim (fun h=>aG (aL h)) aL)⟩
 rcases h.want q ((hor q).1 hq) with g|⟨r,hr,hq2⟩
 ·exact aG g
 exact aL ⟨r,(hor r).2 hr,hq2⟩
theorem xO.skip(h:xO N G ((p,n::l)::k) s o)(h2:s.getD n 0=2):xO N G ((p,l)::k) s o:=by
 obtain⟨⟨d,hd,hdo⟩,hch⟩:=h.chain;refine⟨h.fits.skip,h.two,h.one,h.nd,h.ahead,⟨⟨d++[n],by rw[hd];simp,fun m hm=>?_⟩,hch⟩,h.want⟩
 rcases bK.1 hm with hm|hm
 ·exact hdo m hm
 obtain rfl:=bg.1 hm;exact(h.two m).1 h2
theorem xO.push(h:xO N G ((p,n::l)::k) s o)(h0:s.getD n 0=0):xO N G ((n,N.getD n [])::(p,l)::k) (s.set n 1) o:=by
 have hn:=(h.fits.stk (p,n::l) (aM ..)).2 n (aM ..);obtain⟨⟨d,hd,hdo⟩,hch⟩:=h.chain
 have hno:n∉o:=fun q=>by have:=(h.two n).2 q;omega
 have hnk:n∉((p,n::l)::k).map (·.1):=fun q=>by have:=(h.one n).2 q;omega
 refine⟨(h.fits.skip.push hn).set hn (by decide),fun q=>?_,fun q=>?_,h.nd,h.ahead,⟨⟨[],by simp,fun m hm=>by cases hm⟩,⟨d,by rw[hd];simp,hdo⟩,hch⟩,fun q hq=>?_⟩
 ·rw[xC h.fits hn]
  by_cases e:q=n
  ·subst e;simp[hno]
  rw[ax e,h.two q]
 ·rw[xC h.fits hn]
  by_cases e:q=n
  ·subst e;simp
  rw[ax e,h.one q];simp[e]
 have hor:∀q,q∈o\/q∈((p,n::l)::k).map (·.1)->q∈o\/q∈((n,N.getD n [])::(p,l)::k).map (·.1):=fun q h=>by simp at h⊢;rcases h with h|h|h<;>simp[h]
 by_cases e:q=n
 ·subst e;exact aL ⟨p,aL (by simp),by rw[hd];simp⟩
 have hq':q∈o\/q∈((p,n::l)::k).map (·.1):=by simp at hq⊢;rcases hq with h|h|h|h<;>simp_all
 rcases h.want q hq' with g|⟨r,hr,hq2⟩
 ·exact aG g
 exact aL ⟨r,hor r hr,hq2⟩
theorem yN(N:List (List Nat))(G:Nat->Prop):∀(f:Nat) (k:DI) (s o:List Nat),xO N G k s o->(k.map (·.1)).Nodup->kP N k s<f->(∀p∈o,p∈(oC N f k s o).2.2)/\((oC N f k s o).1=true->xO N G [] (oC N f k s o).2.1 (oC N f k s o).2.2/\∀p∈k.map (·.1),p∈(oC N f k s o).2.2)
 |0,_,_,_,_,_,h=>absurd h (Bw _)
 |_+1,[],s,o,hi,_,_=>⟨fun p hp=>hp,fun _=>⟨hi,fun p hp=>by cases hp⟩⟩
 |f+1,(p,[])::k,s,o,hi,hk,hf=>by
  have hw:=zY N p k s;have hk':=nk.1 hk;have ih:=yN N G f k (s.set p 2) (o++[p]) (hi.pop hk'.1) hk'.2 (by omega);refine⟨fun q hq=>ih.1 q (fq _ hq),fun ht=>⟨(ih.2 ht).1,fun q hq=>?_⟩⟩
  rcases aV.1 hq with e|hq
  ·exact ih.1 q (lQ _ (by rw[e];simp))
  exact(ih.2 ht).2 q hq
 |f+1,(p,n::l)::k,s,o,hi,hk,hf=>by
  have hn:=(hi.fits.stk (p,n::l) (aM ..)).2 n (aM ..);have hun:oC N (f+1) ((p,n::l)::k) s o=if s.getD n 0=1 then (false,s,o) else if s.getD n 0=2 then oC N f ((p,l)::k) s o else oC N f ((n,N.getD n [])::(p,l)::k) (s.set n 1) o:=rfl;rw[hun]
  by_cases a:s.getD n 0=1
  ·rw[aD a];exact⟨fun q hq=>hq,fun ht=>by cases ht⟩
  rw[ax a]
  by_cases b:s.getD n 0=2
  ·rw[aD b];have hw:=xJ N p n l k s;exact yN N G f _ s o (hi.skip b) hk (by omega)
  rw[ax b]
  have h0:s.getD n 0=0:=by have:=hi.fits.three n;omega
  have hw:=xI N p n l k s (by rw[hi.fits.len];exact hn) h0
  have hnk:n∉((p,n::l)::k).map (·.1):=fun q=>by have:=(hi.one n).2 q;omega
  have ih:=yN N G f _ (s.set n 1) o (hi.push h0) (nk.2 ⟨hnk,hk⟩) (by omega);exact⟨ih.1,fun ht=>⟨(ih.2 ht).1,fun q hq=>(ih.2 ht).2 q (aU _ hq)⟩⟩
theorem xO.start(h:xO N G [] s o)(hp:p<N.length)(h2:s.getD p 0≠2)(hG:G p):xO N G [(p,N.getD p [])] (s.set p 1) o:=by
 have h0:s.getD p 0=0:=by
  have h1:s.getD p 0≠1:=fun e=>by have:=(h.one p).1 e;simp at this
  have:=h.fits.three p;omega
 have hpo:p∉o:=fun q=>h2 ((h.two p).2 q)
 refine⟨(h.fits.push hp).set hp (by decide),fun q=>?_,fun q=>?_,h.nd,h.ahead,⟨⟨[],by simp,fun m hm=>by cases hm⟩,trivial⟩,fun q hq=>?_⟩
 ·rw[xC h.fits hp]
  by_cases e:q=p
  ·subst e;simp[hpo]
  rw[ax e,h.two q]
 ·rw[xC h.fits hp]
  by_cases e:q=p
  ·subst e;simp
  rw[ax e,h.one q];simp[e]
 rcases hq with hq|hq
 ·rcases h.want q (aG hq) with g|⟨r,hr,hq2⟩
  ·exact aG g
  rcases hr with hr|hr
  ·exact aL ⟨r,aG hr,hq2⟩
  simp at hr
 have e:q=p:=by simpa using hq
 rw[e];exact aG hG
theorem Iw(h:xO N G [] s o)(hp:p<N.length)(hG:G p):(∀q∈o,q∈(fU N p s o).2.2)/\((fU N p s o).1=true->xO N G [] (fU N p s o).2.1 (fU N p s o).2.2/\p∈(fU N p s o).2.2):=by
 unfold fU
 by_cases h2:s.getD p 0=2
 ·rw[aD h2];exact⟨fun q hq=>hq,fun _=>⟨h,(h.two p).1 h2⟩⟩
 rw[ax h2];have hk:=yN N G _ _ _ o (h.start hp h2 hG) (by simp) (iX (kP N [(p,N.getD p [])] (s.set p 1)));exact⟨hk.1,fun ht=>⟨(hk.2 ht).1,(hk.2 ht).2 p (by simp)⟩⟩
def JE(N:List (List Nat))(r:Nat->Nat):Prop:=∀p,∀n∈N.getD p [],r n<r p
variable {r:Nat->Nat}
theorem Bu.less(hr:JE N r):∀{k:DI} {c:Nat},Bu N o k (some c)->∀q∈k.map (·.1),r c<r q
 |[],_,_,q,hq=>by cases hq
 | (p,l)::k,c,h,q,hq=>by
  obtain⟨⟨d,hd,_⟩,hch⟩:=h;have h1:r c<r p:=hr p c (by rw[hd];simp)
  rcases aV.1 hq with e|hq
  ·rw[e];exact h1
  exact Nat.lt_trans h1 (Bu.less hr hch q hq)
theorem AX(N:List (List Nat))(G:Nat->Prop)(hr:JE N r):∀(f:Nat) (k:DI) (s o:List Nat),xO N G k s o->(k.map (·.1)).Nodup->kP N k s<f->(oC N f k s o).1=true
 |0,_,_,_,_,_,h=>absurd h (Bw _)
 |_+1,[],s,o,_,_,_=>rfl
 |f+1,(p,[])::k,s,o,hi,hk,hf=>by
  have hw:=zY N p k s;have hk':=nk.1 hk;exact AX N G hr f k (s.set p 2) (o++[p]) (hi.pop hk'.1) hk'.2 (by omega)
 |f+1,(p,n::l)::k,s,o,hi,hk,hf=>by
  have hn:=(hi.fits.stk (p,n::l) (aM ..)).2 n (aM ..);have hun:oC N (f+1) ((p,n::l)::k) s o=if s.getD n 0=1 then (false,s,o) else if s.getD n 0=2 then oC N f ((p,l)::k) s o else oC N f ((n,N.getD n [])::(p,l)::k) (s.set n 1) o:=rfl;rw[hun]
  have a:¬s.getD n 0=1:=fun a=>by
   have hm:=(hi.one n).1 a;obtain⟨⟨d,hd,_⟩,hch⟩:=hi.chain;have h1:r n<r p:=hr p n (by rw[hd];simp)
   rcases aV.1 hm with e|hm
   ·have e:n=p:=e;rw[e] at h1;exact FU _ h1
   have:=Bu.less hr hch n hm;omega
  rw[ax a]
  by_cases b:s.getD n 0=2
  ·rw[aD b];have hw:=xJ N p n l k s;exact AX N G hr f _ s o (hi.skip b) hk (by omega)
  rw[ax b]
  have h0:s.getD n 0=0:=by have:=hi.fits.three n;omega
  have hw:=xI N p n l k s (by rw[hi.fits.len];exact hn) h0
  have hnk:n∉((p,n::l)::k).map (·.1):=fun q=>by have:=(hi.one n).2 q;omega
  exact AX N G hr f _ (s.set n 1) o (hi.push h0) (nk.2 ⟨hnk,hk⟩) (by omega)
theorem Xu(hr:JE N r)(h:xO N G [] s o)(hp:p<N.length)(hG:G p):(fU N p s o).1=true:=by
 unfold fU
 by_cases h2:s.getD p 0=2
 ·rw[aD h2]
 rw[ax h2];exact AX N G hr _ _ _ o (h.start hp h2 hG) (by simp) (iX _)
theorem Ml(G:Nat->Prop)(hN:∀i,∀n∈N.getD i [],n<N.length):xO N G [] (jP N.length) []:=by
 have hz:∀p,(jP N.length).getD p 0=0:=fun p=>by
  unfold jP;rw[cZ,II]
  split<;>rfl
 refine⟨⟨by simp[jP],fun i=>by rw[hz];decide,fun x hx=>(by cases hx),hN⟩,fun p=>?_,fun p=>?_,Dz,fun i p h=>by simp at h,trivial,fun p hp=>?_⟩
 ·rw[hz];simp
 ·rw[hz];simp
 simp at hp
theorem Ur:∀(ps s o:List Nat),xO N (fun _=>True) [] s o->(∀p∈ps,p<N.length)->zS N ps s o=true->∃s' o',xO N (fun _=>True) [] s' o'/\(∀p∈ps,p∈o')/\∀p∈o,p∈o'
 |[],s,o,h,_,_=>⟨s,o,h,fun p hp=>(by cases hp),fun p hp=>hp⟩
 |p::ps,s,o,h,hp,hr=>by
  have hpl:=hp p (aM ..);have hv:=Iw h hpl trivial;unfold zS at hr
  split at hr
  ·rename_i ht
   obtain⟨s',o',h1,h2,h3⟩:=Ur ps _ _ (hv.2 ht).1 (fun q hq=>hp q (aU _ hq)) hr;refine⟨s',o',h1,fun q hq=>?_,fun q hq=>h3 q (hv.1 q hq)⟩
   rcases aV.1 hq with rfl|hq
   ·exact h3 q (hv.2 ht).2
   exact h2 q hq
  cases hr
theorem SV:∀(l:List Nat) (j n:Nat),l[j]?=some n->l.idxOf n<=j
 |[],j,n,h=>by simp at h
 |x::l,0,n,h=>by
  have e:x=n:=by simpa using h
  subst e
  simp
 |x::l,j+1,n,h=>by
  have:=SV l j n (by simpa using h);rw[List.idxOf_cons]
  by_cases e:(x==n)=true
  ·rw[e];simp
  rw[yU.2 e];simp only[cond_false];omega
theorem Ls(hN:∀i,∀n∈N.getD i [],n<N.length)(h:zS N (List.range N.length) (jP N.length) []=true):∃r,JE N r:=by
 obtain⟨s',o',h1,h2,_⟩:=Ur _ _ _ (Ml _ hN) (fun p hp=>kS.1 hp) h;refine⟨fun p=>o'.idxOf p,fun p n hn=>?_⟩
 have hp:p<N.length:=by
  rcases bR p N.length with c|c
  ·exact c
  rw[cZ,gK c] at hn;cases hn
 have hpo:=h2 p (kS.2 hp);have hi:o'.idxOf p<o'.length:=List.idxOf_lt_length_of_mem hpo
 have hat:o'[o'.idxOf p]?=some p:=by
  rw[eP hi,List.getElem_idxOf hi]
 have hm:=h1.ahead _ p hat n hn;obtain⟨j,hj,he⟩:=List.mem_take_iff_getElem.1 hm
 have hjl:j<o'.idxOf p:=by omega
 have hle:o'.idxOf n<=j:=SV o' j n (by rw[eP (by omega),he]);show o'.idxOf n<o'.idxOf p;omega
theorem Iy(hr:JE N r){mk:ah->Option Nat}:∀(xs:List ah) (s o o':List Nat),xO N G [] s o->(∀x∈xs,∀p,mk x=some p->p<N.length/\G p)->wQ N mk xs s o=some o'->∃s',xO N G [] s' o'/\(∀x∈xs,∃p,mk x=some p/\p∈o')/\∀p∈o,p∈o'
 |[],s,o,o',h,_,hw=>by
  injection hw with hw;subst hw;exact⟨s,h,fun x hx=>(by cases hx),fun p hp=>hp⟩
 |x::xs,s,o,o',h,hx,hw=>by
  unfold wQ at hw
  split at hw
  ·cases hw
  rename_i p hmk
  obtain⟨hpl,hG⟩:=hx x (aM ..) p hmk;have hv:=Iw h hpl hG;have hv2:=hv.2 (Xu hr h hpl hG);obtain⟨s',h1,h2,h3⟩:=Iy hr xs _ _ o' hv2.1 (fun y hy=>hx y (aU _ hy)) hw;refine⟨s',h1,fun y hy=>?_,fun q hq=>h3 q (hv.1 q hq)⟩
  rcases aV.1 hy with rfl|hy
  ·exact⟨p,hmk,h3 p hv2.2⟩
  exact h2 y hy
