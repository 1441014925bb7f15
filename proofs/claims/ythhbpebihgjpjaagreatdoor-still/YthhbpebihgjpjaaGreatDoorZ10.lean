import Derived.Test.YthhbpebihgjpjaaGreatDoorZ05
import Derived.Test.YthhbpebihgjpjaaGreatDoorZ09
namespace Go.Proofs.YthhbpebihgjpjaaGreatDoor
set_option maxRecDepth 1000000
set_option maxHeartbeats 20000000
set_option linter.all false
section
open Go.RowKit
abbrev iH:=List (ah×ah)
def eT(l:iH)(x:ah):Option ah:=(l.find? fun y=>decide (y.1=x)).map (·.2)
abbrev IC:=ah⊕ah
def IC.val(E:ah->ah):IC->ah
 |.inl b=>b
 |.inr x=>E x
def uz(t:ah)(i:Nat):Option (IC×Nat):=
 if t.size<=i+1 then none
 else if byteOf t (i+1)=36\/byteOf t (i+1)=32\/byteOf t (i+1)=58\/byteOf t (i+1)=124 then some (.inl (t.extract (i+1) (i+2)),i+2)
 else if byteOf t (i+1)=123 then
  (if dB (t.extract (i+2) t.size)=0\/t.size<=i+2+dB (t.extract (i+2) t.size)\/byteOf t (i+2+dB (t.extract (i+2) t.size))≠125 then none
   else some (.inr (t.extract (i+2) (i+2+dB (t.extract (i+2) t.size))),i+dB (t.extract (i+2) t.size)+3))
 else if dB (t.extract (i+1) t.size)=0 then none
 else some (.inr (t.extract (i+1) (i+1+dB (t.extract (i+1) t.size))),i+1+dB (t.extract (i+1) t.size))
variable {i:Nat}{f:IC}
theorem zO{t:ah}{k:Nat}(h:uz t i=some (f,k)):i+1<k/\k<=t.size:=by
 unfold uz at h
 split at h
 ·cases h
 split at h
 ·have:=(Prod.mk.inj (ax h)).2;omega
 split at h
 ·split at h
  ·cases h
  have:=(Prod.mk.inj (ax h)).2;omega
 split at h
 ·cases h
 rename_i h1 h2 h3 h4
 have hk:=(Prod.mk.inj (ax h)).2;have hl:dB (t.extract (i+1) t.size)<=(t.extract (i+1) t.size).size:=kg _ _;rw[aM] at hl;omega
def iA(E:ah->ah)(t:ah):Nat->Nat->ah->Option ah
 |0,i,out=>if t.size<=i then some out else none
 |g+1,i,out=>
  if t.size<=i then some out
  else if byteOf t i≠36 then iA E t g (i+1) (out++t.extract i (i+1))
  else match uz t i with
   |none=>none
   |some (f,k)=>if 4000<(out++f.val E).size then none else iA E t g k (out++f.val E)
def iE(E:ah->ah)(t:ah):Option ah:=iA E t t.size 0 ⟨#[]⟩
theorem wL(E:ah->ah)(t:ah):∀(g g' i:Nat) (out:ah),t.size<=i+g->t.size<=i+g'->iA E t g i out=iA E t g' i out
 |0,0,_,_,_,_=>rfl
 |0,g'+1,i,out,h,_=>by rw[iA,iA,aH aJ,aH aJ]
 |g+1,0,i,out,_,h=>by rw[iA,iA,aH aJ,aH aJ]
 |g+1,g'+1,i,out,h,h'=>by
  rw[iA,iA]
  by_cases c:t.size<=i
  ·rw[aH c,aH c]
  rw[aA c,aA c]
  by_cases d:byteOf t i≠36
  ·rw[aH d,aH d];exact wL E t g g' _ _ aJ aJ
  rw[aA d,aA d]
  cases hf:uz t i with
  |none=>rfl
  |some p=>
   obtain⟨f,k⟩:=p;have hk:=zO hf
   simp only
   by_cases q:4000<(out++f.val E).size
   ·rw[aH q,aH q]
   rw[aA q,aA q];exact wL E t g g' _ _ aJ aJ
def jE(E:ah->ah)(t:ah)(i:Nat)(out:ah):Option ah:=iA E t (t.size-i) i out
theorem uq(E:ah->ah)(t:ah)(i:Nat)(out:ah)(h:t.size<=i):jE E t i out=some out:=by
 unfold jE;rw[show t.size-i=0 by omega,iA,aH h]
theorem xW(E:ah->ah)(t:ah)(i:Nat)(out:ah)(h:i<t.size)(hc:byteOf t i≠36):jE E t i out=jE E t (i+1) (out++t.extract i (i+1)):=by
 unfold jE;rw[show t.size-i=(t.size-(i+1))+1 by omega,iA,aA aJ,aH hc]
theorem zm(E:ah->ah)(t:ah)(i:Nat)(out:ah)(h:i<t.size)(hc:byteOf t i=36)(hf:uz t i=none):jE E t i out=none:=by
 unfold jE;rw[show t.size-i=(t.size-(i+1))+1 by omega,iA,aA aJ,aA (by simpa using hc),hf]
theorem zl(E:ah->ah)(t:ah)(i k:Nat)(f:IC)(out:ah)(h:i<t.size)(hc:byteOf t i=36)(hf:uz t i=some (f,k)):jE E t i out=if 4000<(out++f.val E).size then none else jE E t k (out++f.val E):=by
 have hk:=zO hf;unfold jE;rw[show t.size-i=(t.size-(i+1))+1 by omega,iA,aA aJ,aA (by simpa using hc),hf]
 simp only
 rw[wL E t (t.size-(i+1)) (t.size-k) k _ aJ aJ]
def Dj(own top:iH)(x:ah):ah:=((eT own x).or (eT top x)).getD ⟨#[]⟩
theorem El(t:ah)(n:Nat)(z:Int)(hz:z=(n:Int))(h:n<=t.size)(wx:ak):(Instr.slice 9 (.string t) (some (.int .i64 z)) none none).run Tryz.prog wx=.ok (.string (t.extract n t.size)) wx:=by
 subst hz;exact nQ t n h wx
theorem GR(t:ah)(a b:Nat)(y z:Int)(hy:y=(a:Int))(hz:z=(b:Int))(h:a<=b)(h2:b<=t.size)(wx:ak):(Instr.slice 9 (.string t) (some (.int .i64 y)) (some (.int .i64 z)) none).run Tryz.prog wx=.ok (.string (t.extract a b)) wx:=by
 subst hy hz
 simp[Instr.slice,ny Tryz.underlying9,go_sem,h,h2]
end
section
open Go.RowKit Go.Shelf
theorem kF(t:ah)(a b k:Nat)(h:a+k<b)(hb:b<=t.size):byteOf (t.extract a b) k=byteOf t (a+k):=by
 unfold byteOf;rw[gI,Array.getElem?_extract,aH (by show k<min b t.data.size-a;have:t.data.size=t.size:=rfl;omega)]
theorem nK(t:ah)(a b c d:Nat)(h:a+d<=b):(t.extract a b).extract c d=t.extract (a+c) (a+d):=by
 rw[ByteArray.extract_extract,lK h]
variable {B:Nat}{w:ak}
theorem di{a:ak}(h:Below B a w)(n:Nat):Below B a (w.drewN n):=⟨h.os,h.tape,h.output,h.size,h.block⟩
theorem uj(w:ak)(o:Obj)(n:Nat)(x y z:Value):Below w.heap.size w (((((w.alloc o).drewN n).setCell ⟨w.heap.size,0,none⟩ x).setCell ⟨w.heap.size,1,none⟩ y).setCell ⟨w.heap.size,2,none⟩ z):=
 (((di ((ay _ _).alloc (ai _) _) n).setCell (p:=⟨w.heap.size,0,none⟩) (ai _) x).setCell (p:=⟨w.heap.size,1,none⟩) (ai _) y).setCell (p:=⟨w.heap.size,2,none⟩) (ai _) z
def gq(t:ah)(c:Nat):Bool:=decide (0<t.size/\byteOf t 0=c)
theorem Dc(t:ah)(c:UInt8):Lib.hasPrefix t.data.toList [c]=gq t c.toNat:=by
 unfold Lib.hasPrefix gq byteOf;rw[<-cZ]
 have hs:t.size=t.data.toList.length:=by rw[aX];rfl
 rw[hs]
 cases t.data.toList with
 |nil=>rfl
 |cons d l=>
  show(c==d&&([]:List UInt8).isPrefixOf l)=_;rw[tu]
  simp
  exact⟨fun e=>by rw[e],fun e=>(qh.1 e).symm⟩
def qi(u:ah):Option (IC×Nat):=
 if u.size=0 then none
 else if byteOf u 0=36\/byteOf u 0=32\/byteOf u 0=58\/byteOf u 0=124 then some (.inl (u.extract 0 1),1)
 else if byteOf u 0=123 then
  (if dB (u.extract 1 u.size)=0\/gq (gV (u.extract 1 u.size)) 125=false then none else some (.inr (fE (u.extract 1 u.size)),dB (u.extract 1 u.size)+2))
 else if dB u=0 then none
 else some (.inr (fE u),dB u)
theorem ER(t:ah)(i:Nat)(h:i<t.size):uz t i=(qi (t.extract (i+1) t.size)).map fun p=>(p.1,i+1+p.2):=by
 have hsz:(t.extract (i+1) t.size).size=t.size-(i+1):=by rw[aM];omega
 unfold uz qi;rw[hsz]
 by_cases h0:t.size<=i+1
 ·rw[aH h0,aH (show t.size-(i+1)=0 by omega)];rfl
 rw[aA h0,aA (show¬t.size-(i+1)=0 by omega)]
 have hb0:byteOf (t.extract (i+1) t.size) 0=byteOf t (i+1):=by rw[kF _ _ _ _ aJ (ai _)]
 rw[hb0]
 by_cases h1:byteOf t (i+1)=36\/byteOf t (i+1)=32\/byteOf t (i+1)=58\/byteOf t (i+1)=124
 ·rw[aH h1,aH h1,nK _ _ _ _ _ aJ];rfl
 rw[aA h1,aA h1]
 have hx1:(t.extract (i+1) t.size).extract 1 (t.size-(i+1))=t.extract (i+2) t.size:=by
  rw[nK _ _ _ _ _ aJ,show i+1+(t.size-(i+1))=t.size by omega]
 by_cases h2:byteOf t (i+1)=123
 ·rw[aH h2,aH h2,hx1];have hl:dB (t.extract (i+2) t.size)<=(t.extract (i+2) t.size).size:=kg _ _
  have hsz2:(t.extract (i+2) t.size).size=t.size-(i+2):=by rw[aM];omega
  have htl:gV (t.extract (i+2) t.size)=t.extract (i+2+dB (t.extract (i+2) t.size)) t.size:=by
   unfold gV;rw[hsz2,nK _ _ _ _ _ aJ,show i+2+(t.size-(i+2))=t.size by omega]
  have hhd:fE (t.extract (i+2) t.size)=t.extract (i+2) (i+2+dB (t.extract (i+2) t.size)):=by
   unfold fE;rw[nK _ _ _ _ _ aJ,kX]
  rw[htl,hhd];generalize dB (t.extract (i+2) t.size)=N at*
  have hbg:gq (t.extract (i+2+N) t.size) 125=false↔(t.size<=i+2+N\/byteOf t (i+2+N)≠125):=by
   unfold gq;rw[rE,aM]
   by_cases hq:t.size<=i+2+N
   ·exact⟨fun _=>aK hq,fun _ hc=>aJ⟩
   rw[kF _ _ _ _ aJ (ai _)];show¬(_/\byteOf t (i+2+N)=125)↔_;omega
  by_cases h3:N=0\/t.size<=i+2+N\/byteOf t (i+2+N)≠125
  ·rw[aH h3,aH (h3.imp id hbg.2)];rfl
  rw[aA h3,aA (fun c=>h3 (c.imp id hbg.1))];show some (_,_)=some (_,i+1+(N+2));rw[show i+1+(N+2)=i+N+3 by omega]
 rw[aA h2,aA h2];have hl:dB (t.extract (i+1) t.size)<=(t.extract (i+1) t.size).size:=kg _ _
 have hhd:fE (t.extract (i+1) t.size)=t.extract (i+1) (i+1+dB (t.extract (i+1) t.size)):=by
  unfold fE;rw[nK _ _ _ _ _ aJ,kX]
 rw[hhd];generalize dB (t.extract (i+1) t.size)=N at*
 by_cases h3:N=0
 ·rw[aH h3,aH h3];rfl
 rw[aA h3,aA h3];rfl
def ae5:Option (IC×Nat)->ah->ah->Int->Prop
 |none,_,_,_=>True
 |some (.inl b,n),lit,var,k=>lit=b/\var=⟨#[]⟩/\k=n
 |some (.inr x,n),lit,var,k=>lit=⟨#[]⟩/\var=x/\k=n
def abg(o:Option (IC×Nat))(e:Ending):Prop:=∃lit var k,e=.returned (.tuple #[.agg #[.string lit,.string var,.int .i64 k],.bool o.isSome])/\ae5 o lit var k
theorem VZ(u:ah)(hu:u.size<=1048576)(w:ak):
  Calls Tryz.prog 273 #[.string u] w fun e w'=>abg (qi u) e/\Below w.heap.size w w':=by
 have hn:=qR u;have HU:=aV hu
 by_cases h0:u.size=0
 ·have HF:Hid (qi u=none):=by show _=_;unfold qi;rw[aH h0]
  rw[bT h0] at hn
  go_enter Tryz.func273,Tryz.ntmps273
  go_wp2
  refine bV (v:=.tuple #[.agg #[.string ⟨#[]⟩,.string ⟨#[]⟩,.int .i64 0],.bool false]) (by simp[results,Tryz.results273,go_sem]) rfl ⟨?_,?_⟩
  ·rw[HF.out];exact⟨_,_,_,rfl,trivial⟩
  exact(ay _ _).alloc (ai _) _
 rw[bM h0] at hn
 have u0:(0:Int)<(u.size:Int):=aJ
 have hidx:∀wx,(Instr.index 9 (.string u) (.int .i64 0)).run Tryz.prog wx=.ok (.int .u8 (byteOf u 0)) wx:=fun wx=>kI u 0 aJ wx
 have Rq:Hid (qi u=(if byteOf u 0=36\/byteOf u 0=32\/byteOf u 0=58\/byteOf u 0=124 then some (.inl (u.extract 0 1),1)
   else if byteOf u 0=123 then
    (if dB (u.extract 1 u.size)=0\/gq (gV (u.extract 1 u.size)) 125=false then none else some (.inr (fE (u.extract 1 u.size)),dB (u.extract 1 u.size)+2))
   else if dB u=0 then none
   else some (.inr (fE u),dB u))):=by
  show _=_
  conv=>lhs;unfold qi
  rw[aA h0]
 by_cases h4:byteOf u 0=36\/byteOf u 0=32\/byteOf u 0=58\/byteOf u 0=124
 ·have HF:Hid (qi u=some (.inl (u.extract 0 1),1)):=by rw[Rq.out,aH h4];rfl
  have hsl:∀wx,(Instr.slice 9 (.string u) none (some (.int .i64 1)) none).run Tryz.prog wx=.ok (.string (u.extract 0 1)) wx:=fun wx=>qH u 1 aJ wx
  clear Rq;generalize u.extract 0 1=V at*
  rcases h4 with h4|h4|h4|h4
  all_goals
   rw[h4] at hidx;clear h4
   go_enter Tryz.func273,Tryz.ntmps273
   go_wp2
   refine bV (v:=.tuple #[.agg #[.string V,.string ⟨#[]⟩,.int .i64 1],.bool true]) (by simp[results,Tryz.results273,go_sem]) rfl ⟨?_,?_⟩
   ·rw[HF.out];exact⟨_,_,_,rfl,rfl,rfl,rfl⟩
   exact(ay _ _).alloc (ai _) _
 rw[aA h4] at Rq
 have q1:((byteOf u 0:Int)==36)=false:=by simp;omega
 have q2:((byteOf u 0:Int)==32)=false:=by simp;omega
 have q3:((byteOf u 0:Int)==58)=false:=by simp;omega
 have q4:((byteOf u 0:Int)==124)=false:=by simp;omega
 clear h4
 by_cases adC:byteOf u 0=123
 ·rw[aH adC] at Rq;rw[adC] at hidx;clear q1 q2 q3 q4 adC
  have hs1:∀wx,(Instr.slice 9 (.string u) (some (.int .i64 1)) none none).run Tryz.prog wx=.ok (.string (u.extract 1 u.size)) wx:=fun wx=>nQ u 1 aJ wx
  have hsz:(u.extract 1 u.size).size<=1048576:=by rw[aM];omega
  generalize u.extract 1 u.size=S at*
  have Dy:Hid (∀wx,Calls Tryz.prog 194 #[.string S] wx fun e w'=>e=.returned (.tuple #[.string (fE S),.string (gV S)])/\∃n,w'=wx.drewN n):=fun wx=>qB S aJ wx
  have hpre:∀wx,Calls Tryz.prog 193 #[.string (gV S),.string ⟨#[125]⟩] wx fun e w'=>e=.returned (.bool (gq (gV S) 125))/\w'=wx:=fun wx=>by
   have:=Any.strings_HasPrefix Tryz.lays99 (gV S) ⟨#[125]⟩ wx;rw[show(⟨#[125]⟩:ah).data.toList=[125] from rfl,Dc] at this;exact this
  have RG:=aV hpre;have hl:dB S<=S.size:=kg _ _;have SS:=mh S;have hnn:=qR (fE S);rw[SS] at hnn;clear hpre;generalize gq (gV S) 125=B at*;generalize gV S=TL at*;generalize fE S=HD at*
  have hd0:(HD.size:Int)<=1048576:=aJ
  have hd1:HD.size=dB S:=SS;rw[<-hd1] at Rq hnn;clear SS hl;generalize dB S=N at*;subst hd1
  by_cases hN:HD.size=0
  ·rw[bT hN] at hnn
   have HF:Hid (qi u=none):=by rw[Rq.out,aH (aK hN)];rfl
   go_enter Tryz.func273,Tryz.ntmps273
   go_wp2_with fail
   refine(Dy.out _).mono ?_;rintro e w2 ⟨rfl,n2,rfl⟩
   go_wp2_with fail
   refine bV (v:=.tuple #[.agg #[.string ⟨#[]⟩,.string HD,.int .i64 2],.bool false]) (by simp[results,Tryz.results273,go_sem]) rfl ⟨?_,?_⟩
   ·rw[HF.out];exact⟨_,_,_,rfl,trivial⟩
   exact uj w _ n2 _ _ _
  rw[bM hN] at hnn
  go_enter Tryz.func273,Tryz.ntmps273
  go_wp2_with fail
  refine(Dy.out _).mono ?_;rintro e w2 ⟨rfl,n2,rfl⟩
  go_wp2_with fail
  refine(RG.out _).mono ?_;rintro e w3 ⟨rfl,rfl⟩
  cases B with
  |false=>
   have HF:Hid (qi u=none):=by rw[Rq.out,aH (aP rfl)];rfl
   go_wp2_with fail
   refine bV (v:=.tuple #[.agg #[.string ⟨#[]⟩,.string HD,.int .i64 ((HD.size:Int)+2)],.bool false]) (by simp[results,Tryz.results273,go_sem]) rfl ⟨?_,?_⟩
   ·rw[HF.out];exact⟨_,_,_,rfl,trivial⟩
   exact uj w _ n2 _ _ _
  |true=>
   have HF:Hid (qi u=some (.inr HD,HD.size+2)):=by rw[Rq.out,aA (by simp[hN])];rfl
   go_wp2_with fail
   refine bV (v:=.tuple #[.agg #[.string ⟨#[]⟩,.string HD,.int .i64 ((HD.size:Int)+2)],.bool true]) (by simp[results,Tryz.results273,go_sem]) rfl ⟨?_,?_⟩
   ·rw[HF.out];exact⟨_,_,_,rfl,rfl,rfl,aJ⟩
   exact uj w _ n2 _ _ _
 rw[aA adC] at Rq
 have q5:((byteOf u 0:Int)==123)=false:=by simp;omega
 generalize byteOf u 0=y at*
 have Dy:Hid (∀wx,Calls Tryz.prog 194 #[.string u] wx fun e w'=>e=.returned (.tuple #[.string (fE u),.string (gV u)])/\∃n,w'=wx.drewN n):=fun wx=>qB u aJ wx
 have hl:dB u<=u.size:=kg _ _;have SS:=mh u;have hnn:=qR (fE u);rw[SS] at hnn;generalize gV u=TL at*;generalize fE u=HD at*
 have hd0:(HD.size:Int)<=1048576:=aJ
 have hd1:HD.size=dB u:=SS;rw[<-hd1] at Rq hnn;clear SS hl;generalize dB u=N at*;subst hd1
 by_cases hN:HD.size=0
 ·rw[bT hN] at hnn
  have HF:Hid (qi u=none):=by rw[Rq.out,aH hN];rfl
  go_enter Tryz.func273,Tryz.ntmps273
  go_wp2_with fail
  refine(Dy.out _).mono ?_;rintro e w2 ⟨rfl,n2,rfl⟩
  go_wp2_with fail
  refine bV (v:=.tuple #[.agg #[.string ⟨#[]⟩,.string HD,.int .i64 0],.bool false]) (by simp[results,Tryz.results273,go_sem]) rfl ⟨?_,?_⟩
  ·rw[HF.out];exact⟨_,_,_,rfl,trivial⟩
  exact uj w _ n2 _ _ _
 rw[bM hN] at hnn
 have HF:Hid (qi u=some (.inr HD,HD.size)):=by rw[Rq.out,aA hN];rfl
 go_enter Tryz.func273,Tryz.ntmps273
 go_wp2_with fail
 refine(Dy.out _).mono ?_;rintro e w2 ⟨rfl,n2,rfl⟩
 go_wp2_with fail
 refine bV (v:=.tuple #[.agg #[.string ⟨#[]⟩,.string HD,.int .i64 HD.size],.bool true]) (by simp[results,Tryz.results273,go_sem]) rfl ⟨?_,?_⟩
 ·rw[HF.out];exact⟨_,_,_,rfl,rfl,rfl,rfl⟩
 exact uj w _ n2 _ _ _
def mG(p:Nat->Bool)(u:ah):Nat->Nat->Nat
 |0,i=>i
 |g+1,i=>if u.size<=i then i else if byteOf u i=36 then mG p u g (i+2) else if p (byteOf u i)=true then i else mG p u g (i+1)
def rG(p:Nat->Bool)(u:ah)(i:Nat):Nat:=mG p u (u.size-i) i
def qG(p:Nat->Bool)(u:ah):Nat:=rG p u 0
def pq(c:Nat):Bool:=decide (c=58)
def Kz(c:Nat):Bool:=decide (c=32\/c=58\/c=124)
theorem zC(p:Nat->Bool)(u:ah):∀(g g' i:Nat),u.size<=i+g->u.size<=i+g'->mG p u g i=mG p u g' i
 |0,0,_,_,_=>rfl
 |0,g'+1,i,h,_=>by rw[mG,mG,aH aJ]
 |g+1,0,i,_,h=>by rw[mG,mG,aH aJ]
 |g+1,g'+1,i,h,h'=>by
  rw[mG,mG]
  by_cases c:u.size<=i
  ·rw[aH c,aH c]
  rw[aA c,aA c]
  by_cases d:byteOf u i=36
  ·rw[aH d,aH d];exact zC p u g g' _ aJ aJ
  rw[aA d,aA d]
  by_cases q:p (byteOf u i)=true
  ·rw[aH q,aH q]
  rw[aA q,aA q];exact zC p u g g' _ aJ aJ
theorem Ej(p:Nat->Bool)(u:ah)(i:Nat)(h:u.size<=i):rG p u i=i:=by
 unfold rG;rw[show u.size-i=0 by omega,mG]
theorem Ei(p:Nat->Bool)(u:ah)(i:Nat)(h:i<u.size)(hd:byteOf u i=36):rG p u i=rG p u (i+2):=by
 unfold rG;rw[show u.size-i=(u.size-(i+1))+1 by omega,mG,aA aJ,aH hd];exact zC p u _ _ _ aJ aJ
theorem LK(p:Nat->Bool)(u:ah)(i:Nat)(h:i<u.size)(hd:byteOf u i≠36)(hp:p (byteOf u i)=true):rG p u i=i:=by
 unfold rG;rw[show u.size-i=(u.size-(i+1))+1 by omega,mG,aA aJ,aA hd,aH hp]
theorem Cc(p:Nat->Bool)(u:ah)(i:Nat)(h:i<u.size)(hd:byteOf u i≠36)(hp:p (byteOf u i)=false):rG p u i=rG p u (i+1):=by
 unfold rG;rw[show u.size-i=(u.size-(i+1))+1 by omega,mG,aA aJ,aA hd,aA (by rw[hp];decide)]
theorem OX(p:Nat->Bool)(u:ah):∀(g i:Nat),u.size-i<=g->i<=u.size+1->i<=rG p u i/\rG p u i<=u.size+1:=by
 intro g
 induction g with
 |zero=>intro i h hi;rw[Ej _ _ _ aJ];omega
 |succ g ih=>
  intro i h hi
  by_cases c:u.size<=i
  ·rw[Ej _ _ _ c];omega
  by_cases d:byteOf u i=36
  ·rw[Ei _ _ _ aJ d];have:=ih (i+2) aJ aJ;omega
  cases q:p (byteOf u i) with
  |true=>rw[LK _ _ _ aJ d q];omega
  |false=>rw[Cc _ _ _ aJ d q];have:=ih (i+1) aJ aJ;omega
theorem Ng(s:ah)(c:Int)(w:ak):
  Calls Tryz.prog 318 #[.string s,.int .u8 c] w fun e w'=>e=.returned (.int .i64 (Lib.indexByte s.data.toList c.toNat.toUInt8))/\w'=w:=by
 go_enter Tryz.func318,Tryz.ntmps318
 go_wp2_with fail
 refine(Any.stringslite_IndexByte Tryz.lays217 s c _).mono ?_;rintro e w' ⟨rfl,rfl⟩
 go_wp2
 go_ret;exact⟨rfl,rfl⟩
theorem Dm(p:Nat->Bool)(u bs:ah)(hp:∀c,c<256->decide ((0:Int)<=Lib.indexByte bs.data.toList c.toUInt8)=p c)(hu:u.size<=1048576)(w:ak):
  Calls Tryz.prog 265 #[.string u,.string bs] w fun e w'=>e=.returned (.int .i64 ((min (qG p u) u.size:Nat):Int))/\w'=w:=by
 have HP:=aV hp
 have u0:(u.size:Int)<=1048576:=aJ
 clear hp
 go_enter Tryz.func265,Tryz.ntmps265
 go_wp2_with fail
 go_loop [5] (fun i=>∃j:Nat,i=.int .i64 j/\j<=u.size+1/\rG p u j=qG p u) (fun i=>u.size+1-(intOf i).toNat)
 case atStart=>exact⟨0,rfl,aS _,rfl⟩
 case round=>
  obtain⟨j,rfl,hle,hag⟩:=hrel;have Rl:=aV hag;clear hag
  have j0:(0:Int)<=(j:Int):=aJ
  by_cases hlt:j<u.size
  ·have j1:(j:Int)<(u.size:Int):=aJ
   have hidx:∀wx,(Instr.index 9 (.string u) (.int .i64 j)).run Tryz.prog wx=.ok (.int .u8 (byteOf u j)) wx:=fun wx=>kI u j hlt wx
   have hb:=xG u j
   have Mt:Hid ((byteOf u j=36->rG p u (j+2)=qG p u)/\(byteOf u j≠36->p (byteOf u j)=true->qG p u=j)/\(byteOf u j≠36->p (byteOf u j)=false->rG p u (j+1)=qG p u)):=
    ⟨fun h=>(Ei p u j hlt h).symm.trans Rl.out,fun h1 h2=>Rl.out.symm.trans (LK p u j hlt h1 h2),fun h1 h2=>(Cc p u j hlt h1 h2).symm.trans Rl.out⟩
   generalize byteOf u j=x at*
   by_cases hd:x=36
   ·subst hd;have HN:=Mt.out.1 rfl;have HN:=aV HN
    go_wp2_with fail
    exact⟨⟨j+2,oW,aJ,HN.out⟩,by simp[intOf];omega⟩
   have hd2:((x:Int)==36)=false:=by simp;omega
   have HIX:Hid (∀wx,Calls Tryz.prog 318 #[.string bs,.int .u8 x] wx fun e w'=>e=.returned (.int .i64 (Lib.indexByte bs.data.toList x.toUInt8))/\w'=wx):=fun wx=>by
    have:=Ng bs (x:Int) wx;rw[show((x:Int).toNat)=x from Int.toNat_natCast x] at this;exact this
   have hpx:=HP.out x hb
   cases hq:p x with
   |true=>
    rw[hq] at hpx;have alK:=fI hpx
    have HN:Hid (min (qG p u) u.size=j):=by show _=_;rw[Mt.out.2.1 hd hq];omega
    clear hpx;generalize Lib.indexByte bs.data.toList x.toUInt8=ix at*
    go_wp2_with fail
    refine(HIX.out _).mono ?_;rintro e w' ⟨rfl,rfl⟩
    go_wp2_with fail
    go_ret;exact⟨by rw[HN.out];rfl,rfl⟩
   |false=>
    rw[hq] at hpx;have alK:=yg hpx;have HN:=aV (Mt.out.2.2 hd hq);clear hpx;generalize Lib.indexByte bs.data.toList x.toUInt8=ix at*
    go_wp2_with fail
    refine(HIX.out _).mono ?_;rintro e w' ⟨rfl,rfl⟩
    go_wp2_with fail
    exact⟨⟨j+1,oW,aJ,HN.out⟩,by simp[intOf];omega⟩
  have HN:Hid (min (qG p u) u.size=u.size):=by
   show _=_;rw[<-Rl.out,Ej _ _ _ aJ];omega
  have j1:¬(j:Int)<(u.size:Int):=aJ
  go_wp2_with fail
  go_ret;exact⟨by rw[HN.out];rfl,rfl⟩
theorem Zn:∀c,c<256->decide ((0:Int)<=Lib.indexByte (⟨#[58]⟩:ah).data.toList c.toUInt8)=pq c:=bS
theorem adR:∀c,c<256->decide ((0:Int)<=Lib.indexByte (⟨#[32,58,124]⟩:ah).data.toList c.toUInt8)=Kz c:=bS
end
abbrev dQ:=Nat×ah
def afK(l:List UInt8):Nat:=Bj (·==36) l.reverse
def MZ(t:ah):Nat:=afK t.data.toList
def Ed(t:ah):Bool:=decide (MZ t % 2=1)
def qF(t:ah):ah:=if Ed t=true then t.extract 0 (t.size-1) else t
def EA(l:List dQ)(s:ah):List dQ:=match l.getLast? with
 |none=>l
 |some x=>l.dropLast++[(x.1,x.2++s)]
def lI(a:List dQ)(on:Bool)(no:Nat)(raw:ah):List dQ:=if on=true then EA a (bI (qF raw)) else a++[(no,qF raw)]
def mX:Nat->List ah->List dQ->Bool->List dQ
 |_,[],a,_=>a
 |no,r::rs,a,on=>mX (no+1) rs (lI a on no r) (Ed r)
def nl:ah:=⟨#[10]⟩
def zR(t:ah):List ah:=Lib.splitB nl 0 (Lib.countB t nl) t
def uG(t:ah):List dQ:=mX 1 (zR t) [] false
def Cb(t:ah):List dQ:=(uG t).filter fun x=>!wK x.2
def rQ:List ah->ah
 |[]=>⟨#[]⟩
 |x::l=>l.foldl (fun a y=>a++⟨#[32]⟩++y) x
def fo(x:ah)(l:List ah):Bool:=l.any fun y=>decide (y=x)
def FO:Type:=Fin 9
def FO.syn:FO:=(4:Fin 9)
def FO.rul:FO:=(5:Fin 9)
def FO.twi:FO:=(6:Fin 9)
def FO.nam:FO:=(0:Fin 9)
structure dA where
 outs:List ah
 ins:List ah
 impl:List ah
 ord:List ah
 rule:ah
 own:iH
structure St where
 top:iH
 rules:iH
 bG:List dA
 defs:List ah
def pG:iH->ah->ah->iH
 |[],x,v=>[(x,v)]
 |y::l,x,v=>if y.1=x then (x,v)::l else y::pG l x v
def pR(t:ah):Option (ah×ah):=
 if dB (bI t)=0\/gq (bI (gV (bI t))) 61=false then none
 else some (fE (bI t),bI ((bI (gV (bI t))).extract 1 (bI (gV (bI t))).size))
abbrev jm:=List (ah×List ah)
def oI:ah:=⟨#[124]⟩
def wC:ah:=⟨#[124,124]⟩
def acd:ah:=⟨#[58]⟩
def jM(u:ah):ah:=
 if gq u 124=true then (if 1<u.size/\byteOf u 1=124 then wC else oI)
 else if gq u 58=true then acd else ⟨#[]⟩
def jO:ah:=⟨#[46,108,111,103]⟩
def gH:ah:=⟨#[46,108,111,103,46,110,101,119]⟩
def mP(p:ah):Bool:=eU p&&!decide (p=jO)&&!decide (p=gH)
def uh(a:jm)(p:ah):jm:=match a.getLast? with
 |none=>a
 |some x=>a.dropLast++[(x.1,x.2++[p])]
def kP(u:ah):Nat:=min (qG Kz u) u.size
def qY(E:ah->ah)(t:ah):Except FO ah:=match iE E t with
 |none=>.error .syn
 |some p=>if mP p=true then .ok p else .error .nam
def jN(E:ah->ah)(ms:List ah):Nat->ah->jm->Except FO jm
 |0,_,a=>.ok a
 |g+1,u,a=>
  if (bI u).size=0 then .ok a
  else if jM (bI u)=⟨#[]⟩ then
   (match qY E ((bI u).extract 0 (kP (bI u))) with
   |.error e=>.error e
   |.ok p=>jN E ms g ((bI u).extract (kP (bI u)) (bI u).size) (uh a p))
  else if fo (jM (bI u)) ms=true then jN E ms g ((bI u).extract (jM (bI u)).size (bI u).size) (a++[(jM (bI u),[])])
  else .error .syn
def qj(E:ah->ah)(ms:List ah)(u:ah)(a:jm):Except FO jm:=jN E ms (u.size+1) u a
def nP(E:ah->ah)(ms:List ah)(u:ah):Except FO jm:=qj E ms u [(⟨#[]⟩,[])]
def qU:jm->Bool
 |x::y::l=>decide (x.1.size<y.1.size)&&qU (y::l)
 |_=>true
def fF(a:jm)(m:ah):List ah:=((a.find? fun x=>decide (x.1=m)).map (·.2)).getD []
def sO:List ah->List ah->Bool
 |_,[]=>false
 |made,o::os=>fo o made||sO (o::made) os
def qE(S:St):List ah:=S.bG.flatMap (·.outs)
def iL(a:jm):List ah:=(a.head?.map (·.2)).getD []
def Ef(top:iH):List dQ->iH->Except (FO×Nat) (iH×List dQ)
 |[],own=>.ok (own,[])
 |x::rest,own=>
  if gq x.2 32=true then
   (match pR x.2 with
   |none=>.error (.syn,x.1)
   |some nv=>match iE (Dj own top) nv.2 with
     |none=>.error (.syn,x.1)
     |some y=>Ef top rest (pG own nv.1 y))
  else .ok (own,x::rest)
def yh:ah:=⟨#[99,111,109,109,97,110,100]⟩
def Gy(_:ah):ah:=⟨#[]⟩
abbrev Res:=Except (FO×Nat) (St×List dQ)
def iw:List dQ->Option (dQ×List dQ)
 |[]=>none
 |x::rest=>if gq x.2 32=true then some (x,rest) else none
def wz(S:St)(no:Nat)(t:ah)(rest:List dQ):Res:=
 if dB (bI t)=0\/(bI (gV (bI t))).size≠0 then .error (.syn,no)
 else if (eT S.rules (fE (bI t))).isSome=true then .error (.rul,no)
 else match iw rest with
  |none=>.error (.syn,no)
  |some xr=>match pR xr.1.2 with
    |none=>.error (.syn,xr.1.1)
    |some nv=>
     if nv.1≠yh\/iE Gy nv.2=none then .error (.syn,xr.1.1)
     else match iw xr.2 with
      |some y=>.error (.syn,y.1.1)
      |none=>.ok ({S with rules:=S.rules++[(fE (bI t),nv.2)]},xr.2)
def vv(outs ins:jm)(rule:ah)(own:iH):dA:=
 {outs:=iL outs++fF outs oI,ins:=iL ins,impl:=fF ins oI,ord:=fF ins wC,rule:=rule,own:=own}
def oV(S:St)(outs ins:jm)(u:ah):Option FO:=
 if iL outs=[]\/2<outs.length then some .syn
 else if dB u=0\/qU ins=false then some .syn
 else if 64<=S.bG.length then some .syn
 else if (eT S.rules (fE u)).isSome=false then some .rul
 else if sO (qE S) (iL outs++fF outs oI)=true then some .twi
 else none
def kZ(S:St)(no:Nat)(t:ah)(rest:List dQ):Res:=
 if t.size<=qG pq t then .error (.syn,no)
 else match nP (Dj [] S.top) [oI] (t.extract 0 (qG pq t)) with
  |.error e=>.error (e,no)
  |.ok outs=>match nP (Dj [] S.top) [oI,wC] (gV (bI (t.extract (qG pq t+1) t.size))) with
    |.error e=>.error (e,no)
    |.ok ins=>match oV S outs ins (bI (t.extract (qG pq t+1) t.size)) with
      |some e=>.error (e,no)
      |none=>match Ef S.top rest [] with
        |.error e=>.error e
        |.ok ol=>.ok ({S with bG:=S.bG++[vv outs ins (fE (bI (t.extract (qG pq t+1) t.size))) ol.1]},ol.2)
def UH:ah:=⟨#[114,117,108,101]⟩
def Mc:ah:=⟨#[98,117,105,108,100]⟩
def Cg:ah:=⟨#[100,101,102,97,117,108,116]⟩
def oq(S:St)(no:Nat)(t:ah)(rest:List dQ):Res:=
 match nP (Dj [] S.top) [] t with
 |.error e=>.error (e,no)
 |.ok a=>if iL a=[] then .error (.syn,no) else .ok ({S with defs:=S.defs++iL a},rest)
def Nw(S:St)(no:Nat)(t:ah)(rest:List dQ):Res:=
 match pR t with
 |none=>.error (.syn,no)
 |some nv=>match iE (Dj [] S.top) nv.2 with
   |none=>.error (.syn,no)
   |some y=>.ok ({S with top:=pG S.top nv.1 y},rest)
def qZ(S:St)(no:Nat)(t:ah)(rest:List dQ):Res:=
 if gq t 32=true then .error (.syn,no)
 else if vX t UH=true then wz S no (t.extract 4 t.size) rest
 else if vX t Mc=true then kZ S no (t.extract 5 t.size) rest
 else if vX t Cg=true then oq S no (t.extract 7 t.size) rest
 else Nw S no t rest
def Bp:Nat->St->List dQ->Except (FO×Nat) St
 |0,S,_=>.ok S
 |_+1,S,[]=>.ok S
 |g+1,S,x::rest=>match qZ S x.1 x.2 rest with
   |.error e=>.error e
   |.ok Sr=>Bp g Sr.1 Sr.2
def tIn:ah:=⟨#[105,110]⟩
def Md:ah:=⟨#[111,117,116]⟩
def QL(e:dA):iH:=pG (pG e.own tIn (rQ e.ins)) Md (rQ e.outs)
def qz(S:St)(e:dA):Option ah:=iE (Dj (QL e) S.top) ((eT S.rules e.rule).getD ⟨#[]⟩)
def jl(S:St):List dA->Option (List ah)
 |[]=>some []
 |e::l=>match qz S e with
   |none=>none
   |some c=>(jl S l).map (c::·)
def St.none:St:=⟨[],[],[],[]⟩
def jZ(t:ah):Except (FO×Nat) (St×List ah):=
 if 4000<t.size then .error (.syn,0)
 else match Bp (Cb t).length St.none (Cb t) with
  |.error e=>.error e
  |.ok S=>match jl S S.bG with
    |.none=>.error (.syn,0)
    |some cs=>.ok (S,cs)
def eO(e:dA):List ah:=e.ins++(e.impl++e.ord)
def fK(es:List dA)(x:ah):Option Nat:=es.findIdx? fun e=>fo x e.outs
def Ih(es:List dA)(e:dA):List Nat:=(eO e).filterMap (fK es)
def jh(es:List dA):List (List Nat):=es.map (Ih es)
abbrev DJ:=List (Nat×List Nat)
def oD(N:List (List Nat)):Nat->DJ->List Nat->List Nat->Bool×List Nat×List Nat
 |0,_,s,o=>(true,s,o)
 |_+1,[],s,o=>(true,s,o)
 |f+1,(p,[])::k,s,o=>oD N f k (s.set p 2) (o++[p])
 |f+1,(p,n::l)::k,s,o=>
  if s.getD n 0=1 then (false,s,o)
  else if s.getD n 0=2 then oD N f ((p,l)::k) s o
  else oD N f ((n,N.getD n [])::(p,l)::k) (s.set n 1) o
def fO(N:List (List Nat)):List Nat->Nat->Nat
 |[],_=>0
 |x::s,i=>(if x=0 then (N.getD i []).length+2 else 0)+fO N s (i+1)
def Xo(k:DJ):Nat:=(k.map fun x=>x.2.length+1).sum
def kT(N:List (List Nat))(k:DJ)(s:List Nat):Nat:=fO N s 0+Xo k
theorem Dw(N:List (List Nat)):∀(s:List Nat) (i p:Nat),p<s.length->s.getD p 0=0->fO N (s.set p 1) i+((N.getD (i+p) []).length+2)=fO N s i
 |[],_,p,h,_=>absurd h (BA p)
 |x::s,i,0,_,h=>by
  have hx:x=0:=h;subst hx;show(if (1:Nat)=0 then _ else 0)+fO N s (i+1)+_=(if (0:Nat)=0 then _ else 0)+fO N s (i+1);rw[aA bS,aH rfl,show i+0=i from rfl];omega
 |x::s,i,p+1,h,hx=>by
  have ih:=Dw N s (i+1) p (Nat.lt_of_succ_lt_succ h) hx;show(if x=0 then _ else 0)+fO N (s.set p 1) (i+1)+_=(if x=0 then _ else 0)+fO N s (i+1);rw[show i+(p+1)=i+1+p by omega];omega
theorem Iu(N:List (List Nat)):∀(s:List Nat) (i p:Nat),fO N (s.set p 2) i<=fO N s i
 |[],_,_=>ai _
 |x::s,i,0=>by
  show(if (2:Nat)=0 then _ else 0)+fO N s (i+1)<=(if x=0 then _ else 0)+fO N s (i+1);rw[aA bS];omega
 |x::s,i,p+1=>by
  have ih:=Iu N s (i+1) p;show(if x=0 then _ else 0)+fO N (s.set p 2) (i+1)<=(if x=0 then _ else 0)+fO N s (i+1);omega
theorem qV(x:Nat×List Nat)(k:DJ):Xo (x::k)=x.2.length+1+Xo k:=by simp[Xo]
theorem Aa(N:List (List Nat))(p:Nat)(k:DJ)(s:List Nat):kT N k (s.set p 2)<kT N ((p,[])::k) s:=by
 have:=Iu N s 0 p;unfold kT;rw[qV];simp only[dY];omega
theorem xO(N:List (List Nat))(p n:Nat)(l:List Nat)(k:DJ)(s:List Nat):kT N ((p,l)::k) s<kT N ((p,n::l)::k) s:=by
 unfold kT;rw[qV,qV];simp only[aY];omega
theorem xM(N:List (List Nat))(p n:Nat)(l:List Nat)(k:DJ)(s:List Nat)(hn:n<s.length)(h0:s.getD n 0=0):kT N ((n,N.getD n [])::(p,l)::k) (s.set n 1)<kT N ((p,n::l)::k) s:=by
 have h:=Dw N s 0 n hn h0;rw[dh] at h;unfold kT;rw[qV,qV,qV];simp only[aY];omega
structure rq(N:List (List Nat))(k:DJ)(s:List Nat):Prop where
 len:s.length=N.length
 three:∀i,s.getD i 0<=2
 stk:∀x∈k,x.1<N.length/\∀n∈x.2,n<N.length
 needs:∀i,∀n∈N.getD i [],n<N.length
variable {s:List Nat}{p v i:Nat}
theorem SH(hp:p<s.length):(s.set p v).getD i 0=if i=p then v else s.getD i 0:=by
 by_cases h:i=p
 ·subst h;rw[aH rfl];simp[dx,hp]
 rw[aA h];simp[dx,Bn (fun e=>h e.symm)]
variable {N:List (List Nat)}{k:DJ}
theorem rq.set(h:rq N k s)(hp:p<N.length)(hv:v<=2):rq N k (s.set p v) where
 len:=by rw[Mw];exact h.len
 three:=fun i=>by
  rw[SH (by rw[h.len];exact hp)]
  by_cases e:i=p
  ·rw[aH e];exact hv
  rw[aA e];exact h.three i
 stk:=h.stk
 needs:=h.needs
theorem rq.pop{x:Nat×List Nat}(h:rq N (x::k) s):rq N k s:=⟨h.len,h.three,fun y hy=>h.stk y (aZ _ hy),h.needs⟩
variable {n:Nat}{l:List Nat}
theorem rq.skip(h:rq N ((p,n::l)::k) s):rq N ((p,l)::k) s:=⟨h.len,h.three,fun y hy=>by
 rcases bg.1 hy with rfl|hy
 ·have:=h.stk (p,n::l) (aQ ..);exact⟨this.1,fun m hm=>this.2 m (aZ _ hm)⟩
 exact h.stk y (aZ _ hy),h.needs⟩
theorem rq.push(h:rq N k s)(hn:n<N.length):rq N ((n,N.getD n [])::k) s:=⟨h.len,h.three,fun y hy=>by
 rcases bg.1 hy with rfl|hy
 ·exact⟨hn,h.needs n⟩
 exact h.stk y hy,h.needs⟩
theorem vG(N:List (List Nat)):∀(f g:Nat) (k:DJ) (s o:List Nat),rq N k s->kT N k s<f->kT N k s<g->oD N f k s o=oD N g k s o
 |0,_,_,_,_,_,h,_=>absurd h (BA _)
 |_+1,0,_,_,_,_,_,h=>absurd h (BA _)
 |f+1,g+1,[],s,o,_,_,_=>rfl
 |f+1,g+1,(p,[])::k,s,o,hf,h1,h2=>by
  have hp:=(hf.stk (p,[]) (aQ ..)).1;have hw:=Aa N p k s;exact vG N f g k (s.set p 2) (o++[p]) (hf.pop.set hp bS) aJ aJ
 |f+1,g+1,(p,n::l)::k,s,o,hf,h1,h2=>by
  have hn:=(hf.stk (p,n::l) (aQ ..)).2 n (aQ ..);show(if s.getD n 0=1 then _ else if s.getD n 0=2 then _ else _)=(if s.getD n 0=1 then _ else if s.getD n 0=2 then _ else _)
  by_cases a:s.getD n 0=1
  ·rw[aH a,aH a]
  rw[aA a,aA a]
  by_cases b:s.getD n 0=2
  ·rw[aH b,aH b];have hw:=xO N p n l k s;exact vG N f g _ s o hf.skip aJ aJ
  rw[aA b,aA b]
  have h0:s.getD n 0=0:=by have:=hf.three n;omega
  have hw:=xM N p n l k s (by rw[hf.len];exact hn) h0;exact vG N f g _ _ o ((hf.skip.push hn).set hn bS) aJ aJ
def Ci(N:List (List Nat))(k:DJ)(s o:List Nat):Bool×List Nat×List Nat:=oD N (kT N k s+1) k s o
variable {o:List Nat}
theorem aan(hf:rq N ((p,[])::k) s):Ci N ((p,[])::k) s o=Ci N k (s.set p 2) (o++[p]):=by
 have hp:=(hf.stk (p,[]) (aQ ..)).1;exact vG N _ _ k _ _ (hf.pop.set hp bS) (Aa N p k s) (jc _)
theorem UW(h:s.getD n 0=1):Ci N ((p,n::l)::k) s o=(false,s,o):=aH h
theorem Xy(hf:rq N ((p,n::l)::k) s)(h:s.getD n 0=2):Ci N ((p,n::l)::k) s o=Ci N ((p,l)::k) s o:=by
 refine(aA aJ).trans ((aH h).trans ?_);exact vG N _ _ _ _ _ hf.skip (xO N p n l k s) (jc _)
theorem Xx(hf:rq N ((p,n::l)::k) s)(h:s.getD n 0=0):Ci N ((p,n::l)::k) s o=Ci N ((n,N.getD n [])::(p,l)::k) (s.set n 1) o:=by
 have hn:=(hf.stk (p,n::l) (aQ ..)).2 n (aQ ..);refine(aA aJ).trans ((aA aJ).trans ?_);exact vG N _ _ _ _ _ ((hf.skip.push hn).set hn bS) (xM N p n l k s (by rw[hf.len];exact hn) h) (jc _)
def gy(N:List (List Nat))(p:Nat)(s o:List Nat):Bool×List Nat×List Nat:=
 if s.getD p 0=2 then (true,s,o) else Ci N [(p,N.getD p [])] (s.set p 1) o
def zU(N:List (List Nat)):List Nat->List Nat->List Nat->Bool
 |[],_,_=>true
 |p::ps,s,o=>if (gy N p s o).1=true then zU N ps (gy N p s o).2.1 (gy N p s o).2.2 else false
def wT(N:List (List Nat))(mk:ah->Option Nat):List ah->List Nat->List Nat->Option (List Nat)
 |[],_,o=>some o
 |x::xs,s,o=>match mk x with
   |none=>none
   |some p=>wT N mk xs (gy N p s o).2.1 (gy N p s o).2.2
def jT(n:Nat):List Nat:=List.replicate n 0
def yH(es:List dA):List ah:=(es.flatMap (·.outs)).filter fun o=>!fo o (es.flatMap eO)
abbrev XG:=Bool
def wO(S:St)(ts:List ah):List ah:=
 if ts≠[] then ts else if S.defs≠[] then S.defs else yH S.bG
def wR(S:St)(ts:List ah):Except XG (List Nat):=
 if zU (jh S.bG) (List.range S.bG.length) (jT S.bG.length) []=true then
  (match wT (jh S.bG) (fK S.bG) (wO S ts) (jT S.bG.length) [] with
  |none=>.error true
  |some o=>.ok o)
 else .error false
section
open Go.RowKit Go.Maps
def UJ:Value->Option (DataW Unit×List MemPlace)
 |.agg cs=>(match cs.toList with
   |[.string s]=>some (.lit (.string s.data.toList),[])
   |_=>none)
 |_=>none
variable {d:DataW Unit}
theorem Mf{v:Value}{p:List MemPlace}(h:UJ v=some (d,p)):∃s,v=.agg #[.string s]/\d=.lit (.string s.data.toList):=by
 unfold UJ at h
 split at h
 ·rename_i cs
  split at h
  ·rename_i s e
   refine⟨s,?_,(ig Prod.fst (ax h)).symm⟩;rw[show cs=#[.string s] from fJ.1 e]
  cases h
 cases h
theorem aai{v v':Value}{p p':List MemPlace}(h:UJ v=some (d,p))(h':UJ v'=some (d,p')):v=v':=by
 obtain⟨s,rfl,e⟩:=Mf h;obtain⟨s',rfl,e'⟩:=Mf h';rw[e] at e';injection e' with e';injection e' with e';rw[show s=s' from ByteArray.ext (fJ.1 e')]
def UI:zF:=⟨UJ,aai⟩
def wD(s:ah):Value:=.agg #[.string s]
def yN:Value:=.agg #[.string ⟨#[]⟩]
theorem UK(s:ah):∃d ps,UI.R (wD s)=some (d,ps):=⟨_,_,rfl⟩
def wH(w:ak)(b n:Nat)(l:iH):Prop:=eu UI yN w b n (fun x=>(eT l x).map wD)
def ai1:Value->Nat
 |.pointer (some a)=>a.block+1
 |_=>0
def lY(w:ak):Value->List iH->Prop
 |p,[]=>p=.pointer none
 |p,l::ls=>∃sb tb n q,p=.pointer (some ⟨sb,0,none⟩)/\ai1 q<=sb/\w.heap[sb]?=some (.cells #[.map (some tb),q] 302 (0,0))/\wH w tb n l/\lY w q ls
def gK:List iH->ah->ah
 |[],_=>⟨#[]⟩
 |l::ls,x=>(eT l x).getD (gK ls x)
variable {w:ak}
theorem bN{k:Nat}{o:Obj}(h:w.heap[k]?=some o):k<w.heap.size:=by
 rcases bX k w.heap.size with c|c
 ·exact c
 rw[fq c] at h;cases h
variable {w':ak}
theorem lY.keep(hb:∀k,k<w.heap.size->w'.heap[k]?=w.heap[k]?):∀{ls:List iH} {p:Value},lY w p ls->lY w' p ls
 |[],_,h=>h
 |_::_,_,⟨sb,tb,n,q,hp,hq,hs,hm,hr⟩=>⟨sb,tb,n,q,hp,hq,(hb sb (bN hs)).trans hs,eu.keep hm (hb tb hm.lt),lY.keep hb hr⟩
theorem Xp(ls:List iH)(p:Value)(x:ah)(w:ak)(h:lY w p ls)(hx:x.size<=1048576):
  Calls Tryz.prog 274 #[p,.string x] w fun e w'=>e=.returned (.string (gK ls x))/\Below w.heap.size w w':=by
 have HZ:Hid (∀w,(zeroValue 403).run Tryz.prog w=.ok yN w):=fun w=>dD
 have HP:=aV h
 have hxm:x.size<=maxLen:=by unfold maxLen;omega
 obtain⟨ao,rfl⟩:∃ao,p=.pointer ao:=by
  cases ls with
  |nil=>exact⟨none,h⟩
  |cons l ls=>obtain⟨sb,_,_,_,e,_⟩:=h;exact⟨_,e⟩
 clear h
 go_enter Tryz.func274,Tryz.ntmps274
 go_wp2
 go_loopw [5] (fun at' wr=>∃ap ls',at'=.pointer ap/\Below w.heap.size w wr/\lY wr (.pointer ap) ls'/\gK ls' x=gK ls x) (fun at' _=>ai1 at')
 case atStart=>exact⟨_,ls,rfl,ay _ _,HP.out,rfl⟩
 case round=>
  obtain⟨ap,ls',rfl,hbw,hsc,hev⟩:=hrel;have lJ:=aV hbw;have HEV:=aV hev;clear hbw hev
  cases ls' with
  |nil=>
   obtain rfl:ap=none:=by have e:Value.pointer ap=.pointer none:=hsc;injection e
   go_wp2
   go_ret;exact⟨by rw[<-HEV.out];rfl,lJ.out⟩
  |cons l ls2=>
   obtain⟨sb,tb,n,q,hap,hq,hs,hm,hr⟩:=hsc
   obtain rfl:ap=some ⟨sb,0,none⟩:=by injection hap
   obtain⟨qa,rfl⟩:∃qa,q=.pointer qa:=by
    cases ls2 with
    |nil=>exact⟨none,hr⟩
    |cons l ls=>obtain⟨sb,_,_,_,e,_⟩:=hr;exact⟨_,e⟩
   clear hap;have HQ:=aV hq;have HR:=aV hr
   have c0:wr.cell? ⟨sb,0,none⟩=some (.map (some tb)):=by rw[aj _ _ _ _ _ _ hs];rfl
   have c1:wr.cell? ⟨sb,1,none⟩=some (.pointer qa):=by rw[aj _ _ _ _ _ _ hs];rfl
   have hsb:sb<wr.heap.size:=bN hs;have hlk:=eu.look_ok hm (t:=300) Tryz.underlying300 HZ.out x hxm;have HE:Hid (gK (l::ls2) x=(eT l x).getD (gK ls2 x)):=rfl;clear hs hm hr hq
   cases hf:eT l x with
   |some y=>
    rw[hf] at hlk HE;have hlk2:(Instr.lookup 300 (.map (some tb)) (.string x) true).run Tryz.prog wr=.ok (.tuple #[.agg #[.string y],.bool true]) wr:=hlk;clear hlk
    go_wp2
    go_ret;exact⟨by rw[<-HEV.out,HE.out];rfl,lJ.out.alloc lJ.out.size _⟩
   |none=>
    rw[hf] at hlk HE;have hlk2:(Instr.lookup 300 (.map (some tb)) (.string x) true).run Tryz.prog wr=.ok (.tuple #[.agg #[.string ⟨#[]⟩],.bool false]) wr:=hlk;clear hlk
    go_wp2
    exact⟨⟨_,ls2,rfl,lJ.out.alloc lJ.out.size _,HR.out.keep (fun k hk=>bC wr _ k hk),by rw[<-HEV.out,HE.out];rfl⟩,Nat.lt_succ_of_le HQ.out⟩
end
section
open Go.RowKit Go.Shelf
theorem abd(t:ah):((⟨(Lib.trimRightB t.data.toList 36).toArray⟩:ah).size)=t.size-MZ t:=by
 show(Lib.trimRightB t.data.toList 36).toArray.size=_;unfold Lib.trimRightB MZ afK;rw[bZ,RI];have h:=Em (·==36) t.data.toList.reverse
 have e:(t.data.toList.reverse.dropWhile fun c=>c.toNat==36)=t.data.toList.reverse.dropWhile (·==36):=by
  congr 1
  funext c
  rw[tu];simp only[beq_iff_eq];exact⟨fun e=>qh.1 e,fun e=>by rw[e];rfl⟩
 rw[<-e,<-h,vS,RI,aX];rfl
theorem adx(t:ah):MZ t<=t.size:=by
 unfold MZ afK;refine aC (LP _ _) ?_;rw[RI,aX];exact ai _
theorem Qd(t:ah)(ht:t.size<=1048576)(w:ak):
  Calls Tryz.prog 260 #[.string t] w fun e w'=>e=.returned (.tuple #[.string (qF t),.bool (Ed t)])/\w'=w:=by
 have HC:Hid (Calls Tryz.prog 313 #[.string t,.string ⟨#[36]⟩] w fun e w'=>e=.returned (.string ⟨(Lib.trimRightB t.data.toList 36).toArray⟩)/\w'=w):=Any.strings_TrimRight_one Tryz.lays162 t 36 bS w aJ;have hsz:=abd t;have hdl:=adx t;generalize (⟨(Lib.trimRightB t.data.toList 36).toArray⟩:ah)=T at*
 have t0:(t.size:Int)<=1048576:=aJ
 have t1:(T.size:Int)<=(t.size:Int):=aJ
 have hsub:(t.size:Int)-(T.size:Int)=(MZ t:Int):=aJ
 have HO:Hid (Ed t=decide (MZ t % 2=1)):=rfl;have HP:Hid (qF t=if Ed t=true then t.extract 0 (t.size-1) else t):=rfl
 have d0:(0:Int)<=(MZ t:Int):=aJ
 have d1:(MZ t:Int)<=1048576:=aJ
 generalize MZ t=D at*;clear hsz
 by_cases hodd:D % 2=1
 ·have hO:Ed t=true:=by rw[HO.out];exact bT hodd
  have hP:qF t=t.extract 0 (t.size-1):=by rw[HP.out,aH hO]
  rw[hO,hP]
  have q:((D:Int) % 2==0)=false:=by simp;omega
  have hsl:∀wx,(Instr.slice 9 (.string t) none (some (.int .i64 ((t.size:Int)-1))) none).run Tryz.prog wx=.ok (.string (t.extract 0 (t.size-1))) wx:=fun wx=>by
   have:=qH t (t.size-1) aJ wx;rw[show((t.size-1:Nat):Int)=(t.size:Int)-1 by omega] at this;exact this
  generalize t.extract 0 (t.size-1)=V at*;clear hO hP
  go_enter Tryz.func260,Tryz.ntmps260
  go_wp2_with fail
  refine HC.out.mono ?_;rintro e w' ⟨rfl,rfl⟩
  go_wp2_with fail
  go_ret2;exact⟨rfl,rfl⟩
 have hO:Ed t=false:=by rw[HO.out];exact bM hodd
 have hP:qF t=t:=by rw[HP.out,aA (by rw[hO];decide)]
 rw[hO,hP]
 have q:((D:Int) % 2==0)=true:=by simp;omega
 clear hO hP
 go_enter Tryz.func260,Tryz.ntmps260
 go_wp2_with fail
 refine HC.out.mono ?_;rintro e w' ⟨rfl,rfl⟩
 go_wp2_with fail
 go_ret2;exact⟨rfl,rfl⟩
theorem Le(t:ah):(qF t).size<=t.size:=by
 unfold qF
 split
 ·rw[aM];omega
 exact ai _
theorem Ak(l:List dQ)(x:dQ)(s:ah):EA (l++[x]) s=l++[(x.1,x.2++s)]:=by
 unfold EA;rw[List.getLast?_append,List.getLast?_singleton]
 simp
def wB(l:List dQ):Nat:=(l.map (·.2.size)).sum
def AR(l:List ah):Nat:=(l.map (·.size)).sum
theorem Cf(l r:List dQ):wB (l++r)=wB l+wB r:=by unfold wB;rw[iI,adj]
theorem Ma:∀{l:List dQ} {x:dQ},x∈l->x.2.size<=wB l
 |y::l,x,h=>by
  have e:wB (y::l)=y.2.size+wB l:=by unfold wB;simp
  rcases bg.1 h with rfl|h
  ·omega
  have:=Ma h;omega
theorem Fb(L:List dQ)(on:Bool)(no:Nat)(r:ah):wB (lI L on no r)<=wB L+r.size:=by
 have hp:=Le r;have hl:=kG (qF r);unfold lI
 split
 ·rcases tV L with rfl|⟨l,x,rfl⟩
  ·exact aS _
  rw[tQ,Ak,Cf,Cf];show _+wB [(x.1,x.2++bI (qF r))]<=wB l+wB [x]+_;unfold wB;simp only[mJ,CV,List.sum_cons,List.sum_nil,aL];omega
 rw[Cf];show _+wB [(no,qF r)]<=_;unfold wB;simp only[mJ,CV,List.sum_cons,List.sum_nil];omega
theorem Fa:∀(R:List ah) (no:Nat) (L:List dQ) (on:Bool),wB (mX no R L on)<=wB L+AR R
 |[],_,L,_=>by show wB L<=_;omega
 |r::R,no,L,on=>by
  have h1:=Fa R (no+1) (lI L on no r) (Ed r);have h2:=Fb L on no r;show wB (mX (no+1) R (lI L on no r) (Ed r))<=wB L+AR (r::R)
  have e:AR (r::R)=r.size+AR R:=by unfold AR;simp
  omega
theorem Qu(L:List dQ)(on:Bool)(no:Nat)(r:ah):(lI L on no r).length<=L.length+1:=by
 unfold lI
 split
 ·rcases tV L with rfl|⟨l,x,rfl⟩
  ·exact aS _
  rw[tQ,Ak,aI,aI];show _+1<=_+1+1;omega
 rw[aI];exact ai _
theorem EZ:∀(R:List ah) (no:Nat) (L:List dQ) (on:Bool),(mX no R L on).length<=L.length+R.length
 |[],_,_,_=>ai _
 |r::R,no,L,on=>by
  have h1:=EZ R (no+1) (lI L on no r) (Ed r);have h2:=Qu L on no r;show(mX (no+1) R (lI L on no r) (Ed r)).length<=L.length+(R.length+1);omega
theorem LW:∀(k:Nat) (s:ah),Lib.countB s nl=k->AR (Lib.splitB nl 0 k s)<=s.size
 |0,s,_=>by show AR [s]<=_;unfold AR;simp
 |k+1,s,h=>by
  rcases Lib.indexB_cases s nl with hi|⟨i,hi,hr⟩
  ·rw[Lib.splitB_miss _ _ _ _ hi];unfold AR;simp
  have hc:=Lib.countB_hit s nl i bS hi;have:=LW k (s.extract (i+nl.size) s.size) aJ;rw[Lib.splitB_hit _ _ _ _ _ hi]
  have e:AR (s.extract 0 (i+0)::Lib.splitB nl 0 k (s.extract (i+nl.size) s.size))=(s.extract 0 (i+0)).size+AR (Lib.splitB nl 0 k (s.extract (i+nl.size) s.size)):=by unfold AR;simp
  rw[aM] at this;rw[e,aM];omega
theorem Uk(t:ah):AR (zR t)<=t.size:=LW _ t rfl
theorem BX(t:ah):(zR t).length=Lib.countB t nl+1:=Lib.splitB_all nl bS 0 _ t rfl
theorem Lu(t:ah):Lib.countB t nl<=t.size:=Lib.countB_le nl bS _ t (ai _)
theorem WC(t:ah):wB (uG t)<=t.size:=by
 have h1:=Fa (zR t) 1 [] false;have h2:=Uk t;have:wB []=0:=rfl;unfold uG;omega
theorem Kb(E:ah->ah):∀(g:Nat) (t:ah) (i:Nat) (out:ah),t.size-i<=g->i<=t.size->jE E t i out=jE E (t.extract i t.size) 0 out:=by
 intro g
 induction g with
 |zero=>
  intro t i out h hi;rw[uq _ _ _ _ aJ,uq _ _ _ _ (by rw[aM];omega)]
 |succ g ih=>
  intro t i out h hi
  have hsz:(t.extract i t.size).size=t.size-i:=by rw[aM];omega
  by_cases he:t.size<=i
  ·rw[uq _ _ _ _ he,uq _ _ _ _ aJ]
  have hb:byteOf (t.extract i t.size) 0=byteOf t i:=by rw[kF _ _ _ _ aJ (ai _),kX]
  have hx:∀k,i+k<=t.size->(t.extract i t.size).extract k (t.extract i t.size).size=t.extract (i+k) t.size:=fun k hk=>by
   rw[hsz,nK _ _ _ _ _ aJ,show i+(t.size-i)=t.size by omega]
  by_cases hc:byteOf t i=36
  ·have hfu:uz (t.extract i t.size) 0=(qi (t.extract (i+1) t.size)).map fun p=>(p.1,0+1+p.2):=by
    rw[ER _ _ aJ,hx (0+1) aJ]
   have hft:=ER t i aJ
   cases hf:qi (t.extract (i+1) t.size) with
   |none=>
    rw[hf] at hfu hft;rw[zm _ _ _ _ aJ hc hft,zm _ _ _ _ aJ (hb.trans hc) hfu]
   |some p=>
    obtain⟨f,k⟩:=p;rw[hf] at hfu hft;have h1:=zO (show uz t i=some (f,i+1+k) from hft);rw[zl _ _ _ _ _ _ aJ hc (show uz t i=some (f,i+1+k) from hft),zl _ _ _ _ _ _ aJ (hb.trans hc) (show uz (t.extract i t.size) 0=some (f,0+1+k) from hfu)];rw[ih t (i+1+k) _ aJ aJ,ih (t.extract i t.size) (0+1+k) _ aJ aJ,hx _ aJ,show i+(0+1+k)=i+1+k by omega]
  rw[xW _ _ _ _ aJ hc,xW E (t.extract i t.size) 0 out aJ (by rw[hb];exact hc)];rw[ih t (i+1) _ aJ aJ,ih (t.extract i t.size) (0+1) _ aJ aJ,hx _ aJ,nK _ _ _ _ _ aJ];rfl
theorem Qi(t:ah)(a b c:Nat)(h1:a<=b)(h2:b<=c):t.extract a b++t.extract b c=t.extract a c:=by
 rw[Yj,lK h1,Nat.max_eq_right h2]
theorem Ar(E:ah->ah)(t:ah):∀(n i:Nat) (out:ah),i+n<=t.size->(∀k,i<=k->k<i+n->byteOf t k≠36)->jE E t i out=jE E t (i+n) (out++t.extract i (i+n)):=by
 intro n
 induction n with
 |zero=>
  intro i out _ _;rw[kX,show t.extract i i=ByteArray.empty from iJ.1 (by rw[aM];omega),Ju]
 |succ n ih=>
  intro i out h hk;rw[xW _ _ _ _ aJ (hk i (ai _) aJ),ih (i+1) _ aJ (fun k a b=>hk k aJ aJ),dN,Qi _ _ _ _ aJ aJ,show i+1+n=i+(n+1) by omega]
def dol:ah:=⟨#[36]⟩
theorem Zp(u:ah):(Lib.indexB u dol=-1/\∀k,k<u.size->byteOf u k≠36)\/∃n:Nat,Lib.indexB u dol=n/\n<u.size/\byteOf u n=36/\∀k,k<n->byteOf u k≠36:=by
 have h1:Lib.indexB u dol=Lib.indexByte u.data.toList 36:=Lib.one u dol rfl
 have hb:∀k,k<u.size->u.data.toList[k]?≠some 36->byteOf u k≠36:=fun k hk hn e=>hn (by
  rw[cZ,NQ u k hk,e];rfl)
 rcases Lib.indexB_cases u dol with h|⟨i,h,hi⟩
 ·refine aK ⟨h,fun k hk=>hb k hk ?_⟩;rw[h1] at h;exact Lib.indexByte_none h k
 refine aP ⟨i,h,?_,?_,fun k hk=>?_⟩
 ·have:dol.size=1:=rfl;omega
 ·rw[h1] at h;have:=(Lib.indexByte_some h).1;rw[uZ this];rfl
 rw[h1] at h;refine hb k ?_ ((Lib.indexByte_some h).2 k hk);have:dol.size=1:=rfl;omega
theorem Sy(E:ah->ah)(u out:ah)(h:∀k,k<u.size->byteOf u k≠36):jE E u 0 out=some (out++u):=by
 rw[Ar E u u.size 0 out aJ (fun k _ hk=>h k aJ),uq _ _ _ _ aJ,dh,kC]
theorem VU(E:ah->ah)(u out:ah)(n:Nat)(hn:n<u.size)(hd:byteOf u n=36)(h:∀k,k<n->byteOf u k≠36)(hf:qi (u.extract (n+1) u.size)=none):jE E u 0 out=none:=by
 rw[Ar E u n 0 out aJ (fun k _ hk=>h k aJ),dh];exact zm _ _ _ _ hn hd (by rw[ER _ _ hn,hf];rfl)
theorem Sz(E:ah->ah)(u out:ah)(n:Nat)(hn:n<u.size)(hd:byteOf u n=36)(h:∀k,k<n->byteOf u k≠36)(f:IC)(k:Nat)(hf:qi (u.extract (n+1) u.size)=some (f,k)):
  jE E u 0 out=(if 4000<(out++u.extract 0 n++f.val E).size then none else jE E ((u.extract (n+1) u.size).extract k (u.extract (n+1) u.size).size) 0 (out++u.extract 0 n++f.val E))/\0<k/\k<=(u.extract (n+1) u.size).size:=by
 have hf2:uz u n=some (f,n+1+k):=by rw[ER _ _ hn,hf];rfl
 have hle:=zO hf2
 have hsz:(u.extract (n+1) u.size).size=u.size-(n+1):=by rw[aM];omega
 refine⟨?_,aJ,aJ⟩;rw[Ar E u n 0 out aJ (fun k _ hk=>h k aJ),dh,zl _ _ _ _ _ _ hn hd hf2,Kb E _ u (n+1+k) _ (ai _) hle.2,hsz,nK _ _ _ _ _ aJ,show n+1+(u.size-(n+1))=u.size by omega]
def ja(a:Nat->Addr)(k:Nat):Value:=.iface 472 (.pointer (some (a k)))
structure Gl(a:Nat->Addr)(w:ak):Prop where
 size:14<=w.heap.size
 errs:∀k,k<9->w.cell? ⟨k,0,none⟩=some (ja a k)
 most:∃m,w.cell? ⟨11,0,none⟩=some (.int .i64 m)
variable {a:Nat->Addr}{w w':ak}
theorem Gl.keep(h:Gl a w)(hs:w.heap.size<=w'.heap.size)(hb:∀k,k<14->w'.heap[k]?=w.heap[k]?):Gl a w' where
 size:=aC h.size hs
 errs k hk:=by rw[aF (w:=w) (hb _ (by simp only;omega))];exact h.errs k hk
 most:=by
  obtain⟨m,hm⟩:=h.most;exact⟨m,by rw[aF (w:=w) (hb _ bS)];exact hm⟩
variable {B:Nat}
theorem Gl.below(h:Gl a w)(hb:Below B w w')(hB:14<=B):Gl a w':=h.keep hb.size (fun k hk=>hb.block k aJ)
def IC.text:IC->ah
 |.inl b=>b
 |.inr x=>x
variable {f:IC}
theorem Kn{u:ah}{k:Nat}(h:qi u=some (f,k)):f.text.size<=u.size:=by
 have hw:∀v:ah,(fE v).size<=v.size:=fun v=>by rw[mh];exact kg _ _
 unfold qi at h
 split at h
 ·cases h
 split at h
 ·obtain⟨rfl,_⟩:=Prod.mk.inj (ax h);show(u.extract 0 1).size<=_;rw[aM];omega
 split at h
 ·split at h
  ·cases h
  obtain⟨rfl,_⟩:=Prod.mk.inj (ax h);refine aC (hw _) ?_;rw[aM];omega
 split at h
 ·cases h
 obtain⟨rfl,_⟩:=Prod.mk.inj (ax h);exact hw _
def ai3:Value->Nat
 |.string s=>s.size
 |_=>0
theorem adv(u:ah)(hu:u.size<=1048576)(a:Nat->Addr)(w:ak)(hg:Gl a w):
  Calls Tryz.prog 272 #[.string u,.string dol] w fun e w'=>(∃n,w'=w.drewN n)/\((e=.returned (.tuple #[.string u,.string ⟨#[]⟩,.bool false])/\∀k,k<u.size->byteOf u k≠36)\/∃n,n<u.size/\byteOf u n=36/\(∀k,k<n->byteOf u k≠36)/\e=.returned (.tuple #[.string (u.extract 0 n),.string (u.extract (n+1) u.size),.bool true])):=by
 obtain⟨m,hm⟩:=hg.most;refine(Any.strings_Cut Tryz.lays145 u dol m w aJ hm).mono ?_;rintro e w' ⟨rfl,n,rfl⟩;refine⟨⟨n,rfl⟩,?_⟩
 rcases Zp u with ⟨h,hk⟩|⟨i,h,hi,hd,hk⟩
 ·have:=Lib.cutB_miss u dol h;refine aK ⟨?_,hk⟩;rw[this.1,this.2.1,this.2.2];rfl
 have:=Lib.cutB_hit u dol i h;refine aP ⟨i,hi,hd,hk,?_⟩;rw[this.1,this.2.1,this.2.2];rfl
def VT(a:Nat->Addr)(n:Int)(o:Option ah)(e:Ending)(w':ak):Prop:=match o with
 |some y=>e=.returned (.string y)
 |none=>jF n (ja a 4) e w'
theorem Tt{T:TypeId}{b:Option Nat}(h:Lib.OthersKept 5 b w w'){k:Nat}{cs:Array Value}{fz:Nat×Nat}(hk:w.heap[k]?=some (.cells cs T fz))(hT:T≠5)(hb:some k≠b):w'.heap[k]?=some (.cells cs T fz):=
 h k _ hk hb (fun c f e=>hT (by injection e))
theorem xX(rb:Nat)(n:Int)(t:ah)(ls:List iH)(p:Value)(a:Nat->Addr)(w:ak)(h0:w.cell? ⟨rb,0,none⟩=some (.int .i64 n))(hs:lY w p ls)(hg:Gl a w)(ht:t.size<=1048576)(hE:∀x,(gK ls x).size<=1048576)(hN:gK ls ⟨#[]⟩=⟨#[]⟩):
  Calls Tryz.prog 201 #[.pointer (some ⟨rb,0,none⟩),.string t,p] w fun e w'=>VT a n (iE (gK ls) t) e w'/\Below w.heap.size w w':=by
 have HS:=aV hs;have HG:=aV hg;have HE:=aV hE;have HX:=aV h0;have hrb:rb<w.heap.size:=aG h0;have HT:=aV ht;have HN0:=aV hN;clear hN
 obtain⟨ao,rfl⟩:∃ao,p=.pointer ao:=by
  cases ls with
  |nil=>exact⟨none,hs⟩
  |cons l ls=>obtain⟨sb,_,_,_,e,_⟩:=hs;exact⟨_,e⟩
 clear hs hg hE h0
 go_enter Tryz.func201,Tryz.ntmps201
 go_wp2_with fail
 go_loopw [1] (fun v wr=>∃u out,v=.string u/\u.size<=t.size/\out.size<=4000/\dW wr w.heap.size out/\Below w.heap.size w wr/\jE (gK ls) u 0 out=iE (gK ls) t) (fun v _=>ai3 v)
 case atStart=>
  exact⟨t,⟨#[]⟩,rfl,ai _,bS,uY w,(ay _ _).alloc (ai _) _,rfl⟩
 case round=>
  obtain⟨u,out,rfl,hus,hos,hbu,hbw,hex⟩:=hrel;have uP:=aV hbu;have lJ:=aV hbw;have HEX:=aV hex;have HGr:=aV (HG.out.below hbw HG.out.size);have HUS:=aV hus;clear hbu hbw hex
  go_wp2_with fail
  refine(adv u (by have:=HT.out;omega) a wr HGr.out).mono ?_;rintro e w1 ⟨⟨n1,rfl⟩,⟨rfl,hno⟩|⟨i,hi,hd,hno,rfl⟩⟩
  ·have HN:Hid (iE (gK ls) t=some (out++u)):=HEX.out.symm.trans (Sy _ u out hno);have HB1:Hid (dW (wr.drewN n1) w.heap.size out):=uP.out.keep (fun _ _=>rfl);clear hno
   go_wp2_with fail
   refine(rO _ out u _ HB1.out (by have:=HT.out;omega)).mono ?_;rintro e w2 ⟨rfl,hb2,hw2⟩;have HB2:=aV hb2;have HW2:=aV ((di lJ.out n1).trans hw2);clear hb2 hw2
   go_wp2_with fail
   refine(uX _ _ _ HB2.out).mono ?_;rintro e w3 ⟨rfl,hb3,hw3⟩;have HW3:=aV (HW2.out.trans hw3);clear hb3 hw3
   go_wp2_with fail
   go_ret;exact⟨by rw[HN.out];rfl,HW3.out⟩
  have hvs:(u.extract (i+1) u.size).size<=1048576:=by rw[aM];have:=HT.out;omega
  have HVS:Hid ((u.extract (i+1) u.size).size<u.size):=by show _<_;rw[aM];omega
  have hAs:(u.extract 0 i).size<=1048576:=by rw[aM];have:=HT.out;omega
  have HBAD:Hid (qi (u.extract (i+1) u.size)=none->iE (gK ls) t=none):=fun hf=>HEX.out.symm.trans (VU _ u out i hi hd hno hf)
  have RH:Hid (∀f k,qi (u.extract (i+1) u.size)=some (f,k)->(iE (gK ls) t=(if 4000<(out++u.extract 0 i++f.val (gK ls)).size then none else jE (gK ls) ((u.extract (i+1) u.size).extract k (u.extract (i+1) u.size).size) 0 (out++u.extract 0 i++f.val (gK ls))))/\0<k/\k<=(u.extract (i+1) u.size).size):=fun f k hf=>by
   have h:=Sz (gK ls) u out i hi hd hno f k hf;exact⟨HEX.out.symm.trans h.1,h.2⟩
  have HB1:Hid (dW (wr.drewN n1) w.heap.size out):=uP.out.keep (fun _ _=>rfl)
  have akx:Hid (∀b k,qi (u.extract (i+1) u.size)=some (.inl b,k)->b.size<=1048576):=fun b k hf=>aC (Kn hf) hvs
  have akV:Hid (∀b k,qi (u.extract (i+1) u.size)=some (.inr b,k)->b.size<=1048576):=fun b k hf=>aC (Kn hf) hvs
  clear hno hd;generalize u.extract 0 i=A at*;generalize u.extract (i+1) u.size=V at*
  go_wp2_with fail
  refine(rO _ out A _ HB1.out aJ).mono ?_;rintro e w2 ⟨rfl,hb2,hw2⟩;have HB2:=aV hb2;have HW2:=aV ((di lJ.out n1).trans hw2);have hlt2:w.heap.size<w2.heap.size:=hb2.lt;clear hb2 hw2
  go_wp2_with fail
  refine(VZ V hvs _).mono ?_;rintro e w3 ⟨⟨lit,var,k,rfl,hfi⟩,hw3⟩;have HB3:=aV (HB2.out.below hw3);have HW3:Hid (Below w.heap.size w w3):=HW2.out.trans (hw3.mono aJ);have hlt3:w.heap.size<w3.heap.size:=HB3.out.lt;have hg3:=HG.out.below HW3.out HG.out.size;have c4:w3.cell? ⟨4,0,none⟩=some (.iface 472 (.pointer (some (a 4)))):=hg3.errs 4 bS
  have l4:4<w3.heap.size:=by have:=hg3.size;omega
  clear hw3 hg3
  cases hf:qi V with
  |none=>
   have HN:=aV (HBAD.out hf)
   have uT:Hid (∀wx,Below w.heap.size w wx->Calls Tryz.prog 112 #[.pointer (some ⟨rb,0,none⟩),.bool false,.iface 472 (.pointer (some (a 4)))] wx fun e w'=>jF n (ja a 4) e w'/\Below wx.heap.size wx w'):=fun wx hb=>pz rb n _ _ wx ((hb.cell (p:=⟨rb,0,none⟩) hrb).trans HX.out)
   simp only[iU];clear hf hfi
   go_wp2_with fail
   refine(uT.out _ (HW3.out.alloc HW3.out.size _)).mono ?_;rintro e w4 ⟨⟨b,rfl,s0,s1⟩,hb4⟩;refine⟨rfl,?_,(HW3.out.alloc HW3.out.size _).trans (hb4.mono (by simp;omega))⟩;rw[HN.out];exact⟨b,rfl,s0,s1⟩
  |some fk=>
   obtain⟨f,kk⟩:=fk;obtain⟨hst,hk0,hk1⟩:=RH.out f kk hf;have HST:=aV hst;rw[hf] at hfi
   obtain⟨hk,ada⟩:k=(kk:Int)/\Hid (out++A++lit++gK ls var=out++A++f.val (gK ls)/\lit.size<=1048576/\var.size<=1048576):=by
    cases f with
    |inl b=>
     obtain⟨rfl,rfl,hk⟩:=hfi;refine⟨hk,?_,akx.out _ _ hf,bS⟩;rw[HN0.out];exact Ju
    |inr x=>
     obtain⟨rfl,rfl,hk⟩:=hfi;refine⟨hk,?_,bS,akV.out _ _ hf⟩;rw[show out++A++(⟨#[]⟩:ah)=out++A from Ju];rfl
   subst hk;simp only[gu];clear hf hfi hst HBAD RH
   have k0:(0:Int)<=(kk:Int):=aJ
   have hsl:∀wx,(Instr.slice 9 (.string V) (some (.int .i64 kk)) none none).run Tryz.prog wx=.ok (.string (V.extract kk V.size)) wx:=fun wx=>nQ V kk hk1 wx
   go_wp2_with fail
   refine(gL _ _ _).mono ?_;rintro e w4 ⟨rfl,rfl⟩
   go_wp2_with fail
   have ag7:Hid (dW (w3.alloc (.cells #[.string lit,.string var,.int .i64 kk] 407)) w.heap.size (out++A)):=HB3.out.keep (fun k hk=>bC w3 _ k hk);have hla:(out++A).size=out.size+A.size:=aL;have hlb:=ada.out.2.1;refine(Gc _ (out++A) lit _ ag7.out aJ).mono ?_;rintro e w5 ⟨rfl,hb5,hw5,hk5⟩;have Bq:=aV hb5;have HW5:Hid (Below w.heap.size w w5):=(HW3.out.alloc HW3.out.size _).trans hw5;have HR5:Hid (w5.heap[w3.heap.size]?=some (.cells #[.string lit,.string var,.int .i64 kk] 407 (0,0))):=Tt hk5 (bq w3 _ _ rfl) bS (by simp;omega)
   have d1:w5.cell? ⟨w3.heap.size,1,none⟩=some (.string var):=by rw[aj _ _ _ _ _ _ HR5.out];rfl
   clear hb5 hw5 hk5 hsl
   go_wp2_with fail
   refine(Xp ls _ var _ (HS.out.keep (fun k hk=>HW5.out.block k hk)) ada.out.2.2).mono ?_;rintro e w6 ⟨rfl,hw6⟩;have FP:=aV (Bq.out.below hw6);have HW6:=aV (HW5.out.trans (hw6.mono HW5.out.size));have HR6:Hid (w6.heap[w3.heap.size]?=some (.cells #[.string lit,.string var,.int .i64 kk] 407 (0,0))):=(hw6.block _ (bN HR5.out)).trans HR5.out;have hv:=HE.out var;have HV:=aV ada.out.1;generalize gK ls var=val at*
   have hlc:(out++A++lit).size=out.size+A.size+lit.size:=by rw[aL,aL]
   have hld:(out++A++lit++val).size=out.size+A.size+lit.size+val.size:=by rw[aL,hlc]
   clear hw6 d1
   go_wp2_with fail
   refine(Gc _ (out++A++lit) val _ FP.out aJ).mono ?_;rintro e w7 ⟨rfl,Jm,hw7,hk7⟩;have RA:=aV Jm;have HW7:=aV (HW6.out.trans hw7);have HR7:Hid (w7.heap[w3.heap.size]?=some (.cells #[.string lit,.string var,.int .i64 kk] 407 (0,0))):=Tt hk7 HR6.out bS (by simp;omega)
   have e2:w7.cell? ⟨w3.heap.size,2,none⟩=some (.int .i64 kk):=by rw[aj _ _ _ _ _ _ HR7.out];rfl
   have wW:=HG.out.below HW7.out HG.out.size;have f4:w7.cell? ⟨4,0,none⟩=some (.iface 472 (.pointer (some (a 4)))):=wW.errs 4 bS;rw[HV.out] at RA hld;generalize hX:out++A++f.val (gK ls)=X at*;clear Jm hw7 hk7 wW c4 FP Bq HB3 ag7 HV ada hX
   have x0:(X.size:Int)<=9000000:=aJ
   clear hld hlc hla
   have hsl:∀wx,(Instr.slice 9 (.string V) (some (.int .i64 kk)) none none).run Tryz.prog wx=.ok (.string (V.extract kk V.size)) wx:=fun wx=>nQ V kk hk1 wx
   have HLEN:Hid (Calls Tryz.prog 275 #[.pointer (some ⟨w.heap.size,0,none⟩)] w7.drew fun e w'=>e=.returned (.int .i64 X.size)/\w'=w7.drew):=JQ _ X _ (RA.out.keep (fun _ _=>rfl))
   by_cases hbig:4000<X.size
   ·have HN:=aV (HST.out.trans (aH hbig));have b2:decide ((X.size:Int)<=4000)=false:=bM aJ;have uT:Hid (Calls Tryz.prog 112 #[.pointer (some ⟨rb,0,none⟩),.bool false,.iface 472 (.pointer (some (a 4)))] w7.drew fun e w'=>jF n (ja a 4) e w'/\Below w.heap.size w w'):=(pz rb n _ _ w7.drew ((HW7.out.cell (p:=⟨rb,0,none⟩) hrb).trans HX.out)).mono (fun e w' h=>⟨h.1,HW7.out.drew.trans (h.2.mono HW7.out.size)⟩)
    go_wp2_with fail
    refine jX dD ?_;change wpAny _ _ _ _ _ _ _ (World.drew _);refine uA 0 (.pointer (some ⟨rb,0,none⟩)) rfl ?_
    refine pA 1 3 rfl rfl (fun K hK=>?_) fun K hK=>?_
    ·go_simp
     go_wp2_with (go_at_call 275;refine HLEN.out.mono ?_;rintro e w8 ⟨rfl,rfl⟩)
     refine uA 2 (.bool false) rfl ?_
     refine rA 3 rfl fun K hK=>?_
     go_simp;refine hK _ _ ?_;clear hK K
     refine rA 4 rfl fun K hK=>?_
     go_simp;refine uT.out.mono ?_;rintro e w8 ⟨⟨b,rfl,s0,s1⟩,mH⟩;exact⟨rfl,(by rw[HN.out];exact⟨b,rfl,s0,s1⟩),mH⟩
    go_simp;refine hK _ _ ?_;clear hK K
    refine rA 1 rfl fun K hK=>?_
    go_simp
    go_wp2_with (go_at_call 275;refine HLEN.out.mono ?_;rintro e w8 ⟨rfl,rfl⟩)
    refine uA 2 (.bool false) rfl ?_
    refine rA 4 rfl fun K hK=>?_
    go_simp;refine uT.out.mono ?_;rintro e w8 ⟨⟨b,rfl,s0,s1⟩,mH⟩;exact⟨rfl,(by rw[HN.out];exact⟨b,rfl,s0,s1⟩),mH⟩
   have HN:=aV ((HST.out.trans (aA hbig)).symm)
   have b1:(X.size:Int)<=4000:=aJ
   have afB:Hid (Calls Tryz.prog 112 #[.pointer (some ⟨rb,0,none⟩),.bool true,.iface 472 (.pointer (some (a 4)))] w7.drew fun e w'=>e=.returned (.tuple #[])/\w'=w7.drew):=gL _ _ _
   go_wp2_with fail
   go_region_held3 (fun w'=>w'=w7.drew/\w'.cell? ⟨4,0,none⟩=some (.iface 472 (.pointer (some (a 4))))) (first|exact⟨rfl,f4⟩) (first|(go_at_call 275;refine HLEN.out.mono ?_;rintro e w8 ⟨rfl,rfl⟩)|(go_at_call 112;refine afB.out.mono ?_;rintro e w8 ⟨rfl,rfl⟩))
   all_goals
    go_wp2_with fail
    exact⟨⟨V.extract kk V.size,X,rfl,by rw[aM];have:=HVS.out;have:=HUS.out;omega,aJ,RA.out.keep (fun _ _=>rfl),HW7.out.drew,HN.out⟩,by show(V.extract kk V.size).size<u.size;rw[aM];have:=HVS.out;omega⟩
theorem uo{G:Prop}(h:G)(w:ak):wpAny Tryz.prog .any #[] (fun _ _ _=>True) 0 #[] {tmps:=#[],defers:=[]} w->G:=fun _=>h
def XO(a:Nat->Addr)(n:Int)(o:Option (ah×ah))(e:Ending)(w':ak):Prop:=match o with
 |some nv=>e=.returned (.tuple #[.string nv.1,.string nv.2])
 |none=>jF n (ja a 4) e w'
theorem pW(t:ah)(c:UInt8)(w:ak):
  Calls Tryz.prog 193 #[.string t,.string ⟨#[c]⟩] w fun e w'=>e=.returned (.bool (gq t c.toNat))/\w'=w:=by
 have:=Any.strings_HasPrefix Tryz.lays99 t ⟨#[c]⟩ w;rw[show(⟨#[c]⟩:ah).data.toList=[c] from rfl,Dc] at this;exact this
theorem qA(rb:Nat)(n:Int)(t:ah)(a:Nat->Addr)(w:ak)(h0:w.cell? ⟨rb,0,none⟩=some (.int .i64 n))(hg:Gl a w)(ht:t.size<=1048576):
  Calls Tryz.prog 270 #[.pointer (some ⟨rb,0,none⟩),.string t] w fun e w'=>XO a n (pR t) e w'/\Below w.heap.size w w':=by
 have HB:Hid (pR t=if dB (bI t)=0\/gq (bI (gV (bI t))) 61=false then none else some (fE (bI t),bI ((bI (gV (bI t))).extract 1 (bI (gV (bI t))).size))):=rfl;have HX:=aV h0;have hls:=kG t
 have HW1:Hid (∀wx,Calls Tryz.prog 191 #[.string t] wx fun e w'=>e=.returned (.string (bI t))/\w'=wx):=fun wx=>gM t wx
 generalize bI t=T at*
 have Dy:Hid (∀wx,Calls Tryz.prog 194 #[.string T] wx fun e w'=>e=.returned (.tuple #[.string (fE T),.string (gV T)])/\∃n,w'=wx.drewN n):=fun wx=>qB T aJ wx
 have SS:=mh T;have hts:=yj T;generalize gV T=TL at*
 have HW2:Hid (∀wx,Calls Tryz.prog 191 #[.string TL] wx fun e w'=>e=.returned (.string (bI TL))/\w'=wx):=fun wx=>gM TL wx
 have hus:=kG TL;generalize bI TL=U at*
 have RG:Hid (∀wx,Calls Tryz.prog 193 #[.string U,.string ⟨#[61]⟩] wx fun e w'=>e=.returned (.bool (gq U 61))/\w'=wx):=fun wx=>pW U 61 wx
 have HBG:Hid (gq U 61=decide (0<U.size/\byteOf U 0=61)):=rfl;have c4:w.cell? ⟨4,0,none⟩=some (.iface 472 (.pointer (some (a 4)))):=hg.errs 4 bS;have hnn:=qR (fE T);rw[SS] at hnn;generalize fE T=HD at*;rw[<-SS] at HB hnn;generalize dB T=N at*;subst SS
 have uT:Hid (∀k,Calls Tryz.prog 112 #[.pointer (some ⟨rb,0,none⟩),.bool false,.iface 472 (.pointer (some (a 4)))] (w.drewN k).drew fun e w'=>jF n (ja a 4) e w'/\Below w.heap.size w w'):=fun k=>(pz rb n _ _ (w.drewN k).drew HX.out).mono (fun e w' h=>⟨h.1,(di (ay _ w) k).drew.trans h.2⟩)
 clear h0 hg
 by_cases hN:HD.size=0
 ·rw[bT hN] at hnn
  have HF:Hid (pR t=none):=by rw[HB.out,aH (aK hN)];rfl
  obtain rfl:HD=⟨#[]⟩:=iJ.1 hN;clear hnn hN
  go_enter Tryz.func270,Tryz.ntmps270
  go_wp2_with fail
  refine(HW1.out _).mono ?_;rintro e w1 ⟨rfl,rfl⟩
  go_wp2_with fail
  refine(Dy.out _).mono ?_;rintro e w2 ⟨rfl,k2,rfl⟩
  go_wp2_with fail
  refine(HW2.out _).mono ?_;rintro e w3 ⟨rfl,rfl⟩
  go_wp2_with fail
  refine jX dD ?_;change wpAny _ _ _ _ _ _ _ (World.drew _);refine uA 0 (.pointer (some ⟨rb,0,none⟩)) rfl<|uA 1 (.string ⟨#[]⟩) rfl<|uA 2 (.bool false) rfl<|uA 3 (.bool false) rfl<|sA 4 rfl<|sA 5 rfl<|uA 6 (.bool false) rfl ?_
  refine rA 7 rfl fun K hK=>?_
  go_simp;refine hK _ _ ?_;clear hK K
  refine rA 8 rfl fun K hK=>?_
  go_simp;refine(uT.out k2).mono ?_;rintro e w8 ⟨hst,mH⟩;obtain⟨b,rfl,s0,s1⟩:=hst;exact⟨rfl,(by rw[HF.out];exact⟨b,rfl,s0,s1⟩),mH⟩
 rw[bM hN] at hnn
 cases hbg:gq U 61 with
 |false=>
  have HF:Hid (pR t=none):=by rw[HB.out,aH (aP hbg)];rfl
  rw[hbg] at RG;clear hbg HBG
  go_enter Tryz.func270,Tryz.ntmps270
  go_wp2_with fail
  refine(HW1.out _).mono ?_;rintro e w1 ⟨rfl,rfl⟩
  go_wp2_with fail
  refine(Dy.out _).mono ?_;rintro e w2 ⟨rfl,k2,rfl⟩
  go_wp2_with fail
  refine(HW2.out _).mono ?_;rintro e w3 ⟨rfl,rfl⟩
  go_wp2_with fail
  go_region_with (first|(go_at_call 193;refine(RG.out _).mono ?_;rintro e w8 ⟨rfl,rfl⟩)|(go_at_call 112;refine(uT.out k2).mono ?_;rintro e w8 ⟨hst,mH⟩;obtain⟨b,rfl,s0,s1⟩:=hst;refine uo ⟨rfl,(by rw[HF.out];exact⟨b,rfl,s0,s1⟩),mH⟩ w1 ?_))
  all_goals trivial
 |true=>
  have HF:Hid (pR t=some (HD,bI (U.extract 1 U.size))):=by rw[HB.out,aA (by rw[hbg];simp[hN])];rfl
  have hu1:1<=U.size:=by have h:=HBG.out;rw[hbg] at h;have:=fI h.symm;omega
  have hsl:∀wx,(Instr.slice 9 (.string U) (some (.int .i64 1)) none none).run Tryz.prog wx=.ok (.string (U.extract 1 U.size)) wx:=fun wx=>nQ U 1 hu1 wx
  have HW3:Hid (∀wx,Calls Tryz.prog 191 #[.string (U.extract 1 U.size)] wx fun e w'=>e=.returned (.string (bI (U.extract 1 U.size)))/\w'=wx):=fun wx=>gM _ wx
  have afB:Hid (∀wx,Calls Tryz.prog 112 #[.pointer (some ⟨rb,0,none⟩),.bool true,.iface 472 (.pointer (some (a 4)))] wx fun e w'=>e=.returned (.tuple #[])/\w'=wx):=fun wx=>gL _ _ _
  rw[hbg] at RG;generalize bI (U.extract 1 U.size)=R at*;generalize U.extract 1 U.size=V at*;clear hbg HBG
  go_enter Tryz.func270,Tryz.ntmps270
  go_wp2_with fail
  refine(HW1.out _).mono ?_;rintro e w1 ⟨rfl,rfl⟩
  go_wp2_with fail
  refine(Dy.out _).mono ?_;rintro e w2 ⟨rfl,k2,rfl⟩
  go_wp2_with fail
  refine(HW2.out _).mono ?_;rintro e w3 ⟨rfl,rfl⟩
  go_wp2_with fail
  go_region_with (first|(go_at_call 193;refine(RG.out _).mono ?_;rintro e w8 ⟨rfl,rfl⟩)|(go_at_call 112;refine(afB.out _).mono ?_;rintro e w8 ⟨rfl,rfl⟩))
  all_goals
   go_wp2_with fail
   refine(HW3.out _).mono ?_;rintro e w9 ⟨rfl,rfl⟩
   go_wp2_with fail
   go_ret2;exact⟨by rw[HF.out];rfl,(di (ay _ _) k2).drew⟩
end
def Bw(N:List (List Nat))(o:List Nat):DJ->Option Nat->Prop
 |[],_=>True
 | (p,l)::k,c=>(∃d,N.getD p []=d++(c.toList++l)/\∀n∈d,n∈o)/\Bw N o k (some p)
theorem Bw.more{o':List Nat}(ho:∀n∈o,n∈o'):∀{k:DJ} {c:Option Nat},Bw N o k c->Bw N o' k c
 |[],_,_=>trivial
 | (p,l)::k,c,h=>⟨by obtain⟨d,h1,h2⟩:=h.1;exact⟨d,h1,fun n hn=>ho n (h2 n hn)⟩,Bw.more ho h.2⟩
structure xS(N:List (List Nat))(G:Nat->Prop)(k:DJ)(s o:List Nat):Prop where
 fits:rq N k s
 two:∀p,s.getD p 0=2↔p∈o
 one:∀p,s.getD p 0=1↔p∈k.map (·.1)
 nd:o.Nodup
 ahead:∀i p,o[i]?=some p->∀n∈N.getD p [],n∈o.take i
 chain:Bw N o k none
 want:∀p,p∈o\/p∈k.map (·.1)->G p\/∃q,(q∈o\/q∈k.map (·.1))/\p∈N.getD q []
theorem xH(h:rq N k s)(hp:p<N.length):(s.set p v).getD i 0=if i=p then v else s.getD i 0:=SH (by rw[h.len];exact hp)
theorem Vw(h:∀i p,o[i]?=some p->∀n∈N.getD p [],n∈o.take i)(hp:∀n∈N.getD p [],n∈o):∀i q,(o++[p])[i]?=some q->∀n∈N.getD q [],n∈(o++[p]).take i:=by
 intro i q hq n hn
 rcases bX i o.length with c|c
 ·rw[bW c] at hq;rw[acE (iR c)];exact h i q hq n hn
 rw[dz c] at hq
 have hi:i=o.length:=by
  have:=(aN.1 hq).1
  simp at this
  omega
 subst hi;rw[qm] at hq
 obtain rfl:p=q:=by simpa using hq
 rw[List.take_left];exact hp n hn
variable {G:Nat->Prop}
theorem xS.pop(h:xS N G ((p,[])::k) s o)(hk:p∉k.map (·.1)):xS N G k (s.set p 2) (o++[p]):=by
 have hp:=(h.fits.stk (p,[]) (aQ ..)).1;have h1:s.getD p 0=1:=(h.one p).2 eB
 have hpo:p∉o:=fun q=>by have:=(h.two p).2 q;omega
 obtain⟨⟨d,hd,hdo⟩,hch⟩:=h.chain
 have hN:∀n∈N.getD p [],n∈o:=fun n hn=>hdo n (by rw[hd] at hn;simpa using hn)
 refine⟨h.fits.pop.set hp bS,fun q=>?_,fun q=>?_,?_,Vw h.ahead hN,?_,fun q hq=>?_⟩
 ·rw[xH h.fits hp]
  by_cases e:q=p
  ·subst e;simp
  rw[aA e,h.two q];simp[e]
 ·rw[xH h.fits hp]
  by_cases e:q=p
  ·subst e;simp only[if_true];exact⟨fun e=>absurd e bS,fun q=>absurd q hk⟩
  rw[aA e,h.one q];simp[e]
 ·exact nk.2 ⟨h.nd,eB,fun x hx y hy e=>by obtain rfl:=bD.1 hy;subst e;exact hpo hx⟩
 ·have hmo:∀n∈o,n∈o++[p]:=fun n hn=>fD _ hn
  match k,hch with
  |[],_=>trivial
  | (q,l)::k',hch=>
   obtain⟨⟨d',hd',alr⟩,hch'⟩:=hch;refine⟨⟨d'++[p],by rw[hd'];simp,fun n hn=>?_⟩,Bw.more hmo hch'⟩
   rcases bQ.1 hn with hn|hn
   ·exact hmo n (alr n hn)
   exact lV _ hn
 have hor:∀q,(q∈o++[p]\/q∈k.map (·.1))↔(q∈o\/q∈((p,([]:List Nat))::k).map (·.1)):=fun q=>by
  rw[bQ,bD,mJ,bg];exact⟨fun h=>h.elim (fun h=>h.elim aK (fun h=>aP (aK h))) (fun h=>aP (aP h)),fun h=>h.elim (fun h=>aK (aK h)) (fun h=>h.elim (fun h=>aK (aP h)) aP)⟩
 rcases h.want q ((hor q).1 hq) with g|⟨r,hr,hq2⟩
 ·exact aK g
 exact aP ⟨r,(hor r).2 hr,hq2⟩
theorem xS.skip(h:xS N G ((p,n::l)::k) s o)(h2:s.getD n 0=2):xS N G ((p,l)::k) s o:=by
 obtain⟨⟨d,hd,hdo⟩,hch⟩:=h.chain;refine⟨h.fits.skip,h.two,h.one,h.nd,h.ahead,⟨⟨d++[n],by rw[hd];simp,fun m hm=>?_⟩,hch⟩,h.want⟩
 rcases bQ.1 hm with hm|hm
 ·exact hdo m hm
 obtain rfl:=bD.1 hm;exact(h.two m).1 h2
theorem xS.push(h:xS N G ((p,n::l)::k) s o)(h0:s.getD n 0=0):xS N G ((n,N.getD n [])::(p,l)::k) (s.set n 1) o:=by
 have hn:=(h.fits.stk (p,n::l) (aQ ..)).2 n (aQ ..);obtain⟨⟨d,hd,hdo⟩,hch⟩:=h.chain
 have hno:n∉o:=fun q=>by have:=(h.two n).2 q;omega
 have hnk:n∉((p,n::l)::k).map (·.1):=fun q=>by have:=(h.one n).2 q;omega
 refine⟨(h.fits.skip.push hn).set hn bS,fun q=>?_,fun q=>?_,h.nd,h.ahead,⟨⟨[],eB,fun m hm=>by cases hm⟩,⟨d,by rw[hd];simp,hdo⟩,hch⟩,fun q hq=>?_⟩
 ·rw[xH h.fits hn]
  by_cases e:q=n
  ·subst e;simp[hno]
  rw[aA e,h.two q]
 ·rw[xH h.fits hn]
  by_cases e:q=n
  ·subst e;simp
  rw[aA e,h.one q];simp[e]
 have hor:∀q,q∈o\/q∈((p,n::l)::k).map (·.1)->q∈o\/q∈((n,N.getD n [])::(p,l)::k).map (·.1):=fun q h=>by simp at h⊢;rcases h with h|h|h<;>simp[h]
 by_cases e:q=n
 ·subst e;exact aP ⟨p,aP eB,by rw[hd];simp⟩
 have hq':q∈o\/q∈((p,n::l)::k).map (·.1):=by simp at hq⊢;rcases hq with h|h|h|h<;>simp_all
 rcases h.want q hq' with g|⟨r,hr,hq2⟩
 ·exact aK g
 exact aP ⟨r,hor r hr,hq2⟩
theorem yP(N:List (List Nat))(G:Nat->Prop):∀(f:Nat) (k:DJ) (s o:List Nat),xS N G k s o->(k.map (·.1)).Nodup->kT N k s<f->(∀p∈o,p∈(oD N f k s o).2.2)/\((oD N f k s o).1=true->xS N G [] (oD N f k s o).2.1 (oD N f k s o).2.2/\∀p∈k.map (·.1),p∈(oD N f k s o).2.2)
 |0,_,_,_,_,_,h=>absurd h (BA _)
 |_+1,[],s,o,hi,_,_=>⟨fun p hp=>hp,fun _=>⟨hi,fun p hp=>by cases hp⟩⟩
 |f+1,(p,[])::k,s,o,hi,hk,hf=>by
  have hw:=Aa N p k s;have hk':=nC.1 hk;have ih:=yP N G f k (s.set p 2) (o++[p]) (hi.pop hk'.1) hk'.2 aJ;refine⟨fun q hq=>ih.1 q (fD _ hq),fun ht=>⟨(ih.2 ht).1,fun q hq=>?_⟩⟩
  rcases bg.1 hq with e|hq
  ·exact ih.1 q (lV _ (by rw[e];simp))
  exact(ih.2 ht).2 q hq
 |f+1,(p,n::l)::k,s,o,hi,hk,hf=>by
  have hn:=(hi.fits.stk (p,n::l) (aQ ..)).2 n (aQ ..);have hun:oD N (f+1) ((p,n::l)::k) s o=if s.getD n 0=1 then (false,s,o) else if s.getD n 0=2 then oD N f ((p,l)::k) s o else oD N f ((n,N.getD n [])::(p,l)::k) (s.set n 1) o:=rfl;rw[hun]
  by_cases a:s.getD n 0=1
  ·rw[aH a];exact⟨fun q hq=>hq,fun ht=>by cases ht⟩
  rw[aA a]
  by_cases b:s.getD n 0=2
  ·rw[aH b];have hw:=xO N p n l k s;exact yP N G f _ s o (hi.skip b) hk aJ
  rw[aA b]
  have h0:s.getD n 0=0:=by have:=hi.fits.three n;omega
  have hw:=xM N p n l k s (by rw[hi.fits.len];exact hn) h0
  have hnk:n∉((p,n::l)::k).map (·.1):=fun q=>by have:=(hi.one n).2 q;omega
  have ih:=yP N G f _ (s.set n 1) o (hi.push h0) (nC.2 ⟨hnk,hk⟩) aJ;exact⟨ih.1,fun ht=>⟨(ih.2 ht).1,fun q hq=>(ih.2 ht).2 q (aZ _ hq)⟩⟩
theorem xS.start(h:xS N G [] s o)(hp:p<N.length)(h2:s.getD p 0≠2)(hG:G p):xS N G [(p,N.getD p [])] (s.set p 1) o:=by
 have h0:s.getD p 0=0:=by
  have h1:s.getD p 0≠1:=fun e=>by have:=(h.one p).1 e;simp at this
  have:=h.fits.three p;omega
 have hpo:p∉o:=fun q=>h2 ((h.two p).2 q)
 refine⟨(h.fits.push hp).set hp bS,fun q=>?_,fun q=>?_,h.nd,h.ahead,⟨⟨[],eB,fun m hm=>by cases hm⟩,trivial⟩,fun q hq=>?_⟩
 ·rw[xH h.fits hp]
  by_cases e:q=p
  ·subst e;simp[hpo]
  rw[aA e,h.two q]
 ·rw[xH h.fits hp]
  by_cases e:q=p
  ·subst e;simp
  rw[aA e,h.one q];simp[e]
 rcases hq with hq|hq
 ·rcases h.want q (aK hq) with g|⟨r,hr,hq2⟩
  ·exact aK g
  rcases hr with hr|hr
  ·exact aP ⟨r,aK hr,hq2⟩
  simp at hr
 have e:q=p:=by simpa using hq
 rw[e];exact aK hG
theorem Iy(h:xS N G [] s o)(hp:p<N.length)(hG:G p):(∀q∈o,q∈(gy N p s o).2.2)/\((gy N p s o).1=true->xS N G [] (gy N p s o).2.1 (gy N p s o).2.2/\p∈(gy N p s o).2.2):=by
 unfold gy
 by_cases h2:s.getD p 0=2
 ·rw[aH h2];exact⟨fun q hq=>hq,fun _=>⟨h,(h.two p).1 h2⟩⟩
 rw[aA h2];have hk:=yP N G _ _ _ o (h.start hp h2 hG) eB (jc (kT N [(p,N.getD p [])] (s.set p 1)));exact⟨hk.1,fun ht=>⟨(hk.2 ht).1,(hk.2 ht).2 p eB⟩⟩
def JH(N:List (List Nat))(r:Nat->Nat):Prop:=∀p,∀n∈N.getD p [],r n<r p
variable {r:Nat->Nat}
theorem Bw.less(hr:JH N r):∀{k:DJ} {c:Nat},Bw N o k (some c)->∀q∈k.map (·.1),r c<r q
 |[],_,_,q,hq=>by cases hq
 | (p,l)::k,c,h,q,hq=>by
  obtain⟨⟨d,hd,_⟩,hch⟩:=h;have h1:r c<r p:=hr p c (by rw[hd];simp)
  rcases bg.1 hq with e|hq
  ·rw[e];exact h1
  exact Nat.lt_trans h1 (Bw.less hr hch q hq)
theorem AZ(N:List (List Nat))(G:Nat->Prop)(hr:JH N r):∀(f:Nat) (k:DJ) (s o:List Nat),xS N G k s o->(k.map (·.1)).Nodup->kT N k s<f->(oD N f k s o).1=true
 |0,_,_,_,_,_,h=>absurd h (BA _)
 |_+1,[],s,o,_,_,_=>rfl
 |f+1,(p,[])::k,s,o,hi,hk,hf=>by
  have hw:=Aa N p k s;have hk':=nC.1 hk;exact AZ N G hr f k (s.set p 2) (o++[p]) (hi.pop hk'.1) hk'.2 aJ
 |f+1,(p,n::l)::k,s,o,hi,hk,hf=>by
  have hn:=(hi.fits.stk (p,n::l) (aQ ..)).2 n (aQ ..);have hun:oD N (f+1) ((p,n::l)::k) s o=if s.getD n 0=1 then (false,s,o) else if s.getD n 0=2 then oD N f ((p,l)::k) s o else oD N f ((n,N.getD n [])::(p,l)::k) (s.set n 1) o:=rfl;rw[hun]
  have a:¬s.getD n 0=1:=fun a=>by
   have hm:=(hi.one n).1 a;obtain⟨⟨d,hd,_⟩,hch⟩:=hi.chain;have h1:r n<r p:=hr p n (by rw[hd];simp)
   rcases bg.1 hm with e|hm
   ·have e:n=p:=e;rw[e] at h1;exact FW _ h1
   have:=Bw.less hr hch n hm;omega
  rw[aA a]
  by_cases b:s.getD n 0=2
  ·rw[aH b];have hw:=xO N p n l k s;exact AZ N G hr f _ s o (hi.skip b) hk aJ
  rw[aA b]
  have h0:s.getD n 0=0:=by have:=hi.fits.three n;omega
  have hw:=xM N p n l k s (by rw[hi.fits.len];exact hn) h0
  have hnk:n∉((p,n::l)::k).map (·.1):=fun q=>by have:=(hi.one n).2 q;omega
  exact AZ N G hr f _ (s.set n 1) o (hi.push h0) (nC.2 ⟨hnk,hk⟩) aJ
theorem Xv(hr:JH N r)(h:xS N G [] s o)(hp:p<N.length)(hG:G p):(gy N p s o).1=true:=by
 unfold gy
 by_cases h2:s.getD p 0=2
 ·rw[aH h2]
 rw[aA h2];exact AZ N G hr _ _ _ o (h.start hp h2 hG) eB (jc _)
theorem Ml(G:Nat->Prop)(hN:∀i,∀n∈N.getD i [],n<N.length):xS N G [] (jT N.length) []:=by
 have hz:∀p,(jT N.length).getD p 0=0:=fun p=>by
  unfold jT;rw[dx,IJ]
  split<;>rfl
 refine⟨⟨by simp[jT],fun i=>by rw[hz];decide,fun x hx=>(by cases hx),hN⟩,fun p=>?_,fun p=>?_,DC,fun i p h=>by simp at h,trivial,fun p hp=>?_⟩
 ·rw[hz];simp
 ·rw[hz];simp
 simp at hp
theorem Uu:∀(ps s o:List Nat),xS N (fun _=>True) [] s o->(∀p∈ps,p<N.length)->zU N ps s o=true->∃s' o',xS N (fun _=>True) [] s' o'/\(∀p∈ps,p∈o')/\∀p∈o,p∈o'
 |[],s,o,h,_,_=>⟨s,o,h,fun p hp=>(by cases hp),fun p hp=>hp⟩
 |p::ps,s,o,h,hp,hr=>by
  have hpl:=hp p (aQ ..);have hv:=Iy h hpl trivial;unfold zU at hr
  split at hr
  ·rename_i ht
   obtain⟨s',o',h1,h2,h3⟩:=Uu ps _ _ (hv.2 ht).1 (fun q hq=>hp q (aZ _ hq)) hr;refine⟨s',o',h1,fun q hq=>?_,fun q hq=>h3 q (hv.1 q hq)⟩
   rcases bg.1 hq with rfl|hq
   ·exact h3 q (hv.2 ht).2
   exact h2 q hq
  cases hr
theorem Ta:∀(l:List Nat) (j n:Nat),l[j]?=some n->l.idxOf n<=j
 |[],j,n,h=>by simp at h
 |x::l,0,n,h=>by
  have e:x=n:=by simpa using h
  subst e
  simp
 |x::l,j+1,n,h=>by
  have:=Ta l j n (by simpa using h);rw[List.idxOf_cons]
  by_cases e:(x==n)=true
  ·rw[e];simp
  rw[yX.2 e];simp only[cond_false];omega
theorem Ls(hN:∀i,∀n∈N.getD i [],n<N.length)(h:zU N (List.range N.length) (jT N.length) []=true):∃r,JH N r:=by
 obtain⟨s',o',h1,h2,_⟩:=Uu _ _ _ (Ml _ hN) (fun p hp=>kW.1 hp) h;refine⟨fun p=>o'.idxOf p,fun p n hn=>?_⟩
 have hp:p<N.length:=by
  rcases bX p N.length with c|c
  ·exact c
  rw[dx,gU c] at hn;cases hn
 have hpo:=h2 p (kW.2 hp);have hi:o'.idxOf p<o'.length:=List.idxOf_lt_length_of_mem hpo
 have hat:o'[o'.idxOf p]?=some p:=by
  rw[fe hi,List.getElem_idxOf hi]
 have hm:=h1.ahead _ p hat n hn;obtain⟨j,hj,he⟩:=List.mem_take_iff_getElem.1 hm
 have hjl:j<o'.idxOf p:=aJ
 have hle:o'.idxOf n<=j:=Ta o' j n (by rw[fe aJ,he]);show o'.idxOf n<o'.idxOf p;omega
theorem Iz(hr:JH N r){mk:ah->Option Nat}:∀(xs:List ah) (s o o':List Nat),xS N G [] s o->(∀x∈xs,∀p,mk x=some p->p<N.length/\G p)->wT N mk xs s o=some o'->∃s',xS N G [] s' o'/\(∀x∈xs,∃p,mk x=some p/\p∈o')/\∀p∈o,p∈o'
 |[],s,o,o',h,_,hw=>by
  injection hw with hw;subst hw;exact⟨s,h,fun x hx=>(by cases hx),fun p hp=>hp⟩
 |x::xs,s,o,o',h,hx,hw=>by
  unfold wT at hw
  split at hw
  ·cases hw
  rename_i p hmk
  obtain⟨hpl,hG⟩:=hx x (aQ ..) p hmk;have hv:=Iy h hpl hG;have hv2:=hv.2 (Xv hr h hpl hG);obtain⟨s',h1,h2,h3⟩:=Iz hr xs _ _ o' hv2.1 (fun y hy=>hx y (aZ _ hy)) hw;refine⟨s',h1,fun y hy=>?_,fun q hq=>h3 q (hv.1 q hq)⟩
  rcases bg.1 hy with rfl|hy
  ·exact⟨p,hmk,h3 p hv2.2⟩
  exact h2 y hy
end Go.Proofs.YthhbpebihgjpjaaGreatDoor
