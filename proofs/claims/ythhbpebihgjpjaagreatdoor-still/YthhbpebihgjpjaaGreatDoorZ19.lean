import Derived.Test.YthhbpebihgjpjaaGreatDoorZ11
import Derived.Test.YthhbpebihgjpjaaGreatDoorZ13
import Derived.Test.YthhbpebihgjpjaaGreatDoorZ18
namespace Go.Proofs.YthhbpebihgjpjaaGreatDoor
set_option maxRecDepth 1000000
set_option maxHeartbeats 20000000
set_option linter.all false
section
open Go.RowKit
structure fB where
 r:bY
 L:kD
 un:List ah
 ran:List ah
 cl:List ah
 fa:List ah
 bl:List ah
def dM(r:bY)(x:ah):Option ah:=if iW r.seen x=-1 then none else some (fZ r.seen x)
theorem Gt(r:bY)(x:ah):uK r x=((dM r x).getD ⟨#[]⟩,if (dM r x).isSome=true then 0 else 2):=by
 unfold uK dM
 by_cases h:iW r.seen x=-1
 ·rw[aH h,aH h];rfl
 rw[aA h,aA h];rfl
def fU(e:dA):List ah:=e.ins++e.impl
def jI(r:bY)(l:List ah):Bool:=l.all fun x=>(dM r x).isSome
def iB(r:bY)(l:List ah)(x:ah):Option ah:=if fo x l=true then dM r x else none
def oz(f:ah->Option ah)(l:List ah)(t:ah):ah:=l.foldl (fun t x=>t++x++⟨#[0]⟩++gW ((f x).getD ⟨#[]⟩)) t
def DY(f:ah->Option ah)(e:dA)(cm:ah):ah:=gW (oz f (fU e) (cm++⟨#[0]⟩))
def qN(r:bY)(L:kD)(sig:ah)(x:ah):Bool:=match L.last x with
 |none=>false
 |some rc=>decide (rc.sig=sig)&&match dM r x with
   |none=>false
   |some d=>decide (rc.sum=gW d)
def wQ(r:bY)(L:kD)(outs:List ah)(sig:ah):Bool:=outs.all (qN r L sig)
def nW(outs:List ah)(sig sum:ah):List gG:=outs.map fun x=>⟨x,sig,sum⟩
def qO:bY->List ah->ah->Int×bY
 |r,[],_=>(0,r)
 |r,x::l,d=>if (eP r x d).1=0 then qO (eP r x d).2 l d else eP r x d
def vW(r:bY)(L:kD)(outs:List ah)(made sig:ah):Int×bY×kD:=
 let q1:=qO r outs made
 if q1.1≠0 then (q1.1,q1.2,L) else
 let q2:=iX q1.2
 if q2.1≠0 then (q2.1,q2.2,L) else
 let q3:=kQ q2.2 jO (gm (nW outs sig (gW made)))
 if q3.1≠0 then (q3.1,q3.2,L) else
 ((iX q3.2).1,(iX q3.2).2,(nW outs sig (gW made)).foldl jd L)
def dZ(J:fB)(e:dA)(cm:ah):(Nat×Int)×fB:=
 if (eO e).any (fun x=>fo x J.un)=true then ((3,0),J) else
 if (jI J.r (fU e)&&jI J.r e.ord)=false then ((2,0),J) else
 let f:=iB J.r (fU e)
 let sig:=DY f e cm
 if wQ J.r J.L e.outs sig=true then ((1,0),J) else
 match iY (qc f (nT cm)) with
 |none=>((2,0),J)
 |some made=>let k:=vW J.r J.L e.outs made sig
   ((0,k.1),{J with r:=k.2.1,L:=k.2.2})
def lH(J:fB)(e:dA):Nat->fB
 |0=>{J with ran:=J.ran++[e.outs.headD ⟨#[]⟩]}
 |1=>{J with cl:=J.cl++[e.outs.headD ⟨#[]⟩]}
 |2=>{J with fa:=J.fa++[e.outs.headD ⟨#[]⟩],un:=J.un++e.outs}
 |_=>{J with bl:=J.bl++[e.outs.headD ⟨#[]⟩],un:=J.un++e.outs}
def qC(J:fB):Int×fB:=
 let q1:=eP J.r gH (jv++gm (kr J.L))
 if q1.1≠0 then (q1.1,{J with r:=q1.2}) else
 let q2:=iX q1.2
 if q2.1≠0 then (q2.1,{J with r:=q2.2}) else
 let q3:=kR q2.2 gH jO
 if q3.1≠0 then (q3.1,{J with r:=q3.2}) else
 ((iX q3.2).1,{J with r:=(iX q3.2).2,L:=qQ (kr J.L)})
def oO(J:fB):Int×fB:=
 let q:=iC ((dM J.r jO).getD ⟨#[]⟩)
 let J':={J with L:=qQ q.1}
 if q.2=true then (0,J') else qC J'
def ko:fB->List (dA×ah)->Int×fB
 |J,[]=>(0,J)
 |J,x::l=>if (dZ J x.1 x.2).1.2=0 then ko (lH (dZ J x.1 x.2).2 x.1 (dZ J x.1 x.2).1.1) l else ((dZ J x.1 x.2).1.2,(dZ J x.1 x.2).2)
def qM(J:fB)(l:List (dA×ah)):Int×fB:=
 if (oO J).1=0 then
  if (ko (oO J).2 l).1=0 then
   if yG (ko (oO J).2 l).2.L=true then qC (ko (oO J).2 l).2 else ko (oO J).2 l
  else ko (oO J).2 l
 else oO J
end
structure Up(r:bY):Prop where
 down:r.down=false
 lit:r.lit=false
variable {r:bY}
theorem Up.may(h:Up r):nL r=r:=by
 unfold nL;rw[h.lit];rfl
theorem Up.do(h:Up r)(o:lG):Vh r o=(0,{r with seen:=fC r.seen o,wait:=r.wait++[o]}):=by
 unfold Vh;rw[h.may,aA (by rw[h.down];exact fu)]
theorem Up.sync(h:Up r):iX r=(0,{r with safe:=r.seen,wait:=[]}):=by
 unfold iX;rw[h.may,aA (by rw[h.down];exact fu)]
variable {x d:ah}
theorem Up.write(h:Up r)(hx:eU x=true):eP r x d=if OA r ((d.size:Int)-((fZ r.seen x).size:Int))=true then (3,r) else (0,{r with seen:=fC r.seen ⟨1,x,d⟩,wait:=r.wait++[⟨1,x,d⟩]}):=by
 unfold eP;rw[aA (by rw[hx];exact Bool.noConfusion),h.do]
theorem Up.append(h:Up r)(hx:eU x=true):kQ r x d=if OA r (d.size:Int)=true then (3,r) else (0,{r with seen:=fC r.seen ⟨2,x,d⟩,wait:=r.wait++[⟨2,x,d⟩]}):=by
 unfold kQ;rw[aA (by rw[hx];exact Bool.noConfusion),h.do]
theorem Up.rename(h:Up r){y:ah}(hx:eU x=true)(hy:eU y=true):kR r x y=if iW r.seen x=-1 then (2,r) else (0,{r with seen:=fC r.seen ⟨3,x,y⟩,wait:=r.wait++[⟨3,x,y⟩]}):=by
 unfold kR;rw[aA (by rw[hx,hy];exact fun e=>e.elim Bool.noConfusion Bool.noConfusion),h.do]
theorem mo(r:bY)(x:ah):dM r x=fV r.seen x:=by
 unfold dM;have h1:=Li r.seen x
 by_cases h:iW r.seen x=-1
 ·rw[aH h];rw[bM (fun q=>q h)] at h1;exact(Option.isNone_iff_eq_none.1 (by rw[Option.isNone_iff_eq_none];exact Option.not_isSome_iff_eq_none.1 (by rw[<-h1];exact fu))).symm
 rw[aA h,oK];rw[bT h] at h1;obtain⟨d,hd⟩:=fQ.1 h1.symm;rw[hd];rfl
theorem Ti(r:bY)(x d y:ah)(w:List lG):dM {r with seen:=fC r.seen ⟨1,x,d⟩,wait:=w} y=if y=x then some d else dM r y:=by
 rw[mo,mo];show fV (fC r.seen ⟨1,x,d⟩) y=_;rw[show fC r.seen ⟨1,x,d⟩=xB r.seen x d from aH rfl,zN]
theorem Qr(r:bY)(x d y:ah)(w:List lG):dM {r with seen:=fC r.seen ⟨2,x,d⟩,wait:=w} y=if y=x then some ((dM r x).getD ⟨#[]⟩++d) else dM r y:=by
 rw[mo,mo,mo];show fV (fC r.seen ⟨2,x,d⟩) y=_;rw[show fC r.seen ⟨2,x,d⟩=xB r.seen x (fZ r.seen x++d) by unfold fC;rw[aA (show¬(2:Nat)=1 by decide),aH rfl],zN,oK]
theorem Qs(r:bY)(x z y:ah)(w:List lG):dM {r with seen:=fC r.seen ⟨3,x,z⟩,wait:=w} y=if y=z then some ((dM r x).getD ⟨#[]⟩) else if y=x then none else dM r y:=by
 rw[mo,mo,mo];show fV (fC r.seen ⟨3,x,z⟩) y=_
 have e:fC r.seen ⟨3,x,z⟩=xB (iO r.seen x) z (fZ r.seen x):=by
  unfold fC;rw[aA (show¬(3:Nat)=1 by decide),aA (show¬(3:Nat)=2 by decide),aH rfl]
 rw[e,zN,zo,oK]
end Go.Proofs.YthhbpebihgjpjaaGreatDoor
