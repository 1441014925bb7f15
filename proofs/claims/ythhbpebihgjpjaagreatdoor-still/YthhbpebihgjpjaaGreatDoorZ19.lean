import Derived.Test.YthhbpebihgjpjaaGreatDoorZ11
import Derived.Test.YthhbpebihgjpjaaGreatDoorZ13
import Derived.Test.YthhbpebihgjpjaaGreatDoorZ18
namespace Go.Proofs.YthhbpebihgjpjaaGreatDoor
set_option maxRecDepth 1000000
set_option maxHeartbeats 20000000
set_option linter.all false
section
open Go.RowKit
structure eZ where
 r:bS
 L:ku
 un:List ah
 ran:List ah
 cl:List ah
 fa:List ah
 bl:List ah
def dG(r:bS)(x:ah):Option ah:=if iQ r.seen x=-1 then none else some (fO r.seen x)
theorem Gs(r:bS)(x:ah):uH r x=((dG r x).getD ⟨#[]⟩,if (dG r x).isSome=true then 0 else 2):=by
 unfold uH dG
 by_cases h:iQ r.seen x=-1
 ·rw[aD h,aD h];rfl
 rw[ax h,ax h];rfl
def fK(e:dm):List ah:=e.ins++e.impl
def jE(r:bS)(l:List ah):Bool:=l.all fun x=>(dG r x).isSome
def ic(r:bS)(l:List ah)(x:ah):Option ah:=if eT x l=true then dG r x else none
def ow(f:ah->Option ah)(l:List ah)(t:ah):ah:=l.foldl (fun t x=>t++x++⟨#[0]⟩++gM ((f x).getD ⟨#[]⟩)) t
def DW(f:ah->Option ah)(e:dm)(cm:ah):ah:=gM (ow f (fK e) (cm++⟨#[0]⟩))
def qJ(r:bS)(L:ku)(sig:ah)(x:ah):Bool:=match L.last x with
 |none=>false
 |some rc=>decide (rc.sig=sig)&&match dG r x with
   |none=>false
   |some d=>decide (rc.sum=gM d)
def wN(r:bS)(L:ku)(outs:List ah)(sig:ah):Bool:=outs.all (qJ r L sig)
def nQ(outs:List ah)(sig sum:ah):List gm:=outs.map fun x=>⟨x,sig,sum⟩
def qK:bS->List ah->ah->Int×bS
 |r,[],_=>(0,r)
 |r,x::l,d=>if (eu r x d).1=0 then qK (eu r x d).2 l d else eu r x d
def vT(r:bS)(L:ku)(outs:List ah)(made sig:ah):Int×bS×ku:=
 let q1:=qK r outs made
 if q1.1≠0 then (q1.1,q1.2,L) else
 let q2:=iR q1.2
 if q2.1≠0 then (q2.1,q2.2,L) else
 let q3:=kM q2.2 jJ (fP (nQ outs sig (gM made)))
 if q3.1≠0 then (q3.1,q3.2,L) else
 ((iR q3.2).1,(iR q3.2).2,(nQ outs sig (gM made)).foldl iY L)
def dS(J:eZ)(e:dm)(cm:ah):(Nat×Int)×eZ:=
 if (dZ e).any (fun x=>eT x J.un)=true then ((3,0),J) else
 if (jE J.r (fK e)&&jE J.r e.ord)=false then ((2,0),J) else
 let f:=ic J.r (fK e)
 let sig:=DW f e cm
 if wN J.r J.L e.outs sig=true then ((1,0),J) else
 match iU (pX f (nP cm)) with
 |none=>((2,0),J)
 |some made=>let k:=vT J.r J.L e.outs made sig
   ((0,k.1),{J with r:=k.2.1,L:=k.2.2})
def lC(J:eZ)(e:dm):Nat->eZ
 |0=>{J with ran:=J.ran++[e.outs.headD ⟨#[]⟩]}
 |1=>{J with cl:=J.cl++[e.outs.headD ⟨#[]⟩]}
 |2=>{J with fa:=J.fa++[e.outs.headD ⟨#[]⟩],un:=J.un++e.outs}
 |_=>{J with bl:=J.bl++[e.outs.headD ⟨#[]⟩],un:=J.un++e.outs}
def qz(J:eZ):Int×eZ:=
 let q1:=eu J.r fV (jm++fP (jZ J.L))
 if q1.1≠0 then (q1.1,{J with r:=q1.2}) else
 let q2:=iR q1.2
 if q2.1≠0 then (q2.1,{J with r:=q2.2}) else
 let q3:=jW q2.2 fV jJ
 if q3.1≠0 then (q3.1,{J with r:=q3.2}) else
 ((iR q3.2).1,{J with r:=(iR q3.2).2,L:=qM (jZ J.L)})
def oN(J:eZ):Int×eZ:=
 let q:=iq ((dG J.r jJ).getD ⟨#[]⟩)
 let J':={J with L:=qM q.1}
 if q.2=true then (0,J') else qz J'
def jY:eZ->List (dm×ah)->Int×eZ
 |J,[]=>(0,J)
 |J,x::l=>if (dS J x.1 x.2).1.2=0 then jY (lC (dS J x.1 x.2).2 x.1 (dS J x.1 x.2).1.1) l else ((dS J x.1 x.2).1.2,(dS J x.1 x.2).2)
def qI(J:eZ)(l:List (dm×ah)):Int×eZ:=
 if (oN J).1=0 then
  if (jY (oN J).2 l).1=0 then
   if yE (jY (oN J).2 l).2.L=true then qz (jY (oN J).2 l).2 else jY (oN J).2 l
  else jY (oN J).2 l
 else oN J
end
structure Up(r:bS):Prop where
 down:r.down=false
 lit:r.lit=false
variable {r:bS}
theorem Up.may(h:Up r):nJ r=r:=by
 unfold nJ;rw[h.lit];rfl
theorem Up.do(h:Up r)(o:lu):Vf r o=(0,{r with seen:=fe r.seen o,wait:=r.wait++[o]}):=by
 unfold Vf;rw[h.may,ax (by rw[h.down];exact eX)]
theorem Up.sync(h:Up r):iR r=(0,{r with safe:=r.seen,wait:=[]}):=by
 unfold iR;rw[h.may,ax (by rw[h.down];exact eX)]
variable {x d:ah}
theorem Up.write(h:Up r)(hx:eD x=true):eu r x d=if Oy r ((d.size:Int)-((fO r.seen x).size:Int))=true then (3,r) else (0,{r with seen:=fe r.seen ⟨1,x,d⟩,wait:=r.wait++[⟨1,x,d⟩]}):=by
 unfold eu;rw[ax (by rw[hx];exact Bool.noConfusion),h.do]
theorem Up.append(h:Up r)(hx:eD x=true):kM r x d=if Oy r (d.size:Int)=true then (3,r) else (0,{r with seen:=fe r.seen ⟨2,x,d⟩,wait:=r.wait++[⟨2,x,d⟩]}):=by
 unfold kM;rw[ax (by rw[hx];exact Bool.noConfusion),h.do]
theorem Up.rename(h:Up r){y:ah}(hx:eD x=true)(hy:eD y=true):jW r x y=if iQ r.seen x=-1 then (2,r) else (0,{r with seen:=fe r.seen ⟨3,x,y⟩,wait:=r.wait++[⟨3,x,y⟩]}):=by
 unfold jW;rw[ax (by rw[hx,hy];exact fun e=>e.elim Bool.noConfusion Bool.noConfusion),h.do]
theorem lY(r:bS)(x:ah):dG r x=fM r.seen x:=by
 unfold dG;have h1:=Li r.seen x
 by_cases h:iQ r.seen x=-1
 ·rw[aD h];rw[bH (fun q=>q h)] at h1;exact(Option.isNone_iff_eq_none.1 (by rw[Option.isNone_iff_eq_none];exact Option.not_isSome_iff_eq_none.1 (by rw[<-h1];exact eX))).symm
 rw[ax h,oJ];rw[bN h] at h1;obtain⟨d,hd⟩:=fI.1 h1.symm;rw[hd];rfl
theorem Te(r:bS)(x d y:ah)(w:List lu):dG {r with seen:=fe r.seen ⟨1,x,d⟩,wait:=w} y=if y=x then some d else dG r y:=by
 rw[lY,lY];show fM (fe r.seen ⟨1,x,d⟩) y=_;rw[show fe r.seen ⟨1,x,d⟩=xq r.seen x d from aD rfl,zL]
theorem Qp(r:bS)(x d y:ah)(w:List lu):dG {r with seen:=fe r.seen ⟨2,x,d⟩,wait:=w} y=if y=x then some ((dG r x).getD ⟨#[]⟩++d) else dG r y:=by
 rw[lY,lY,lY];show fM (fe r.seen ⟨2,x,d⟩) y=_;rw[show fe r.seen ⟨2,x,d⟩=xq r.seen x (fO r.seen x++d) by unfold fe;rw[ax (show¬(2:Nat)=1 by decide),aD rfl],zL,oJ]
theorem Qq(r:bS)(x z y:ah)(w:List lu):dG {r with seen:=fe r.seen ⟨3,x,z⟩,wait:=w} y=if y=z then some ((dG r x).getD ⟨#[]⟩) else if y=x then none else dG r y:=by
 rw[lY,lY,lY];show fM (fe r.seen ⟨3,x,z⟩) y=_
 have e:fe r.seen ⟨3,x,z⟩=xq (iJ r.seen x) z (fO r.seen x):=by
  unfold fe;rw[ax (show¬(3:Nat)=1 by decide),ax (show¬(3:Nat)=2 by decide),aD rfl]
 rw[e,zL,zl,oJ]
