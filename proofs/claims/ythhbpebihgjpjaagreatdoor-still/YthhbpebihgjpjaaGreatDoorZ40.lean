import Derived.Test.YthhbpebihgjpjaaGreatDoorZ39
namespace Go.Proofs.YthhbpebihgjpjaaGreatDoor
set_option maxRecDepth 1000000
set_option maxHeartbeats 20000000
set_option linter.all false
section
open Go.RowKit Go.Maps
variable {r:gG}
theorem Oz(h:lU r):(bJ r).drop 1=Lib.strCells r.sig++Lib.strCells r.sum/\(∀j u,(Lib.strCells r.sig)[j]?=some u->(bJ r)[1+j]?=some u)/\∀j u,(Lib.strCells r.sum)[j]?=some u->(bJ r)[33+j]?=some u:=by
 refine⟨rfl,fun j u hu=>?_,fun j u hu=>?_⟩
 ·rw[Yz];show(Lib.strCells r.sig++Lib.strCells r.sum)[j]?=some u;rw[bW (aN.1 hu).1];exact hu
 rw[show 33+j=(32+j)+1 by omega];show(Lib.strCells r.sig++Lib.strCells r.sum)[32+j]?=some u;rw[dz (by rw[Lib.strCells_length,h.sig];omega),Lib.strCells_length,h.sig,Nat.add_sub_cancel_left];exact hu
variable {P:Program}{ops:Array Oper}{rest:List Oper}{op:Oper}{w:ak}{Q:Exit->Act->ak->Prop}
theorem yS{a:Act}(hw:Region.wanted op (yielded ops a.tmps)=true)(ty:TypeId)(x:Operand)(ho:op.op=.load ty x)
  (b o:Nat) (hx:a.eval x=.pointer (some ⟨b,o,none⟩)) (cs:List Value) (d:TypeDesc) (hc:w.rangeAt b o cs) (hu:P.underlying ty=some d) (hd:d.isRow=true) (hi:(P.info? ty).map (·.size)=some cs.length)
  (h:wpList P ops Q rest (a.put op.dst (.agg cs.toArray)) w):wpList P ops Q (op::rest) a w:=by
 unfold wpList;rw[aH hw];exact aK (wp_load_mid ty x ho b o hx cs d hc hu hd hi h)
structure tJ(A:Nat->Nat)(a:Nat->Addr)(t:Nat->ah)(left fb jb lb:Nat)(J:fB)(w:ak)(SG:Array Value)(A':Nat->Nat)(wr:ak):Prop where
 site:iG A' a t left fb jb lb J wr
 hA:∀k,k<w.heap.size->A' k=A k
 turns:aW (JF A) w wr
 box:wr.heap[w.heap.size]?=some (.cells SG 217 (0,0))
 zero:A' w.heap.size=0
variable {A A':Nat->Nat}{a:Nat->Addr}{t:Nat->ah}{left fb jb lb:Nat}{J:fB}{SG:Array Value}{wr w':ak}
theorem tJ.below(h:tJ A a t left fb jb lb J w SG A' wr)(hb:Below wr.heap.size wr w'):tJ A a t left fb jb lb J w SG A' w':=
 ⟨h.site.below hb,h.hA,h.turns.trans (aW.of_below (JF A) hb) (fun _ hk=>aK hk),(hb.block _ (bN h.box)).trans h.box,h.zero⟩
variable {A2:Nat->Nat}
theorem tJ.after(h:tJ A a t left fb jb lb J w SG A' wr)(h1:iG A2 a t left fb jb lb J w')(h2:∀k,k<wr.heap.size->A2 k=A' k)(h3:aW (JF A') wr w'):tJ A a t left fb jb lb J w SG A2 w':=
 ⟨h1,fun k hk=>(h2 k (aB hk h.turns.size)).trans (h.hA k hk),ji h.hA h.turns h3,(h3.block _ (bN h.box) (fun q=>by have:=h.zero;unfold JF at q;omega)).trans h.box,(h2 _ (bN h.box)).trans h.zero⟩
variable {v:Value}{outs:List ah}{sig:ah}
theorem Td(h:iG A a t left fb jb lb J w)(ht:uf A w v outs)(hl:outs.length<=100000)(hx:∀x∈outs,x.size<=32)(hsg:sig.size=32):
  Calls Tryz.prog 167 #[.pointer (some ⟨jb,0,none⟩),v,.agg (Lib.strCells sig).toArray] w fun e w'=>e=.returned (.bool (wQ J.r J.L outs sig))/\dL A a t left fb jb lb J w w':=by
 have HT:=bB ht;have HS:=bB h;have HX:=aV (aO hx hsg)
 have HI:Hid ((Tryz.prog.info? 217).map (·.size)=some 32):=by unfold Hid;kernel_rfl
 have HI2:Hid ((Tryz.prog.info? 372).map (·.size)=some 65):=by unfold Hid;kernel_rfl
 have HZ:Hid (Tryz.zeroCells372.size=65/\Tryz.zeroCells372.all (·.oneCell')=true):=⟨dD,dD⟩;obtain⟨⟨ao,cap,rfl,_,_⟩,_⟩:=ht;generalize hL:outs.length=L at*;have HL:=bB hL
 have l0:(L:Int)<=100000:=aJ
 have Mt:Hid ((Lib.strCells sig).toArray.size=32/\(Lib.strCells sig).toArray.toList=Lib.strCells sig/\(Lib.strCells sig).toArray.all (·.oneCell')=true):=⟨by rw[bZ,Lib.strCells_length,hsg],rfl,eH (fun u hu=>by obtain⟨y,_,rfl⟩:=fP.1 hu;rfl)⟩;have HB0:Hid (Below w.heap.size w (w.alloc (.cells (Lib.strCells sig).toArray 217))/\(w.alloc (.cells (Lib.strCells sig).toArray 217)).heap[w.heap.size]?=some (.cells (Lib.strCells sig).toArray 217 (0,0))):=⟨(ay _ _).alloc (ai _) _,bq _ _ _ rfl⟩;have hss:=Mt.out.1;generalize hSG:(Lib.strCells sig).toArray=SG at*;have HSG:=bB hSG;clear h hx hL hSG hsg
 go_enter Tryz.func167,Tryz.ntmps167
 go_wp2_with fail
 generalize w.alloc (.cells SG 217)=w1 at*
 go_loopw [15] (fun i wr=>∃(j:Nat) (A':Nat->Nat),i=.int .i64 j/\j<=L/\(outs.take j).all (qN J.r J.L sig)=true/\tJ A a t left fb jb lb J w SG A' wr) (fun i _=>L-(intOf i).toNat)
 case atStart=>exact⟨0,A,rfl,aS _,rfl,HS.out.below HB0.out.1,fun _ _=>rfl,aW.of_below _ HB0.out.1,HB0.out.2,HS.out.above _ (ai _)⟩
 case round=>
  clear HB0;obtain⟨j,A',rfl,hj,hcl,hmid⟩:=hrel;have HM:=aV (aO hcl hmid)
  have j0:(0:Int)<=(j:Int):=aJ
  by_cases hlt:j<L
  ·have j1:(j:Int)<(L:Int):=aJ
   obtain⟨x,hx⟩:∃x,outs[j]?=some x:=⟨outs[j]'(by have:=HL.out;omega),eB⟩;obtain⟨Bo,cap',e5,_,h6⟩:=HT.out.turns hmid.turns;injection e5 with f1 f2 f3
   rcases h6 with ⟨_,q,_⟩|⟨b,o,q,hct⟩
   ·exfalso;rw[q] at hx;simp at hx
   rw[q] at f1;subst f1;have cx:=hct j x hx;have hxs:=HX.out.1 x (aU hx);obtain⟨ub,m,v1,v2,v3,v4,eD⟩:=hmid.site.job;obtain⟨mb,vn,n,hbk,hcb,_⟩:=hmid.site.book
   have c1:wr.cell? ⟨jb,1,none⟩=some (.pointer (some ⟨lb,0,none⟩)):=by rw[aj _ _ _ _ _ _ eD.row];rfl
   have c2:wr.cell? ⟨lb,2,none⟩=some (.map (some mb)):=by rw[aj _ _ _ _ _ _ hbk.row];rfl
   have hlk:=hbk.last.look_ok (t:=268) Tryz.underlying268 yV x (by unfold maxLen;omega);rw[Fe] at hlk;have Bu:Hid (outs.take (j+1)=outs.take j++[x]/\x∈outs/\x.size<=32):=⟨by rw[dU,hx];rfl,aU hx,hxs⟩
   have uT:Hid (qN J.r J.L sig x=false->wQ J.r J.L outs sig=false):=fun h=>Yy.2 ⟨x,aU hx,by rw[h];exact fu⟩
   have HCO:Hid (qN J.r J.L sig x=match J.L.last x with|none=>false|some rc=>decide (rc.sig=sig)&&match dM J.r x with|none=>false|some d=>decide (rc.sum=gW d)):=rfl;have HPR:=bB hcl
   have Bt:Hid (∀rc,J.L.last x=some rc->lU rc):=fun rc hrc=>hbk.recs x rc hrc
   have hvC:(yI J.L x).getD (.agg Tryz.zeroCells372)=match J.L.last x with|none=>.agg Tryz.zeroCells372|some rc=>.agg (bJ rc).toArray:=by unfold yI;cases J.L.last x<;>rfl
   rw[hvC] at hlk;clear hvC eD hbk hcb hct hx hcl hmid f2 f3 hxs
   cases hlast:J.L.last x with
   |none=>
    rw[hlast] at hlk;have HF:Hid (wQ J.r J.L outs sig=false):=uT.out (by rw[HCO.out,hlast]);clear hlast HCO uT
    go_wp2_with (first
     | (generalize hZZ:Tryz.zeroCells372=Z at*;refine cK rfl 372 (.tmp 9) (.tmp 29) rfl wr.heap.size 0 Z rfl rfl (bR (bq _ _ _ rfl) 0 _ (by rw[HZ.out.1];decide)) (by rw[HZ.out.1];exact HI2.out) HZ.out.2 ?_;refine dO ?_)
     |fail)
    have HB3:Hid (Below wr.heap.size wr ((wr.alloc (.cells Z 372)).setCells wr.heap.size 0 Z.toList)):=jo _ _ ((ay _ _).alloc (ai _) _) (ai _);generalize (wr.alloc (.cells Z 372)).setCells wr.heap.size 0 Z.toList=w3 at*;unfold Hid
    go_wp2_with fail
    go_ret;exact⟨by rw[HF.out];rfl,dL.trans HM.out.2.hA HM.out.2.turns (dL.refl HM.out.2.site HB3.out)⟩
   |some rc=>
    have HOK:=aV (Bt.out rc hlast)
    have HCQ:Hid (qN J.r J.L sig x=(decide (rc.sig=sig)&&match dM J.r x with|none=>false|some d=>decide (rc.sum=gW d))):=by show _=_;rw[HCO.out,hlast]
    rw[hlast] at hlk;simp only[gu] at hlk;have HC:Hid ((bJ rc).toArray.size=65/\(bJ rc).toArray.all (·.oneCell')=true/\(bJ rc).toArray.toList=bJ rc):=⟨by rw[bZ];exact iV HOK.out,eH (lS rc),rfl⟩;clear hlast HCO Bt;generalize (bJ rc).toArray=C at*
    go_wp2_with (first
     | (generalize hZZ:Tryz.zeroCells372=Z at*;refine cK rfl 372 (.tmp 9) (.tmp 29) rfl wr.heap.size 0 C rfl rfl (bR (bq _ _ _ rfl) 0 _ (by rw[HC.out.1,HZ.out.1];decide)) (by rw[HC.out.1];exact HI2.out) HC.out.2.1 ?_;refine dO ?_)
     |fail)
    have HW3:Hid (Below wr.heap.size wr ((wr.alloc (.cells Z 372)).setCells wr.heap.size 0 C.toList)/\((wr.alloc (.cells Z 372)).setCells wr.heap.size 0 C.toList).rangeAt wr.heap.size 0 (bJ rc)):=⟨jo _ _ ((ay _ _).alloc (ai _) _) (ai _),by
     rw[<-HC.out.2.2]
     exact eF _ _ _ _ (bR (bq _ _ _ rfl) 0 _ (by rw[aX,HC.out.1,HZ.out.1];decide))⟩
    generalize (wr.alloc (.cells Z 372)).setCells wr.heap.size 0 C.toList=w3 at*;have HM3:Hid (tJ A a t left fb jb lb J w SG A' w3/\w3.rangeAt wr.heap.size 0 (bJ rc)/\A' wr.heap.size=0):=⟨HM.out.2.below HW3.out.1,HW3.out.2,HM.out.2.site.above _ (ai _)⟩;generalize wr.heap.size=eb at*;clear hlk c1 c2 cx HW3 hZZ
    have afs:Hid (w3.rangeAt eb 1 (Lib.strCells rc.sig)/\w3.rangeAt w.heap.size 0 SG.toList):=⟨fun i u hu=>by
     have h:=HM3.out.2.1 (1+i) u ((Oz HOK.out).2.1 i u hu);rw[dh] at h
     exact h,fun i u hu=>by rw[aj _ _ _ _ _ _ HM3.out.1.box,dh,<-cZ];exact hu⟩
    have HL1:Hid ((Tryz.prog.info? 217).map (·.size)=some (Lib.strCells rc.sig).length/\(Tryz.prog.info? 217).map (·.size)=some SG.toList.length):=⟨by rw[Lib.strCells_length,HOK.out.sig];exact HI.out,by rw[aX,Mt.out.1];exact HI.out⟩
    have hneq:∀wx,(Op.equalIn 10000 217 (.agg (Lib.strCells rc.sig).toArray) (.agg SG)).run Tryz.prog wx=.ok (decide (rc.sig=sig)) wx:=fun wx=>by rw[<-HSG.out];exact XR _ _ HOK.out.sig HX.out.2 wx
    unfold Hid
    go_wp2_with (first
     | (refine yS dD 217 (.tmp 34) rfl eb 1 rfl (Lib.strCells rc.sig) _ afs.out.1 Tryz.underlying217 rfl HL1.out.1 ?_;refine dO ?_)
     |fail)
    unfold Hid
    go_wp2_with (first
     | (refine yS dD 217 (.tmp 5) rfl w.heap.size 0 rfl SG.toList _ afs.out.2 Tryz.underlying217 rfl HL1.out.2 ?_;refine dO ?_)
     |fail)
    rw[dw];generalize decide (rc.sig=sig)=dq at*;clear afs HL1
    rcases dq with _|_
    ·have HF:Hid (wQ J.r J.L outs sig=false):=uT.out (by rw[HCQ.out];rfl);unfold Hid
     go_wp2_with fail
     go_ret;exact⟨by rw[HF.out];rfl,A',HM3.out.1.site,HM3.out.1.hA,HM3.out.1.turns⟩
    obtain⟨ub,m,v1,v2,v3,v4,eD⟩:=HM3.out.1.site.job
    have c0:w3.cell? ⟨jb,0,none⟩=some (.pointer (some ⟨fb,0,none⟩)):=by rw[aj _ _ _ _ _ _ eD.row];rfl
    have CQ:=bB (Gs HM3.out.1.site x (by have:=Bu.out.2.2;omega));have HDZ:=aV (HM3.out.1.site.size x);clear eD;unfold Hid
    go_wp2_with fail
    refine CQ.out.mono ?_;rintro e3 w4 ⟨ve,rfl,hve,A4,hs4,hA4,ht4⟩
    have ru:Hid (tJ A a t left fb jb lb J w SG A4 w4/\w4.rangeAt eb 33 (Lib.strCells rc.sum)):=by
     refine⟨HM3.out.1.after hs4 hA4 ht4,fun i u hu=>?_⟩;have h:=HM3.out.2.1 (33+i) u ((Oz HOK.out).2.2 i u hu);rw[dh] at h;exact(aF (w:=w3) (a:=⟨eb,33+i,none⟩) (ht4.block eb (aG h) (fun q=>by have:=HM3.out.2.2;unfold JF at q;omega))).trans h
    clear hs4 hA4 ht4 c0 CQ HM3 hneq HM
    rcases hve with ⟨hso,rfl⟩|⟨hno,rfl⟩
    ·obtain⟨d,hd⟩:=fQ.1 hso;have hdz:=HDZ.out;rw[hd] at hdz⊢;have hdz:d.size<=65536:=hdz
     have HCS:Hid (qN J.r J.L sig x=decide (rc.sum=gW d)):=by show _=_;rw[HCQ.out,hd];rfl
     simp only[dm];clear hd hso HCQ HDZ
     go_wp2_with fail
     refine dJ (S:=fun w'=>Below w4.heap.size w4 w') dD ?_;change wpAnyH _ _ _ _ _ _ _ _ (World.drew _);have gX:Hid (Below w4.heap.size w4 w4.drew):=(ay _ _).drew;refine uC 0 .nilIface rfl gX.out<|uC 1 (.bool false) rfl gX.out<|uC 2 (.bool false) rfl gX.out<|uC 3 (.pointer (some ⟨eb,33,none⟩)) rfl gX.out ?_;refine kJ (i:=4) rfl dD dD dD (fun _ _ _ h=>h) (acO dD 217 (.tmp 51) rfl eb 33 rfl (Lib.strCells rc.sum) _ (fun w' h i u hu=>(h.cell (p:=⟨eb,33+i,none⟩) (aG (ru.out.2 i u hu))).trans (ru.out.2 i u hu)) Tryz.underlying217 rfl (by rw[Lib.strCells_length,HOK.out.sum];exact HI.out)) gX.out ?_;refine uC 5 (.string d) rfl gX.out ?_
     refine rH 6 rfl fun K hK=>?_
     go_simp;refine(CG d aJ _ (ru.out.1.site.rounds.later (fun k hk=>gX.out.block k hk))).mono ?_;rintro e6 w6 ⟨rfl,hb6⟩;have FP:=aV (gX.out.trans (hb6.mono gX.out.size));refine hK.out _ _ FP.out (fun _=>?_);clear hK K gX hb6;have gX:=FP
     have hneq:∀wx,(Op.equalIn 10000 217 (.agg (Lib.strCells rc.sum).toArray) (.agg (Lib.strCells (gW d)).toArray)).run Tryz.prog wx=.ok (decide (rc.sum=gW d)) wx:=fun wx=>XR _ _ HOK.out.sum (kS d) wx
     generalize (Lib.strCells rc.sum).toArray=X1 at*;generalize (Lib.strCells (gW d)).toArray=X2 at*;generalize decide (rc.sum=gW d)=dq at*;refine uC 7 (.bool (!dq)) rfl gX.out<|uC 8 (.bool (!dq)) rfl gX.out ?_;refine eX dD ?_ _;have HM6:=bB (ru.out.1.below FP.out);clear gX FP hneq ru
     rcases dq with _|_
     ·have HF:=aV (uT.out HCS.out)
      go_wp2_with fail
      go_ret;exact⟨by rw[HF.out];rfl,A4,HM6.out.site,HM6.out.hA,HM6.out.turns⟩
     have HTH:Hid ((outs.take (j+1)).all (qN J.r J.L sig)=true):=by
      show _=true;rw[Bu.out.1,Mv,HPR.out,Be,HCS.out];rfl
     go_wp2_with fail
     exact⟨⟨j+1,A4,oW,aJ,HTH.out,HM6.out⟩,by simp[intOf];omega⟩
    have HF:Hid (wQ J.r J.L outs sig=false):=uT.out (by rw[HCQ.out,hno];rfl);clear hno;generalize (dM J.r x).getD ⟨#[]⟩=d at*;unfold jW
    go_wp2_with fail
    refine dJ (S:=fun w'=>Below w4.heap.size w4 w') dD ?_;change wpAnyH _ _ _ _ _ _ _ _ (World.drew _);have gX:Hid (Below w4.heap.size w4 w4.drew):=(ay _ _).drew;refine uC 0 (.iface 472 (.pointer (some (a 1)))) rfl gX.out<|uC 1 (.bool true) rfl gX.out<|uC 2 (.bool true) rfl gX.out<|sH 3 rfl gX.out<|sH 4 rfl gX.out<|sH 5 rfl gX.out<|sH 6 rfl gX.out<|sH 7 rfl gX.out ?_
    refine rH 8 rfl fun K hK=>?_
    go_simp;refine hK.out _ _ gX.out (fun _=>?_);clear hK K;refine eX dD ?_ _;have HM6:=bB (ru.out.1.below gX.out);clear gX ru;generalize w4.drew=w6 at*;generalize a 1=a1 at*
    go_wp2_with fail
    go_ret;exact⟨by rw[HF.out];rfl,A4,HM6.out.site,HM6.out.hA,HM6.out.turns⟩
  obtain rfl:j=L:=aJ
  have HF:Hid (wQ J.r J.L outs sig=true):=by have h1:=HM.out.1;rw[bK (dG HL.out)] at h1;exact h1
  clear hcl hmid
  go_wp2_with fail
  go_ret;exact⟨by rw[HF.out];rfl,A',HM.out.2.site,HM.out.2.hA,HM.out.2.turns⟩
structure mW(A:Nat->Nat)(a:Nat->Addr)(t:Nat->ah)(left fb jb lb:Nat)(J:fB)(w:ak)(SG SM:Array Value)(b9:Nat)(l:List gG)(v:Value)(A':Nat->Nat)(wr:ak):Prop where
 site:iG A' a t left fb jb lb J wr
 hA:∀k,k<w.heap.size->A' k=A k
 turns:aW (JF A) w wr
 box:wr.heap[w.heap.size]?=some (.cells SG 217 (0,0))
 sum:wr.heap[b9]?=some (.cells SM 217 (0,0))
 zero:A' w.heap.size=0/\A' b9=0
 row:wr.ownsRow w.heap.size 372 65 v l.length (l.flatMap bJ)
 nine:∀k,v.ownBlock=some k->A' k=9
variable {left' b9:Nat}{SM:Array Value}{l:List gG}
theorem mW.less(h:mW A a t left fb jb lb J w SG SM b9 l v A' wr)(hl:left'<=left):mW A a t left' fb jb lb J w SG SM b9 l v A' wr:={h with site:=h.site.less hl}
theorem mW.below(h:mW A a t left fb jb lb J w SG SM b9 l v A' wr)(hb:Below wr.heap.size wr w'):mW A a t left fb jb lb J w SG SM b9 l v A' w':=
 ⟨h.site.below hb,h.hA,h.turns.trans (aW.of_below (JF A) hb) (fun _ hk=>aK hk),(hb.block _ (bN h.box)).trans h.box,(hb.block _ (bN h.sum)).trans h.sum,h.zero,dR h.row (fun k hk=>hb.block k (bF h.row k hk).2),h.nine⟩
variable {J':fB}
theorem mW.after(h:mW A a t left fb jb lb J w SG SM b9 l v A' wr)(he:dL A' a t left' fb jb lb J' wr w'):∃A2,mW A a t left' fb jb lb J' w SG SM b9 l v A2 w':=by
 obtain⟨A2,h1,h2,h3⟩:=he
 have hz:∀k,k<wr.heap.size->(A' k=0\/A' k=9)->w'.heap[k]?=wr.heap[k]?:=fun k hk h0=>h3.block k hk (fun q=>by unfold JF at q;omega)
 exact⟨A2,h1,fun k hk=>(h2 k (aB hk h.turns.size)).trans (h.hA k hk),ji h.hA h.turns h3,(hz _ (bN h.box) (aK h.zero.1)).trans h.box,(hz _ (bN h.sum) (aK h.zero.2)).trans h.sum,⟨(h2 _ (bN h.box)).trans h.zero.1,(h2 _ (bN h.sum)).trans h.zero.2⟩,dR h.row (fun k hk=>hz k (bF h.row k hk).2 (aP (h.nine k hk))),fun k hk=>(h2 k (bF h.row k hk).2).trans (h.nine k hk)⟩
variable {g cap:Nat}
theorem mW.more(h:mW A a t left fb jb lb J w SG SM b9 l v A' wr)(hg:wr.grownBy w' v.ownBlock)(hat:v.ownBlock=some g\/g=wr.heap.size)(hgl:g<w'.heap.size)(hr:w'.ownsRow w.heap.size 372 65 (.slice (some ⟨g,0,none⟩) (l.length+1) cap) (l.length+1) (l.flatMap bJ++bJ r)):∃A2,mW A a t left fb jb lb J w SG SM b9 (l++[r]) (.slice (some ⟨g,0,none⟩) (l.length+1) cap) A2 w':=by
 have hkp:∀k,k<wr.heap.size->A' k≠9->w'.heap[k]?=wr.heap[k]?:=fun k hk hn=>hg.block k hk (fun e=>hn (h.nine k e.symm))
 have hA2:∀k,k<wr.heap.size->(if k=g then 9 else A' k)=A' k:=fun k hk=>by
  by_cases q:k=g
  ·rw[aH q]
   rcases hat with e|e
   ·exact(h.nine k (by rw[q];exact e)).symm
   omega
  exact aA q
 refine⟨fun k=>if k=g then 9 else A' k,h.site.keep hg.size hA2 (fun k hk h8=>hkp k hk aJ) (fun k hk=>(aA aJ).trans (h.site.above k (aC hg.size hk))),fun k hk=>(hA2 k (aB hk h.turns.size)).trans (h.hA k hk),h.turns.trans (aW.TN hg) (fun k hk=>aP (bF h.row k hk).1),(hkp _ (bN h.box) (by rw[h.zero.1];decide)).trans h.box,(hkp _ (bN h.sum) (by rw[h.zero.2];decide)).trans h.sum,⟨(hA2 _ (bN h.box)).trans h.zero.1,(hA2 _ (bN h.sum)).trans h.zero.2⟩,?_,fun k hk=>aH (ax hk).symm⟩;rw[aI,lC,List.flatMap_singleton];exact hr
theorem abf(a b c:Array Value)(x:Value)(ha:a.size=32)(hb:b.size=32)(hc:c.size=65)(h0:c[0]?=some x):Array.foldl (fun cs (y:Value×Nat)=>cs.setIfInBounds (33+y.2) y.1) (Array.foldl (fun cs (y:Value×Nat)=>cs.setIfInBounds (1+y.2) y.1) c a.zipIdx 0 32) b.zipIdx 0 32=(x::(a.toList++b.toList)).toArray:=by
 have e:=Cs 1 a c aJ
 have hz:a.zipIdx.size=32:=by rw[FK];exact ha
 have hz2:b.zipIdx.size=32:=by rw[FK];exact hb
 rw[hz] at e;rw[e]
 have e1:c.toList.take 1=[x]:=by
  rw[List.take_one,List.head?_eq_getElem?,cZ,h0];rfl
 rw[e1,ha]
 have hal:a.toList.length=32:=by rw[aX];exact ha
 have hcl:c.toList.length=65:=by rw[aX];exact hc
 have hxa:([x]++a.toList).length=33:=by rw[aI,hal];rfl
 have hl:([x]++a.toList++c.toList.drop (1+32)).length=65:=by
  rw[aI,hxa,vS,hcl]
 have hsz:([x]++a.toList++c.toList.drop (1+32)).toArray.size=65:=hl;have f:=Cs 33 b ([x]++a.toList++c.toList.drop (1+32)).toArray (by rw[hsz,hb];exact ai _);rw[hz2] at f;refine f.trans ?_;show((([x]++a.toList++c.toList.drop (1+32)).take 33++b.toList)++([x]++a.toList++c.toList.drop (1+32)).drop (33+b.size)).toArray=_;rw[acE (by rw[hxa];exact ai _),bK (by rw[hxa];exact ai _),kV (by rw[hl,hb];exact ai _),fM,eZ];rfl
theorem GV{a:Act}(hgd:op.guard=none)(ty:TypeId)(parts:Array (Nat×Operand))(ho:op.op=.build ty parts)(vs:Array (Nat×Value))(hvs:(parts.map fun (i,x)=>(i,a.eval x))=vs)(v:Value)
  (hrun:(Instr.build ty vs).run P w=.ok v w) (h:wpList P ops Q rest (a.put op.dst v) w):wpList P ops Q (op::rest) a w:=
 wpList_plain hgd fun K hK=>by
  subst hvs;unfold Oper.wp execOp;simp only[ho,NK,Sem.run_pure,hrun,Result.andThen_ok];exact hK _ _ h
theorem Km(f:Array Value->Value×Nat->Array Value)(hf:∀c y,(f c y).size=c.size):∀(l:List (Value×Nat)) (c:Array Value),(l.foldl f c).size=c.size
 |[],_=>rfl
 |x::l,c=>by rw[jA,Km f hf l,hf]
theorem Nr(w:ak)(x:ah)(SG SM:Array Value)(h1:SG.size=32)(h2:SM.size=32):(Instr.build 372 #[(0,.string x),(1,.agg SG),(2,.agg SM)]).run Tryz.prog w=.ok (.agg (Value.string x::(SG.toList++SM.toList)).toArray) w:=by
 have hz:=yV
 have hzs:Tryz.zeroCells372.size=65:=dD
 have e2:∀c:Array Value,(Array.foldl (fun cs (y:Value×Nat)=>cs.setIfInBounds (1+y.2) y.1) c SG.zipIdx 0 32).size=c.size:=fun c=>by
  have hzz:SG.zipIdx.size=32:=by rw[FK];exact h1
  have:=Km (fun cs (y:Value×Nat)=>cs.setIfInBounds (1+y.2) y.1) (fun c y=>FN) SG.zipIdx.toList c;rw[Array.foldl_toList,hzz] at this;exact this
 unfold Instr.build;generalize Tryz.zeroCells372=Z at*
 have hf:∀w,(Go.sizeOf 9).run Tryz.prog w=.ok 1 w:=fun w=>dD
 have hf2:∀w,(Go.sizeOf 217).run Tryz.prog w=.ok 32 w:=fun w=>dD
 simp[go_sem,hz,hf,hf2,Instr.fill,hzs,h1,h2,e2]
 rw[abf SG SM _ (.string x) h1 h2]
 ·rw[aA (fun e=>by rw[e] at hzs;exact absurd hzs bS)];rfl
 ·simp[hzs]
 rw[Bv,aH rfl,aH aJ]
theorem Wn(l:List ah)(x sig sum:ah):nW (l++[x]) sig sum=nW l sig sum++[⟨x,sig,sum⟩]:=by unfold nW;rw[iI];rfl
theorem Tj{l:List ah}{sum:ah}(hx:∀x∈l,x.size<=32)(h1:sig.size=32)(h2:sum.size=32):∀r∈nW l sig sum,lU r:=fun r hr=>by
 obtain⟨x,hx',rfl⟩:=fP.1 hr;exact⟨hx x hx',h1,h2⟩
theorem Hu:∀(l:List gG) (L:kD),(l.foldl jd L).count=L.count+l.length
 |[],_=>rfl
 |r::l,L=>by
  rw[jA,Hu l];show L.count+1+l.length=L.count+(l.length+1);omega
variable {mb n:Nat}{vn:Value}
theorem iG.ai0{Ny:Value}(h:iG A a t (left+l.length) fb jb lb J w)(hc:∀k,oJ lb mb vn k->A k=3)(hn:n+(left+l.length)<=1000000000000)(hk:J.L.count+(left+l.length)<=1000000000000)(hb':jK w' lb mb Ny (n+l.length) (l.foldl jd J.L))(hg:∀k,Ny.ownBlock=some k->vn.ownBlock=some k\/w.heap.size<=k)(hm:lF (oJ lb mb vn) w w'):dL A a t left fb jb lb {J with L:=l.foldl jd J.L} w w':=by
 have hA2:∀k,k<w.heap.size->(if Ny.ownBlock=some k then 3 else A k)=A k:=fun k hk=>by
  by_cases q:Ny.ownBlock=some k
  ·rw[aH q]
   rcases hg k q with e|e
   ·exact(hc k (aP (aP e))).symm
   omega
  exact aA q
 have ha:∀k,w'.heap.size<=k->(if Ny.ownBlock=some k then 3 else A k)=0:=fun k hk=>by
  rw[aA (fun q=>by have:=(bF hb'.names k q).2;omega)];exact h.above k (aC hm.size hk)
 have hkp:∀k,k<w.heap.size->A k≠3->w'.heap[k]?=w.heap[k]?:=fun k hk h3=>hm.block k hk (fun q=>h3 (hc k q))
 obtain⟨ub,m,v1,v2,v3,v4,hj⟩:=h.job;refine⟨fun k=>if Ny.ownBlock=some k then 3 else A k,⟨h.env.keep hm.size hA2 (fun k hk h0=>hkp k hk aJ),h.rounds.keep (fun k hk=>hkp k (aB hk h.env.glob) (by rw[h.env.zero k hk];decide)),(h.files.less aJ).keep hA2 (fun k hk q=>hkp k hk aJ),⟨ub,m,v1,v2,v3,v4,(((hj.less aJ).keep hA2 (fun k hk q=>hkp k hk aJ)).with J.r _)⟩,⟨mb,Ny,_,hb',fun k q=>?_,aJ,by show(l.foldl jd J.L).count+left<=_;rw[Hu];omega⟩,ha⟩,hA2,⟨hm.os,hm.output,hm.size,fun k hk hF=>hkp k hk (fun e=>hF ⟨by rw[e];decide,by rw[e];decide⟩)⟩⟩
 by_cases e:Ny.ownBlock=some k
 ·exact aH e
 rw[aA e]
 rcases q with q|q|q
 ·exact hc k (aK q)
 ·exact hc k (aP (aK q))
 exact absurd q e
theorem abJ{made:ah}(h:iG A a t (left+(2*outs.length+3)) fb jb lb J w)(ht:uf A w v outs)(hl:outs.length<=100000)(hx:∀x∈outs,x.size<=32)(hsg:sig.size=32)(hmd:made.size<=1048576):
  Calls Tryz.prog 169 #[.pointer (some ⟨jb,0,none⟩),v,.string made,.agg (Lib.strCells sig).toArray] w (aaD A a t left fb jb lb J (vW J.r J.L outs made sig) w):=by
 have HT:=bB ht;have HS:=bB h;have HX:=aV (aO hx (aO hsg hmd))
 have HI:Hid ((Tryz.prog.info? 217).map (·.size)=some 32):=by unfold Hid;kernel_rfl
 have hinf:(Tryz.prog.info? 372).map (fun i=>(i.size,i.bytes,i.zero))=some (65,80,some (.agg Tryz.zeroCells372)):=dD
 obtain⟨ti,hti,htj⟩:=bA.1 hinf;simp only[Prod.mk.injEq] at htj
 have hzs:(Value.agg Tryz.zeroCells372).cells.size=65:=dD
 have HTI:=aV (aO hti (aO htj.1 (aO htj.2.1 (aO htj.2.2 hzs))));obtain⟨⟨ao,cap,rfl,_,_⟩,_⟩:=ht;generalize hL:outs.length=L at*;have HL:=bB hL
 have l0:(L:Int)<=100000:=aJ
 have Mt:Hid ((Lib.strCells sig).toArray.size=32/\(Lib.strCells sig).toArray.toList=Lib.strCells sig):=⟨by rw[bZ,Lib.strCells_length,hsg],rfl⟩;have HB0:Hid (Below w.heap.size w (w.alloc (.cells (Lib.strCells sig).toArray 217))/\(w.alloc (.cells (Lib.strCells sig).toArray 217)).heap[w.heap.size]?=some (.cells (Lib.strCells sig).toArray 217 (0,0))):=⟨(ay _ _).alloc (ai _) _,bq _ _ _ rfl⟩;have hss:=Mt.out.1;generalize hSG:(Lib.strCells sig).toArray=SG at*;clear h hx hL hSG hsg hmd hinf hti htj hzs
 go_enter Tryz.func169,Tryz.ntmps169
 go_wp2_with fail
 generalize w.alloc (.cells SG 217)=w1 at*;refine(CG made (by have:=HX.out.2.2;omega) w1 (HS.out.rounds.later (fun k hk=>HB0.out.1.block k hk))).mono ?_;rintro e w2 ⟨rfl,hb2⟩;have HB2:Hid (Below w.heap.size w w2/\w2.heap[w.heap.size]?=some (.cells SG 217 (0,0))):=⟨HB0.out.1.trans (hb2.mono HB0.out.1.size),(hb2.block _ (bN HB0.out.2)).trans HB0.out.2⟩;have HMC:Hid ((Lib.strCells (gW made)).toArray.size=32/\(Lib.strCells (gW made)).toArray.toList=Lib.strCells (gW made)/\(Lib.strCells (gW made)).toArray.all (·.oneCell')=true):=⟨by rw[bZ,Lib.strCells_length,kS],rfl,eH (fun u hu=>by obtain⟨y,_,rfl⟩:=fP.1 hu;rfl)⟩;generalize hSM:(Lib.strCells (gW made)).toArray=SM at*;clear hb2 HB0 hSM
 go_wp2_with (first
  | (refine cK (w:=w2.alloc (.cells oG 217)) rfl 217 (.tmp 9) (.tmp 17) rfl w2.heap.size 0 SM rfl rfl (bR (bq _ _ _ rfl) 0 _ (by rw[HMC.out.1];decide)) (by rw[HMC.out.1];exact HI.out) HMC.out.2.2 ?_;refine dO ?_)
  |fail)
 have HM3:Hid (mW A a t (left+(2*L+3)) fb jb lb J w SG SM w2.heap.size [] (.slice none 0 0) A ((w2.alloc (.cells oG 217)).setCells w2.heap.size 0 SM.toList)):=by
  have hb3:Below w2.heap.size w2 ((w2.alloc (.cells oG 217)).setCells w2.heap.size 0 SM.toList):=jo _ _ ((ay _ _).alloc (ai _) _) (ai _);have hb:Below w.heap.size w ((w2.alloc (.cells oG 217)).setCells w2.heap.size 0 SM.toList):=HB2.out.1.trans (hb3.mono HB2.out.1.size);refine⟨HS.out.below hb,fun _ _=>rfl,aW.of_below _ hb,(hb3.block _ (bN HB2.out.2)).trans HB2.out.2,?_,⟨HS.out.above _ (ai _),HS.out.above _ HB2.out.1.size⟩,dK _ _ _ _,fun k hk=>by cases hk⟩;have h:=uL Tryz.prog (w2.alloc (.cells oG 217)) w2.heap.size 217 oG SM.toList (bq _ _ _ rfl) (by rw[aX,HMC.out.1];rfl) (fun u hu=>kU.1 HMC.out.2.2 u (uS.1 hu));rw[dw] at h;exact h
 generalize (w2.alloc (.cells oG 217)).setCells w2.heap.size 0 SM.toList=w3 at*;generalize w2.heap.size=b9 at*;clear HB2;unfold Hid
 go_wp2_with fail
 go_loopw [10,20] (fun p i wr=>∃(j:Nat) (vj:Value) (rj:bY) (A':Nat->Nat),i=.int .i64 j/\p=vj/\j<=L/\qO J.r outs made=qO rj (outs.drop j) made/\mW A a t (left+(L+3)+(L-j)) fb jb lb {J with r:=rj} w SG SM b9 (nW (outs.take j) sig (gW made)) vj A' wr) (fun _ i _=>L-(intOf i).toNat)
 case atStart=>exact⟨0,_,J.r,A,rfl,rfl,aS _,rfl,HM3.out.less aJ⟩
 case round=>
  clear HM3;obtain⟨j,vj,rj,A',rfl,rfl,hj,hjw,hmid⟩:=hrel;have HM:=bB hmid;have HJW:=bB hjw
  have j0:(0:Int)<=(j:Int):=aJ
  by_cases hlt:j<L
  ·have j1:(j:Int)<(L:Int):=aJ
   obtain⟨x,hx⟩:∃x,outs[j]?=some x:=⟨outs[j]'(by have:=HL.out;omega),eB⟩;obtain⟨Bo,cap',e5,_,h6⟩:=HT.out.turns hmid.turns;injection e5 with f1 f2 f3
   rcases h6 with ⟨_,q,_⟩|⟨b,o,q,hct⟩
   ·exfalso;rw[q] at hx;simp at hx
   rw[q] at f1;subst f1;have cx:=hct j x hx;have hxs:=HX.out.1 x (aU hx);obtain⟨ub,m,v1,v2,v3,v4,eD⟩:=hmid.site.job
   have c0:wr.cell? ⟨jb,0,none⟩=some (.pointer (some ⟨fb,0,none⟩)):=by rw[aj _ _ _ _ _ _ eD.row];rfl
   have hst:iG A' a t (left+(L+3)+(L-(j+1))+1) fb jb lb {J with r:=rj} wr:=hmid.site.less aJ;have ND:=bB (KA hst x made aJ (by have:=HX.out.2.2;omega))
   have Bu:Hid (outs.take (j+1)=outs.take j++[x]/\x.size<=32/\outs.drop j=x::outs.drop (j+1)):=⟨by rw[dU,hx];rfl,hxs,by
    obtain⟨h1,h2⟩:=aN.1 hx
    rw[fG h1,h2]⟩
   obtain⟨YF,Gg,Nc,_,_⟩:=bE hmid.row
   have Jz:Hid ((nW (outs.take j) sig (gW made)).length=j):=by
    unfold Hid nW;rw[jV,ic];have:=HL.out;omega
   rw[Jz.out] at Nc;subst Nc;clear eD hct hx hmid hjw hst f2 f3 hxs
   go_wp2_with fail
   refine ND.out.mono ?_;rintro e3 w4 ⟨ve,rfl,jH,hse⟩;obtain⟨A4,hm4⟩:=HM.out.after hse;have ru:=bB hm4;clear hse hm4 c0 cx ND HM
   rcases jH with ⟨rfl,hq⟩|⟨k,hk,rfl,hq⟩
   ·have HJX:Hid (qO J.r outs made=qO (eP rj x made).2 (outs.drop (j+1)) made):=by
     show _=_;rw[HJW.out,Bu.out.2.2,qO,aH hq]
    have HRA:Hid (w4.rangeAt w.heap.size 0 SG.toList/\w4.rangeAt b9 0 SM.toList):=⟨fun i u hu=>by rw[aj _ _ _ _ _ _ ru.out.box,dh,<-cZ];exact hu,fun i u hu=>by rw[aj _ _ _ _ _ _ ru.out.sum,dh,<-cZ];exact hu⟩;have HL1:Hid ((Tryz.prog.info? 217).map (·.size)=some SG.toList.length/\(Tryz.prog.info? 217).map (·.size)=some SM.toList.length):=⟨by rw[aX,Mt.out.1];exact HI.out,by rw[aX,HMC.out.1];exact HI.out⟩;clear hq HJW
    go_wp2_with (first
     | (refine nY rfl 217 (.tmp 7) rfl w.heap.size 0 rfl SG.toList _ HRA.out.1 Tryz.underlying217 rfl HL1.out.1 ?_;refine dO ?_)
     |fail)
    rw[dw];unfold Hid
    go_wp2_with (first
     | (refine nY rfl 217 (.tmp 9) rfl b9 0 rfl SM.toList _ HRA.out.2 Tryz.underlying217 rfl HL1.out.2 ?_;refine dO ?_)
     |fail)
    rw[dw];have hms:=HMC.out.1;unfold Hid;clear HRA HL1
    go_wp2_with (first
     | (refine GV rfl 372 _ rfl #[(0,.string x),(1,.agg SG),(2,.agg SM)] (by simp[Act.eval]) _ (Nr _ x SG SM Mt.out.1 HMC.out.1) ?_;refine dO ?_)
     |fail)
    have Bt:Hid ((Value.string x::(SG.toList++SM.toList)).toArray.size=65/\(Value.string x::(SG.toList++SM.toList)).toArray.toList=bJ ⟨x,sig,gW made⟩):=⟨by rw[bZ,aY,aI,aX,aX,Mt.out.1,HMC.out.1],by rw[Mt.out.2,HMC.out.2.1];rfl⟩;have hrs:=Bt.out.1;generalize (Value.string x::(SG.toList++SM.toList)).toArray=RC at*
    have HMA:Hid (mW A a t (left+(L+3)+(L-(j+1))) fb jb lb {J with r:=(eP rj x made).2} w SG SM b9 (nW (outs.take j) sig (gW made)) (.slice YF j Gg) A4 (w4.alloc (.cells RC 372))/\∀i u,RC.toList[i]?=some u->(w4.alloc (.cells RC 372)).cell? ((⟨w4.heap.size,0,none⟩:Addr).add i)=some u):=⟨ru.out.below ((ay _ _).alloc (ai _) _),by
     have h:=iM w4 RC.toList 372;rw[dw] at h
     exact h⟩
    have HRW:Hid ((w4.alloc (.cells RC 372)).ownsRow w.heap.size 372 65 (.slice YF j Gg) j ((nW (outs.take j) sig (gW made)).flatMap bJ)/\w.heap.size<=(w4.alloc (.cells RC 372)).heap.size):=⟨by have h:=HMA.out.1.row;rw[Jz.out] at h;exact h,HMA.out.1.turns.size⟩
    have acZ:Hid (∀u∈RC.toList,u.oneCell'=true):=by rw[Bt.out.2];exact lS _
    unfold Hid
    go_wp2_with (at_builtin;rw[Kg RC _ Bt.out.1];rotate_left;rfl;refine wpList_append_lies _ rfl (.tmp 34) (.tmp 39) 271 rfl w.heap.size 372 ti (.agg Tryz.zeroCells372) 65 80 Tryz.underlying271 HTI.out.1 HTI.out.2.2.2.1 HTI.out.2.1 HTI.out.2.2.1 HTI.out.2.2.2.2 bS _ j _ rfl HRW.out.1 ⟨w4.heap.size,0,none⟩ 1 1 RC.toList rfl (by rw[aX,Bt.out.1]) HMA.out.2 acZ.out bS (by unfold maxLen;omega) aJ HRW.out.2 _ rfl ?_;intro g7 lW w7 hv7 wW rF xu;refine dO ?_)
    have HF:Hid (∃A7,mW A a t (left+(L+3)+(L-(j+1))) fb jb lb {J with r:=(eP rj x made).2} w SG SM b9 (nW (outs.take (j+1)) sig (gW made)) (.slice (some ⟨g7,0,none⟩) (j+1) lW) A7 w7):=by
     rw[Bt.out.2] at hv7;have h:=HMA.out.1.more (r:=⟨x,sig,gW made⟩) (g:=g7) (cap:=lW) wW rF xu (by rw[Jz.out];exact hv7);rw[<-Wn,<-Bu.out.1,Jz.out] at h;exact h
    clear hv7 wW rF xu HMA HRW acZ hrs hms ru;unfold Hid
    go_wp2_with fail
    obtain⟨A7,hf⟩:=HF.out;exact⟨⟨j+1,_,(eP rj x made).2,A7,oW,rfl,aJ,HJX.out,hf⟩,by simp[intOf];omega⟩
   have HKE:Hid (vW J.r J.L outs made sig=((eP rj x made).1,(eP rj x made).2,J.L)):=by
    have h1:qO J.r outs made=eP rj x made:=by rw[HJW.out,Bu.out.2.2,qO,aA aJ]
    show _=_;unfold vW;simp only[h1];rw[aH aJ]
   have HNU:Hid (rJ a (jW a k) (eP rj x made).1):=aP ⟨k,hk,rfl,hq⟩;have HSE:Hid (dL A a t left fb jb lb {J with r:=(eP rj x made).2} w w4):=⟨A4,ru.out.site.less aJ,ru.out.hA,ru.out.turns⟩;clear hq ru HJW;generalize eP rj x made=q at*;have HV:=bB (show jW a k=jW a k from rfl);unfold jW at*
   go_wp2_with fail
   go_ret;exact⟨_,rfl,by rw[HKE.out];exact HNU.out,by rw[HKE.out];exact HSE.out⟩
  obtain rfl:j=L:=aJ
  have HW0:Hid (qO J.r outs made=(0,rj)):=by
   rw[hjw,kV (dG HL.out)];exact rfl
  have HK:Hid (vW J.r J.L outs made sig=if (iX rj).1≠0 then ((iX rj).1,(iX rj).2,J.L) else
    if (kQ (iX rj).2 jO (gm (nW outs sig (gW made)))).1≠0 then ((kQ (iX rj).2 jO (gm (nW outs sig (gW made)))).1,(kQ (iX rj).2 jO (gm (nW outs sig (gW made)))).2,J.L) else
    ((iX (kQ (iX rj).2 jO (gm (nW outs sig (gW made)))).2).1,(iX (kQ (iX rj).2 jO (gm (nW outs sig (gW made)))).2).2,(nW outs sig (gW made)).foldl jd J.L)):=by
   show _=_;unfold vW;simp only[HW0.out];rw[aA bS]
  have Jz:Hid ((nW outs sig (gW made)).length=j/\∀r∈nW outs sig (gW made),lU r):=⟨by unfold nW;rw[jV];exact HL.out,Tj HX.out.1 HX.out.2.1 (kS _)⟩;have hmr:=hmid;rw[bK (dG HL.out)] at hmr;have HMR:=bB (hmr.less (show left+(j+2)+1<=_ by omega));clear hmr;obtain⟨YF,Gg,Nc,_,_⟩:=bE HMR.out.row;rw[Jz.out.1] at Nc;subst Nc;obtain⟨ub,m,v1,v2,v3,v4,eD⟩:=hmid.site.job
  have c0:wr.cell? ⟨jb,0,none⟩=some (.pointer (some ⟨fb,0,none⟩)):=by rw[aj _ _ _ _ _ _ eD.row];rfl
  have Yu:=bB (Cu HMR.out.site);clear hmid hjw eD HM HJW HW0;generalize nW outs sig (gW made)=RL at*
  go_wp2_with fail
  refine Yu.out.mono ?_;rintro e3 w4 ⟨ve,rfl,jH,hse⟩;obtain⟨A4,hm4⟩:=HMR.out.after hse;have ru:=aV hm4;clear hse hm4 c0 Yu HMR;generalize iX rj=q2 at*
  rcases jH with ⟨rfl,hq⟩|⟨k,hk,rfl,hq⟩
  ·have HK2:=bB (HK.out.trans (aA (by simp[hq])));clear hq HK;have NC:=bB (Bh RL (.slice YF j Gg) w4.drew (BZ (w:=w4.drew) ru.out.row rfl Jz.out.2) Jz.out.2 (by have:=Jz.out.1;omega));obtain⟨ub,m,v1,v2,v3,v4,eD⟩:=ru.out.site.job
   have dP:Hid (w4.drew.cell? ⟨jb,0,none⟩=some (.pointer (some ⟨fb,0,none⟩))):=by
    have h:w4.drew.heap[jb]?=_:=eD.row;rw[aj _ _ _ _ _ _ h];rfl
   clear eD
   go_wp2_with fail
   refine dJ (S:=fun w'=>w'.cell? ⟨jb,0,none⟩=some (.pointer (some ⟨fb,0,none⟩))) dD ?_;change wpAnyH _ _ _ _ _ _ _ _ (World.drew _);refine u3 0 (.pointer (some ⟨jb,0,none⟩)) rfl dP.out<|u3 1 (.pointer (some ⟨jb,0,none⟩)) rfl dP.out<|u3 2 (.pointer (some ⟨jb,0,none⟩)) rfl dP.out<|u3 3 (.pointer (some ⟨fb,0,none⟩)) rfl dP.out<|u3 4 (.slice YF j Gg) rfl dP.out ?_
   refine rH 5 rfl fun K hK=>?_
   go_simp;refine NC.out.mono ?_;rintro e5 w5 ⟨rfl,hb5⟩;have Ac:Hid (mW A a t (left+(j+1)+1) fb jb lb {J with r:=q2.2} w SG SM b9 RL (.slice YF j Gg) A4 w5):=ru.out.below ((ay _ _).drew.trans hb5);have Jg:=aV ((hb5.cell (p:=⟨jb,0,none⟩) (aG dP.out)).trans dP.out)
   have HTZ:Hid ((gm RL).size<=102000000):=by have h:=AP RL Jz.out.2;rw[Jz.out.1] at h;show _<=_;omega
   refine hK.out _ _ Jg.out (fun _=>?_);clear hK K hb5 NC ru dP;have HAP:=bB (Te Ac.out.site jO (gm RL) bS (by have:=HTZ.out;omega));generalize gm RL=T at*
   refine rH 6 rfl fun K hK=>?_
   go_simp;refine HAP.out.mono ?_;rintro e6 w6 ⟨ve,rfl,jH,hse⟩;obtain⟨A6,Zk⟩:=Ac.out.after hse;have HM6:=aV Zk;obtain⟨ub,m,v1,v2,v3,v4,eD⟩:=Zk.site.job;have dP:Hid (w6.cell? ⟨jb,0,none⟩=some (.pointer (some ⟨fb,0,none⟩))/\w6.cell? ⟨jb,1,none⟩=some (.pointer (some ⟨lb,0,none⟩))):=⟨by rw[aj _ _ _ _ _ _ eD.row];rfl,by rw[aj _ _ _ _ _ _ eD.row];rfl⟩;refine hK.out _ _ dP.out.1 (fun _=>?_);clear hK K hse Zk Ac Jg HAP eD;generalize kQ q2.2 jO T=q3 at*
   rcases jH with ⟨rfl,hq⟩|⟨k,hk,rfl,hq⟩
   ·skip
    refine uC 7 .nilIface rfl dP.out.1 ?_;refine eX dD ?_ _;have HK3:=bB (HK2.out.trans (aA (by simp[hq])));have c1:=dP.out.2;obtain⟨mb,vn,n,hbk,hcb,hn1,hn2⟩:=HM6.out.site.book;have tC:=aV (aO hbk (aO hcb (aO hn1 hn2)))
    have GZ:=bB (KU hbk (BZ HM6.out.row rfl Jz.out.2) Jz.out.2 (aP fun q m c e hF=>by
     injection e with e _ _;have h1:=hcb q.block hF;have h2:=HM6.out.nine q.block (by rw[e];rfl)
     omega) (by have:=Jz.out.1;omega) aJ (by have h2:J.L.count+(left+(j+1))<=1000000000000:=hn2;show J.L.count<=_;omega))
    clear hq HK2 hbk hcb hn1 hn2
    go_wp2_with fail
    refine GZ.out.mono ?_;rintro e7 w7 ⟨rfl,vn7,Jm,wW,hm7⟩
    have HS7:Hid (dL A6 a t (left+1) fb jb lb {J with r:=q3.2,L:=RL.foldl jd J.L} w6 w7):=by
     have hst:iG A6 a t (left+1+RL.length) fb jb lb {J with r:=q3.2} w6:=HM6.out.site.less (by rw[Jz.out.1];omega);exact hst.ai0 tC.out.2.1 (by rw[Jz.out.1];have:=tC.out.2.2.1;omega) (by rw[Jz.out.1];have h2:=tC.out.2.2.2;show J.L.count+_<=_;omega) Jm wW hm7
    obtain⟨A7,hm7⟩:=HM6.out.after HS7.out;have HM7:=bB hm7;obtain⟨ub,m,v1,v2,v3,v4,eD⟩:=hm7.site.job
    have d0:w7.cell? ⟨jb,0,none⟩=some (.pointer (some ⟨fb,0,none⟩)):=by rw[aj _ _ _ _ _ _ eD.row];rfl
    have Yu:=bB (Cu hm7.site);clear Jm wW hm7 eD c1 GZ tC dP HM6 HS7
    go_wp2_with fail
    refine Yu.out.mono ?_;rintro e8 w8 ⟨ve,rfl,jH,hse⟩;have HE:Hid (rJ a ve (iX q3.2).1/\dL A a t left fb jb lb {J with r:=(iX q3.2).2,L:=RL.foldl jd J.L} w w8):=⟨jH,dL.trans HM7.out.hA HM7.out.turns hse⟩
    have hvf:ve=.nilIface\/∃T x,ve=.iface T (.pointer x):=by
     rcases jH with ⟨q,_⟩|⟨k,_,q,_⟩
     ·exact aK q
     exact aP ⟨_,_,q⟩
    clear jH hse Yu HM7 d0
    rcases hvf with rfl|⟨TT,xx,rfl⟩
    ·go_wp2_with fail
     go_ret;exact⟨_,rfl,by rw[HK3.out];exact HE.out.1,by rw[HK3.out];exact HE.out.2⟩
    go_wp2_with fail
    go_ret;exact⟨_,rfl,by rw[HK3.out];exact HE.out.1,by rw[HK3.out];exact HE.out.2⟩
   have HK:=HK2;refine uC 7 (jW a k) rfl dP.out.1 ?_;refine eX dD ?_ _;have HKE:Hid (vW J.r J.L outs made sig=((q3).1,(q3).2,J.L)):=HK.out.trans (aH aJ);have HNU:Hid (rJ a (jW a k) (q3).1):=aP ⟨k,hk,rfl,hq⟩;have HSE:Hid (dL A a t left fb jb lb {J with r:=(q3).2} w w6):=⟨A6,HM6.out.site.less aJ,HM6.out.hA,HM6.out.turns⟩;clear hq HM6 HK;unfold jW at*
   go_wp2_with fail
   go_ret;exact⟨_,rfl,by rw[HKE.out];exact HNU.out,by rw[HKE.out];exact HSE.out⟩
  skip
  have HKE:Hid (vW J.r J.L outs made sig=((q2).1,(q2).2,J.L)):=HK.out.trans (aH aJ);have HNU:Hid (rJ a (jW a k) (q2).1):=aP ⟨k,hk,rfl,hq⟩;have HSE:Hid (dL A a t left fb jb lb {J with r:=(q2).2} w w4):=⟨A4,ru.out.site.less aJ,ru.out.hA,ru.out.turns⟩;clear hq ru HK;unfold jW at*
  go_wp2_with fail
  go_ret;exact⟨_,rfl,by rw[HKE.out];exact HNU.out,by rw[HKE.out];exact HSE.out⟩
structure Jw(A:Nat->Nat)(w:ak)(vo vi vm vr:Value)(e:dA):Prop where
 outs:uf A w vo e.outs
 ins:uf A w vi e.ins
 impl:uf A w vm e.impl
 ord:uf A w vr e.ord
variable {vo vi vm vr:Value}{e:dA}
theorem Jw.later(h:Jw A w vo vi vm vr e)(hA:∀k,k<w.heap.size->A' k=A k)(ht:aW (JF A) w w'):Jw A' w' vo vi vm vr e:=⟨h.outs.later hA ht,h.ins.later hA ht,h.impl.later hA ht,h.ord.later hA ht⟩
structure Cm(e:dA)(cm:ah):Prop where
 outs:e.outs.length<=10000
 ins:e.ins.length<=10000
 impl:e.impl.length<=10000
 ord:e.ord.length<=10000
 out:∀x∈e.outs,x.size<=32
 dep:∀x∈eO e,x.size<=32
 cmd:cm.size<=1048576
variable {cm:ah}
theorem Cm.inp(h:Cm e cm):∀x∈fU e,x.size<=32:=fun x hq=>h.dep x (by unfold fU at hq;unfold eO;rw[<-eZ];exact fD _ hq)
theorem Cm.od(h:Cm e cm):∀x∈e.ord,x.size<=32:=fun x hq=>h.dep x (by unfold eO;rw[<-eZ];exact lV _ hq)
def acP(A:Nat->Nat)(a:Nat->Addr)(t:Nat->ah)(left fb jb lb:Nat)(q:(Nat×Int)×fB)(w:ak)(e:Ending)(w':ak):Prop:=
 ∃v,e=.returned (.tuple #[.int .i64 (q.1.1:Nat),v])/\rJ a v q.1.2/\dL A a t left fb jb lb q.2 w w'
structure mV(A:Nat->Nat)(a:Nat->Addr)(t:Nat->ah)(left fb jb lb:Nat)(J:fB)(w:ak)(vo vi vm vr:Value)(rl cm:ah)(e:dA)(A':Nat->Nat)(wr:ak):Prop where
 site:iG A' a t left fb jb lb J wr
 hA:∀k,k<w.heap.size->A' k=A k
 turns:aW (JF A) w wr
 box:wr.heap[w.heap.size]?=some (.cells #[vo,vi,vm,vr,.string rl,.string cm] 63 (0,0))
 zero:A' w.heap.size=0
 lists:Jw A' wr vo vi vm vr e
variable {rl:ah}
theorem mV.after(h:mV A a t left fb jb lb J w vo vi vm vr rl cm e A' wr)(h1:iG A2 a t left' fb jb lb J' w')(h2:∀k,k<wr.heap.size->A2 k=A' k)(h3:aW (JF A') wr w'):mV A a t left' fb jb lb J' w vo vi vm vr rl cm e A2 w':=
 ⟨h1,fun k hk=>(h2 k (aB hk h.turns.size)).trans (h.hA k hk),ji h.hA h.turns h3,(h3.block _ (bN h.box) (fun q=>by have:=h.zero;unfold JF at q;omega)).trans h.box,(h2 _ (bN h.box)).trans h.zero,h.lists.later h2 h3⟩
theorem mV.below(h:mV A a t left fb jb lb J w vo vi vm vr rl cm e A' wr)(hb:Below wr.heap.size wr w'):mV A a t left fb jb lb J w vo vi vm vr rl cm e A' w':=h.after (h.site.below hb) (fun _ _=>rfl) (aW.of_below _ hb)
theorem mV.ends(h:mV A a t left fb jb lb J w vo vi vm vr rl cm e A' wr)(hl:left'<=left):dL A a t left' fb jb lb J w wr:=⟨A',h.site.less hl,h.hA,h.turns⟩
theorem mV.cells(h:mV A a t left fb jb lb J w vo vi vm vr rl cm e A' wr):wr.cell? ⟨w.heap.size,0,none⟩=some vo/\wr.cell? ⟨w.heap.size,1,none⟩=some vi/\wr.cell? ⟨w.heap.size,2,none⟩=some vm/\wr.cell? ⟨w.heap.size,3,none⟩=some vr/\wr.cell? ⟨w.heap.size,4,none⟩=some (.string rl)/\wr.cell? ⟨w.heap.size,5,none⟩=some (.string cm):=by
 have hc:∀i,wr.cell? ⟨w.heap.size,i,none⟩=(#[vo,vi,vm,vr,.string rl,.string cm]:Array Value)[i]?:=fun i=>aj _ _ _ _ _ _ h.box
 exact⟨hc 0,hc 1,hc 2,hc 3,hc 4,hc 5⟩
structure He(f:ah->Option ah)(ib mb n:Nat)(A':Nat->Nat)(wr:ak):Prop where
 map:MI wr mb n f
 nine:A' mb=9
 cell:wr.cell? ⟨ib,0,none⟩=some (.map (some mb))
 zero:A' ib=0
theorem He.after{f:ah->Option ah}{ib:Nat}(h:He f ib mb n A' wr)(h2:∀k,k<wr.heap.size->A2 k=A' k)(h3:aW (JF A') wr w'):He f ib mb n A2 w':=
 ⟨eu.keep h.map (h3.block mb (eu.lt h.map) (fun q=>by have:=h.nine;unfold JF at q;omega)),(h2 _ (eu.lt h.map)).trans h.nine,(aF (w:=wr) (a:=⟨ib,0,none⟩) (h3.block ib (aG h.cell) (fun q=>by have:=h.zero;unfold JF at q;omega))).trans h.cell,(h2 _ (aG h.cell)).trans h.zero⟩
theorem YM(e:dA)(h:iG A a t (left+(2*e.outs.length+3)) fb jb lb J w)(hz:Jw A w vo vi vm vr e)(hok:Cm e cm):
  Calls Tryz.prog 98 #[.pointer (some ⟨jb,0,none⟩),.agg #[vo,vi,vm,vr,.string rl,.string cm]] w (acP A a t left fb jb lb (dZ J e cm) w):=by
 have HOK:=bB hok
 have HB1:Hid (mV A a t (left+(2*e.outs.length+3)) fb jb lb J w vo vi vm vr rl cm e A (w.alloc (.cells #[vo,vi,vm,vr,.string rl,.string cm] 63))):=by
  have hb:Below w.heap.size w (w.alloc (.cells #[vo,vi,vm,vr,.string rl,.string cm] 63)):=(ay _ _).alloc (ai _) _;exact⟨h.below hb,fun _ _=>rfl,aW.of_below _ hb,bq _ _ _ rfl,h.above _ (ai _),hz.later (fun _ _=>rfl) (aW.of_below _ hb)⟩
 obtain⟨⟨nu,cO,rfl,_,_⟩,_⟩:=id hz.outs;obtain⟨⟨kE,cI,rfl,_,_⟩,_⟩:=id hz.ins;obtain⟨⟨lM,cM,rfl,_,_⟩,_⟩:=id hz.impl;obtain⟨⟨nH,cR,rfl,_,_⟩,_⟩:=id hz.ord;generalize hNO:e.outs.length=NO at*;generalize hNI:e.ins.length=NI at*;generalize hNM:e.impl.length=NM at*;generalize hNR:e.ord.length=NR at*;have HN:=aV hNO;clear h hz hok hNO hNI hNM hNR;obtain⟨a0,a1,a2,a3,a4,a5⟩:=HB1.out.cells
 go_enter Tryz.func98,Tryz.ntmps98
 go_wp2_with fail
 generalize w.alloc (.cells #[.slice nu NO cO,.slice kE NI cI,.slice lM NM cM,.slice nH NR cR,.string rl,.string cm] 63)=w1 at*;obtain⟨ub,m,v1,v2,v3,v4,eD⟩:=HB1.out.site.job;refine(Nh (by rw[aj _ _ _ _ _ _ eD.row];rfl) eD.un e ⟨_,_,_,rfl⟩ HB1.out.lists.ins.1 HB1.out.lists.impl.1 HB1.out.lists.ord.1 HOK.out.ins HOK.out.impl HOK.out.ord HOK.out.dep).mono ?_;rintro e2 w2 ⟨rfl,hb2⟩;have HB2:=bB (HB1.out.below hb2)
 have HJE:Hid (dZ J e cm=if ((eO e).any fun x=>fo x J.un)=true then ((3,0),J) else
  if (jI J.r (fU e)&&jI J.r e.ord)=false then ((2,0),J) else
  if wQ J.r J.L e.outs (DY (iB J.r (fU e)) e cm)=true then ((1,0),J) else
  match iY (qc (iB J.r (fU e)) (nT cm)) with
  |none=>((2,0),J)
  |some made=>((0,(vW J.r J.L e.outs made (DY (iB J.r (fU e)) e cm)).1),{J with r:=(vW J.r J.L e.outs made (DY (iB J.r (fU e)) e cm)).2.1,L:=(vW J.r J.L e.outs made (DY (iB J.r (fU e)) e cm)).2.2})):=rfl
 clear eD hb2 a0 a1 a2 a3 a4 a5 HB1;generalize ((eO e).any fun x=>fo x J.un)=q1 at*
 rcases q1 with _|_
 case' true=>
  have HE:=bB (HJE.out.trans (aH rfl))
  go_wp2_with fail
  go_ret2;exact⟨.nilIface,by rw[HE.out];rfl,by rw[HE.out];exact aK ⟨rfl,rfl⟩,by rw[HE.out];exact HB2.out.ends aJ⟩
 have HE2:=bB (HJE.out.trans (aA fu));clear HJE;obtain⟨a0,a1,a2,a3,a4,a5⟩:=HB2.out.cells
 go_wp2_with fail
 refine(Lx HB2.out.site e ⟨_,_,_,rfl⟩ ⟨_,_,_,rfl⟩ HB2.out.lists.ins.1 HB2.out.lists.impl.1 HOK.out.ins HOK.out.impl HOK.out.dep).mono ?_;rintro e3 w3 ⟨A3,v,rfl,hs3,hA3,ht3,hv⟩;have HB3:=bB (HB2.out.after hs3 hA3 ht3);clear hs3 hA3 ht3 a0 a1 a2 a3 a4 a5 HB2
 rcases hv with ⟨hth,rfl⟩|⟨hth,mb,n,rfl,hin,hmb,hml⟩
 ·have HE:=bB (HE2.out.trans (aH (by rw[hth];rfl)));rw[hth];clear hth HE2
  go_wp2_with fail
  go_ret2;exact⟨.nilIface,by rw[HE.out];rfl,by rw[HE.out];exact aK ⟨rfl,rfl⟩,by rw[HE.out];exact(HB3.out.below (by first|exact(ay _ _).alloc (ai _) _|exact((ay _ _).alloc (ai _) _).setCell (ai _) _)).ends aJ⟩
 have HTH:=bB hth
 have xC:Hid (mV A a t (left+(2*NO+3)) fb jb lb J w (.slice nu NO cO) (.slice kE NI cI) (.slice lM NM cM) (.slice nH NR cR) rl cm e A3 (w3.alloc (.cells #[.map (some mb)] 258))/\He (iB J.r (fU e)) w3.heap.size mb n A3 (w3.alloc (.cells #[.map (some mb)] 258))):=by
  have hb:Below w3.heap.size w3 (w3.alloc (.cells #[.map (some mb)] 258)):=(ay _ _).alloc (ai _) _;exact⟨HB3.out.below hb,eu.keep hin (hb.block mb hml),hmb,jy _ _ _ _ _ rfl,HB3.out.site.above _ (ai _)⟩
 rw[hth];clear hth hin hmb hml HB3;obtain⟨a0,a1,a2,a3,a4,a5⟩:=xC.out.1.cells
 go_wp2_with fail
 clear a0 a1 a2 a3 a4 a5;generalize w3.alloc (.cells #[.map (some mb)] 258)=w4 at*;generalize w3.heap.size=ib at*;refine(PU xC.out.1.site xC.out.1.lists.ord (by have:=HOK.out.ord;omega) HOK.out.od).mono ?_;rintro e5 w5 ⟨rfl,A5,hs5,hA5,ht5⟩;have Bq:Hid (mV A a t (left+(2*NO+3)) fb jb lb J w (.slice nu NO cO) (.slice kE NI cI) (.slice lM NM cM) (.slice nH NR cR) rl cm e A5 w5/\He (iB J.r (fU e)) ib mb n A5 w5):=⟨xC.out.1.after hs5 hA5 ht5,xC.out.2.after hA5 ht5⟩;clear hs5 hA5 ht5 xC;generalize hto:jI J.r e.ord=to5 at*
 rcases to5 with _|_
 case' false=>
  have HE:=bB (HE2.out.trans (aH (by rw[Po])))
  go_wp2_with fail
  go_ret2;exact⟨.nilIface,by rw[HE.out];rfl,by rw[HE.out];exact aK ⟨rfl,rfl⟩,by rw[HE.out];exact Bq.out.1.ends aJ⟩
 have HE3:=bB (HE2.out.trans (aA (by rw[HTH.out];exact fun e=>Bool.noConfusion e)))
 have Rm:Hid (∀x∈fU e,(iB J.r (fU e) x).isSome=true):=fun x hx=>by rw[Ia HTH.out];exact mY.2 hx
 have HSM:Hid (∀x d,iB J.r (fU e) x=some d->d.size<=1048576):=fun x d hd=>by
  unfold iB at hd
  split at hd
  ·have h:=Bq.out.1.site.size x;rw[hd] at h;have h:d.size<=65536:=h;omega
  cases hd
 clear HE2 hto HTH;generalize iB J.r (fU e)=f at*;obtain⟨a0,a1,a2,a3,a4,a5⟩:=Bq.out.1.cells;have ci:=Bq.out.2.cell
 go_wp2_with fail
 refine(Jb Bq.out.2.map e Rm.out ⟨_,_,_,rfl⟩ ⟨_,_,_,rfl⟩ Bq.out.1.lists.ins.1 Bq.out.1.lists.impl.1 HOK.out.ins HOK.out.impl HOK.out.inp HOK.out.cmd Bq.out.1.site.rounds).mono ?_;rintro e6 w6 ⟨rfl,hb6⟩;have FP:Hid (mV A a t (left+(2*NO+3)) fb jb lb J w (.slice nu NO cO) (.slice kE NI cI) (.slice lM NM cM) (.slice nH NR cR) rl cm e A5 w6/\He f ib mb n A5 w6):=⟨Bq.out.1.below hb6,Bq.out.2.after (fun _ _=>rfl) (aW.of_below _ hb6)⟩;have HSZ:Hid ((DY f e cm).size=32):=kS _;generalize DY f e cm=sig at*;have Mt:Hid ((Lib.strCells sig).toArray.size=32/\(Lib.strCells sig).toArray.toList=Lib.strCells sig/\(Lib.strCells sig).toArray.all (·.oneCell')=true):=⟨by rw[bZ,Lib.strCells_length,HSZ.out],rfl,eH (fun u hu=>by obtain⟨y,_,rfl⟩:=fP.1 hu;rfl)⟩
 have HI:Hid ((Tryz.prog.info? 217).map (·.size)=some 32):=by unfold Hid;kernel_rfl
 clear hb6 a0 a1 a2 a3 a4 a5 ci Bq Rm;generalize hSG:(Lib.strCells sig).toArray=SG at*;have HSG:=bB hSG;clear hSG
 go_wp2_with (first
  | (refine cK (w:=w6.alloc (.cells oG 217)) rfl 217 (.tmp 8) (.tmp 31) rfl w6.heap.size 0 SG rfl rfl (bR (bq _ _ _ rfl) 0 _ (by rw[Mt.out.1];decide)) (by rw[Mt.out.1];exact HI.out) Mt.out.2.2 ?_;refine dO ?_)
  |fail)
 have RA:Hid ((mV A a t (left+(2*NO+3)) fb jb lb J w (.slice nu NO cO) (.slice kE NI cI) (.slice lM NM cM) (.slice nH NR cR) rl cm e A5 ((w6.alloc (.cells oG 217)).setCells w6.heap.size 0 SG.toList)/\He f ib mb n A5 ((w6.alloc (.cells oG 217)).setCells w6.heap.size 0 SG.toList))/\((w6.alloc (.cells oG 217)).setCells w6.heap.size 0 SG.toList).rangeAt w6.heap.size 0 SG.toList/\A5 w6.heap.size=0):=by
  have hb:Below w6.heap.size w6 ((w6.alloc (.cells oG 217)).setCells w6.heap.size 0 SG.toList):=jo _ _ ((ay _ _).alloc (ai _) _) (ai _);exact⟨⟨FP.out.1.below hb,FP.out.2.after (fun _ _=>rfl) (aW.of_below _ hb)⟩,eF _ _ _ _ (bR (bq _ _ _ rfl) 0 _ (by rw[aX,Mt.out.1];decide)),FP.out.1.site.above _ (ai _)⟩
 generalize (w6.alloc (.cells oG 217)).setCells w6.heap.size 0 SG.toList=w7 at*;generalize w6.heap.size=sb at*
 have HIC:Hid ((Tryz.prog.info? 217).map (·.size)=some SG.toList.length):=by rw[aX,Mt.out.1];exact HI.out
 obtain⟨a0,a1,a2,a3,a4,a5⟩:=RA.out.1.1.cells;clear FP;unfold Hid
 go_wp2_with (first
  | (refine nY rfl 217 (.tmp 8) rfl sb 0 rfl SG.toList _ RA.out.2.1 Tryz.underlying217 rfl HIC.out ?_;refine dO ?_)
  |fail)
 rw[dw];have HCL:=bB (Td RA.out.1.1.site RA.out.1.1.lists.outs (by have:=HOK.out.outs;omega) HOK.out.out HSZ.out);rw[HSG.out] at HCL;unfold Hid
 go_wp2_with fail
 refine HCL.out.mono ?_;rintro e8 w8 ⟨rfl,A8,hs8,Qo,Ku⟩
 have HB8:Hid ((mV A a t (left+(2*NO+3)) fb jb lb J w (.slice nu NO cO) (.slice kE NI cI) (.slice lM NM cM) (.slice nH NR cR) rl cm e A8 w8/\He f ib mb n A8 w8)/\w8.rangeAt sb 0 SG.toList/\A8 sb=0):=by
  have hlt:sb<w7.heap.size:=by
   obtain⟨u,hu⟩:∃u,SG.toList[0]?=some u:=⟨SG.toList[0]'(by rw[aX,Mt.out.1];decide),eB⟩;exact aG (RA.out.2.1 0 u hu)
  exact⟨⟨RA.out.1.1.after hs8 Qo Ku,RA.out.1.2.after Qo Ku⟩,fun i u hu=>(aF (w:=w7) (a:=⟨sb,0+i,none⟩) (Ku.block sb hlt (fun q=>by have:=RA.out.2.2;unfold JF at q;omega))).trans (RA.out.2.1 i u hu),(Qo _ hlt).trans RA.out.2.2⟩
 clear hs8 Qo Ku a0 a1 a2 a3 a4 a5 RA HCL;generalize wQ J.r J.L e.outs sig=q8 at*
 rcases q8 with _|_
 case' true=>
  have HE:=bB (HE3.out.trans (aH rfl))
  go_wp2_with fail
  go_ret2;exact⟨.nilIface,by rw[HE.out];rfl,by rw[HE.out];exact aK ⟨rfl,rfl⟩,by rw[HE.out];exact HB8.out.1.1.ends aJ⟩
 have Ve:=bB (HE3.out.trans (aA fu));clear HE3;obtain⟨a0,a1,a2,a3,a4,a5⟩:=HB8.out.1.1.cells;have II:=bB (aee cm HOK.out.cmd f (YG ib) w8 (aa5 HB8.out.1.2.cell HB8.out.1.2.map HSM.out) HB8.out.1.1.site.rounds);unfold YG at II
 go_wp2_with fail
 refine II.out.mono ?_;rintro e9 w9 ⟨rfl,Hw⟩;have RD:Hid (mV A a t (left+(2*NO+3)) fb jb lb J w (.slice nu NO cO) (.slice kE NI cI) (.slice lM NM cM) (.slice nH NR cR) rl cm e A8 w9/\w9.rangeAt sb 0 SG.toList):=⟨HB8.out.1.1.below Hw,fun i u hu=>(Hw.cell (p:=⟨sb,0+i,none⟩) (aG (HB8.out.2.1 i u hu))).trans (HB8.out.2.1 i u hu)⟩
 have HMZ:Hid (∀made,iY (qc f (nT cm))=some made->made.size<=4000):=fun made hm=>by
  unfold iY at hm;obtain⟨y,_,hy⟩:=rC.1 hm
  split at hy
  ·rename_i hle
   rw[<-ax hy];exact hle
  cases hy
 clear Hw II a0 a1 a2 a3 a4 a5 HB8;generalize iY (qc f (nT cm))=om at*;unfold mD
 cases om with
 |none=>
  have HE:=bB Ve.out;simp only[jG,iU];clear Ve
  go_wp2_with fail
  go_ret2;exact⟨.nilIface,by rw[HE.out];rfl,by rw[HE.out];exact aK ⟨rfl,rfl⟩,by rw[HE.out];exact RD.out.1.ends aJ⟩
 |some made=>
  have HE:=bB Ve.out;simp only[dm,gu];obtain⟨a0,a1,a2,a3,a4,a5⟩:=RD.out.1.cells;have hst:=RD.out.1.site;rw[<-HN.out] at hst;have HKP:=bB (abJ (made:=made) (sig:=sig) hst RD.out.1.lists.outs (by have:=HOK.out.outs;omega) HOK.out.out HSZ.out (by have:=HMZ.out made rfl;omega));rw[HSG.out] at HKP;clear Ve hst
  go_wp2_with (first
   | (refine nY rfl 217 (.tmp 8) rfl sb 0 rfl SG.toList _ RD.out.2 Tryz.underlying217 rfl HIC.out ?_;refine dO ?_)
   |fail)
  rw[dw];unfold Hid
  go_wp2_with fail
  refine HKP.out.mono ?_;rintro e10 yu ⟨ve,rfl,jH,hse⟩;have HEN:Hid (rJ a ve (vW J.r J.L e.outs made sig).1/\dL A a t left fb jb lb {J with r:=(vW J.r J.L e.outs made sig).2.1,L:=(vW J.r J.L e.outs made sig).2.2} w yu):=⟨jH,dL.trans RD.out.1.hA RD.out.1.turns hse⟩
  have hvf:ve=.nilIface\/∃T x,ve=.iface T (.pointer x):=by
   rcases jH with ⟨q,_⟩|⟨k,_,q,_⟩
   ·exact aK q
   exact aP ⟨_,_,q⟩
  clear jH hse HKP a0 a1 a2 a3 a4 a5
  rcases hvf with rfl|⟨TT,xx,rfl⟩
  all_goals
   go_wp2_with fail
   go_ret2;exact⟨_,by rw[HE.out];rfl,by rw[HE.out];exact HEN.out.1,by rw[HE.out];exact HEN.out.2⟩
theorem iG.aeY(h:iG A a t left fb jb lb J w)(hl:left'<=left)(hA2:∀k,k<w.heap.size->A2 k=A k)(ha:∀k,w'.heap.size<=k->A2 k=0)(ho:w'.os=w.os/\w'.output=w.output)(hs:w.heap.size<=w'.heap.size)(hkp:∀k,k<w.heap.size->(A k=0\/A k=1\/A k=3\/9<=A k)->w'.heap[k]?=w.heap[k]?)(hj:∃ub m v1 v2 v3 v4,qW A2 left' jb fb (.pointer (some ⟨lb,0,none⟩)) ub m v1 v2 v3 v4 J' w')(hr:J'.r=J.r)(hL:J'.L=J.L):dL A a t left' fb jb lb J' w w':=by
 obtain⟨mb,vn,n,hb,hc,h1,h2⟩:=h.book;refine⟨A2,⟨h.env.keep hs hA2 (fun k hk h0=>hkp k hk (aK h0)),h.rounds.keep (fun k hk=>hkp k (aB hk h.env.glob) (aK (h.env.zero k hk))),by rw[hr];exact(h.files.less hl).keep hA2 (fun k hk q=>hkp k hk aJ),hj,⟨mb,vn,n,by rw[hL];exact hb.keep (fun k q=>hkp k (hb.lt k q) (by rw[hc k q];omega)),fun k q=>by rw[hA2 k (hb.lt k q)];exact hc k q,aJ,by rw[hL];omega⟩,ha⟩,hA2,⟨ho.1,ho.2,hs,fun k hk hF=>hkp k hk (by unfold JF at hF;omega)⟩⟩
theorem TH{l:List ah}(h:iG A a t (left+l.length) fb jb lb J w)(ht:uf A w v l)(hl:l.length<=100000)(hx:∀x∈l,x.size<=32):
  Calls Tryz.prog 170 #[.pointer (some ⟨jb,0,none⟩),v] w fun e w'=>e=.returned (.tuple #[])/\dL A a t left fb jb lb {J with un:=J.un++l} w w':=by
 have HT:=bB ht;have HS:=bB h;have HX:=bB hx;obtain⟨⟨ao,cap,rfl,_,_⟩,_⟩:=ht;generalize hL:l.length=L at*;have HL:=bB hL
 have l0:(L:Int)<=100000:=aJ
 clear h hx hL
 go_enter Tryz.func170,Tryz.ntmps170
 go_wp2_with fail
 go_loopw [8] (fun i wr=>∃(j:Nat) (A':Nat->Nat),i=.int .i64 j/\j<=L/\iG A' a t (left+(L-j)) fb jb lb {J with un:=J.un++l.take j} wr/\(∀k,k<w.heap.size->A' k=A k)/\aW (JF A) w wr) (fun i _=>L-(intOf i).toNat)
 case atStart=>exact⟨0,A,rfl,aS _,by rw[DF,fM];exact HS.out,fun _ _=>rfl,aW.refl _ _⟩
 case round=>
  obtain⟨j,A',rfl,hj,hs,hA,htu⟩:=hrel;have HM:=aV (aO hA htu);have HSJ:=bB hs
  have j0:(0:Int)<=(j:Int):=aJ
  by_cases hlt:j<L
  ·have j1:(j:Int)<(L:Int):=aJ
   obtain⟨x,hx⟩:∃x,l[j]?=some x:=⟨l[j]'(by have:=HL.out;omega),eB⟩;obtain⟨Bo,cap',e5,_,h6⟩:=HT.out.turns htu;injection e5 with f1 f2 f3
   rcases h6 with ⟨_,q,_⟩|⟨b,o,q,hct⟩
   ·exfalso;rw[q] at hx;simp at hx
   rw[q] at f1;subst f1;have cx:=hct j x hx;have hxs:=HX.out x (aU hx);obtain⟨ub,m,v1,v2,v3,v4,eD⟩:=hs.job
   have c2:wr.cell? ⟨jb,2,none⟩=some (.map (some ub)):=by rw[aj _ _ _ _ _ _ eD.row];rfl
   obtain⟨w9,h9,EU,Ct⟩:=eu.store eD.un (t:=122) Tryz.underlying122 (by have:=eD.lim;unfold maxLen;omega) x (by unfold maxLen;omega) (.agg #[]) ⟨_,_,rfl⟩
   have HF:Hid (dL A' a t (left+(L-(j+1))) fb jb lb {J with un:=J.un++l.take (j+1)} wr w9):=by
    have htk:J.un++l.take (j+1)=(J.un++l.take j)++[x]:=by rw[dU,hx,eZ];rfl
    have hkp:∀k,k<wr.heap.size->k≠ub->w9.heap[k]?=wr.heap[k]?:=fun k hk hn=>Ct.block k hk (fun e=>hn (ax e))
    refine hs.aeY aJ (fun _ _=>rfl) (fun k hk=>hs.above k (aC Ct.size hk)) ⟨Ct.os,Ct.output⟩ Ct.size (fun k hk q=>hkp k hk (fun e=>by rw[e,eD.cu] at q;omega)) ⟨ub,m+1,v1,v2,v3,v4,?_⟩ rfl rfl
    have hne:∀k,A' k≠4->k≠ub:=fun k q e=>q (by rw[e];exact eD.cu)
    refine⟨(hkp jb (bN eD.row) (hne _ (by rw[eD.cj];decide))).trans eD.row,by rw[htk];exact nG.snoc EU,dR eD.r1 (fun k hk=>hkp k (bF eD.r1 k hk).2 (hne k (by rw[eD.c1 k hk];decide))),dR eD.r2 (fun k hk=>hkp k (bF eD.r2 k hk).2 (hne k (by rw[eD.c2 k hk];decide))),dR eD.r3 (fun k hk=>hkp k (bF eD.r3 k hk).2 (hne k (by rw[eD.c3 k hk];decide))),dR eD.r4 (fun k hk=>hkp k (bF eD.r4 k hk).2 (hne k (by rw[eD.c4 k hk];decide))),eD.cj,eD.cu,eD.c1,eD.c2,eD.c3,eD.c4,?_⟩;have h1:=eD.lim;simp only at h1⊢;omega
   clear EU Ct eD hct hx hs hA htu f2 f3
   go_wp2_with fail
   obtain⟨A9,hs9,hA9,ht9⟩:=HF.out;exact⟨⟨j+1,A9,oW,aJ,hs9,fun k hk=>(hA9 k (aB hk HM.out.2.size)).trans (HM.out.1 k hk),ji HM.out.1 HM.out.2 ht9⟩,by simp[intOf];omega⟩
  obtain rfl:j=L:=aJ
  have HF:Hid (dL A a t left fb jb lb {J with un:=J.un++l} w wr):=by
   rw[bK (dG HL.out)] at hs;exact⟨A',hs.less aJ,hA,htu⟩
  clear hs hA htu HSJ
  go_wp2_with fail
  first|go_end0|refine bV (eY rfl _ _ _) rfl ?_
  exact⟨rfl,HF.out⟩
variable {ub m:Nat}{w7:ak}{v1 v2 v3 v4:Value}{x:ah}
theorem iG.told{c:Nat}{i:Nat}{l:List ah}(h:iG A a t (left+1) fb jb lb J w)(hj:qW A (left+1) jb fb (.pointer (some ⟨lb,0,none⟩)) ub m v1 v2 v3 v4 J w)(hv:∀k,v.ownBlock=some k->A k=c)(hc:5<=c/\c<=8)(hg:w.grownBy w7 v.ownBlock)(hat:v.ownBlock=some g\/g=w.heap.size)(hr:w7.ownsRow 0 9 1 (.slice (some ⟨g,0,none⟩) (l.length+1) cap) (l.length+1) (l.map Value.string++[.string x])):
  w7.heap[jb]?=w.heap[jb]?/\((w7.setCell ⟨jb,i,none⟩ (.slice (some ⟨g,0,none⟩) (l.length+1) cap)).ownsRow 0 9 1 (.slice (some ⟨g,0,none⟩) (l.length+1) cap) (l++[x]).length ((l++[x]).map Value.string)/\∀k,(Value.slice (some ⟨g,0,none⟩) (l.length+1) cap).ownBlock=some k->(if k=g then c else A k)=c)/\(∀{u:Value} {n:Nat} {xs:List Value} {d:Nat},w.ownsRow 0 9 1 u n xs->(∀k,u.ownBlock=some k->A k=d)->d≠2->d≠c->(w7.setCell ⟨jb,i,none⟩ (.slice (some ⟨g,0,none⟩) (l.length+1) cap)).ownsRow 0 9 1 u n xs/\∀k,u.ownBlock=some k->(if k=g then c else A k)=d)/\nG (w7.setCell ⟨jb,i,none⟩ (.slice (some ⟨g,0,none⟩) (l.length+1) cap)) ub m J.un/\(if jb=g then c else A jb)=2/\(if ub=g then c else A ub)=4/\∀{J':fB},(∃ub m v1 v2 v3 v4,qW (fun k=>if k=g then c else A k) left jb fb (.pointer (some ⟨lb,0,none⟩)) ub m v1 v2 v3 v4 J' (w7.setCell ⟨jb,i,none⟩ (.slice (some ⟨g,0,none⟩) (l.length+1) cap)))->J'.r=J.r->J'.L=J.L->dL A a t left fb jb lb J' w (w7.setCell ⟨jb,i,none⟩ (.slice (some ⟨g,0,none⟩) (l.length+1) cap)):=by
 have hjl:=bN hj.row
 have Nc:v.ownBlock≠some jb:=fun e=>by have h1:=hv jb e;rw[hj.cj] at h1;omega
 have hgj:g≠jb:=fun e=>by
  rcases hat with q|q
  ·exact Nc (by rw[<-e];exact q)
  omega
 have hkp:∀k,k<w.heap.size->k≠jb->v.ownBlock≠some k->(w7.setCell ⟨jb,i,none⟩ (.slice (some ⟨g,0,none⟩) (l.length+1) cap)).heap[k]?=w.heap[k]?:=fun k hk h1 h2=>(au _ _ _ _ (show k≠jb from h1)).trans (hg.block k hk (fun e=>h2 e.symm))
 have hA2:∀k,k<w.heap.size->(if k=g then c else A k)=A k:=fun k hk=>by
  by_cases q:k=g
  ·rw[aH q]
   rcases hat with e|e
   ·exact(hv k (by rw[q];exact e)).symm
   omega
  exact aA q
 refine⟨hg.block jb hjl (fun e=>Nc e.symm),⟨by rw[aI,iI];exact dR hr (fun k hk=>au _ _ _ _ (show k≠jb from fun e=>hgj (by rw[<-e];exact ax hk))),fun k hk=>aH (ax hk).symm⟩,fun hu hd h2 h3=>⟨dR hu (fun k hk=>hkp k (bF hu k hk).2 (fun e=>by have h1:=hd k hk;rw[e,hj.cj] at h1;omega) (fun e=>by have h1:=hd k hk;have h2:=hv k e;omega)),fun k hk=>(hA2 k (bF hu k hk).2).trans (hd k hk)⟩,eu.keep hj.un (hkp ub hj.un.lt (fun e=>by have h1:=hj.cu;rw[e,hj.cj] at h1;omega) (fun e=>by have h1:=hv ub e;rw[hj.cu] at h1;omega)),(hA2 jb hjl).trans hj.cj,(hA2 ub hj.un.lt).trans hj.cu,fun hJ=>h.aeY (fH _) hA2 (fun k hk=>?_) ⟨hg.os,hg.output⟩ (by rw[dI];exact hg.size) (fun k hk q=>hkp k hk (fun e=>by rw[e,hj.cj] at q;omega) (fun e=>by rw[hv k e] at q;omega)) hJ⟩;have hgl:=(bF hr g rfl).2;rw[dI] at hk;exact(aA aJ).trans (h.above k (aC hg.size hk))
theorem iG.ai5(h:iG A a t (left+1) fb jb lb J w)(hj:qW A (left+1) jb fb (.pointer (some ⟨lb,0,none⟩)) ub m v1 v2 v3 v4 J w)(hg:w.grownBy w7 v1.ownBlock)(hat:v1.ownBlock=some g\/g=w.heap.size)(hr:w7.ownsRow 0 9 1 (.slice (some ⟨g,0,none⟩) (J.ran.length+1) cap) (J.ran.length+1) (J.ran.map Value.string++[.string x])):w7.cell? ⟨jb,3,none⟩=some v1/\w7.frozen? ⟨jb,3,none⟩=false/\dL A a t left fb jb lb {J with ran:=J.ran++[x]} w (w7.setCell ⟨jb,3,none⟩ (.slice (some ⟨g,0,none⟩) (J.ran.length+1) cap)):=by
 obtain⟨h1,h2,hk,hu,c1,c2,hd⟩:=iG.told (i:=3) h hj hj.c1 bS hg hat hr;have AQ:=h1.trans hj.row;refine⟨by rw[aj _ _ _ _ _ _ AQ];rfl,aD _ _ _ _ _ AQ,hd ⟨ub,m,.slice (some ⟨g,0,none⟩) (J.ran.length+1) cap,v2,v3,v4,by rw[aR _ _ _ _ _ _ AQ];rfl,hu,h2.1,(hk hj.r2 hj.c2 bS bS).1,(hk hj.r3 hj.c3 bS bS).1,(hk hj.r4 hj.c4 bS bS).1,c1,c2,h2.2,(hk hj.r2 hj.c2 bS bS).2,(hk hj.r3 hj.c3 bS bS).2,(hk hj.r4 hj.c4 bS bS).2,?_⟩ rfl rfl⟩;have h1:=hj.lim;simp only[aI,aY,dY] at h1⊢;omega
theorem iG.ai6(h:iG A a t (left+1) fb jb lb J w)(hj:qW A (left+1) jb fb (.pointer (some ⟨lb,0,none⟩)) ub m v1 v2 v3 v4 J w)(hg:w.grownBy w7 v2.ownBlock)(hat:v2.ownBlock=some g\/g=w.heap.size)(hr:w7.ownsRow 0 9 1 (.slice (some ⟨g,0,none⟩) (J.cl.length+1) cap) (J.cl.length+1) (J.cl.map Value.string++[.string x])):w7.cell? ⟨jb,4,none⟩=some v2/\w7.frozen? ⟨jb,4,none⟩=false/\dL A a t left fb jb lb {J with cl:=J.cl++[x]} w (w7.setCell ⟨jb,4,none⟩ (.slice (some ⟨g,0,none⟩) (J.cl.length+1) cap)):=by
 obtain⟨h1,h2,hk,hu,c1,c2,hd⟩:=iG.told (i:=4) h hj hj.c2 bS hg hat hr;have AQ:=h1.trans hj.row;refine⟨by rw[aj _ _ _ _ _ _ AQ];rfl,aD _ _ _ _ _ AQ,hd ⟨ub,m,v1,.slice (some ⟨g,0,none⟩) (J.cl.length+1) cap,v3,v4,by rw[aR _ _ _ _ _ _ AQ];rfl,hu,(hk hj.r1 hj.c1 bS bS).1,h2.1,(hk hj.r3 hj.c3 bS bS).1,(hk hj.r4 hj.c4 bS bS).1,c1,c2,(hk hj.r1 hj.c1 bS bS).2,h2.2,(hk hj.r3 hj.c3 bS bS).2,(hk hj.r4 hj.c4 bS bS).2,?_⟩ rfl rfl⟩;have h1:=hj.lim;simp only[aI,aY,dY] at h1⊢;omega
theorem iG.ai7(h:iG A a t (left+1) fb jb lb J w)(hj:qW A (left+1) jb fb (.pointer (some ⟨lb,0,none⟩)) ub m v1 v2 v3 v4 J w)(hg:w.grownBy w7 v3.ownBlock)(hat:v3.ownBlock=some g\/g=w.heap.size)(hr:w7.ownsRow 0 9 1 (.slice (some ⟨g,0,none⟩) (J.fa.length+1) cap) (J.fa.length+1) (J.fa.map Value.string++[.string x])):w7.cell? ⟨jb,5,none⟩=some v3/\w7.frozen? ⟨jb,5,none⟩=false/\dL A a t left fb jb lb {J with fa:=J.fa++[x]} w (w7.setCell ⟨jb,5,none⟩ (.slice (some ⟨g,0,none⟩) (J.fa.length+1) cap)):=by
 obtain⟨h1,h2,hk,hu,c1,c2,hd⟩:=iG.told (i:=5) h hj hj.c3 bS hg hat hr;have AQ:=h1.trans hj.row;refine⟨by rw[aj _ _ _ _ _ _ AQ];rfl,aD _ _ _ _ _ AQ,hd ⟨ub,m,v1,v2,.slice (some ⟨g,0,none⟩) (J.fa.length+1) cap,v4,by rw[aR _ _ _ _ _ _ AQ];rfl,hu,(hk hj.r1 hj.c1 bS bS).1,(hk hj.r2 hj.c2 bS bS).1,h2.1,(hk hj.r4 hj.c4 bS bS).1,c1,c2,(hk hj.r1 hj.c1 bS bS).2,(hk hj.r2 hj.c2 bS bS).2,h2.2,(hk hj.r4 hj.c4 bS bS).2,?_⟩ rfl rfl⟩;have h1:=hj.lim;simp only[aI,aY,dY] at h1⊢;omega
theorem iG.ai8(h:iG A a t (left+1) fb jb lb J w)(hj:qW A (left+1) jb fb (.pointer (some ⟨lb,0,none⟩)) ub m v1 v2 v3 v4 J w)(hg:w.grownBy w7 v4.ownBlock)(hat:v4.ownBlock=some g\/g=w.heap.size)(hr:w7.ownsRow 0 9 1 (.slice (some ⟨g,0,none⟩) (J.bl.length+1) cap) (J.bl.length+1) (J.bl.map Value.string++[.string x])):w7.cell? ⟨jb,6,none⟩=some v4/\w7.frozen? ⟨jb,6,none⟩=false/\dL A a t left fb jb lb {J with bl:=J.bl++[x]} w (w7.setCell ⟨jb,6,none⟩ (.slice (some ⟨g,0,none⟩) (J.bl.length+1) cap)):=by
 obtain⟨h1,h2,hk,hu,c1,c2,hd⟩:=iG.told (i:=6) h hj hj.c4 bS hg hat hr;have AQ:=h1.trans hj.row;refine⟨by rw[aj _ _ _ _ _ _ AQ];rfl,aD _ _ _ _ _ AQ,hd ⟨ub,m,v1,v2,v3,.slice (some ⟨g,0,none⟩) (J.bl.length+1) cap,by rw[aR _ _ _ _ _ _ AQ];rfl,hu,(hk hj.r1 hj.c1 bS bS).1,(hk hj.r2 hj.c2 bS bS).1,(hk hj.r3 hj.c3 bS bS).1,h2.1,c1,c2,(hk hj.r1 hj.c1 bS bS).2,(hk hj.r2 hj.c2 bS bS).2,(hk hj.r3 hj.c3 bS bS).2,h2.2,?_⟩ rfl rfl⟩;have h1:=hj.lim;simp only[aI,aY,dY] at h1⊢;omega
theorem acf(e:dA)(o:Nat)(ho:o<=3)(h:iG A a t (left+(e.outs.length+1)) fb jb lb J w)(hz:uf A w vo e.outs)(hvs:(∃p n c,vi=.slice p n c)/\(∃p n c,vm=.slice p n c)/\∃p n c,vr=.slice p n c)(hne:e.outs≠[])(hol:e.outs.length<=10000)(hox:∀x∈e.outs,x.size<=32):
  Calls Tryz.prog 99 #[.pointer (some ⟨jb,0,none⟩),.agg #[vo,vi,vm,vr,.string rl,.string cm],.int .i64 (o:Nat)] w fun e' w'=>e'=.returned (.tuple #[])/\dL A a t left fb jb lb (lH J e o) w w':=by
 have hinf:(Tryz.prog.info? 9).map (fun i=>(i.size,i.bytes,i.zero))=some (1,16,some (.string ⟨#[]⟩)):=dD
 obtain⟨tj,hti,htj⟩:=bA.1 hinf;simp only[Prod.mk.injEq] at htj;have HTJ:=aV (aO hti (aO htj.1 (aO htj.2.1 htj.2.2)));have HS0:=bB h;have HZ0:=bB hz;have HOL:=bB hol;have HOX:=bB hox;obtain⟨⟨⟨pi,ni,ci,rfl⟩,pm,nm,cim,rfl⟩,pr,nr,cr0,rfl⟩:((∃p n c,vi=.slice p n c)/\∃p n c,vm=.slice p n c)/\∃p n c,vr=.slice p n c:=⟨⟨hvs.1,hvs.2.1⟩,hvs.2.2⟩;have hb:Below w.heap.size w (w.alloc (.cells #[vo,.slice pi ni ci,.slice pm nm cim,.slice pr nr cr0,.string rl,.string cm] 63)):=(ay _ _).alloc (ai _) _
 obtain⟨x,q,hxq⟩:∃x q,e.outs=x::q:=by
  cases hh:e.outs with
  |nil=>exact absurd hh hne
  |cons x q=>exact⟨x,q,rfl⟩
 have HX:Hid (e.outs.headD ⟨#[]⟩=x):=by rw[hxq];exact rfl
 obtain⟨⟨nu,cO,rfl,hcO,htx⟩,hzz⟩:=hz
 obtain⟨g,oo,rfl,hct⟩:∃b o,nu=some ⟨b,o,none⟩/\∀k s,e.outs[k]?=some s->w.cell? ⟨b,o+k,none⟩=some (.string s):=by
  rcases htx with ⟨_,q2,_⟩|q2
  ·exact absurd q2 hne
  exact q2
 have cx0:(w.alloc (.cells #[.slice (some ⟨g,oo,none⟩) e.outs.length cO,.slice pi ni ci,.slice pm nm cim,.slice pr nr cr0,.string rl,.string cm] 63)).cell? ⟨g,oo,none⟩=some (.string x):=by
  have h1:=hct 0 x (by rw[hxq];rfl);exact(hb.cell (p:=⟨g,oo,none⟩) (aG h1)).trans h1
 have HW1:Hid ((w.alloc (.cells #[.slice (some ⟨g,oo,none⟩) e.outs.length cO,.slice pi ni ci,.slice pm nm cim,.slice pr nr cr0,.string rl,.string cm] 63)).heap[w.heap.size]?=some (.cells #[.slice (some ⟨g,oo,none⟩) e.outs.length cO,.slice pi ni ci,.slice pm nm cim,.slice pr nr cr0,.string rl,.string cm] 63 (0,0))/\Below w.heap.size w (w.alloc (.cells #[.slice (some ⟨g,oo,none⟩) e.outs.length cO,.slice pi ni ci,.slice pm nm cim,.slice pr nr cr0,.string rl,.string cm] 63))/\aW (JF A) w (w.alloc (.cells #[.slice (some ⟨g,oo,none⟩) e.outs.length cO,.slice pi ni ci,.slice pm nm cim,.slice pr nr cr0,.string rl,.string cm] 63))):=⟨bq _ _ _ rfl,hb,aW.of_below _ hb⟩;have FV:=aV (h.below hb)
 have hpos:(0:Int)<((e.outs.length:Nat):Int):=by rw[hxq,aY];omega
 generalize hNO:e.outs.length=NO at*;clear hinf hti htj h hvs hct hcO htx hzz hb hxq hne hol hox;have b0:(w.alloc (.cells #[.slice (some ⟨g,oo,none⟩) NO cO,.slice pi ni ci,.slice pm nm cim,.slice pr nr cr0,.string rl,.string cm] 63)).cell? ⟨w.heap.size,0,none⟩=some (.slice (some ⟨g,oo,none⟩) NO cO):=jy _ _ _ _ _ rfl;generalize hw1:w.alloc (.cells #[.slice (some ⟨g,oo,none⟩) NO cO,.slice pi ni ci,.slice pm nm cim,.slice pr nr cr0,.string rl,.string cm] 63)=w1 at*;obtain⟨ub,m,v1,v2,v3,v4,eD⟩:=FV.out.job;subst hNO
 obtain rfl|rfl|rfl|rfl:o=0\/o=1\/o=2\/o=3:=aJ
 case' inl=>
  go_enter Tryz.func99,Tryz.ntmps99
  have NA:=aV (iM w1 [.string x] 9);have Da:Hid ((w1.alloc (.cells #[.string x] 9)).ownsRow 0 9 1 v1 J.ran.length (J.ran.map Value.string)):=dR eD.r1 (fun k hk=>bC _ _ k (bF eD.r1 k hk).2)
  have hll:J.ran.length<=1000000000000:=by have:=eD.lim;omega
  have HST:Hid (iG A a t (left+(e.outs.length+1)) fb jb lb J (w1.alloc (.cells #[.string x] 9))):=FV.out.below ((ay _ _).alloc (ai _) _);have Ru:Hid (qW A (left+e.outs.length+1) jb fb (.pointer (some ⟨lb,0,none⟩)) ub m v1 v2 v3 v4 J (w1.alloc (.cells #[.string x] 9))):=(eD.less aJ).keep (fun _ _=>rfl) (fun k hk _=>bC _ _ k hk)
  have cr:w1.cell? ⟨jb,3,none⟩=some v1:=by rw[aj _ _ _ _ _ _ eD.row];rfl
  obtain⟨MS,xh,hvv,_,_⟩:=bE eD.r1;generalize Qp:J.ran.length=LL at*;have CP:=bB Qp;subst hvv;clear eD Qp
  go_wp2_with (at_builtin;refine wpList_append_lies _ rfl (.tmp 19) (.tmp 21) 32 rfl 0 9 tj (.string ⟨#[]⟩) 1 16 Tryz.underlying32 HTJ.out.1 HTJ.out.2.2.2 HTJ.out.2.1 HTJ.out.2.2.1 rfl bS _ LL (J.ran.map Value.string) rfl Da.out ⟨w1.heap.size,0,none⟩ 1 1 [.string x] rfl rfl NA.out (by intro u hu;simp only[bg,dH,kz] at hu;rcases hu with rfl;rfl) bS (by unfold maxLen;omega) aJ (aS _) _ rfl ?_;intro g7 lW w7 hv7 wW rF xu;refine dO ?_)
  have Jh:=bB (iG.ai5 (x:=x) (g:=g7) (cap:=lW) (HST.out.less (show left+e.outs.length+1<=_ by omega)) Ru.out wW rF (by rw[CP.out];exact hv7));rw[CP.out] at Jh;have d7:=Jh.out.1;have f7:=Jh.out.2.1;have HF:=bB Jh.out.2.2;clear hv7 wW rF xu Da NA HST Ru cr Jh;unfold Hid
  go_wp2_with fail
  first|go_end0|refine bV (eY rfl _ _ _) rfl ?_
  refine⟨rfl,?_⟩;unfold lH;rw[HX.out];exact dL.after (HW1.out.2.1.alloc HW1.out.2.1.size _) (HF.out.less aJ)
 case' inr.inl=>
  go_enter Tryz.func99,Tryz.ntmps99
  have NA:=aV (iM w1 [.string x] 9);have Da:Hid ((w1.alloc (.cells #[.string x] 9)).ownsRow 0 9 1 v2 J.cl.length (J.cl.map Value.string)):=dR eD.r2 (fun k hk=>bC _ _ k (bF eD.r2 k hk).2)
  have hll:J.cl.length<=1000000000000:=by have:=eD.lim;omega
  have HST:Hid (iG A a t (left+(e.outs.length+1)) fb jb lb J (w1.alloc (.cells #[.string x] 9))):=FV.out.below ((ay _ _).alloc (ai _) _);have Ru:Hid (qW A (left+e.outs.length+1) jb fb (.pointer (some ⟨lb,0,none⟩)) ub m v1 v2 v3 v4 J (w1.alloc (.cells #[.string x] 9))):=(eD.less aJ).keep (fun _ _=>rfl) (fun k hk _=>bC _ _ k hk)
  have cr:w1.cell? ⟨jb,4,none⟩=some v2:=by rw[aj _ _ _ _ _ _ eD.row];rfl
  obtain⟨MS,xh,hvv,_,_⟩:=bE eD.r2;generalize Qp:J.cl.length=LL at*;have CP:=bB Qp;subst hvv;clear eD Qp
  go_wp2_with (at_builtin;refine wpList_append_lies _ rfl (.tmp 33) (.tmp 35) 32 rfl 0 9 tj (.string ⟨#[]⟩) 1 16 Tryz.underlying32 HTJ.out.1 HTJ.out.2.2.2 HTJ.out.2.1 HTJ.out.2.2.1 rfl bS _ LL (J.cl.map Value.string) rfl Da.out ⟨w1.heap.size,0,none⟩ 1 1 [.string x] rfl rfl NA.out (by intro u hu;simp only[bg,dH,kz] at hu;rcases hu with rfl;rfl) bS (by unfold maxLen;omega) aJ (aS _) _ rfl ?_;intro g7 lW w7 hv7 wW rF xu;refine dO ?_)
  have Jh:=bB (iG.ai6 (x:=x) (g:=g7) (cap:=lW) (HST.out.less (show left+e.outs.length+1<=_ by omega)) Ru.out wW rF (by rw[CP.out];exact hv7));rw[CP.out] at Jh;have d7:=Jh.out.1;have f7:=Jh.out.2.1;have HF:=bB Jh.out.2.2;clear hv7 wW rF xu Da NA HST Ru cr Jh;unfold Hid
  go_wp2_with fail
  first|go_end0|refine bV (eY rfl _ _ _) rfl ?_
  refine⟨rfl,?_⟩;unfold lH;rw[HX.out];exact dL.after (HW1.out.2.1.alloc HW1.out.2.1.size _) (HF.out.less aJ)
 case' inr.inr.inl=>
  go_enter Tryz.func99,Tryz.ntmps99
  have NA:=aV (iM w1 [.string x] 9);have Da:Hid ((w1.alloc (.cells #[.string x] 9)).ownsRow 0 9 1 v3 J.fa.length (J.fa.map Value.string)):=dR eD.r3 (fun k hk=>bC _ _ k (bF eD.r3 k hk).2)
  have hll:J.fa.length<=1000000000000:=by have:=eD.lim;omega
  have HST:Hid (iG A a t (left+(e.outs.length+1)) fb jb lb J (w1.alloc (.cells #[.string x] 9))):=FV.out.below ((ay _ _).alloc (ai _) _);have Ru:Hid (qW A (left+e.outs.length+1) jb fb (.pointer (some ⟨lb,0,none⟩)) ub m v1 v2 v3 v4 J (w1.alloc (.cells #[.string x] 9))):=(eD.less aJ).keep (fun _ _=>rfl) (fun k hk _=>bC _ _ k hk)
  have cr:w1.cell? ⟨jb,5,none⟩=some v3:=by rw[aj _ _ _ _ _ _ eD.row];rfl
  obtain⟨MS,xh,hvv,_,_⟩:=bE eD.r3;generalize Qp:J.fa.length=LL at*;have CP:=bB Qp;subst hvv;clear eD Qp
  go_wp2_with (at_builtin;refine wpList_append_lies _ rfl (.tmp 47) (.tmp 49) 32 rfl 0 9 tj (.string ⟨#[]⟩) 1 16 Tryz.underlying32 HTJ.out.1 HTJ.out.2.2.2 HTJ.out.2.1 HTJ.out.2.2.1 rfl bS _ LL (J.fa.map Value.string) rfl Da.out ⟨w1.heap.size,0,none⟩ 1 1 [.string x] rfl rfl NA.out (by intro u hu;simp only[bg,dH,kz] at hu;rcases hu with rfl;rfl) bS (by unfold maxLen;omega) aJ (aS _) _ rfl ?_;intro g7 lW w7 hv7 wW rF xu;refine dO ?_)
  have Jh:=bB (iG.ai7 (x:=x) (g:=g7) (cap:=lW) (HST.out.less (show left+e.outs.length+1<=_ by omega)) Ru.out wW rF (by rw[CP.out];exact hv7));rw[CP.out] at Jh;have d7:=Jh.out.1;have f7:=Jh.out.2.1;have HF:=bB Jh.out.2.2;clear hv7 wW rF xu Da NA HST Ru cr Jh;unfold Hid;obtain⟨w8,hw8⟩:∃w8,w8=w7.setCell ⟨jb,5,none⟩ (.slice (some ⟨g7,0,none⟩) (LL+1) lW):=⟨_,rfl⟩;rw[<-hw8] at HF;obtain⟨A8,hs8,Qo,Ku⟩:=HF.out;have Vf:Hid (aW (JF A) w w8/\∀k,k<w.heap.size->A8 k=A k):=⟨HW1.out.2.2.trans (aW.of_below (JF A) ((ay _ _).alloc (ai _) _)) (fun _ hk=>aK hk)|>fun h=>ji (fun _ _=>rfl) h Ku,fun k hk=>Qo k (aB hk (aC HW1.out.2.2.size (by rw[bO];exact fH _)))⟩
  have hbx:w8.heap[w.heap.size]?=some (.cells #[.slice (some ⟨g,oo,none⟩) e.outs.length cO,.slice pi ni ci,.slice pm nm cim,.slice pr nr cr0,.string rl,.string cm] 63 (0,0)):=by
   have hlt:=bN HW1.out.1;refine(Ku.block w.heap.size (by rw[bO];omega) (fun q=>?_)).trans ((bC _ _ _ hlt).trans HW1.out.1);have h0:=HS0.out.above w.heap.size (ai _);unfold JF at q;omega
  have b0:w8.cell? ⟨w.heap.size,0,none⟩=some (.slice (some ⟨g,oo,none⟩) e.outs.length cO):=by rw[aj _ _ _ _ _ _ hbx];rfl
  have HMS:=bB (TH hs8 (HZ0.out.later Vf.out.2 Vf.out.1) (by have:=HOL.out;omega) HOX.out);rw[hw8] at b0;have HW8:=bB hw8;clear hs8 Qo Ku HF hbx hw8
  go_wp2_with fail
  rw[<-HW8.out];refine HMS.out.mono ?_;rintro e9 w9 ⟨rfl,hse⟩;have HE9:=bB (dL.trans Vf.out.2 Vf.out.1 hse);clear hse HMS b0
  go_wp2_with fail
  first|go_end0|refine bV (eY rfl _ _ _) rfl ?_
  exact⟨rfl,by unfold lH;rw[HX.out];exact HE9.out⟩
 case' inr.inr.inr=>
  go_enter Tryz.func99,Tryz.ntmps99
  have NA:=aV (iM w1 [.string x] 9);have Da:Hid ((w1.alloc (.cells #[.string x] 9)).ownsRow 0 9 1 v4 J.bl.length (J.bl.map Value.string)):=dR eD.r4 (fun k hk=>bC _ _ k (bF eD.r4 k hk).2)
  have hll:J.bl.length<=1000000000000:=by have:=eD.lim;omega
  have HST:Hid (iG A a t (left+(e.outs.length+1)) fb jb lb J (w1.alloc (.cells #[.string x] 9))):=FV.out.below ((ay _ _).alloc (ai _) _);have Ru:Hid (qW A (left+e.outs.length+1) jb fb (.pointer (some ⟨lb,0,none⟩)) ub m v1 v2 v3 v4 J (w1.alloc (.cells #[.string x] 9))):=(eD.less aJ).keep (fun _ _=>rfl) (fun k hk _=>bC _ _ k hk)
  have cr:w1.cell? ⟨jb,6,none⟩=some v4:=by rw[aj _ _ _ _ _ _ eD.row];rfl
  obtain⟨MS,xh,hvv,_,_⟩:=bE eD.r4;generalize Qp:J.bl.length=LL at*;have CP:=bB Qp;subst hvv;clear eD Qp
  go_wp2_with (at_builtin;refine wpList_append_lies _ rfl (.tmp 65) (.tmp 67) 32 rfl 0 9 tj (.string ⟨#[]⟩) 1 16 Tryz.underlying32 HTJ.out.1 HTJ.out.2.2.2 HTJ.out.2.1 HTJ.out.2.2.1 rfl bS _ LL (J.bl.map Value.string) rfl Da.out ⟨w1.heap.size,0,none⟩ 1 1 [.string x] rfl rfl NA.out (by intro u hu;simp only[bg,dH,kz] at hu;rcases hu with rfl;rfl) bS (by unfold maxLen;omega) aJ (aS _) _ rfl ?_;intro g7 lW w7 hv7 wW rF xu;refine dO ?_)
  have Jh:=bB (iG.ai8 (x:=x) (g:=g7) (cap:=lW) (HST.out.less (show left+e.outs.length+1<=_ by omega)) Ru.out wW rF (by rw[CP.out];exact hv7));rw[CP.out] at Jh;have d7:=Jh.out.1;have f7:=Jh.out.2.1;have HF:=bB Jh.out.2.2;clear hv7 wW rF xu Da NA HST Ru cr Jh;unfold Hid;obtain⟨w8,hw8⟩:∃w8,w8=w7.setCell ⟨jb,6,none⟩ (.slice (some ⟨g7,0,none⟩) (LL+1) lW):=⟨_,rfl⟩;rw[<-hw8] at HF;obtain⟨A8,hs8,Qo,Ku⟩:=HF.out;have Vf:Hid (aW (JF A) w w8/\∀k,k<w.heap.size->A8 k=A k):=⟨HW1.out.2.2.trans (aW.of_below (JF A) ((ay _ _).alloc (ai _) _)) (fun _ hk=>aK hk)|>fun h=>ji (fun _ _=>rfl) h Ku,fun k hk=>Qo k (aB hk (aC HW1.out.2.2.size (by rw[bO];exact fH _)))⟩
  have hbx:w8.heap[w.heap.size]?=some (.cells #[.slice (some ⟨g,oo,none⟩) e.outs.length cO,.slice pi ni ci,.slice pm nm cim,.slice pr nr cr0,.string rl,.string cm] 63 (0,0)):=by
   have hlt:=bN HW1.out.1;refine(Ku.block w.heap.size (by rw[bO];omega) (fun q=>?_)).trans ((bC _ _ _ hlt).trans HW1.out.1);have h0:=HS0.out.above w.heap.size (ai _);unfold JF at q;omega
  have b0:w8.cell? ⟨w.heap.size,0,none⟩=some (.slice (some ⟨g,oo,none⟩) e.outs.length cO):=by rw[aj _ _ _ _ _ _ hbx];rfl
  have HMS:=bB (TH hs8 (HZ0.out.later Vf.out.2 Vf.out.1) (by have:=HOL.out;omega) HOX.out);rw[hw8] at b0;have HW8:=bB hw8;clear hs8 Qo Ku HF hbx hw8
  go_wp2_with fail
  rw[<-HW8.out];refine HMS.out.mono ?_;rintro e9 w9 ⟨rfl,hse⟩;have HE9:=bB (dL.trans Vf.out.2 Vf.out.1 hse);clear hse HMS b0
  go_wp2_with fail
  first|go_end0|refine bV (eY rfl _ _ _) rfl ?_
  exact⟨rfl,by unfold lH;rw[HX.out];exact HE9.out⟩
structure xR(A:Nat->Nat)(a:Nat->Addr)(t:Nat->ah)(left fb jb:Nat)(pl:Value)(J:fB)(w:ak):Prop where
 env:vP A a t w
 rounds:jC w
 files:qf A left fb J.r w
 job:∃ub m v1 v2 v3 v4,qW A left jb fb pl ub m v1 v2 v3 v4 J w
 above:∀k,w.heap.size<=k->A k=0
theorem iG.bare(h:iG A a t left fb jb lb J w):xR A a t left fb jb (.pointer (some ⟨lb,0,none⟩)) J w:=⟨h.env,h.rounds,h.files,h.job,h.above⟩
variable {pl:Value}
theorem xR.below(h:xR A a t left fb jb pl J w)(hb:Below w.heap.size w w'):xR A a t left fb jb pl J w':=by
 obtain⟨ub,m,v1,v2,v3,v4,hj⟩:=h.job;exact⟨h.env.keep hb.size (fun _ _=>rfl) (fun k hk _=>hb.block k hk),h.rounds.later (fun k hk=>hb.block k hk),h.files.keep (fun _ _=>rfl) (fun k hk _=>hb.block k hk),⟨ub,m,v1,v2,v3,v4,hj.keep (fun _ _=>rfl) (fun k hk _=>hb.block k hk)⟩,fun k hk=>h.above k (aC hb.size hk)⟩
variable {L:kD}
theorem xR.booked{w1:ak}(h:xR A a t left fb jb pl J w)(hB:Below w.heap.size w w1)(hb:jK w1 lb mb vn n L)(hF:∀k,oJ lb mb vn k->w.heap.size<=k)(hn:n+left<=1000000000000)(hc:L.count+left<=1000000000000):w1.cell? ⟨jb,1,none⟩=some pl/\w1.frozen? ⟨jb,1,none⟩=false/\dL A a t left fb jb lb {J with L:=L} w (w1.setCell ⟨jb,1,none⟩ (.pointer (some ⟨lb,0,none⟩))):=by
 obtain⟨ub,m,v1,v2,v3,v4,hj⟩:=(h.below hB).job;obtain⟨ub',m',v1',v2',v3',v4',hj0⟩:=h.job;have hjl:=bN hj0.row;obtain⟨A2,e1,e2,e3⟩:=Ga A w.heap.size 3 (oJ lb mb vn)
 have hkp:∀k,k≠jb->(w1.setCell ⟨jb,1,none⟩ (.pointer (some ⟨lb,0,none⟩))).heap[k]?=w1.heap[k]?:=fun k hk=>au _ _ _ _ (show k≠jb from hk)
 have hk0:∀k,k<w.heap.size->k≠jb->(w1.setCell ⟨jb,1,none⟩ (.pointer (some ⟨lb,0,none⟩))).heap[k]?=w.heap[k]?:=fun k hk hn=>(hkp k hn).trans (hB.block k hk)
 have hs:w.heap.size<=(w1.setCell ⟨jb,1,none⟩ (.pointer (some ⟨lb,0,none⟩))).heap.size:=by rw[dI];exact hB.size
 have hjc:=hj0.cj
 have hr:(w1.setCell ⟨jb,1,none⟩ (.pointer (some ⟨lb,0,none⟩))).heap[jb]?=some (.cells #[.pointer (some ⟨fb,0,none⟩),.pointer (some ⟨lb,0,none⟩),.map (some ub'),v1',v2',v3',v4'] 125 (0,0)):=by
  rw[aR _ _ _ _ _ _ ((hB.block jb hjl).trans hj0.row)];rfl
 have hw1:w1.heap[jb]?=_:=(hB.block jb hjl).trans hj0.row
 have ro:∀{v:Value} {n:Nat} {xs:List Value} {c:Nat},w.ownsRow 0 9 1 v n xs->(∀k,v.ownBlock=some k->A k=c)->4<=c->(w1.setCell ⟨jb,1,none⟩ (.pointer (some ⟨lb,0,none⟩))).ownsRow 0 9 1 v n xs/\∀k,v.ownBlock=some k->A2 k=c:=fun {v n xs c} hr hc h4=>⟨dR hr (fun k hk=>hk0 k (bF hr k hk).2 (fun e=>by have h1:=hc k hk;rw[e,hjc] at h1;omega)),fun k hk=>by rw[e1 k (bF hr k hk).2];exact hc k hk⟩
 have q1:=ro hj0.r1 hj0.c1 bS;have q2:=ro hj0.r2 hj0.c2 bS;have q3:=ro hj0.r3 hj0.c3 bS;have q4:=ro hj0.r4 hj0.c4 bS;refine⟨by rw[aj _ _ _ _ _ _ hw1];rfl,aD _ _ _ _ _ hw1,A2,⟨h.env.keep hs e1 (fun k hk h0=>hk0 k hk (fun e=>by rw[e,hjc] at h0;omega)),h.rounds.keep (fun k hk=>hk0 k (aB hk h.env.glob) (fun e=>by have h0:=h.env.zero k hk;rw[e,hjc] at h0;omega)),h.files.keep e1 (fun k hk q=>hk0 k hk (fun e=>by rw[e,hjc] at q;omega)),⟨ub',m',v1',v2',v3',v4',hr,eu.keep hj0.un (hk0 ub' hj0.un.lt (fun e=>by have h1:=hj0.cu;rw[e,hjc] at h1;omega)),q1.1,q2.1,q3.1,q4.1,by rw[e1 jb hjl];exact hjc,by rw[e1 ub' hj0.un.lt];exact hj0.cu,q1.2,q2.2,q3.2,q4.2,hj0.lim⟩,⟨mb,vn,n,hb.keep (fun k q=>hkp k (fun e=>by have:=hF k q;omega)),fun k q=>e2 k (hF k q) q,hn,hc⟩,fun k hk=>?_⟩,e1,⟨hB.os,hB.output,hs,fun k hk hF=>hk0 k hk (fun e=>hF (by rw[e];exact⟨by rw[hjc];decide,by rw[hjc];decide⟩))⟩⟩;rw[dI] at hk;exact e3 k (aC hB.size hk) (fun q=>by have:=hb.lt k q;omega)
theorem sG.turns(h:sG w v l)(hz:∀k,v.ownBlock=some k->A k=0)(ht:aW (JF A) w w'):sG w' v l:=by
 obtain⟨ao,cap,rfl,hc,h|⟨g,o,rfl,hg,h⟩⟩:=h
 ·exact⟨ao,cap,rfl,hc,aK h⟩
 refine⟨_,cap,rfl,hc,aP ⟨g,o,rfl,aB hg ht.size,fun k r hr j u hu=>(aF (w:=w) (a:=⟨g,o+k*65+j,none⟩) (ht.block g hg (fun q=>?_))).trans (h k r hr j u hu)⟩⟩;have h0:=hz g rfl;unfold JF at q;omega
theorem sG.lt(h:sG w v l)(hl:l≠[])(k:Nat)(hk:v.ownBlock=some k):k<w.heap.size:=by
 obtain⟨ao,cap,rfl,hc,h|⟨g,o,rfl,hg,h⟩⟩:=h
 ·exact absurd h hl
 rw[<-ax hk];exact hg
structure PI(A:Nat->Nat)(a:Nat->Addr)(t:Nat->ah)(left fb jb lb:Nat)(J:fB)(w:ak)(l:List gG)(v:Value)(A':Nat->Nat)(wr:ak):Prop where
 site:iG A' a t left fb jb lb J wr
 hA:∀k,k<w.heap.size->A' k=A k
 turns:aW (JF A) w wr
 recs:sG wr v l
 zero:l≠[]->∀k,v.ownBlock=some k->A' k=0
theorem PI.after(h:PI A a t left fb jb lb J w l v A' wr)(he:dL A' a t left' fb jb lb J' wr w'):∃A2,PI A a t left' fb jb lb J' w l v A2 w':=by
 obtain⟨A2,h1,h2,h3⟩:=he;refine⟨A2,h1,fun k hk=>(h2 k (aB hk h.turns.size)).trans (h.hA k hk),ji h.hA h.turns h3,?_,fun hl k hk=>(h2 k (h.recs.lt hl k hk)).trans (h.zero hl k hk)⟩
 by_cases hl:l=[]
 ·obtain⟨ao,cap,rfl,hc,_⟩:=h.recs;exact⟨ao,cap,rfl,hc,aK hl⟩
 exact h.recs.turns (h.zero hl) h3
theorem abP(h:wU L)(hr:∀x r,L.last x=some r->lU r):(∀r∈kr L,lU r)/\(kr L).length<=L.count:=by
 refine⟨fun r hq=>?_,aC (wZ _ _) h.le⟩;obtain⟨x,_,hx⟩:=jw.1 hq;exact hr x r hx
end
end Go.Proofs.YthhbpebihgjpjaaGreatDoor
