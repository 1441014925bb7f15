import Derived.Test.YthhbpebihgjpjaaGreatDoorZ39
namespace Go.Proofs.YthhbpebihgjpjaaGreatDoor
set_option maxRecDepth 1000000
set_option maxHeartbeats 20000000
set_option linter.all false
section
open Go.RowKit Go.Maps
variable {r:gm}
theorem Ox(h:lN r):(bE r).drop 1=Lib.strCells r.sig++Lib.strCells r.sum/\(∀j u,(Lib.strCells r.sig)[j]?=some u->(bE r)[1+j]?=some u)/\∀j u,(Lib.strCells r.sum)[j]?=some u->(bE r)[33+j]?=some u:=by
 refine⟨rfl,fun j u hu=>?_,fun j u hu=>?_⟩
 ·rw[Yy];show(Lib.strCells r.sig++Lib.strCells r.sum)[j]?=some u;rw[bQ (aJ.1 hu).1];exact hu
 rw[show 33+j=(32+j)+1 by omega];show(Lib.strCells r.sig++Lib.strCells r.sum)[32+j]?=some u;rw[dh (by rw[Lib.strCells_length,h.sig];omega),Lib.strCells_length,h.sig,Nat.add_sub_cancel_left];exact hu
variable {P:Program}{ops:Array Oper}{rest:List Oper}{op:Oper}{w:aj}{Q:Exit->Act->aj->Prop}
theorem yQ{a:Act}(hw:Region.wanted op (yielded ops a.tmps)=true)(ty:TypeId)(x:Operand)(ho:op.op=.load ty x)
  (b o:Nat) (hx:a.eval x=.pointer (some ⟨b,o,none⟩)) (cs:List Value) (d:TypeDesc) (hc:w.rangeAt b o cs) (hu:P.underlying ty=some d) (hd:d.isRow=true) (hi:(P.info? ty).map (·.size)=some cs.length)
  (h:wpList P ops Q rest (a.put op.dst (.agg cs.toArray)) w):wpList P ops Q (op::rest) a w:=by
 unfold wpList;rw[aD hw];exact aG (wp_load_mid ty x ho b o hx cs d hc hu hd hi h)
structure tu(A:Nat->Nat)(a:Nat->Addr)(t:Nat->ah)(left fb jb lb:Nat)(J:eZ)(w:aj)(SG:Array Value)(A':Nat->Nat)(wr:aj):Prop where
 site:iA A' a t left fb jb lb J wr
 hA:∀k,k<w.heap.size->A' k=A k
 turns:aQ (JF A) w wr
 box:wr.heap[w.heap.size]?=some (.cells SG 217 (0,0))
 zero:A' w.heap.size=0
variable {A A':Nat->Nat}{a:Nat->Addr}{t:Nat->ah}{left fb jb lb:Nat}{J:eZ}{SG:Array Value}{wr w':aj}
theorem tu.below(h:tu A a t left fb jb lb J w SG A' wr)(hb:Below wr.heap.size wr w'):tu A a t left fb jb lb J w SG A' w':=
 ⟨h.site.below hb,h.hA,h.turns.trans (aQ.of_below (JF A) hb) (fun _ hk=>aG hk),(hb.block _ (bI h.box)).trans h.box,h.zero⟩
variable {A2:Nat->Nat}
theorem tu.after(h:tu A a t left fb jb lb J w SG A' wr)(h1:iA A2 a t left fb jb lb J w')(h2:∀k,k<wr.heap.size->A2 k=A' k)(h3:aQ (JF A') wr w'):tu A a t left fb jb lb J w SG A2 w':=
 ⟨h1,fun k hk=>(h2 k (ay hk h.turns.size)).trans (h.hA k hk),je h.hA h.turns h3,(h3.block _ (bI h.box) (fun q=>by have:=h.zero;unfold JF at q;omega)).trans h.box,(h2 _ (bI h.box)).trans h.zero⟩
variable {v:Value}{outs:List ah}{sig:ah}
theorem SY(h:iA A a t left fb jb lb J w)(ht:tX A w v outs)(hl:outs.length<=100000)(hx:∀x∈outs,x.size<=32)(hsg:sig.size=32):
  Calls Tryz.prog 167 #[.pointer (some ⟨jb,0,none⟩),v,.agg (Lib.strCells sig).toArray] w fun e w'=>e=.returned (.bool (wN J.r J.L outs sig))/\dF A a t left fb jb lb J w w':=by
 have HT:=aY ht;have HS:=aY h;have HX:=aP (aK hx hsg)
 have HI:Hid ((Tryz.prog.info? 217).map (·.size)=some 32):=by unfold Hid;kernel_rfl
 have HI2:Hid ((Tryz.prog.info? 372).map (·.size)=some 65):=by unfold Hid;kernel_rfl
 have HZ:Hid (Tryz.zeroCells372.size=65/\Tryz.zeroCells372.all (·.oneCell')=true):=⟨by kernel_rfl,by kernel_rfl⟩;obtain⟨⟨ao,cap,rfl,_,_⟩,_⟩:=ht;generalize hL:outs.length=L at*;have HL:=aY hL
 have l0:(L:Int)<=100000:=by omega
 have Mt:Hid ((Lib.strCells sig).toArray.size=32/\(Lib.strCells sig).toArray.toList=Lib.strCells sig/\(Lib.strCells sig).toArray.all (·.oneCell')=true):=⟨by rw[bT,Lib.strCells_length,hsg],rfl,dY (fun u hu=>by obtain⟨y,_,rfl⟩:=fH.1 hu;rfl)⟩;have HB0:Hid (Below w.heap.size w (w.alloc (.cells (Lib.strCells sig).toArray 217))/\(w.alloc (.cells (Lib.strCells sig).toArray 217)).heap[w.heap.size]?=some (.cells (Lib.strCells sig).toArray 217 (0,0))):=⟨(au _ _).alloc (ai _) _,aW _ _ _ rfl⟩;have hss:=Mt.out.1;generalize hSG:(Lib.strCells sig).toArray=SG at*;have HSG:=aY hSG;clear h hx hL hSG hsg
 go_enter Tryz.func167,Tryz.ntmps167
 go_wp2_with fail
 generalize w.alloc (.cells SG 217)=w1 at*
 go_loopw [15] (fun i wr=>∃(j:Nat) (A':Nat->Nat),i=.int .i64 j/\j<=L/\(outs.take j).all (qJ J.r J.L sig)=true/\tu A a t left fb jb lb J w SG A' wr) (fun i _=>L-(intOf i).toNat)
 case atStart=>exact⟨0,A,rfl,aN _,rfl,HS.out.below HB0.out.1,fun _ _=>rfl,aQ.of_below _ HB0.out.1,HB0.out.2,HS.out.above _ (ai _)⟩
 case round=>
  clear HB0;obtain⟨j,A',rfl,hj,hcl,hmid⟩:=hrel;have HM:=aP (aK hcl hmid)
  have j0:(0:Int)<=(j:Int):=by omega
  by_cases hlt:j<L
  ·have j1:(j:Int)<(L:Int):=by omega
   obtain⟨x,hx⟩:∃x,outs[j]?=some x:=⟨outs[j]'(by have:=HL.out;omega),by simp⟩;obtain⟨Bl,cap',e5,_,h6⟩:=HT.out.turns hmid.turns;injection e5 with f1 f2 f3
   rcases h6 with ⟨_,q,_⟩|⟨b,o,q,hct⟩
   ·exfalso;rw[q] at hx;simp at hx
   rw[q] at f1;subst f1;have cx:=hct j x hx;have hxs:=HX.out.1 x (aO hx);obtain⟨ub,m,v1,v2,v3,v4,dV⟩:=hmid.site.job;obtain⟨mb,vn,n,hbk,hcb,_⟩:=hmid.site.book
   have c1:wr.cell? ⟨jb,1,none⟩=some (.pointer (some ⟨lb,0,none⟩)):=by rw[bZ dV.row];rfl
   have c2:wr.cell? ⟨lb,2,none⟩=some (.map (some mb)):=by rw[bZ hbk.row];rfl
   have hlk:=hbk.last.look_ok (t:=268) Tryz.underlying268 yT x (by unfold maxLen;omega);rw[Fb] at hlk;have Br:Hid (outs.take (j+1)=outs.take j++[x]/\x∈outs/\x.size<=32):=⟨by rw[dN,hx];rfl,aO hx,hxs⟩
   have uR:Hid (qJ J.r J.L sig x=false->wN J.r J.L outs sig=false):=fun h=>Yx.2 ⟨x,aO hx,by rw[h];exact eX⟩
   have HCO:Hid (qJ J.r J.L sig x=match J.L.last x with|none=>false|some rc=>decide (rc.sig=sig)&&match dG J.r x with|none=>false|some d=>decide (rc.sum=gM d)):=rfl;have HPR:=aY hcl
   have Bq:Hid (∀rc,J.L.last x=some rc->lN rc):=fun rc hrc=>hbk.recs x rc hrc
   have hvC:(yG J.L x).getD (.agg Tryz.zeroCells372)=match J.L.last x with|none=>.agg Tryz.zeroCells372|some rc=>.agg (bE rc).toArray:=by unfold yG;cases J.L.last x<;>rfl
   rw[hvC] at hlk;clear hvC dV hbk hcb hct hx hcl hmid f2 f3 hxs
   cases hlast:J.L.last x with
   |none=>
    rw[hlast] at hlk;have HF:Hid (wN J.r J.L outs sig=false):=uR.out (by rw[HCO.out,hlast]);clear hlast HCO uR
    go_wp2_with (first
     | (generalize hZZ:Tryz.zeroCells372=Z at*;refine bU rfl 372 (.tmp 9) (.tmp 29) rfl wr.heap.size 0 Z rfl rfl (bM (aW _ _ _ rfl) 0 _ (by rw[HZ.out.1];decide)) (by rw[HZ.out.1];exact HI2.out) HZ.out.2 ?_;refine dI ?_)
     |fail)
    have HB3:Hid (Below wr.heap.size wr ((wr.alloc (.cells Z 372)).setCells wr.heap.size 0 Z.toList)):=ji _ _ ((au _ _).alloc (ai _) _) (ai _);generalize (wr.alloc (.cells Z 372)).setCells wr.heap.size 0 Z.toList=w3 at*;unfold Hid
    go_wp2_with fail
    go_ret;exact⟨by rw[HF.out];rfl,dF.trans HM.out.2.hA HM.out.2.turns (dF.refl HM.out.2.site HB3.out)⟩
   |some rc=>
    have HOK:=aP (Bq.out rc hlast)
    have HCQ:Hid (qJ J.r J.L sig x=(decide (rc.sig=sig)&&match dG J.r x with|none=>false|some d=>decide (rc.sum=gM d))):=by show _=_;rw[HCO.out,hlast]
    rw[hlast] at hlk;simp only[fT] at hlk;have HC:Hid ((bE rc).toArray.size=65/\(bE rc).toArray.all (·.oneCell')=true/\(bE rc).toArray.toList=bE rc):=⟨by rw[bT];exact iO HOK.out,dY (lK rc),rfl⟩;clear hlast HCO Bq;generalize (bE rc).toArray=C at*
    go_wp2_with (first
     | (generalize hZZ:Tryz.zeroCells372=Z at*;refine bU rfl 372 (.tmp 9) (.tmp 29) rfl wr.heap.size 0 C rfl rfl (bM (aW _ _ _ rfl) 0 _ (by rw[HC.out.1,HZ.out.1];decide)) (by rw[HC.out.1];exact HI2.out) HC.out.2.1 ?_;refine dI ?_)
     |fail)
    have HW3:Hid (Below wr.heap.size wr ((wr.alloc (.cells Z 372)).setCells wr.heap.size 0 C.toList)/\((wr.alloc (.cells Z 372)).setCells wr.heap.size 0 C.toList).rangeAt wr.heap.size 0 (bE rc)):=⟨ji _ _ ((au _ _).alloc (ai _) _) (ai _),by
     rw[<-HC.out.2.2]
     exact dW _ _ _ _ (bM (aW _ _ _ rfl) 0 _ (by rw[aR,HC.out.1,HZ.out.1];decide))⟩
    generalize (wr.alloc (.cells Z 372)).setCells wr.heap.size 0 C.toList=w3 at*;have HM3:Hid (tu A a t left fb jb lb J w SG A' w3/\w3.rangeAt wr.heap.size 0 (bE rc)/\A' wr.heap.size=0):=⟨HM.out.2.below HW3.out.1,HW3.out.2,HM.out.2.site.above _ (ai _)⟩;generalize wr.heap.size=eb at*;clear hlk c1 c2 cx HW3 hZZ
    have afo:Hid (w3.rangeAt eb 1 (Lib.strCells rc.sig)/\w3.rangeAt w.heap.size 0 SG.toList):=⟨fun i u hu=>by
     have h:=HM3.out.2.1 (1+i) u ((Ox HOK.out).2.1 i u hu);rw[bW] at h
     exact h,fun i u hu=>by rw[bZ HM3.out.1.box,bW,<-bV];exact hu⟩
    have HL1:Hid ((Tryz.prog.info? 217).map (·.size)=some (Lib.strCells rc.sig).length/\(Tryz.prog.info? 217).map (·.size)=some SG.toList.length):=⟨by rw[Lib.strCells_length,HOK.out.sig];exact HI.out,by rw[aR,Mt.out.1];exact HI.out⟩
    have hneq:∀wx,(Op.equalIn 10000 217 (.agg (Lib.strCells rc.sig).toArray) (.agg SG)).run Tryz.prog wx=.ok (decide (rc.sig=sig)) wx:=fun wx=>by rw[<-HSG.out];exact XQ _ _ HOK.out.sig HX.out.2 wx
    unfold Hid
    go_wp2_with (first
     | (refine yQ (by kernel_rfl) 217 (.tmp 34) rfl eb 1 rfl (Lib.strCells rc.sig) _ afo.out.1 Tryz.underlying217 rfl HL1.out.1 ?_;refine dI ?_)
     |fail)
    unfold Hid
    go_wp2_with (first
     | (refine yQ (by kernel_rfl) 217 (.tmp 5) rfl w.heap.size 0 rfl SG.toList _ afo.out.2 Tryz.underlying217 rfl HL1.out.2 ?_;refine dI ?_)
     |fail)
    rw[cK];generalize decide (rc.sig=sig)=dq at*;clear afo HL1
    rcases dq with _|_
    ·have HF:Hid (wN J.r J.L outs sig=false):=uR.out (by rw[HCQ.out];rfl);unfold Hid
     go_wp2_with fail
     go_ret;exact⟨by rw[HF.out];rfl,A',HM3.out.1.site,HM3.out.1.hA,HM3.out.1.turns⟩
    obtain⟨ub,m,v1,v2,v3,v4,dV⟩:=HM3.out.1.site.job
    have c0:w3.cell? ⟨jb,0,none⟩=some (.pointer (some ⟨fb,0,none⟩)):=by rw[bZ dV.row];rfl
    have CO:=aY (Gr HM3.out.1.site x (by have:=Br.out.2.2;omega));have HDZ:=aP (HM3.out.1.site.size x);clear dV;unfold Hid
    go_wp2_with fail
    refine CO.out.mono ?_;rintro e3 w4 ⟨ve,rfl,hve,A4,hs4,hA4,ht4⟩
    have qY:Hid (tu A a t left fb jb lb J w SG A4 w4/\w4.rangeAt eb 33 (Lib.strCells rc.sum)):=by
     refine⟨HM3.out.1.after hs4 hA4 ht4,fun i u hu=>?_⟩;have h:=HM3.out.2.1 (33+i) u ((Ox HOK.out).2.2 i u hu);rw[bW] at h;exact(aB (w:=w3) (a:=⟨eb,33+i,none⟩) (ht4.block eb (aC h) (fun q=>by have:=HM3.out.2.2;unfold JF at q;omega))).trans h
    clear hs4 hA4 ht4 c0 CO HM3 hneq HM
    rcases hve with ⟨hso,rfl⟩|⟨hno,rfl⟩
    ·obtain⟨d,hd⟩:=fI.1 hso;have hdz:=HDZ.out;rw[hd] at hdz⊢;have hdz:d.size<=65536:=hdz
     have HCS:Hid (qJ J.r J.L sig x=decide (rc.sum=gM d)):=by show _=_;rw[HCQ.out,hd];rfl
     simp only[bY];clear hd hso HCQ HDZ
     go_wp2_with fail
     refine dB (S:=fun w'=>Below w4.heap.size w4 w') (by kernel_rfl) ?_;change wpAnyH _ _ _ _ _ _ _ _ (World.drew _);have gP:Hid (Below w4.heap.size w4 w4.drew):=(au _ _).drew;refine u3 0 .nilIface rfl gP.out ?_<|u3 1 (.bool false) rfl gP.out ?_<|u3 2 (.bool false) rfl gP.out ?_<|u3 3 (.pointer (some ⟨eb,33,none⟩)) rfl gP.out ?_ ?_;(iterate 4 ·exact⟨by kernel_rfl,kI,by intro w _;go_simp⟩);refine ng (i:=4) rfl (by kernel_rfl) (by kernel_rfl) (by kernel_rfl) (fun _ _ _ h=>h) (acL (by kernel_rfl) 217 (.tmp 51) rfl eb 33 rfl (Lib.strCells rc.sum) _ (fun w' h i u hu=>(h.cell (p:=⟨eb,33+i,none⟩) (aC (qY.out.2 i u hu))).trans (qY.out.2 i u hu)) Tryz.underlying217 rfl (by rw[Lib.strCells_length,HOK.out.sum];exact HI.out)) gP.out ?_;refine u3 5 (.string d) rfl gP.out ⟨by kernel_rfl,kI,by intro w _;go_simp⟩ ?_
     refine rH 6 rfl (by kernel_rfl) fun K hK=>?_
     go_simp;refine(CB d (by omega) _ (qY.out.1.site.rounds.later (fun k hk=>gP.out.block k hk))).mono ?_;rintro e6 w6 ⟨rfl,hb6⟩;have FN:=aP (gP.out.trans (hb6.mono gP.out.size));refine hK.out _ _ FN.out (fun _=>?_);clear hK K gP hb6;have gP:=FN
     have hneq:∀wx,(Op.equalIn 10000 217 (.agg (Lib.strCells rc.sum).toArray) (.agg (Lib.strCells (gM d)).toArray)).run Tryz.prog wx=.ok (decide (rc.sum=gM d)) wx:=fun wx=>XQ _ _ HOK.out.sum (kN d) wx
     generalize (Lib.strCells rc.sum).toArray=X1 at*;generalize (Lib.strCells (gM d)).toArray=X2 at*;generalize decide (rc.sum=gM d)=dq at*;refine u3 7 (.bool (!dq)) rfl gP.out ?_<|u3 8 (.bool (!dq)) rfl gP.out ?_ ?_;(iterate 2 ·exact⟨by kernel_rfl,kI,by intro w _;go_simp⟩);refine eF (by kernel_rfl) ?_ _;have HM6:=aY (qY.out.1.below FN.out);clear gP FN hneq qY
     rcases dq with _|_
     ·have HF:=aP (uR.out HCS.out)
      go_wp2_with fail
      go_ret;exact⟨by rw[HF.out];rfl,A4,HM6.out.site,HM6.out.hA,HM6.out.turns⟩
     have HTH:Hid ((outs.take (j+1)).all (qJ J.r J.L sig)=true):=by
      show _=true;rw[Br.out.1,Mv,HPR.out,Bc,HCS.out];rfl
     go_wp2_with fail
     exact⟨⟨j+1,A4,by go_num,by omega,HTH.out,HM6.out⟩,by simp[intOf];omega⟩
    have HF:Hid (wN J.r J.L outs sig=false):=uR.out (by rw[HCQ.out,hno];rfl);clear hno;generalize (dG J.r x).getD ⟨#[]⟩=d at*;unfold jS
    go_wp2_with fail
    refine dB (S:=fun w'=>Below w4.heap.size w4 w') (by kernel_rfl) ?_;change wpAnyH _ _ _ _ _ _ _ _ (World.drew _);have gP:Hid (Below w4.heap.size w4 w4.drew):=(au _ _).drew;refine u3 0 (.iface 472 (.pointer (some (a 1)))) rfl gP.out ?_<|u3 1 (.bool true) rfl gP.out ?_<|u3 2 (.bool true) rfl gP.out ?_ ?_;(iterate 3 ·exact⟨by kernel_rfl,kI,by intro w _;go_simp⟩);refine sH 3 rfl gP.out (by kernel_rfl) kI ?_;refine sH 4 rfl gP.out (by kernel_rfl) kI ?_;refine sH 5 rfl gP.out (by kernel_rfl) kI ?_;refine sH 6 rfl gP.out (by kernel_rfl) kI ?_;refine sH 7 rfl gP.out (by kernel_rfl) kI ?_
    refine rH 8 rfl (by kernel_rfl) fun K hK=>?_
    go_simp;refine hK.out _ _ gP.out (fun _=>?_);clear hK K;refine eF (by kernel_rfl) ?_ _;have HM6:=aY (qY.out.1.below gP.out);clear gP qY;generalize w4.drew=w6 at*;generalize a 1=a1 at*
    go_wp2_with fail
    go_ret;exact⟨by rw[HF.out];rfl,A4,HM6.out.site,HM6.out.hA,HM6.out.turns⟩
  obtain rfl:j=L:=by omega
  have HF:Hid (wN J.r J.L outs sig=true):=by have h1:=HM.out.1;rw[bF (dx HL.out)] at h1;exact h1
  clear hcl hmid
  go_wp2_with fail
  go_ret;exact⟨by rw[HF.out];rfl,A',HM.out.2.site,HM.out.2.hA,HM.out.2.turns⟩
structure mO(A:Nat->Nat)(a:Nat->Addr)(t:Nat->ah)(left fb jb lb:Nat)(J:eZ)(w:aj)(SG SM:Array Value)(b9:Nat)(l:List gm)(v:Value)(A':Nat->Nat)(wr:aj):Prop where
 site:iA A' a t left fb jb lb J wr
 hA:∀k,k<w.heap.size->A' k=A k
 turns:aQ (JF A) w wr
 box:wr.heap[w.heap.size]?=some (.cells SG 217 (0,0))
 sum:wr.heap[b9]?=some (.cells SM 217 (0,0))
 zero:A' w.heap.size=0/\A' b9=0
 row:wr.ownsRow w.heap.size 372 65 v l.length (l.flatMap bE)
 nine:∀k,v.ownBlock=some k->A' k=9
variable {left' b9:Nat}{SM:Array Value}{l:List gm}
theorem mO.less(h:mO A a t left fb jb lb J w SG SM b9 l v A' wr)(hl:left'<=left):mO A a t left' fb jb lb J w SG SM b9 l v A' wr:={h with site:=h.site.less hl}
theorem mO.below(h:mO A a t left fb jb lb J w SG SM b9 l v A' wr)(hb:Below wr.heap.size wr w'):mO A a t left fb jb lb J w SG SM b9 l v A' w':=
 ⟨h.site.below hb,h.hA,h.turns.trans (aQ.of_below (JF A) hb) (fun _ hk=>aG hk),(hb.block _ (bI h.box)).trans h.box,(hb.block _ (bI h.sum)).trans h.sum,h.zero,dL h.row (fun k hk=>hb.block k (bA h.row k hk).2),h.nine⟩
variable {J':eZ}
theorem mO.after(h:mO A a t left fb jb lb J w SG SM b9 l v A' wr)(he:dF A' a t left' fb jb lb J' wr w'):∃A2,mO A a t left' fb jb lb J' w SG SM b9 l v A2 w':=by
 obtain⟨A2,h1,h2,h3⟩:=he
 have hz:∀k,k<wr.heap.size->(A' k=0\/A' k=9)->w'.heap[k]?=wr.heap[k]?:=fun k hk h0=>h3.block k hk (fun q=>by unfold JF at q;omega)
 exact⟨A2,h1,fun k hk=>(h2 k (ay hk h.turns.size)).trans (h.hA k hk),je h.hA h.turns h3,(hz _ (bI h.box) (aG h.zero.1)).trans h.box,(hz _ (bI h.sum) (aG h.zero.2)).trans h.sum,⟨(h2 _ (bI h.box)).trans h.zero.1,(h2 _ (bI h.sum)).trans h.zero.2⟩,dL h.row (fun k hk=>hz k (bA h.row k hk).2 (aL (h.nine k hk))),fun k hk=>(h2 k (bA h.row k hk).2).trans (h.nine k hk)⟩
variable {g cap:Nat}
theorem mO.more(h:mO A a t left fb jb lb J w SG SM b9 l v A' wr)(hg:wr.grownBy w' v.ownBlock)(hat:v.ownBlock=some g\/g=wr.heap.size)(hgl:g<w'.heap.size)(hr:w'.ownsRow w.heap.size 372 65 (.slice (some ⟨g,0,none⟩) (l.length+1) cap) (l.length+1) (l.flatMap bE++bE r)):∃A2,mO A a t left fb jb lb J w SG SM b9 (l++[r]) (.slice (some ⟨g,0,none⟩) (l.length+1) cap) A2 w':=by
 have hkp:∀k,k<wr.heap.size->A' k≠9->w'.heap[k]?=wr.heap[k]?:=fun k hk hn=>hg.block k hk (fun e=>hn (h.nine k e.symm))
 have hA2:∀k,k<wr.heap.size->(if k=g then 9 else A' k)=A' k:=fun k hk=>by
  by_cases q:k=g
  ·rw[aD q]
   rcases hat with e|e
   ·exact(h.nine k (by rw[q];exact e)).symm
   omega
  exact ax q
 refine⟨fun k=>if k=g then 9 else A' k,h.site.keep hg.size hA2 (fun k hk h8=>hkp k hk (by omega)) (fun k hk=>(ax (by omega)).trans (h.site.above k (aA hg.size hk))),fun k hk=>(hA2 k (ay hk h.turns.size)).trans (h.hA k hk),h.turns.trans (aQ.TJ hg) (fun k hk=>aL (bA h.row k hk).1),(hkp _ (bI h.box) (by rw[h.zero.1];decide)).trans h.box,(hkp _ (bI h.sum) (by rw[h.zero.2];decide)).trans h.sum,⟨(hA2 _ (bI h.box)).trans h.zero.1,(hA2 _ (bI h.sum)).trans h.zero.2⟩,?_,fun k hk=>aD (ak hk).symm⟩;rw[aF,kZ,List.flatMap_singleton];exact hr
theorem abd(a b c:Array Value)(x:Value)(ha:a.size=32)(hb:b.size=32)(hc:c.size=65)(h0:c[0]?=some x):Array.foldl (fun cs (y:Value×Nat)=>cs.setIfInBounds (33+y.2) y.1) (Array.foldl (fun cs (y:Value×Nat)=>cs.setIfInBounds (1+y.2) y.1) c a.zipIdx 0 32) b.zipIdx 0 32=(x::(a.toList++b.toList)).toArray:=by
 have e:=Cq 1 a c (by omega)
 have hz:a.zipIdx.size=32:=by rw[FH];exact ha
 have hz2:b.zipIdx.size=32:=by rw[FH];exact hb
 rw[hz] at e;rw[e]
 have e1:c.toList.take 1=[x]:=by
  rw[List.take_one,List.head?_eq_getElem?,bV,h0];rfl
 rw[e1,ha]
 have hal:a.toList.length=32:=by rw[aR];exact ha
 have hcl:c.toList.length=65:=by rw[aR];exact hc
 have hxa:([x]++a.toList).length=33:=by rw[aF,hal];rfl
 have hl:([x]++a.toList++c.toList.drop (1+32)).length=65:=by
  rw[aF,hxa,vM,hcl]
 have hsz:([x]++a.toList++c.toList.drop (1+32)).toArray.size=65:=hl;have f:=Cq 33 b ([x]++a.toList++c.toList.drop (1+32)).toArray (by rw[hsz,hb];exact ai _);rw[hz2] at f;refine f.trans ?_;show((([x]++a.toList++c.toList.drop (1+32)).take 33++b.toList)++([x]++a.toList++c.toList.drop (1+32)).drop (33+b.size)).toArray=_;rw[acD (by rw[hxa];exact ai _),bF (by rw[hxa];exact ai _),kR (by rw[hl,hb];exact ai _),fF,eH];rfl
theorem GU{a:Act}(hgd:op.guard=none)(ty:TypeId)(parts:Array (Nat×Operand))(ho:op.op=.build ty parts)(vs:Array (Nat×Value))(hvs:(parts.map fun (i,x)=>(i,a.eval x))=vs)(v:Value)
  (hrun:(Instr.build ty vs).run P w=.ok v w) (h:wpList P ops Q rest (a.put op.dst v) w):wpList P ops Q (op::rest) a w:=
 wpList_plain hgd fun K hK=>by
  subst hvs;unfold Oper.wp execOp;simp only[ho,NH,Sem.run_pure,hrun,Result.andThen_ok];exact hK _ _ h
theorem Km(f:Array Value->Value×Nat->Array Value)(hf:∀c y,(f c y).size=c.size):∀(l:List (Value×Nat)) (c:Array Value),(l.foldl f c).size=c.size
 |[],_=>rfl
 |x::l,c=>by rw[jr,Km f hf l,hf]
theorem Np(w:aj)(x:ah)(SG SM:Array Value)(h1:SG.size=32)(h2:SM.size=32):(Instr.build 372 #[(0,.string x),(1,.agg SG),(2,.agg SM)]).run Tryz.prog w=.ok (.agg (Value.string x::(SG.toList++SM.toList)).toArray) w:=by
 have hz:=yT
 have hzs:Tryz.zeroCells372.size=65:=by kernel_rfl
 have e2:∀c:Array Value,(Array.foldl (fun cs (y:Value×Nat)=>cs.setIfInBounds (1+y.2) y.1) c SG.zipIdx 0 32).size=c.size:=fun c=>by
  have hzz:SG.zipIdx.size=32:=by rw[FH];exact h1
  have:=Km (fun cs (y:Value×Nat)=>cs.setIfInBounds (1+y.2) y.1) (fun c y=>FK) SG.zipIdx.toList c;rw[Array.foldl_toList,hzz] at this;exact this
 unfold Instr.build;generalize Tryz.zeroCells372=Z at*
 have hf:∀w,(Go.sizeOf 9).run Tryz.prog w=.ok 1 w:=fun w=>by kernel_rfl
 have hf2:∀w,(Go.sizeOf 217).run Tryz.prog w=.ok 32 w:=fun w=>by kernel_rfl
 simp[go_sem,hz,hf,hf2,Instr.fill,hzs,h1,h2,e2]
 rw[abd SG SM _ (.string x) h1 h2]
 ·rw[ax (fun e=>by rw[e] at hzs;exact absurd hzs (by decide))];rfl
 ·simp[hzs]
 rw[Bt,aD rfl,aD (by omega)]
theorem Wm(l:List ah)(x sig sum:ah):nQ (l++[x]) sig sum=nQ l sig sum++[⟨x,sig,sum⟩]:=by unfold nQ;rw[iC];rfl
theorem Tf{l:List ah}{sum:ah}(hx:∀x∈l,x.size<=32)(h1:sig.size=32)(h2:sum.size=32):∀r∈nQ l sig sum,lN r:=fun r hr=>by
 obtain⟨x,hx',rfl⟩:=fH.1 hr;exact⟨hx x hx',h1,h2⟩
theorem Ht:∀(l:List gm) (L:ku),(l.foldl iY L).count=L.count+l.length
 |[],_=>rfl
 |r::l,L=>by
  rw[jr,Ht l];show L.count+1+l.length=L.count+(l.length+1);omega
variable {mb n:Nat}{vn:Value}
theorem iA.aiX{Nv:Value}(h:iA A a t (left+l.length) fb jb lb J w)(hc:∀k,oI lb mb vn k->A k=3)(hn:n+(left+l.length)<=1000000000000)(hk:J.L.count+(left+l.length)<=1000000000000)(hb':jG w' lb mb Nv (n+l.length) (l.foldl iY J.L))(hg:∀k,Nv.ownBlock=some k->vn.ownBlock=some k\/w.heap.size<=k)(hm:lm (oI lb mb vn) w w'):dF A a t left fb jb lb {J with L:=l.foldl iY J.L} w w':=by
 have hA2:∀k,k<w.heap.size->(if Nv.ownBlock=some k then 3 else A k)=A k:=fun k hk=>by
  by_cases q:Nv.ownBlock=some k
  ·rw[aD q]
   rcases hg k q with e|e
   ·exact(hc k (aL (aL e))).symm
   omega
  exact ax q
 have ha:∀k,w'.heap.size<=k->(if Nv.ownBlock=some k then 3 else A k)=0:=fun k hk=>by
  rw[ax (fun q=>by have:=(bA hb'.names k q).2;omega)];exact h.above k (aA hm.size hk)
 have hkp:∀k,k<w.heap.size->A k≠3->w'.heap[k]?=w.heap[k]?:=fun k hk h3=>hm.block k hk (fun q=>h3 (hc k q))
 obtain⟨ub,m,v1,v2,v3,v4,hj⟩:=h.job;refine⟨fun k=>if Nv.ownBlock=some k then 3 else A k,⟨h.env.keep hm.size hA2 (fun k hk h0=>hkp k hk (by omega)),h.rounds.keep (fun k hk=>hkp k (ay hk h.env.glob) (by rw[h.env.zero k hk];decide)),(h.files.less (by omega)).keep hA2 (fun k hk q=>hkp k hk (by omega)),⟨ub,m,v1,v2,v3,v4,(((hj.less (by omega)).keep hA2 (fun k hk q=>hkp k hk (by omega))).with J.r _)⟩,⟨mb,Nv,_,hb',fun k q=>?_,by omega,by show(l.foldl iY J.L).count+left<=_;rw[Ht];omega⟩,ha⟩,hA2,⟨hm.os,hm.output,hm.size,fun k hk hF=>hkp k hk (fun e=>hF ⟨by rw[e];decide,by rw[e];decide⟩)⟩⟩
 by_cases e:Nv.ownBlock=some k
 ·exact aD e
 rw[ax e]
 rcases q with q|q|q
 ·exact hc k (aG q)
 ·exact hc k (aL (aG q))
 exact absurd q e
theorem abH{made:ah}(h:iA A a t (left+(2*outs.length+3)) fb jb lb J w)(ht:tX A w v outs)(hl:outs.length<=100000)(hx:∀x∈outs,x.size<=32)(hsg:sig.size=32)(hmd:made.size<=1048576):
  Calls Tryz.prog 169 #[.pointer (some ⟨jb,0,none⟩),v,.string made,.agg (Lib.strCells sig).toArray] w (aaB A a t left fb jb lb J (vT J.r J.L outs made sig) w):=by
 have HT:=aY ht;have HS:=aY h;have HX:=aP (aK hx (aK hsg hmd))
 have HI:Hid ((Tryz.prog.info? 217).map (·.size)=some 32):=by unfold Hid;kernel_rfl
 have hinf:(Tryz.prog.info? 372).map (fun i=>(i.size,i.bytes,i.zero))=some (65,80,some (.agg Tryz.zeroCells372)):=by kernel_rfl
 obtain⟨ti,hti,htj⟩:=aX.1 hinf;simp only[Prod.mk.injEq] at htj
 have hzs:(Value.agg Tryz.zeroCells372).cells.size=65:=by kernel_rfl
 have HTI:=aP (aK hti (aK htj.1 (aK htj.2.1 (aK htj.2.2 hzs))));obtain⟨⟨ao,cap,rfl,_,_⟩,_⟩:=ht;generalize hL:outs.length=L at*;have HL:=aY hL
 have l0:(L:Int)<=100000:=by omega
 have Mt:Hid ((Lib.strCells sig).toArray.size=32/\(Lib.strCells sig).toArray.toList=Lib.strCells sig):=⟨by rw[bT,Lib.strCells_length,hsg],rfl⟩;have HB0:Hid (Below w.heap.size w (w.alloc (.cells (Lib.strCells sig).toArray 217))/\(w.alloc (.cells (Lib.strCells sig).toArray 217)).heap[w.heap.size]?=some (.cells (Lib.strCells sig).toArray 217 (0,0))):=⟨(au _ _).alloc (ai _) _,aW _ _ _ rfl⟩;have hss:=Mt.out.1;generalize hSG:(Lib.strCells sig).toArray=SG at*;clear h hx hL hSG hsg hmd hinf hti htj hzs
 go_enter Tryz.func169,Tryz.ntmps169
 go_wp2_with fail
 generalize w.alloc (.cells SG 217)=w1 at*;refine(CB made (by have:=HX.out.2.2;omega) w1 (HS.out.rounds.later (fun k hk=>HB0.out.1.block k hk))).mono ?_;rintro e w2 ⟨rfl,hb2⟩;have HB2:Hid (Below w.heap.size w w2/\w2.heap[w.heap.size]?=some (.cells SG 217 (0,0))):=⟨HB0.out.1.trans (hb2.mono HB0.out.1.size),(hb2.block _ (bI HB0.out.2)).trans HB0.out.2⟩;have HMC:Hid ((Lib.strCells (gM made)).toArray.size=32/\(Lib.strCells (gM made)).toArray.toList=Lib.strCells (gM made)/\(Lib.strCells (gM made)).toArray.all (·.oneCell')=true):=⟨by rw[bT,Lib.strCells_length,kN],rfl,dY (fun u hu=>by obtain⟨y,_,rfl⟩:=fH.1 hu;rfl)⟩;generalize hSM:(Lib.strCells (gM made)).toArray=SM at*;clear hb2 HB0 hSM
 go_wp2_with (first
  | (refine bU (w:=w2.alloc (.cells oF 217)) rfl 217 (.tmp 9) (.tmp 17) rfl w2.heap.size 0 SM rfl rfl (bM (aW _ _ _ rfl) 0 _ (by rw[HMC.out.1];decide)) (by rw[HMC.out.1];exact HI.out) HMC.out.2.2 ?_;refine dI ?_)
  |fail)
 have HM3:Hid (mO A a t (left+(2*L+3)) fb jb lb J w SG SM w2.heap.size [] (.slice none 0 0) A ((w2.alloc (.cells oF 217)).setCells w2.heap.size 0 SM.toList)):=by
  have hb3:Below w2.heap.size w2 ((w2.alloc (.cells oF 217)).setCells w2.heap.size 0 SM.toList):=ji _ _ ((au _ _).alloc (ai _) _) (ai _);have hb:Below w.heap.size w ((w2.alloc (.cells oF 217)).setCells w2.heap.size 0 SM.toList):=HB2.out.1.trans (hb3.mono HB2.out.1.size);refine⟨HS.out.below hb,fun _ _=>rfl,aQ.of_below _ hb,(hb3.block _ (bI HB2.out.2)).trans HB2.out.2,?_,⟨HS.out.above _ (ai _),HS.out.above _ HB2.out.1.size⟩,dD _ _ _ _,fun k hk=>by cases hk⟩;have h:=uI Tryz.prog (w2.alloc (.cells oF 217)) w2.heap.size 217 oF SM.toList (aW _ _ _ rfl) (by rw[aR,HMC.out.1];rfl) (fun u hu=>kQ.1 HMC.out.2.2 u (uP.1 hu));rw[cK] at h;exact h
 generalize (w2.alloc (.cells oF 217)).setCells w2.heap.size 0 SM.toList=w3 at*;generalize w2.heap.size=b9 at*;clear HB2;unfold Hid
 go_wp2_with fail
 go_loopw [10,20] (fun p i wr=>∃(j:Nat) (vj:Value) (rj:bS) (A':Nat->Nat),i=.int .i64 j/\p=vj/\j<=L/\qK J.r outs made=qK rj (outs.drop j) made/\mO A a t (left+(L+3)+(L-j)) fb jb lb {J with r:=rj} w SG SM b9 (nQ (outs.take j) sig (gM made)) vj A' wr) (fun _ i _=>L-(intOf i).toNat)
 case atStart=>exact⟨0,_,J.r,A,rfl,rfl,aN _,rfl,HM3.out.less (by omega)⟩
 case round=>
  clear HM3;obtain⟨j,vj,rj,A',rfl,rfl,hj,hjw,hmid⟩:=hrel;have HM:=aY hmid;have HJW:=aY hjw
  have j0:(0:Int)<=(j:Int):=by omega
  by_cases hlt:j<L
  ·have j1:(j:Int)<(L:Int):=by omega
   obtain⟨x,hx⟩:∃x,outs[j]?=some x:=⟨outs[j]'(by have:=HL.out;omega),by simp⟩;obtain⟨Bl,cap',e5,_,h6⟩:=HT.out.turns hmid.turns;injection e5 with f1 f2 f3
   rcases h6 with ⟨_,q,_⟩|⟨b,o,q,hct⟩
   ·exfalso;rw[q] at hx;simp at hx
   rw[q] at f1;subst f1;have cx:=hct j x hx;have hxs:=HX.out.1 x (aO hx);obtain⟨ub,m,v1,v2,v3,v4,dV⟩:=hmid.site.job
   have c0:wr.cell? ⟨jb,0,none⟩=some (.pointer (some ⟨fb,0,none⟩)):=by rw[bZ dV.row];rfl
   have hst:iA A' a t (left+(L+3)+(L-(j+1))+1) fb jb lb {J with r:=rj} wr:=hmid.site.less (by omega);have NA:=aY (KA hst x made (by omega) (by have:=HX.out.2.2;omega))
   have Br:Hid (outs.take (j+1)=outs.take j++[x]/\x.size<=32/\outs.drop j=x::outs.drop (j+1)):=⟨by rw[dN,hx];rfl,hxs,by
    obtain⟨h1,h2⟩:=aJ.1 hx
    rw[fA h1,h2]⟩
   obtain⟨YE,Gf,Na,_,_⟩:=bq hmid.row
   have Jw:Hid ((nQ (outs.take j) sig (gM made)).length=j):=by
    unfold Hid nQ;rw[jR,gV];have:=HL.out;omega
   rw[Jw.out] at Na;subst Na;clear dV hct hx hmid hjw hst f2 f3 hxs
   go_wp2_with fail
   refine NA.out.mono ?_;rintro e3 w4 ⟨ve,rfl,jD,hse⟩;obtain⟨A4,hm4⟩:=HM.out.after hse;have qY:=aY hm4;clear hse hm4 c0 cx NA HM
   rcases jD with ⟨rfl,hq⟩|⟨k,hk,rfl,hq⟩
   ·have HJX:Hid (qK J.r outs made=qK (eu rj x made).2 (outs.drop (j+1)) made):=by
     show _=_;rw[HJW.out,Br.out.2.2,qK,aD hq]
    have HRA:Hid (w4.rangeAt w.heap.size 0 SG.toList/\w4.rangeAt b9 0 SM.toList):=⟨fun i u hu=>by rw[bZ qY.out.box,bW,<-bV];exact hu,fun i u hu=>by rw[bZ qY.out.sum,bW,<-bV];exact hu⟩;have HL1:Hid ((Tryz.prog.info? 217).map (·.size)=some SG.toList.length/\(Tryz.prog.info? 217).map (·.size)=some SM.toList.length):=⟨by rw[aR,Mt.out.1];exact HI.out,by rw[aR,HMC.out.1];exact HI.out⟩;clear hq HJW
    go_wp2_with (first
     | (refine nX rfl 217 (.tmp 7) rfl w.heap.size 0 rfl SG.toList _ HRA.out.1 Tryz.underlying217 rfl HL1.out.1 ?_;refine dI ?_)
     |fail)
    rw[cK];unfold Hid
    go_wp2_with (first
     | (refine nX rfl 217 (.tmp 9) rfl b9 0 rfl SM.toList _ HRA.out.2 Tryz.underlying217 rfl HL1.out.2 ?_;refine dI ?_)
     |fail)
    rw[cK];have hms:=HMC.out.1;unfold Hid;clear HRA HL1
    go_wp2_with (first
     | (refine GU rfl 372 _ rfl #[(0,.string x),(1,.agg SG),(2,.agg SM)] (by simp[Act.eval]) _ (Np _ x SG SM Mt.out.1 HMC.out.1) ?_;refine dI ?_)
     |fail)
    have Bq:Hid ((Value.string x::(SG.toList++SM.toList)).toArray.size=65/\(Value.string x::(SG.toList++SM.toList)).toArray.toList=bE ⟨x,sig,gM made⟩):=⟨by rw[bT,aS,aF,aR,aR,Mt.out.1,HMC.out.1],by rw[Mt.out.2,HMC.out.2.1];rfl⟩;have hrs:=Bq.out.1;generalize (Value.string x::(SG.toList++SM.toList)).toArray=RC at*
    have HMA:Hid (mO A a t (left+(L+3)+(L-(j+1))) fb jb lb {J with r:=(eu rj x made).2} w SG SM b9 (nQ (outs.take j) sig (gM made)) (.slice YE j Gf) A4 (w4.alloc (.cells RC 372))/\∀i u,RC.toList[i]?=some u->(w4.alloc (.cells RC 372)).cell? ((⟨w4.heap.size,0,none⟩:Addr).add i)=some u):=⟨qY.out.below ((au _ _).alloc (ai _) _),by
     have h:=iH w4 RC.toList 372;rw[cK] at h
     exact h⟩
    have HRW:Hid ((w4.alloc (.cells RC 372)).ownsRow w.heap.size 372 65 (.slice YE j Gf) j ((nQ (outs.take j) sig (gM made)).flatMap bE)/\w.heap.size<=(w4.alloc (.cells RC 372)).heap.size):=⟨by have h:=HMA.out.1.row;rw[Jw.out] at h;exact h,HMA.out.1.turns.size⟩
    have acW:Hid (∀u∈RC.toList,u.oneCell'=true):=by rw[Bq.out.2];exact lK _
    unfold Hid
    go_wp2_with (at_builtin;rw[Kg RC _ Bq.out.1];rotate_left;rfl;refine wpList_append_lies _ rfl (.tmp 34) (.tmp 39) 271 rfl w.heap.size 372 ti (.agg Tryz.zeroCells372) 65 80 Tryz.underlying271 HTI.out.1 HTI.out.2.2.2.1 HTI.out.2.1 HTI.out.2.2.1 HTI.out.2.2.2.2 (by decide) _ j _ rfl HRW.out.1 ⟨w4.heap.size,0,none⟩ 1 1 RC.toList rfl (by rw[aR,Bq.out.1]) HMA.out.2 acW.out (by decide) (by unfold maxLen;omega) (by omega) HRW.out.2 _ rfl ?_;intro g7 lS w7 hv7 wT rC xg;refine dI ?_)
    have HF:Hid (∃A7,mO A a t (left+(L+3)+(L-(j+1))) fb jb lb {J with r:=(eu rj x made).2} w SG SM b9 (nQ (outs.take (j+1)) sig (gM made)) (.slice (some ⟨g7,0,none⟩) (j+1) lS) A7 w7):=by
     rw[Bq.out.2] at hv7;have h:=HMA.out.1.more (r:=⟨x,sig,gM made⟩) (g:=g7) (cap:=lS) wT rC xg (by rw[Jw.out];exact hv7);rw[<-Wm,<-Br.out.1,Jw.out] at h;exact h
    clear hv7 wT rC xg HMA HRW acW hrs hms qY;unfold Hid
    go_wp2_with fail
    obtain⟨A7,hf⟩:=HF.out;exact⟨⟨j+1,_,(eu rj x made).2,A7,by go_num,rfl,by omega,HJX.out,hf⟩,by simp[intOf];omega⟩
   have HKE:Hid (vT J.r J.L outs made sig=((eu rj x made).1,(eu rj x made).2,J.L)):=by
    have h1:qK J.r outs made=eu rj x made:=by rw[HJW.out,Br.out.2.2,qK,ax (by omega)]
    show _=_;unfold vT;simp only[h1];rw[aD (by omega)]
   have HNU:Hid (rE a (jS a k) (eu rj x made).1):=aL ⟨k,hk,rfl,hq⟩;have HSE:Hid (dF A a t left fb jb lb {J with r:=(eu rj x made).2} w w4):=⟨A4,qY.out.site.less (by omega),qY.out.hA,qY.out.turns⟩;clear hq qY HJW;generalize eu rj x made=q at*;have HV:=aY (show jS a k=jS a k from rfl);unfold jS at*
   go_wp2_with fail
   go_ret;exact⟨_,rfl,by rw[HKE.out];exact HNU.out,by rw[HKE.out];exact HSE.out⟩
  obtain rfl:j=L:=by omega
  have HW0:Hid (qK J.r outs made=(0,rj)):=by
   rw[hjw,kR (dx HL.out)];exact rfl
  have HK:Hid (vT J.r J.L outs made sig=if (iR rj).1≠0 then ((iR rj).1,(iR rj).2,J.L) else
    if (kM (iR rj).2 jJ (fP (nQ outs sig (gM made)))).1≠0 then ((kM (iR rj).2 jJ (fP (nQ outs sig (gM made)))).1,(kM (iR rj).2 jJ (fP (nQ outs sig (gM made)))).2,J.L) else
    ((iR (kM (iR rj).2 jJ (fP (nQ outs sig (gM made)))).2).1,(iR (kM (iR rj).2 jJ (fP (nQ outs sig (gM made)))).2).2,(nQ outs sig (gM made)).foldl iY J.L)):=by
   show _=_;unfold vT;simp only[HW0.out];rw[ax (by decide)]
  have Jw:Hid ((nQ outs sig (gM made)).length=j/\∀r∈nQ outs sig (gM made),lN r):=⟨by unfold nQ;rw[jR];exact HL.out,Tf HX.out.1 HX.out.2.1 (kN _)⟩;have hmr:=hmid;rw[bF (dx HL.out)] at hmr;have HMR:=aY (hmr.less (show left+(j+2)+1<=_ by omega));clear hmr;obtain⟨YE,Gf,Na,_,_⟩:=bq HMR.out.row;rw[Jw.out.1] at Na;subst Na;obtain⟨ub,m,v1,v2,v3,v4,dV⟩:=hmid.site.job
  have c0:wr.cell? ⟨jb,0,none⟩=some (.pointer (some ⟨fb,0,none⟩)):=by rw[bZ dV.row];rfl
  have Yt:=aY (Cs HMR.out.site);clear hmid hjw dV HM HJW HW0;generalize nQ outs sig (gM made)=RL at*
  go_wp2_with fail
  refine Yt.out.mono ?_;rintro e3 w4 ⟨ve,rfl,jD,hse⟩;obtain⟨A4,hm4⟩:=HMR.out.after hse;have qY:=aP hm4;clear hse hm4 c0 Yt HMR;generalize iR rj=q2 at*
  rcases jD with ⟨rfl,hq⟩|⟨k,hk,rfl,hq⟩
  ·have HK2:=aY (HK.out.trans (ax (by simp[hq])));clear hq HK;have Nz:=aY (Bf RL (.slice YE j Gf) w4.drew (BV (w:=w4.drew) qY.out.row rfl Jw.out.2) Jw.out.2 (by have:=Jw.out.1;omega));obtain⟨ub,m,v1,v2,v3,v4,dV⟩:=qY.out.site.job
   have dJ:Hid (w4.drew.cell? ⟨jb,0,none⟩=some (.pointer (some ⟨fb,0,none⟩))):=by
    have h:w4.drew.heap[jb]?=_:=dV.row;rw[bZ h];rfl
   clear dV
   go_wp2_with fail
   refine dB (S:=fun w'=>w'.cell? ⟨jb,0,none⟩=some (.pointer (some ⟨fb,0,none⟩))) (by kernel_rfl) ?_;change wpAnyH _ _ _ _ _ _ _ _ (World.drew _);refine u3 0 (.pointer (some ⟨jb,0,none⟩)) rfl dJ.out ?_<|u3 1 (.pointer (some ⟨jb,0,none⟩)) rfl dJ.out ?_<|u3 2 (.pointer (some ⟨jb,0,none⟩)) rfl dJ.out ?_<|u3 3 (.pointer (some ⟨fb,0,none⟩)) rfl dJ.out ?_<|u3 4 (.slice YE j Gf) rfl dJ.out ?_ ?_;(iterate 5 ·exact⟨by kernel_rfl,kI,by intro w' q1;go_simp⟩)
   refine rH 5 rfl (by kernel_rfl) fun K hK=>?_
   go_simp;refine Nz.out.mono ?_;rintro e5 w5 ⟨rfl,hb5⟩;have Aa:Hid (mO A a t (left+(j+1)+1) fb jb lb {J with r:=q2.2} w SG SM b9 RL (.slice YE j Gf) A4 w5):=qY.out.below ((au _ _).drew.trans hb5);have Je:=aP ((hb5.cell (p:=⟨jb,0,none⟩) (aC dJ.out)).trans dJ.out)
   have HTZ:Hid ((fP RL).size<=102000000):=by have h:=AL RL Jw.out.2;rw[Jw.out.1] at h;show _<=_;omega
   refine hK.out _ _ Je.out (fun _=>?_);clear hK K hb5 Nz qY dJ;have HAP:=aY (Ta Aa.out.site jJ (fP RL) (by decide) (by have:=HTZ.out;omega));generalize fP RL=T at*
   refine rH 6 rfl (by kernel_rfl) fun K hK=>?_
   go_simp;refine HAP.out.mono ?_;rintro e6 w6 ⟨ve,rfl,jD,hse⟩;obtain⟨A6,Zj⟩:=Aa.out.after hse;have HM6:=aP Zj;obtain⟨ub,m,v1,v2,v3,v4,dV⟩:=Zj.site.job;have dJ:Hid (w6.cell? ⟨jb,0,none⟩=some (.pointer (some ⟨fb,0,none⟩))/\w6.cell? ⟨jb,1,none⟩=some (.pointer (some ⟨lb,0,none⟩))):=⟨by rw[bZ dV.row];rfl,by rw[bZ dV.row];rfl⟩;refine hK.out _ _ dJ.out.1 (fun _=>?_);clear hK K hse Zj Aa Je HAP dV;generalize kM q2.2 jJ T=q3 at*
   rcases jD with ⟨rfl,hq⟩|⟨k,hk,rfl,hq⟩
   ·skip
    refine u3 7 .nilIface rfl dJ.out.1 ⟨by kernel_rfl,kI,by intro w _;go_simp⟩ ?_;refine eF (by kernel_rfl) ?_ _;have HK3:=aY (HK2.out.trans (ax (by simp[hq])));have c1:=dJ.out.2;obtain⟨mb,vn,n,hbk,hcb,hn1,hn2⟩:=HM6.out.site.book;have sZ:=aP (aK hbk (aK hcb (aK hn1 hn2)))
    have GY:=aY (KU hbk (BV HM6.out.row rfl Jw.out.2) Jw.out.2 (aL fun q m c e hF=>by
     injection e with e _ _;have h1:=hcb q.block hF;have h2:=HM6.out.nine q.block (by rw[e];rfl)
     omega) (by have:=Jw.out.1;omega) (by omega) (by have h2:J.L.count+(left+(j+1))<=1000000000000:=hn2;show J.L.count<=_;omega))
    clear hq HK2 hbk hcb hn1 hn2
    go_wp2_with fail
    refine GY.out.mono ?_;rintro e7 w7 ⟨rfl,vn7,Jk,wT,hm7⟩
    have HS7:Hid (dF A6 a t (left+1) fb jb lb {J with r:=q3.2,L:=RL.foldl iY J.L} w6 w7):=by
     have hst:iA A6 a t (left+1+RL.length) fb jb lb {J with r:=q3.2} w6:=HM6.out.site.less (by rw[Jw.out.1];omega);exact hst.aiX sZ.out.2.1 (by rw[Jw.out.1];have:=sZ.out.2.2.1;omega) (by rw[Jw.out.1];have h2:=sZ.out.2.2.2;show J.L.count+_<=_;omega) Jk wT hm7
    obtain⟨A7,hm7⟩:=HM6.out.after HS7.out;have HM7:=aY hm7;obtain⟨ub,m,v1,v2,v3,v4,dV⟩:=hm7.site.job
    have d0:w7.cell? ⟨jb,0,none⟩=some (.pointer (some ⟨fb,0,none⟩)):=by rw[bZ dV.row];rfl
    have Yt:=aY (Cs hm7.site);clear Jk wT hm7 dV c1 GY sZ dJ HM6 HS7
    go_wp2_with fail
    refine Yt.out.mono ?_;rintro e8 w8 ⟨ve,rfl,jD,hse⟩;have HE:Hid (rE a ve (iR q3.2).1/\dF A a t left fb jb lb {J with r:=(iR q3.2).2,L:=RL.foldl iY J.L} w w8):=⟨jD,dF.trans HM7.out.hA HM7.out.turns hse⟩
    have hvf:ve=.nilIface\/∃T x,ve=.iface T (.pointer x):=by
     rcases jD with ⟨q,_⟩|⟨k,_,q,_⟩
     ·exact aG q
     exact aL ⟨_,_,q⟩
    clear jD hse Yt HM7 d0
    rcases hvf with rfl|⟨TT,xx,rfl⟩
    ·go_wp2_with fail
     go_ret;exact⟨_,rfl,by rw[HK3.out];exact HE.out.1,by rw[HK3.out];exact HE.out.2⟩
    go_wp2_with fail
    go_ret;exact⟨_,rfl,by rw[HK3.out];exact HE.out.1,by rw[HK3.out];exact HE.out.2⟩
   have HK:=HK2;refine u3 7 (jS a k) rfl dJ.out.1 ⟨by kernel_rfl,kI,by intro w _;go_simp⟩ ?_;refine eF (by kernel_rfl) ?_ _;have HKE:Hid (vT J.r J.L outs made sig=((q3).1,(q3).2,J.L)):=HK.out.trans (aD (by omega));have HNU:Hid (rE a (jS a k) (q3).1):=aL ⟨k,hk,rfl,hq⟩;have HSE:Hid (dF A a t left fb jb lb {J with r:=(q3).2} w w6):=⟨A6,HM6.out.site.less (by omega),HM6.out.hA,HM6.out.turns⟩;clear hq HM6 HK;unfold jS at*
   go_wp2_with fail
   go_ret;exact⟨_,rfl,by rw[HKE.out];exact HNU.out,by rw[HKE.out];exact HSE.out⟩
  skip
  have HKE:Hid (vT J.r J.L outs made sig=((q2).1,(q2).2,J.L)):=HK.out.trans (aD (by omega));have HNU:Hid (rE a (jS a k) (q2).1):=aL ⟨k,hk,rfl,hq⟩;have HSE:Hid (dF A a t left fb jb lb {J with r:=(q2).2} w w4):=⟨A4,qY.out.site.less (by omega),qY.out.hA,qY.out.turns⟩;clear hq qY HK;unfold jS at*
  go_wp2_with fail
  go_ret;exact⟨_,rfl,by rw[HKE.out];exact HNU.out,by rw[HKE.out];exact HSE.out⟩
structure Ju(A:Nat->Nat)(w:aj)(vo vi vm vr:Value)(e:dm):Prop where
 outs:tX A w vo e.outs
 ins:tX A w vi e.ins
 impl:tX A w vm e.impl
 ord:tX A w vr e.ord
variable {vo vi vm vr:Value}{e:dm}
theorem Ju.later(h:Ju A w vo vi vm vr e)(hA:∀k,k<w.heap.size->A' k=A k)(ht:aQ (JF A) w w'):Ju A' w' vo vi vm vr e:=⟨h.outs.later hA ht,h.ins.later hA ht,h.impl.later hA ht,h.ord.later hA ht⟩
structure Cj(e:dm)(cm:ah):Prop where
 outs:e.outs.length<=10000
 ins:e.ins.length<=10000
 impl:e.impl.length<=10000
 ord:e.ord.length<=10000
 out:∀x∈e.outs,x.size<=32
 dep:∀x∈dZ e,x.size<=32
 cmd:cm.size<=1048576
variable {cm:ah}
theorem Cj.inp(h:Cj e cm):∀x∈fK e,x.size<=32:=fun x hq=>h.dep x (by unfold fK at hq;unfold dZ;rw[<-eH];exact fq _ hq)
theorem Cj.od(h:Cj e cm):∀x∈e.ord,x.size<=32:=fun x hq=>h.dep x (by unfold dZ;rw[<-eH];exact lQ _ hq)
def acM(A:Nat->Nat)(a:Nat->Addr)(t:Nat->ah)(left fb jb lb:Nat)(q:(Nat×Int)×eZ)(w:aj)(e:Ending)(w':aj):Prop:=
 ∃v,e=.returned (.tuple #[.int .i64 (q.1.1:Nat),v])/\rE a v q.1.2/\dF A a t left fb jb lb q.2 w w'
structure mM(A:Nat->Nat)(a:Nat->Addr)(t:Nat->ah)(left fb jb lb:Nat)(J:eZ)(w:aj)(vo vi vm vr:Value)(rl cm:ah)(e:dm)(A':Nat->Nat)(wr:aj):Prop where
 site:iA A' a t left fb jb lb J wr
 hA:∀k,k<w.heap.size->A' k=A k
 turns:aQ (JF A) w wr
 box:wr.heap[w.heap.size]?=some (.cells #[vo,vi,vm,vr,.string rl,.string cm] 63 (0,0))
 zero:A' w.heap.size=0
 lists:Ju A' wr vo vi vm vr e
variable {rl:ah}
theorem mM.after(h:mM A a t left fb jb lb J w vo vi vm vr rl cm e A' wr)(h1:iA A2 a t left' fb jb lb J' w')(h2:∀k,k<wr.heap.size->A2 k=A' k)(h3:aQ (JF A') wr w'):mM A a t left' fb jb lb J' w vo vi vm vr rl cm e A2 w':=
 ⟨h1,fun k hk=>(h2 k (ay hk h.turns.size)).trans (h.hA k hk),je h.hA h.turns h3,(h3.block _ (bI h.box) (fun q=>by have:=h.zero;unfold JF at q;omega)).trans h.box,(h2 _ (bI h.box)).trans h.zero,h.lists.later h2 h3⟩
theorem mM.below(h:mM A a t left fb jb lb J w vo vi vm vr rl cm e A' wr)(hb:Below wr.heap.size wr w'):mM A a t left fb jb lb J w vo vi vm vr rl cm e A' w':=h.after (h.site.below hb) (fun _ _=>rfl) (aQ.of_below _ hb)
theorem mM.ends(h:mM A a t left fb jb lb J w vo vi vm vr rl cm e A' wr)(hl:left'<=left):dF A a t left' fb jb lb J w wr:=⟨A',h.site.less hl,h.hA,h.turns⟩
theorem mM.cells(h:mM A a t left fb jb lb J w vo vi vm vr rl cm e A' wr):wr.cell? ⟨w.heap.size,0,none⟩=some vo/\wr.cell? ⟨w.heap.size,1,none⟩=some vi/\wr.cell? ⟨w.heap.size,2,none⟩=some vm/\wr.cell? ⟨w.heap.size,3,none⟩=some vr/\wr.cell? ⟨w.heap.size,4,none⟩=some (.string rl)/\wr.cell? ⟨w.heap.size,5,none⟩=some (.string cm):=by
 have hc:∀i,wr.cell? ⟨w.heap.size,i,none⟩=(#[vo,vi,vm,vr,.string rl,.string cm]:Array Value)[i]?:=fun i=>bZ h.box
 exact⟨hc 0,hc 1,hc 2,hc 3,hc 4,hc 5⟩
structure GZ(f:ah->Option ah)(ib mb n:Nat)(A':Nat->Nat)(wr:aj):Prop where
 map:MJ wr mb n f
 nine:A' mb=9
 cell:wr.cell? ⟨ib,0,none⟩=some (.map (some mb))
 zero:A' ib=0
theorem GZ.after{f:ah->Option ah}{ib:Nat}(h:GZ f ib mb n A' wr)(h2:∀k,k<wr.heap.size->A2 k=A' k)(h3:aQ (JF A') wr w'):GZ f ib mb n A2 w':=
 ⟨dU.keep h.map (h3.block mb (dU.lt h.map) (fun q=>by have:=h.nine;unfold JF at q;omega)),(h2 _ (dU.lt h.map)).trans h.nine,(aB (w:=wr) (a:=⟨ib,0,none⟩) (h3.block ib (aC h.cell) (fun q=>by have:=h.zero;unfold JF at q;omega))).trans h.cell,(h2 _ (aC h.cell)).trans h.zero⟩
theorem YK(e:dm)(h:iA A a t (left+(2*e.outs.length+3)) fb jb lb J w)(hz:Ju A w vo vi vm vr e)(hok:Cj e cm):
  Calls Tryz.prog 98 #[.pointer (some ⟨jb,0,none⟩),.agg #[vo,vi,vm,vr,.string rl,.string cm]] w (acM A a t left fb jb lb (dS J e cm) w):=by
 have HOK:=aY hok
 have HB1:Hid (mM A a t (left+(2*e.outs.length+3)) fb jb lb J w vo vi vm vr rl cm e A (w.alloc (.cells #[vo,vi,vm,vr,.string rl,.string cm] 63))):=by
  have hb:Below w.heap.size w (w.alloc (.cells #[vo,vi,vm,vr,.string rl,.string cm] 63)):=(au _ _).alloc (ai _) _;exact⟨h.below hb,fun _ _=>rfl,aQ.of_below _ hb,aW _ _ _ rfl,h.above _ (ai _),hz.later (fun _ _=>rfl) (aQ.of_below _ hb)⟩
 obtain⟨⟨mY,cO,rfl,_,_⟩,_⟩:=id hz.outs;obtain⟨⟨kz,cI,rfl,_,_⟩,_⟩:=id hz.ins;obtain⟨⟨lH,cM,rfl,_,_⟩,_⟩:=id hz.impl;obtain⟨⟨nC,cR,rfl,_,_⟩,_⟩:=id hz.ord;generalize hNO:e.outs.length=NO at*;generalize hNI:e.ins.length=NI at*;generalize hNM:e.impl.length=NM at*;generalize hNR:e.ord.length=NR at*;have HN:=aP hNO;clear h hz hok hNO hNI hNM hNR;obtain⟨a0,a1,a2,a3,a4,a5⟩:=HB1.out.cells
 go_enter Tryz.func98,Tryz.ntmps98
 go_wp2_with fail
 generalize w.alloc (.cells #[.slice mY NO cO,.slice kz NI cI,.slice lH NM cM,.slice nC NR cR,.string rl,.string cm] 63)=w1 at*;obtain⟨ub,m,v1,v2,v3,v4,dV⟩:=HB1.out.site.job;refine(Nf (by rw[bZ dV.row];rfl) dV.un e ⟨_,_,_,rfl⟩ HB1.out.lists.ins.1 HB1.out.lists.impl.1 HB1.out.lists.ord.1 HOK.out.ins HOK.out.impl HOK.out.ord HOK.out.dep).mono ?_;rintro e2 w2 ⟨rfl,hb2⟩;have HB2:=aY (HB1.out.below hb2)
 have HJE:Hid (dS J e cm=if ((dZ e).any fun x=>eT x J.un)=true then ((3,0),J) else
  if (jE J.r (fK e)&&jE J.r e.ord)=false then ((2,0),J) else
  if wN J.r J.L e.outs (DW (ic J.r (fK e)) e cm)=true then ((1,0),J) else
  match iU (pX (ic J.r (fK e)) (nP cm)) with
  |none=>((2,0),J)
  |some made=>((0,(vT J.r J.L e.outs made (DW (ic J.r (fK e)) e cm)).1),{J with r:=(vT J.r J.L e.outs made (DW (ic J.r (fK e)) e cm)).2.1,L:=(vT J.r J.L e.outs made (DW (ic J.r (fK e)) e cm)).2.2})):=rfl
 clear dV hb2 a0 a1 a2 a3 a4 a5 HB1;generalize ((dZ e).any fun x=>eT x J.un)=q1 at*
 rcases q1 with _|_
 case' true=>
  have HE:=aY (HJE.out.trans (aD rfl))
  go_wp2_with fail
  go_ret2;exact⟨.nilIface,by rw[HE.out];rfl,by rw[HE.out];exact aG ⟨rfl,rfl⟩,by rw[HE.out];exact HB2.out.ends (by omega)⟩
 have HE2:=aY (HJE.out.trans (ax eX));clear HJE;obtain⟨a0,a1,a2,a3,a4,a5⟩:=HB2.out.cells
 go_wp2_with fail
 refine(Lx HB2.out.site e ⟨_,_,_,rfl⟩ ⟨_,_,_,rfl⟩ HB2.out.lists.ins.1 HB2.out.lists.impl.1 HOK.out.ins HOK.out.impl HOK.out.dep).mono ?_;rintro e3 w3 ⟨A3,v,rfl,hs3,hA3,ht3,hv⟩;have HB3:=aY (HB2.out.after hs3 hA3 ht3);clear hs3 hA3 ht3 a0 a1 a2 a3 a4 a5 HB2
 rcases hv with ⟨hth,rfl⟩|⟨hth,mb,n,rfl,hin,hmb,hml⟩
 ·have HE:=aY (HE2.out.trans (aD (by rw[hth];rfl)));rw[hth];clear hth HE2
  go_wp2_with fail
  go_ret2;exact⟨.nilIface,by rw[HE.out];rfl,by rw[HE.out];exact aG ⟨rfl,rfl⟩,by rw[HE.out];exact(HB3.out.below (by first|exact(au _ _).alloc (ai _) _|exact((au _ _).alloc (ai _) _).setCell (ai _) _)).ends (by omega)⟩
 have HTH:=aY hth
 have xu:Hid (mM A a t (left+(2*NO+3)) fb jb lb J w (.slice mY NO cO) (.slice kz NI cI) (.slice lH NM cM) (.slice nC NR cR) rl cm e A3 (w3.alloc (.cells #[.map (some mb)] 258))/\GZ (ic J.r (fK e)) w3.heap.size mb n A3 (w3.alloc (.cells #[.map (some mb)] 258))):=by
  have hb:Below w3.heap.size w3 (w3.alloc (.cells #[.map (some mb)] 258)):=(au _ _).alloc (ai _) _;exact⟨HB3.out.below hb,dU.keep hin (hb.block mb hml),hmb,jq _ _ _ _ _ rfl,HB3.out.site.above _ (ai _)⟩
 rw[hth];clear hth hin hmb hml HB3;obtain⟨a0,a1,a2,a3,a4,a5⟩:=xu.out.1.cells
 go_wp2_with fail
 clear a0 a1 a2 a3 a4 a5;generalize w3.alloc (.cells #[.map (some mb)] 258)=w4 at*;generalize w3.heap.size=ib at*;refine(PO xu.out.1.site xu.out.1.lists.ord (by have:=HOK.out.ord;omega) HOK.out.od).mono ?_;rintro e5 w5 ⟨rfl,A5,hs5,hA5,ht5⟩;have Bo:Hid (mM A a t (left+(2*NO+3)) fb jb lb J w (.slice mY NO cO) (.slice kz NI cI) (.slice lH NM cM) (.slice nC NR cR) rl cm e A5 w5/\GZ (ic J.r (fK e)) ib mb n A5 w5):=⟨xu.out.1.after hs5 hA5 ht5,xu.out.2.after hA5 ht5⟩;clear hs5 hA5 ht5 xu;generalize hto:jE J.r e.ord=to5 at*
 rcases to5 with _|_
 case' false=>
  have HE:=aY (HE2.out.trans (aD (by rw[Pm])))
  go_wp2_with fail
  go_ret2;exact⟨.nilIface,by rw[HE.out];rfl,by rw[HE.out];exact aG ⟨rfl,rfl⟩,by rw[HE.out];exact Bo.out.1.ends (by omega)⟩
 have HE3:=aY (HE2.out.trans (ax (by rw[HTH.out];exact fun e=>Bool.noConfusion e)))
 have Rk:Hid (∀x∈fK e,(ic J.r (fK e) x).isSome=true):=fun x hx=>by rw[Hz HTH.out];exact mQ.2 hx
 have HSM:Hid (∀x d,ic J.r (fK e) x=some d->d.size<=1048576):=fun x d hd=>by
  unfold ic at hd
  split at hd
  ·have h:=Bo.out.1.site.size x;rw[hd] at h;have h:d.size<=65536:=h;omega
  cases hd
 clear HE2 hto HTH;generalize ic J.r (fK e)=f at*;obtain⟨a0,a1,a2,a3,a4,a5⟩:=Bo.out.1.cells;have ci:=Bo.out.2.cell
 go_wp2_with fail
 refine(Ja Bo.out.2.map e Rk.out ⟨_,_,_,rfl⟩ ⟨_,_,_,rfl⟩ Bo.out.1.lists.ins.1 Bo.out.1.lists.impl.1 HOK.out.ins HOK.out.impl HOK.out.inp HOK.out.cmd Bo.out.1.site.rounds).mono ?_;rintro e6 w6 ⟨rfl,hb6⟩;have FN:Hid (mM A a t (left+(2*NO+3)) fb jb lb J w (.slice mY NO cO) (.slice kz NI cI) (.slice lH NM cM) (.slice nC NR cR) rl cm e A5 w6/\GZ f ib mb n A5 w6):=⟨Bo.out.1.below hb6,Bo.out.2.after (fun _ _=>rfl) (aQ.of_below _ hb6)⟩;have HSZ:Hid ((DW f e cm).size=32):=kN _;generalize DW f e cm=sig at*;have Mt:Hid ((Lib.strCells sig).toArray.size=32/\(Lib.strCells sig).toArray.toList=Lib.strCells sig/\(Lib.strCells sig).toArray.all (·.oneCell')=true):=⟨by rw[bT,Lib.strCells_length,HSZ.out],rfl,dY (fun u hu=>by obtain⟨y,_,rfl⟩:=fH.1 hu;rfl)⟩
 have HI:Hid ((Tryz.prog.info? 217).map (·.size)=some 32):=by unfold Hid;kernel_rfl
 clear hb6 a0 a1 a2 a3 a4 a5 ci Bo Rk;generalize hSG:(Lib.strCells sig).toArray=SG at*;have HSG:=aY hSG;clear hSG
 go_wp2_with (first
  | (refine bU (w:=w6.alloc (.cells oF 217)) rfl 217 (.tmp 8) (.tmp 31) rfl w6.heap.size 0 SG rfl rfl (bM (aW _ _ _ rfl) 0 _ (by rw[Mt.out.1];decide)) (by rw[Mt.out.1];exact HI.out) Mt.out.2.2 ?_;refine dI ?_)
  |fail)
 have Rx:Hid ((mM A a t (left+(2*NO+3)) fb jb lb J w (.slice mY NO cO) (.slice kz NI cI) (.slice lH NM cM) (.slice nC NR cR) rl cm e A5 ((w6.alloc (.cells oF 217)).setCells w6.heap.size 0 SG.toList)/\GZ f ib mb n A5 ((w6.alloc (.cells oF 217)).setCells w6.heap.size 0 SG.toList))/\((w6.alloc (.cells oF 217)).setCells w6.heap.size 0 SG.toList).rangeAt w6.heap.size 0 SG.toList/\A5 w6.heap.size=0):=by
  have hb:Below w6.heap.size w6 ((w6.alloc (.cells oF 217)).setCells w6.heap.size 0 SG.toList):=ji _ _ ((au _ _).alloc (ai _) _) (ai _);exact⟨⟨FN.out.1.below hb,FN.out.2.after (fun _ _=>rfl) (aQ.of_below _ hb)⟩,dW _ _ _ _ (bM (aW _ _ _ rfl) 0 _ (by rw[aR,Mt.out.1];decide)),FN.out.1.site.above _ (ai _)⟩
 generalize (w6.alloc (.cells oF 217)).setCells w6.heap.size 0 SG.toList=w7 at*;generalize w6.heap.size=sb at*
 have HIC:Hid ((Tryz.prog.info? 217).map (·.size)=some SG.toList.length):=by rw[aR,Mt.out.1];exact HI.out
 obtain⟨a0,a1,a2,a3,a4,a5⟩:=Rx.out.1.1.cells;clear FN;unfold Hid
 go_wp2_with (first
  | (refine nX rfl 217 (.tmp 8) rfl sb 0 rfl SG.toList _ Rx.out.2.1 Tryz.underlying217 rfl HIC.out ?_;refine dI ?_)
  |fail)
 rw[cK];have HCL:=aY (SY Rx.out.1.1.site Rx.out.1.1.lists.outs (by have:=HOK.out.outs;omega) HOK.out.out HSZ.out);rw[HSG.out] at HCL;unfold Hid
 go_wp2_with fail
 refine HCL.out.mono ?_;rintro e8 w8 ⟨rfl,A8,hs8,Qm,Ku⟩
 have HB8:Hid ((mM A a t (left+(2*NO+3)) fb jb lb J w (.slice mY NO cO) (.slice kz NI cI) (.slice lH NM cM) (.slice nC NR cR) rl cm e A8 w8/\GZ f ib mb n A8 w8)/\w8.rangeAt sb 0 SG.toList/\A8 sb=0):=by
  have hlt:sb<w7.heap.size:=by
   obtain⟨u,hu⟩:∃u,SG.toList[0]?=some u:=⟨SG.toList[0]'(by rw[aR,Mt.out.1];decide),by simp⟩;exact aC (Rx.out.2.1 0 u hu)
  exact⟨⟨Rx.out.1.1.after hs8 Qm Ku,Rx.out.1.2.after Qm Ku⟩,fun i u hu=>(aB (w:=w7) (a:=⟨sb,0+i,none⟩) (Ku.block sb hlt (fun q=>by have:=Rx.out.2.2;unfold JF at q;omega))).trans (Rx.out.2.1 i u hu),(Qm _ hlt).trans Rx.out.2.2⟩
 clear hs8 Qm Ku a0 a1 a2 a3 a4 a5 Rx HCL;generalize wN J.r J.L e.outs sig=q8 at*
 rcases q8 with _|_
 case' true=>
  have HE:=aY (HE3.out.trans (aD rfl))
  go_wp2_with fail
  go_ret2;exact⟨.nilIface,by rw[HE.out];rfl,by rw[HE.out];exact aG ⟨rfl,rfl⟩,by rw[HE.out];exact HB8.out.1.1.ends (by omega)⟩
 have Vb:=aY (HE3.out.trans (ax eX));clear HE3;obtain⟨a0,a1,a2,a3,a4,a5⟩:=HB8.out.1.1.cells;have IG:=aY (aea cm HOK.out.cmd f (YF ib) w8 (aa3 HB8.out.1.2.cell HB8.out.1.2.map HSM.out) HB8.out.1.1.site.rounds);unfold YF at IG
 go_wp2_with fail
 refine IG.out.mono ?_;rintro e9 w9 ⟨rfl,Hu⟩;have Ry:Hid (mM A a t (left+(2*NO+3)) fb jb lb J w (.slice mY NO cO) (.slice kz NI cI) (.slice lH NM cM) (.slice nC NR cR) rl cm e A8 w9/\w9.rangeAt sb 0 SG.toList):=⟨HB8.out.1.1.below Hu,fun i u hu=>(Hu.cell (p:=⟨sb,0+i,none⟩) (aC (HB8.out.2.1 i u hu))).trans (HB8.out.2.1 i u hu)⟩
 have HMZ:Hid (∀made,iU (pX f (nP cm))=some made->made.size<=4000):=fun made hm=>by
  unfold iU at hm;obtain⟨y,_,hy⟩:=rq.1 hm
  split at hy
  ·rename_i hle
   rw[<-ak hy];exact hle
  cases hy
 clear Hu IG a0 a1 a2 a3 a4 a5 HB8;generalize iU (pX f (nP cm))=om at*;unfold mh
 cases om with
 |none=>
  have HE:=aY Vb.out;simp only[jC,iN];clear Vb
  go_wp2_with fail
  go_ret2;exact⟨.nilIface,by rw[HE.out];rfl,by rw[HE.out];exact aG ⟨rfl,rfl⟩,by rw[HE.out];exact Ry.out.1.ends (by omega)⟩
 |some made=>
  have HE:=aY Vb.out;simp only[bY,fT];obtain⟨a0,a1,a2,a3,a4,a5⟩:=Ry.out.1.cells;have hst:=Ry.out.1.site;rw[<-HN.out] at hst;have HKP:=aY (abH (made:=made) (sig:=sig) hst Ry.out.1.lists.outs (by have:=HOK.out.outs;omega) HOK.out.out HSZ.out (by have:=HMZ.out made rfl;omega));rw[HSG.out] at HKP;clear Vb hst
  go_wp2_with (first
   | (refine nX rfl 217 (.tmp 8) rfl sb 0 rfl SG.toList _ Ry.out.2 Tryz.underlying217 rfl HIC.out ?_;refine dI ?_)
   |fail)
  rw[cK];unfold Hid
  go_wp2_with fail
  refine HKP.out.mono ?_;rintro e10 yh ⟨ve,rfl,jD,hse⟩;have HEN:Hid (rE a ve (vT J.r J.L e.outs made sig).1/\dF A a t left fb jb lb {J with r:=(vT J.r J.L e.outs made sig).2.1,L:=(vT J.r J.L e.outs made sig).2.2} w yh):=⟨jD,dF.trans Ry.out.1.hA Ry.out.1.turns hse⟩
  have hvf:ve=.nilIface\/∃T x,ve=.iface T (.pointer x):=by
   rcases jD with ⟨q,_⟩|⟨k,_,q,_⟩
   ·exact aG q
   exact aL ⟨_,_,q⟩
  clear jD hse HKP a0 a1 a2 a3 a4 a5
  rcases hvf with rfl|⟨TT,xx,rfl⟩
  all_goals
   go_wp2_with fail
   go_ret2;exact⟨_,by rw[HE.out];rfl,by rw[HE.out];exact HEN.out.1,by rw[HE.out];exact HEN.out.2⟩
theorem iA.aeU(h:iA A a t left fb jb lb J w)(hl:left'<=left)(hA2:∀k,k<w.heap.size->A2 k=A k)(ha:∀k,w'.heap.size<=k->A2 k=0)(ho:w'.os=w.os/\w'.output=w.output)(hs:w.heap.size<=w'.heap.size)(hkp:∀k,k<w.heap.size->(A k=0\/A k=1\/A k=3\/9<=A k)->w'.heap[k]?=w.heap[k]?)(hj:∃ub m v1 v2 v3 v4,qQ A2 left' jb fb (.pointer (some ⟨lb,0,none⟩)) ub m v1 v2 v3 v4 J' w')(hr:J'.r=J.r)(hL:J'.L=J.L):dF A a t left' fb jb lb J' w w':=by
 obtain⟨mb,vn,n,hb,hc,h1,h2⟩:=h.book;refine⟨A2,⟨h.env.keep hs hA2 (fun k hk h0=>hkp k hk (aG h0)),h.rounds.keep (fun k hk=>hkp k (ay hk h.env.glob) (aG (h.env.zero k hk))),by rw[hr];exact(h.files.less hl).keep hA2 (fun k hk q=>hkp k hk (by omega)),hj,⟨mb,vn,n,by rw[hL];exact hb.keep (fun k q=>hkp k (hb.lt k q) (by rw[hc k q];omega)),fun k q=>by rw[hA2 k (hb.lt k q)];exact hc k q,by omega,by rw[hL];omega⟩,ha⟩,hA2,⟨ho.1,ho.2,hs,fun k hk hF=>hkp k hk (by unfold JF at hF;omega)⟩⟩
theorem TD{l:List ah}(h:iA A a t (left+l.length) fb jb lb J w)(ht:tX A w v l)(hl:l.length<=100000)(hx:∀x∈l,x.size<=32):
  Calls Tryz.prog 170 #[.pointer (some ⟨jb,0,none⟩),v] w fun e w'=>e=.returned (.tuple #[])/\dF A a t left fb jb lb {J with un:=J.un++l} w w':=by
 have HT:=aY ht;have HS:=aY h;have HX:=aY hx;obtain⟨⟨ao,cap,rfl,_,_⟩,_⟩:=ht;generalize hL:l.length=L at*;have HL:=aY hL
 have l0:(L:Int)<=100000:=by omega
 clear h hx hL
 go_enter Tryz.func170,Tryz.ntmps170
 go_wp2_with fail
 go_loopw [8] (fun i wr=>∃(j:Nat) (A':Nat->Nat),i=.int .i64 j/\j<=L/\iA A' a t (left+(L-j)) fb jb lb {J with un:=J.un++l.take j} wr/\(∀k,k<w.heap.size->A' k=A k)/\aQ (JF A) w wr) (fun i _=>L-(intOf i).toNat)
 case atStart=>exact⟨0,A,rfl,aN _,by rw[DC,fF];exact HS.out,fun _ _=>rfl,aQ.refl _ _⟩
 case round=>
  obtain⟨j,A',rfl,hj,hs,hA,htu⟩:=hrel;have HM:=aP (aK hA htu);have HSJ:=aY hs
  have j0:(0:Int)<=(j:Int):=by omega
  by_cases hlt:j<L
  ·have j1:(j:Int)<(L:Int):=by omega
   obtain⟨x,hx⟩:∃x,l[j]?=some x:=⟨l[j]'(by have:=HL.out;omega),by simp⟩;obtain⟨Bl,cap',e5,_,h6⟩:=HT.out.turns htu;injection e5 with f1 f2 f3
   rcases h6 with ⟨_,q,_⟩|⟨b,o,q,hct⟩
   ·exfalso;rw[q] at hx;simp at hx
   rw[q] at f1;subst f1;have cx:=hct j x hx;have hxs:=HX.out x (aO hx);obtain⟨ub,m,v1,v2,v3,v4,dV⟩:=hs.job
   have c2:wr.cell? ⟨jb,2,none⟩=some (.map (some ub)):=by rw[bZ dV.row];rfl
   obtain⟨w9,h9,ET,Cr⟩:=dU.store dV.un (t:=122) Tryz.underlying122 (by have:=dV.lim;unfold maxLen;omega) x (by unfold maxLen;omega) (.agg #[]) ⟨_,_,rfl⟩
   have HF:Hid (dF A' a t (left+(L-(j+1))) fb jb lb {J with un:=J.un++l.take (j+1)} wr w9):=by
    have htk:J.un++l.take (j+1)=(J.un++l.take j)++[x]:=by rw[dN,hx,eH];rfl
    have hkp:∀k,k<wr.heap.size->k≠ub->w9.heap[k]?=wr.heap[k]?:=fun k hk hn=>Cr.block k hk (fun e=>hn (ak e))
    refine hs.aeU (by omega) (fun _ _=>rfl) (fun k hk=>hs.above k (aA Cr.size hk)) ⟨Cr.os,Cr.output⟩ Cr.size (fun k hk q=>hkp k hk (fun e=>by rw[e,dV.cu] at q;omega)) ⟨ub,m+1,v1,v2,v3,v4,?_⟩ rfl rfl
    have hne:∀k,A' k≠4->k≠ub:=fun k q e=>q (by rw[e];exact dV.cu)
    refine⟨(hkp jb (bI dV.row) (hne _ (by rw[dV.cj];decide))).trans dV.row,by rw[htk];exact ny.snoc ET,dL dV.r1 (fun k hk=>hkp k (bA dV.r1 k hk).2 (hne k (by rw[dV.c1 k hk];decide))),dL dV.r2 (fun k hk=>hkp k (bA dV.r2 k hk).2 (hne k (by rw[dV.c2 k hk];decide))),dL dV.r3 (fun k hk=>hkp k (bA dV.r3 k hk).2 (hne k (by rw[dV.c3 k hk];decide))),dL dV.r4 (fun k hk=>hkp k (bA dV.r4 k hk).2 (hne k (by rw[dV.c4 k hk];decide))),dV.cj,dV.cu,dV.c1,dV.c2,dV.c3,dV.c4,?_⟩;have h1:=dV.lim;simp only at h1⊢;omega
   clear ET Cr dV hct hx hs hA htu f2 f3
   go_wp2_with fail
   obtain⟨A9,hs9,hA9,ht9⟩:=HF.out;exact⟨⟨j+1,A9,by go_num,by omega,hs9,fun k hk=>(hA9 k (ay hk HM.out.2.size)).trans (HM.out.1 k hk),je HM.out.1 HM.out.2 ht9⟩,by simp[intOf];omega⟩
  obtain rfl:j=L:=by omega
  have HF:Hid (dF A a t left fb jb lb {J with un:=J.un++l} w wr):=by
   rw[bF (dx HL.out)] at hs;exact⟨A',hs.less (by omega),hA,htu⟩
  clear hs hA htu HSJ
  go_wp2_with fail
  first|go_end0|refine bP (eG rfl _ _ _) rfl ?_
  exact⟨rfl,HF.out⟩
variable {ub m:Nat}{w7:aj}{v1 v2 v3 v4:Value}{x:ah}
theorem iA.told{c:Nat}{i:Nat}{l:List ah}(h:iA A a t (left+1) fb jb lb J w)(hj:qQ A (left+1) jb fb (.pointer (some ⟨lb,0,none⟩)) ub m v1 v2 v3 v4 J w)(hv:∀k,v.ownBlock=some k->A k=c)(hc:5<=c/\c<=8)(hg:w.grownBy w7 v.ownBlock)(hat:v.ownBlock=some g\/g=w.heap.size)(hr:w7.ownsRow 0 9 1 (.slice (some ⟨g,0,none⟩) (l.length+1) cap) (l.length+1) (l.map Value.string++[.string x])):
  w7.heap[jb]?=w.heap[jb]?/\((w7.setCell ⟨jb,i,none⟩ (.slice (some ⟨g,0,none⟩) (l.length+1) cap)).ownsRow 0 9 1 (.slice (some ⟨g,0,none⟩) (l.length+1) cap) (l++[x]).length ((l++[x]).map Value.string)/\∀k,(Value.slice (some ⟨g,0,none⟩) (l.length+1) cap).ownBlock=some k->(if k=g then c else A k)=c)/\(∀{u:Value} {n:Nat} {xs:List Value} {d:Nat},w.ownsRow 0 9 1 u n xs->(∀k,u.ownBlock=some k->A k=d)->d≠2->d≠c->(w7.setCell ⟨jb,i,none⟩ (.slice (some ⟨g,0,none⟩) (l.length+1) cap)).ownsRow 0 9 1 u n xs/\∀k,u.ownBlock=some k->(if k=g then c else A k)=d)/\ny (w7.setCell ⟨jb,i,none⟩ (.slice (some ⟨g,0,none⟩) (l.length+1) cap)) ub m J.un/\(if jb=g then c else A jb)=2/\(if ub=g then c else A ub)=4/\∀{J':eZ},(∃ub m v1 v2 v3 v4,qQ (fun k=>if k=g then c else A k) left jb fb (.pointer (some ⟨lb,0,none⟩)) ub m v1 v2 v3 v4 J' (w7.setCell ⟨jb,i,none⟩ (.slice (some ⟨g,0,none⟩) (l.length+1) cap)))->J'.r=J.r->J'.L=J.L->dF A a t left fb jb lb J' w (w7.setCell ⟨jb,i,none⟩ (.slice (some ⟨g,0,none⟩) (l.length+1) cap)):=by
 have hjl:=bI hj.row
 have Na:v.ownBlock≠some jb:=fun e=>by have h1:=hv jb e;rw[hj.cj] at h1;omega
 have hgj:g≠jb:=fun e=>by
  rcases hat with q|q
  ·exact Na (by rw[<-e];exact q)
  omega
 have hkp:∀k,k<w.heap.size->k≠jb->v.ownBlock≠some k->(w7.setCell ⟨jb,i,none⟩ (.slice (some ⟨g,0,none⟩) (l.length+1) cap)).heap[k]?=w.heap[k]?:=fun k hk h1 h2=>(iP (show k≠jb from h1)).trans (hg.block k hk (fun e=>h2 e.symm))
 have hA2:∀k,k<w.heap.size->(if k=g then c else A k)=A k:=fun k hk=>by
  by_cases q:k=g
  ·rw[aD q]
   rcases hat with e|e
   ·exact(hv k (by rw[q];exact e)).symm
   omega
  exact ax q
 refine⟨hg.block jb hjl (fun e=>Na e.symm),⟨by rw[aF,iC];exact dL hr (fun k hk=>iP (show k≠jb from fun e=>hgj (by rw[<-e];exact ak hk))),fun k hk=>aD (ak hk).symm⟩,fun hu hd h2 h3=>⟨dL hu (fun k hk=>hkp k (bA hu k hk).2 (fun e=>by have h1:=hd k hk;rw[e,hj.cj] at h1;omega) (fun e=>by have h1:=hd k hk;have h2:=hv k e;omega)),fun k hk=>(hA2 k (bA hu k hk).2).trans (hd k hk)⟩,dU.keep hj.un (hkp ub hj.un.lt (fun e=>by have h1:=hj.cu;rw[e,hj.cj] at h1;omega) (fun e=>by have h1:=hv ub e;rw[hj.cu] at h1;omega)),(hA2 jb hjl).trans hj.cj,(hA2 ub hj.un.lt).trans hj.cu,fun hJ=>h.aeU (fB _) hA2 (fun k hk=>?_) ⟨hg.os,hg.output⟩ (by rw[dA];exact hg.size) (fun k hk q=>hkp k hk (fun e=>by rw[e,hj.cj] at q;omega) (fun e=>by rw[hv k e] at q;omega)) hJ⟩;have hgl:=(bA hr g rfl).2;rw[dA] at hk;exact(ax (by omega)).trans (h.above k (aA hg.size hk))
theorem iA.ai6(h:iA A a t (left+1) fb jb lb J w)(hj:qQ A (left+1) jb fb (.pointer (some ⟨lb,0,none⟩)) ub m v1 v2 v3 v4 J w)(hg:w.grownBy w7 v1.ownBlock)(hat:v1.ownBlock=some g\/g=w.heap.size)(hr:w7.ownsRow 0 9 1 (.slice (some ⟨g,0,none⟩) (J.ran.length+1) cap) (J.ran.length+1) (J.ran.map Value.string++[.string x])):w7.cell? ⟨jb,3,none⟩=some v1/\w7.frozen? ⟨jb,3,none⟩=false/\dF A a t left fb jb lb {J with ran:=J.ran++[x]} w (w7.setCell ⟨jb,3,none⟩ (.slice (some ⟨g,0,none⟩) (J.ran.length+1) cap)):=by
 obtain⟨h1,h2,hk,hu,c1,c2,hd⟩:=iA.told (i:=3) h hj hj.c1 (by decide) hg hat hr;have AO:=h1.trans hj.row;refine⟨by rw[bZ AO];rfl,iG AO,hd ⟨ub,m,.slice (some ⟨g,0,none⟩) (J.ran.length+1) cap,v2,v3,v4,by rw[xY AO];rfl,hu,h2.1,(hk hj.r2 hj.c2 (by decide) (by decide)).1,(hk hj.r3 hj.c3 (by decide) (by decide)).1,(hk hj.r4 hj.c4 (by decide) (by decide)).1,c1,c2,h2.2,(hk hj.r2 hj.c2 (by decide) (by decide)).2,(hk hj.r3 hj.c3 (by decide) (by decide)).2,(hk hj.r4 hj.c4 (by decide) (by decide)).2,?_⟩ rfl rfl⟩;have h1:=hj.lim;simp only[aF,aS,dR] at h1⊢;omega
theorem iA.ai7(h:iA A a t (left+1) fb jb lb J w)(hj:qQ A (left+1) jb fb (.pointer (some ⟨lb,0,none⟩)) ub m v1 v2 v3 v4 J w)(hg:w.grownBy w7 v2.ownBlock)(hat:v2.ownBlock=some g\/g=w.heap.size)(hr:w7.ownsRow 0 9 1 (.slice (some ⟨g,0,none⟩) (J.cl.length+1) cap) (J.cl.length+1) (J.cl.map Value.string++[.string x])):w7.cell? ⟨jb,4,none⟩=some v2/\w7.frozen? ⟨jb,4,none⟩=false/\dF A a t left fb jb lb {J with cl:=J.cl++[x]} w (w7.setCell ⟨jb,4,none⟩ (.slice (some ⟨g,0,none⟩) (J.cl.length+1) cap)):=by
 obtain⟨h1,h2,hk,hu,c1,c2,hd⟩:=iA.told (i:=4) h hj hj.c2 (by decide) hg hat hr;have AO:=h1.trans hj.row;refine⟨by rw[bZ AO];rfl,iG AO,hd ⟨ub,m,v1,.slice (some ⟨g,0,none⟩) (J.cl.length+1) cap,v3,v4,by rw[xY AO];rfl,hu,(hk hj.r1 hj.c1 (by decide) (by decide)).1,h2.1,(hk hj.r3 hj.c3 (by decide) (by decide)).1,(hk hj.r4 hj.c4 (by decide) (by decide)).1,c1,c2,(hk hj.r1 hj.c1 (by decide) (by decide)).2,h2.2,(hk hj.r3 hj.c3 (by decide) (by decide)).2,(hk hj.r4 hj.c4 (by decide) (by decide)).2,?_⟩ rfl rfl⟩;have h1:=hj.lim;simp only[aF,aS,dR] at h1⊢;omega
theorem iA.ai8(h:iA A a t (left+1) fb jb lb J w)(hj:qQ A (left+1) jb fb (.pointer (some ⟨lb,0,none⟩)) ub m v1 v2 v3 v4 J w)(hg:w.grownBy w7 v3.ownBlock)(hat:v3.ownBlock=some g\/g=w.heap.size)(hr:w7.ownsRow 0 9 1 (.slice (some ⟨g,0,none⟩) (J.fa.length+1) cap) (J.fa.length+1) (J.fa.map Value.string++[.string x])):w7.cell? ⟨jb,5,none⟩=some v3/\w7.frozen? ⟨jb,5,none⟩=false/\dF A a t left fb jb lb {J with fa:=J.fa++[x]} w (w7.setCell ⟨jb,5,none⟩ (.slice (some ⟨g,0,none⟩) (J.fa.length+1) cap)):=by
 obtain⟨h1,h2,hk,hu,c1,c2,hd⟩:=iA.told (i:=5) h hj hj.c3 (by decide) hg hat hr;have AO:=h1.trans hj.row;refine⟨by rw[bZ AO];rfl,iG AO,hd ⟨ub,m,v1,v2,.slice (some ⟨g,0,none⟩) (J.fa.length+1) cap,v4,by rw[xY AO];rfl,hu,(hk hj.r1 hj.c1 (by decide) (by decide)).1,(hk hj.r2 hj.c2 (by decide) (by decide)).1,h2.1,(hk hj.r4 hj.c4 (by decide) (by decide)).1,c1,c2,(hk hj.r1 hj.c1 (by decide) (by decide)).2,(hk hj.r2 hj.c2 (by decide) (by decide)).2,h2.2,(hk hj.r4 hj.c4 (by decide) (by decide)).2,?_⟩ rfl rfl⟩;have h1:=hj.lim;simp only[aF,aS,dR] at h1⊢;omega
theorem iA.ai9(h:iA A a t (left+1) fb jb lb J w)(hj:qQ A (left+1) jb fb (.pointer (some ⟨lb,0,none⟩)) ub m v1 v2 v3 v4 J w)(hg:w.grownBy w7 v4.ownBlock)(hat:v4.ownBlock=some g\/g=w.heap.size)(hr:w7.ownsRow 0 9 1 (.slice (some ⟨g,0,none⟩) (J.bl.length+1) cap) (J.bl.length+1) (J.bl.map Value.string++[.string x])):w7.cell? ⟨jb,6,none⟩=some v4/\w7.frozen? ⟨jb,6,none⟩=false/\dF A a t left fb jb lb {J with bl:=J.bl++[x]} w (w7.setCell ⟨jb,6,none⟩ (.slice (some ⟨g,0,none⟩) (J.bl.length+1) cap)):=by
 obtain⟨h1,h2,hk,hu,c1,c2,hd⟩:=iA.told (i:=6) h hj hj.c4 (by decide) hg hat hr;have AO:=h1.trans hj.row;refine⟨by rw[bZ AO];rfl,iG AO,hd ⟨ub,m,v1,v2,v3,.slice (some ⟨g,0,none⟩) (J.bl.length+1) cap,by rw[xY AO];rfl,hu,(hk hj.r1 hj.c1 (by decide) (by decide)).1,(hk hj.r2 hj.c2 (by decide) (by decide)).1,(hk hj.r3 hj.c3 (by decide) (by decide)).1,h2.1,c1,c2,(hk hj.r1 hj.c1 (by decide) (by decide)).2,(hk hj.r2 hj.c2 (by decide) (by decide)).2,(hk hj.r3 hj.c3 (by decide) (by decide)).2,h2.2,?_⟩ rfl rfl⟩;have h1:=hj.lim;simp only[aF,aS,dR] at h1⊢;omega
theorem ace(e:dm)(o:Nat)(ho:o<=3)(h:iA A a t (left+(e.outs.length+1)) fb jb lb J w)(hz:tX A w vo e.outs)(hvs:(∃p n c,vi=.slice p n c)/\(∃p n c,vm=.slice p n c)/\∃p n c,vr=.slice p n c)(hne:e.outs≠[])(hol:e.outs.length<=10000)(hox:∀x∈e.outs,x.size<=32):
  Calls Tryz.prog 99 #[.pointer (some ⟨jb,0,none⟩),.agg #[vo,vi,vm,vr,.string rl,.string cm],.int .i64 (o:Nat)] w fun e' w'=>e'=.returned (.tuple #[])/\dF A a t left fb jb lb (lC J e o) w w':=by
 have hinf:(Tryz.prog.info? 9).map (fun i=>(i.size,i.bytes,i.zero))=some (1,16,some (.string ⟨#[]⟩)):=by kernel_rfl
 obtain⟨tj,hti,htj⟩:=aX.1 hinf;simp only[Prod.mk.injEq] at htj;have HTJ:=aP (aK hti (aK htj.1 (aK htj.2.1 htj.2.2)));have HS0:=aY h;have HZ0:=aY hz;have HOL:=aY hol;have HOX:=aY hox;obtain⟨⟨⟨pi,ni,ci,rfl⟩,pm,nm,cim,rfl⟩,pr,nr,cr0,rfl⟩:((∃p n c,vi=.slice p n c)/\∃p n c,vm=.slice p n c)/\∃p n c,vr=.slice p n c:=⟨⟨hvs.1,hvs.2.1⟩,hvs.2.2⟩;have hb:Below w.heap.size w (w.alloc (.cells #[vo,.slice pi ni ci,.slice pm nm cim,.slice pr nr cr0,.string rl,.string cm] 63)):=(au _ _).alloc (ai _) _
 obtain⟨x,q,hxq⟩:∃x q,e.outs=x::q:=by
  cases hh:e.outs with
  |nil=>exact absurd hh hne
  |cons x q=>exact⟨x,q,rfl⟩
 have HX:Hid (e.outs.headD ⟨#[]⟩=x):=by rw[hxq];exact rfl
 obtain⟨⟨mY,cO,rfl,hcO,htx⟩,hzz⟩:=hz
 obtain⟨g,oo,rfl,hct⟩:∃b o,mY=some ⟨b,o,none⟩/\∀k s,e.outs[k]?=some s->w.cell? ⟨b,o+k,none⟩=some (.string s):=by
  rcases htx with ⟨_,q2,_⟩|q2
  ·exact absurd q2 hne
  exact q2
 have cx0:(w.alloc (.cells #[.slice (some ⟨g,oo,none⟩) e.outs.length cO,.slice pi ni ci,.slice pm nm cim,.slice pr nr cr0,.string rl,.string cm] 63)).cell? ⟨g,oo,none⟩=some (.string x):=by
  have h1:=hct 0 x (by rw[hxq];rfl);exact(hb.cell (p:=⟨g,oo,none⟩) (aC h1)).trans h1
 have HW1:Hid ((w.alloc (.cells #[.slice (some ⟨g,oo,none⟩) e.outs.length cO,.slice pi ni ci,.slice pm nm cim,.slice pr nr cr0,.string rl,.string cm] 63)).heap[w.heap.size]?=some (.cells #[.slice (some ⟨g,oo,none⟩) e.outs.length cO,.slice pi ni ci,.slice pm nm cim,.slice pr nr cr0,.string rl,.string cm] 63 (0,0))/\Below w.heap.size w (w.alloc (.cells #[.slice (some ⟨g,oo,none⟩) e.outs.length cO,.slice pi ni ci,.slice pm nm cim,.slice pr nr cr0,.string rl,.string cm] 63))/\aQ (JF A) w (w.alloc (.cells #[.slice (some ⟨g,oo,none⟩) e.outs.length cO,.slice pi ni ci,.slice pm nm cim,.slice pr nr cr0,.string rl,.string cm] 63))):=⟨aW _ _ _ rfl,hb,aQ.of_below _ hb⟩;have FT:=aP (h.below hb)
 have hpos:(0:Int)<((e.outs.length:Nat):Int):=by rw[hxq,aS];omega
 generalize hNO:e.outs.length=NO at*;clear hinf hti htj h hvs hct hcO htx hzz hb hxq hne hol hox;have b0:(w.alloc (.cells #[.slice (some ⟨g,oo,none⟩) NO cO,.slice pi ni ci,.slice pm nm cim,.slice pr nr cr0,.string rl,.string cm] 63)).cell? ⟨w.heap.size,0,none⟩=some (.slice (some ⟨g,oo,none⟩) NO cO):=jq _ _ _ _ _ rfl;generalize hw1:w.alloc (.cells #[.slice (some ⟨g,oo,none⟩) NO cO,.slice pi ni ci,.slice pm nm cim,.slice pr nr cr0,.string rl,.string cm] 63)=w1 at*;obtain⟨ub,m,v1,v2,v3,v4,dV⟩:=FT.out.job;subst hNO
 obtain rfl|rfl|rfl|rfl:o=0\/o=1\/o=2\/o=3:=by omega
 case' inl=>
  go_enter Tryz.func99,Tryz.ntmps99
  have Ny:=aP (iH w1 [.string x] 9);have CZ:Hid ((w1.alloc (.cells #[.string x] 9)).ownsRow 0 9 1 v1 J.ran.length (J.ran.map Value.string)):=dL dV.r1 (fun k hk=>aZ _ _ k (bA dV.r1 k hk).2)
  have hll:J.ran.length<=1000000000000:=by have:=dV.lim;omega
  have HST:Hid (iA A a t (left+(e.outs.length+1)) fb jb lb J (w1.alloc (.cells #[.string x] 9))):=FT.out.below ((au _ _).alloc (ai _) _);have Rq:Hid (qQ A (left+e.outs.length+1) jb fb (.pointer (some ⟨lb,0,none⟩)) ub m v1 v2 v3 v4 J (w1.alloc (.cells #[.string x] 9))):=(dV.less (by omega)).keep (fun _ _=>rfl) (fun k hk _=>aZ _ _ k hk)
  have cr:w1.cell? ⟨jb,3,none⟩=some v1:=by rw[bZ dV.row];rfl
  obtain⟨MB,wF,hvv,_,_⟩:=bq dV.r1;generalize Qn:J.ran.length=LL at*;have CK:=aY Qn;subst hvv;clear dV Qn
  go_wp2_with (at_builtin;refine wpList_append_lies _ rfl (.tmp 19) (.tmp 21) 32 rfl 0 9 tj (.string ⟨#[]⟩) 1 16 Tryz.underlying32 HTJ.out.1 HTJ.out.2.2.2 HTJ.out.2.1 HTJ.out.2.2.1 rfl (by decide) _ LL (J.ran.map Value.string) rfl CZ.out ⟨w1.heap.size,0,none⟩ 1 1 [.string x] rfl rfl Ny.out (by intro u hu;simp only[aV,dz,ko] at hu;rcases hu with rfl;rfl) (by decide) (by unfold maxLen;omega) (by omega) (aN _) _ rfl ?_;intro g7 lS w7 hv7 wT rC xg;refine dI ?_)
  have Jf:=aY (iA.ai6 (x:=x) (g:=g7) (cap:=lS) (HST.out.less (show left+e.outs.length+1<=_ by omega)) Rq.out wT rC (by rw[CK.out];exact hv7));rw[CK.out] at Jf;have d7:=Jf.out.1;have f7:=Jf.out.2.1;have HF:=aY Jf.out.2.2;clear hv7 wT rC xg CZ Ny HST Rq cr Jf;unfold Hid
  go_wp2_with fail
  first|go_end0|refine bP (eG rfl _ _ _) rfl ?_
  refine⟨rfl,?_⟩;unfold lC;rw[HX.out];exact dF.after (HW1.out.2.1.alloc HW1.out.2.1.size _) (HF.out.less (by omega))
 case' inr.inl=>
  go_enter Tryz.func99,Tryz.ntmps99
  have Ny:=aP (iH w1 [.string x] 9);have CZ:Hid ((w1.alloc (.cells #[.string x] 9)).ownsRow 0 9 1 v2 J.cl.length (J.cl.map Value.string)):=dL dV.r2 (fun k hk=>aZ _ _ k (bA dV.r2 k hk).2)
  have hll:J.cl.length<=1000000000000:=by have:=dV.lim;omega
  have HST:Hid (iA A a t (left+(e.outs.length+1)) fb jb lb J (w1.alloc (.cells #[.string x] 9))):=FT.out.below ((au _ _).alloc (ai _) _);have Rq:Hid (qQ A (left+e.outs.length+1) jb fb (.pointer (some ⟨lb,0,none⟩)) ub m v1 v2 v3 v4 J (w1.alloc (.cells #[.string x] 9))):=(dV.less (by omega)).keep (fun _ _=>rfl) (fun k hk _=>aZ _ _ k hk)
  have cr:w1.cell? ⟨jb,4,none⟩=some v2:=by rw[bZ dV.row];rfl
  obtain⟨MB,wF,hvv,_,_⟩:=bq dV.r2;generalize Qn:J.cl.length=LL at*;have CK:=aY Qn;subst hvv;clear dV Qn
  go_wp2_with (at_builtin;refine wpList_append_lies _ rfl (.tmp 33) (.tmp 35) 32 rfl 0 9 tj (.string ⟨#[]⟩) 1 16 Tryz.underlying32 HTJ.out.1 HTJ.out.2.2.2 HTJ.out.2.1 HTJ.out.2.2.1 rfl (by decide) _ LL (J.cl.map Value.string) rfl CZ.out ⟨w1.heap.size,0,none⟩ 1 1 [.string x] rfl rfl Ny.out (by intro u hu;simp only[aV,dz,ko] at hu;rcases hu with rfl;rfl) (by decide) (by unfold maxLen;omega) (by omega) (aN _) _ rfl ?_;intro g7 lS w7 hv7 wT rC xg;refine dI ?_)
  have Jf:=aY (iA.ai7 (x:=x) (g:=g7) (cap:=lS) (HST.out.less (show left+e.outs.length+1<=_ by omega)) Rq.out wT rC (by rw[CK.out];exact hv7));rw[CK.out] at Jf;have d7:=Jf.out.1;have f7:=Jf.out.2.1;have HF:=aY Jf.out.2.2;clear hv7 wT rC xg CZ Ny HST Rq cr Jf;unfold Hid
  go_wp2_with fail
  first|go_end0|refine bP (eG rfl _ _ _) rfl ?_
  refine⟨rfl,?_⟩;unfold lC;rw[HX.out];exact dF.after (HW1.out.2.1.alloc HW1.out.2.1.size _) (HF.out.less (by omega))
 case' inr.inr.inl=>
  go_enter Tryz.func99,Tryz.ntmps99
  have Ny:=aP (iH w1 [.string x] 9);have CZ:Hid ((w1.alloc (.cells #[.string x] 9)).ownsRow 0 9 1 v3 J.fa.length (J.fa.map Value.string)):=dL dV.r3 (fun k hk=>aZ _ _ k (bA dV.r3 k hk).2)
  have hll:J.fa.length<=1000000000000:=by have:=dV.lim;omega
  have HST:Hid (iA A a t (left+(e.outs.length+1)) fb jb lb J (w1.alloc (.cells #[.string x] 9))):=FT.out.below ((au _ _).alloc (ai _) _);have Rq:Hid (qQ A (left+e.outs.length+1) jb fb (.pointer (some ⟨lb,0,none⟩)) ub m v1 v2 v3 v4 J (w1.alloc (.cells #[.string x] 9))):=(dV.less (by omega)).keep (fun _ _=>rfl) (fun k hk _=>aZ _ _ k hk)
  have cr:w1.cell? ⟨jb,5,none⟩=some v3:=by rw[bZ dV.row];rfl
  obtain⟨MB,wF,hvv,_,_⟩:=bq dV.r3;generalize Qn:J.fa.length=LL at*;have CK:=aY Qn;subst hvv;clear dV Qn
  go_wp2_with (at_builtin;refine wpList_append_lies _ rfl (.tmp 47) (.tmp 49) 32 rfl 0 9 tj (.string ⟨#[]⟩) 1 16 Tryz.underlying32 HTJ.out.1 HTJ.out.2.2.2 HTJ.out.2.1 HTJ.out.2.2.1 rfl (by decide) _ LL (J.fa.map Value.string) rfl CZ.out ⟨w1.heap.size,0,none⟩ 1 1 [.string x] rfl rfl Ny.out (by intro u hu;simp only[aV,dz,ko] at hu;rcases hu with rfl;rfl) (by decide) (by unfold maxLen;omega) (by omega) (aN _) _ rfl ?_;intro g7 lS w7 hv7 wT rC xg;refine dI ?_)
  have Jf:=aY (iA.ai8 (x:=x) (g:=g7) (cap:=lS) (HST.out.less (show left+e.outs.length+1<=_ by omega)) Rq.out wT rC (by rw[CK.out];exact hv7));rw[CK.out] at Jf;have d7:=Jf.out.1;have f7:=Jf.out.2.1;have HF:=aY Jf.out.2.2;clear hv7 wT rC xg CZ Ny HST Rq cr Jf;unfold Hid;obtain⟨w8,hw8⟩:∃w8,w8=w7.setCell ⟨jb,5,none⟩ (.slice (some ⟨g7,0,none⟩) (LL+1) lS):=⟨_,rfl⟩;rw[<-hw8] at HF;obtain⟨A8,hs8,Qm,Ku⟩:=HF.out;have Vd:Hid (aQ (JF A) w w8/\∀k,k<w.heap.size->A8 k=A k):=⟨HW1.out.2.2.trans (aQ.of_below (JF A) ((au _ _).alloc (ai _) _)) (fun _ hk=>aG hk)|>fun h=>je (fun _ _=>rfl) h Ku,fun k hk=>Qm k (ay hk (aA HW1.out.2.2.size (by rw[bJ];exact fB _)))⟩
  have hbx:w8.heap[w.heap.size]?=some (.cells #[.slice (some ⟨g,oo,none⟩) e.outs.length cO,.slice pi ni ci,.slice pm nm cim,.slice pr nr cr0,.string rl,.string cm] 63 (0,0)):=by
   have hlt:=bI HW1.out.1;refine(Ku.block w.heap.size (by rw[bJ];omega) (fun q=>?_)).trans ((aZ _ _ _ hlt).trans HW1.out.1);have h0:=HS0.out.above w.heap.size (ai _);unfold JF at q;omega
  have b0:w8.cell? ⟨w.heap.size,0,none⟩=some (.slice (some ⟨g,oo,none⟩) e.outs.length cO):=by rw[bZ hbx];rfl
  have HMS:=aY (TD hs8 (HZ0.out.later Vd.out.2 Vd.out.1) (by have:=HOL.out;omega) HOX.out);rw[hw8] at b0;have HW8:=aY hw8;clear hs8 Qm Ku HF hbx hw8
  go_wp2_with fail
  rw[<-HW8.out];refine HMS.out.mono ?_;rintro e9 w9 ⟨rfl,hse⟩;have HE9:=aY (dF.trans Vd.out.2 Vd.out.1 hse);clear hse HMS b0
  go_wp2_with fail
  first|go_end0|refine bP (eG rfl _ _ _) rfl ?_
  exact⟨rfl,by unfold lC;rw[HX.out];exact HE9.out⟩
 case' inr.inr.inr=>
  go_enter Tryz.func99,Tryz.ntmps99
  have Ny:=aP (iH w1 [.string x] 9);have CZ:Hid ((w1.alloc (.cells #[.string x] 9)).ownsRow 0 9 1 v4 J.bl.length (J.bl.map Value.string)):=dL dV.r4 (fun k hk=>aZ _ _ k (bA dV.r4 k hk).2)
  have hll:J.bl.length<=1000000000000:=by have:=dV.lim;omega
  have HST:Hid (iA A a t (left+(e.outs.length+1)) fb jb lb J (w1.alloc (.cells #[.string x] 9))):=FT.out.below ((au _ _).alloc (ai _) _);have Rq:Hid (qQ A (left+e.outs.length+1) jb fb (.pointer (some ⟨lb,0,none⟩)) ub m v1 v2 v3 v4 J (w1.alloc (.cells #[.string x] 9))):=(dV.less (by omega)).keep (fun _ _=>rfl) (fun k hk _=>aZ _ _ k hk)
  have cr:w1.cell? ⟨jb,6,none⟩=some v4:=by rw[bZ dV.row];rfl
  obtain⟨MB,wF,hvv,_,_⟩:=bq dV.r4;generalize Qn:J.bl.length=LL at*;have CK:=aY Qn;subst hvv;clear dV Qn
  go_wp2_with (at_builtin;refine wpList_append_lies _ rfl (.tmp 65) (.tmp 67) 32 rfl 0 9 tj (.string ⟨#[]⟩) 1 16 Tryz.underlying32 HTJ.out.1 HTJ.out.2.2.2 HTJ.out.2.1 HTJ.out.2.2.1 rfl (by decide) _ LL (J.bl.map Value.string) rfl CZ.out ⟨w1.heap.size,0,none⟩ 1 1 [.string x] rfl rfl Ny.out (by intro u hu;simp only[aV,dz,ko] at hu;rcases hu with rfl;rfl) (by decide) (by unfold maxLen;omega) (by omega) (aN _) _ rfl ?_;intro g7 lS w7 hv7 wT rC xg;refine dI ?_)
  have Jf:=aY (iA.ai9 (x:=x) (g:=g7) (cap:=lS) (HST.out.less (show left+e.outs.length+1<=_ by omega)) Rq.out wT rC (by rw[CK.out];exact hv7));rw[CK.out] at Jf;have d7:=Jf.out.1;have f7:=Jf.out.2.1;have HF:=aY Jf.out.2.2;clear hv7 wT rC xg CZ Ny HST Rq cr Jf;unfold Hid;obtain⟨w8,hw8⟩:∃w8,w8=w7.setCell ⟨jb,6,none⟩ (.slice (some ⟨g7,0,none⟩) (LL+1) lS):=⟨_,rfl⟩;rw[<-hw8] at HF;obtain⟨A8,hs8,Qm,Ku⟩:=HF.out;have Vd:Hid (aQ (JF A) w w8/\∀k,k<w.heap.size->A8 k=A k):=⟨HW1.out.2.2.trans (aQ.of_below (JF A) ((au _ _).alloc (ai _) _)) (fun _ hk=>aG hk)|>fun h=>je (fun _ _=>rfl) h Ku,fun k hk=>Qm k (ay hk (aA HW1.out.2.2.size (by rw[bJ];exact fB _)))⟩
  have hbx:w8.heap[w.heap.size]?=some (.cells #[.slice (some ⟨g,oo,none⟩) e.outs.length cO,.slice pi ni ci,.slice pm nm cim,.slice pr nr cr0,.string rl,.string cm] 63 (0,0)):=by
   have hlt:=bI HW1.out.1;refine(Ku.block w.heap.size (by rw[bJ];omega) (fun q=>?_)).trans ((aZ _ _ _ hlt).trans HW1.out.1);have h0:=HS0.out.above w.heap.size (ai _);unfold JF at q;omega
  have b0:w8.cell? ⟨w.heap.size,0,none⟩=some (.slice (some ⟨g,oo,none⟩) e.outs.length cO):=by rw[bZ hbx];rfl
  have HMS:=aY (TD hs8 (HZ0.out.later Vd.out.2 Vd.out.1) (by have:=HOL.out;omega) HOX.out);rw[hw8] at b0;have HW8:=aY hw8;clear hs8 Qm Ku HF hbx hw8
  go_wp2_with fail
  rw[<-HW8.out];refine HMS.out.mono ?_;rintro e9 w9 ⟨rfl,hse⟩;have HE9:=aY (dF.trans Vd.out.2 Vd.out.1 hse);clear hse HMS b0
  go_wp2_with fail
  first|go_end0|refine bP (eG rfl _ _ _) rfl ?_
  exact⟨rfl,by unfold lC;rw[HX.out];exact HE9.out⟩
structure xM(A:Nat->Nat)(a:Nat->Addr)(t:Nat->ah)(left fb jb:Nat)(pl:Value)(J:eZ)(w:aj):Prop where
 env:vL A a t w
 rounds:jw w
 files:pY A left fb J.r w
 job:∃ub m v1 v2 v3 v4,qQ A left jb fb pl ub m v1 v2 v3 v4 J w
 above:∀k,w.heap.size<=k->A k=0
theorem iA.bare(h:iA A a t left fb jb lb J w):xM A a t left fb jb (.pointer (some ⟨lb,0,none⟩)) J w:=⟨h.env,h.rounds,h.files,h.job,h.above⟩
variable {pl:Value}
theorem xM.below(h:xM A a t left fb jb pl J w)(hb:Below w.heap.size w w'):xM A a t left fb jb pl J w':=by
 obtain⟨ub,m,v1,v2,v3,v4,hj⟩:=h.job;exact⟨h.env.keep hb.size (fun _ _=>rfl) (fun k hk _=>hb.block k hk),h.rounds.later (fun k hk=>hb.block k hk),h.files.keep (fun _ _=>rfl) (fun k hk _=>hb.block k hk),⟨ub,m,v1,v2,v3,v4,hj.keep (fun _ _=>rfl) (fun k hk _=>hb.block k hk)⟩,fun k hk=>h.above k (aA hb.size hk)⟩
variable {L:ku}
theorem xM.booked{w1:aj}(h:xM A a t left fb jb pl J w)(hB:Below w.heap.size w w1)(hb:jG w1 lb mb vn n L)(hF:∀k,oI lb mb vn k->w.heap.size<=k)(hn:n+left<=1000000000000)(hc:L.count+left<=1000000000000):w1.cell? ⟨jb,1,none⟩=some pl/\w1.frozen? ⟨jb,1,none⟩=false/\dF A a t left fb jb lb {J with L:=L} w (w1.setCell ⟨jb,1,none⟩ (.pointer (some ⟨lb,0,none⟩))):=by
 obtain⟨ub,m,v1,v2,v3,v4,hj⟩:=(h.below hB).job;obtain⟨ub',m',v1',v2',v3',v4',hj0⟩:=h.job;have hjl:=bI hj0.row;obtain⟨A2,e1,e2,e3⟩:=FZ A w.heap.size 3 (oI lb mb vn)
 have hkp:∀k,k≠jb->(w1.setCell ⟨jb,1,none⟩ (.pointer (some ⟨lb,0,none⟩))).heap[k]?=w1.heap[k]?:=fun k hk=>iP (show k≠jb from hk)
 have hk0:∀k,k<w.heap.size->k≠jb->(w1.setCell ⟨jb,1,none⟩ (.pointer (some ⟨lb,0,none⟩))).heap[k]?=w.heap[k]?:=fun k hk hn=>(hkp k hn).trans (hB.block k hk)
 have hs:w.heap.size<=(w1.setCell ⟨jb,1,none⟩ (.pointer (some ⟨lb,0,none⟩))).heap.size:=by rw[dA];exact hB.size
 have hjc:=hj0.cj
 have hr:(w1.setCell ⟨jb,1,none⟩ (.pointer (some ⟨lb,0,none⟩))).heap[jb]?=some (.cells #[.pointer (some ⟨fb,0,none⟩),.pointer (some ⟨lb,0,none⟩),.map (some ub'),v1',v2',v3',v4'] 125 (0,0)):=by
  rw[xY ((hB.block jb hjl).trans hj0.row)];rfl
 have hw1:w1.heap[jb]?=_:=(hB.block jb hjl).trans hj0.row
 have ro:∀{v:Value} {n:Nat} {xs:List Value} {c:Nat},w.ownsRow 0 9 1 v n xs->(∀k,v.ownBlock=some k->A k=c)->4<=c->(w1.setCell ⟨jb,1,none⟩ (.pointer (some ⟨lb,0,none⟩))).ownsRow 0 9 1 v n xs/\∀k,v.ownBlock=some k->A2 k=c:=fun {v n xs c} hr hc h4=>⟨dL hr (fun k hk=>hk0 k (bA hr k hk).2 (fun e=>by have h1:=hc k hk;rw[e,hjc] at h1;omega)),fun k hk=>by rw[e1 k (bA hr k hk).2];exact hc k hk⟩
 have q1:=ro hj0.r1 hj0.c1 (by decide);have q2:=ro hj0.r2 hj0.c2 (by decide);have q3:=ro hj0.r3 hj0.c3 (by decide);have q4:=ro hj0.r4 hj0.c4 (by decide);refine⟨by rw[bZ hw1];rfl,iG hw1,A2,⟨h.env.keep hs e1 (fun k hk h0=>hk0 k hk (fun e=>by rw[e,hjc] at h0;omega)),h.rounds.keep (fun k hk=>hk0 k (ay hk h.env.glob) (fun e=>by have h0:=h.env.zero k hk;rw[e,hjc] at h0;omega)),h.files.keep e1 (fun k hk q=>hk0 k hk (fun e=>by rw[e,hjc] at q;omega)),⟨ub',m',v1',v2',v3',v4',hr,dU.keep hj0.un (hk0 ub' hj0.un.lt (fun e=>by have h1:=hj0.cu;rw[e,hjc] at h1;omega)),q1.1,q2.1,q3.1,q4.1,by rw[e1 jb hjl];exact hjc,by rw[e1 ub' hj0.un.lt];exact hj0.cu,q1.2,q2.2,q3.2,q4.2,hj0.lim⟩,⟨mb,vn,n,hb.keep (fun k q=>hkp k (fun e=>by have:=hF k q;omega)),fun k q=>e2 k (hF k q) q,hn,hc⟩,fun k hk=>?_⟩,e1,⟨hB.os,hB.output,hs,fun k hk hF=>hk0 k hk (fun e=>hF (by rw[e];exact⟨by rw[hjc];decide,by rw[hjc];decide⟩))⟩⟩;rw[dA] at hk;exact e3 k (aA hB.size hk) (fun q=>by have:=hb.lt k q;omega)
theorem sw.turns(h:sw w v l)(hz:∀k,v.ownBlock=some k->A k=0)(ht:aQ (JF A) w w'):sw w' v l:=by
 obtain⟨ao,cap,rfl,hc,h|⟨g,o,rfl,hg,h⟩⟩:=h
 ·exact⟨ao,cap,rfl,hc,aG h⟩
 refine⟨_,cap,rfl,hc,aL ⟨g,o,rfl,ay hg ht.size,fun k r hr j u hu=>(aB (w:=w) (a:=⟨g,o+k*65+j,none⟩) (ht.block g hg (fun q=>?_))).trans (h k r hr j u hu)⟩⟩;have h0:=hz g rfl;unfold JF at q;omega
theorem sw.lt(h:sw w v l)(hl:l≠[])(k:Nat)(hk:v.ownBlock=some k):k<w.heap.size:=by
 obtain⟨ao,cap,rfl,hc,h|⟨g,o,rfl,hg,h⟩⟩:=h
 ·exact absurd h hl
 rw[<-ak hk];exact hg
structure JB(A:Nat->Nat)(a:Nat->Addr)(t:Nat->ah)(left fb jb lb:Nat)(J:eZ)(w:aj)(l:List gm)(v:Value)(A':Nat->Nat)(wr:aj):Prop where
 site:iA A' a t left fb jb lb J wr
 hA:∀k,k<w.heap.size->A' k=A k
 turns:aQ (JF A) w wr
 recs:sw wr v l
 zero:l≠[]->∀k,v.ownBlock=some k->A' k=0
theorem JB.after(h:JB A a t left fb jb lb J w l v A' wr)(he:dF A' a t left' fb jb lb J' wr w'):∃A2,JB A a t left' fb jb lb J' w l v A2 w':=by
 obtain⟨A2,h1,h2,h3⟩:=he;refine⟨A2,h1,fun k hk=>(h2 k (ay hk h.turns.size)).trans (h.hA k hk),je h.hA h.turns h3,?_,fun hl k hk=>(h2 k (h.recs.lt hl k hk)).trans (h.zero hl k hk)⟩
 by_cases hl:l=[]
 ·obtain⟨ao,cap,rfl,hc,_⟩:=h.recs;exact⟨ao,cap,rfl,hc,aG hl⟩
 exact h.recs.turns (h.zero hl) h3
theorem abN(h:wR L)(hr:∀x r,L.last x=some r->lN r):(∀r∈jZ L,lN r)/\(jZ L).length<=L.count:=by
 refine⟨fun r hq=>?_,aA (wW _ _) h.le⟩;obtain⟨x,_,hx⟩:=jo.1 hq;exact hr x r hx
