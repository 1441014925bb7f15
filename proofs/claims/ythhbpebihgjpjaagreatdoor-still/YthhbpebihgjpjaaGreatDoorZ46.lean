import Derived.Test.YthhbpebihgjpjaaGreatDoorZ40
import Derived.Test.YthhbpebihgjpjaaGreatDoorZ45
namespace Go.Proofs.YthhbpebihgjpjaaGreatDoor
set_option maxRecDepth 1000000
set_option maxHeartbeats 20000000
set_option linter.all false
section
open Go.RowKit Go.Maps
def Co(A:Nat->Nat)(a:Nat->Addr)(t:Nat->ah)(left fb jb:Nat)(q:Int×fB)(w:ak)(e:Ending)(w':ak):Prop:=
 ∃v lb,e=.returned v/\rJ a v q.1/\dL A a t left fb jb lb q.2 w w'
variable {A:Nat->Nat}{a:Nat->Addr}{t:Nat->ah}{left fb jb lb:Nat}{J:fB}{w:ak}
theorem Fz(h:iG A a t (left+4) fb jb lb J w):
  Calls Tryz.prog 101 #[.pointer (some ⟨jb,0,none⟩)] w (Co A a t left fb jb (qC J) w):=by
 have HS:=bB h;obtain⟨ub,m,v1,v2,v3,v4,eD⟩:=h.job;obtain⟨mb,vn,n,hbk,hcb,hn,hcn⟩:=h.book;have HLR:=bB (abP hbk.ok hbk.recs);have HCN:=aV hcn
 have c1:w.cell? ⟨jb,1,none⟩=some (.pointer (some ⟨lb,0,none⟩)):=by rw[aj _ _ _ _ _ _ eD.row];rfl
 have HLA:=bB (IX hbk aJ)
 have Pt:Hid (qC J=if (eP J.r gH (jv++gm (kr J.L))).1≠0 then ((eP J.r gH (jv++gm (kr J.L))).1,{J with r:=(eP J.r gH (jv++gm (kr J.L))).2}) else
  if (iX (eP J.r gH (jv++gm (kr J.L))).2).1≠0 then ((iX (eP J.r gH (jv++gm (kr J.L))).2).1,{J with r:=(iX (eP J.r gH (jv++gm (kr J.L))).2).2}) else
  if (kR (iX (eP J.r gH (jv++gm (kr J.L))).2).2 gH jO).1≠0 then ((kR (iX (eP J.r gH (jv++gm (kr J.L))).2).2 gH jO).1,{J with r:=(kR (iX (eP J.r gH (jv++gm (kr J.L))).2).2 gH jO).2}) else
  ((iX (kR (iX (eP J.r gH (jv++gm (kr J.L))).2).2 gH jO).2).1,{J with r:=(iX (kR (iX (eP J.r gH (jv++gm (kr J.L))).2).2 gH jO).2).2,L:=qQ (kr J.L)})):=rfl
 clear h eD hbk hcb hn hcn
 go_enter Tryz.func101,Tryz.ntmps101
 go_wp2_with fail
 refine HLA.out.mono ?_;rintro e1 w1 ⟨v,rfl,hrc,hnew,hb1⟩;have HM1:Hid (PI A a t (left+4) fb jb lb J w (kr J.L) v A w1):=⟨HS.out.below hb1,fun _ _=>rfl,aW.of_below _ hb1,hrc,fun _ k hk=>HS.out.above k (hnew k hk)⟩;obtain⟨MS,xh,rfl,_,_⟩:=id hrc;generalize hRL:kr J.L=RL at*;generalize Qp:RL.length=LL at*;have CP:=bB Qp;have NC:=bB (Bh RL (.slice MS LL xh) w1.drew (by have h:=HM1.out.recs;exact h) HLR.out.1 (by have h1:=HLR.out.2;have h2:=HCN.out;omega));obtain⟨ub,m,v1,v2,v3,v4,eD⟩:=HM1.out.site.job
 have dP:Hid (w1.drew.cell? ⟨jb,0,none⟩=some (.pointer (some ⟨fb,0,none⟩))):=by
  have h:w1.drew.heap[jb]?=_:=eD.row;rw[aj _ _ _ _ _ _ h];rfl
 have HTZ:Hid ((gm RL).size<=102000000000000):=by have h:=AP RL HLR.out.1;have h1:=HLR.out.2;have h2:=HCN.out;show _<=_;omega
 clear eD hrc hnew hb1 HLA c1 Qp hRL
 go_wp2_with fail
 refine dJ (S:=fun w'=>w'.cell? ⟨jb,0,none⟩=some (.pointer (some ⟨fb,0,none⟩))) dD ?_;change wpAnyH _ _ _ _ _ _ _ _ (World.drew _);refine u3 0 (.pointer (some ⟨jb,0,none⟩)) rfl dP.out<|u3 1 (.pointer (some ⟨jb,0,none⟩)) rfl dP.out<|u3 2 (.pointer (some ⟨jb,0,none⟩)) rfl dP.out<|u3 3 (.pointer (some ⟨fb,0,none⟩)) rfl dP.out<|u3 4 (.slice MS LL xh) rfl dP.out ?_
 refine rH 5 rfl fun K hK=>?_
 go_simp;refine NC.out.mono ?_;rintro e5 w5 ⟨rfl,hb5⟩;have aiK:dL A a t (left+4) fb jb lb J w1 w5:=dL.refl HM1.out.site ((ay _ _).drew.trans hb5);obtain⟨A5,hm5⟩:=HM1.out.after aiK;have Ac:=aV hm5;have Jg:Hid (w5.cell? ⟨jb,0,none⟩=some (.pointer (some ⟨fb,0,none⟩))):=(hb5.cell (p:=⟨jb,0,none⟩) (aG dP.out)).trans dP.out;refine hK.out _ _ Jg.out (fun _=>?_);clear hK K hb5 NC HM1 dP aiK hm5;have dP:=Jg
 have HTS:Hid ((jv++gm RL).size<=140737488351232):=by have:=HTZ.out;show _<=_;rw[aL];show 12+_<=_;omega
 have hz:¬9223372036854775807<12+(gm RL).size:=by have:=HTZ.out;omega
 have ND:=bB (KA Ac.out.site gH (jv++gm RL) bS HTS.out);have Jh:Hid (jv=⟨#[98,117,105,108,100,101,114,108,111,103,49,10]⟩):=rfl;have HHT:Hid (jv++gm RL=⟨#[98,117,105,108,100,101,114,108,111,103,49,10]⟩++gm RL):=rfl;refine u3 6 (.string (⟨#[98,117,105,108,100,101,114,108,111,103,49,10]⟩++gm RL)) rfl dP.out ?_;rw[<-HHT.out];generalize jv++gm RL=T at*;clear hz
 refine rH 7 rfl fun K hK=>?_
 go_simp;refine ND.out.mono ?_;rintro e6 w6 ⟨ve,rfl,jH,hse⟩;obtain⟨A6,Zk⟩:=Ac.out.after hse;have HM6:=aV Zk;obtain⟨ub,m,v1,v2,v3,v4,eD⟩:=Zk.site.job
 have HSV:Hid (w6.cell? ⟨jb,0,none⟩=some (.pointer (some ⟨fb,0,none⟩))):=by rw[aj _ _ _ _ _ _ eD.row];rfl
 refine hK.out _ _ HSV.out (fun _=>?_);clear hK K hse Zk Ac Jg ND eD dP;have dP:=HSV;generalize eP J.r gH T=q1 at*
 rcases jH with ⟨rfl,hq⟩|⟨k,hk,rfl,hq⟩
 case' inr=>
  refine u3 8 (jW a k) rfl dP.out ?_;refine eX dD ?_ _;have HEN:Hid (∃lb',rJ a (jW a k) (q1).1/\dL A a t left fb jb lb' {J with r:=(q1).2} w w6):=⟨lb,aP ⟨k,hk,rfl,hq⟩,A6,HM6.out.site.less aJ,HM6.out.hA,HM6.out.turns⟩;have HE:=bB (Pt.out.trans (aH aJ));clear hq HM6 Pt;unfold jW at*
  go_wp2_with fail
  go_ret;obtain⟨lb',h1,h2⟩:=HEN.out;exact⟨_,lb',rfl,by rw[HE.out];exact h1,by rw[HE.out];exact h2⟩
 refine u3 8 .nilIface rfl dP.out ?_;refine eX dD ?_ _;have HJN:=bB (Pt.out.trans (aA aJ));clear Pt hq;have Pt:=HJN;clear HJN;have d0:=HSV.out;have Yu:=bB (Cu (left:=left+2) HM6.out.site);clear dP HSV
 go_wp2_with fail
 refine Yu.out.mono ?_;rintro e7 w7 ⟨ve,rfl,jH,hse⟩;obtain⟨A7,hm7⟩:=HM6.out.after hse;have HM7:=aV hm7;obtain⟨ub,m,v1,v2,v3,v4,eD⟩:=hm7.site.job
 have d0:w7.cell? ⟨jb,0,none⟩=some (.pointer (some ⟨fb,0,none⟩)):=by rw[aj _ _ _ _ _ _ eD.row];rfl
 clear hse hm7 eD Yu HM6;generalize iX q1.2=q2 at*
 rcases jH with ⟨rfl,hq⟩|⟨k,hk,rfl,hq⟩
 case' inr=>
  skip
  have HEN:Hid (∃lb',rJ a (jW a k) (q2).1/\dL A a t left fb jb lb' {J with r:=(q2).2} w w7):=⟨lb,aP ⟨k,hk,rfl,hq⟩,A7,HM7.out.site.less aJ,HM7.out.hA,HM7.out.turns⟩;have HE:=bB (Pt.out.trans (aH aJ));clear hq HM7 Pt;unfold jW at*
  go_wp2_with fail
  go_ret;obtain⟨lb',h1,h2⟩:=HEN.out;exact⟨_,lb',rfl,by rw[HE.out];exact h1,by rw[HE.out];exact h2⟩
 have HJN:=bB (Pt.out.trans (aA aJ));clear Pt hq;have Pt:=HJN;clear HJN;have II:=bB (Tk (left:=left+1) HM7.out.site gH jO bS);unfold gH jO at II
 go_wp2_with fail
 refine II.out.mono ?_;rintro e8 w8 ⟨ve,rfl,jH,hse⟩;obtain⟨A8,hm8⟩:=HM7.out.after hse;have IE:Hid (PI A a t (left+1) fb jb lb {J with r:=(kR q2.2 gH jO).2} w RL (.slice MS LL xh) A8 w8):=(hm8);have jH:rJ a ve (kR q2.2 gH jO).1:=jH;clear hse hm8 II HM7 d0;generalize kR q2.2 gH jO=q3 at*
 rcases jH with ⟨rfl,hq⟩|⟨k,hk,rfl,hq⟩
 case' inr=>
  skip
  have HEN:Hid (∃lb',rJ a (jW a k) (q3).1/\dL A a t left fb jb lb' {J with r:=(q3).2} w w8):=⟨lb,aP ⟨k,hk,rfl,hq⟩,A8,IE.out.site.less aJ,IE.out.hA,IE.out.turns⟩;have HE:=bB (Pt.out.trans (aH aJ));clear hq IE Pt;unfold jW at*
  go_wp2_with fail
  go_ret;obtain⟨lb',h1,h2⟩:=HEN.out;exact⟨_,lb',rfl,by rw[HE.out];exact h1,by rw[HE.out];exact h2⟩
 have HJN:=bB (Pt.out.trans (aA aJ));clear Pt hq;have Pt:=HJN;clear HJN;have HNB:=bB (BV IE.out.recs HLR.out.1 (by have h1:=HLR.out.2;have h2:=HCN.out;have h3:=CP.out;omega))
 go_wp2_with fail
 refine HNB.out.mono ?_;rintro e9 w9 ⟨lb',mb',Ny,rfl,hbk,hF,Hw⟩;have Br:=bB (IE.out.site.bare.booked Hw hbk hF (by have h1:=HLR.out.2;have h2:=HCN.out;have h3:=CP.out;omega) (by rw[Az];have h1:=HLR.out.2;have h2:=HCN.out;have h3:=CP.out;omega));have d9:=Br.out.1;have f9:=Br.out.2.1;obtain⟨A9,hs9,hA9,ht9⟩:=Br.out.2.2;have Pw:Hid ((∀k,k<w.heap.size->A9 k=A k)/\aW (JF A) w (w9.setCell ⟨jb,1,none⟩ (.pointer (some ⟨lb',0,none⟩)))):=⟨fun k hk=>(hA9 k (aB hk IE.out.turns.size)).trans (IE.out.hA k hk),ji IE.out.hA IE.out.turns ht9⟩;obtain⟨ub,m,v1,v2,v3,v4,eD⟩:=hs9.job
 have d0:(w9.setCell ⟨jb,1,none⟩ (.pointer (some ⟨lb',0,none⟩))).cell? ⟨jb,0,none⟩=some (.pointer (some ⟨fb,0,none⟩)):=by rw[aj _ _ _ _ _ _ eD.row];rfl
 have Yu:=bB (Cu (left:=left) hs9);clear hbk hF Hw Br hs9 hA9 ht9 eD HNB IE
 go_wp2_with fail
 refine Yu.out.mono ?_;rintro e10 yu ⟨ve,rfl,jH,hse⟩;have HEN:Hid (rJ a ve (iX q3.2).1/\dL A a t left fb jb lb' {J with r:=(iX q3.2).2,L:=qQ RL} w yu):=⟨jH,dL.trans Pw.out.1 Pw.out.2 hse⟩
 have hvf:ve=.nilIface\/∃T x,ve=.iface T (.pointer x):=by
  rcases jH with ⟨q,_⟩|⟨k,_,q,_⟩
  ·exact aK q
  exact aP ⟨_,_,q⟩
 clear jH hse Yu d0 d9 f9
 rcases hvf with rfl|⟨TT,xx,rfl⟩
 all_goals
  go_wp2_with fail
  go_ret;exact⟨_,lb',rfl,by rw[Pt.out];exact HEN.out.1,by rw[Pt.out];exact HEN.out.2⟩
variable {left':Nat}{pl:Value}
theorem xR.less(h:xR A a t left fb jb pl J w)(hl:left'<=left):xR A a t left' fb jb pl J w:=by
 obtain⟨ub,m,v1,v2,v3,v4,hj⟩:=h.job;exact⟨h.env,h.rounds,h.files.less hl,⟨ub,m,v1,v2,v3,v4,hj.less hl⟩,h.above⟩
theorem xR.read(h:xR A a t left fb jb pl J w)(name:ah)(hn:name.size<=140737488351232):
  Calls Tryz.prog 45 #[.pointer (some ⟨fb,0,none⟩),.string name] w fun e w'=>∃v,e=.returned (.tuple #[.string ((dM J.r name).getD ⟨#[]⟩),v])/\(v=.nilIface\/∃T x,v=.iface T (.pointer x))/\xR A a t left fb jb pl J w'/\aW (JF A) w w':=by
 obtain⟨c,d,hc,hp,hI⟩:=h.files;refine(GD bS h.env hp name hn).mono ?_;rintro e w' ⟨v,rfl,jH,hp',ht⟩;rw[Gt] at jH⊢;obtain⟨ub,m,v1,v2,v3,v4,hj⟩:=h.job
 have hkp:∀k,k<w.heap.size->A k≠1->w'.heap[k]?=w.heap[k]?:=fun k hk h1=>ht.block k hk h1
 refine⟨v,rfl,?_,⟨h.env.keep ht.size (fun _ _=>rfl) (fun k hk h0=>hkp k hk aJ),h.rounds.keep (fun k hk=>hkp k (aB hk h.env.glob) (by rw[h.env.zero k hk];decide)),⟨c,d,hc,hp',hI⟩,⟨ub,m,v1,v2,v3,v4,hj.keep (fun _ _=>rfl) (fun k hk q=>hkp k hk aJ)⟩,fun k hk=>h.above k (aC ht.size hk)⟩,ht.mono (fun k q=>⟨by rw[q];decide,by rw[q];decide⟩)⟩
 rcases jH with ⟨q,_⟩|⟨k,_,q,_⟩
 ·exact aK q
 exact aP ⟨_,_,q⟩
theorem TQ(h:xR A a t (left+4) fb jb (.pointer none) J w):
  Calls Tryz.prog 97 #[.pointer (some ⟨jb,0,none⟩)] w (Co A a t left fb jb (oO J) w):=by
 obtain⟨ub,m,v1,v2,v3,v4,eD⟩:=h.job
 have c0:w.cell? ⟨jb,0,none⟩=some (.pointer (some ⟨fb,0,none⟩)):=by rw[aj _ _ _ _ _ _ eD.row];rfl
 have CQ:=bB (h.read jO bS)
 have HLT:Hid (left+4<=900000000000/\((dM J.r jO).getD ⟨#[]⟩).size<=65536):=by
  obtain⟨c,d,hc,_,hI⟩:=h.files;refine⟨aJ,?_⟩;unfold dM
  split
  ·exact aS _
  exact aC (pV _ _) hI.total
 have HJO:Hid (oO J=if (iC ((dM J.r jO).getD ⟨#[]⟩)).2=true then (0,{J with L:=qQ (iC ((dM J.r jO).getD ⟨#[]⟩)).1}) else qC {J with L:=qQ (iC ((dM J.r jO).getD ⟨#[]⟩)).1}):=rfl;unfold jO at CQ;clear h eD
 go_enter Tryz.func97,Tryz.ntmps97
 go_wp2_with fail
 refine CQ.out.mono ?_;rintro e1 w1 ⟨v,rfl,hvf,hs1,ht1⟩;have FV:=bB hs1;have HT1:=bB ht1;have NC:Hid ((dM J.r ⟨#[46,108,111,103]⟩).getD ⟨#[]⟩=(dM J.r jO).getD ⟨#[]⟩):=rfl;rw[NC.out];clear hs1 ht1 CQ c0 NC;generalize (dM J.r jO).getD ⟨#[]⟩=T at*;have HRL:=bB (Ul T (by have:=HLT.out;omega) w1);obtain⟨v',hv'⟩:∃v',v'=v:=⟨_,rfl⟩;have hgo:v=v:=rfl
 rcases hvf with rfl|⟨TT,xx,rfl⟩
 all_goals
  clear hv' hgo
  go_wp2_with fail
  refine HRL.out.mono ?_;rintro e2 w2 ⟨lb,mb,vn,n,rfl,hbk,hn,hrl,hF,hb2⟩;have Br:=bB (FV.out.booked hb2 hbk hF (by have:=HLT.out;omega) (by rw[Az];have:=HLT.out;omega));have d1:=Br.out.1;have f1:=Br.out.2.1;obtain⟨A3,hs3,hA3,ht3⟩:=Br.out.2.2;have HM3:Hid (iG A3 a t (left+4) fb jb lb {J with L:=qQ (iC T).1} (w2.setCell ⟨jb,1,none⟩ (.pointer (some ⟨lb,0,none⟩)))/\(∀k,k<w.heap.size->A3 k=A k)/\aW (JF A) w (w2.setCell ⟨jb,1,none⟩ (.pointer (some ⟨lb,0,none⟩)))):=⟨hs3,fun k hk=>hA3 k (aB hk HT1.out.size),ji (fun _ _=>rfl) HT1.out ht3⟩;clear hbk hF hb2 Br hs3 hA3 ht3 hn hrl HRL;generalize (iC T).2=snd at*;generalize qQ (iC T).1=LG at*
  rcases snd with _|_
  ·have HE:=bB (HJO.out.trans (aA fu));have II:=bB (Fz HM3.out.1)
   go_wp2_with fail
   refine II.out.mono ?_;rintro e4 w4 ⟨ve,lb4,rfl,jH,hse⟩;have HEN:Hid (rJ a ve (qC {J with L:=LG}).1/\dL A a t left fb jb lb4 (qC {J with L:=LG}).2 w w4):=⟨jH,dL.trans HM3.out.2.1 HM3.out.2.2 hse⟩
   have hvf:ve=.nilIface\/∃T x,ve=.iface T (.pointer x):=by
    rcases jH with ⟨q,_⟩|⟨k,_,q,_⟩
    ·exact aK q
    exact aP ⟨_,_,q⟩
   clear jH hse II d1 f1 HM3
   rcases hvf with rfl|⟨TT,xx,rfl⟩
   all_goals
    go_wp2_with fail
    go_ret;exact⟨_,lb4,rfl,by rw[HE.out];exact HEN.out.1,by rw[HE.out];exact HEN.out.2⟩
  have HE:=bB (HJO.out.trans (aH rfl))
  go_wp2_with fail
  go_ret;exact⟨_,lb,rfl,by rw[HE.out];exact aK ⟨rfl,rfl⟩,by rw[HE.out];exact⟨A3,HM3.out.1.less aJ,HM3.out.2⟩⟩
def zG(A:Nat->Nat)(w:ak)(v:Value)(es:List dA)(cs:List ah):Prop:=∃ao cap,v=.slice ao es.length cap/\(es=[]\/∃g o,ao=some ⟨g,o,none⟩/\A g=0/\∀(k:Nat) e c,es[k]?=some e->cs[k]?=some c->∃vo vi vm vr,(w.cell? ⟨g,o+k*6,none⟩=some vo/\w.cell? ⟨g,o+k*6+1,none⟩=some vi/\w.cell? ⟨g,o+k*6+2,none⟩=some vm/\w.cell? ⟨g,o+k*6+3,none⟩=some vr/\w.cell? ⟨g,o+k*6+4,none⟩=some (.string e.rule)/\w.cell? ⟨g,o+k*6+5,none⟩=some (.string c))/\Jw A w vo vi vm vr e)
variable {A':Nat->Nat}{w':ak}{v:Value}{es:List dA}{cs:List ah}
theorem zG.later(h:zG A w v es cs)(hc:cs.length=es.length)(hA:∀k,k<w.heap.size->A' k=A k)(ht:aW (JF A) w w'):zG A' w' v es cs:=by
 obtain⟨ao,cap,rfl,h|⟨g,o,rfl,hg,h⟩⟩:=h
 ·exact⟨ao,cap,rfl,aK h⟩
 by_cases hes:es=[]
 ·exact⟨_,cap,rfl,aK hes⟩
 have hp:0<es.length:=gD.2 hes;obtain⟨_,_,_,_,⟨h0,_⟩,_⟩:=h 0 _ _ (fe hp) (fe aJ);have hgl:g<w.heap.size:=aG h0;have hb:w'.heap[g]?=w.heap[g]?:=ht.block g hgl (fun q=>by unfold JF at q;omega)
 have kc:∀(i:Nat) u,w.cell? ⟨g,i,none⟩=some u->w'.cell? ⟨g,i,none⟩=some u:=fun i u hu=>(aF (w:=w) (a:=⟨g,i,none⟩) hb).trans hu
 refine⟨_,cap,rfl,aP ⟨g,o,rfl,(hA g hgl).trans hg,fun k e c he hc=>?_⟩⟩;obtain⟨vo,vi,vm,vr,⟨d0,d1,d2,d3,d4,d5⟩,hz⟩:=h k e c he hc;exact⟨vo,vi,vm,vr,⟨kc _ _ d0,kc _ _ d1,kc _ _ d2,kc _ _ d3,kc _ _ d4,kc _ _ d5⟩,hz.later hA ht⟩
def aaS(A:Nat->Nat)(w:ak)(v:Value)(l:List Nat):Prop:=sw w v l/\(l≠[]->∀b,v.ownBlock=some b->A b=0)
theorem aaS.turns{l:List Nat}(h:aaS A w v l)(ht:aW (JF A) w w'):sw w' v l:=by
 obtain⟨⟨ao,cap,rfl,hc,h1|⟨b,o,rfl,h1⟩⟩,hz⟩:=h
 ·exact⟨ao,cap,rfl,hc,aK h1⟩
 refine⟨_,cap,rfl,hc,aP ⟨b,o,rfl,fun k s hs=>?_⟩⟩;refine(aF (w:=w) (a:=⟨b,o+k,none⟩) (ht.block b (aG (h1 k s hs)) (fun q=>?_))).trans (h1 k s hs);have h0:=hz (fun e=>by rw[e] at hs;simp at hs) b rfl;unfold JF at q;omega
def iq(es:List dA)(cs:List ah)(ps:List Nat):List (dA×ah):=ps.filterMap fun p=>(es[p]?).bind fun e=>(cs[p]?).map fun c=>(e,c)
variable {ps:List Nat}{e:dA}{c:ah}
theorem Ug{j p:Nat}(hp:ps[j]?=some p)(he:es[p]?=some e)(hcc:cs[p]?=some c):iq es cs (ps.drop j)=(e,c)::iq es cs (ps.drop (j+1)):=by
 obtain⟨h1,h2⟩:=aN.1 hp;rw[fG h1,h2];unfold iq;rw[Cn,he,hcc];rfl
structure Et(es:List dA)(cs:List ah):Prop where
 len:cs.length=es.length
 few:es.length<=64
 fit:∀(k:Nat) e c,es[k]?=some e->cs[k]?=some c->Cm e c/\e.outs≠[]
theorem abG(J:fB)(e:dA)(cm:ah):(dZ J e cm).1.1<=3:=by
 unfold dZ
 simp only
 split
 ·exact ai _
 split
 ·exact(by decide:2<=3)
 split
 ·exact(by decide:1<=3)
 split
 ·exact(by decide:2<=3)
 exact(by decide:0<=3)
variable {vp:Value}
theorem PY{ve:Value}(h:xR A a t (left+8+ps.length*30004) fb jb (.pointer none) J w)(hes:zG A w ve es cs)(hps:aaS A w vp ps)(hfit:Et es cs)(hin:∀p∈ps,p<es.length)(hpl:ps.length<=64):
  Calls Tryz.prog 62 #[.pointer (some ⟨jb,0,none⟩),ve,vp] w (Co A a t left fb jb (qM J (iq es cs ps)) w):=by
 have HES:=bB hes;have HPS:=bB hps;have HFT:=bB hfit;have HIN:=bB hin;have HOP:=bB (TQ (left:=left+4+ps.length*30004) (h.less aJ));have HJA:Hid (qM J (iq es cs ps)=if (oO J).1=0 then if (ko (oO J).2 (iq es cs ps)).1=0 then if yG (ko (oO J).2 (iq es cs ps)).2.L=true then qC (ko (oO J).2 (iq es cs ps)).2 else ko (oO J).2 (iq es cs ps) else ko (oO J).2 (iq es cs ps) else oO J):=rfl;obtain⟨RQ,CW,rfl,_⟩:=hes;obtain⟨⟨aop,ak9,rfl,_,_⟩,_⟩:=hps;generalize hN:ps.length=N at*;have HN:=bB hN
 have n0:(N:Int)<=64:=aJ
 generalize hE:es.length=NE at*;have HE:=bB hE
 have e0:(NE:Int)<=64:=by have:=HFT.out.few;omega
 clear h hfit hin hN hE
 go_enter Tryz.func62,Tryz.ntmps62
 go_wp2_with fail
 refine HOP.out.mono ?_;rintro e1 w1 ⟨v1,lb,rfl,jH,A1,hs1,hA1,ht1⟩;have HM1:=aV (aO hs1 (aO hA1 ht1));clear hs1 hA1 ht1 HOP;generalize oO J=q1 at*
 rcases jH with ⟨rfl,hq⟩|⟨k,hk,rfl,hq⟩
 case' inr=>
  have HEN:Hid (Co A a t left fb jb (qM J (iq es cs ps)) w (.returned (jW a k)) w1):=by
   rw[HJA.out,aA aJ];exact⟨_,lb,rfl,aP ⟨k,hk,rfl,hq⟩,A1,HM1.out.1.less aJ,HM1.out.2⟩
  clear hq HM1 HJA;unfold jW at*
  go_wp2_with fail
  go_ret;exact HEN.out
 have Ru:=bB (HJA.out.trans (aH hq));clear hq HJA
 go_wp2_with fail
 go_loopw [19] (fun i wr=>∃(j:Nat) (A':Nat->Nat) (J':fB),i=.int .i64 j/\j<=N/\ko q1.2 (iq es cs ps)=ko J' (iq es cs (ps.drop j))/\iG A' a t (left+4+(N-j)*30004) fb jb lb J' wr/\(∀k,k<w.heap.size->A' k=A k)/\aW (JF A) w wr) (fun i _=>N-(intOf i).toNat)
 case atStart=>exact⟨0,A1,q1.2,rfl,aS _,rfl,HM1.out⟩
 case round=>
  clear HM1;obtain⟨j,A',J',rfl,hj,hjl,hs,hA,htu⟩:=hrel;have HM:=aV (aO hs (aO hA htu));have Jz:=bB hjl
  have j0:(0:Int)<=(j:Int):=aJ
  by_cases hlt:j<N
  ·have j1:(j:Int)<(N:Int):=aJ
   obtain⟨p,hp⟩:∃p,ps[j]?=some p:=⟨ps[j]'(by have:=HN.out;omega),eB⟩;obtain⟨Bo,cap',e5,_,h6⟩:=HPS.out.turns htu;injection e5 with f1 f2 f3
   rcases h6 with q|⟨b,o,q,hct⟩
   ·exfalso;rw[q] at hp;simp at hp
   rw[q] at f1;subst f1;have cp:=hct j p hp;have hpe:=HIN.out p (aU hp);obtain⟨e,he⟩:∃e,es[p]?=some e:=⟨es[p]'(by have:=HE.out;omega),eB⟩;obtain⟨cm,hcm⟩:∃c,cs[p]?=some c:=⟨cs[p]'(by have:=HE.out;have:=HFT.out.len;omega),eB⟩
   have hel:p<NE:=by rw[<-HE.out];exact(aN.1 he).1
   have p0:(0:Int)<=(p:Int):=aJ
   have p1:(p:Int)<(NE:Int):=aJ
   obtain⟨aoz,aoY,e6,h7⟩:=HES.out.later HFT.out.len hA htu;rw[HE.out] at e6;injection e6 with g1 g2 g3
   rcases h7 with q|⟨g,o2,q,hg0,hrow⟩
   ·exfalso;rw[q] at he;simp at he
   rw[q] at g1;subst g1;obtain⟨vo,vi,vm,vr,⟨d0,d1,d2,d3,d4,d5⟩,hez⟩:=hrow p e cm he hcm;obtain⟨hff,hne⟩:=HFT.out.fit p e cm he hcm;have HFE:=aV (aO hff hne);have HPD:=aV (Ug hp he hcm);have HEZ:=bB hez
   have aim:left+4+(N-(j+1))*30004+(e.outs.length+1)+(2*e.outs.length+3)<=left+4+(N-j)*30004:=by
    have h1:(N-j)*30004=(N-(j+1))*30004+30004:=by rw[show N-j=N-(j+1)+1 by omega,Nat.succ_mul]
    have h2:=hff.outs;omega
   have Br:=bB (YM (left:=left+4+(N-(j+1))*30004+(e.outs.length+1)) (rl:=e.rule) (cm:=cm) e (hs.less aim) hez hff);clear aim;obtain⟨⟨nu,cO,rfl,_,_⟩,_⟩:=id hez.outs;obtain⟨⟨kE,cI,rfl,_,_⟩,_⟩:=id hez.ins;obtain⟨⟨lM,cM,rfl,_,_⟩,_⟩:=id hez.impl;obtain⟨⟨nH,cR,rfl,_,_⟩,_⟩:=id hez.ord
   have HRW:Hid (∀w',aW (JF A') wr w'->w'.cell? ⟨g,o2+p*6,none⟩=some (.slice nu e.outs.length cO)/\w'.cell? ⟨g,o2+p*6+1,none⟩=some (.slice kE e.ins.length cI)/\w'.cell? ⟨g,o2+p*6+2,none⟩=some (.slice lM e.impl.length cM)/\w'.cell? ⟨g,o2+p*6+3,none⟩=some (.slice nH e.ord.length cR)/\w'.cell? ⟨g,o2+p*6+4,none⟩=some (.string e.rule)/\w'.cell? ⟨g,o2+p*6+5,none⟩=some (.string cm)):=fun w' ht=>by
    have hb:w'.heap[g]?=wr.heap[g]?:=ht.block g (aG d0) (fun q=>by unfold JF at q;omega)
    have kc:∀(i:Nat) u,wr.cell? ⟨g,i,none⟩=some u->w'.cell? ⟨g,i,none⟩=some u:=fun i u hu=>(aF (w:=wr) (a:=⟨g,i,none⟩) hb).trans hu
    exact⟨kc _ _ d0,kc _ _ d1,kc _ _ d2,kc _ _ d3,kc _ _ d4,kc _ _ d5⟩
   clear hp hct hpe he hcm hez hrow hff hne hs hA htu hjl f2 f3 g2 g3 hg0
   go_wp2_with fail
   refine Br.out.mono ?_;rintro e7 w7 ⟨vb,rfl,jH,A7,hs7,hA7,ht7⟩;have HM7:Hid (iG A7 a t (left+4+(N-(j+1))*30004+(e.outs.length+1)) fb jb lb (dZ J' e cm).2 w7/\(∀k,k<w.heap.size->A7 k=A k)/\aW (JF A) w w7/\Jw A7 w7 (.slice nu e.outs.length cO) (.slice kE e.ins.length cI) (.slice lM e.impl.length cM) (.slice nH e.ord.length cR) e):=⟨hs7,fun k hk=>(hA7 k (aB hk HM.out.2.2.size)).trans (HM.out.2.1 k hk),ji HM.out.2.1 HM.out.2.2 ht7,HEZ.out.later hA7 ht7⟩;obtain⟨d0,d1,d2,d3,d4,d5⟩:=HRW.out w7 ht7;have HO:Hid ((dZ J' e cm).1.1<=3):=abG _ _ _
   have HLS:Hid (ko J' (iq es cs (ps.drop j))=if (dZ J' e cm).1.2=0 then ko (lH (dZ J' e cm).2 e (dZ J' e cm).1.1) (iq es cs (ps.drop (j+1))) else ((dZ J' e cm).1.2,(dZ J' e cm).2)):=by
    show _=_;rw[HPD.out];rfl
   clear hs7 hA7 ht7 Br HRW HM HEZ;generalize dZ J' e cm=q7 at*
   rcases jH with ⟨rfl,hq⟩|⟨k,hk,rfl,hq⟩
   ·have HLN:=bB (Jz.out.trans (HLS.out.trans (aH hq)));have Vg:=bB (acf (left:=left+4+(N-(j+1))*30004) (vi:=.slice kE e.ins.length cI) (vm:=.slice lM e.impl.length cM) (vr:=.slice nH e.ord.length cR) (rl:=e.rule) (cm:=cm) e q7.1.1 HO.out HM7.out.1 HM7.out.2.2.2.outs ⟨⟨_,_,_,rfl⟩,⟨_,_,_,rfl⟩,_,_,_,rfl⟩ HFE.out.2 HFE.out.1.outs HFE.out.1.out);clear hq HLS Jz
    go_wp2_with fail
    refine Vg.out.mono ?_;rintro e8 w8 ⟨rfl,A8,hs8,Qo,Ku⟩;have IE:Hid (iG A8 a t (left+4+(N-(j+1))*30004) fb jb lb (lH q7.2 e q7.1.1) w8/\(∀k,k<w.heap.size->A8 k=A k)/\aW (JF A) w w8):=⟨hs8,fun k hk=>(Qo k (aB hk HM7.out.2.2.1.size)).trans (HM7.out.2.1 k hk),ji HM7.out.2.1 HM7.out.2.2.1 Ku⟩;clear hs8 Qo Ku Vg HM7 d0 d1 d2 d3 d4 d5
    go_wp2_with fail
    exact⟨⟨j+1,A8,_,oW,aJ,HLN.out,IE.out⟩,by simp[intOf];omega⟩
   have HEN:Hid (Co A a t left fb jb (qM J (iq es cs ps)) w (.returned (jW a k)) w7):=by
    have h1:=Jz.out.trans (HLS.out.trans (aA aJ));rw[Ru.out,h1,aA (show¬q7.1.2=0 by omega)];exact⟨_,lb,rfl,aP ⟨k,hk,rfl,hq⟩,A7,HM7.out.1.less aJ,HM7.out.2.1,HM7.out.2.2.1⟩
   clear hq HM7 Ru Jz HLS;unfold jW at*
   go_wp2_with fail
   go_ret;exact HEN.out
  obtain rfl:j=N:=aJ
  have RF:Hid (ko q1.2 (iq es cs ps)=(0,J')):=by
   rw[hjl,kV (dG HN.out)];exact rfl
  have HJC:Hid (qM J (iq es cs ps)=if yG J'.L=true then qC J' else (0,J')):=by
   show _=_;rw[Ru.out,RF.out,aH rfl]
  have HS':=bB (hs.less (show left+4<=_ by omega));obtain⟨ub,m,v1,v2,v3,v4,eD⟩:=hs.job;obtain⟨mb,vn,n,hbk,hcb,hn,hcn⟩:=hs.book
  have c1:wr.cell? ⟨jb,1,none⟩=some (.pointer (some ⟨lb,0,none⟩)):=by rw[aj _ _ _ _ _ _ eD.row];rfl
  obtain⟨aon,ak8,hvn,_,_⟩:=bE hbk.names;have HIL:=bB (Wm lb J'.L.count J'.L.names.length ak8 aon wr (by rw[aj _ _ _ _ _ _ hbk.row];rfl) (by rw[aj _ _ _ _ _ _ hbk.row,<-hvn];rfl) aJ (by have:=hbk.ok.le;omega));have HLB:Hid (yG J'.L=decide (2*J'.L.names.length+8<J'.L.count)):=rfl;clear eD hbk hcb hn hcn hvn hs hjl Jz RF Ru;generalize decide (2*J'.L.names.length+8<J'.L.count)=q at*
  go_wp2_with fail
  refine HIL.out.mono ?_;rintro e7 w7 ⟨rfl,Jm⟩;have HS7:=bB (HS'.out.below Jm);have HT7:Hid ((∀k,k<w.heap.size->A' k=A k)/\aW (JF A) w w7):=⟨HM.out.2.1,HM.out.2.2.trans (aW.of_below (JF A) Jm) (fun _ hk=>aK hk)⟩;clear Jm HIL c1 HM HS' hA htu
  rcases q with _|_
  ·have HF:=bB (HJC.out.trans (aA (by rw[HLB.out];exact fu)))
   go_wp2_with fail
   go_ret;exact⟨_,lb,rfl,by rw[HF.out];exact aK ⟨rfl,rfl⟩,by rw[HF.out];exact⟨A',HS7.out.less aJ,HT7.out⟩⟩
  have HF:=bB (HJC.out.trans (aH HLB.out));have II:=bB (Fz HS7.out)
  go_wp2_with fail
  refine II.out.mono ?_;rintro e8 w8 ⟨ve,lb8,rfl,jH,hse⟩;have HEN:Hid (rJ a ve (qC J').1/\dL A a t left fb jb lb8 (qC J').2 w w8):=⟨jH,dL.trans HT7.out.1 HT7.out.2 hse⟩
  have hvf:ve=.nilIface\/∃T x,ve=.iface T (.pointer x):=by
   rcases jH with ⟨q,_⟩|⟨k,_,q,_⟩
   ·exact aK q
   exact aP ⟨_,_,q⟩
  clear jH hse II
  rcases hvf with rfl|⟨TT,xx,rfl⟩
  all_goals
   go_wp2_with fail
   go_ret;exact⟨_,lb8,rfl,by rw[HF.out];exact HEN.out.1,by rw[HF.out];exact HEN.out.2⟩
structure nZ(A:Nat->Nat)(a:Nat->Addr)(t:Nat->ah)(left fb:Nat)(r:bY)(w:ak):Prop where
 env:vP A a t w
 rounds:jC w
 gl:Gl a w
 files:qf A left fb r w
 above:∀k,w.heap.size<=k->A k=0
 own:∀k,A k=0\/A k=1\/9<=A k
variable {r:bY}
theorem nZ.less(h:nZ A a t left fb r w)(hl:left'<=left):nZ A a t left' fb r w:={h with files:=h.files.less hl}
theorem nZ.below(h:nZ A a t left fb r w)(hb:Below w.heap.size w w'):nZ A a t left fb r w':=
 ⟨h.env.keep hb.size (fun _ _=>rfl) (fun k hk _=>hb.block k hk),h.rounds.later (fun k hk=>hb.block k hk),h.gl.below hb h.gl.size,h.files.keep (fun _ _=>rfl) (fun k hk _=>hb.block k hk),fun k hk=>h.above k (aC hb.size hk),h.own⟩
theorem qf.Yc(h:qf A left fb r w)(hA:∀k,k<w.heap.size->(A k=1->A' k=1)/\(A k=0->A' k=0)):qf A' left fb r w:=by
 obtain⟨c,d,h1,⟨nb,sb,n,m,sv,S,p1,p2,p3,p4,p5,p6,p7,p8,p9,p10,p11⟩,h3⟩:=h;refine⟨c,d,h1,⟨nb,sb,n,m,sv,S,p1,p2,p3,p4,p5,fun j k hk=>?_,p7,p8,p9,⟨(hA _ p1.lt).1 p10.1,(hA _ p2.lt).1 p10.2.1,(hA _ p3.lt).1 p10.2.2.1,fun k hk=>(hA _ (p4.lt k hk)).1 (p10.2.2.2 k hk)⟩,p11⟩,h3⟩;obtain⟨x,y⟩:=p6 j k hk;exact⟨x,fun b hb=>(hA _ (x.box_lt b hb)).2 (y b hb)⟩
def nX(A:Nat->Nat)(a:Nat->Addr)(t:Nat->ah)(left fb:Nat)(r:bY)(w w':ak)(A':Nat->Nat):Prop:=nZ A' a t left fb r w'/\(∀k,k<w.heap.size->A' k=A k)/\aW (fun k=>A k=1) w w'
theorem nZ.done{A2:Nat->Nat}{w3:ak}(h:nZ A a t left' fb r w)(hs:iG A2 a t left fb jb lb J w3)(hold:∀k,k<w.heap.size->A2 k=A k)(hT:aW (fun k=>A k=1) w w3):∃A3,nX A a t left fb J.r w w3 A3/\∀k,2<=A2 k->A2 k<=8->w.heap.size<=k/\A3 k=0:=by
 have hA3:∀k,k<w.heap.size->(if k<w.heap.size then A k else if A2 k=1 then 1 else 0)=A k:=fun k hk=>aH hk
 have hkp:∀k,k<w.heap.size->A k≠1->w3.heap[k]?=w.heap[k]?:=fun k hk hn=>hT.block k hk hn
 refine⟨fun k=>if k<w.heap.size then A k else if A2 k=1 then 1 else 0,⟨⟨h.env.keep hT.size hA3 (fun k hk h0=>hkp k hk aJ),hs.rounds,h.gl.keep hT.size (fun k hk=>hkp k (aB hk h.env.glob) (by rw[h.env.zero k hk];decide)),hs.files.Yc (fun k hk=>?_),fun k hk=>?_,fun k=>?_⟩,hA3,hT⟩,fun k h2 h8=>?_⟩
 ·by_cases q:k<w.heap.size
  ·rw[aH q,hold k q];exact⟨id,id⟩
  rw[aA q];exact⟨fun e=>aH e,fun e=>aA aJ⟩
 ·have hw:w.heap.size<=k:=aC hT.size hk;show(if k<w.heap.size then A k else if A2 k=1 then 1 else 0)=0;rw[aA aJ,aA (by rw[hs.above k hk];decide)]
 ·show(if k<w.heap.size then A k else if A2 k=1 then 1 else 0)=0\/(if k<w.heap.size then A k else if A2 k=1 then 1 else 0)=1\/9<=(if k<w.heap.size then A k else if A2 k=1 then 1 else 0)
  split
  ·exact h.own k
  split
  ·exact aP (aK rfl)
  exact aK rfl
 have hw:w.heap.size<=k:=by
  rcases bX k w.heap.size with q|q
  ·have:=h.own k;rw[hold k q] at h2 h8;omega
  exact q
 refine⟨hw,?_⟩;show(if k<w.heap.size then A k else if A2 k=1 then 1 else 0)=0;rw[aA aJ,aA aJ]
def CX(v:Value)(num line:Int)(w:ak):Prop:=(v=.nilIface\/∃T x,v=.iface T (.pointer x))/\∀w',Below w.heap.size w w'->Calls Tryz.prog 43 #[v] w' fun e w''=>e=.returned (.tuple #[.int .i64 num,.int .i64 line])/\Below w'.heap.size w' w''
variable {n:Int}
theorem CX.num(h:rJ a v n)(hS:uR a t w):CX v n (-1) w:=
 ⟨by
  rcases h with ⟨q,_⟩|⟨k,_,q,_⟩
  ·exact aK q
  exact aP ⟨_,_,q⟩,fun w' hb=>Cz h w' (hS.below hb)⟩
def oH(r:bY):fB:=⟨r,kD.none,[],[],[],[],[]⟩
def ow(r:bY)(t:ah)(ts:List ah):(Int×Int)×fB:=match jZ t with
 |.error bk=>(((BG bk.1:Nat)+1,(bk.2:Nat)),oH r)
 |.ok Sc=>match wR Sc.1 ts with
   |.error false=>((8,-1),oH r)
   |.error true=>((9,-1),oH r)
   |.ok ps=>(((qM (oH r) (iq Sc.1.bG Sc.2 ps)).1,-1),(qM (oH r) (iq Sc.1.bG Sc.2 ps)).2)
structure NJ(w:ak)(r1 r2 r3 r4:Value)(J:fB):Prop where
 ran:w.ownsRow 0 9 1 r1 J.ran.length (J.ran.map Value.string)
 cl:w.ownsRow 0 9 1 r2 J.cl.length (J.cl.map Value.string)
 fa:w.ownsRow 0 9 1 r3 J.fa.length (J.fa.map Value.string)
 bl:w.ownsRow 0 9 1 r4 J.bl.length (J.bl.map Value.string)
variable {S:St}
theorem MU(hr:∀x∈S.rules,x.2.size<=4000)(h:qz S e=some c):c.size<=8000:=by
 have h1:=EO h
 have h2:((eT S.rules e.rule).getD ⟨#[]⟩).size<=4000:=by
  cases hb:eT S.rules e.rule with
  |none=>exact aS _
  |some y=>
   obtain⟨z,hz,_,e2⟩:=uV hb;rw[dm,<-e2];exact hr z hz
 omega
theorem EJ:∀{es:List dA} {cs:List ah},jl S es=some cs->∀(k:Nat) e c,es[k]?=some e->cs[k]?=some c->qz S e=some c
 |[],cs,h,k,e,c,he,_=>by simp at he
 |x::es,cs,h,k,e,c,he,hc=>by
  unfold jl at h
  cases hx:qz S x with
  |none=>rw[hx] at h;cases h
  |some y=>
   rw[hx] at h;obtain⟨l,hl,rfl⟩:=bA.1 h
   cases k with
   |zero=>
    obtain rfl:x=e:=by simpa using he
    obtain rfl:y=c:=by simpa using hc
    exact hx
   |succ k=>exact EJ hl k e c (by simpa using he) (by simpa using hc)
theorem Dl{t:ah}(h:jZ t=.ok (S,cs))(hS:SOk S 0 []):Et S.bG cs:=by
 have hg:=Dn h hS;have hk:=zw h
 have hc:jl S S.bG=some cs:=by
  unfold jZ at h
  split at h
  ·cases h
  split at h
  ·cases h
  rename_i S' _
  split at h
  ·cases h
  rename_i cs' hcs
  injection h with h;injection h with h1 h2;rw[<-h1,<-h2];exact hcs
 refine⟨wJ hc,hg.few,fun k e c he hcc=>?_⟩;have hm:=aU he;obtain⟨g1,g2,g3,g4,g5,g6⟩:=hg.edge e hm;exact⟨⟨g1,g2,g3,g4,g5,g6,by have:=MU hS.rules (EJ hc k e c he hcc);omega⟩,(hk.edge e hm).1⟩
def World.less(w:ak)(b:Nat):ak:={w with heap:=w.heap.setIfInBounds b (.map #[] 0)}
theorem Ow(w:ak)(b:Nat):(World.less w b).heap.size=w.heap.size:=FN
theorem KP{b k:Nat}(h:k≠b):(World.less w b).heap[k]?=w.heap[k]?:=by
 show(w.heap.setIfInBounds b _)[k]?=_;rw[Array.getElem?_setIfInBounds_ne (fun e=>h e.symm)]
theorem Ov(w:ak)(b i:Nat):(World.less w b).cell? ⟨b,i,none⟩=none:=by
 unfold World.cell?;show(match (w.heap.setIfInBounds b (.map #[] 0))[b]? with|some (.cells c _ _)=>_|_=>none)=none;rw[Array.getElem?_setIfInBounds_self]
 split<;>simp_all
variable {W0:Nat}
theorem AX{l:List ah}(h:∀w'',w.heap.size<=w''.heap.size->(∀k,W0<=k->k<w.heap.size->w''.heap[k]?=w.heap[k]?)->bL w'' v l)(hl:l≠[])(b:Nat)(hb:v.ownBlock=some b):W0<=b:=by
 rcases bX b W0 with q|q
 ·obtain⟨ao,cap,rfl,_,h1|⟨g,o,rfl,h1⟩⟩:=h (World.less w b) (dG (Ow w b).symm) (fun k hk _=>KP aJ)
  ·exact absurd h1.2.1 hl
  obtain⟨x,hx⟩:∃x,l[0]?=some x:=⟨l[0]'(gD.2 hl),eB⟩;have e:g=b:=ax hb;have h2:=h1 0 x hx;rw[e,Ov] at h2
  cases h2
 exact q
variable {mb:Nat}
theorem abS(h:MP W0 S cs mb w)(hz:∀k,W0<=k->A k=0):∃ev dv,w.heap[mb]?=some (.cells #[ev,dv] 101 (0,0))/\zG A w ev S.bG cs/\A mb=0:=by
 obtain⟨ev,dv,ds,h1,hrow,hdl,hcl,hli,hd⟩:=h.now
 have hmb:W0<=mb:=by
  rcases bX mb W0 with q|q
  ·obtain⟨ev',dv',_,h1',_⟩:=h (World.less w mb) (dG (Ow w mb).symm) (fun k hk _=>KP aJ);have h2:=Ov w mb 0;rw[aj _ _ _ _ _ _ h1'] at h2
   cases h2
  exact q
 refine⟨ev,dv,h1,?_,hz mb hmb⟩;obtain⟨ao,cap,hev,hcap,hg⟩:=bE hrow;refine⟨ao,cap,hev,?_⟩
 by_cases h0:S.bG=[]
 ·exact aK h0
 obtain⟨g,rfl⟩:=hg (gD.2 h0);subst hev;have hgW:=(bF hrow g rfl).1;refine aP ⟨g,0,rfl,hz g hgW,fun k e y he hy=>?_⟩
 have hlt:k<ds.length:=by rw[hdl];exact(aN.1 he).1
 obtain⟨d,hd⟩:∃d,ds[k]?=some d:=⟨ds[k],eB⟩;have hl:=hli k d e hd he
 have cell:∀i u,i<6->(yF d y)[i]?=some u->w.cell? ⟨g,k*6+i,none⟩=some u:=fun i u hi hu=>(dV hrow (k*6+i) u (by rw[ou ds cs k d y i hd hy hi];exact hu)).1
 have aej:∀w'',w.heap.size<=w''.heap.size->(∀k,W0<=k->k<w.heap.size->w''.heap[k]?=w.heap[k]?)->bL w'' d.vo e.outs/\bL w'' d.vi e.ins/\bL w'' d.vm e.impl/\bL w'' d.vr e.ord:=fun w'' hs hk=>by
  obtain⟨ev',dv',ds',h1',hrow',alq,_,alG,_⟩:=h w'' hs hk;rw[hk mb hmb (bN h1),h1] at h1'
  have e1:(#[Value.slice (some ⟨g,0,none⟩) S.bG.length cap,dv]:Array Value)=#[ev',dv']:=by
   injection ax h1'
  have e2:ev'=.slice (some ⟨g,0,none⟩) S.bG.length cap:=by
   have:=ig (fun a:Array Value=>a[0]?) e1
   simpa using this.symm
  subst e2;obtain⟨d',hd'⟩:∃d',ds'[k]?=some d':=⟨ds'[k]'(by rw[alq];exact(aN.1 he).1),eB⟩;have hl':=alG k d' e hd' he
  have same:∀i u u',i<6->(yF d y)[i]?=some u->(yF d' y)[i]?=some u'->u=u':=fun i u u' hi hu hu'=>by
   have a1:=cell i u hi hu;have a2:=(dV hrow' (k*6+i) u' (by rw[ou ds' cs k d' y i hd' hy hi];exact hu')).1;rw[aF (w:=w) (a:=⟨g,k*6+i,none⟩) (hk g hgW (bF hrow g rfl).2),a1] at a2;exact ax a2
  have s0:=same 0 d.vo d'.vo bS rfl rfl;have s1:=same 1 d.vi d'.vi bS rfl rfl;have s2:=same 2 d.vm d'.vm bS rfl rfl;have s3:=same 3 d.vr d'.vr bS rfl rfl;rw[s0,s1,s2,s3];exact⟨hl'.1,hl'.2.1,hl'.2.2.1,hl'.2.2.2.1⟩
 rw[dh];refine⟨d.vo,d.vi,d.vm,d.vr,⟨cell 0 _ aJ rfl,cell 1 _ aJ rfl,cell 2 _ aJ rfl,cell 3 _ aJ rfl,?_,cell 5 _ aJ rfl⟩,⟨hl.1,fun hn b hb=>hz b (AX (fun w'' hs hk=>(aej w'' hs hk).1) hn b hb)⟩,⟨hl.2.1,fun hn b hb=>hz b (AX (fun w'' hs hk=>(aej w'' hs hk).2.1) hn b hb)⟩,⟨hl.2.2.1,fun hn b hb=>hz b (AX (fun w'' hs hk=>(aej w'' hs hk).2.2.1) hn b hb)⟩,⟨hl.2.2.2.1,fun hn b hb=>hz b (AX (fun w'' hs hk=>(aej w'' hs hk).2.2.2) hn b hb)⟩⟩;rw[<-hl.2.2.2.2];exact cell 4 _ aJ rfl
def Vs(A:Nat->Nat)(a:Nat->Addr)(t:Nat->ah)(left fb:Nat)(q:(Int×Int)×fB)(w:ak)(e:Ending)(w':ak):Prop:=
 ∃v r1 r2 r3 r4 A',e=.returned (.tuple #[.agg #[r1,r2,r3,r4],v])/\CX v q.1.1 q.1.2 w'/\NJ w' r1 r2 r3 r4 q.2/\(∀k,(r1.ownBlock=some k\/r2.ownBlock=some k\/r3.ownBlock=some k\/r4.ownBlock=some k)->w.heap.size<=k/\A' k=0)/\nX A a t left fb q.2.r w w' A'
theorem nZ.mark(h:nZ A a t left fb r w)(hb:Below w.heap.size w w')(hlt:w.heap.size<w'.heap.size):nZ (fun k=>if k=w.heap.size then 9 else A k) a t left fb r w':=by
 have hA:∀k,k<w.heap.size->(if k=w.heap.size then 9 else A k)=A k:=fun k hk=>aA aJ
 refine⟨h.env.keep hb.size hA (fun k hk _=>hb.block k hk),h.rounds.later (fun k hk=>hb.block k hk),h.gl.below hb h.gl.size,h.files.keep hA (fun k hk _=>hb.block k hk),fun k hk=>(aA aJ).trans (h.above k aJ),fun k=>?_⟩;show(if k=w.heap.size then 9 else A k)=0\/(if k=w.heap.size then 9 else A k)=1\/9<=(if k=w.heap.size then 9 else A k)
 split
 ·exact aP (aP (ai _))
 exact h.own k
theorem Ip{l:Int}(h:nZ A a t left fb r w)(hb:Below w.heap.size w w')(he:CX v n l w'):Vs A a t left fb ((n,l),oH r) w (.returned (.tuple #[.agg #[.slice none 0 0,.slice none 0 0,.slice none 0 0,.slice none 0 0],v])) w':=
 ⟨v,_,_,_,_,A,rfl,he,⟨dK _ _ _ _,dK _ _ _ _,dK _ _ _ _,dK _ _ _ _⟩,(fun k hk=>by rcases hk with q|q|q|q<;>cases q),h.below hb,fun _ _=>rfl,⟨hb.os,hb.output,hb.size,fun k hk _=>hb.block k hk⟩⟩
theorem sW{g:Nat}(h:w.heap[g]?=some (.cells #[.slice none 0 0,.slice none 0 0,.slice none 0 0,.slice none 0 0] 36 (0,0)))(i:Nat)(hi:i<4):(w.setCell ⟨g,i,none⟩ (.slice none 0 0)).heap[g]?=some (.cells #[.slice none 0 0,.slice none 0 0,.slice none 0 0,.slice none 0 0] 36 (0,0)):=by
 rw[aR _ _ _ _ _ _ h]
 match i,hi with
 |0,_=>rfl
 |1,_=>rfl
 |2,_=>rfl
 |3,_=>rfl
theorem VW:∀{l:List Nat} {n:Nat},l.Nodup->(∀x∈l,x<n)->l.length<=n:=by
 intro l n h hl
 have hs:l⊆List.range n:=fun x hx=>kW.2 (hl x hx)
 have:=h.length_le_of_subset hs
 rwa [List.length_range] at this
theorem aaj{W:Nat}(h:nZ A a t (left+2000000) fb r w)(hf:Et S.bG cs)(hm:∃ev dv,w.heap[mb]?=some (.cells #[ev,dv] 101 (0,0))/\zG A w ev S.bG cs/\A mb=0)(hr:w.ownsRow W 3 1 vp ps.length (mq ps))(hW:∀k,W<=k->A k=0)(hin:∀p∈ps,p<S.bG.length)(hpl:ps.length<=64):∃ev,w.cell? ⟨mb,0,none⟩=some ev/\(∃ao n c,ev=.slice ao n c)/\Calls Tryz.prog 62 #[.pointer (some ⟨w.heap.size+1,0,none⟩),ev,vp] ((w.alloc (.map #[] 0)).alloc (.cells #[.pointer (some ⟨fb,0,none⟩),.pointer none,.map (some w.heap.size),.slice none 0 0,.slice none 0 0,.slice none 0 0,.slice none 0 0] 125)) (Co (fun k=>if k=w.heap.size+1 then 2 else if k=w.heap.size then 4 else A k) a t left fb (w.heap.size+1) (qM (oH r) (iq S.bG cs ps)) ((w.alloc (.map #[] 0)).alloc (.cells #[.pointer (some ⟨fb,0,none⟩),.pointer none,.map (some w.heap.size),.slice none 0 0,.slice none 0 0,.slice none 0 0,.slice none 0 0] 125))):=by
 obtain⟨ev,dv,hrow,hez,_⟩:=hm;have hsz:(w.alloc (.map #[] 0)).heap.size=w.heap.size+1:=bO _ _;have hb:Below w.heap.size w ((w.alloc (.map #[] 0)).alloc (.cells #[.pointer (some ⟨fb,0,none⟩),.pointer none,.map (some w.heap.size),.slice none 0 0,.slice none 0 0,.slice none 0 0,.slice none 0 0] 125)):=((ay _ _).alloc (ai _) _).alloc aJ _
 have hA:∀k,k<w.heap.size->(if k=w.heap.size+1 then 2 else if k=w.heap.size then 4 else A k)=A k:=fun k hk=>by rw[aA aJ,aA aJ]
 refine⟨ev,by rw[aj _ _ _ _ _ _ hrow];rfl,by obtain⟨ao,cap,e,_⟩:=hez;exact⟨ao,_,cap,e⟩,?_⟩;refine PY ?_ (hez.later hf.len hA (aW.of_below _ hb)) ⟨(Hz hr).keep (fun k hk=>hb.block k hk),fun _ b hb'=>?_⟩ hf hin hpl
 ·refine xR.less (left:=left+2000000) ⟨h.env.keep hb.size hA (fun k hk _=>hb.block k hk),h.rounds.later (fun k hk=>hb.block k hk),h.files.keep hA (fun k hk _=>hb.block k hk),⟨w.heap.size,0,.slice none 0 0,.slice none 0 0,.slice none 0 0,.slice none 0 0,bq _ _ _ hsz.symm,?_,dK _ _ _ _,dK _ _ _ _,dK _ _ _ _,dK _ _ _ _,aH rfl,(aA aJ).trans (aH rfl),(fun k hk=>by cases hk),(fun k hk=>by cases hk),(fun k hk=>by cases hk),(fun k hk=>by cases hk),?_⟩,fun k hk=>?_⟩ aJ
  ·have h1:=eu.made Mj (.agg #[]) ⟨_,_,rfl⟩ w;have h2:eu Mj (.agg #[]) ((w.alloc (.map #[] 0)).alloc (.cells #[.pointer (some ⟨fb,0,none⟩),.pointer none,.map (some w.heap.size),.slice none 0 0,.slice none 0 0,.slice none 0 0,.slice none 0 0] 125)) w.heap.size 0 (fun _=>none):=eu.keep h1 (bC _ _ _ aJ);exact h2
  ·obtain⟨c,d,hc,_⟩:=h.files;show 0+(left+2000000)<=_/\0+(left+2000000)<=_/\0+(left+2000000)<=_/\0+(left+2000000)<=_/\0+(left+2000000)<=_;omega
  have h1:((w.alloc (.map #[] 0)).alloc (.cells #[.pointer (some ⟨fb,0,none⟩),.pointer none,.map (some w.heap.size),.slice none 0 0,.slice none 0 0,.slice none 0 0,.slice none 0 0] 125)).heap.size=w.heap.size+1+1:=by rw[bO,hsz]
  rw[h1] at hk;exact(aA aJ).trans ((aA aJ).trans (h.above k aJ))
 have h1:=bF hr b hb';exact(hA b h1.2).trans (hW b h1.1)
theorem VB(text:ah)(vt:Value)(ts:List ah)(h:nZ A a t (left+2000000) fb r w)(ht:bL w vt ts)(hx:text.size<=140737488351232)(htl:ts.length<=1048576)(hts:∀x∈ts,x.size<=maxLen):
  Calls Tryz.prog 42 #[.pointer (some ⟨fb,0,none⟩),.string text,vt] w (Vs A a t left fb (ow r text ts) w):=by
 have HB:=bB h;have HT:=bB ht;have HTS:=aV (aO htl hts);have hb1:Below w.heap.size w (w.alloc (.cells #[.slice none 0 0,.slice none 0 0,.slice none 0 0,.slice none 0 0] 36)):=(ay _ _).alloc (ai _) _;have HW1:Hid (Below w.heap.size w (w.alloc (.cells #[.slice none 0 0,.slice none 0 0,.slice none 0 0,.slice none 0 0] 36))/\(w.alloc (.cells #[.slice none 0 0,.slice none 0 0,.slice none 0 0,.slice none 0 0] 36)).heap[w.heap.size]?=some (.cells #[.slice none 0 0,.slice none 0 0,.slice none 0 0,.slice none 0 0] 36 (0,0))):=⟨hb1,bq _ _ _ rfl⟩;have Jf:=bB (OO text a _ (h.below hb1).gl hx)
 have HI:Hid ((Tryz.prog.info? 36).map (·.size)=some 4):=by unfold Hid;kernel_rfl
 have HJT:Hid (ow r text ts=match jZ text with
  |.error bk=>(((BG bk.1:Nat)+1,(bk.2:Nat)),oH r)
  |.ok Sc=>match wR Sc.1 ts with
    |.error false=>((8,-1),oH r)
    |.error true=>((9,-1),oH r)
    |.ok ps=>(((qM (oH r) (iq Sc.1.bG Sc.2 ps)).1,-1),(qM (oH r) (iq Sc.1.bG Sc.2 ps)).2)):=rfl
 obtain⟨aot,adt,rfl,_,_⟩:=ht;generalize hTL:ts.length=TL at*;have akR:=bB hTL;clear h hx htl hts hb1 hTL
 go_enter Tryz.func42,Tryz.ntmps42
 go_wp2_with fail
 generalize w.alloc (.cells #[.slice none 0 0,.slice none 0 0,.slice none 0 0,.slice none 0 0] 36)=w1 at*;refine Jf.out.mono ?_;rintro e2 w2 ⟨hend,hb2⟩;have HW2:Hid (Below w.heap.size w w2/\w2.heap[w.heap.size]?=some (.cells #[.slice none 0 0,.slice none 0 0,.slice none 0 0,.slice none 0 0] 36 (0,0))):=⟨HW1.out.1.trans (hb2.mono HW1.out.1.size),(hb2.block _ (bN HW1.out.2)).trans HW1.out.2⟩;clear hb2 Jf
 cases hps:jZ text with
 |error bk=>
  rw[hps] at hend;obtain⟨fk,rfl,h0,h1⟩:=hend
  have HE:Hid (ow r text ts=((((BG bk.1:Nat):Int)+1,((bk.2:Nat):Int)),oH r)):=by show _=_;rw[HJT.out,hps]
  have HER:Hid (∀w',Below w.heap.size w w'->(∀k,k≠w.heap.size->w'.heap[k]?=w2.heap[k]?)->CX (.iface 129 (.pointer (some ⟨fk,0,none⟩))) ((BG bk.1:Nat)+1) (bk.2:Nat) w'):=fun w' hb hk=>by
   have hfk:fk≠w.heap.size:=fun e=>by
    rw[e,aj _ _ _ _ _ _ HW2.out.2] at h0
    cases h0
   have kc:∀i u,w2.cell? ⟨fk,i,none⟩=some u->w'.cell? ⟨fk,i,none⟩=some u:=fun i u hu=>(aF (w:=w2) (a:=⟨fk,i,none⟩) (hk fk hfk)).trans hu
   exact⟨aP ⟨_,_,rfl⟩,fun w'' hb'=>Fp a t (BG bk.1) (XM _) fk 0 w'' ((HB.out.env.pU.below hb).below hb') ((hb'.cell (p:=⟨fk,0,none⟩) (aG (kc 0 _ h0))).trans (kc 0 _ h0)) ((hb'.cell (p:=⟨fk,1,none⟩) (aG (kc 1 _ h1))).trans (kc 1 _ h1))⟩
  clear h0 h1 hps HJT;have HRA:Hid (Below w.heap.size w ((((w2.setCell ⟨w.heap.size,0,none⟩ (.slice none 0 0)).setCell ⟨w.heap.size,1,none⟩ (.slice none 0 0)).setCell ⟨w.heap.size,2,none⟩ (.slice none 0 0)).setCell ⟨w.heap.size,3,none⟩ (.slice none 0 0))/\((((w2.setCell ⟨w.heap.size,0,none⟩ (.slice none 0 0)).setCell ⟨w.heap.size,1,none⟩ (.slice none 0 0)).setCell ⟨w.heap.size,2,none⟩ (.slice none 0 0)).setCell ⟨w.heap.size,3,none⟩ (.slice none 0 0)).heap[w.heap.size]?=some (.cells #[.slice none 0 0,.slice none 0 0,.slice none 0 0,.slice none 0 0] 36 (0,0))/\∀k,k≠w.heap.size->((((w2.setCell ⟨w.heap.size,0,none⟩ (.slice none 0 0)).setCell ⟨w.heap.size,1,none⟩ (.slice none 0 0)).setCell ⟨w.heap.size,2,none⟩ (.slice none 0 0)).setCell ⟨w.heap.size,3,none⟩ (.slice none 0 0)).heap[k]?=w2.heap[k]?):=⟨(((HW2.out.1.setCell (p:=⟨w.heap.size,0,none⟩) (ai _) _).setCell (p:=⟨w.heap.size,1,none⟩) (ai _) _).setCell (p:=⟨w.heap.size,2,none⟩) (ai _) _).setCell (p:=⟨w.heap.size,3,none⟩) (ai _) _,sW (sW (sW (sW HW2.out.2 0 bS) 1 bS) 2 bS) 3 bS,fun k hk=>by rw[au _ _ _ _ (show k≠w.heap.size from hk),au _ _ _ _ (show k≠w.heap.size from hk),au _ _ _ _ (show k≠w.heap.size from hk),au _ _ _ _ (show k≠w.heap.size from hk)]⟩
  have z0:w2.cell? ⟨w.heap.size,0,none⟩=some (.slice none 0 0):=by rw[aj _ _ _ _ _ _ HW2.out.2];rfl
  have z1:w2.cell? ⟨w.heap.size,1,none⟩=some (.slice none 0 0):=by rw[aj _ _ _ _ _ _ HW2.out.2];rfl
  have z2:w2.cell? ⟨w.heap.size,2,none⟩=some (.slice none 0 0):=by rw[aj _ _ _ _ _ _ HW2.out.2];rfl
  have z3:w2.cell? ⟨w.heap.size,3,none⟩=some (.slice none 0 0):=by rw[aj _ _ _ _ _ _ HW2.out.2];rfl
  have f0:w2.frozen? ⟨w.heap.size,0,none⟩=false:=aD _ _ _ _ _ HW2.out.2;have f1:w2.frozen? ⟨w.heap.size,1,none⟩=false:=aD _ _ _ _ _ HW2.out.2;have f2:w2.frozen? ⟨w.heap.size,2,none⟩=false:=aD _ _ _ _ _ HW2.out.2;have f3:w2.frozen? ⟨w.heap.size,3,none⟩=false:=aD _ _ _ _ _ HW2.out.2
  go_wp2_with fail
  generalize ((((w2.setCell ⟨w.heap.size,0,none⟩ (.slice none 0 0)).setCell ⟨w.heap.size,1,none⟩ (.slice none 0 0)).setCell ⟨w.heap.size,2,none⟩ (.slice none 0 0)).setCell ⟨w.heap.size,3,none⟩ (.slice none 0 0))=w9 at*
  have HRG:Hid (w9.rangeAt w.heap.size 0 [Value.slice none 0 0,.slice none 0 0,.slice none 0 0,.slice none 0 0]):=fun i u hu=>by rw[aj _ _ _ _ _ _ HRA.out.2.1,dh,<-cZ];exact hu
  refine bV (pX rfl _ _ _ w.heap.size 0 [Value.slice none 0 0,.slice none 0 0,.slice none 0 0,.slice none 0 0] _ rfl HRG.out Tryz.underlying36 rfl HI.out) rfl ?_;rw[HE.out];exact Ip (HB.out.less aJ) HRA.out.1 (HER.out w9 HRA.out.1 HRA.out.2.2)
 |ok Sc=>
  rw[hps] at hend;obtain⟨mb,rfl,hmk,Zl⟩:=hend;obtain⟨S,cs⟩:=Sc;have HGD:Hid (aa0 S/\Et S.bG cs):=⟨Dn hps Zl,Dl hps Zl⟩;have HOR:=bB (ZK hmk.now (HB.out.below HW2.out.1).gl HGD.out.1 (HT.out.iy HW2.out.1) (by rw[akR.out];exact HTS.out.1) HTS.out.2);have HMK:=aV hmk
  have HJ2:Hid (ow r text ts=match wR S ts with
   |.error false=>((8,-1),oH r)
   |.error true=>((9,-1),oH r)
   |.ok ps=>(((qM (oH r) (iq S.bG cs ps)).1,-1),(qM (oH r) (iq S.bG cs ps)).2)):=by show _=_;rw[HJT.out,hps]
  clear hmk Zl hps HJT
  go_wp2_with fail
  refine HOR.out.mono ?_;rintro e3 w3 ⟨hend,hb3⟩;have HW3:Hid (Below w.heap.size w w3/\w3.heap[w.heap.size]?=some (.cells #[.slice none 0 0,.slice none 0 0,.slice none 0 0,.slice none 0 0] 36 (0,0))):=⟨HW2.out.1.trans (hb3.mono HW2.out.1.size),(hb3.block _ (bN HW2.out.2)).trans HW2.out.2⟩;have HM3:=aV (HMK.out.below hb3);clear hb3 HOR HMK
  cases hor:wR S ts with
  |error b=>
   rw[hor] at hend
   rcases b with _|_
   case' false=>
    obtain rfl:e3=.returned (.tuple #[.slice none 0 0,jW a 7]):=hend
    have HE:Hid (ow r text ts=((8,-1),oH r)):=by show _=_;rw[HJ2.out,hor]
    have HER:Hid (∀w',Below w.heap.size w w'->(∀k,k≠w.heap.size->w'.heap[k]?=w3.heap[k]?)->CX (jW a 7) 8 (-1) w'):=fun w' hb _=>CX.num (t:=t) (aP ⟨7,bS,rfl,rfl⟩) (HB.out.env.pU.below hb)
   case' true=>
    obtain rfl:e3=.returned (.tuple #[.slice none 0 0,jW a 8]):=hend
    have HE:Hid (ow r text ts=((9,-1),oH r)):=by show _=_;rw[HJ2.out,hor]
    have HER:Hid (∀w',Below w.heap.size w w'->(∀k,k≠w.heap.size->w'.heap[k]?=w3.heap[k]?)->CX (jW a 8) 9 (-1) w'):=fun w' hb _=>CX.num (t:=t) (aP ⟨8,bS,rfl,rfl⟩) (HB.out.env.pU.below hb)
   all_goals
    clear hor HJ2;unfold jW at*;have HRA:Hid (Below w.heap.size w ((((w3.setCell ⟨w.heap.size,0,none⟩ (.slice none 0 0)).setCell ⟨w.heap.size,1,none⟩ (.slice none 0 0)).setCell ⟨w.heap.size,2,none⟩ (.slice none 0 0)).setCell ⟨w.heap.size,3,none⟩ (.slice none 0 0))/\((((w3.setCell ⟨w.heap.size,0,none⟩ (.slice none 0 0)).setCell ⟨w.heap.size,1,none⟩ (.slice none 0 0)).setCell ⟨w.heap.size,2,none⟩ (.slice none 0 0)).setCell ⟨w.heap.size,3,none⟩ (.slice none 0 0)).heap[w.heap.size]?=some (.cells #[.slice none 0 0,.slice none 0 0,.slice none 0 0,.slice none 0 0] 36 (0,0))/\∀k,k≠w.heap.size->((((w3.setCell ⟨w.heap.size,0,none⟩ (.slice none 0 0)).setCell ⟨w.heap.size,1,none⟩ (.slice none 0 0)).setCell ⟨w.heap.size,2,none⟩ (.slice none 0 0)).setCell ⟨w.heap.size,3,none⟩ (.slice none 0 0)).heap[k]?=w3.heap[k]?):=⟨(((HW3.out.1.setCell (p:=⟨w.heap.size,0,none⟩) (ai _) _).setCell (p:=⟨w.heap.size,1,none⟩) (ai _) _).setCell (p:=⟨w.heap.size,2,none⟩) (ai _) _).setCell (p:=⟨w.heap.size,3,none⟩) (ai _) _,sW (sW (sW (sW HW3.out.2 0 bS) 1 bS) 2 bS) 3 bS,fun k hk=>by rw[au _ _ _ _ (show k≠w.heap.size from hk),au _ _ _ _ (show k≠w.heap.size from hk),au _ _ _ _ (show k≠w.heap.size from hk),au _ _ _ _ (show k≠w.heap.size from hk)]⟩
    have z0:w3.cell? ⟨w.heap.size,0,none⟩=some (.slice none 0 0):=by rw[aj _ _ _ _ _ _ HW3.out.2];rfl
    have z1:w3.cell? ⟨w.heap.size,1,none⟩=some (.slice none 0 0):=by rw[aj _ _ _ _ _ _ HW3.out.2];rfl
    have z2:w3.cell? ⟨w.heap.size,2,none⟩=some (.slice none 0 0):=by rw[aj _ _ _ _ _ _ HW3.out.2];rfl
    have z3:w3.cell? ⟨w.heap.size,3,none⟩=some (.slice none 0 0):=by rw[aj _ _ _ _ _ _ HW3.out.2];rfl
    have f0:w3.frozen? ⟨w.heap.size,0,none⟩=false:=aD _ _ _ _ _ HW3.out.2;have f1:w3.frozen? ⟨w.heap.size,1,none⟩=false:=aD _ _ _ _ _ HW3.out.2;have f2:w3.frozen? ⟨w.heap.size,2,none⟩=false:=aD _ _ _ _ _ HW3.out.2;have f3:w3.frozen? ⟨w.heap.size,3,none⟩=false:=aD _ _ _ _ _ HW3.out.2
    go_wp2_with fail
    generalize ((((w3.setCell ⟨w.heap.size,0,none⟩ (.slice none 0 0)).setCell ⟨w.heap.size,1,none⟩ (.slice none 0 0)).setCell ⟨w.heap.size,2,none⟩ (.slice none 0 0)).setCell ⟨w.heap.size,3,none⟩ (.slice none 0 0))=w9 at*
    have HRG:Hid (w9.rangeAt w.heap.size 0 [Value.slice none 0 0,.slice none 0 0,.slice none 0 0,.slice none 0 0]):=fun i u hu=>by rw[aj _ _ _ _ _ _ HRA.out.2.1,dh,<-cZ];exact hu
    refine bV (pX rfl _ _ _ w.heap.size 0 [Value.slice none 0 0,.slice none 0 0,.slice none 0 0,.slice none 0 0] _ rfl HRG.out Tryz.underlying36 rfl HI.out) rfl ?_;rw[HE.out];exact Ip (HB.out.less aJ) HRA.out.1 (HER.out w9 HRA.out.1 HRA.out.2.2)
  |ok ps=>
   rw[hor] at hend;obtain⟨vp,rfl,hrow⟩:=hend;have hok:=La hor;have hpl:ps.length<=64:=aC (VW hok.nd hok.lt) HGD.out.2.few
   have HJ3:Hid (ow r text ts=(((qM (oH r) (iq S.bG cs ps)).1,-1),(qM (oH r) (iq S.bG cs ps)).2)):=by show _=_;rw[HJ2.out,hor]
   have HSP:=bB (aaj (left:=left) (HB.out.mark HW3.out.1 (bN HW3.out.2)) HGD.out.2 (abS HM3.out (fun k hk=>(aA (by have:=bN HW1.out.2;omega)).trans (HB.out.above k (aC HW1.out.1.size hk)))) hrow (fun k hk=>(aA (by have:=bN HW2.out.2;omega)).trans (HB.out.above k (aC HW2.out.1.size hk))) hok.lt hpl);obtain⟨aop,ak9,hvp,_,_⟩:=bE hrow;subst hvp;obtain⟨ev,hcm,⟨RQ,ne,cae,rfl⟩,hcall⟩:=HSP.out;have HCA:=bB hcall
   have hmk:(Instr.makeMap 122 none).run Tryz.prog w3=.ok (.map (some w3.heap.size)) (w3.alloc (.map #[] 0)):=by simp[Instr.makeMap,go_sem]
   have hsz:(w3.alloc (.map #[] 0)).heap.size=w3.heap.size+1:=bO _ _;have hb4:Below w3.heap.size w3 ((w3.alloc (.map #[] 0)).alloc (.cells #[.pointer (some ⟨fb,0,none⟩),.pointer none,.map (some w3.heap.size),.slice none 0 0,.slice none 0 0,.slice none 0 0,.slice none 0 0] 125)):=((ay _ _).alloc (ai _) _).alloc aJ _;have cm4:((w3.alloc (.map #[] 0)).alloc (.cells #[.pointer (some ⟨fb,0,none⟩),.pointer none,.map (some w3.heap.size),.slice none 0 0,.slice none 0 0,.slice none 0 0,.slice none 0 0] 125)).cell? ⟨mb,0,none⟩=some (.slice RQ ne cae):=(hb4.cell (p:=⟨mb,0,none⟩) (aG hcm)).trans hcm;have xC:=bB hb4;clear hrow hok hpl hor HJ2 HSP hcall hb4 hcm
   go_wp2_with fail
   refine HCA.out.mono ?_;rintro e5 w5 ⟨ve,lb,rfl,jH,A5,hs5,hA5,ht5⟩;have hlt3:=bN HW3.out.2
   have ha9:A5 w.heap.size=9:=by
    rw[hA5 w.heap.size (aB hlt3 xC.out.size)];exact(aA aJ).trans ((aA aJ).trans (aH rfl))
   have hr5:w5.heap[w.heap.size]?=some (.cells #[.slice none 0 0,.slice none 0 0,.slice none 0 0,.slice none 0 0] 36 (0,0)):=by
    refine(ht5.block w.heap.size (aB hlt3 xC.out.size) (fun q=>?_)).trans ((xC.out.block w.heap.size hlt3).trans HW3.out.2);rw[hA5 w.heap.size (aB hlt3 xC.out.size)] at ha9;unfold JF at q;omega
   obtain⟨ub,m,v1,v2,v3,v4,eD⟩:=hs5.job
   have d3:w5.cell? ⟨w3.heap.size+1,3,none⟩=some v1:=by rw[aj _ _ _ _ _ _ eD.row];rfl
   have d4:w5.cell? ⟨w3.heap.size+1,4,none⟩=some v2:=by rw[aj _ _ _ _ _ _ eD.row];rfl
   have d5:w5.cell? ⟨w3.heap.size+1,5,none⟩=some v3:=by rw[aj _ _ _ _ _ _ eD.row];rfl
   have d6:w5.cell? ⟨w3.heap.size+1,6,none⟩=some v4:=by rw[aj _ _ _ _ _ _ eD.row];rfl
   have HRR:Hid (((((w5.setCell ⟨w.heap.size,0,none⟩ v1).setCell ⟨w.heap.size,1,none⟩ v2).setCell ⟨w.heap.size,2,none⟩ v3).setCell ⟨w.heap.size,3,none⟩ v4).heap[w.heap.size]?=some (.cells #[v1,v2,v3,v4] 36 (0,0))/\∀k,k≠w.heap.size->((((w5.setCell ⟨w.heap.size,0,none⟩ v1).setCell ⟨w.heap.size,1,none⟩ v2).setCell ⟨w.heap.size,2,none⟩ v3).setCell ⟨w.heap.size,3,none⟩ v4).heap[k]?=w5.heap[k]?):=⟨by
    have g0:=aR w5 w.heap.size 0 _ _ v1 hr5;have g1:=aR _ w.heap.size 1 _ _ v2 g0;have g2:=aR _ w.heap.size 2 _ _ v3 g1;have g3:=aR _ w.heap.size 3 _ _ v4 g2
    exact g3,fun k hk=>by rw[au _ _ _ _ (show k≠w.heap.size from hk),au _ _ _ _ (show k≠w.heap.size from hk),au _ _ _ _ (show k≠w.heap.size from hk),au _ _ _ _ (show k≠w.heap.size from hk)]⟩
   have Bc:Hid (Vs A a t left fb (ow r text ts) w (.returned (.tuple #[.agg #[v1,v2,v3,v4],ve])) ((((w5.setCell ⟨w.heap.size,0,none⟩ v1).setCell ⟨w.heap.size,1,none⟩ v2).setCell ⟨w.heap.size,2,none⟩ v3).setCell ⟨w.heap.size,3,none⟩ v4)):=by
    have abA:((((w5.setCell ⟨w.heap.size,0,none⟩ v1).setCell ⟨w.heap.size,1,none⟩ v2).setCell ⟨w.heap.size,2,none⟩ v3).setCell ⟨w.heap.size,3,none⟩ v4).heap.size=w5.heap.size:=by rw[dI,dI,dI,dI]
    have hkp:=HRR.out.2;have hs9:=hs5.keep (w':=((((w5.setCell ⟨w.heap.size,0,none⟩ v1).setCell ⟨w.heap.size,1,none⟩ v2).setCell ⟨w.heap.size,2,none⟩ v3).setCell ⟨w.heap.size,3,none⟩ v4)) (dG abA.symm) (fun _ _=>rfl) (fun k _ h8=>hkp k (fun e=>by rw[e,ha9] at h8;omega)) (fun k hk=>hs5.above k (by rw[<-abA];exact hk))
    have hA1:∀k,k<w.heap.size->(if k=w3.heap.size+1 then 2 else if k=w3.heap.size then 4 else if k=w.heap.size then 9 else A k)=A k:=fun k hk=>by rw[aA aJ,aA aJ,aA aJ]
    have hold:∀k,k<w.heap.size->A5 k=A k:=fun k hk=>(hA5 k (by have:=xC.out.size;omega)).trans (hA1 k hk)
    have hT:aW (fun k=>A k=1) w ((((w5.setCell ⟨w.heap.size,0,none⟩ v1).setCell ⟨w.heap.size,1,none⟩ v2).setCell ⟨w.heap.size,2,none⟩ v3).setCell ⟨w.heap.size,3,none⟩ v4):=by
     refine⟨ht5.os.trans (xC.out.os.trans HW3.out.1.os),ht5.output.trans (xC.out.output.trans HW3.out.1.output),by rw[abA];exact aC HW3.out.1.size (aC xC.out.size ht5.size),fun k hk hn=>?_⟩;rw[hkp k aJ,ht5.block k (by have:=xC.out.size;omega) (fun q=>?_),xC.out.block k aJ]
     ·exact HW3.out.1.block k hk
     have q1:1<=(if k=w3.heap.size+1 then 2 else if k=w3.heap.size then 4 else if k=w.heap.size then 9 else A k):=q.1;have q2:(if k=w3.heap.size+1 then 2 else if k=w3.heap.size then 4 else if k=w.heap.size then 9 else A k)<=8:=q.2;rw[hA1 k hk] at q1 q2;have:=HB.out.own k;omega
    obtain⟨A9,hbe,hz9⟩:=HB.out.done hs9 hold hT;rw[HJ3.out]
    have ro:∀{v:Value} {n c:Nat} {xs:List Value},w5.ownsRow 0 9 1 v n xs->(∀k,v.ownBlock=some k->A5 k=c)->2<=c->c<=8->((((w5.setCell ⟨w.heap.size,0,none⟩ v1).setCell ⟨w.heap.size,1,none⟩ v2).setCell ⟨w.heap.size,2,none⟩ v3).setCell ⟨w.heap.size,3,none⟩ v4).ownsRow 0 9 1 v n xs/\∀k,v.ownBlock=some k->w.heap.size<=k/\A9 k=0:=fun {v n c xs} hr hc h2 h8=>⟨dR hr (fun k hk=>hkp k (fun e=>by have h1:=hc k hk;rw[e,ha9] at h1;omega)),fun k hk=>hz9 k (by rw[hc k hk];exact h2) (by rw[hc k hk];exact h8)⟩
    have q1:=ro eD.r1 eD.c1 bS bS;have q2:=ro eD.r2 eD.c2 bS bS;have q3:=ro eD.r3 eD.c3 bS bS;have q4:=ro eD.r4 eD.c4 bS bS
    exact⟨ve,v1,v2,v3,v4,A9,rfl,CX.num jH hbe.1.env.pU,⟨q1.1,q2.1,q3.1,q4.1⟩,fun k hk=>by
     rcases hk with h|h|h|h
     ·exact q1.2 k h
     ·exact q2.2 k h
     ·exact q3.2 k h
     exact q4.2 k h,hbe⟩
   have z0:w5.cell? ⟨w.heap.size,0,none⟩=some (.slice none 0 0):=by rw[aj _ _ _ _ _ _ hr5];rfl
   have z1:w5.cell? ⟨w.heap.size,1,none⟩=some (.slice none 0 0):=by rw[aj _ _ _ _ _ _ hr5];rfl
   have z2:w5.cell? ⟨w.heap.size,2,none⟩=some (.slice none 0 0):=by rw[aj _ _ _ _ _ _ hr5];rfl
   have z3:w5.cell? ⟨w.heap.size,3,none⟩=some (.slice none 0 0):=by rw[aj _ _ _ _ _ _ hr5];rfl
   have f0:w5.frozen? ⟨w.heap.size,0,none⟩=false:=aD _ _ _ _ _ hr5;have f1:w5.frozen? ⟨w.heap.size,1,none⟩=false:=aD _ _ _ _ _ hr5;have f2:w5.frozen? ⟨w.heap.size,2,none⟩=false:=aD _ _ _ _ _ hr5;have f3:w5.frozen? ⟨w.heap.size,3,none⟩=false:=aD _ _ _ _ _ hr5
   have hvf:ve=.nilIface\/∃T x,ve=.iface T (.pointer x):=by
    rcases jH with ⟨q,_⟩|⟨k,_,q,_⟩
    ·exact aK q
    exact aP ⟨_,_,q⟩
   obtain⟨o1,p1,hv1,_,_⟩:=bE eD.r1;obtain⟨o2,p2,hv2,_,_⟩:=bE eD.r2;obtain⟨o3,p3,hv3,_,_⟩:=bE eD.r3;obtain⟨o4,p4,hv4,_,_⟩:=bE eD.r4;clear jH hs5 hA5 ht5 eD HCA ha9 hr5 cm4 hmk hsz;generalize (qM (oH r) (iq S.bG cs ps)).2.ran.length=n1 at*;generalize (qM (oH r) (iq S.bG cs ps)).2.cl.length=n2 at*;generalize (qM (oH r) (iq S.bG cs ps)).2.fa.length=n3 at*;generalize (qM (oH r) (iq S.bG cs ps)).2.bl.length=n4 at*;subst hv1 hv2 hv3 hv4
   rcases hvf with rfl|⟨TT,xx,rfl⟩
   all_goals
    go_wp2_with fail
    refine bV (pX rfl _ _ _ w.heap.size 0 [Value.slice o1 n1 p1,.slice o2 n2 p2,.slice o3 n3 p3,.slice o4 n4 p4] _ rfl (fun i u hu=>by rw[aj _ _ _ _ _ _ HRR.out.1,dh,<-cZ];exact hu) Tryz.underlying36 rfl HI.out) rfl ?_;exact Bc.out
end
end Go.Proofs.YthhbpebihgjpjaaGreatDoor
