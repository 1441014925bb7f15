import Derived.Test.YthhbpebihgjpjaaGreatDoorZ40
import Derived.Test.YthhbpebihgjpjaaGreatDoorZ45
namespace Go.Proofs.YthhbpebihgjpjaaGreatDoor
set_option maxRecDepth 1000000
set_option maxHeartbeats 20000000
set_option linter.all false
section
open Go.RowKit Go.Maps
def Cm(A:Nat->Nat)(a:Nat->Addr)(t:Nat->ah)(left fb jb:Nat)(q:Int×eZ)(w:aj)(e:Ending)(w':aj):Prop:=
 ∃v lb,e=.returned v/\rE a v q.1/\dF A a t left fb jb lb q.2 w w'
variable {A:Nat->Nat}{a:Nat->Addr}{t:Nat->ah}{left fb jb lb:Nat}{J:eZ}{w:aj}
theorem Fy(h:iA A a t (left+4) fb jb lb J w):
  Calls Tryz.prog 101 #[.pointer (some ⟨jb,0,none⟩)] w (Cm A a t left fb jb (qz J) w):=by
 have HS:=aY h;obtain⟨ub,m,v1,v2,v3,v4,dV⟩:=h.job;obtain⟨mb,vn,n,hbk,hcb,hn,hcn⟩:=h.book;have HLR:=aY (abN hbk.ok hbk.recs);have HCN:=aP hcn
 have c1:w.cell? ⟨jb,1,none⟩=some (.pointer (some ⟨lb,0,none⟩)):=by rw[bZ dV.row];rfl
 have HLA:=aY (IW hbk (by omega))
 have Pp:Hid (qz J=if (eu J.r fV (jm++fP (jZ J.L))).1≠0 then ((eu J.r fV (jm++fP (jZ J.L))).1,{J with r:=(eu J.r fV (jm++fP (jZ J.L))).2}) else
  if (iR (eu J.r fV (jm++fP (jZ J.L))).2).1≠0 then ((iR (eu J.r fV (jm++fP (jZ J.L))).2).1,{J with r:=(iR (eu J.r fV (jm++fP (jZ J.L))).2).2}) else
  if (jW (iR (eu J.r fV (jm++fP (jZ J.L))).2).2 fV jJ).1≠0 then ((jW (iR (eu J.r fV (jm++fP (jZ J.L))).2).2 fV jJ).1,{J with r:=(jW (iR (eu J.r fV (jm++fP (jZ J.L))).2).2 fV jJ).2}) else
  ((iR (jW (iR (eu J.r fV (jm++fP (jZ J.L))).2).2 fV jJ).2).1,{J with r:=(iR (jW (iR (eu J.r fV (jm++fP (jZ J.L))).2).2 fV jJ).2).2,L:=qM (jZ J.L)})):=rfl
 clear h dV hbk hcb hn hcn
 go_enter Tryz.func101,Tryz.ntmps101
 go_wp2_with fail
 refine HLA.out.mono ?_;rintro e1 w1 ⟨v,rfl,hrc,hnew,hb1⟩;have HM1:Hid (JB A a t (left+4) fb jb lb J w (jZ J.L) v A w1):=⟨HS.out.below hb1,fun _ _=>rfl,aQ.of_below _ hb1,hrc,fun _ k hk=>HS.out.above k (hnew k hk)⟩;obtain⟨MB,wF,rfl,_,_⟩:=id hrc;generalize hRL:jZ J.L=RL at*;generalize Qn:RL.length=LL at*;have CK:=aY Qn;have Nz:=aY (Bf RL (.slice MB LL wF) w1.drew (by have h:=HM1.out.recs;exact h) HLR.out.1 (by have h1:=HLR.out.2;have h2:=HCN.out;omega));obtain⟨ub,m,v1,v2,v3,v4,dV⟩:=HM1.out.site.job
 have dJ:Hid (w1.drew.cell? ⟨jb,0,none⟩=some (.pointer (some ⟨fb,0,none⟩))):=by
  have h:w1.drew.heap[jb]?=_:=dV.row;rw[bZ h];rfl
 have HTZ:Hid ((fP RL).size<=102000000000000):=by have h:=AL RL HLR.out.1;have h1:=HLR.out.2;have h2:=HCN.out;show _<=_;omega
 clear dV hrc hnew hb1 HLA c1 Qn hRL
 go_wp2_with fail
 refine dB (S:=fun w'=>w'.cell? ⟨jb,0,none⟩=some (.pointer (some ⟨fb,0,none⟩))) (by kernel_rfl) ?_;change wpAnyH _ _ _ _ _ _ _ _ (World.drew _);refine u3 0 (.pointer (some ⟨jb,0,none⟩)) rfl dJ.out ?_<|u3 1 (.pointer (some ⟨jb,0,none⟩)) rfl dJ.out ?_<|u3 2 (.pointer (some ⟨jb,0,none⟩)) rfl dJ.out ?_<|u3 3 (.pointer (some ⟨fb,0,none⟩)) rfl dJ.out ?_<|u3 4 (.slice MB LL wF) rfl dJ.out ?_ ?_;(iterate 5 ·exact⟨by kernel_rfl,kI,by intro w' q1;go_simp⟩)
 refine rH 5 rfl (by kernel_rfl) fun K hK=>?_
 go_simp;refine Nz.out.mono ?_;rintro e5 w5 ⟨rfl,hb5⟩;have aiH:dF A a t (left+4) fb jb lb J w1 w5:=dF.refl HM1.out.site ((au _ _).drew.trans hb5);obtain⟨A5,hm5⟩:=HM1.out.after aiH;have Aa:=aP hm5;have Je:=aP ((hb5.cell (p:=⟨jb,0,none⟩) (aC dJ.out)).trans dJ.out);refine hK.out _ _ Je.out (fun _=>?_);clear hK K hb5 Nz HM1 dJ aiH hm5;have dJ:=Je
 have HTS:Hid ((jm++fP RL).size<=140737488351232):=by have:=HTZ.out;show _<=_;rw[aH];show 12+_<=_;omega
 have hz:¬9223372036854775807<12+(fP RL).size:=by have:=HTZ.out;omega
 have NA:=aY (KA Aa.out.site fV (jm++fP RL) (by decide) HTS.out);have Jf:Hid (jm=⟨#[98,117,105,108,100,101,114,108,111,103,49,10]⟩):=rfl;have HHT:Hid (jm++fP RL=⟨#[98,117,105,108,100,101,114,108,111,103,49,10]⟩++fP RL):=rfl;refine u3 6 (.string (⟨#[98,117,105,108,100,101,114,108,111,103,49,10]⟩++fP RL)) rfl dJ.out ⟨by kernel_rfl,kI,by intro w' q1;go_simp⟩ ?_;rw[<-HHT.out];generalize jm++fP RL=T at*;clear hz
 refine rH 7 rfl (by kernel_rfl) fun K hK=>?_
 go_simp;refine NA.out.mono ?_;rintro e6 w6 ⟨ve,rfl,jD,hse⟩;obtain⟨A6,Zj⟩:=Aa.out.after hse;have HM6:=aP Zj;obtain⟨ub,m,v1,v2,v3,v4,dV⟩:=Zj.site.job
 have HSV:Hid (w6.cell? ⟨jb,0,none⟩=some (.pointer (some ⟨fb,0,none⟩))):=by rw[bZ dV.row];rfl
 refine hK.out _ _ HSV.out (fun _=>?_);clear hK K hse Zj Aa Je NA dV dJ;have dJ:=HSV;generalize eu J.r fV T=q1 at*
 rcases jD with ⟨rfl,hq⟩|⟨k,hk,rfl,hq⟩
 case' inr=>
  refine u3 8 (jS a k) rfl dJ.out ⟨by kernel_rfl,kI,by intro w' q1;go_simp⟩ ?_;refine eF (by kernel_rfl) ?_ _;have HEN:Hid (∃lb',rE a (jS a k) (q1).1/\dF A a t left fb jb lb' {J with r:=(q1).2} w w6):=⟨lb,aL ⟨k,hk,rfl,hq⟩,A6,HM6.out.site.less (by omega),HM6.out.hA,HM6.out.turns⟩;have HE:=aY (Pp.out.trans (aD (by omega)));clear hq HM6 Pp;unfold jS at*
  go_wp2_with fail
  go_ret;obtain⟨lb',h1,h2⟩:=HEN.out;exact⟨_,lb',rfl,by rw[HE.out];exact h1,by rw[HE.out];exact h2⟩
 refine u3 8 .nilIface rfl dJ.out ⟨by kernel_rfl,kI,by intro w' q1;go_simp⟩ ?_;refine eF (by kernel_rfl) ?_ _;have HJN:=aY (Pp.out.trans (ax (by omega)));clear Pp hq;have Pp:=HJN;clear HJN;have d0:=HSV.out;have Yt:=aY (Cs (left:=left+2) HM6.out.site);clear dJ HSV
 go_wp2_with fail
 refine Yt.out.mono ?_;rintro e7 w7 ⟨ve,rfl,jD,hse⟩;obtain⟨A7,hm7⟩:=HM6.out.after hse;have HM7:=aP hm7;obtain⟨ub,m,v1,v2,v3,v4,dV⟩:=hm7.site.job
 have d0:w7.cell? ⟨jb,0,none⟩=some (.pointer (some ⟨fb,0,none⟩)):=by rw[bZ dV.row];rfl
 clear hse hm7 dV Yt HM6;generalize iR q1.2=q2 at*
 rcases jD with ⟨rfl,hq⟩|⟨k,hk,rfl,hq⟩
 case' inr=>
  skip
  have HEN:Hid (∃lb',rE a (jS a k) (q2).1/\dF A a t left fb jb lb' {J with r:=(q2).2} w w7):=⟨lb,aL ⟨k,hk,rfl,hq⟩,A7,HM7.out.site.less (by omega),HM7.out.hA,HM7.out.turns⟩;have HE:=aY (Pp.out.trans (aD (by omega)));clear hq HM7 Pp;unfold jS at*
  go_wp2_with fail
  go_ret;obtain⟨lb',h1,h2⟩:=HEN.out;exact⟨_,lb',rfl,by rw[HE.out];exact h1,by rw[HE.out];exact h2⟩
 have HJN:=aY (Pp.out.trans (ax (by omega)));clear Pp hq;have Pp:=HJN;clear HJN;have IG:=aY (Tg (left:=left+1) HM7.out.site fV jJ (by decide));unfold fV jJ at IG
 go_wp2_with fail
 refine IG.out.mono ?_;rintro e8 w8 ⟨ve,rfl,jD,hse⟩;obtain⟨A8,hm8⟩:=HM7.out.after hse;have IC:Hid (JB A a t (left+1) fb jb lb {J with r:=(jW q2.2 fV jJ).2} w RL (.slice MB LL wF) A8 w8):=(hm8);have jD:rE a ve (jW q2.2 fV jJ).1:=jD;clear hse hm8 IG HM7 d0;generalize jW q2.2 fV jJ=q3 at*
 rcases jD with ⟨rfl,hq⟩|⟨k,hk,rfl,hq⟩
 case' inr=>
  skip
  have HEN:Hid (∃lb',rE a (jS a k) (q3).1/\dF A a t left fb jb lb' {J with r:=(q3).2} w w8):=⟨lb,aL ⟨k,hk,rfl,hq⟩,A8,IC.out.site.less (by omega),IC.out.hA,IC.out.turns⟩;have HE:=aY (Pp.out.trans (aD (by omega)));clear hq IC Pp;unfold jS at*
  go_wp2_with fail
  go_ret;obtain⟨lb',h1,h2⟩:=HEN.out;exact⟨_,lb',rfl,by rw[HE.out];exact h1,by rw[HE.out];exact h2⟩
 have HJN:=aY (Pp.out.trans (ax (by omega)));clear Pp hq;have Pp:=HJN;clear HJN;have HNB:=aY (BS IC.out.recs HLR.out.1 (by have h1:=HLR.out.2;have h2:=HCN.out;have h3:=CK.out;omega))
 go_wp2_with fail
 refine HNB.out.mono ?_;rintro e9 w9 ⟨lb',mb',Nv,rfl,hbk,hF,Hu⟩;have Bp:=aY (IC.out.site.bare.booked Hu hbk hF (by have h1:=HLR.out.2;have h2:=HCN.out;have h3:=CK.out;omega) (by rw[Aw];have h1:=HLR.out.2;have h2:=HCN.out;have h3:=CK.out;omega));have d9:=Bp.out.1;have f9:=Bp.out.2.1;obtain⟨A9,hs9,hA9,ht9⟩:=Bp.out.2.2;have Pt:Hid ((∀k,k<w.heap.size->A9 k=A k)/\aQ (JF A) w (w9.setCell ⟨jb,1,none⟩ (.pointer (some ⟨lb',0,none⟩)))):=⟨fun k hk=>(hA9 k (ay hk IC.out.turns.size)).trans (IC.out.hA k hk),je IC.out.hA IC.out.turns ht9⟩;obtain⟨ub,m,v1,v2,v3,v4,dV⟩:=hs9.job
 have d0:(w9.setCell ⟨jb,1,none⟩ (.pointer (some ⟨lb',0,none⟩))).cell? ⟨jb,0,none⟩=some (.pointer (some ⟨fb,0,none⟩)):=by rw[bZ dV.row];rfl
 have Yt:=aY (Cs (left:=left) hs9);clear hbk hF Hu Bp hs9 hA9 ht9 dV HNB IC
 go_wp2_with fail
 refine Yt.out.mono ?_;rintro e10 yh ⟨ve,rfl,jD,hse⟩;have HEN:Hid (rE a ve (iR q3.2).1/\dF A a t left fb jb lb' {J with r:=(iR q3.2).2,L:=qM RL} w yh):=⟨jD,dF.trans Pt.out.1 Pt.out.2 hse⟩
 have hvf:ve=.nilIface\/∃T x,ve=.iface T (.pointer x):=by
  rcases jD with ⟨q,_⟩|⟨k,_,q,_⟩
  ·exact aG q
  exact aL ⟨_,_,q⟩
 clear jD hse Yt d0 d9 f9
 rcases hvf with rfl|⟨TT,xx,rfl⟩
 all_goals
  go_wp2_with fail
  go_ret;exact⟨_,lb',rfl,by rw[Pp.out];exact HEN.out.1,by rw[Pp.out];exact HEN.out.2⟩
variable {left':Nat}{pl:Value}
theorem xM.less(h:xM A a t left fb jb pl J w)(hl:left'<=left):xM A a t left' fb jb pl J w:=by
 obtain⟨ub,m,v1,v2,v3,v4,hj⟩:=h.job;exact⟨h.env,h.rounds,h.files.less hl,⟨ub,m,v1,v2,v3,v4,hj.less hl⟩,h.above⟩
theorem xM.read(h:xM A a t left fb jb pl J w)(name:ah)(hn:name.size<=140737488351232):
  Calls Tryz.prog 45 #[.pointer (some ⟨fb,0,none⟩),.string name] w fun e w'=>∃v,e=.returned (.tuple #[.string ((dG J.r name).getD ⟨#[]⟩),v])/\(v=.nilIface\/∃T x,v=.iface T (.pointer x))/\xM A a t left fb jb pl J w'/\aQ (JF A) w w':=by
 obtain⟨c,d,hc,hp,hI⟩:=h.files;refine(GA (by decide) h.env hp name hn).mono ?_;rintro e w' ⟨v,rfl,jD,hp',ht⟩;rw[Gs] at jD⊢;obtain⟨ub,m,v1,v2,v3,v4,hj⟩:=h.job
 have hkp:∀k,k<w.heap.size->A k≠1->w'.heap[k]?=w.heap[k]?:=fun k hk h1=>ht.block k hk h1
 refine⟨v,rfl,?_,⟨h.env.keep ht.size (fun _ _=>rfl) (fun k hk h0=>hkp k hk (by omega)),h.rounds.keep (fun k hk=>hkp k (ay hk h.env.glob) (by rw[h.env.zero k hk];decide)),⟨c,d,hc,hp',hI⟩,⟨ub,m,v1,v2,v3,v4,hj.keep (fun _ _=>rfl) (fun k hk q=>hkp k hk (by omega))⟩,fun k hk=>h.above k (aA ht.size hk)⟩,ht.mono (fun k q=>⟨by rw[q];decide,by rw[q];decide⟩)⟩
 rcases jD with ⟨q,_⟩|⟨k,_,q,_⟩
 ·exact aG q
 exact aL ⟨_,_,q⟩
theorem TM(h:xM A a t (left+4) fb jb (.pointer none) J w):
  Calls Tryz.prog 97 #[.pointer (some ⟨jb,0,none⟩)] w (Cm A a t left fb jb (oN J) w):=by
 obtain⟨ub,m,v1,v2,v3,v4,dV⟩:=h.job
 have c0:w.cell? ⟨jb,0,none⟩=some (.pointer (some ⟨fb,0,none⟩)):=by rw[bZ dV.row];rfl
 have CO:=aY (h.read jJ (by decide))
 have HLT:Hid (left+4<=900000000000/\((dG J.r jJ).getD ⟨#[]⟩).size<=65536):=by
  obtain⟨c,d,hc,_,hI⟩:=h.files;refine⟨by omega,?_⟩;unfold dG
  split
  ·exact aN _
  exact aA (pQ _ _) hI.total
 have HJO:Hid (oN J=if (iq ((dG J.r jJ).getD ⟨#[]⟩)).2=true then (0,{J with L:=qM (iq ((dG J.r jJ).getD ⟨#[]⟩)).1}) else qz {J with L:=qM (iq ((dG J.r jJ).getD ⟨#[]⟩)).1}):=rfl;unfold jJ at CO;clear h dV
 go_enter Tryz.func97,Tryz.ntmps97
 go_wp2_with fail
 refine CO.out.mono ?_;rintro e1 w1 ⟨v,rfl,hvf,hs1,ht1⟩;have FT:=aY hs1;have HT1:=aY ht1;have Nz:Hid ((dG J.r ⟨#[46,108,111,103]⟩).getD ⟨#[]⟩=(dG J.r jJ).getD ⟨#[]⟩):=rfl;rw[Nz.out];clear hs1 ht1 CO c0 Nz;generalize (dG J.r jJ).getD ⟨#[]⟩=T at*;have HRL:=aY (Ui T (by have:=HLT.out;omega) w1);obtain⟨v',hv'⟩:∃v',v'=v:=⟨_,rfl⟩;have hgo:v=v:=rfl
 rcases hvf with rfl|⟨TT,xx,rfl⟩
 all_goals
  clear hv' hgo
  go_wp2_with fail
  refine HRL.out.mono ?_;rintro e2 w2 ⟨lb,mb,vn,n,rfl,hbk,hn,hrl,hF,hb2⟩;have Bp:=aY (FT.out.booked hb2 hbk hF (by have:=HLT.out;omega) (by rw[Aw];have:=HLT.out;omega));have d1:=Bp.out.1;have f1:=Bp.out.2.1;obtain⟨A3,hs3,hA3,ht3⟩:=Bp.out.2.2;have HM3:Hid (iA A3 a t (left+4) fb jb lb {J with L:=qM (iq T).1} (w2.setCell ⟨jb,1,none⟩ (.pointer (some ⟨lb,0,none⟩)))/\(∀k,k<w.heap.size->A3 k=A k)/\aQ (JF A) w (w2.setCell ⟨jb,1,none⟩ (.pointer (some ⟨lb,0,none⟩)))):=⟨hs3,fun k hk=>hA3 k (ay hk HT1.out.size),je (fun _ _=>rfl) HT1.out ht3⟩;clear hbk hF hb2 Bp hs3 hA3 ht3 hn hrl HRL;generalize (iq T).2=snd at*;generalize qM (iq T).1=LG at*
  rcases snd with _|_
  ·have HE:=aY (HJO.out.trans (ax eX));have IG:=aY (Fy HM3.out.1)
   go_wp2_with fail
   refine IG.out.mono ?_;rintro e4 w4 ⟨ve,lb4,rfl,jD,hse⟩;have HEN:Hid (rE a ve (qz {J with L:=LG}).1/\dF A a t left fb jb lb4 (qz {J with L:=LG}).2 w w4):=⟨jD,dF.trans HM3.out.2.1 HM3.out.2.2 hse⟩
   have hvf:ve=.nilIface\/∃T x,ve=.iface T (.pointer x):=by
    rcases jD with ⟨q,_⟩|⟨k,_,q,_⟩
    ·exact aG q
    exact aL ⟨_,_,q⟩
   clear jD hse IG d1 f1 HM3
   rcases hvf with rfl|⟨TT,xx,rfl⟩
   all_goals
    go_wp2_with fail
    go_ret;exact⟨_,lb4,rfl,by rw[HE.out];exact HEN.out.1,by rw[HE.out];exact HEN.out.2⟩
  have HE:=aY (HJO.out.trans (aD rfl))
  go_wp2_with fail
  go_ret;exact⟨_,lb,rfl,by rw[HE.out];exact aG ⟨rfl,rfl⟩,by rw[HE.out];exact⟨A3,HM3.out.1.less (by omega),HM3.out.2⟩⟩
def zD(A:Nat->Nat)(w:aj)(v:Value)(es:List dm)(cs:List ah):Prop:=∃ao cap,v=.slice ao es.length cap/\(es=[]\/∃g o,ao=some ⟨g,o,none⟩/\A g=0/\∀(k:Nat) e c,es[k]?=some e->cs[k]?=some c->∃vo vi vm vr,(w.cell? ⟨g,o+k*6,none⟩=some vo/\w.cell? ⟨g,o+k*6+1,none⟩=some vi/\w.cell? ⟨g,o+k*6+2,none⟩=some vm/\w.cell? ⟨g,o+k*6+3,none⟩=some vr/\w.cell? ⟨g,o+k*6+4,none⟩=some (.string e.rule)/\w.cell? ⟨g,o+k*6+5,none⟩=some (.string c))/\Ju A w vo vi vm vr e)
variable {A':Nat->Nat}{w':aj}{v:Value}{es:List dm}{cs:List ah}
theorem zD.later(h:zD A w v es cs)(hc:cs.length=es.length)(hA:∀k,k<w.heap.size->A' k=A k)(ht:aQ (JF A) w w'):zD A' w' v es cs:=by
 obtain⟨ao,cap,rfl,h|⟨g,o,rfl,hg,h⟩⟩:=h
 ·exact⟨ao,cap,rfl,aG h⟩
 by_cases hes:es=[]
 ·exact⟨_,cap,rfl,aG hes⟩
 have hp:0<es.length:=fZ.2 hes;obtain⟨_,_,_,_,⟨h0,_⟩,_⟩:=h 0 _ _ (eP hp) (eP (by omega));have hgl:g<w.heap.size:=aC h0;have hb:w'.heap[g]?=w.heap[g]?:=ht.block g hgl (fun q=>by unfold JF at q;omega)
 have kc:∀(i:Nat) u,w.cell? ⟨g,i,none⟩=some u->w'.cell? ⟨g,i,none⟩=some u:=fun i u hu=>(aB (w:=w) (a:=⟨g,i,none⟩) hb).trans hu
 refine⟨_,cap,rfl,aL ⟨g,o,rfl,(hA g hgl).trans hg,fun k e c he hc=>?_⟩⟩;obtain⟨vo,vi,vm,vr,⟨d0,d1,d2,d3,d4,d5⟩,hz⟩:=h k e c he hc;exact⟨vo,vi,vm,vr,⟨kc _ _ d0,kc _ _ d1,kc _ _ d2,kc _ _ d3,kc _ _ d4,kc _ _ d5⟩,hz.later hA ht⟩
def aaQ(A:Nat->Nat)(w:aj)(v:Value)(l:List Nat):Prop:=rZ w v l/\(l≠[]->∀b,v.ownBlock=some b->A b=0)
theorem aaQ.turns{l:List Nat}(h:aaQ A w v l)(ht:aQ (JF A) w w'):rZ w' v l:=by
 obtain⟨⟨ao,cap,rfl,hc,h1|⟨b,o,rfl,h1⟩⟩,hz⟩:=h
 ·exact⟨ao,cap,rfl,hc,aG h1⟩
 refine⟨_,cap,rfl,hc,aL ⟨b,o,rfl,fun k s hs=>?_⟩⟩;refine(aB (w:=w) (a:=⟨b,o+k,none⟩) (ht.block b (aC (h1 k s hs)) (fun q=>?_))).trans (h1 k s hs);have h0:=hz (fun e=>by rw[e] at hs;simp at hs) b rfl;unfold JF at q;omega
def gX(es:List dm)(cs:List ah)(ps:List Nat):List (dm×ah):=ps.filterMap fun p=>(es[p]?).bind fun e=>(cs[p]?).map fun c=>(e,c)
variable {ps:List Nat}{e:dm}{c:ah}
theorem Ud{j p:Nat}(hp:ps[j]?=some p)(he:es[p]?=some e)(hcc:cs[p]?=some c):gX es cs (ps.drop j)=(e,c)::gX es cs (ps.drop (j+1)):=by
 obtain⟨h1,h2⟩:=aJ.1 hp;rw[fA h1,h2];unfold gX;rw[Ck,he,hcc];rfl
structure Es(es:List dm)(cs:List ah):Prop where
 len:cs.length=es.length
 few:es.length<=64
 fit:∀(k:Nat) e c,es[k]?=some e->cs[k]?=some c->Cj e c/\e.outs≠[]
theorem abE(J:eZ)(e:dm)(cm:ah):(dS J e cm).1.1<=3:=by
 unfold dS
 simp only
 split
 ·exact ai _
 split
 ·exact(by decide:2<=3)
 split
 ·exact(by decide:1<=3)
 split
 ·exact(by decide:2<=3)
 exact(by decide:0<=3)
variable {vp:Value}
theorem PW{ve:Value}(h:xM A a t (left+8+ps.length*30004) fb jb (.pointer none) J w)(hes:zD A w ve es cs)(hps:aaQ A w vp ps)(hfit:Es es cs)(hin:∀p∈ps,p<es.length)(hpl:ps.length<=64):
  Calls Tryz.prog 62 #[.pointer (some ⟨jb,0,none⟩),ve,vp] w (Cm A a t left fb jb (qI J (gX es cs ps)) w):=by
 have HES:=aY hes;have HPS:=aY hps;have HFT:=aY hfit;have HIN:=aY hin;have HOP:=aY (TM (left:=left+4+ps.length*30004) (h.less (by omega)));have HJA:Hid (qI J (gX es cs ps)=if (oN J).1=0 then if (jY (oN J).2 (gX es cs ps)).1=0 then if yE (jY (oN J).2 (gX es cs ps)).2.L=true then qz (jY (oN J).2 (gX es cs ps)).2 else jY (oN J).2 (gX es cs ps) else jY (oN J).2 (gX es cs ps) else oN J):=rfl;obtain⟨RN,CV,rfl,_⟩:=hes;obtain⟨⟨aop,ak9,rfl,_,_⟩,_⟩:=hps;generalize hN:ps.length=N at*;have HN:=aY hN
 have n0:(N:Int)<=64:=by omega
 generalize hE:es.length=NE at*;have HE:=aY hE
 have e0:(NE:Int)<=64:=by have:=HFT.out.few;omega
 clear h hfit hin hN hE
 go_enter Tryz.func62,Tryz.ntmps62
 go_wp2_with fail
 refine HOP.out.mono ?_;rintro e1 w1 ⟨v1,lb,rfl,jD,A1,hs1,hA1,ht1⟩;have HM1:=aP (aK hs1 (aK hA1 ht1));clear hs1 hA1 ht1 HOP;generalize oN J=q1 at*
 rcases jD with ⟨rfl,hq⟩|⟨k,hk,rfl,hq⟩
 case' inr=>
  have HEN:Hid (Cm A a t left fb jb (qI J (gX es cs ps)) w (.returned (jS a k)) w1):=by
   rw[HJA.out,ax (by omega)];exact⟨_,lb,rfl,aL ⟨k,hk,rfl,hq⟩,A1,HM1.out.1.less (by omega),HM1.out.2⟩
  clear hq HM1 HJA;unfold jS at*
  go_wp2_with fail
  go_ret;exact HEN.out
 have Rq:=aY (HJA.out.trans (aD hq));clear hq HJA
 go_wp2_with fail
 go_loopw [19] (fun i wr=>∃(j:Nat) (A':Nat->Nat) (J':eZ),i=.int .i64 j/\j<=N/\jY q1.2 (gX es cs ps)=jY J' (gX es cs (ps.drop j))/\iA A' a t (left+4+(N-j)*30004) fb jb lb J' wr/\(∀k,k<w.heap.size->A' k=A k)/\aQ (JF A) w wr) (fun i _=>N-(intOf i).toNat)
 case atStart=>exact⟨0,A1,q1.2,rfl,aN _,rfl,HM1.out⟩
 case round=>
  clear HM1;obtain⟨j,A',J',rfl,hj,hjl,hs,hA,htu⟩:=hrel;have HM:=aP (aK hs (aK hA htu));have Jw:=aY hjl
  have j0:(0:Int)<=(j:Int):=by omega
  by_cases hlt:j<N
  ·have j1:(j:Int)<(N:Int):=by omega
   obtain⟨p,hp⟩:∃p,ps[j]?=some p:=⟨ps[j]'(by have:=HN.out;omega),by simp⟩;obtain⟨Bl,cap',e5,_,h6⟩:=HPS.out.turns htu;injection e5 with f1 f2 f3
   rcases h6 with q|⟨b,o,q,hct⟩
   ·exfalso;rw[q] at hp;simp at hp
   rw[q] at f1;subst f1;have cp:=hct j p hp;have hpe:=HIN.out p (aO hp);obtain⟨e,he⟩:∃e,es[p]?=some e:=⟨es[p]'(by have:=HE.out;omega),by simp⟩;obtain⟨cm,hcm⟩:∃c,cs[p]?=some c:=⟨cs[p]'(by have:=HE.out;have:=HFT.out.len;omega),by simp⟩
   have hel:p<NE:=by rw[<-HE.out];exact(aJ.1 he).1
   have p0:(0:Int)<=(p:Int):=by omega
   have p1:(p:Int)<(NE:Int):=by omega
   obtain⟨aoz,aoY,e6,h7⟩:=HES.out.later HFT.out.len hA htu;rw[HE.out] at e6;injection e6 with g1 g2 g3
   rcases h7 with q|⟨g,o2,q,hg0,hrow⟩
   ·exfalso;rw[q] at he;simp at he
   rw[q] at g1;subst g1;obtain⟨vo,vi,vm,vr,⟨d0,d1,d2,d3,d4,d5⟩,hez⟩:=hrow p e cm he hcm;obtain⟨hff,hne⟩:=HFT.out.fit p e cm he hcm;have HFE:=aP (aK hff hne);have HPD:=aP (Ud hp he hcm);have HEZ:=aY hez
   have aij:left+4+(N-(j+1))*30004+(e.outs.length+1)+(2*e.outs.length+3)<=left+4+(N-j)*30004:=by
    have h1:(N-j)*30004=(N-(j+1))*30004+30004:=by rw[show N-j=N-(j+1)+1 by omega,Nat.succ_mul]
    have h2:=hff.outs;omega
   have Bp:=aY (YK (left:=left+4+(N-(j+1))*30004+(e.outs.length+1)) (rl:=e.rule) (cm:=cm) e (hs.less aij) hez hff);clear aij;obtain⟨⟨mY,cO,rfl,_,_⟩,_⟩:=id hez.outs;obtain⟨⟨kz,cI,rfl,_,_⟩,_⟩:=id hez.ins;obtain⟨⟨lH,cM,rfl,_,_⟩,_⟩:=id hez.impl;obtain⟨⟨nC,cR,rfl,_,_⟩,_⟩:=id hez.ord
   have HRW:Hid (∀w',aQ (JF A') wr w'->w'.cell? ⟨g,o2+p*6,none⟩=some (.slice mY e.outs.length cO)/\w'.cell? ⟨g,o2+p*6+1,none⟩=some (.slice kz e.ins.length cI)/\w'.cell? ⟨g,o2+p*6+2,none⟩=some (.slice lH e.impl.length cM)/\w'.cell? ⟨g,o2+p*6+3,none⟩=some (.slice nC e.ord.length cR)/\w'.cell? ⟨g,o2+p*6+4,none⟩=some (.string e.rule)/\w'.cell? ⟨g,o2+p*6+5,none⟩=some (.string cm)):=fun w' ht=>by
    have hb:w'.heap[g]?=wr.heap[g]?:=ht.block g (aC d0) (fun q=>by unfold JF at q;omega)
    have kc:∀(i:Nat) u,wr.cell? ⟨g,i,none⟩=some u->w'.cell? ⟨g,i,none⟩=some u:=fun i u hu=>(aB (w:=wr) (a:=⟨g,i,none⟩) hb).trans hu
    exact⟨kc _ _ d0,kc _ _ d1,kc _ _ d2,kc _ _ d3,kc _ _ d4,kc _ _ d5⟩
   clear hp hct hpe he hcm hez hrow hff hne hs hA htu hjl f2 f3 g2 g3 hg0
   go_wp2_with fail
   refine Bp.out.mono ?_;rintro e7 w7 ⟨vb,rfl,jD,A7,hs7,hA7,ht7⟩;have HM7:Hid (iA A7 a t (left+4+(N-(j+1))*30004+(e.outs.length+1)) fb jb lb (dS J' e cm).2 w7/\(∀k,k<w.heap.size->A7 k=A k)/\aQ (JF A) w w7/\Ju A7 w7 (.slice mY e.outs.length cO) (.slice kz e.ins.length cI) (.slice lH e.impl.length cM) (.slice nC e.ord.length cR) e):=⟨hs7,fun k hk=>(hA7 k (ay hk HM.out.2.2.size)).trans (HM.out.2.1 k hk),je HM.out.2.1 HM.out.2.2 ht7,HEZ.out.later hA7 ht7⟩;obtain⟨d0,d1,d2,d3,d4,d5⟩:=HRW.out w7 ht7;have HO:Hid ((dS J' e cm).1.1<=3):=abE _ _ _
   have HLS:Hid (jY J' (gX es cs (ps.drop j))=if (dS J' e cm).1.2=0 then jY (lC (dS J' e cm).2 e (dS J' e cm).1.1) (gX es cs (ps.drop (j+1))) else ((dS J' e cm).1.2,(dS J' e cm).2)):=by
    show _=_;rw[HPD.out];rfl
   clear hs7 hA7 ht7 Bp HRW HM HEZ;generalize dS J' e cm=q7 at*
   rcases jD with ⟨rfl,hq⟩|⟨k,hk,rfl,hq⟩
   ·have HLN:=aY (Jw.out.trans (HLS.out.trans (aD hq)));have Ve:=aY (ace (left:=left+4+(N-(j+1))*30004) (vi:=.slice kz e.ins.length cI) (vm:=.slice lH e.impl.length cM) (vr:=.slice nC e.ord.length cR) (rl:=e.rule) (cm:=cm) e q7.1.1 HO.out HM7.out.1 HM7.out.2.2.2.outs ⟨⟨_,_,_,rfl⟩,⟨_,_,_,rfl⟩,_,_,_,rfl⟩ HFE.out.2 HFE.out.1.outs HFE.out.1.out);clear hq HLS Jw
    go_wp2_with fail
    refine Ve.out.mono ?_;rintro e8 w8 ⟨rfl,A8,hs8,Qm,Ku⟩;have IC:Hid (iA A8 a t (left+4+(N-(j+1))*30004) fb jb lb (lC q7.2 e q7.1.1) w8/\(∀k,k<w.heap.size->A8 k=A k)/\aQ (JF A) w w8):=⟨hs8,fun k hk=>(Qm k (ay hk HM7.out.2.2.1.size)).trans (HM7.out.2.1 k hk),je HM7.out.2.1 HM7.out.2.2.1 Ku⟩;clear hs8 Qm Ku Ve HM7 d0 d1 d2 d3 d4 d5
    go_wp2_with fail
    exact⟨⟨j+1,A8,_,by go_num,by omega,HLN.out,IC.out⟩,by simp[intOf];omega⟩
   have HEN:Hid (Cm A a t left fb jb (qI J (gX es cs ps)) w (.returned (jS a k)) w7):=by
    have h1:=Jw.out.trans (HLS.out.trans (ax (by omega)));rw[Rq.out,h1,ax (show¬q7.1.2=0 by omega)];exact⟨_,lb,rfl,aL ⟨k,hk,rfl,hq⟩,A7,HM7.out.1.less (by omega),HM7.out.2.1,HM7.out.2.2.1⟩
   clear hq HM7 Rq Jw HLS;unfold jS at*
   go_wp2_with fail
   go_ret;exact HEN.out
  obtain rfl:j=N:=by omega
  have Rz:Hid (jY q1.2 (gX es cs ps)=(0,J')):=by
   rw[hjl,kR (dx HN.out)];exact rfl
  have HJC:Hid (qI J (gX es cs ps)=if yE J'.L=true then qz J' else (0,J')):=by
   show _=_;rw[Rq.out,Rz.out,aD rfl]
  have HS':=aY (hs.less (show left+4<=_ by omega));obtain⟨ub,m,v1,v2,v3,v4,dV⟩:=hs.job;obtain⟨mb,vn,n,hbk,hcb,hn,hcn⟩:=hs.book
  have c1:wr.cell? ⟨jb,1,none⟩=some (.pointer (some ⟨lb,0,none⟩)):=by rw[bZ dV.row];rfl
  obtain⟨aon,ak8,hvn,_,_⟩:=bq hbk.names;have HIL:=aY (Wl lb J'.L.count J'.L.names.length ak8 aon wr (by rw[bZ hbk.row];rfl) (by rw[bZ hbk.row,<-hvn];rfl) (by omega) (by have:=hbk.ok.le;omega));have HLB:Hid (yE J'.L=decide (2*J'.L.names.length+8<J'.L.count)):=rfl;clear dV hbk hcb hn hcn hvn hs hjl Jw Rz Rq;generalize decide (2*J'.L.names.length+8<J'.L.count)=q at*
  go_wp2_with fail
  refine HIL.out.mono ?_;rintro e7 w7 ⟨rfl,Jk⟩;have HS7:=aY (HS'.out.below Jk);have HT7:Hid ((∀k,k<w.heap.size->A' k=A k)/\aQ (JF A) w w7):=⟨HM.out.2.1,HM.out.2.2.trans (aQ.of_below (JF A) Jk) (fun _ hk=>aG hk)⟩;clear Jk HIL c1 HM HS' hA htu
  rcases q with _|_
  ·have HF:=aY (HJC.out.trans (ax (by rw[HLB.out];exact eX)))
   go_wp2_with fail
   go_ret;exact⟨_,lb,rfl,by rw[HF.out];exact aG ⟨rfl,rfl⟩,by rw[HF.out];exact⟨A',HS7.out.less (by omega),HT7.out⟩⟩
  have HF:=aY (HJC.out.trans (aD HLB.out));have IG:=aY (Fy HS7.out)
  go_wp2_with fail
  refine IG.out.mono ?_;rintro e8 w8 ⟨ve,lb8,rfl,jD,hse⟩;have HEN:Hid (rE a ve (qz J').1/\dF A a t left fb jb lb8 (qz J').2 w w8):=⟨jD,dF.trans HT7.out.1 HT7.out.2 hse⟩
  have hvf:ve=.nilIface\/∃T x,ve=.iface T (.pointer x):=by
   rcases jD with ⟨q,_⟩|⟨k,_,q,_⟩
   ·exact aG q
   exact aL ⟨_,_,q⟩
  clear jD hse IG
  rcases hvf with rfl|⟨TT,xx,rfl⟩
  all_goals
   go_wp2_with fail
   go_ret;exact⟨_,lb8,rfl,by rw[HF.out];exact HEN.out.1,by rw[HF.out];exact HEN.out.2⟩
structure nY(A:Nat->Nat)(a:Nat->Addr)(t:Nat->ah)(left fb:Nat)(r:bS)(w:aj):Prop where
 env:vL A a t w
 rounds:jw w
 gl:Gl a w
 files:pY A left fb r w
 above:∀k,w.heap.size<=k->A k=0
 own:∀k,A k=0\/A k=1\/9<=A k
variable {r:bS}
theorem nY.less(h:nY A a t left fb r w)(hl:left'<=left):nY A a t left' fb r w:={h with files:=h.files.less hl}
theorem nY.below(h:nY A a t left fb r w)(hb:Below w.heap.size w w'):nY A a t left fb r w':=
 ⟨h.env.keep hb.size (fun _ _=>rfl) (fun k hk _=>hb.block k hk),h.rounds.later (fun k hk=>hb.block k hk),h.gl.below hb h.gl.size,h.files.keep (fun _ _=>rfl) (fun k hk _=>hb.block k hk),fun k hk=>h.above k (aA hb.size hk),h.own⟩
theorem pY.Yb(h:pY A left fb r w)(hA:∀k,k<w.heap.size->(A k=1->A' k=1)/\(A k=0->A' k=0)):pY A' left fb r w:=by
 obtain⟨c,d,h1,⟨nb,sb,n,m,sv,S,p1,p2,p3,p4,p5,p6,p7,p8,p9,p10,p11⟩,h3⟩:=h;refine⟨c,d,h1,⟨nb,sb,n,m,sv,S,p1,p2,p3,p4,p5,fun j k hk=>?_,p7,p8,p9,⟨(hA _ p1.lt).1 p10.1,(hA _ p2.lt).1 p10.2.1,(hA _ p3.lt).1 p10.2.2.1,fun k hk=>(hA _ (p4.lt k hk)).1 (p10.2.2.2 k hk)⟩,p11⟩,h3⟩;obtain⟨x,y⟩:=p6 j k hk;exact⟨x,fun b hb=>(hA _ (x.box_lt b hb)).2 (y b hb)⟩
def nW(A:Nat->Nat)(a:Nat->Addr)(t:Nat->ah)(left fb:Nat)(r:bS)(w w':aj)(A':Nat->Nat):Prop:=nY A' a t left fb r w'/\(∀k,k<w.heap.size->A' k=A k)/\aQ (fun k=>A k=1) w w'
theorem nY.done{A2:Nat->Nat}{w3:aj}(h:nY A a t left' fb r w)(hs:iA A2 a t left fb jb lb J w3)(hold:∀k,k<w.heap.size->A2 k=A k)(hT:aQ (fun k=>A k=1) w w3):∃A3,nW A a t left fb J.r w w3 A3/\∀k,2<=A2 k->A2 k<=8->w.heap.size<=k/\A3 k=0:=by
 have hA3:∀k,k<w.heap.size->(if k<w.heap.size then A k else if A2 k=1 then 1 else 0)=A k:=fun k hk=>aD hk
 have hkp:∀k,k<w.heap.size->A k≠1->w3.heap[k]?=w.heap[k]?:=fun k hk hn=>hT.block k hk hn
 refine⟨fun k=>if k<w.heap.size then A k else if A2 k=1 then 1 else 0,⟨⟨h.env.keep hT.size hA3 (fun k hk h0=>hkp k hk (by omega)),hs.rounds,h.gl.keep hT.size (fun k hk=>hkp k (ay hk h.env.glob) (by rw[h.env.zero k hk];decide)),hs.files.Yb (fun k hk=>?_),fun k hk=>?_,fun k=>?_⟩,hA3,hT⟩,fun k h2 h8=>?_⟩
 ·by_cases q:k<w.heap.size
  ·rw[aD q,hold k q];exact⟨id,id⟩
  rw[ax q];exact⟨fun e=>aD e,fun e=>ax (by omega)⟩
 ·have hw:w.heap.size<=k:=aA hT.size hk;show(if k<w.heap.size then A k else if A2 k=1 then 1 else 0)=0;rw[ax (by omega),ax (by rw[hs.above k hk];decide)]
 ·show(if k<w.heap.size then A k else if A2 k=1 then 1 else 0)=0\/(if k<w.heap.size then A k else if A2 k=1 then 1 else 0)=1\/9<=(if k<w.heap.size then A k else if A2 k=1 then 1 else 0)
  split
  ·exact h.own k
  split
  ·exact aL (aG rfl)
  exact aG rfl
 have hw:w.heap.size<=k:=by
  rcases bR k w.heap.size with q|q
  ·have:=h.own k;rw[hold k q] at h2 h8;omega
  exact q
 refine⟨hw,?_⟩;show(if k<w.heap.size then A k else if A2 k=1 then 1 else 0)=0;rw[ax (by omega),ax (by omega)]
def CW(v:Value)(num line:Int)(w:aj):Prop:=(v=.nilIface\/∃T x,v=.iface T (.pointer x))/\∀w',Below w.heap.size w w'->Calls Tryz.prog 43 #[v] w' fun e w''=>e=.returned (.tuple #[.int .i64 num,.int .i64 line])/\Below w'.heap.size w' w''
variable {n:Int}
theorem CW.num(h:rE a v n)(hS:uN a t w):CW v n (-1) w:=
 ⟨by
  rcases h with ⟨q,_⟩|⟨k,_,q,_⟩
  ·exact aG q
  exact aL ⟨_,_,q⟩,fun w' hb=>Cx h w' (hS.below hb)⟩
def oG(r:bS):eZ:=⟨r,ku.none,[],[],[],[],[]⟩
def ou(r:bS)(t:ah)(ts:List ah):(Int×Int)×eZ:=match jV t with
 |.error bk=>(((BD bk.1:Nat)+1,(bk.2:Nat)),oG r)
 |.ok Sc=>match wO Sc.1 ts with
   |.error false=>((8,-1),oG r)
   |.error true=>((9,-1),oG r)
   |.ok ps=>(((qI (oG r) (gX Sc.1.bB Sc.2 ps)).1,-1),(qI (oG r) (gX Sc.1.bB Sc.2 ps)).2)
structure NG(w:aj)(r1 r2 r3 r4:Value)(J:eZ):Prop where
 ran:w.ownsRow 0 9 1 r1 J.ran.length (J.ran.map Value.string)
 cl:w.ownsRow 0 9 1 r2 J.cl.length (J.cl.map Value.string)
 fa:w.ownsRow 0 9 1 r3 J.fa.length (J.fa.map Value.string)
 bl:w.ownsRow 0 9 1 r4 J.bl.length (J.bl.map Value.string)
variable {S:St}
theorem MR(hr:∀x∈S.rules,x.2.size<=4000)(h:qw S e=some c):c.size<=8000:=by
 have h1:=EN h
 have h2:((eB S.rules e.rule).getD ⟨#[]⟩).size<=4000:=by
  cases hb:eB S.rules e.rule with
  |none=>exact aN _
  |some y=>
   obtain⟨z,hz,_,e2⟩:=uT hb;rw[bY,<-e2];exact hr z hz
 omega
theorem EI:∀{es:List dm} {cs:List ah},jg S es=some cs->∀(k:Nat) e c,es[k]?=some e->cs[k]?=some c->qw S e=some c
 |[],cs,h,k,e,c,he,_=>by simp at he
 |x::es,cs,h,k,e,c,he,hc=>by
  unfold jg at h
  cases hx:qw S x with
  |none=>rw[hx] at h;cases h
  |some y=>
   rw[hx] at h;obtain⟨l,hl,rfl⟩:=aX.1 h
   cases k with
   |zero=>
    obtain rfl:x=e:=by simpa using he
    obtain rfl:y=c:=by simpa using hc
    exact hx
   |succ k=>exact EI hl k e c (by simpa using he) (by simpa using hc)
theorem Dk{t:ah}(h:jV t=.ok (S,cs))(hS:SOk S 0 []):Es S.bB cs:=by
 have hg:=Dm h hS;have hk:=zq h
 have hc:jg S S.bB=some cs:=by
  unfold jV at h
  split at h
  ·cases h
  split at h
  ·cases h
  rename_i S' _
  split at h
  ·cases h
  rename_i cs' hcs
  injection h with h;injection h with h1 h2;rw[<-h1,<-h2];exact hcs
 refine⟨wG hc,hg.few,fun k e c he hcc=>?_⟩;have hm:=aO he;obtain⟨g1,g2,g3,g4,g5,g6⟩:=hg.edge e hm;exact⟨⟨g1,g2,g3,g4,g5,g6,by have:=MR hS.rules (EI hc k e c he hcc);omega⟩,(hk.edge e hm).1⟩
def World.less(w:aj)(b:Nat):aj:={w with heap:=w.heap.setIfInBounds b (.map #[] 0)}
theorem Ou(w:aj)(b:Nat):(World.less w b).heap.size=w.heap.size:=FK
theorem KP{b k:Nat}(h:k≠b):(World.less w b).heap[k]?=w.heap[k]?:=by
 show(w.heap.setIfInBounds b _)[k]?=_;rw[Array.getElem?_setIfInBounds_ne (fun e=>h e.symm)]
theorem Ot(w:aj)(b i:Nat):(World.less w b).cell? ⟨b,i,none⟩=none:=by
 unfold World.cell?;show(match (w.heap.setIfInBounds b (.map #[] 0))[b]? with|some (.cells c _ _)=>_|_=>none)=none;rw[Array.getElem?_setIfInBounds_self]
 split<;>simp_all
variable {W0:Nat}
theorem AU{l:List ah}(h:∀w'',w.heap.size<=w''.heap.size->(∀k,W0<=k->k<w.heap.size->w''.heap[k]?=w.heap[k]?)->bG w'' v l)(hl:l≠[])(b:Nat)(hb:v.ownBlock=some b):W0<=b:=by
 rcases bR b W0 with q|q
 ·obtain⟨ao,cap,rfl,_,h1|⟨g,o,rfl,h1⟩⟩:=h (World.less w b) (dx (Ou w b).symm) (fun k hk _=>KP (by omega))
  ·exact absurd h1.2.1 hl
  obtain⟨x,hx⟩:∃x,l[0]?=some x:=⟨l[0]'(fZ.2 hl),by simp⟩;have e:g=b:=ak hb;have h2:=h1 0 x hx;rw[e,Ot] at h2
  cases h2
 exact q
variable {mb:Nat}
theorem abQ(h:MQ W0 S cs mb w)(hz:∀k,W0<=k->A k=0):∃ev dv,w.heap[mb]?=some (.cells #[ev,dv] 101 (0,0))/\zD A w ev S.bB cs/\A mb=0:=by
 obtain⟨ev,dv,ds,h1,hrow,hdl,hcl,hli,hd⟩:=h.now
 have hmb:W0<=mb:=by
  rcases bR mb W0 with q|q
  ·obtain⟨ev',dv',_,h1',_⟩:=h (World.less w mb) (dx (Ou w mb).symm) (fun k hk _=>KP (by omega));have h2:=Ot w mb 0;rw[bZ h1'] at h2
   cases h2
  exact q
 refine⟨ev,dv,h1,?_,hz mb hmb⟩;obtain⟨ao,cap,hev,hcap,hg⟩:=bq hrow;refine⟨ao,cap,hev,?_⟩
 by_cases h0:S.bB=[]
 ·exact aG h0
 obtain⟨g,rfl⟩:=hg (fZ.2 h0);subst hev;have hgW:=(bA hrow g rfl).1;refine aL ⟨g,0,rfl,hz g hgW,fun k e y he hy=>?_⟩
 have hlt:k<ds.length:=by rw[hdl];exact(aJ.1 he).1
 obtain⟨d,hd⟩:∃d,ds[k]?=some d:=⟨ds[k],by simp⟩;have hl:=hli k d e hd he
 have cell:∀i u,i<6->(yD d y)[i]?=some u->w.cell? ⟨g,k*6+i,none⟩=some u:=fun i u hi hu=>(dO hrow (k*6+i) u (by rw[oq ds cs k d y i hd hy hi];exact hu)).1
 have aef:∀w'',w.heap.size<=w''.heap.size->(∀k,W0<=k->k<w.heap.size->w''.heap[k]?=w.heap[k]?)->bG w'' d.vo e.outs/\bG w'' d.vi e.ins/\bG w'' d.vm e.impl/\bG w'' d.vr e.ord:=fun w'' hs hk=>by
  obtain⟨ev',dv',ds',h1',hrow',alq,_,alG,_⟩:=h w'' hs hk;rw[hk mb hmb (bI h1),h1] at h1'
  have e1:(#[Value.slice (some ⟨g,0,none⟩) S.bB.length cap,dv]:Array Value)=#[ev',dv']:=by
   injection ak h1'
  have e2:ev'=.slice (some ⟨g,0,none⟩) S.bB.length cap:=by
   have:=gW (fun a:Array Value=>a[0]?) e1
   simpa using this.symm
  subst e2;obtain⟨d',hd'⟩:∃d',ds'[k]?=some d':=⟨ds'[k]'(by rw[alq];exact(aJ.1 he).1),by simp⟩;have hl':=alG k d' e hd' he
  have same:∀i u u',i<6->(yD d y)[i]?=some u->(yD d' y)[i]?=some u'->u=u':=fun i u u' hi hu hu'=>by
   have a1:=cell i u hi hu;have a2:=(dO hrow' (k*6+i) u' (by rw[oq ds' cs k d' y i hd' hy hi];exact hu')).1;rw[aB (w:=w) (a:=⟨g,k*6+i,none⟩) (hk g hgW (bA hrow g rfl).2),a1] at a2;exact ak a2
  have s0:=same 0 d.vo d'.vo (by decide) rfl rfl;have s1:=same 1 d.vi d'.vi (by decide) rfl rfl;have s2:=same 2 d.vm d'.vm (by decide) rfl rfl;have s3:=same 3 d.vr d'.vr (by decide) rfl rfl;rw[s0,s1,s2,s3];exact⟨hl'.1,hl'.2.1,hl'.2.2.1,hl'.2.2.2.1⟩
 rw[bW];refine⟨d.vo,d.vi,d.vm,d.vr,⟨cell 0 _ (by omega) rfl,cell 1 _ (by omega) rfl,cell 2 _ (by omega) rfl,cell 3 _ (by omega) rfl,?_,cell 5 _ (by omega) rfl⟩,⟨hl.1,fun hn b hb=>hz b (AU (fun w'' hs hk=>(aef w'' hs hk).1) hn b hb)⟩,⟨hl.2.1,fun hn b hb=>hz b (AU (fun w'' hs hk=>(aef w'' hs hk).2.1) hn b hb)⟩,⟨hl.2.2.1,fun hn b hb=>hz b (AU (fun w'' hs hk=>(aef w'' hs hk).2.2.1) hn b hb)⟩,⟨hl.2.2.2.1,fun hn b hb=>hz b (AU (fun w'' hs hk=>(aef w'' hs hk).2.2.2) hn b hb)⟩⟩;rw[<-hl.2.2.2.2];exact cell 4 _ (by omega) rfl
def Vr(A:Nat->Nat)(a:Nat->Addr)(t:Nat->ah)(left fb:Nat)(q:(Int×Int)×eZ)(w:aj)(e:Ending)(w':aj):Prop:=
 ∃v r1 r2 r3 r4 A',e=.returned (.tuple #[.agg #[r1,r2,r3,r4],v])/\CW v q.1.1 q.1.2 w'/\NG w' r1 r2 r3 r4 q.2/\(∀k,(r1.ownBlock=some k\/r2.ownBlock=some k\/r3.ownBlock=some k\/r4.ownBlock=some k)->w.heap.size<=k/\A' k=0)/\nW A a t left fb q.2.r w w' A'
theorem nY.mark(h:nY A a t left fb r w)(hb:Below w.heap.size w w')(hlt:w.heap.size<w'.heap.size):nY (fun k=>if k=w.heap.size then 9 else A k) a t left fb r w':=by
 have hA:∀k,k<w.heap.size->(if k=w.heap.size then 9 else A k)=A k:=fun k hk=>ax (by omega)
 refine⟨h.env.keep hb.size hA (fun k hk _=>hb.block k hk),h.rounds.later (fun k hk=>hb.block k hk),h.gl.below hb h.gl.size,h.files.keep hA (fun k hk _=>hb.block k hk),fun k hk=>(ax (by omega)).trans (h.above k (by omega)),fun k=>?_⟩;show(if k=w.heap.size then 9 else A k)=0\/(if k=w.heap.size then 9 else A k)=1\/9<=(if k=w.heap.size then 9 else A k)
 split
 ·exact aL (aL (ai _))
 exact h.own k
theorem Io{l:Int}(h:nY A a t left fb r w)(hb:Below w.heap.size w w')(he:CW v n l w'):Vr A a t left fb ((n,l),oG r) w (.returned (.tuple #[.agg #[.slice none 0 0,.slice none 0 0,.slice none 0 0,.slice none 0 0],v])) w':=
 ⟨v,_,_,_,_,A,rfl,he,⟨dD _ _ _ _,dD _ _ _ _,dD _ _ _ _,dD _ _ _ _⟩,(fun k hk=>by rcases hk with q|q|q|q<;>cases q),h.below hb,fun _ _=>rfl,⟨hb.os,hb.output,hb.size,fun k hk _=>hb.block k hk⟩⟩
theorem sQ{g:Nat}(h:w.heap[g]?=some (.cells #[.slice none 0 0,.slice none 0 0,.slice none 0 0,.slice none 0 0] 36 (0,0)))(i:Nat)(hi:i<4):(w.setCell ⟨g,i,none⟩ (.slice none 0 0)).heap[g]?=some (.cells #[.slice none 0 0,.slice none 0 0,.slice none 0 0,.slice none 0 0] 36 (0,0)):=by
 rw[xY h]
 match i,hi with
 |0,_=>rfl
 |1,_=>rfl
 |2,_=>rfl
 |3,_=>rfl
theorem VU:∀{l:List Nat} {n:Nat},l.Nodup->(∀x∈l,x<n)->l.length<=n:=by
 intro l n h hl
 have hs:l⊆List.range n:=fun x hx=>kS.2 (hl x hx)
 have:=h.length_le_of_subset hs
 rwa [List.length_range] at this
theorem aai{W:Nat}(h:nY A a t (left+2000000) fb r w)(hf:Es S.bB cs)(hm:∃ev dv,w.heap[mb]?=some (.cells #[ev,dv] 101 (0,0))/\zD A w ev S.bB cs/\A mb=0)(hr:w.ownsRow W 3 1 vp ps.length (lZ ps))(hW:∀k,W<=k->A k=0)(hin:∀p∈ps,p<S.bB.length)(hpl:ps.length<=64):∃ev,w.cell? ⟨mb,0,none⟩=some ev/\(∃ao n c,ev=.slice ao n c)/\Calls Tryz.prog 62 #[.pointer (some ⟨w.heap.size+1,0,none⟩),ev,vp] ((w.alloc (.map #[] 0)).alloc (.cells #[.pointer (some ⟨fb,0,none⟩),.pointer none,.map (some w.heap.size),.slice none 0 0,.slice none 0 0,.slice none 0 0,.slice none 0 0] 125)) (Cm (fun k=>if k=w.heap.size+1 then 2 else if k=w.heap.size then 4 else A k) a t left fb (w.heap.size+1) (qI (oG r) (gX S.bB cs ps)) ((w.alloc (.map #[] 0)).alloc (.cells #[.pointer (some ⟨fb,0,none⟩),.pointer none,.map (some w.heap.size),.slice none 0 0,.slice none 0 0,.slice none 0 0,.slice none 0 0] 125))):=by
 obtain⟨ev,dv,hrow,hez,_⟩:=hm;have hsz:(w.alloc (.map #[] 0)).heap.size=w.heap.size+1:=bJ _ _;have hb:Below w.heap.size w ((w.alloc (.map #[] 0)).alloc (.cells #[.pointer (some ⟨fb,0,none⟩),.pointer none,.map (some w.heap.size),.slice none 0 0,.slice none 0 0,.slice none 0 0,.slice none 0 0] 125)):=((au _ _).alloc (ai _) _).alloc (by omega) _
 have hA:∀k,k<w.heap.size->(if k=w.heap.size+1 then 2 else if k=w.heap.size then 4 else A k)=A k:=fun k hk=>by rw[ax (by omega),ax (by omega)]
 refine⟨ev,by rw[bZ hrow];rfl,by obtain⟨ao,cap,e,_⟩:=hez;exact⟨ao,_,cap,e⟩,?_⟩;refine PW ?_ (hez.later hf.len hA (aQ.of_below _ hb)) ⟨(Hy hr).keep (fun k hk=>hb.block k hk),fun _ b hb'=>?_⟩ hf hin hpl
 ·refine xM.less (left:=left+2000000) ⟨h.env.keep hb.size hA (fun k hk _=>hb.block k hk),h.rounds.later (fun k hk=>hb.block k hk),h.files.keep hA (fun k hk _=>hb.block k hk),⟨w.heap.size,0,.slice none 0 0,.slice none 0 0,.slice none 0 0,.slice none 0 0,aW _ _ _ hsz.symm,?_,dD _ _ _ _,dD _ _ _ _,dD _ _ _ _,dD _ _ _ _,aD rfl,(ax (by omega)).trans (aD rfl),(fun k hk=>by cases hk),(fun k hk=>by cases hk),(fun k hk=>by cases hk),(fun k hk=>by cases hk),?_⟩,fun k hk=>?_⟩ (by omega)
  ·have h1:=dU.made Mj (.agg #[]) ⟨_,_,rfl⟩ w;have h2:dU Mj (.agg #[]) ((w.alloc (.map #[] 0)).alloc (.cells #[.pointer (some ⟨fb,0,none⟩),.pointer none,.map (some w.heap.size),.slice none 0 0,.slice none 0 0,.slice none 0 0,.slice none 0 0] 125)) w.heap.size 0 (fun _=>none):=dU.keep h1 (aZ _ _ _ (by omega));exact h2
  ·obtain⟨c,d,hc,_⟩:=h.files;show 0+(left+2000000)<=_/\0+(left+2000000)<=_/\0+(left+2000000)<=_/\0+(left+2000000)<=_/\0+(left+2000000)<=_;omega
  have h1:((w.alloc (.map #[] 0)).alloc (.cells #[.pointer (some ⟨fb,0,none⟩),.pointer none,.map (some w.heap.size),.slice none 0 0,.slice none 0 0,.slice none 0 0,.slice none 0 0] 125)).heap.size=w.heap.size+1+1:=by rw[bJ,hsz]
  rw[h1] at hk;exact(ax (by omega)).trans ((ax (by omega)).trans (h.above k (by omega)))
 have h1:=bA hr b hb';exact(hA b h1.2).trans (hW b h1.1)
theorem VA(text:ah)(vt:Value)(ts:List ah)(h:nY A a t (left+2000000) fb r w)(ht:bG w vt ts)(hx:text.size<=140737488351232)(htl:ts.length<=1048576)(hts:∀x∈ts,x.size<=maxLen):
  Calls Tryz.prog 42 #[.pointer (some ⟨fb,0,none⟩),.string text,vt] w (Vr A a t left fb (ou r text ts) w):=by
 have HB:=aY h;have HT:=aY ht;have HTS:=aP (aK htl hts);have hb1:Below w.heap.size w (w.alloc (.cells #[.slice none 0 0,.slice none 0 0,.slice none 0 0,.slice none 0 0] 36)):=(au _ _).alloc (ai _) _;have HW1:Hid (Below w.heap.size w (w.alloc (.cells #[.slice none 0 0,.slice none 0 0,.slice none 0 0,.slice none 0 0] 36))/\(w.alloc (.cells #[.slice none 0 0,.slice none 0 0,.slice none 0 0,.slice none 0 0] 36)).heap[w.heap.size]?=some (.cells #[.slice none 0 0,.slice none 0 0,.slice none 0 0,.slice none 0 0] 36 (0,0))):=⟨hb1,aW _ _ _ rfl⟩;have Jd:=aY (OJ text a _ (h.below hb1).gl hx)
 have HI:Hid ((Tryz.prog.info? 36).map (·.size)=some 4):=by unfold Hid;kernel_rfl
 have HJT:Hid (ou r text ts=match jV text with
  |.error bk=>(((BD bk.1:Nat)+1,(bk.2:Nat)),oG r)
  |.ok Sc=>match wO Sc.1 ts with
    |.error false=>((8,-1),oG r)
    |.error true=>((9,-1),oG r)
    |.ok ps=>(((qI (oG r) (gX Sc.1.bB Sc.2 ps)).1,-1),(qI (oG r) (gX Sc.1.bB Sc.2 ps)).2)):=rfl
 obtain⟨aot,adq,rfl,_,_⟩:=ht;generalize hTL:ts.length=TL at*;have akR:=aY hTL;clear h hx htl hts hb1 hTL
 go_enter Tryz.func42,Tryz.ntmps42
 go_wp2_with fail
 generalize w.alloc (.cells #[.slice none 0 0,.slice none 0 0,.slice none 0 0,.slice none 0 0] 36)=w1 at*;refine Jd.out.mono ?_;rintro e2 w2 ⟨hend,hb2⟩;have HW2:Hid (Below w.heap.size w w2/\w2.heap[w.heap.size]?=some (.cells #[.slice none 0 0,.slice none 0 0,.slice none 0 0,.slice none 0 0] 36 (0,0))):=⟨HW1.out.1.trans (hb2.mono HW1.out.1.size),(hb2.block _ (bI HW1.out.2)).trans HW1.out.2⟩;clear hb2 Jd
 cases hps:jV text with
 |error bk=>
  rw[hps] at hend;obtain⟨fk,rfl,h0,h1⟩:=hend
  have HE:Hid (ou r text ts=((((BD bk.1:Nat):Int)+1,((bk.2:Nat):Int)),oG r)):=by show _=_;rw[HJT.out,hps]
  have HER:Hid (∀w',Below w.heap.size w w'->(∀k,k≠w.heap.size->w'.heap[k]?=w2.heap[k]?)->CW (.iface 129 (.pointer (some ⟨fk,0,none⟩))) ((BD bk.1:Nat)+1) (bk.2:Nat) w'):=fun w' hb hk=>by
   have hfk:fk≠w.heap.size:=fun e=>by
    rw[e,bZ HW2.out.2] at h0
    cases h0
   have kc:∀i u,w2.cell? ⟨fk,i,none⟩=some u->w'.cell? ⟨fk,i,none⟩=some u:=fun i u hu=>(aB (w:=w2) (a:=⟨fk,i,none⟩) (hk fk hfk)).trans hu
   exact⟨aL ⟨_,_,rfl⟩,fun w'' hb'=>Fj a t (BD bk.1) (XK _) fk 0 w'' ((HB.out.env.pO.below hb).below hb') ((hb'.cell (p:=⟨fk,0,none⟩) (aC (kc 0 _ h0))).trans (kc 0 _ h0)) ((hb'.cell (p:=⟨fk,1,none⟩) (aC (kc 1 _ h1))).trans (kc 1 _ h1))⟩
  clear h0 h1 hps HJT;have HRA:Hid (Below w.heap.size w ((((w2.setCell ⟨w.heap.size,0,none⟩ (.slice none 0 0)).setCell ⟨w.heap.size,1,none⟩ (.slice none 0 0)).setCell ⟨w.heap.size,2,none⟩ (.slice none 0 0)).setCell ⟨w.heap.size,3,none⟩ (.slice none 0 0))/\((((w2.setCell ⟨w.heap.size,0,none⟩ (.slice none 0 0)).setCell ⟨w.heap.size,1,none⟩ (.slice none 0 0)).setCell ⟨w.heap.size,2,none⟩ (.slice none 0 0)).setCell ⟨w.heap.size,3,none⟩ (.slice none 0 0)).heap[w.heap.size]?=some (.cells #[.slice none 0 0,.slice none 0 0,.slice none 0 0,.slice none 0 0] 36 (0,0))/\∀k,k≠w.heap.size->((((w2.setCell ⟨w.heap.size,0,none⟩ (.slice none 0 0)).setCell ⟨w.heap.size,1,none⟩ (.slice none 0 0)).setCell ⟨w.heap.size,2,none⟩ (.slice none 0 0)).setCell ⟨w.heap.size,3,none⟩ (.slice none 0 0)).heap[k]?=w2.heap[k]?):=⟨(((HW2.out.1.setCell (p:=⟨w.heap.size,0,none⟩) (ai _) _).setCell (p:=⟨w.heap.size,1,none⟩) (ai _) _).setCell (p:=⟨w.heap.size,2,none⟩) (ai _) _).setCell (p:=⟨w.heap.size,3,none⟩) (ai _) _,sQ (sQ (sQ (sQ HW2.out.2 0 (by decide)) 1 (by decide)) 2 (by decide)) 3 (by decide),fun k hk=>by rw[iP (show k≠w.heap.size from hk),iP (show k≠w.heap.size from hk),iP (show k≠w.heap.size from hk),iP (show k≠w.heap.size from hk)]⟩
  have z0:w2.cell? ⟨w.heap.size,0,none⟩=some (.slice none 0 0):=by rw[bZ HW2.out.2];rfl
  have z1:w2.cell? ⟨w.heap.size,1,none⟩=some (.slice none 0 0):=by rw[bZ HW2.out.2];rfl
  have z2:w2.cell? ⟨w.heap.size,2,none⟩=some (.slice none 0 0):=by rw[bZ HW2.out.2];rfl
  have z3:w2.cell? ⟨w.heap.size,3,none⟩=some (.slice none 0 0):=by rw[bZ HW2.out.2];rfl
  have f0:w2.frozen? ⟨w.heap.size,0,none⟩=false:=iG HW2.out.2;have f1:w2.frozen? ⟨w.heap.size,1,none⟩=false:=iG HW2.out.2;have f2:w2.frozen? ⟨w.heap.size,2,none⟩=false:=iG HW2.out.2;have f3:w2.frozen? ⟨w.heap.size,3,none⟩=false:=iG HW2.out.2
  go_wp2_with fail
  generalize ((((w2.setCell ⟨w.heap.size,0,none⟩ (.slice none 0 0)).setCell ⟨w.heap.size,1,none⟩ (.slice none 0 0)).setCell ⟨w.heap.size,2,none⟩ (.slice none 0 0)).setCell ⟨w.heap.size,3,none⟩ (.slice none 0 0))=w9 at*
  have HRG:Hid (w9.rangeAt w.heap.size 0 [Value.slice none 0 0,.slice none 0 0,.slice none 0 0,.slice none 0 0]):=fun i u hu=>by rw[bZ HRA.out.2.1,bW,<-bV];exact hu
  refine bP (pU rfl _ _ _ w.heap.size 0 [Value.slice none 0 0,.slice none 0 0,.slice none 0 0,.slice none 0 0] _ rfl HRG.out Tryz.underlying36 rfl HI.out) rfl ?_;rw[HE.out];exact Io (HB.out.less (by omega)) HRA.out.1 (HER.out w9 HRA.out.1 HRA.out.2.2)
 |ok Sc=>
  rw[hps] at hend;obtain⟨mb,rfl,hmk,Zk⟩:=hend;obtain⟨S,cs⟩:=Sc;have HGD:Hid (aaY S/\Es S.bB cs):=⟨Dm hps Zk,Dk hps Zk⟩;have HOR:=aY (ZJ hmk.now (HB.out.below HW2.out.1).gl HGD.out.1 (HT.out.gY HW2.out.1) (by rw[akR.out];exact HTS.out.1) HTS.out.2);have HMK:=aP hmk
  have HJ2:Hid (ou r text ts=match wO S ts with
   |.error false=>((8,-1),oG r)
   |.error true=>((9,-1),oG r)
   |.ok ps=>(((qI (oG r) (gX S.bB cs ps)).1,-1),(qI (oG r) (gX S.bB cs ps)).2)):=by show _=_;rw[HJT.out,hps]
  clear hmk Zk hps HJT
  go_wp2_with fail
  refine HOR.out.mono ?_;rintro e3 w3 ⟨hend,hb3⟩;have HW3:Hid (Below w.heap.size w w3/\w3.heap[w.heap.size]?=some (.cells #[.slice none 0 0,.slice none 0 0,.slice none 0 0,.slice none 0 0] 36 (0,0))):=⟨HW2.out.1.trans (hb3.mono HW2.out.1.size),(hb3.block _ (bI HW2.out.2)).trans HW2.out.2⟩;have HM3:=aP (HMK.out.below hb3);clear hb3 HOR HMK
  cases hor:wO S ts with
  |error b=>
   rw[hor] at hend
   rcases b with _|_
   case' false=>
    obtain rfl:e3=.returned (.tuple #[.slice none 0 0,jS a 7]):=hend
    have HE:Hid (ou r text ts=((8,-1),oG r)):=by show _=_;rw[HJ2.out,hor]
    have HER:Hid (∀w',Below w.heap.size w w'->(∀k,k≠w.heap.size->w'.heap[k]?=w3.heap[k]?)->CW (jS a 7) 8 (-1) w'):=fun w' hb _=>CW.num (t:=t) (aL ⟨7,by decide,rfl,rfl⟩) (HB.out.env.pO.below hb)
   case' true=>
    obtain rfl:e3=.returned (.tuple #[.slice none 0 0,jS a 8]):=hend
    have HE:Hid (ou r text ts=((9,-1),oG r)):=by show _=_;rw[HJ2.out,hor]
    have HER:Hid (∀w',Below w.heap.size w w'->(∀k,k≠w.heap.size->w'.heap[k]?=w3.heap[k]?)->CW (jS a 8) 9 (-1) w'):=fun w' hb _=>CW.num (t:=t) (aL ⟨8,by decide,rfl,rfl⟩) (HB.out.env.pO.below hb)
   all_goals
    clear hor HJ2;unfold jS at*;have HRA:Hid (Below w.heap.size w ((((w3.setCell ⟨w.heap.size,0,none⟩ (.slice none 0 0)).setCell ⟨w.heap.size,1,none⟩ (.slice none 0 0)).setCell ⟨w.heap.size,2,none⟩ (.slice none 0 0)).setCell ⟨w.heap.size,3,none⟩ (.slice none 0 0))/\((((w3.setCell ⟨w.heap.size,0,none⟩ (.slice none 0 0)).setCell ⟨w.heap.size,1,none⟩ (.slice none 0 0)).setCell ⟨w.heap.size,2,none⟩ (.slice none 0 0)).setCell ⟨w.heap.size,3,none⟩ (.slice none 0 0)).heap[w.heap.size]?=some (.cells #[.slice none 0 0,.slice none 0 0,.slice none 0 0,.slice none 0 0] 36 (0,0))/\∀k,k≠w.heap.size->((((w3.setCell ⟨w.heap.size,0,none⟩ (.slice none 0 0)).setCell ⟨w.heap.size,1,none⟩ (.slice none 0 0)).setCell ⟨w.heap.size,2,none⟩ (.slice none 0 0)).setCell ⟨w.heap.size,3,none⟩ (.slice none 0 0)).heap[k]?=w3.heap[k]?):=⟨(((HW3.out.1.setCell (p:=⟨w.heap.size,0,none⟩) (ai _) _).setCell (p:=⟨w.heap.size,1,none⟩) (ai _) _).setCell (p:=⟨w.heap.size,2,none⟩) (ai _) _).setCell (p:=⟨w.heap.size,3,none⟩) (ai _) _,sQ (sQ (sQ (sQ HW3.out.2 0 (by decide)) 1 (by decide)) 2 (by decide)) 3 (by decide),fun k hk=>by rw[iP (show k≠w.heap.size from hk),iP (show k≠w.heap.size from hk),iP (show k≠w.heap.size from hk),iP (show k≠w.heap.size from hk)]⟩
    have z0:w3.cell? ⟨w.heap.size,0,none⟩=some (.slice none 0 0):=by rw[bZ HW3.out.2];rfl
    have z1:w3.cell? ⟨w.heap.size,1,none⟩=some (.slice none 0 0):=by rw[bZ HW3.out.2];rfl
    have z2:w3.cell? ⟨w.heap.size,2,none⟩=some (.slice none 0 0):=by rw[bZ HW3.out.2];rfl
    have z3:w3.cell? ⟨w.heap.size,3,none⟩=some (.slice none 0 0):=by rw[bZ HW3.out.2];rfl
    have f0:w3.frozen? ⟨w.heap.size,0,none⟩=false:=iG HW3.out.2;have f1:w3.frozen? ⟨w.heap.size,1,none⟩=false:=iG HW3.out.2;have f2:w3.frozen? ⟨w.heap.size,2,none⟩=false:=iG HW3.out.2;have f3:w3.frozen? ⟨w.heap.size,3,none⟩=false:=iG HW3.out.2
    go_wp2_with fail
    generalize ((((w3.setCell ⟨w.heap.size,0,none⟩ (.slice none 0 0)).setCell ⟨w.heap.size,1,none⟩ (.slice none 0 0)).setCell ⟨w.heap.size,2,none⟩ (.slice none 0 0)).setCell ⟨w.heap.size,3,none⟩ (.slice none 0 0))=w9 at*
    have HRG:Hid (w9.rangeAt w.heap.size 0 [Value.slice none 0 0,.slice none 0 0,.slice none 0 0,.slice none 0 0]):=fun i u hu=>by rw[bZ HRA.out.2.1,bW,<-bV];exact hu
    refine bP (pU rfl _ _ _ w.heap.size 0 [Value.slice none 0 0,.slice none 0 0,.slice none 0 0,.slice none 0 0] _ rfl HRG.out Tryz.underlying36 rfl HI.out) rfl ?_;rw[HE.out];exact Io (HB.out.less (by omega)) HRA.out.1 (HER.out w9 HRA.out.1 HRA.out.2.2)
  |ok ps=>
   rw[hor] at hend;obtain⟨vp,rfl,hrow⟩:=hend;have hok:=La hor;have hpl:ps.length<=64:=aA (VU hok.nd hok.lt) HGD.out.2.few
   have HJ3:Hid (ou r text ts=(((qI (oG r) (gX S.bB cs ps)).1,-1),(qI (oG r) (gX S.bB cs ps)).2)):=by show _=_;rw[HJ2.out,hor]
   have HSP:=aY (aai (left:=left) (HB.out.mark HW3.out.1 (bI HW3.out.2)) HGD.out.2 (abQ HM3.out (fun k hk=>(ax (by have:=bI HW1.out.2;omega)).trans (HB.out.above k (aA HW1.out.1.size hk)))) hrow (fun k hk=>(ax (by have:=bI HW2.out.2;omega)).trans (HB.out.above k (aA HW2.out.1.size hk))) hok.lt hpl);obtain⟨aop,ak9,hvp,_,_⟩:=bq hrow;subst hvp;obtain⟨ev,hcm,⟨RN,ne,cae,rfl⟩,hcall⟩:=HSP.out;have HCA:=aY hcall
   have hmk:(Instr.makeMap 122 none).run Tryz.prog w3=.ok (.map (some w3.heap.size)) (w3.alloc (.map #[] 0)):=by simp[Instr.makeMap,go_sem]
   have hsz:(w3.alloc (.map #[] 0)).heap.size=w3.heap.size+1:=bJ _ _;have hb4:Below w3.heap.size w3 ((w3.alloc (.map #[] 0)).alloc (.cells #[.pointer (some ⟨fb,0,none⟩),.pointer none,.map (some w3.heap.size),.slice none 0 0,.slice none 0 0,.slice none 0 0,.slice none 0 0] 125)):=((au _ _).alloc (ai _) _).alloc (by omega) _;have cm4:((w3.alloc (.map #[] 0)).alloc (.cells #[.pointer (some ⟨fb,0,none⟩),.pointer none,.map (some w3.heap.size),.slice none 0 0,.slice none 0 0,.slice none 0 0,.slice none 0 0] 125)).cell? ⟨mb,0,none⟩=some (.slice RN ne cae):=(hb4.cell (p:=⟨mb,0,none⟩) (aC hcm)).trans hcm;have xu:=aY hb4;clear hrow hok hpl hor HJ2 HSP hcall hb4 hcm
   go_wp2_with fail
   refine HCA.out.mono ?_;rintro e5 w5 ⟨ve,lb,rfl,jD,A5,hs5,hA5,ht5⟩;have hlt3:=bI HW3.out.2
   have ha9:A5 w.heap.size=9:=by
    rw[hA5 w.heap.size (ay hlt3 xu.out.size)];exact(ax (by omega)).trans ((ax (by omega)).trans (aD rfl))
   have hr5:w5.heap[w.heap.size]?=some (.cells #[.slice none 0 0,.slice none 0 0,.slice none 0 0,.slice none 0 0] 36 (0,0)):=by
    refine(ht5.block w.heap.size (ay hlt3 xu.out.size) (fun q=>?_)).trans ((xu.out.block w.heap.size hlt3).trans HW3.out.2);rw[hA5 w.heap.size (ay hlt3 xu.out.size)] at ha9;unfold JF at q;omega
   obtain⟨ub,m,v1,v2,v3,v4,dV⟩:=hs5.job
   have d3:w5.cell? ⟨w3.heap.size+1,3,none⟩=some v1:=by rw[bZ dV.row];rfl
   have d4:w5.cell? ⟨w3.heap.size+1,4,none⟩=some v2:=by rw[bZ dV.row];rfl
   have d5:w5.cell? ⟨w3.heap.size+1,5,none⟩=some v3:=by rw[bZ dV.row];rfl
   have d6:w5.cell? ⟨w3.heap.size+1,6,none⟩=some v4:=by rw[bZ dV.row];rfl
   have HRR:Hid (((((w5.setCell ⟨w.heap.size,0,none⟩ v1).setCell ⟨w.heap.size,1,none⟩ v2).setCell ⟨w.heap.size,2,none⟩ v3).setCell ⟨w.heap.size,3,none⟩ v4).heap[w.heap.size]?=some (.cells #[v1,v2,v3,v4] 36 (0,0))/\∀k,k≠w.heap.size->((((w5.setCell ⟨w.heap.size,0,none⟩ v1).setCell ⟨w.heap.size,1,none⟩ v2).setCell ⟨w.heap.size,2,none⟩ v3).setCell ⟨w.heap.size,3,none⟩ v4).heap[k]?=w5.heap[k]?):=⟨by
    have g0:=eO w5 w.heap.size 0 _ _ v1 hr5;have g1:=eO _ w.heap.size 1 _ _ v2 g0;have g2:=eO _ w.heap.size 2 _ _ v3 g1;have g3:=eO _ w.heap.size 3 _ _ v4 g2
    exact g3,fun k hk=>by rw[iP (show k≠w.heap.size from hk),iP (show k≠w.heap.size from hk),iP (show k≠w.heap.size from hk),iP (show k≠w.heap.size from hk)]⟩
   have Ba:Hid (Vr A a t left fb (ou r text ts) w (.returned (.tuple #[.agg #[v1,v2,v3,v4],ve])) ((((w5.setCell ⟨w.heap.size,0,none⟩ v1).setCell ⟨w.heap.size,1,none⟩ v2).setCell ⟨w.heap.size,2,none⟩ v3).setCell ⟨w.heap.size,3,none⟩ v4)):=by
    have aby:((((w5.setCell ⟨w.heap.size,0,none⟩ v1).setCell ⟨w.heap.size,1,none⟩ v2).setCell ⟨w.heap.size,2,none⟩ v3).setCell ⟨w.heap.size,3,none⟩ v4).heap.size=w5.heap.size:=by rw[dA,dA,dA,dA]
    have hkp:=HRR.out.2;have hs9:=hs5.keep (w':=((((w5.setCell ⟨w.heap.size,0,none⟩ v1).setCell ⟨w.heap.size,1,none⟩ v2).setCell ⟨w.heap.size,2,none⟩ v3).setCell ⟨w.heap.size,3,none⟩ v4)) (dx aby.symm) (fun _ _=>rfl) (fun k _ h8=>hkp k (fun e=>by rw[e,ha9] at h8;omega)) (fun k hk=>hs5.above k (by rw[<-aby];exact hk))
    have hA1:∀k,k<w.heap.size->(if k=w3.heap.size+1 then 2 else if k=w3.heap.size then 4 else if k=w.heap.size then 9 else A k)=A k:=fun k hk=>by rw[ax (by omega),ax (by omega),ax (by omega)]
    have hold:∀k,k<w.heap.size->A5 k=A k:=fun k hk=>(hA5 k (by have:=xu.out.size;omega)).trans (hA1 k hk)
    have hT:aQ (fun k=>A k=1) w ((((w5.setCell ⟨w.heap.size,0,none⟩ v1).setCell ⟨w.heap.size,1,none⟩ v2).setCell ⟨w.heap.size,2,none⟩ v3).setCell ⟨w.heap.size,3,none⟩ v4):=by
     refine⟨ht5.os.trans (xu.out.os.trans HW3.out.1.os),ht5.output.trans (xu.out.output.trans HW3.out.1.output),by rw[aby];exact aA HW3.out.1.size (aA xu.out.size ht5.size),fun k hk hn=>?_⟩;rw[hkp k (by omega),ht5.block k (by have:=xu.out.size;omega) (fun q=>?_),xu.out.block k (by omega)]
     ·exact HW3.out.1.block k hk
     have q1:1<=(if k=w3.heap.size+1 then 2 else if k=w3.heap.size then 4 else if k=w.heap.size then 9 else A k):=q.1;have q2:(if k=w3.heap.size+1 then 2 else if k=w3.heap.size then 4 else if k=w.heap.size then 9 else A k)<=8:=q.2;rw[hA1 k hk] at q1 q2;have:=HB.out.own k;omega
    obtain⟨A9,hbe,hz9⟩:=HB.out.done hs9 hold hT;rw[HJ3.out]
    have ro:∀{v:Value} {n c:Nat} {xs:List Value},w5.ownsRow 0 9 1 v n xs->(∀k,v.ownBlock=some k->A5 k=c)->2<=c->c<=8->((((w5.setCell ⟨w.heap.size,0,none⟩ v1).setCell ⟨w.heap.size,1,none⟩ v2).setCell ⟨w.heap.size,2,none⟩ v3).setCell ⟨w.heap.size,3,none⟩ v4).ownsRow 0 9 1 v n xs/\∀k,v.ownBlock=some k->w.heap.size<=k/\A9 k=0:=fun {v n c xs} hr hc h2 h8=>⟨dL hr (fun k hk=>hkp k (fun e=>by have h1:=hc k hk;rw[e,ha9] at h1;omega)),fun k hk=>hz9 k (by rw[hc k hk];exact h2) (by rw[hc k hk];exact h8)⟩
    have q1:=ro dV.r1 dV.c1 (by decide) (by decide);have q2:=ro dV.r2 dV.c2 (by decide) (by decide);have q3:=ro dV.r3 dV.c3 (by decide) (by decide);have q4:=ro dV.r4 dV.c4 (by decide) (by decide)
    exact⟨ve,v1,v2,v3,v4,A9,rfl,CW.num jD hbe.1.env.pO,⟨q1.1,q2.1,q3.1,q4.1⟩,fun k hk=>by
     rcases hk with h|h|h|h
     ·exact q1.2 k h
     ·exact q2.2 k h
     ·exact q3.2 k h
     exact q4.2 k h,hbe⟩
   have z0:w5.cell? ⟨w.heap.size,0,none⟩=some (.slice none 0 0):=by rw[bZ hr5];rfl
   have z1:w5.cell? ⟨w.heap.size,1,none⟩=some (.slice none 0 0):=by rw[bZ hr5];rfl
   have z2:w5.cell? ⟨w.heap.size,2,none⟩=some (.slice none 0 0):=by rw[bZ hr5];rfl
   have z3:w5.cell? ⟨w.heap.size,3,none⟩=some (.slice none 0 0):=by rw[bZ hr5];rfl
   have f0:w5.frozen? ⟨w.heap.size,0,none⟩=false:=iG hr5;have f1:w5.frozen? ⟨w.heap.size,1,none⟩=false:=iG hr5;have f2:w5.frozen? ⟨w.heap.size,2,none⟩=false:=iG hr5;have f3:w5.frozen? ⟨w.heap.size,3,none⟩=false:=iG hr5
   have hvf:ve=.nilIface\/∃T x,ve=.iface T (.pointer x):=by
    rcases jD with ⟨q,_⟩|⟨k,_,q,_⟩
    ·exact aG q
    exact aL ⟨_,_,q⟩
   obtain⟨o1,p1,hv1,_,_⟩:=bq dV.r1;obtain⟨o2,p2,hv2,_,_⟩:=bq dV.r2;obtain⟨o3,p3,hv3,_,_⟩:=bq dV.r3;obtain⟨o4,p4,hv4,_,_⟩:=bq dV.r4;clear jD hs5 hA5 ht5 dV HCA ha9 hr5 cm4 hmk hsz;generalize (qI (oG r) (gX S.bB cs ps)).2.ran.length=n1 at*;generalize (qI (oG r) (gX S.bB cs ps)).2.cl.length=n2 at*;generalize (qI (oG r) (gX S.bB cs ps)).2.fa.length=n3 at*;generalize (qI (oG r) (gX S.bB cs ps)).2.bl.length=n4 at*;subst hv1 hv2 hv3 hv4
   rcases hvf with rfl|⟨TT,xx,rfl⟩
   all_goals
    go_wp2_with fail
    refine bP (pU rfl _ _ _ w.heap.size 0 [Value.slice o1 n1 p1,.slice o2 n2 p2,.slice o3 n3 p3,.slice o4 n4 p4] _ rfl (fun i u hu=>by rw[bZ HRR.out.1,bW,<-bV];exact hu) Tryz.underlying36 rfl HI.out) rfl ?_;exact Ba.out
