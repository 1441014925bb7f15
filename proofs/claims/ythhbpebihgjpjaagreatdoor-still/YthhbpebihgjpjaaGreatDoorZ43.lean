import Derived.Test.YthhbpebihgjpjaaGreatDoorZ34
namespace Go.Proofs.YthhbpebihgjpjaaGreatDoor
set_option maxRecDepth 1000000
set_option maxHeartbeats 20000000
set_option linter.all false
section
open Go.RowKit Go.Maps
variable {S:St}{no:Nat}{ls:List dQ}{outs ins:jm}
theorem vB{u:ah}{b:FO}(h:oV S outs ins u=some b):OV S no ls u (.ok outs) (.ok ins)=.error (b,no):=by
 unfold OV;simp only[h]
def aaC(p:PV)(a:Nat->Addr)(B:Nat)(w0:ak)(rb no:Nat)(ls:List dQ)(S:St)(m:Nat)(outs ins:jm)(hd:ah)(s:Value)(w:ak):Prop:=
 ∃eb DR nO cO Rw nI cI MQ nM cM MR nR cR,s=.pointer (some ⟨eb,0,none⟩)/\w0.heap.size<=eb/\w.heap[eb]?=some (.cells #[.slice DR nO cO,.slice Rw nI cI,.slice MQ nM cM,.slice MR nR cR,.string hd,.string ⟨#[]⟩] 63 (0,0))/\gJ w0.heap.size w (.slice DR nO cO) (iL outs++fF outs oI)/\gJ w0.heap.size w (.slice Rw nI cI) (iL ins)/\gJ w0.heap.size w (.slice MQ nM cM) (fF ins oI)/\gJ w0.heap.size w (.slice MR nR cR) (fF ins wC)/\iF p a B w rb (no:Nat) ls S m/\Below w0.heap.size w0 w
variable {w0:ak}
theorem ady{p:PV}{a:Nat->Addr}{B:Nat}{yu W:ak}{rb:Nat}{m:Nat}{hd:ah}{l0 l1:List ah}{eb:Nat}{DR Rw MQ MR:Option Addr}{nO cO nI cI nM cM nR cR:Nat}(h0:iL outs=l0)(h1:iL ins=l1)(hst:iF p a B yu rb (no:Nat) ls S m)(hbl:Below w0.heap.size w0 yu)(hrow:W.heap[eb]?=some (.cells #[.slice none 0 0,.slice none 0 0,.slice none 0 0,.slice none 0 0,.string ⟨#[]⟩,.string ⟨#[]⟩] 63 (0,0)))(hn:yu.heap.size<=eb)(hon:∀k,(Value.slice DR nO cO).ownBlock=some k->k≠eb)(tO:gJ w0.heap.size W (.slice DR nO cO) (l0++fF outs oI))(tI:gJ w0.heap.size yu (.slice Rw nI cI) l1)(tM:gJ w0.heap.size yu (.slice MQ nM cM) (fF ins oI))(tR:gJ w0.heap.size yu (.slice MR nR cR) (fF ins wC))(hfin:Below yu.heap.size yu ((((((W.setCell ⟨eb,0,none⟩ (.slice DR nO cO)).setCell ⟨eb,1,none⟩ (.slice Rw nI cI)).setCell ⟨eb,2,none⟩ (.slice MQ nM cM)).setCell ⟨eb,3,none⟩ (.slice MR nR cR)).setCell ⟨eb,4,none⟩ (.string hd)).setCell ⟨eb,5,none⟩ (.string ⟨#[]⟩))):aaC p a B w0 rb no ls S m outs ins hd (.pointer (some ⟨eb,0,none⟩)) ((((((W.setCell ⟨eb,0,none⟩ (.slice DR nO cO)).setCell ⟨eb,1,none⟩ (.slice Rw nI cI)).setCell ⟨eb,2,none⟩ (.slice MQ nM cM)).setCell ⟨eb,3,none⟩ (.slice MR nR cR)).setCell ⟨eb,4,none⟩ (.string hd)).setCell ⟨eb,5,none⟩ (.string ⟨#[]⟩)):=by
 refine⟨eb,DR,nO,cO,Rw,nI,cI,MQ,nM,cM,MR,nR,cR,rfl,aC hbl.size hn,?_,?_,?_,tM.keep hfin.block,tR.keep hfin.block,hst.below hfin,hbl.trans (hfin.mono hbl.size)⟩
 ·rw[aR _ _ _ _ _ _ (aR _ _ _ _ _ _ (aR _ _ _ _ _ _ (aR _ _ _ _ _ _ (aR _ _ _ _ _ _ (aR _ _ _ _ _ _ hrow)))))];rfl
 ·rw[h0];refine⟨?_,tO.2⟩;obtain⟨ao,cap,e,hc,q|⟨b,o,rfl,q⟩⟩:=tO.1
  ·exact⟨ao,cap,e,hc,aK q⟩
  refine⟨_,cap,e,hc,aP ⟨b,o,rfl,fun k s hs=>?_⟩⟩;have hq:=q k s hs;have hne:b≠eb:=hon b (by injection e with e1 _ _;rw[e1];rfl);refine(aF (w:=W) (a:=⟨b,o+k,none⟩) ?_).trans hq;show _=W.heap[b]?;rw[au _ _ _ _ hne,au _ _ _ _ hne,au _ _ _ _ hne,au _ _ _ _ hne,au _ _ _ _ hne,au _ _ _ _ hne]
 rw[h1];exact tI.keep hfin.block
variable {x:ak}
theorem Ya{C:Array Value}{t:Nat}(h:Below w0.heap.size w0 x):∃y b,y=x.alloc (.cells C t)/\b=x.heap.size/\Hid (y.heap[b]?=some (.cells C t (0,0)))/\Hid (w0.heap.size<=b)/\Hid (Below x.heap.size x y)/\Hid (Below w0.heap.size w0 y):=
 ⟨_,_,rfl,rfl,bq _ _ _ rfl,h.size,(ay _ _).alloc (ai _) _,h.alloc h.size _⟩
theorem zM(h:Below w0.heap.size w0 x):∃y b,y=x.alloc (.cells #[.slice none 0 0,.slice none 0 0,.slice none 0 0,.slice none 0 0,.string ⟨#[]⟩,.string ⟨#[]⟩] 63)/\b=x.heap.size/\Hid (y.heap[b]?=some (.cells #[.slice none 0 0,.slice none 0 0,.slice none 0 0,.slice none 0 0,.string ⟨#[]⟩,.string ⟨#[]⟩] 63 (0,0)))/\Hid (w0.heap.size<=b)/\Hid (Below x.heap.size x y)/\Hid (Below w0.heap.size w0 y):=Ya h
theorem YV:Rz:=by
 intro p0 a B w rb no ls S m t h0 ht;obtain⟨ti,HTI⟩:=iT (P:=Tryz.prog) (e:=311) (n:=7) (b:=136) (z:=(.agg #[.slice none 0 0,.slice none 0 0,.slice none 0 0,.slice none 0 0,.string ⟨#[]⟩,.string ⟨#[]⟩,.pointer none])) dD;obtain⟨p,hc7,h⟩:=h0.fresh;clear h0;have HC7:=aV hc7;have H:=aV h
 have HFI:Hid (∀wx,Calls Tryz.prog 265 #[.string t,.string ⟨#[58]⟩] wx fun e w'=>e=.returned (.int .i64 ((min (qG pq t) t.size:Nat):Int))/\w'=wx):=fun wx=>Dm pq t ⟨#[58]⟩ Zn aJ wx
 have uT:Hid (∀wx,iF p a B wx rb (no:Nat) ls S (m+1)->Below w.heap.size w wx->Calls Tryz.prog 112 #[.pointer (some ⟨rb,0,none⟩),.bool false,.iface 472 (.pointer (some (a 4)))] wx fun e w'=>jF (no:Nat) (ja a 4) e w'/\Below B w w'):=fun wx hp hb=>(pz rb (no:Nat) _ _ wx hp.Ji).mono (fun e w' h=>⟨h.1,(hb.mono H.out.bw).trans (h.2.mono hp.bw)⟩)
 have HNR:Hid (∀wx,iF p a B wx rb (no:Nat) ls S (m+1)->Below w.heap.size w wx->Calls Tryz.prog 112 #[.pointer (some ⟨rb,0,none⟩),.bool false,.iface 472 (.pointer (some (a 5)))] wx fun e w'=>jF (no:Nat) (ja a 5) e w'/\Below B w w'):=fun wx hp hb=>(pz rb (no:Nat) _ _ wx hp.Ji).mono (fun e w' h=>⟨h.1,(hb.mono H.out.bw).trans (h.2.mono hp.bw)⟩)
 have c4:w.cell? ⟨4,0,none⟩=some (.iface 472 (.pointer (some (a 4)))):=h.gl.errs 4 bS;clear h hc7
 by_cases hk:t.size<=qG pq t
 ·have HF:Hid (kZ S no t ls=.error (.syn,no)):=by show _=_;unfold kZ;rw[aH hk]
  rw[aaW hk] at HFI;clear hk
  have k1:¬(t.size:Int)<(t.size:Int):=aJ
  go_enter Tryz.func196,Tryz.ntmps196
  go_wp2_with fail
  refine(HFI.out _).mono ?_;rintro e w1 ⟨rfl,rfl⟩
  go_wp2_with fail
  refine(uT.out _ H.out (ay _ _)).mono ?_;rintro e w8 ⟨⟨b,rfl,s0,s1⟩,mH⟩;exact⟨rfl,(by rw[HF.out];exact⟨⟨b,rfl,s0,s1⟩,mH⟩)⟩
 have HS:Hid (kZ S no t ls=_):=YK hk
 have hk2:qG pq t<t.size:=aJ
 rw[lK aJ] at HFI;generalize qG pq t=K at*
 have k1:(K:Int)<(t.size:Int):=aJ
 have apC:∀wx,(Instr.slice 9 (.string t) none (some (.int .i64 K)) none).run Tryz.prog wx=.ok (.string (t.extract 0 K)) wx:=fun wx=>qH t K aJ wx
 have apD:∀wx,(Instr.slice 9 (.string t) (some (.int .i64 ((K:Int)+1))) none none).run Tryz.prog wx=.ok (.string (t.extract (K+1) t.size)) wx:=fun wx=>by
  have:=nQ t (K+1) aJ wx;rw[show(((K+1:Nat):Int))=(K:Int)+1 by omega] at this;exact this
 have hTO:(t.extract 0 K).size<=4000:=by rw[aM];omega
 have hTR:(t.extract (K+1) t.size).size<=4000:=by rw[aM];omega
 generalize t.extract 0 K=TO at*;generalize t.extract (K+1) t.size=TR at*
 have XD:Hid (∀wx,Calls Tryz.prog 191 #[.string TR] wx fun e w'=>e=.returned (.string (bI TR))/\w'=wx):=fun wx=>gM TR wx
 have hU:(bI TR).size<=4000:=aC (kG TR) hTR;generalize bI TR=U at*
 have Dy:Hid (∀wx,Calls Tryz.prog 194 #[.string U] wx fun e w'=>e=.returned (.tuple #[.string (fE U),.string (gV U)])/\∃n,w'=wx.drewN n):=fun wx=>qB U aJ wx
 have hTL:(gV U).size<=4000:=by rw[yj];omega
 have HHD:=aV (mh U);generalize gV U=TL at*;have Da:=(H.out.below ((ay _ w).alloc (ai _) (.cells ([oI].map Value.string).toArray 9))).paths hTO (Pb w [oI] 9) bS
 have k0:(K:Int)<=4000:=aJ
 have JA:=aV hTO;clear hk hTR hTO
 go_enter Tryz.func196,Tryz.ntmps196
 go_wp2_with fail
 refine(HFI.out _).mono ?_;rintro e w1 ⟨rfl,hw⟩;rw[hw];clear hw
 go_wp2_with fail
 refine(gL _ _ _).mono ?_;rintro e w2 ⟨rfl,hw⟩;rw[hw];clear hw
 go_wp2_with fail
 refine Da.mono ?_;rintro e w1 ⟨hend,hb1⟩;have Vl:Hid (Below w.heap.size w w1):=((ay _ w).alloc (ai _) _).trans (hb1.mono eB)
 cases ho:nP (gK [S.top]) [oI] TO with
 |error b=>
  rw[ho] at hend
  have HF:Hid (kZ S no t ls=.error (b,no)):=by rw[HS.out,ho];rfl
  obtain⟨b',rfl,s0,s1⟩:=hend;exact⟨rfl,(by rw[HF.out];exact⟨⟨b',rfl,s0,s1⟩,Vl.out.mono H.out.bw⟩)⟩
 |ok outs=>
 rw[ho] at hend;obtain⟨v1,rfl,hso⟩:=hend;have HSO:Hid (rD w.heap.size w1 v1 outs):=hso.mono eB;have HOK:=aV (xK ho);rw[ho] at HS;have tK:=aV (H.out.below Vl.out);clear ho hso hb1 Da c4
 go_wp2_with fail
 refine(XD.out _).mono ?_;rintro e w2 ⟨rfl,rfl⟩
 go_wp2_with fail
 refine(Dy.out _).mono ?_;rintro e w3 ⟨rfl,k3,hw3⟩
 have Es:Hid (iF p a B w3 rb (no:Nat) ls S (m+1)):=by rw[hw3];exact tK.out.below (di (ay _ _) k3)
 have ahL:Hid (rD w.heap.size w3 v1 outs):=HSO.out.keep (fun k _=>by rw[hw3];rfl)
 have Vm:Hid (Below w.heap.size w w3):=by rw[hw3];exact di Vl.out k3
 have HRI:=(Es.out.below ((ay _ w3).alloc (ai _) (.cells ([oI,wC].map Value.string).toArray 9))).paths hTL (Pb w3 [oI,wC] 9) bS;clear hw3 HSO tK Vl;generalize hHE:fE U=HD at*;have HHE:=aV hHE;clear hHE
 go_wp2_with fail
 refine HRI.mono ?_;rintro e w4 ⟨hend,hb4⟩;have adD:Below w3.heap.size w3 w4:=((ay _ w3).alloc (ai _) _).trans (hb4.mono eB);have Yo:=aV (Vm.out.trans (adD.mono Vm.out.size))
 cases hi:nP (gK [S.top]) [oI,wC] TL with
 |error b=>
  rw[hi] at hend
  have HF:Hid (kZ S no t ls=.error (b,no)):=by rw[HS.out,hi];rfl
  obtain⟨b',rfl,s0,s1⟩:=hend;exact⟨rfl,(by rw[HF.out];exact⟨⟨b',rfl,s0,s1⟩,Yo.out.mono H.out.bw⟩)⟩
 |ok ins=>
 rw[hi] at hend;obtain⟨v2,rfl,hsi⟩:=hend;have HIK:=aV (xK hi);rw[hi] at HS;have ru:Hid (yD p a B w rb no ls S (m+1) v1 outs v2 ins w4):=⟨Es.out.below adD,ahL.out.keep adD.block,hsi.mono (by have:=Vm.out.size;simp;omega),Yo.out⟩;clear hi hsi hb4 adD HRI Es ahL Vm Yo;obtain⟨xo,hxo,hfo,aiW⟩:=HOK.out.1.iL;obtain⟨g1,Gf,rfl,hcap1,hcell1⟩:=ru.out.so.cell;obtain⟨pv,_,cp,htx⟩:=hcell1 0 xo hxo;rw[qo,dh] at cp;obtain⟨aop,Ue,hpv,hpc,_⟩:=htx.1;subst hpv;have HXO:=aV (aO hxo hfo)
 have sl:(0:Int)<(outs.length:Int):=by have:=(aN.1 hxo).1;omega
 have c4:w4.cell? ⟨4,0,none⟩=some (.iface 472 (.pointer (some (a 4)))):=ru.out.st.gl.errs 4 bS
 have Yx:Hid (xo.2.length<=4000):=by have:=vg aiW;have:=HOK.out;have:TO.size<=4000:=JA.out;show _<=_;omega
 have hxl:=Yx.out;clear hcell1 htx hxo hfo aiW hpc hcap1;obtain⟨xo1,xo2⟩:=xo;simp only at cp hxl;generalize hOL:List.length outs=OL at*;have HOL:=aV hOL
 have ol0:¬OL=0:=aJ
 clear hOL
 by_cases h50:xo2=[]
 ·have HF:Hid (kZ S no t ls=.error (.syn,no)):=by
   rw[HS.out];exact vB (by unfold oV;rw[aH (aK (HXO.out.2.trans h50))])
  subst h50;simp only[dY] at cp;have afo:=uT.out w4.drew (ru.out.st.below (ay _ _).drew) ru.out.bl.drew
  go_wp2_with fail
  refine dJ (S:=fun w'=>w'=w4.drew) dD ?_;change wpAnyH _ _ _ _ _ _ _ _ (World.drew _);refine u3 0 (.pointer (some ⟨rb,0,none⟩)) rfl rfl<|u3 1 (.slice (some ⟨g1,0,none⟩) OL Gf) rfl rfl<|u3 2 (.pointer (some ⟨g1,0,none⟩)) rfl rfl<|u3 3 (.pointer (some ⟨g1,1,none⟩)) rfl rfl<|u3 4 (.slice aop 0 Ue) rfl rfl<|u3 5 (.int .i64 0) rfl rfl<|u3 6 (.bool false) rfl rfl<|u3 7 (.bool false) rfl rfl<|sH 8 rfl rfl<|sH 9 rfl rfl<|sH 10 rfl rfl<|u3 11 (.bool false) rfl rfl<|u3 12 (.iface 472 (.pointer (some (a 4)))) rfl rfl ?_
  refine rH 13 rfl fun K hK=>?_
  go_simp;refine afo.mono ?_;rintro e w8 ⟨⟨b,rfl,s0,s1⟩,mH⟩;exact⟨rfl,(by rw[HF.out];exact⟨⟨b,rfl,s0,s1⟩,mH⟩)⟩
 have xl0:0<xo2.length:=gD.2 h50
 have xl:(0:Int)<(xo2.length:Int):=aJ
 by_cases h51:2<OL
 ·have HF:Hid (kZ S no t ls=.error (.syn,no)):=by
   rw[HS.out];exact vB (by unfold oV;rw[aH (aP (by rw[HOL.out];exact h51))])
  have o3:¬(OL:Int)<=2:=aJ
  have afo:=uT.out w4.drew (ru.out.st.below (ay _ _).drew) ru.out.bl.drew
  go_wp2_with fail
  refine dJ (S:=fun w'=>w'=w4.drew) dD ?_;change wpAnyH _ _ _ _ _ _ _ _ (World.drew _);refine u3 0 (.pointer (some ⟨rb,0,none⟩)) rfl rfl<|u3 1 (.slice (some ⟨g1,0,none⟩) OL Gf) rfl rfl<|u3 2 (.pointer (some ⟨g1,0,none⟩)) rfl rfl<|u3 3 (.pointer (some ⟨g1,1,none⟩)) rfl rfl<|u3 4 (.slice aop xo2.length Ue) rfl rfl<|u3 5 (.int .i64 (xo2.length:Nat)) rfl rfl<|u3 6 (.bool true) rfl rfl<|u3 7 (.bool true) rfl rfl<|u3 8 (.slice (some ⟨g1,0,none⟩) OL Gf) rfl rfl<|u3 9 (.int .i64 (OL:Nat)) rfl rfl<|u3 10 (.bool false) rfl rfl<|u3 11 (.bool false) rfl rfl<|u3 12 (.iface 472 (.pointer (some (a 4)))) rfl rfl ?_
  refine rH 13 rfl fun K hK=>?_
  go_simp;refine afo.mono ?_;rintro e w8 ⟨⟨b,rfl,s0,s1⟩,mH⟩;exact⟨rfl,(by rw[HF.out];exact⟨⟨b,rfl,s0,s1⟩,mH⟩)⟩
 have o3:(OL:Int)<=2:=aJ
 go_wp2_with fail
 go_quiet ((go_at_call 112;exact XA (gL _ _ _)))
 go_wp2_with fail
 have Ac:Hid (yD p a B w rb no ls S (m+1) (.slice (some ⟨g1,0,none⟩) OL Gf) outs v2 ins (w4.drewN nq)):=ru.out.later (di (ay _ _) nq);generalize w4.drewN nq=w5 at*
 have Yn:Hid (¬(iL outs=[]\/2<List.length outs)):=fun q=>by
  rcases q with q|q
  ·exact h50 (HXO.out.2.symm.trans q)
  rw[HOL.out] at q;exact h51 q
 have c5:w5.cell? ⟨4,0,none⟩=some (.iface 472 (.pointer (some (a 4)))):=Ac.out.st.gl.errs 4 bS
 have ah7:∀q,Calls Tryz.prog 112 #[.pointer (some ⟨rb,0,none⟩),.bool false,.iface 472 (.pointer (some (a 4)))] (w5.drewN q) fun e w'=>jF (no:Nat) (ja a 4) e w'/\Below B w w':=fun q=>uT.out (w5.drewN q) (Ac.out.st.below (di (ay _ _) q)) (di Ac.out.bl q)
 have afp:=aV ah7;clear ru c4 cp ah7 Yx sl
 by_cases h60:HD.size=0
 ·have HF:Hid (kZ S no t ls=.error (.syn,no)):=by
   rw[HS.out];exact vB (by unfold oV;rw[aA Yn.out,aH (aK (HHD.out.symm.trans h60))])
  obtain rfl:HD=⟨#[]⟩:=iJ.1 h60;refine dJ (S:=fun w'=>w'=w5.drew) dD ?_;change wpAnyH _ _ _ _ _ _ _ _ (World.drew _);refine u3 0 (.pointer (some ⟨rb,0,none⟩)) rfl rfl<|u3 1 (.string ⟨#[]⟩) rfl rfl<|u3 2 (.bool false) rfl rfl<|u3 3 (.bool false) rfl rfl<|sH 4 rfl rfl<|sH 5 rfl rfl<|u3 6 (.bool false) rfl rfl<|u3 7 (.iface 472 (.pointer (some (a 4)))) rfl rfl ?_
  refine rH 8 rfl fun K hK=>?_
  go_simp;refine(afp.out 1).mono ?_;rintro e w8 ⟨⟨b,rfl,s0,s1⟩,mH⟩;exact⟨rfl,(by rw[HF.out];exact⟨⟨b,rfl,s0,s1⟩,mH⟩)⟩
 have hnn:=qR HD;rw[bM h60] at hnn
 have wX:Hid (∀q,Calls Tryz.prog 267 #[v2] (w5.drewN q) fun e w'=>e=.returned (.bool (qU ins))/\∃q2,w'=(w5.drewN q).drewN q2):=fun q=>Xi w.heap.size ins v2 (w5.drewN q) (Ac.out.si.keep (fun _ _=>rfl)) (by have:=HIK.out;omega) (fun x hx=>by
  have:=HIK.out.1
  rcases bg.1 (show x∈ins.head (HIK.out.1.ne)::ins.tail by rw[List.cons_head_tail];exact hx) with q|q
  ·have h1:=this.first
   have h2:x.1=⟨#[]⟩:=by
    rw[q];rw[List.head?_eq_some_head this.ne] at h1;exact ax h1
   rw[h2];exact aS _
  have h1:=this.marks x q;unfold fo at h1;obtain⟨y,hy,hyx⟩:=aaV.1 h1;have e:=fI hyx;rw[<-e]
  rcases bg.1 hy with rfl|hy
  ·decide
  obtain rfl:=bD.1 hy
  decide)
 cases h61:qU ins with
 |false=>
  have HF:Hid (kZ S no t ls=.error (.syn,no)):=by
   rw[HS.out];exact vB (by unfold oV;rw[aA Yn.out,aH (aP h61)])
  rw[h61] at wX;refine dJ (S:=fun w'=>∃q,w'=w5.drewN q) dD ?_;change wpAnyH _ _ _ _ _ _ _ _ (World.drewN _ 1);refine kJ (i:=0) (v:=.pointer (some ⟨rb,0,none⟩)) rfl dD dD dD (fun _ _ _ h=>h) (aK ⟨dD,?_⟩) ⟨_,rfl⟩ ?_
  ·rintro _ ⟨q,rfl⟩;go_simp
  refine kJ (i:=1) (v:=.string HD) rfl dD dD dD (fun _ _ _ h=>h) (aK ⟨dD,?_⟩) ⟨_,rfl⟩ ?_
  ·rintro _ ⟨q,rfl⟩;go_simp
  refine kJ (i:=2) (v:=.bool true) rfl dD dD dD (fun _ _ _ h=>h) (aK ⟨dD,?_⟩) ⟨_,rfl⟩ ?_
  ·rintro _ ⟨q,rfl⟩;go_simp
  refine kJ (i:=3) (v:=.bool true) rfl dD dD dD (fun _ _ _ h=>h) (aK ⟨dD,?_⟩) ⟨_,rfl⟩ ?_
  ·rintro _ ⟨q,rfl⟩;go_simp
  refine kJ (i:=4) (v:=v2) rfl dD dD dD (fun _ _ _ h=>h) (aK ⟨dD,?_⟩) ⟨_,rfl⟩ ?_
  ·rintro _ ⟨q,rfl⟩;go_simp
  refine kJ (i:=7) (v:=.iface 472 (.pointer (some (a 4)))) rfl dD dD dD (fun _ _ _ h=>h) (aK ⟨dD,?_⟩) ⟨_,rfl⟩ ?_
  ·rintro _ ⟨q,rfl⟩;go_simp
  refine rH 5 rfl fun K hK=>?_
  go_simp;refine(wX.out 1).mono ?_;rintro e w8 ⟨rfl,q2,rfl⟩;refine hK.out _ _ ⟨1+q2,by rw[World.drewN_drewN]⟩ (fun _=>?_);clear hK K;rw[World.drewN_drewN];refine kJ (i:=6) (v:=.bool false) rfl dD dD dD (fun _ _ _ h=>h) (aK ⟨dD,?_⟩) ⟨_,rfl⟩ ?_
  ·rintro _ ⟨q,rfl⟩;go_simp
  refine rH 8 rfl fun K hK=>?_
  go_simp;refine(afp.out _).mono ?_;rintro e w8 ⟨⟨b,rfl,s0,s1⟩,mH⟩;exact⟨rfl,(by rw[HF.out];exact⟨⟨b,rfl,s0,s1⟩,mH⟩)⟩
 |true=>
 rw[h61] at wX
 go_quiet ((first|(go_at_call 267;exact Calls.quiet_of (wX.out _))|(go_at_call 112;exact XA (gL _ _ _))))
 go_wp2_with fail
 have HM6:Hid (yD p a B w rb no ls S (m+1) (.slice (some ⟨g1,0,none⟩) OL Gf) outs v2 ins (w5.drewN nq)):=Ac.out.later (di (ay _ _) nq);generalize w5.drewN nq=w6 at*
 have acR:Hid (¬(dB U=0\/qU ins=false)):=fun q=>by
  rcases q with q|q
  ·exact h60 (HHD.out.trans q)
  rw[h61] at q;cases q
 have c6:w6.cell? ⟨4,0,none⟩=some (.iface 472 (.pointer (some (a 4)))):=HM6.out.st.gl.errs 4 bS;have ahx:=uT.out w6.drew (HM6.out.st.below (ay _ _).drew) HM6.out.bl.drew;obtain⟨YE,EF,hvd,hcd,hgd⟩:=bE HM6.out.st.jR
 have c65:w6.cell? ⟨rb,5,none⟩=some (.slice YE S.bG.length EF):=by rw[aj _ _ _ _ _ _ HM6.out.st.row];exact ig some hvd
 have HVD:=aV hvd;clear Ac c5 afp wX hvd hcd hgd;generalize hEL:S.bG.length=EL at*;have HEL:=aV hEL;clear hEL
 by_cases h70:64<=EL
 ·have HF:Hid (kZ S no t ls=.error (.syn,no)):=by
   rw[HS.out];exact vB (by unfold oV;rw[aA Yn.out,aA acR.out,aH (by rw[HEL.out];exact h70)])
  have e1:¬EL<64:=aJ
  have e2:(64:Int)<=(EL:Int):=aJ
  refine dJ (S:=fun w'=>w'=w6.drew) dD ?_;change wpAnyH _ _ _ _ _ _ _ _ (World.drew _);refine u3 0 (.pointer (some ⟨rb,0,none⟩)) rfl rfl<|u3 1 (.pointer (some ⟨rb,0,none⟩)) rfl rfl<|u3 2 (.pointer (some ⟨rb,0,none⟩)) rfl rfl<|u3 3 (.pointer (some ⟨rb,5,none⟩)) rfl rfl<|u3 4 (.slice YE EL EF) rfl rfl<|u3 5 (.int .i64 (EL:Nat)) rfl rfl<|u3 6 (.bool false) rfl rfl<|u3 7 (.iface 472 (.pointer (some (a 4)))) rfl rfl ?_
  refine rH 8 rfl fun K hK=>?_
  go_simp;refine ahx.mono ?_;rintro e w8 ⟨⟨b,rfl,s0,s1⟩,mH⟩;exact⟨rfl,(by rw[HF.out];exact⟨⟨b,rfl,s0,s1⟩,mH⟩)⟩
 have e1:EL<64:=aJ
 have e2:(EL:Int)<64:=aJ
 go_quiet ((go_at_call 112;exact XA (gL _ _ _)))
 have HM7:Hid (yD p a B w rb no ls S (m+1) (.slice (some ⟨g1,0,none⟩) OL Gf) outs v2 ins (w6.drewN nq)):=HM6.out.later (di (ay _ _) nq);generalize w6.drewN nq=w7 at*
 have ae7:Hid (¬64<=S.bG.length):=by rw[HEL.out];show¬_;omega
 have HZ:Hid (∀w,(zeroValue 316).run Tryz.prog w=.ok yN w):=fun w=>dD
 have hHD:HD.size<=4000:=by have h1:=HHD.out;have h2:dB U<=U.size:=kg _ _;omega
 have hlk:(Instr.lookup 197 (.map (some p.rm)) (.string HD) true).run Tryz.prog w7=.ok (.tuple #[((eT S.rules HD).map wD).getD yN,.bool ((eT S.rules HD).map wD).isSome]) w7:=eu.look_ok HM7.out.st.rules Tryz.underlying197 HZ.out HD (by unfold maxLen;omega)
 have c73:w7.cell? ⟨rb,3,none⟩=some (.map (some p.rm)):=by rw[aj _ _ _ _ _ _ HM7.out.st.row];rfl
 have c75:w7.cell? ⟨5,0,none⟩=some (.iface 472 (.pointer (some (a 5)))):=HM7.out.st.gl.errs 5 bS;clear HM6 c6 ahx c65 HZ
 cases hbr:eT S.rules HD with
 |none=>
  have HF:Hid (kZ S no t ls=.error (.rul,no)):=by
   rw[HS.out];exact vB (by unfold oV;rw[aA Yn.out,aA acR.out,aA ae7.out,aH (by rw[HHE.out,hbr];rfl)])
  rw[hbr] at hlk;have hlk2:(Instr.lookup 197 (.map (some p.rm)) (.string HD) true).run Tryz.prog w7=.ok (.tuple #[.agg #[.string ⟨#[]⟩],.bool false]) w7:=hlk;have akD:=HNR.out (w7.alloc (.cells #[.string ⟨#[]⟩] 316)) (HM7.out.st.below ((ay _ _).alloc (ai _) _)) (HM7.out.bl.alloc HM7.out.bl.size _);have c8:(w7.alloc (.cells #[.string ⟨#[]⟩] 316)).cell? ⟨5,0,none⟩=some (.iface 472 (.pointer (some (a 5)))):=(HM7.out.st.below ((ay _ _).alloc (ai _) _)).gl.errs 5 bS;clear hlk c75
  go_wp2_with fail
  refine akD.mono ?_;rintro e w8 ⟨⟨b,rfl,s0,s1⟩,mH⟩;exact⟨rfl,(by rw[HF.out];exact⟨⟨b,rfl,s0,s1⟩,mH⟩)⟩
 |some ry=>
 rw[hbr] at hlk;have hlk2:(Instr.lookup 197 (.map (some p.rm)) (.string HD) true).run Tryz.prog w7=.ok (.tuple #[.agg #[.string ry],.bool true]) w7:=hlk
 have ag8:Hid (¬(eT S.rules (fE U)).isSome=false):=by rw[HHE.out,hbr];show¬_;simp
 have IE:Hid (yD p a B w rb no ls S (m+1) (.slice (some ⟨g1,0,none⟩) OL Gf) outs v2 ins (w7.alloc (.cells #[.string ry] 316))):=HM7.out.later ((ay _ _).alloc (ai _) _);have c8:(w7.alloc (.cells #[.string ry] 316)).cell? ⟨5,0,none⟩=some (.iface 472 (.pointer (some (a 5)))):=IE.out.st.gl.errs 5 bS;clear hlk hbr HM7 c75
 go_wp2_with fail
 refine(gL _ _ _).mono ?_;rintro e yu ⟨rfl,hw⟩;rw[<-hw] at IE;clear hw hlk2 c73 c8;obtain⟨g2,cap2,rfl,hcap2,hcell2⟩:=IE.out.si.cell;obtain⟨xi,hxi,hfi,aiV⟩:=HIK.out.1.iL;obtain⟨pvi,_,u2,hti⟩:=hcell2 0 xi hxi;rw[qo,dh] at u2
 have hcell1:∀(i:Nat) y,outs[i]?=some y->∃pv,yu.cell? ⟨g1,i*2,none⟩=some (.string y.1)/\yu.cell? ⟨g1,i*2+1,none⟩=some pv/\gJ w.heap.size yu pv y.2:=by
  obtain⟨g1',am1,hgg,_,hc⟩:=IE.out.so.cell;injection hgg with abp apw apx;injection abp with abp;injection abp with abp _ _;subst abp;exact hc
 obtain⟨pvo,_,u1,hto⟩:=hcell1 0 (xo1,xo2) HXO.out.1;rw[qo,dh] at u1;obtain⟨xi1,xi2⟩:=xi;have afw:=aV hto;have afx:=aV hti;have ahm:=aV hfi;obtain⟨aop,Ue,aga,_,_⟩:=hto.1;obtain⟨aoq,ad7,af9,_,_⟩:=hti.1;simp only at aga af9;rw[aga] at u1 afw;rw[af9] at u2 afx;have ahQ:=aV IE.out.bl.size;have akS:TO.size<=4000:=JA.out
 have aiU:xi2.length<=4000:=by have h1:=vg aiV;have h2:=HIK.out.2.1;simp only at h1;omega
 have akZ:=aV aiU
 have ahD:Hid (∀wx,Below yu.heap.size yu wx->Calls Tryz.prog 268 #[.slice (some ⟨g1,0,none⟩) OL Gf,.string ⟨#[124]⟩] wx fun e w'=>∃pv,e=.returned pv/\gJ w.heap.size yu pv (fF outs oI)/\Below wx.heap.size wx w'):=fun wx hb=>wS w.heap.size outs _ oI yu wx IE.out.so hb (by have:=HOL.out;have:=HOK.out;omega)
 have ahE:Hid (∀wx,Below yu.heap.size yu wx->Calls Tryz.prog 268 #[.slice (some ⟨g2,0,none⟩) ins.length cap2,.string ⟨#[124]⟩] wx fun e w'=>∃pv,e=.returned pv/\gJ w.heap.size yu pv (fF ins oI)/\Below wx.heap.size wx w'):=fun wx hb=>wS w.heap.size ins _ oI yu wx IE.out.si hb (by have:=HIK.out;omega)
 have ahF:Hid (∀wx,Below yu.heap.size yu wx->Calls Tryz.prog 268 #[.slice (some ⟨g2,0,none⟩) ins.length cap2,.string ⟨#[124,124]⟩] wx fun e w'=>∃pv,e=.returned pv/\gJ w.heap.size yu pv (fF ins wC)/\Below wx.heap.size wx w'):=fun wx hb=>wS w.heap.size ins _ wC yu wx IE.out.si hb (by have:=HIK.out;omega)
 have ahb:Hid ((fF outs oI).length<=10000):=by have:=yE outs oI;have:=HOK.out;show _<=_;omega
 have il0:¬List.length ins=0:=by have:=(aN.1 hxi).1;omega
 have aft:=aV (aO IE.out.st IE.out.bl);clear hcell1 hcell2 hto hti aga af9 hfi hxi aiV hcap2 IE akS aiU;generalize hIL:List.length ins=IL at*;generalize hXL:xo2.length=XL at*;generalize hYL:xi2.length=YL at*;have HIL:=aV hIL;have aoE:=aV hXL;have aoF:=aV hYL
 have ahT:Hid (xo2.length<=10000):=by show _<=_;omega
 clear hIL hXL hYL;have HTP:=aV afw;have HTQ:=aV afx;clear afw afx
 have ol1:(0:Int)<(OL:Int):=aJ
 have il1:(0:Int)<(IL:Int):=aJ
 go_wp2_with fail
 go_cut [11] from 86 (fun s11 wx=>aaC p a B w rb no ls S (m+1) outs ins HD s11 wx)
 case first=>
  refine dJ (S:=fun w'=>Below yu.heap.size yu w') dD ?_;change wpAnyH _ _ _ _ _ _ _ _ (World.drew _);obtain⟨x,hwd⟩:∃x,x=yu.drew:=⟨_,rfl⟩;rw[<-hwd]
  have gX:Hid (Below yu.heap.size yu x):=by rw[hwd];exact(ay _ _).drew
  clear hwd
  have HQ:Hid (∀w',Below yu.heap.size yu w'->w'.cell? ⟨g1,1,none⟩=some (.slice aop XL Ue)/\w'.cell? ⟨g2,1,none⟩=some (.slice aoq YL ad7)):=fun w' h=>⟨(h.cell (p:=⟨g1,1,none⟩) (aG u1)).trans u1,(h.cell (p:=⟨g2,1,none⟩) (aG u2)).trans u2⟩
  refine uQ 0 (.slice (some ⟨g1,0,none⟩) OL Gf) rfl gX.out HQ.out ?_;refine uQ 1 (.pointer (some ⟨g1,0,none⟩)) rfl gX.out HQ.out ?_;refine uQ 2 (.pointer (some ⟨g1,1,none⟩)) rfl gX.out HQ.out ?_;refine uQ 3 (.slice aop XL Ue) rfl gX.out HQ.out ?_;refine uQ 4 (.slice (some ⟨g1,0,none⟩) OL Gf) rfl gX.out HQ.out ?_;refine uQ 8 (.slice (some ⟨g2,0,none⟩) IL cap2) rfl gX.out HQ.out ?_;refine uQ 9 (.pointer (some ⟨g2,0,none⟩)) rfl gX.out HQ.out ?_;refine uQ 10 (.pointer (some ⟨g2,1,none⟩)) rfl gX.out HQ.out ?_;refine uQ 11 (.slice aoq YL ad7) rfl gX.out HQ.out ?_;refine uQ 12 (.slice (some ⟨g2,0,none⟩) IL cap2) rfl gX.out HQ.out ?_;refine uQ 14 (.slice (some ⟨g2,0,none⟩) IL cap2) rfl gX.out HQ.out ?_;refine uQ 16 (.string HD) rfl gX.out HQ.out ?_
  refine pH 5 18 rfl rfl (fun K hK=>?pA) fun K hK=>?pB
  case' pB=>
   go_simp;refine hK.out _ _ (gX.out.alloc gX.out.size _) (fun _=>?_);clear hK K;obtain⟨x,eb,hx,Oi,wG,HEN,tF,gX⟩:=zM gX.out;rw[<-hx,<-Oi];clear hx Oi tF
   refine rH 5 rfl fun K hK=>?_
  all_goals
   go_simp;refine(ahD.out _ gX.out).mono ?_;rintro e x ⟨pv,rfl,htB,hbl⟩
   obtain⟨aoB,nB,cB,rfl⟩:∃ao n c,pv=.slice ao n c:=by obtain⟨ao,c,e,_⟩:=htB.1;exact⟨ao,_,c,e⟩
   have HTB:=aV htB;have tF:=aV hbl;refine hK.out _ _ (gX.out.trans (hbl.mono gX.out.size)) (fun _=>?_);clear hK K htB hbl;replace gX:=aV (gX.out.trans (tF.out.mono gX.out.size))
   try replace wG:=aV ((tF.out.block _ (bN wG.out)).trans wG.out)
   clear tF
  all_goals first
   | (replace wG:=wG;refine rH 6 rfl fun K hK=>?_)
   |refine pH 6 18 rfl rfl (fun K hK=>?pA6) fun K hK=>?pB6
  case' pB6=>
   go_simp;refine hK.out _ _ (gX.out.alloc gX.out.size _) (fun _=>?_);clear hK K;obtain⟨x,eb,hx,Oi,wG,HEN,tF,gX⟩:=zM gX.out;rw[<-hx,<-Oi];clear hx Oi tF
   refine rH 6 rfl fun K hK=>?_
  all_goals
   go_simp;refine hK.out _ _ (gX.out.alloc gX.out.size _) (fun _=>?_);clear hK K;obtain⟨x,cb,hx,hcb,FQ,_,tF,gX⟩:=Ya (C:=#[.slice aop XL Ue,.slice aoB nB cB]) (t:=32) gX.out;rw[<-hx,<-hcb]
   try replace wG:=aV ((tF.out.block _ (bN wG.out)).trans wG.out)
   clear hx hcb tF
  all_goals first
   | (replace wG:=wG;refine rH 7 rfl fun K hK=>?_)
   |refine pH 7 18 rfl rfl (fun K hK=>?pA7) fun K hK=>?pB7
  case' pB7=>
   go_simp;refine hK.out _ _ (gX.out.alloc gX.out.size _) (fun _=>?_);clear hK K;obtain⟨x,eb,hx,Oi,wG,HEN,tF,gX⟩:=zM gX.out;rw[<-hx,<-Oi];replace FQ:=aV ((tF.out.block _ (bN FQ.out)).trans FQ.out);clear hx Oi tF
   refine rH 7 rfl fun K hK=>?_
  all_goals
   go_simp;refine(VI (by rw[aj _ _ _ _ _ _ FQ.out];rfl) (by rw[aj _ _ _ _ _ _ FQ.out];rfl) (HTP.out.1.iy gX.out) (HTB.out.1.iy gX.out) ahT.out ahb.out).mono ?_;rintro e x ⟨pv,rfl,htO,hlo,hbl⟩
   obtain⟨DR,nO,cO,rfl⟩:∃ao n c,pv=.slice ao n c:=by obtain⟨ao,c,e,_⟩:=htO.1;exact⟨ao,_,c,e⟩
   have JA:Hid (gJ w.heap.size x (.slice DR nO cO) (xo2++fF outs oI)):=⟨htO.1,fun k hk=>aC (aC ahQ.out gX.out.size) (htO.2 k hk)⟩;have tF:=aV hbl;refine hK.out _ _ (gX.out.trans (hbl.mono gX.out.size)) (fun _=>?_);have Rv:=aV (fun (k:Nat) (hk:(Value.slice DR nO cO).ownBlock=some k)=>aO (htO.2 k hk) (hlo k hk))
   try have HON:Hid (∀k,(Value.slice DR nO cO).ownBlock=some k->k≠eb):=fun k hk e=>by have h1:=(Rv.out k hk).1;have h2:=bN wG.out;omega
   clear hK K htO hbl FQ hlo;replace gX:=aV (gX.out.trans (tF.out.mono gX.out.size))
   try replace wG:=aV ((tF.out.block _ (bN wG.out)).trans wG.out)
   clear tF
  all_goals first
   | (replace wG:=wG;refine rH 13 rfl fun K hK=>?_)
   |refine pH 13 18 rfl rfl (fun K hK=>?apP) fun K hK=>?alZ
  case' alZ=>
   go_simp;refine hK.out _ _ (gX.out.alloc gX.out.size _) (fun _=>?_);clear hK K;obtain⟨x,eb,hx,Oi,wG,HEN,tF,gX⟩:=zM gX.out;rw[<-hx,<-Oi]
   have HON:Hid (∀k,(Value.slice DR nO cO).ownBlock=some k->k≠eb):=fun k hk e=>by have h1:=(Rv.out k hk).2;omega
   replace JA:=aV (JA.out.keep tF.out.block);clear hx Oi tF
   refine rH 13 rfl fun K hK=>?_
  all_goals
   go_simp;refine(ahE.out _ gX.out).mono ?_;rintro e x ⟨pv,rfl,htM,hbl⟩
   obtain⟨MQ,nM,cM,rfl⟩:∃ao n c,pv=.slice ao n c:=by obtain⟨ao,c,e,_⟩:=htM.1;exact⟨ao,_,c,e⟩
   have HTM:=aV htM;have tF:=aV hbl;refine hK.out _ _ (gX.out.trans (hbl.mono gX.out.size)) (fun _=>?_);clear hK K htM hbl
   try replace Rv:=aV (fun (k:Nat) (hk:(Value.slice DR nO cO).ownBlock=some k)=>aO (Rv.out k hk).1 (aB (Rv.out k hk).2 tF.out.size))
   replace JA:=aV (JA.out.keep tF.out.block);replace gX:=aV (gX.out.trans (tF.out.mono gX.out.size))
   try replace wG:=aV ((tF.out.block _ (bN wG.out)).trans wG.out)
   clear tF
  all_goals first
   | (replace wG:=wG;refine rH 15 rfl fun K hK=>?_)
   |refine pH 15 18 rfl rfl (fun K hK=>?apQ) fun K hK=>?al0
  case' al0=>
   go_simp;refine hK.out _ _ (gX.out.alloc gX.out.size _) (fun _=>?_);clear hK K;obtain⟨x,eb,hx,Oi,wG,HEN,tF,gX⟩:=zM gX.out;rw[<-hx,<-Oi]
   have HON:Hid (∀k,(Value.slice DR nO cO).ownBlock=some k->k≠eb):=fun k hk e=>by have h1:=(Rv.out k hk).2;omega
   replace JA:=aV (JA.out.keep tF.out.block);clear hx Oi tF
   refine rH 15 rfl fun K hK=>?_
  all_goals
   go_simp;refine(ahF.out _ gX.out).mono ?_;rintro e x ⟨pv,rfl,htR,hbl⟩
   obtain⟨MR,nR,cR,rfl⟩:∃ao n c,pv=.slice ao n c:=by obtain⟨ao,c,e,_⟩:=htR.1;exact⟨ao,_,c,e⟩
   have HTR:=aV htR;have tF:=aV hbl;refine hK.out _ _ (gX.out.trans (hbl.mono gX.out.size)) (fun _=>?_);clear hK K htR hbl
   try replace Rv:=aV (fun (k:Nat) (hk:(Value.slice DR nO cO).ownBlock=some k)=>aO (Rv.out k hk).1 (aB (Rv.out k hk).2 tF.out.size))
   replace JA:=aV (JA.out.keep tF.out.block);replace gX:=aV (gX.out.trans (tF.out.mono gX.out.size))
   try replace wG:=aV ((tF.out.block _ (bN wG.out)).trans wG.out)
   clear tF
  all_goals refine tH 17 (.agg #[.slice DR nO cO,.slice aoq YL ad7,.slice MQ nM cM,.slice MR nR cR,.string HD,.string ⟨#[]⟩]) rfl gX.out (aK ⟨dD,fun w' _=>by go_simp⟩) ?_
  all_goals first
   |replace wG:=wG
   | (refine rH 18 rfl fun K hK=>?_
      go_simp;refine hK.out _ _ (gX.out.alloc gX.out.size _) (fun _=>?_);clear hK K;obtain⟨x,eb,hx,Oi,wG,HEN,tF,gX⟩:=zM gX.out;rw[<-hx,<-Oi]
      have HON:Hid (∀k,(Value.slice DR nO cO).ownBlock=some k->k≠eb):=fun k hk e=>by have h1:=(Rv.out k hk).2;omega
      replace JA:=aV (JA.out.keep tF.out.block)
      clear hx Oi tF)
  all_goals
   refine rH 19 rfl fun K hK=>?_
   have z0:x.cell? ⟨eb,0,none⟩=some (.slice none 0 0):=by rw[aj _ _ _ _ _ _ wG.out];rfl
   have z1:x.cell? ⟨eb,1,none⟩=some (.slice none 0 0):=by rw[aj _ _ _ _ _ _ wG.out];rfl
   have z2:x.cell? ⟨eb,2,none⟩=some (.slice none 0 0):=by rw[aj _ _ _ _ _ _ wG.out];rfl
   have z3:x.cell? ⟨eb,3,none⟩=some (.slice none 0 0):=by rw[aj _ _ _ _ _ _ wG.out];rfl
   have z4:x.cell? ⟨eb,4,none⟩=some (.string ⟨#[]⟩):=by rw[aj _ _ _ _ _ _ wG.out];rfl
   have z5:x.cell? ⟨eb,5,none⟩=some (.string ⟨#[]⟩):=by rw[aj _ _ _ _ _ _ wG.out];rfl
   have f0:x.frozen? ⟨eb,0,none⟩=false:=aD _ _ _ _ _ wG.out;have f1:x.frozen? ⟨eb,1,none⟩=false:=aD _ _ _ _ _ wG.out;have f2:x.frozen? ⟨eb,2,none⟩=false:=aD _ _ _ _ _ wG.out;have f3:x.frozen? ⟨eb,3,none⟩=false:=aD _ _ _ _ _ wG.out;have f4:x.frozen? ⟨eb,4,none⟩=false:=aD _ _ _ _ _ wG.out;have f5:x.frozen? ⟨eb,5,none⟩=false:=aD _ _ _ _ _ wG.out;go_simp;refine hK.out _ _ ((((((gX.out.setCell (p:=⟨eb,0,none⟩) HEN.out _).setCell (p:=⟨eb,1,none⟩) HEN.out _).setCell (p:=⟨eb,2,none⟩) HEN.out _).setCell (p:=⟨eb,3,none⟩) HEN.out _).setCell (p:=⟨eb,4,none⟩) HEN.out _).setCell (p:=⟨eb,5,none⟩) HEN.out _) (fun hfin=>?_);clear hK K;refine eX dD ?_ _;have FR:=aV (ady HXO.out.2 ahm.out aft.out.1 aft.out.2 wG.out HEN.out HON.out JA.out HTQ.out HTM.out HTR.out hfin);clear hfin z0 z1 z2 z3 z4 z5 f0 f1 f2 f3 f4 f5;generalize (((((x.setCell ⟨eb,0,none⟩ (.slice DR nO cO)).setCell ⟨eb,1,none⟩ (.slice aoq YL ad7)).setCell ⟨eb,2,none⟩ (.slice MQ nM cM)).setCell ⟨eb,3,none⟩ (.slice MR nR cR)).setCell ⟨eb,4,none⟩ (.string HD)).setCell ⟨eb,5,none⟩ (.string ⟨#[]⟩)=WF at*
   go_wp2_with fail
   go_meet
   exact FR.out
 case rest=>
  obtain⟨eb,DR,nO,cO,Rw,nI,cI,MQ,nM,cM,MR,nR,cR,rfl,Oi,hrow,tO,tI,tM,tR,hst,hbl⟩:=hcut
  have HOU:Hid ((iL outs++fF outs oI).length<=8000/\(∀y∈iL outs++fF outs oI,y.size<=32)):=by
   have h1:=Ki HOK.out.1;have h2:=yE outs oI;have h3:=HOK.out.2.1;have h4:TO.size<=4000:=JA.out;refine⟨by rw[aI];omega,fun y hy=>?_⟩
   rcases bQ.1 hy with hy|hy
   ·exact uy HOK.out.1 y hy
   exact vI HOK.out.1 _ y hy
  have HIU:Hid ((iL ins).length<=4000/\(fF ins oI).length<=4000/\(fF ins wC).length<=4000/\∀y∈iL ins,y.size<=32):=by
   have h1:=Ki HIK.out.1;have h2:=yE ins oI;have h3:=yE ins wC;have h4:=HIK.out.2.1;exact⟨aJ,aJ,aJ,uy HIK.out.1⟩
  have hmw:p.mm<w.heap.size:=H.out.made.lt;have HCL:=YP hst tO.1 (fun e=>by have:=tO.2 p.mm e;omega) (by have:=HOU.out.1;omega) (fun y hy=>by have:=HOU.out.2 y hy;omega);have CU:=aV (aO tO (aO tI (aO tM tR)));have HST:=aV (aO hst hbl);have HRW:=aV (aO Oi hrow)
  have z0:wc.cell? ⟨eb,0,none⟩=some (.slice DR nO cO):=by rw[aj _ _ _ _ _ _ hrow];rfl
  have Br:Hid (oV S outs ins U=if sO (qE S) (iL outs++fF outs oI)=true then some .twi else none):=by
   show _=_;unfold oV;rw[aA Yn.out,aA acR.out,aA ae7.out,aA ag8.out]
  clear tO tI tM tR hst hbl Oi hrow ahD ahE ahF HTP HTQ ahb ahT aft u1 u2 Yn acR ae7 ag8 HXO ahm ahQ akZ
  go_wp2_with fail
  refine HCL.mono ?_;intro e Jc hend;unfold EG at hend
  by_cases SX:sO (qE S) (iL outs++fF outs oI)=true
  ·have HF:Hid (kZ S no t ls=.error (.twi,no)):=by
    rw[HS.out];exact vB (by rw[Br.out,aH SX])
   rw[aH SX] at hend;obtain⟨⟨b,rfl,s0,s1⟩,mH⟩:=hend;exact⟨rfl,(by rw[HF.out];exact⟨⟨b,rfl,s0,s1⟩,(HST.out.2.mono H.out.bw).trans mH⟩)⟩
  rw[aA SX] at hend;obtain⟨rfl,hu,hg⟩:=hend
  have HF:Hid (kZ S no t ls=match Ef S.top ls [] with
   |.error e=>.error e
   |.ok ol=>.ok ({S with bG:=S.bG++[vv outs ins HD ol.1]},ol.2)):=by
   rw[HS.out,Xh (by rw[Br.out,aA SX]),HHE.out];rfl
  have aiM:=hg.size;have hsz1:=HST.out.2.size
  have hmr:p.mm≠rb:=fun e=>by have h1:=H.out.c1;have h2:=H.out.c4;rw[e] at h2;omega
  have o11:∀k,w.heap.size<=k->k<wc.heap.size->Jc.heap[k]?=wc.heap[k]?:=fun k h1 h2=>hg.block k h2 (fun e=>by have:=ax e;omega)
  have ac8:Hid (gJ w.heap.size Jc (.slice DR nO cO) (iL outs++fF outs oI)/\gJ w.heap.size Jc (.slice Rw nI cI) (iL ins)/\gJ w.heap.size Jc (.slice MQ nM cM) (fF ins oI)/\gJ w.heap.size Jc (.slice MR nR cR) (fF ins wC)):=⟨CU.out.1.same o11,CU.out.2.1.same o11,CU.out.2.2.1.same o11,CU.out.2.2.2.same o11⟩;have afq:Hid (w.heap.size<=eb/\Jc.heap[eb]?=some (.cells #[.slice DR nO cO,.slice Rw nI cI,.slice MQ nM cM,.slice MR nR cR,.string HD,.string ⟨#[]⟩] 63 (0,0))):=⟨HRW.out.1,(o11 eb HRW.out.1 (bN HRW.out.2)).trans HRW.out.2⟩;have aaQ:=aV (HST.out.1.toPStB.wrote hg (aK H.out.c4))
  have HBM:Hid (B<=p.mm):=by
   rcases bX p.mm B with q|q
   ·have h1:=H.out.low p.mm q;have h2:=H.out.c4;omega
   exact q
  have Vl:Hid (Below B w Jc):=(HST.out.2.mono H.out.bw).grown hg HST.out.1.bw (fun k hk=>by have h1:=ax hk;have h2:=HBM.out;omega);have HU1:=aV hu
  have c2:Jc.cell? ⟨rb,2,none⟩=some (.pointer (some ⟨p.sb,0,none⟩)):=by rw[aj _ _ _ _ _ _ aaQ.out.row];rfl
  have HSZ:Hid (w.heap.size<=Jc.heap.size):=by show _<=_;omega
  clear hu hg o11 z0 CU HRW HST SX HCL Br HBM aiM hsz1;generalize hOU:iL outs++fF outs oI=OU at*;have akF:=aV hOU;clear hOU
  go_wp2_with fail
  refine(AA (.pointer (some ⟨p.sb,0,none⟩)) ⟨_,rfl⟩ Jc).mono ?_;rintro e w12 ⟨GN,Xq,rfl,hs2,hm2,ht2,ht3,hb2⟩
  have HMD:Hid (JE p a B w Jc rb ls S (m+1) GN Xq (OU.reverse++qE S) (p.n3+OU.length) w12 p.vl (no:Nat) ls [] 0):={
   st:=aaQ.out.below hb2
   eqn:=rfl
   map:=hm2
   row:=hs2
   same:=fun k _ hk=>hb2.block k hk
   ach:=eu.keep HU1.out (hb2.block _ HU1.out.lt)
   bl:=Vl.out.trans (hb2.mono (aC H.out.bw HSZ.out))
   few:=by show 0+ls.length<=ls.length/\0+ls.length<=ls.length;omega
   bok:=fun x hx=>by cases hx
   tb1:=⟨ht2,ht3,bN hs2⟩
   w01:=HSZ.out}
  have HCT:=aV (HC7.out Xq (aC HSZ.out ht2));have HPS:=aV (bN H.out.const.now.2.1);clear hs2 hm2 ht2 ht3 hb2 c2 aaQ Vl HU1
  go_wp2_with fail
  go_loopw [] (fun wr=>∃(vl:Value) (n:Int) (rest:List dQ) (own:iH) (nn:Nat),JE p a B w Jc rb ls S (m+1) GN Xq (OU.reverse++qE S) (p.n3+OU.length) wr vl n rest own nn) (fun wr=>Ie (wr.cell? ⟨rb,1,none⟩))
  case atStart=>exact⟨_,_,_,_,_,HMD.out⟩
  case round=>
   obtain⟨vl,n,rest,own,nn,hmd⟩:=hrel;have HM:=aV hmd;have CY:=aV (JR hmd.st);clear hmd
   cases hin:(iw rest).isSome with
   |true=>
    rw[hin] at CY
    obtain⟨x,r,rfl⟩:∃x r,rest=x::r:=by
     cases rest with
     |nil=>cases hin
     |cons x r=>exact⟨x,r,rfl⟩
    have HIN:=aV hin;have Bu:=OZ HM.out.st;have hx4:x.2.size<=4000:=HM.out.st.ok.lines x aQ
    have RF:Hid (Ie (wr.cell? ⟨rb,1,none⟩)=r.length+1):=by
     show _=_;obtain⟨ao,cap,hv,_,_⟩:=HM.out.st.const.now.1;rw[aj _ _ _ _ _ _ HM.out.st.row];show Ie (some vl)=_;rw[show vl=_ from hv];rfl
    clear hin
    go_wp2_with fail
    refine CY.out.mono ?_;rintro e w13 ⟨rfl,hw⟩;rw[hw];clear hw
    go_wp2_with fail
    refine Bu.mono ?_;rintro e w14 ⟨rfl,⟨FI,hst⟩,hg⟩;have h1:=HM.out.tb1;have h2:=HSZ.out;have hrb:rb<w.heap.size:=H.out.ql
    have o13:∀k,k<wr.heap.size->k≠rb->w14.heap[k]?=wr.heap[k]?:=fun k hk hn=>hg.block k hk (fun e=>hn (ax e))
    have alL:=hg.size;have aiJ:lY w14 (.pointer (some ⟨GN,0,none⟩)) [own,S.top]:=⟨GN,Xq,nn,.pointer (some ⟨p.sb,0,none⟩),rfl,(by show p.sb+1<=GN;have:=HPS.out;omega),(o13 GN aJ aJ).trans HM.out.row,eu.keep HM.out.map (o13 Xq aJ aJ),p.sb,p.tb,p.n1,.pointer none,rfl,aS _,hst.const.now.2.1,hst.top,rfl⟩
    have HRV:=zS (n:=(x.1:Nat)) (t:=x.2) hst.Ji hst.gl hx4 ((o13 GN aJ aJ).trans HM.out.row) (eu.keep HM.out.map (o13 Xq aJ aJ)) (by have:=HM.out.few;have:=H.out.ok.count;omega) aiJ (fun l hl=>by
     rcases bg.1 hl with rfl|hl
     ·exact HM.out.bok
     obtain rfl:=bD.1 hl
     exact H.out.ok.top)
    have ac7:=aV (aO hst hg);have HEQ:=HM.out.eqn.trans (OM HIN.out);clear hst hg h1 h2 o13 alL aiJ Bu;generalize Zm:GU (gK [own,S.top]) x.2=VR at*
    go_wp2_with fail
    refine HRV.mono ?_;intro e w15 hend
    cases VR with
    |none=>
     obtain⟨⟨b,rfl,s0,s1⟩,mH⟩:=hend;refine⟨rfl,?_⟩;rw[HF.out,HEQ];exact⟨⟨b,rfl,s0,s1⟩,(HM.out.bl.grown ac7.out.2 HM.out.st.bw (fun k hk=>by have h1:=ax hk;have h2:=H.out.vY;omega)).trans (mH.mono ac7.out.1.bw)⟩
    |some xy=>
     obtain⟨rfl,aiB,aiu⟩:=hend;have HMN:=aV (HM.out.bound ac7.out.1 ac7.out.2 aiB aiu Zm HIN.out HCT.out hrb H.out.vY hmw hmr hx4);clear aiB aiu
     go_wp2_with fail
     refine⟨⟨_,_,_,_,_,HMN.out⟩,?_⟩;rw[RF.out];obtain⟨ao,cap,hv,_,_⟩:=HMN.out.st.const.now.1;rw[aj _ _ _ _ _ _ HMN.out.st.row];show Ie (some FI)<_;rw[show FI=_ from hv];exact jc _
   |false=>
    rw[hin] at CY
    have Bc:Hid (kZ S no t ls=.ok ({S with bG:=S.bG++[vv outs ins HD own]},rest)):=by
     rw[HF.out,HM.out.eqn,ZM hin];rfl
    clear hin
    go_wp2_with fail
    refine CY.out.mono ?_;rintro e w13 ⟨rfl,hw⟩;rw[hw];clear hw;have h1:=HM.out.tb1;have h2:=HSZ.out;have h3:eb<Jc.heap.size:=bN afq.out.2;have HRE:=aV ((HM.out.same eb afq.out.1 h3).trans afq.out.2)
    have e0:wr.cell? ⟨eb,0,none⟩=some (.slice DR nO cO):=by rw[aj _ _ _ _ _ _ HRE.out];rfl
    have e1:wr.cell? ⟨eb,1,none⟩=some (.slice Rw nI cI):=by rw[aj _ _ _ _ _ _ HRE.out];rfl
    have e2:wr.cell? ⟨eb,2,none⟩=some (.slice MQ nM cM):=by rw[aj _ _ _ _ _ _ HRE.out];rfl
    have e3:wr.cell? ⟨eb,3,none⟩=some (.slice MR nR cR):=by rw[aj _ _ _ _ _ _ HRE.out];rfl
    have e4:wr.cell? ⟨eb,4,none⟩=some (.string HD):=by rw[aj _ _ _ _ _ _ HRE.out];rfl
    have e5:wr.cell? ⟨eb,5,none⟩=some (.string ⟨#[]⟩):=by rw[aj _ _ _ _ _ _ HRE.out];rfl
    have d5:wr.cell? ⟨rb,5,none⟩=some (.slice YE EL EF):=by rw[aj _ _ _ _ _ _ HM.out.st.row];exact ig some HVD.out
    have HLT:=aV (aO h1.2.2 (aO h1.1 h1.2.1));clear h1 h2 h3
    go_wp2_with fail
    refine jX dD ?_;change wpAny _ _ _ _ _ _ _ (World.drew _);refine uA 0 (.pointer (some ⟨rb,0,none⟩)) rfl<|uA 1 (.pointer (some ⟨rb,0,none⟩)) rfl<|uA 2 (.pointer (some ⟨rb,0,none⟩)) rfl<|uA 3 (.pointer (some ⟨rb,5,none⟩)) rfl<|uA 6 (.pointer (some ⟨GN,0,none⟩)) rfl ?_;have d5a:(wr.alloc (.cells #[.slice DR nO cO,.slice Rw nI cI,.slice MQ nM cM,.slice MR nR cR,.string HD,.string ⟨#[]⟩,.pointer (some ⟨GN,0,none⟩)] 311)).cell? ⟨rb,5,none⟩=some (.slice YE EL EF):=(((ay wr.heap.size wr).alloc (ai _) _).cell (p:=⟨rb,5,none⟩) HM.out.st.ql).trans d5
    refine pA 4 5 rfl rfl (fun K hK=>?KY) fun K hK=>?KZ
    case' KY=>
     go_simp;refine hK _ _ ?_;clear hK K
     refine rA 5 rfl fun K hK=>?_
     go_simp;refine hK _ _ ?_;clear hK K
     refine rA 7 rfl fun K hK=>?_
     go_simp;refine hK _ _ ?_;clear hK K
     refine rA 8 rfl fun K hK=>?_
     go_simp
    case' KZ=>
     go_simp;refine hK _ _ ?_;clear hK K;refine uA 7 (.agg #[.slice DR nO cO,.slice Rw nI cI,.slice MQ nM cM,.slice MR nR cR,.string HD,.string ⟨#[]⟩,.pointer (some ⟨GN,0,none⟩)]) rfl ?_
     refine pA 4 8 rfl rfl (fun K hK=>?QI) fun K hK=>?QJ
     case' QI=>
      go_simp;refine hK _ _ ?_;clear hK K
      refine rA 8 rfl fun K hK=>?_
      go_simp
     case' QJ=>
      go_simp;refine hK _ _ ?_;clear hK K
      refine rA 4 rfl fun K hK=>?_
      go_simp
    all_goals
     refine hK _ _ ?_;clear hK K d5a;obtain⟨W8,Gr⟩:∃W8,W8=(wr.alloc (.cells #[.slice DR nO cO,.slice Rw nI cI,.slice MQ nM cM,.slice MR nR cR,.string HD,.string ⟨#[]⟩,.pointer (some ⟨GN,0,none⟩)] 311)).drew:=⟨_,rfl⟩
     have Bd:Hid (Below wr.heap.size wr W8):=by rw[Gr];exact((ay _ _).alloc (ai _) _).drew
     have HN8:Hid (∀j u,([.slice DR nO cO,.slice Rw nI cI,.slice MQ nM cM,.slice MR nR cR,.string HD,.string ⟨#[]⟩,.pointer (some ⟨GN,0,none⟩)]:List Value)[j]?=some u->W8.cell? ((⟨wr.heap.size,0,none⟩:Addr).add j)=some u):=by rw[Gr];exact iM wr _ _
     rw[<-Gr];clear Gr;have MH:=aV (HM.out.st.below Bd.out)
     have HD8:Hid (W8.ownsRow B 311 7 (.slice YE EL EF) EL (sJ p.ds)):=by
      have h:=MH.out.jR;rw[show({p with vl:=vl}:PV).vd=_ from HVD.out,HEL.out] at h;exact h
     refine rA 9 rfl fun K hK=>?_
     refine step_append_lies _ rfl (.tmp 124) (.tmp 128) 199 rfl B 311 ti (.agg #[.slice none 0 0,.slice none 0 0,.slice none 0 0,.slice none 0 0,.string ⟨#[]⟩,.string ⟨#[]⟩,.pointer none]) 7 136 Tryz.underlying199 HTI.out.1 HTI.out.2.2.2 HTI.out.2.1 HTI.out.2.2.1 rfl bS _ EL (sJ p.ds) rfl HD8.out ⟨wr.heap.size,0,none⟩ 1 1 [.slice DR nO cO,.slice Rw nI cI,.slice MQ nM cM,.slice MR nR cR,.string HD,.string ⟨#[]⟩,.pointer (some ⟨GN,0,none⟩)] rfl rfl HN8.out (by intro u hu;simp only[bg,dH,kz] at hu;rcases hu with rfl|rfl|rfl|rfl|rfl|rfl|rfl<;>rfl) bS (by unfold maxLen;omega) aJ (by have h1:=MH.out.bw;exact h1) _ rfl ?_;intro g6 cap6 Xw hv6 hg6 hat6 hlt6
     have HPF:Hid (iF {p with vl:=vl,vd:=.slice (some ⟨g6,0,none⟩) (EL+1) cap6,c:=fun k=>if (Value.slice (some ⟨g6,0,none⟩) (EL+1) cap6).ownBlock=some k then 5 else if p.c k=7 then 0 else p.c k,n3:=p.n3+OU.length,ds:=p.ds++[⟨.slice DR nO cO,.slice Rw nI cI,.slice MQ nM cM,.slice MR nR cR,HD,GN⟩]} a B (Xw.setCell ⟨rb,5,none⟩ (.slice (some ⟨g6,0,none⟩) (EL+1) cap6)) rb n rest {S with bG:=S.bG++[vv outs ins HD own]} m):=by
      have hou:(vv outs ins HD own).outs=OU:=akF.out
      have hadd:=MH.out.PS (W0:=w.heap.size) (w3:=Xw) (vd':=.slice (some ⟨g6,0,none⟩) (EL+1) cap6) (d:=⟨.slice DR nO cO,.slice Rw nI cI,.slice MQ nM cM,.slice MR nR cR,HD,GN⟩) (e:=vv outs ins HD own) (by rw[hou];exact eu.keep HM.out.ach (Bd.out.block _ HM.out.ach.lt)) HC7.out (fun w'' hk=>by
        have hlt:=HLT.out;have h2:=HSZ.out;have h8:=Bd.out.size
        have h4:∀k,w.heap.size<=k->k<wr.heap.size->w''.heap[k]?=wr.heap[k]?:=fun k h1 h3=>(hk k h1 aJ).trans (Bd.out.block k h3)
        have h5:∀k,w.heap.size<=k->k<Jc.heap.size->w''.heap[k]?=Jc.heap[k]?:=fun k h1 h3=>(h4 k h1 aJ).trans (HM.out.same k h1 h3)
        refine⟨?_,(ac8.out.2.1.same h5).1,(ac8.out.2.2.1.same h5).1,(ac8.out.2.2.2.same h5).1,rfl,Xq,nn,?_,(h4 GN aJ hlt.1).trans HM.out.row,eu.keep HM.out.map (h4 Xq aJ aJ)⟩
        ·rw[hou];exact(ac8.out.1.same h5).1
        ·show p.sb<GN;have:=HPS.out
         omega) (by rw[show({p with vl:=vl}:PV).vd=_ from HVD.out];exact hg6) (by rw[HEL.out];exact hv6) (fun k hk=>by
        have e:g6=k:=ax hk;subst e;rw[show({p with vl:=vl}:PV).vd=_ from HVD.out]
        rcases hat6 with e2|e2
        ·exact aK e2
        right;rw[e2];exact ai _) ⟨HM.out.bok,(by have h1:=HM.out.few;have h2:=H.out.ok.count;show own.length<=5000;omega),(by rw[hou];have h1:=HOU.out.1;omega),HIU.out.1,(by rw[hou];exact HOU.out.2),HIU.out.2.2.2,HIU.out.2.1,HIU.out.2.2.1⟩ (by rw[HEL.out];omega)
      rw[hou] at hadd;exact hadd
     have FP:Hid (Below B w (Xw.setCell ⟨rb,5,none⟩ (.slice (some ⟨g6,0,none⟩) (EL+1) cap6))):=((HM.out.bl.trans (Bd.out.mono HM.out.st.bw)).grown hg6 MH.out.bw (fun k hk=>(bF HD8.out k hk).1)).setCell (p:=⟨rb,5,none⟩) H.out.vY _
     have hrow6:Xw.heap[rb]?=W8.heap[rb]?:=hg6.block rb MH.out.ql (fun e=>by
      have h1:=MH.out.c5 rb (by rw[show({p with vl:=vl}:PV).vd=_ from HVD.out];exact e.symm);have h2:=MH.out.c1
      omega)
     have d6:Xw.cell? ⟨rb,5,none⟩=some (.slice YE EL EF):=by
      rw[aF (w:=W8) (a:=⟨rb,5,none⟩) hrow6,aj _ _ _ _ _ _ MH.out.row];exact ig some HVD.out
     have f6:Xw.frozen? ⟨rb,5,none⟩=false:=aD _ _ _ _ _ (hrow6.trans MH.out.row);clear hv6 hg6 hat6 hlt6 hrow6;refine hK _ _ ?_;clear hK K;refine uA 10 (.pointer (some ⟨rb,0,none⟩)) rfl<|uA 11 (.pointer (some ⟨rb,5,none⟩)) rfl ?_
     refine rA 12 rfl fun K hK=>?_
     go_simp;refine hK _ _ ?_;clear hK K;refine yR dD ?_ _;generalize Xw.setCell ⟨rb,5,none⟩ (.slice (some ⟨g6,0,none⟩) (EL+1) cap6)=w7' at*;clear d6 f6
     go_wp2_with fail
     go_end0
     rw[Bc.out];exact⟨rfl,⟨_,_,HPF.out⟩,FP.out⟩
end
end Go.Proofs.YthhbpebihgjpjaaGreatDoor
