import Derived.Test.YthhbpebihgjpjaaGreatDoorZ34
namespace Go.Proofs.YthhbpebihgjpjaaGreatDoor
set_option maxRecDepth 1000000
set_option maxHeartbeats 20000000
set_option linter.all false
section
open Go.RowKit Go.Maps
variable {S:St}{no:Nat}{ls:List dK}{outs ins:jh}
theorem vv{u:ah}{b:FM}(h:oU S outs ins u=some b):OQ S no ls u (.ok outs) (.ok ins)=.error (b,no):=by
 unfold OQ;simp only[h]
def Vj(p:PV)(a:Nat->Addr)(B:Nat)(w0:aj)(rb no:Nat)(ls:List dK)(S:St)(m:Nat)(outs ins:jh)(hd:ah)(s:Value)(w:aj):Prop:=
 ∃eb CU nO cO PI nI cI JL nM cM JM nR cR,s=.pointer (some ⟨eb,0,none⟩)/\w0.heap.size<=eb/\w.heap[eb]?=some (.cells #[.slice CU nO cO,.slice PI nI cI,.slice JL nM cM,.slice JM nR cR,.string hd,.string ⟨#[]⟩] 63 (0,0))/\gu w0.heap.size w (.slice CU nO cO) (iF outs++fu outs nT)/\gu w0.heap.size w (.slice PI nI cI) (iF ins)/\gu w0.heap.size w (.slice JL nM cM) (fu ins nT)/\gu w0.heap.size w (.slice JM nR cR) (fu ins uO)/\ig p a B w rb (no:Nat) ls S m/\Below w0.heap.size w0 w
variable {w0:aj}
theorem adv{p:PV}{a:Nat->Addr}{B:Nat}{yh W:aj}{rb:Nat}{m:Nat}{hd:ah}{l0 l1:List ah}{eb:Nat}{CU PI JL JM:Option Addr}{nO cO nI cI nM cM nR cR:Nat}(h0:iF outs=l0)(h1:iF ins=l1)(hst:ig p a B yh rb (no:Nat) ls S m)(hbl:Below w0.heap.size w0 yh)(hrow:W.heap[eb]?=some (.cells #[.slice none 0 0,.slice none 0 0,.slice none 0 0,.slice none 0 0,.string ⟨#[]⟩,.string ⟨#[]⟩] 63 (0,0)))(hn:yh.heap.size<=eb)(hon:∀k,(Value.slice CU nO cO).ownBlock=some k->k≠eb)(tO:gu w0.heap.size W (.slice CU nO cO) (l0++fu outs nT))(tI:gu w0.heap.size yh (.slice PI nI cI) l1)(tM:gu w0.heap.size yh (.slice JL nM cM) (fu ins nT))(tR:gu w0.heap.size yh (.slice JM nR cR) (fu ins uO))(hfin:Below yh.heap.size yh ((((((W.setCell ⟨eb,0,none⟩ (.slice CU nO cO)).setCell ⟨eb,1,none⟩ (.slice PI nI cI)).setCell ⟨eb,2,none⟩ (.slice JL nM cM)).setCell ⟨eb,3,none⟩ (.slice JM nR cR)).setCell ⟨eb,4,none⟩ (.string hd)).setCell ⟨eb,5,none⟩ (.string ⟨#[]⟩))):Vj p a B w0 rb no ls S m outs ins hd (.pointer (some ⟨eb,0,none⟩)) ((((((W.setCell ⟨eb,0,none⟩ (.slice CU nO cO)).setCell ⟨eb,1,none⟩ (.slice PI nI cI)).setCell ⟨eb,2,none⟩ (.slice JL nM cM)).setCell ⟨eb,3,none⟩ (.slice JM nR cR)).setCell ⟨eb,4,none⟩ (.string hd)).setCell ⟨eb,5,none⟩ (.string ⟨#[]⟩)):=by
 refine⟨eb,CU,nO,cO,PI,nI,cI,JL,nM,cM,JM,nR,cR,rfl,aA hbl.size hn,?_,?_,?_,tM.keep hfin.block,tR.keep hfin.block,hst.below hfin,hbl.trans (hfin.mono hbl.size)⟩
 ·rw[xY (xY (xY (xY (xY (xY hrow)))))];rfl
 ·rw[h0];refine⟨?_,tO.2⟩;obtain⟨ao,cap,e,hc,q|⟨b,o,rfl,q⟩⟩:=tO.1
  ·exact⟨ao,cap,e,hc,aG q⟩
  refine⟨_,cap,e,hc,aL ⟨b,o,rfl,fun k s hs=>?_⟩⟩;have hq:=q k s hs;have hne:b≠eb:=hon b (by injection e with e1 _ _;rw[e1];rfl);refine(aB (w:=W) (a:=⟨b,o+k,none⟩) ?_).trans hq;show _=W.heap[b]?;rw[iP hne,iP hne,iP hne,iP hne,iP hne,iP hne]
 rw[h1];exact tI.keep hfin.block
variable {x:aj}
theorem XZ{C:Array Value}{t:Nat}(h:Below w0.heap.size w0 x):∃y b,y=x.alloc (.cells C t)/\b=x.heap.size/\Hid (y.heap[b]?=some (.cells C t (0,0)))/\Hid (w0.heap.size<=b)/\Hid (Below x.heap.size x y)/\Hid (Below w0.heap.size w0 y):=
 ⟨_,_,rfl,rfl,aW _ _ _ rfl,h.size,(au _ _).alloc (ai _) _,h.alloc h.size _⟩
theorem zK(h:Below w0.heap.size w0 x):∃y b,y=x.alloc (.cells #[.slice none 0 0,.slice none 0 0,.slice none 0 0,.slice none 0 0,.string ⟨#[]⟩,.string ⟨#[]⟩] 63)/\b=x.heap.size/\Hid (y.heap[b]?=some (.cells #[.slice none 0 0,.slice none 0 0,.slice none 0 0,.slice none 0 0,.string ⟨#[]⟩,.string ⟨#[]⟩] 63 (0,0)))/\Hid (w0.heap.size<=b)/\Hid (Below x.heap.size x y)/\Hid (Below w0.heap.size w0 y):=XZ h
theorem YU:Rw:=by
 intro p0 a B w rb no ls S m t h0 ht;obtain⟨ti,HTI⟩:=iT (P:=Tryz.prog) (e:=311) (n:=7) (b:=136) (z:=(.agg #[.slice none 0 0,.slice none 0 0,.slice none 0 0,.slice none 0 0,.string ⟨#[]⟩,.string ⟨#[]⟩,.pointer none])) (by kernel_rfl);obtain⟨p,hc7,h⟩:=h0.fresh;clear h0;have HC7:=aP hc7;have H:=aP h
 have HFI:Hid (∀wx,Calls Tryz.prog 265 #[.string t,.string ⟨#[58]⟩] wx fun e w'=>e=.returned (.int .i64 ((min (qC oW t) t.size:Nat):Int))/\w'=wx):=fun wx=>Dl oW t ⟨#[58]⟩ Zm (by omega) wx
 have uR:Hid (∀wx,ig p a B wx rb (no:Nat) ls S (m+1)->Below w.heap.size w wx->Calls Tryz.prog 112 #[.pointer (some ⟨rb,0,none⟩),.bool false,.iface 472 (.pointer (some (a 4)))] wx fun e w'=>jB (no:Nat) (iW a 4) e w'/\Below B w w'):=fun wx hp hb=>(pq rb (no:Nat) _ _ wx hp.Jg).mono (fun e w' h=>⟨h.1,(hb.mono H.out.bw).trans (h.2.mono hp.bw)⟩)
 have HNR:Hid (∀wx,ig p a B wx rb (no:Nat) ls S (m+1)->Below w.heap.size w wx->Calls Tryz.prog 112 #[.pointer (some ⟨rb,0,none⟩),.bool false,.iface 472 (.pointer (some (a 5)))] wx fun e w'=>jB (no:Nat) (iW a 5) e w'/\Below B w w'):=fun wx hp hb=>(pq rb (no:Nat) _ _ wx hp.Jg).mono (fun e w' h=>⟨h.1,(hb.mono H.out.bw).trans (h.2.mono hp.bw)⟩)
 have c4:w.cell? ⟨4,0,none⟩=some (.iface 472 (.pointer (some (a 4)))):=h.gl.errs 4 (by decide);clear h hc7
 by_cases hk:t.size<=qC oW t
 ·have HF:Hid (kV S no t ls=.error (.syn,no)):=by show _=_;unfold kV;rw[aD hk]
  rw[aaU hk] at HFI;clear hk
  have k1:¬(t.size:Int)<(t.size:Int):=by omega
  go_enter Tryz.func196,Tryz.ntmps196
  go_wp2_with fail
  refine(HFI.out _).mono ?_;rintro e w1 ⟨rfl,rfl⟩
  go_wp2_with fail
  refine(uR.out _ H.out (au _ _)).mono ?_;rintro e w8 ⟨⟨b,rfl,s0,s1⟩,mr⟩;exact⟨rfl,(by rw[HF.out];exact⟨⟨b,rfl,s0,s1⟩,mr⟩)⟩
 have HS:Hid (kV S no t ls=_):=YJ hk
 have hk2:qC oW t<t.size:=by omega
 rw[lG (by omega)] at HFI;generalize qC oW t=K at*
 have k1:(K:Int)<(t.size:Int):=by omega
 have apC:∀wx,(Instr.slice 9 (.string t) none (some (.int .i64 K)) none).run Tryz.prog wx=.ok (.string (t.extract 0 K)) wx:=fun wx=>qD t K (by omega) wx
 have apD:∀wx,(Instr.slice 9 (.string t) (some (.int .i64 ((K:Int)+1))) none none).run Tryz.prog wx=.ok (.string (t.extract (K+1) t.size)) wx:=fun wx=>by
  have:=nL t (K+1) (by omega) wx;rw[show(((K+1:Nat):Int))=(K:Int)+1 by omega] at this;exact this
 have hTO:(t.extract 0 K).size<=4000:=by rw[aI];omega
 have hTR:(t.extract (K+1) t.size).size<=4000:=by rw[aI];omega
 generalize t.extract 0 K=TO at*;generalize t.extract (K+1) t.size=TR at*
 have XC:Hid (∀wx,Calls Tryz.prog 191 #[.string TR] wx fun e w'=>e=.returned (.string (bD TR))/\w'=wx):=fun wx=>gG TR wx
 have hU:(bD TR).size<=4000:=aA (kD TR) hTR;generalize bD TR=U at*
 have Dx:Hid (∀wx,Calls Tryz.prog 194 #[.string U] wx fun e w'=>e=.returned (.tuple #[.string (fo U),.string (gL U)])/\∃n,w'=wx.drewN n):=fun wx=>qy U (by omega) wx
 have hTL:(gL U).size<=4000:=by rw[yc];omega
 have HHD:Hid ((fo U).size=di U):=lX U;generalize gL U=TL at*;have CZ:=(H.out.below ((au _ w).alloc (ai _) (.cells ([nT].map Value.string).toArray 9))).paths hTO (OY w [nT] 9) (by decide)
 have k0:(K:Int)<=4000:=by omega
 have Jy:=aP hTO;clear hk hTR hTO
 go_enter Tryz.func196,Tryz.ntmps196
 go_wp2_with fail
 refine(HFI.out _).mono ?_;rintro e w1 ⟨rfl,hw⟩;rw[hw];clear hw
 go_wp2_with fail
 refine(gD _ _ _).mono ?_;rintro e w2 ⟨rfl,hw⟩;rw[hw];clear hw
 go_wp2_with fail
 refine CZ.mono ?_;rintro e w1 ⟨hend,hb1⟩;have Vk:Hid (Below w.heap.size w w1):=((au _ w).alloc (ai _) _).trans (hb1.mono (by simp))
 cases ho:nK (gy [S.top]) [nT] TO with
 |error b=>
  rw[ho] at hend
  have HF:Hid (kV S no t ls=.error (b,no)):=by rw[HS.out,ho];rfl
  obtain⟨b',rfl,s0,s1⟩:=hend;exact⟨rfl,(by rw[HF.out];exact⟨⟨b',rfl,s0,s1⟩,Vk.out.mono H.out.bw⟩)⟩
 |ok outs=>
 rw[ho] at hend;obtain⟨v1,rfl,hso⟩:=hend;have HSO:Hid (ru w.heap.size w1 v1 outs):=hso.mono (by simp);have HOK:Hid (oP [nT] outs/\nD outs<=TO.size/\outs.length<=1+TO.size):=xG ho;rw[ho] at HS;have tC:Hid (ig p a B w1 rb (no:Nat) ls S (m+1)):=H.out.below Vk.out;clear ho hso hb1 CZ c4
 go_wp2_with fail
 refine(XC.out _).mono ?_;rintro e w2 ⟨rfl,rfl⟩
 go_wp2_with fail
 refine(Dx.out _).mono ?_;rintro e w3 ⟨rfl,k3,hw3⟩
 have Ep:Hid (ig p a B w3 rb (no:Nat) ls S (m+1)):=by rw[hw3];exact tC.out.below (bX (au _ _) k3)
 have ahH:Hid (ru w.heap.size w3 v1 outs):=HSO.out.keep (fun k _=>by rw[hw3];rfl)
 have Vl:Hid (Below w.heap.size w w3):=by rw[hw3];exact bX Vk.out k3
 have HRI:=(Ep.out.below ((au _ w3).alloc (ai _) (.cells ([nT,uO].map Value.string).toArray 9))).paths hTL (OY w3 [nT,uO] 9) (by decide);clear hw3 HSO tC Vk;generalize hHE:fo U=HD at*;have HHE:=aP hHE;clear hHE
 go_wp2_with fail
 refine HRI.mono ?_;rintro e w4 ⟨hend,hb4⟩;have adA:Below w3.heap.size w3 w4:=((au _ w3).alloc (ai _) _).trans (hb4.mono (by simp));have Yn:Hid (Below w.heap.size w w4):=Vl.out.trans (adA.mono Vl.out.size)
 cases hi:nK (gy [S.top]) [nT,uO] TL with
 |error b=>
  rw[hi] at hend
  have HF:Hid (kV S no t ls=.error (b,no)):=by rw[HS.out,hi];rfl
  obtain⟨b',rfl,s0,s1⟩:=hend;exact⟨rfl,(by rw[HF.out];exact⟨⟨b',rfl,s0,s1⟩,Yn.out.mono H.out.bw⟩)⟩
 |ok ins=>
 rw[hi] at hend;obtain⟨v2,rfl,hsi⟩:=hend;have HIK:Hid (oP [nT,uO] ins/\nD ins<=TL.size/\ins.length<=1+TL.size):=xG hi;rw[hi] at HS;have qY:Hid (yB p a B w rb no ls S (m+1) v1 outs v2 ins w4):=⟨Ep.out.below adA,ahH.out.keep adA.block,hsi.mono (by have:=Vl.out.size;simp;omega),Yn.out⟩;clear hi hsi hb4 adA HRI Ep ahH Vl Yn;obtain⟨xo,hxo,hfo,aiT⟩:=HOK.out.1.iF;obtain⟨g1,Gd,rfl,hcap1,hcell1⟩:=qY.out.so.cell;obtain⟨pv,_,cp,htx⟩:=hcell1 0 xo hxo;rw[ql,bW] at cp;obtain⟨aop,Ub,hpv,hpc,_⟩:=htx.1;subst hpv;have HXO:=aP (aK hxo hfo)
 have sl:(0:Int)<(outs.length:Int):=by have:=(aJ.1 hxo).1;omega
 have c4:w4.cell? ⟨4,0,none⟩=some (.iface 472 (.pointer (some (a 4)))):=qY.out.st.gl.errs 4 (by decide)
 have Yw:Hid (xo.2.length<=4000):=by have:=uY aiT;have:=HOK.out;have:TO.size<=4000:=Jy.out;show _<=_;omega
 have hxl:=Yw.out;clear hcell1 htx hxo hfo aiT hpc hcap1;obtain⟨xo1,xo2⟩:=xo;simp only at cp hxl;generalize hOL:List.length outs=OL at*;have HOL:=aP hOL
 have ol0:¬OL=0:=by omega
 clear hOL
 by_cases h50:xo2=[]
 ·have HF:Hid (kV S no t ls=.error (.syn,no)):=by
   rw[HS.out];exact vv (by unfold oU;rw[aD (aG (HXO.out.2.trans h50))])
  subst h50;simp only[dR] at cp;have afk:=uR.out w4.drew (qY.out.st.below (au _ _).drew) qY.out.bl.drew
  go_wp2_with fail
  refine dB (S:=fun w'=>w'=w4.drew) (by kernel_rfl) ?_;change wpAnyH _ _ _ _ _ _ _ _ (World.drew _);refine u3 0 (.pointer (some ⟨rb,0,none⟩)) rfl rfl ?_<|u3 1 (.slice (some ⟨g1,0,none⟩) OL Gd) rfl rfl ?_<|u3 2 (.pointer (some ⟨g1,0,none⟩)) rfl rfl ?_<|u3 3 (.pointer (some ⟨g1,1,none⟩)) rfl rfl ?_<|u3 4 (.slice aop 0 Ub) rfl rfl ?_<|u3 5 (.int .i64 0) rfl rfl ?_<|u3 6 (.bool false) rfl rfl ?_<|u3 7 (.bool false) rfl rfl ?_ ?_;(iterate 8 ·exact⟨by kernel_rfl,kI,by rintro _ rfl;go_simp⟩);refine sH 8 rfl rfl (by kernel_rfl) kI ?_;refine sH 9 rfl rfl (by kernel_rfl) kI ?_;refine sH 10 rfl rfl (by kernel_rfl) kI ?_;refine u3 11 (.bool false) rfl rfl ?_<|u3 12 (.iface 472 (.pointer (some (a 4)))) rfl rfl ?_ ?_;(iterate 2 ·exact⟨by kernel_rfl,kI,by rintro _ rfl;go_simp⟩)
  refine rH 13 rfl (by kernel_rfl) fun K hK=>?_
  go_simp;refine afk.mono ?_;rintro e w8 ⟨⟨b,rfl,s0,s1⟩,mr⟩;exact⟨rfl,(by rw[HF.out];exact⟨⟨b,rfl,s0,s1⟩,mr⟩)⟩
 have xl0:0<xo2.length:=fZ.2 h50
 have xl:(0:Int)<(xo2.length:Int):=by omega
 by_cases h51:2<OL
 ·have HF:Hid (kV S no t ls=.error (.syn,no)):=by
   rw[HS.out];exact vv (by unfold oU;rw[aD (aL (by rw[HOL.out];exact h51))])
  have o3:¬(OL:Int)<=2:=by omega
  have afk:=uR.out w4.drew (qY.out.st.below (au _ _).drew) qY.out.bl.drew
  go_wp2_with fail
  refine dB (S:=fun w'=>w'=w4.drew) (by kernel_rfl) ?_;change wpAnyH _ _ _ _ _ _ _ _ (World.drew _);refine u3 0 (.pointer (some ⟨rb,0,none⟩)) rfl rfl ?_<|u3 1 (.slice (some ⟨g1,0,none⟩) OL Gd) rfl rfl ?_<|u3 2 (.pointer (some ⟨g1,0,none⟩)) rfl rfl ?_<|u3 3 (.pointer (some ⟨g1,1,none⟩)) rfl rfl ?_<|u3 4 (.slice aop xo2.length Ub) rfl rfl ?_<|u3 5 (.int .i64 (xo2.length:Nat)) rfl rfl ?_<|u3 6 (.bool true) rfl rfl ?_<|u3 7 (.bool true) rfl rfl ?_<|u3 8 (.slice (some ⟨g1,0,none⟩) OL Gd) rfl rfl ?_<|u3 9 (.int .i64 (OL:Nat)) rfl rfl ?_<|u3 10 (.bool false) rfl rfl ?_<|u3 11 (.bool false) rfl rfl ?_<|u3 12 (.iface 472 (.pointer (some (a 4)))) rfl rfl ?_ ?_;(iterate 13 ·exact⟨by kernel_rfl,kI,by rintro _ rfl;go_simp⟩)
  refine rH 13 rfl (by kernel_rfl) fun K hK=>?_
  go_simp;refine afk.mono ?_;rintro e w8 ⟨⟨b,rfl,s0,s1⟩,mr⟩;exact⟨rfl,(by rw[HF.out];exact⟨⟨b,rfl,s0,s1⟩,mr⟩)⟩
 have o3:(OL:Int)<=2:=by omega
 go_wp2_with fail
 go_quiet ((go_at_call 112;exact Xz (gD _ _ _)))
 go_wp2_with fail
 have Aa:Hid (yB p a B w rb no ls S (m+1) (.slice (some ⟨g1,0,none⟩) OL Gd) outs v2 ins (w4.drewN nq)):=qY.out.later (bX (au _ _) nq);generalize w4.drewN nq=w5 at*
 have Ym:Hid (¬(iF outs=[]\/2<List.length outs)):=fun q=>by
  rcases q with q|q
  ·exact h50 (HXO.out.2.symm.trans q)
  rw[HOL.out] at q;exact h51 q
 have c5:w5.cell? ⟨4,0,none⟩=some (.iface 472 (.pointer (some (a 4)))):=Aa.out.st.gl.errs 4 (by decide)
 have ah4:∀q,Calls Tryz.prog 112 #[.pointer (some ⟨rb,0,none⟩),.bool false,.iface 472 (.pointer (some (a 4)))] (w5.drewN q) fun e w'=>jB (no:Nat) (iW a 4) e w'/\Below B w w':=fun q=>uR.out (w5.drewN q) (Aa.out.st.below (bX (au _ _) q)) (bX Aa.out.bl q)
 have afl:=aP ah4;clear qY c4 cp ah4 Yw sl
 by_cases h60:HD.size=0
 ·have HF:Hid (kV S no t ls=.error (.syn,no)):=by
   rw[HS.out];exact vv (by unfold oU;rw[ax Ym.out,aD (aG (HHD.out.symm.trans h60))])
  obtain rfl:HD=⟨#[]⟩:=iD.1 h60;refine dB (S:=fun w'=>w'=w5.drew) (by kernel_rfl) ?_;change wpAnyH _ _ _ _ _ _ _ _ (World.drew _);refine u3 0 (.pointer (some ⟨rb,0,none⟩)) rfl rfl ?_<|u3 1 (.string ⟨#[]⟩) rfl rfl ?_<|u3 2 (.bool false) rfl rfl ?_<|u3 3 (.bool false) rfl rfl ?_ ?_;(iterate 4 ·exact⟨by kernel_rfl,kI,by rintro _ rfl;go_simp⟩);refine sH 4 rfl rfl (by kernel_rfl) kI ?_;refine sH 5 rfl rfl (by kernel_rfl) kI ?_;refine u3 6 (.bool false) rfl rfl ?_<|u3 7 (.iface 472 (.pointer (some (a 4)))) rfl rfl ?_ ?_;(iterate 2 ·exact⟨by kernel_rfl,kI,by rintro _ rfl;go_simp⟩)
  refine rH 8 rfl (by kernel_rfl) fun K hK=>?_
  go_simp;refine(afl.out 1).mono ?_;rintro e w8 ⟨⟨b,rfl,s0,s1⟩,mr⟩;exact⟨rfl,(by rw[HF.out];exact⟨⟨b,rfl,s0,s1⟩,mr⟩)⟩
 have hnn:=qN HD;rw[bH h60] at hnn
 have wU:Hid (∀q,Calls Tryz.prog 267 #[v2] (w5.drewN q) fun e w'=>e=.returned (.bool (qO ins))/\∃q2,w'=(w5.drewN q).drewN q2):=fun q=>Xh w.heap.size ins v2 (w5.drewN q) (Aa.out.si.keep (fun _ _=>rfl)) (by have:=HIK.out;omega) (fun x hx=>by
  have:=HIK.out.1
  rcases aV.1 (show x∈ins.head (HIK.out.1.ne)::ins.tail by rw[List.cons_head_tail];exact hx) with q|q
  ·have h1:=this.first
   have h2:x.1=⟨#[]⟩:=by
    rw[q];rw[List.head?_eq_some_head this.ne] at h1;exact ak h1
   rw[h2];exact aN _
  have h1:=this.marks x q;unfold eT at h1;obtain⟨y,hy,hyx⟩:=aaT.1 h1;have e:=fC hyx;rw[<-e]
  rcases aV.1 hy with rfl|hy
  ·decide
  obtain rfl:=bg.1 hy
  decide)
 cases h61:qO ins with
 |false=>
  have HF:Hid (kV S no t ls=.error (.syn,no)):=by
   rw[HS.out];exact vv (by unfold oU;rw[ax Ym.out,aD (aL h61)])
  rw[h61] at wU;refine dB (S:=fun w'=>∃q,w'=w5.drewN q) (by kernel_rfl) ?_;change wpAnyH _ _ _ _ _ _ _ _ (World.drewN _ 1);refine ng (i:=0) (v:=.pointer (some ⟨rb,0,none⟩)) rfl (by kernel_rfl) (by kernel_rfl) (by kernel_rfl) (fun _ _ _ h=>h) (aG ⟨by kernel_rfl,?_⟩) ⟨_,rfl⟩ ?_
  ·rintro _ ⟨q,rfl⟩;go_simp
  refine ng (i:=1) (v:=.string HD) rfl (by kernel_rfl) (by kernel_rfl) (by kernel_rfl) (fun _ _ _ h=>h) (aG ⟨by kernel_rfl,?_⟩) ⟨_,rfl⟩ ?_
  ·rintro _ ⟨q,rfl⟩;go_simp
  refine ng (i:=2) (v:=.bool true) rfl (by kernel_rfl) (by kernel_rfl) (by kernel_rfl) (fun _ _ _ h=>h) (aG ⟨by kernel_rfl,?_⟩) ⟨_,rfl⟩ ?_
  ·rintro _ ⟨q,rfl⟩;go_simp
  refine ng (i:=3) (v:=.bool true) rfl (by kernel_rfl) (by kernel_rfl) (by kernel_rfl) (fun _ _ _ h=>h) (aG ⟨by kernel_rfl,?_⟩) ⟨_,rfl⟩ ?_
  ·rintro _ ⟨q,rfl⟩;go_simp
  refine ng (i:=4) (v:=v2) rfl (by kernel_rfl) (by kernel_rfl) (by kernel_rfl) (fun _ _ _ h=>h) (aG ⟨by kernel_rfl,?_⟩) ⟨_,rfl⟩ ?_
  ·rintro _ ⟨q,rfl⟩;go_simp
  refine ng (i:=7) (v:=.iface 472 (.pointer (some (a 4)))) rfl (by kernel_rfl) (by kernel_rfl) (by kernel_rfl) (fun _ _ _ h=>h) (aG ⟨by kernel_rfl,?_⟩) ⟨_,rfl⟩ ?_
  ·rintro _ ⟨q,rfl⟩;go_simp
  refine rH 5 rfl (by kernel_rfl) fun K hK=>?_
  go_simp;refine(wU.out 1).mono ?_;rintro e w8 ⟨rfl,q2,rfl⟩;refine hK.out _ _ ⟨1+q2,by rw[World.drewN_drewN]⟩ (fun _=>?_);clear hK K;rw[World.drewN_drewN];refine ng (i:=6) (v:=.bool false) rfl (by kernel_rfl) (by kernel_rfl) (by kernel_rfl) (fun _ _ _ h=>h) (aG ⟨by kernel_rfl,?_⟩) ⟨_,rfl⟩ ?_
  ·rintro _ ⟨q,rfl⟩;go_simp
  refine rH 8 rfl (by kernel_rfl) fun K hK=>?_
  go_simp;refine(afl.out _).mono ?_;rintro e w8 ⟨⟨b,rfl,s0,s1⟩,mr⟩;exact⟨rfl,(by rw[HF.out];exact⟨⟨b,rfl,s0,s1⟩,mr⟩)⟩
 |true=>
 rw[h61] at wU
 go_quiet ((first|(go_at_call 267;exact Calls.quiet_of (wU.out _))|(go_at_call 112;exact Xz (gD _ _ _))))
 go_wp2_with fail
 have HM6:Hid (yB p a B w rb no ls S (m+1) (.slice (some ⟨g1,0,none⟩) OL Gd) outs v2 ins (w5.drewN nq)):=Aa.out.later (bX (au _ _) nq);generalize w5.drewN nq=w6 at*
 have acO:Hid (¬(di U=0\/qO ins=false)):=fun q=>by
  rcases q with q|q
  ·exact h60 (HHD.out.trans q)
  rw[h61] at q;cases q
 have c6:w6.cell? ⟨4,0,none⟩=some (.iface 472 (.pointer (some (a 4)))):=HM6.out.st.gl.errs 4 (by decide);have aht:=uR.out w6.drew (HM6.out.st.below (au _ _).drew) HM6.out.bl.drew;obtain⟨YD,ED,hvd,hcd,hgd⟩:=bq HM6.out.st.jN
 have c65:w6.cell? ⟨rb,5,none⟩=some (.slice YD S.bB.length ED):=by rw[bZ HM6.out.st.row];exact gW some hvd
 have HVD:=aP hvd;clear Aa c5 afl wU hvd hcd hgd;generalize hEL:S.bB.length=EL at*;have HEL:=aP hEL;clear hEL
 by_cases h70:64<=EL
 ·have HF:Hid (kV S no t ls=.error (.syn,no)):=by
   rw[HS.out];exact vv (by unfold oU;rw[ax Ym.out,ax acO.out,aD (by rw[HEL.out];exact h70)])
  have e1:¬EL<64:=by omega
  have e2:(64:Int)<=(EL:Int):=by omega
  refine dB (S:=fun w'=>w'=w6.drew) (by kernel_rfl) ?_;change wpAnyH _ _ _ _ _ _ _ _ (World.drew _);refine u3 0 (.pointer (some ⟨rb,0,none⟩)) rfl rfl ?_<|u3 1 (.pointer (some ⟨rb,0,none⟩)) rfl rfl ?_<|u3 2 (.pointer (some ⟨rb,0,none⟩)) rfl rfl ?_<|u3 3 (.pointer (some ⟨rb,5,none⟩)) rfl rfl ?_<|u3 4 (.slice YD EL ED) rfl rfl ?_<|u3 5 (.int .i64 (EL:Nat)) rfl rfl ?_<|u3 6 (.bool false) rfl rfl ?_<|u3 7 (.iface 472 (.pointer (some (a 4)))) rfl rfl ?_ ?_;(iterate 8 ·exact⟨by kernel_rfl,kI,by rintro _ rfl;go_simp⟩)
  refine rH 8 rfl (by kernel_rfl) fun K hK=>?_
  go_simp;refine aht.mono ?_;rintro e w8 ⟨⟨b,rfl,s0,s1⟩,mr⟩;exact⟨rfl,(by rw[HF.out];exact⟨⟨b,rfl,s0,s1⟩,mr⟩)⟩
 have e1:EL<64:=by omega
 have e2:(EL:Int)<64:=by omega
 go_quiet ((go_at_call 112;exact Xz (gD _ _ _)))
 have HM7:Hid (yB p a B w rb no ls S (m+1) (.slice (some ⟨g1,0,none⟩) OL Gd) outs v2 ins (w6.drewN nq)):=HM6.out.later (bX (au _ _) nq);generalize w6.drewN nq=w7 at*
 have ae3:Hid (¬64<=S.bB.length):=by rw[HEL.out];show¬_;omega
 have HZ:Hid (∀w,(zeroValue 316).run Tryz.prog w=.ok yL w):=fun w=>by kernel_rfl
 have hHD:HD.size<=4000:=by have h1:=HHD.out;have h2:di U<=U.size:=jX _ _;omega
 have hlk:(Instr.lookup 197 (.map (some p.rm)) (.string HD) true).run Tryz.prog w7=.ok (.tuple #[((eB S.rules HD).map wu).getD yL,.bool ((eB S.rules HD).map wu).isSome]) w7:=dU.look_ok HM7.out.st.rules Tryz.underlying197 HZ.out HD (by unfold maxLen;omega)
 have c73:w7.cell? ⟨rb,3,none⟩=some (.map (some p.rm)):=by rw[bZ HM7.out.st.row];rfl
 have c75:w7.cell? ⟨5,0,none⟩=some (.iface 472 (.pointer (some (a 5)))):=HM7.out.st.gl.errs 5 (by decide);clear HM6 c6 aht c65 HZ
 cases hbr:eB S.rules HD with
 |none=>
  have HF:Hid (kV S no t ls=.error (.rul,no)):=by
   rw[HS.out];exact vv (by unfold oU;rw[ax Ym.out,ax acO.out,ax ae3.out,aD (by rw[HHE.out,hbr];rfl)])
  rw[hbr] at hlk;have hlk2:(Instr.lookup 197 (.map (some p.rm)) (.string HD) true).run Tryz.prog w7=.ok (.tuple #[.agg #[.string ⟨#[]⟩],.bool false]) w7:=hlk;have akD:=HNR.out (w7.alloc (.cells #[.string ⟨#[]⟩] 316)) (HM7.out.st.below ((au _ _).alloc (ai _) _)) (HM7.out.bl.alloc HM7.out.bl.size _);have c8:(w7.alloc (.cells #[.string ⟨#[]⟩] 316)).cell? ⟨5,0,none⟩=some (.iface 472 (.pointer (some (a 5)))):=(HM7.out.st.below ((au _ _).alloc (ai _) _)).gl.errs 5 (by decide);clear hlk c75
  go_wp2_with fail
  refine akD.mono ?_;rintro e w8 ⟨⟨b,rfl,s0,s1⟩,mr⟩;exact⟨rfl,(by rw[HF.out];exact⟨⟨b,rfl,s0,s1⟩,mr⟩)⟩
 |some ry=>
 rw[hbr] at hlk;have hlk2:(Instr.lookup 197 (.map (some p.rm)) (.string HD) true).run Tryz.prog w7=.ok (.tuple #[.agg #[.string ry],.bool true]) w7:=hlk
 have ag4:Hid (¬(eB S.rules (fo U)).isSome=false):=by rw[HHE.out,hbr];show¬_;simp
 have IC:Hid (yB p a B w rb no ls S (m+1) (.slice (some ⟨g1,0,none⟩) OL Gd) outs v2 ins (w7.alloc (.cells #[.string ry] 316))):=HM7.out.later ((au _ _).alloc (ai _) _);have c8:(w7.alloc (.cells #[.string ry] 316)).cell? ⟨5,0,none⟩=some (.iface 472 (.pointer (some (a 5)))):=IC.out.st.gl.errs 5 (by decide);clear hlk hbr HM7 c75
 go_wp2_with fail
 refine(gD _ _ _).mono ?_;rintro e yh ⟨rfl,hw⟩;rw[<-hw] at IC;clear hw hlk2 c73 c8;obtain⟨g2,cap2,rfl,hcap2,hcell2⟩:=IC.out.si.cell;obtain⟨xi,hxi,hfi,aiS⟩:=HIK.out.1.iF;obtain⟨pvi,_,u2,hti⟩:=hcell2 0 xi hxi;rw[ql,bW] at u2
 have hcell1:∀(i:Nat) y,outs[i]?=some y->∃pv,yh.cell? ⟨g1,i*2,none⟩=some (.string y.1)/\yh.cell? ⟨g1,i*2+1,none⟩=some pv/\gu w.heap.size yh pv y.2:=by
  obtain⟨g1',am1,hgg,_,hc⟩:=IC.out.so.cell;injection hgg with abn apw apx;injection abn with abn;injection abn with abn _ _;subst abn;exact hc
 obtain⟨pvo,_,u1,hto⟩:=hcell1 0 (xo1,xo2) HXO.out.1;rw[ql,bW] at u1;obtain⟨xi1,xi2⟩:=xi;have afs:=aP hto;have aft:=aP hti;have ahi:=aP hfi;obtain⟨aop,Ub,af6,_,_⟩:=hto.1;obtain⟨aoq,abX,af5,_,_⟩:=hti.1;simp only at af6 af5;rw[af6] at u1 afs;rw[af5] at u2 aft;have ahM:=aP IC.out.bl.size;have akS:TO.size<=4000:=Jy.out
 have aiR:xi2.length<=4000:=by have h1:=uY aiS;have h2:=HIK.out.2.1;simp only at h1;omega
 have akZ:=aP aiR
 have ahz:Hid (∀wx,Below yh.heap.size yh wx->Calls Tryz.prog 268 #[.slice (some ⟨g1,0,none⟩) OL Gd,.string ⟨#[124]⟩] wx fun e w'=>∃pv,e=.returned pv/\gu w.heap.size yh pv (fu outs nT)/\Below wx.heap.size wx w'):=fun wx hb=>wP w.heap.size outs _ nT yh wx IC.out.so hb (by have:=HOL.out;have:=HOK.out;omega)
 have ahA:Hid (∀wx,Below yh.heap.size yh wx->Calls Tryz.prog 268 #[.slice (some ⟨g2,0,none⟩) ins.length cap2,.string ⟨#[124]⟩] wx fun e w'=>∃pv,e=.returned pv/\gu w.heap.size yh pv (fu ins nT)/\Below wx.heap.size wx w'):=fun wx hb=>wP w.heap.size ins _ nT yh wx IC.out.si hb (by have:=HIK.out;omega)
 have ahB:Hid (∀wx,Below yh.heap.size yh wx->Calls Tryz.prog 268 #[.slice (some ⟨g2,0,none⟩) ins.length cap2,.string ⟨#[124,124]⟩] wx fun e w'=>∃pv,e=.returned pv/\gu w.heap.size yh pv (fu ins uO)/\Below wx.heap.size wx w'):=fun wx hb=>wP w.heap.size ins _ uO yh wx IC.out.si hb (by have:=HIK.out;omega)
 have ag7:Hid ((fu outs nT).length<=10000):=by have:=yC outs nT;have:=HOK.out;show _<=_;omega
 have il0:¬List.length ins=0:=by have:=(aJ.1 hxi).1;omega
 have afp:=aP (aK IC.out.st IC.out.bl);clear hcell1 hcell2 hto hti af6 af5 hfi hxi aiS hcap2 IC akS aiR;generalize hIL:List.length ins=IL at*;generalize hXL:xo2.length=XL at*;generalize hYL:xi2.length=YL at*;have HIL:=aP hIL;have aoE:=aP hXL;have aoF:=aP hYL
 have ahP:Hid (xo2.length<=10000):=by show _<=_;omega
 clear hIL hXL hYL;have HTP:=aP afs;have HTQ:=aP aft;clear afs aft
 have ol1:(0:Int)<(OL:Int):=by omega
 have il1:(0:Int)<(IL:Int):=by omega
 go_wp2_with fail
 go_cut [11] from 86 (fun s11 wx=>Vj p a B w rb no ls S (m+1) outs ins HD s11 wx)
 case first=>
  refine dB (S:=fun w'=>Below yh.heap.size yh w') (by kernel_rfl) ?_;change wpAnyH _ _ _ _ _ _ _ _ (World.drew _);obtain⟨x,hwd⟩:∃x,x=yh.drew:=⟨_,rfl⟩;rw[<-hwd]
  have gP:Hid (Below yh.heap.size yh x):=by rw[hwd];exact(au _ _).drew
  clear hwd
  have HQ:Hid (∀w',Below yh.heap.size yh w'->w'.cell? ⟨g1,1,none⟩=some (.slice aop XL Ub)/\w'.cell? ⟨g2,1,none⟩=some (.slice aoq YL abX)):=fun w' h=>⟨(h.cell (p:=⟨g1,1,none⟩) (aC u1)).trans u1,(h.cell (p:=⟨g2,1,none⟩) (aC u2)).trans u2⟩
  refine uQ 0 (.slice (some ⟨g1,0,none⟩) OL Gd) rfl gP.out HQ.out ?_<|uQ 1 (.pointer (some ⟨g1,0,none⟩)) rfl gP.out HQ.out ?_<|uQ 2 (.pointer (some ⟨g1,1,none⟩)) rfl gP.out HQ.out ?_<|uQ 3 (.slice aop XL Ub) rfl gP.out HQ.out ?_<|uQ 4 (.slice (some ⟨g1,0,none⟩) OL Gd) rfl gP.out HQ.out ?_<|uQ 8 (.slice (some ⟨g2,0,none⟩) IL cap2) rfl gP.out HQ.out ?_<|uQ 9 (.pointer (some ⟨g2,0,none⟩)) rfl gP.out HQ.out ?_<|uQ 10 (.pointer (some ⟨g2,1,none⟩)) rfl gP.out HQ.out ?_<|uQ 11 (.slice aoq YL abX) rfl gP.out HQ.out ?_<|uQ 12 (.slice (some ⟨g2,0,none⟩) IL cap2) rfl gP.out HQ.out ?_<|uQ 14 (.slice (some ⟨g2,0,none⟩) IL cap2) rfl gP.out HQ.out ?_<|uQ 16 (.string HD) rfl gP.out HQ.out ?_ ?_;(iterate 12 ·exact⟨by kernel_rfl,kI,by rintro w' ⟨q1,q2⟩;go_simp⟩)
  refine pH 5 18 rfl rfl (by kernel_rfl) (fun K hK=>?pA) fun K hK=>?pB
  case' pB=>
   go_simp;refine hK.out _ _ (gP.out.alloc gP.out.size _) (fun _=>?_);clear hK K;obtain⟨x,eb,hx,Og,wC,HEN,tq,gP⟩:=zK gP.out;rw[<-hx,<-Og];clear hx Og tq
   refine rH 5 rfl (by kernel_rfl) fun K hK=>?_
  all_goals
   go_simp;refine(ahz.out _ gP.out).mono ?_;rintro e x ⟨pv,rfl,htB,hbl⟩
   obtain⟨aoB,nB,cB,rfl⟩:∃ao n c,pv=.slice ao n c:=by obtain⟨ao,c,e,_⟩:=htB.1;exact⟨ao,_,c,e⟩
   have HTB:=aP htB;have tq:=aP hbl;refine hK.out _ _ (gP.out.trans (hbl.mono gP.out.size)) (fun _=>?_);clear hK K htB hbl;replace gP:=aP (gP.out.trans (tq.out.mono gP.out.size))
   try replace wC:=aP ((tq.out.block _ (bI wC.out)).trans wC.out)
   clear tq
  all_goals first
   | (replace wC:=wC;refine rH 6 rfl (by kernel_rfl) fun K hK=>?_)
   |refine pH 6 18 rfl rfl (by kernel_rfl) (fun K hK=>?pA6) fun K hK=>?pB6
  case' pB6=>
   go_simp;refine hK.out _ _ (gP.out.alloc gP.out.size _) (fun _=>?_);clear hK K;obtain⟨x,eb,hx,Og,wC,HEN,tq,gP⟩:=zK gP.out;rw[<-hx,<-Og];clear hx Og tq
   refine rH 6 rfl (by kernel_rfl) fun K hK=>?_
  all_goals
   go_simp;refine hK.out _ _ (gP.out.alloc gP.out.size _) (fun _=>?_);clear hK K;obtain⟨x,cb,hx,hcb,FO,_,tq,gP⟩:=XZ (C:=#[.slice aop XL Ub,.slice aoB nB cB]) (t:=32) gP.out;rw[<-hx,<-hcb]
   try replace wC:=aP ((tq.out.block _ (bI wC.out)).trans wC.out)
   clear hx hcb tq
  all_goals first
   | (replace wC:=wC;refine rH 7 rfl (by kernel_rfl) fun K hK=>?_)
   |refine pH 7 18 rfl rfl (by kernel_rfl) (fun K hK=>?pA7) fun K hK=>?pB7
  case' pB7=>
   go_simp;refine hK.out _ _ (gP.out.alloc gP.out.size _) (fun _=>?_);clear hK K;obtain⟨x,eb,hx,Og,wC,HEN,tq,gP⟩:=zK gP.out;rw[<-hx,<-Og];replace FO:=aP ((tq.out.block _ (bI FO.out)).trans FO.out);clear hx Og tq
   refine rH 7 rfl (by kernel_rfl) fun K hK=>?_
  all_goals
   go_simp;refine(VH (by rw[bZ FO.out];rfl) (by rw[bZ FO.out];rfl) (HTP.out.1.gY gP.out) (HTB.out.1.gY gP.out) ahP.out ag7.out).mono ?_;rintro e x ⟨pv,rfl,htO,hlo,hbl⟩
   obtain⟨CU,nO,cO,rfl⟩:∃ao n c,pv=.slice ao n c:=by obtain⟨ao,c,e,_⟩:=htO.1;exact⟨ao,_,c,e⟩
   have Jy:Hid (gu w.heap.size x (.slice CU nO cO) (xo2++fu outs nT)):=⟨htO.1,fun k hk=>aA (aA ahM.out gP.out.size) (htO.2 k hk)⟩;have tq:=aP hbl;refine hK.out _ _ (gP.out.trans (hbl.mono gP.out.size)) (fun _=>?_);have Rt:=aP (fun (k:Nat) (hk:(Value.slice CU nO cO).ownBlock=some k)=>aK (htO.2 k hk) (hlo k hk))
   try have HON:Hid (∀k,(Value.slice CU nO cO).ownBlock=some k->k≠eb):=fun k hk e=>by have h1:=(Rt.out k hk).1;have h2:=bI wC.out;omega
   clear hK K htO hbl FO hlo;replace gP:=aP (gP.out.trans (tq.out.mono gP.out.size))
   try replace wC:=aP ((tq.out.block _ (bI wC.out)).trans wC.out)
   clear tq
  all_goals first
   | (replace wC:=wC;refine rH 13 rfl (by kernel_rfl) fun K hK=>?_)
   |refine pH 13 18 rfl rfl (by kernel_rfl) (fun K hK=>?apP) fun K hK=>?alZ
  case' alZ=>
   go_simp;refine hK.out _ _ (gP.out.alloc gP.out.size _) (fun _=>?_);clear hK K;obtain⟨x,eb,hx,Og,wC,HEN,tq,gP⟩:=zK gP.out;rw[<-hx,<-Og]
   have HON:Hid (∀k,(Value.slice CU nO cO).ownBlock=some k->k≠eb):=fun k hk e=>by have h1:=(Rt.out k hk).2;omega
   replace Jy:=aP (Jy.out.keep tq.out.block);clear hx Og tq
   refine rH 13 rfl (by kernel_rfl) fun K hK=>?_
  all_goals
   go_simp;refine(ahA.out _ gP.out).mono ?_;rintro e x ⟨pv,rfl,htM,hbl⟩
   obtain⟨JL,nM,cM,rfl⟩:∃ao n c,pv=.slice ao n c:=by obtain⟨ao,c,e,_⟩:=htM.1;exact⟨ao,_,c,e⟩
   have HTM:=aP htM;have tq:=aP hbl;refine hK.out _ _ (gP.out.trans (hbl.mono gP.out.size)) (fun _=>?_);clear hK K htM hbl
   try replace Rt:=aP (fun (k:Nat) (hk:(Value.slice CU nO cO).ownBlock=some k)=>aK (Rt.out k hk).1 (ay (Rt.out k hk).2 tq.out.size))
   replace Jy:=aP (Jy.out.keep tq.out.block);replace gP:=aP (gP.out.trans (tq.out.mono gP.out.size))
   try replace wC:=aP ((tq.out.block _ (bI wC.out)).trans wC.out)
   clear tq
  all_goals first
   | (replace wC:=wC;refine rH 15 rfl (by kernel_rfl) fun K hK=>?_)
   |refine pH 15 18 rfl rfl (by kernel_rfl) (fun K hK=>?apQ) fun K hK=>?al0
  case' al0=>
   go_simp;refine hK.out _ _ (gP.out.alloc gP.out.size _) (fun _=>?_);clear hK K;obtain⟨x,eb,hx,Og,wC,HEN,tq,gP⟩:=zK gP.out;rw[<-hx,<-Og]
   have HON:Hid (∀k,(Value.slice CU nO cO).ownBlock=some k->k≠eb):=fun k hk e=>by have h1:=(Rt.out k hk).2;omega
   replace Jy:=aP (Jy.out.keep tq.out.block);clear hx Og tq
   refine rH 15 rfl (by kernel_rfl) fun K hK=>?_
  all_goals
   go_simp;refine(ahB.out _ gP.out).mono ?_;rintro e x ⟨pv,rfl,htR,hbl⟩
   obtain⟨JM,nR,cR,rfl⟩:∃ao n c,pv=.slice ao n c:=by obtain⟨ao,c,e,_⟩:=htR.1;exact⟨ao,_,c,e⟩
   have HTR:=aP htR;have tq:=aP hbl;refine hK.out _ _ (gP.out.trans (hbl.mono gP.out.size)) (fun _=>?_);clear hK K htR hbl
   try replace Rt:=aP (fun (k:Nat) (hk:(Value.slice CU nO cO).ownBlock=some k)=>aK (Rt.out k hk).1 (ay (Rt.out k hk).2 tq.out.size))
   replace Jy:=aP (Jy.out.keep tq.out.block);replace gP:=aP (gP.out.trans (tq.out.mono gP.out.size))
   try replace wC:=aP ((tq.out.block _ (bI wC.out)).trans wC.out)
   clear tq
  all_goals refine tH 17 (.agg #[.slice CU nO cO,.slice aoq YL abX,.slice JL nM cM,.slice JM nR cR,.string HD,.string ⟨#[]⟩]) rfl (by kernel_rfl) gP.out (aG ⟨by kernel_rfl,fun w' _=>by go_simp⟩) kI ?_
  all_goals first
   |replace wC:=wC
   | (refine rH 18 rfl (by kernel_rfl) fun K hK=>?_
      go_simp;refine hK.out _ _ (gP.out.alloc gP.out.size _) (fun _=>?_);clear hK K;obtain⟨x,eb,hx,Og,wC,HEN,tq,gP⟩:=zK gP.out;rw[<-hx,<-Og]
      have HON:Hid (∀k,(Value.slice CU nO cO).ownBlock=some k->k≠eb):=fun k hk e=>by have h1:=(Rt.out k hk).2;omega
      replace Jy:=aP (Jy.out.keep tq.out.block)
      clear hx Og tq)
  all_goals
   refine rH 19 rfl (by kernel_rfl) fun K hK=>?_
   have z0:x.cell? ⟨eb,0,none⟩=some (.slice none 0 0):=by rw[bZ wC.out];rfl
   have z1:x.cell? ⟨eb,1,none⟩=some (.slice none 0 0):=by rw[bZ wC.out];rfl
   have z2:x.cell? ⟨eb,2,none⟩=some (.slice none 0 0):=by rw[bZ wC.out];rfl
   have z3:x.cell? ⟨eb,3,none⟩=some (.slice none 0 0):=by rw[bZ wC.out];rfl
   have z4:x.cell? ⟨eb,4,none⟩=some (.string ⟨#[]⟩):=by rw[bZ wC.out];rfl
   have z5:x.cell? ⟨eb,5,none⟩=some (.string ⟨#[]⟩):=by rw[bZ wC.out];rfl
   have f0:x.frozen? ⟨eb,0,none⟩=false:=iG wC.out;have f1:x.frozen? ⟨eb,1,none⟩=false:=iG wC.out;have f2:x.frozen? ⟨eb,2,none⟩=false:=iG wC.out;have f3:x.frozen? ⟨eb,3,none⟩=false:=iG wC.out;have f4:x.frozen? ⟨eb,4,none⟩=false:=iG wC.out;have f5:x.frozen? ⟨eb,5,none⟩=false:=iG wC.out;go_simp;refine hK.out _ _ ((((((gP.out.setCell (p:=⟨eb,0,none⟩) HEN.out _).setCell (p:=⟨eb,1,none⟩) HEN.out _).setCell (p:=⟨eb,2,none⟩) HEN.out _).setCell (p:=⟨eb,3,none⟩) HEN.out _).setCell (p:=⟨eb,4,none⟩) HEN.out _).setCell (p:=⟨eb,5,none⟩) HEN.out _) (fun hfin=>?_);clear hK K;refine eF (by kernel_rfl) ?_ _;have FP:Hid (Vj p a B w rb no ls S (m+1) outs ins HD (.pointer (some ⟨eb,0,none⟩)) ((((((x.setCell ⟨eb,0,none⟩ (.slice CU nO cO)).setCell ⟨eb,1,none⟩ (.slice aoq YL abX)).setCell ⟨eb,2,none⟩ (.slice JL nM cM)).setCell ⟨eb,3,none⟩ (.slice JM nR cR)).setCell ⟨eb,4,none⟩ (.string HD)).setCell ⟨eb,5,none⟩ (.string ⟨#[]⟩))):=adv HXO.out.2 ahi.out afp.out.1 afp.out.2 wC.out HEN.out HON.out Jy.out HTQ.out HTM.out HTR.out hfin;clear hfin z0 z1 z2 z3 z4 z5 f0 f1 f2 f3 f4 f5;generalize (((((x.setCell ⟨eb,0,none⟩ (.slice CU nO cO)).setCell ⟨eb,1,none⟩ (.slice aoq YL abX)).setCell ⟨eb,2,none⟩ (.slice JL nM cM)).setCell ⟨eb,3,none⟩ (.slice JM nR cR)).setCell ⟨eb,4,none⟩ (.string HD)).setCell ⟨eb,5,none⟩ (.string ⟨#[]⟩)=WF at*
   go_wp2_with fail
   go_meet
   exact FP.out
 case rest=>
  obtain⟨eb,CU,nO,cO,PI,nI,cI,JL,nM,cM,JM,nR,cR,rfl,Og,hrow,tO,tI,tM,tR,hst,hbl⟩:=hcut
  have HOU:Hid ((iF outs++fu outs nT).length<=8000/\(∀y∈iF outs++fu outs nT,y.size<=32)):=by
   have h1:=Ki HOK.out.1;have h2:=yC outs nT;have h3:=HOK.out.2.1;have h4:TO.size<=4000:=Jy.out;refine⟨by rw[aF];omega,fun y hy=>?_⟩
   rcases bK.1 hy with hy|hy
   ·exact uo HOK.out.1 y hy
   exact vG HOK.out.1 _ y hy
  have HIU:Hid ((iF ins).length<=4000/\(fu ins nT).length<=4000/\(fu ins uO).length<=4000/\∀y∈iF ins,y.size<=32):=by
   have h1:=Ki HIK.out.1;have h2:=yC ins nT;have h3:=yC ins uO;have h4:=HIK.out.2.1;exact⟨by omega,by omega,by omega,uo HIK.out.1⟩
  have hmw:p.mm<w.heap.size:=H.out.made.lt;have HCL:=YO hst tO.1 (fun e=>by have:=tO.2 p.mm e;omega) (by have:=HOU.out.1;omega) (fun y hy=>by have:=HOU.out.2 y hy;omega);have CQ:=aP (aK tO (aK tI (aK tM tR)));have HST:=aP (aK hst hbl);have HRW:=aP (aK Og hrow)
  have z0:wc.cell? ⟨eb,0,none⟩=some (.slice CU nO cO):=by rw[bZ hrow];rfl
  have Bp:Hid (oU S outs ins U=if sK (qg S) (iF outs++fu outs nT)=true then some .twi else none):=by
   show _=_;unfold oU;rw[ax Ym.out,ax acO.out,ax ae3.out,ax ag4.out]
  clear tO tI tM tR hst hbl Og hrow ahz ahA ahB HTP HTQ ag7 ahP afp u1 u2 Ym acO ae3 ag4 HXO ahi ahM akZ
  go_wp2_with fail
  refine HCL.mono ?_;intro e GR hend;unfold EF at hend
  by_cases SQ:sK (qg S) (iF outs++fu outs nT)=true
  ·have HF:Hid (kV S no t ls=.error (.twi,no)):=by
    rw[HS.out];exact vv (by rw[Bp.out,aD SQ])
   rw[aD SQ] at hend;obtain⟨⟨b,rfl,s0,s1⟩,mr⟩:=hend;exact⟨rfl,(by rw[HF.out];exact⟨⟨b,rfl,s0,s1⟩,(HST.out.2.mono H.out.bw).trans mr⟩)⟩
  rw[ax SQ] at hend;obtain⟨rfl,hu,hg⟩:=hend
  have HF:Hid (kV S no t ls=match Ed S.top ls [] with
   |.error e=>.error e
   |.ok ol=>.ok ({S with bB:=S.bB++[uZ outs ins HD ol.1]},ol.2)):=by
   rw[HS.out,Xg (by rw[Bp.out,ax SQ]),HHE.out];rfl
  have aiJ:=hg.size;have hsz1:=HST.out.2.size
  have hmr:p.mm≠rb:=fun e=>by have h1:=H.out.c1;have h2:=H.out.c4;rw[e] at h2;omega
  have o11:∀k,w.heap.size<=k->k<wc.heap.size->GR.heap[k]?=wc.heap[k]?:=fun k h1 h2=>hg.block k h2 (fun e=>by have:=ak e;omega)
  have ac5:Hid (gu w.heap.size GR (.slice CU nO cO) (iF outs++fu outs nT)/\gu w.heap.size GR (.slice PI nI cI) (iF ins)/\gu w.heap.size GR (.slice JL nM cM) (fu ins nT)/\gu w.heap.size GR (.slice JM nR cR) (fu ins uO)):=⟨CQ.out.1.same o11,CQ.out.2.1.same o11,CQ.out.2.2.1.same o11,CQ.out.2.2.2.same o11⟩;have afm:Hid (w.heap.size<=eb/\GR.heap[eb]?=some (.cells #[.slice CU nO cO,.slice PI nI cI,.slice JL nM cM,.slice JM nR cR,.string HD,.string ⟨#[]⟩] 63 (0,0))):=⟨HRW.out.1,(o11 eb HRW.out.1 (bI HRW.out.2)).trans HRW.out.2⟩;have aaO:Hid (PStB p a B GR rb (no:Nat) ls S (m+1)):=HST.out.1.toPStB.wrote hg (aG H.out.c4)
  have HBM:Hid (B<=p.mm):=by
   rcases bR p.mm B with q|q
   ·have h1:=H.out.low p.mm q;have h2:=H.out.c4;omega
   exact q
  have Vk:Hid (Below B w GR):=(HST.out.2.mono H.out.bw).grown hg HST.out.1.bw (fun k hk=>by have h1:=ak hk;have h2:=HBM.out;omega);have HU1:=aP hu
  have c2:GR.cell? ⟨rb,2,none⟩=some (.pointer (some ⟨p.sb,0,none⟩)):=by rw[bZ aaO.out.row];rfl
  have HSZ:Hid (w.heap.size<=GR.heap.size):=by show _<=_;omega
  clear hu hg o11 z0 CQ HRW HST SQ HCL Bp HBM aiJ hsz1;generalize hOU:iF outs++fu outs nT=OU at*;have akF:=aP hOU;clear hOU
  go_wp2_with fail
  refine(Ay (.pointer (some ⟨p.sb,0,none⟩)) ⟨_,rfl⟩ GR).mono ?_;rintro e w12 ⟨FJ,UF,rfl,hs2,hm2,ht2,ht3,hb2⟩
  have HMD:Hid (FW p a B w GR rb ls S (m+1) FJ UF (OU.reverse++qg S) (p.n3+OU.length) w12 p.vl (no:Nat) ls [] 0):={
   st:=aaO.out.below hb2
   eqn:=rfl
   map:=hm2
   row:=hs2
   same:=fun k _ hk=>hb2.block k hk
   acg:=dU.keep HU1.out (hb2.block _ HU1.out.lt)
   bl:=Vk.out.trans (hb2.mono (aA H.out.bw HSZ.out))
   few:=by show 0+ls.length<=ls.length/\0+ls.length<=ls.length;omega
   bok:=fun x hx=>by cases hx
   tb1:=⟨ht2,ht3,bI hs2⟩
   w01:=HSZ.out}
  have HCT:Hid (p.c UF=7):=HC7.out UF (aA HSZ.out ht2);have HPS:Hid (p.sb<w.heap.size):=bI H.out.const.now.2.1;clear hs2 hm2 ht2 ht3 hb2 c2 aaO Vk HU1
  go_wp2_with fail
  go_loopw [] (fun wr=>∃(vl:Value) (n:Int) (rest:List dK) (own:iB) (nn:Nat),FW p a B w GR rb ls S (m+1) FJ UF (OU.reverse++qg S) (p.n3+OU.length) wr vl n rest own nn) (fun wr=>Ic (wr.cell? ⟨rb,1,none⟩))
  case atStart=>exact⟨_,_,_,_,_,HMD.out⟩
  case round=>
   obtain⟨vl,n,rest,own,nn,hmd⟩:=hrel;have HM:=aP hmd;have CX:Hid (Calls Tryz.prog 263 #[.pointer (some ⟨rb,0,none⟩)] wr fun e w'=>e=.returned (.bool (gT rest).isSome)/\w'=wr):=JR hmd.st;clear hmd
   cases hin:(gT rest).isSome with
   |true=>
    rw[hin] at CX
    obtain⟨x,r,rfl⟩:∃x r,rest=x::r:=by
     cases rest with
     |nil=>cases hin
     |cons x r=>exact⟨x,r,rfl⟩
    have HIN:=aP hin;have Br:=OX HM.out.st;have hx4:x.2.size<=4000:=HM.out.st.ok.lines x aM
    have Rz:Hid (Ic (wr.cell? ⟨rb,1,none⟩)=r.length+1):=by
     show _=_;obtain⟨ao,cap,hv,_,_⟩:=HM.out.st.const.now.1;rw[bZ HM.out.st.row];show Ic (some vl)=_;rw[show vl=_ from hv];rfl
    clear hin
    go_wp2_with fail
    refine CX.out.mono ?_;rintro e w13 ⟨rfl,hw⟩;rw[hw];clear hw
    go_wp2_with fail
    refine Br.mono ?_;rintro e w14 ⟨rfl,⟨Er,hst⟩,hg⟩;have h1:=HM.out.tb1;have h2:=HSZ.out;have hrb:rb<w.heap.size:=H.out.qi
    have o13:∀k,k<wr.heap.size->k≠rb->w14.heap[k]?=wr.heap[k]?:=fun k hk hn=>hg.block k hk (fun e=>hn (ak e))
    have alL:=hg.size;have aiG:lU w14 (.pointer (some ⟨FJ,0,none⟩)) [own,S.top]:=⟨FJ,UF,nn,.pointer (some ⟨p.sb,0,none⟩),rfl,(by show p.sb+1<=FJ;have:=HPS.out;omega),(o13 FJ (by omega) (by omega)).trans HM.out.row,dU.keep HM.out.map (o13 UF (by omega) (by omega)),p.sb,p.tb,p.n1,.pointer none,rfl,aN _,hst.const.now.2.1,hst.top,rfl⟩
    have HRV:=zQ (n:=(x.1:Nat)) (t:=x.2) hst.Jg hst.gl hx4 ((o13 FJ (by omega) (by omega)).trans HM.out.row) (dU.keep HM.out.map (o13 UF (by omega) (by omega))) (by have:=HM.out.few;have:=H.out.ok.count;omega) aiG (fun l hl=>by
     rcases aV.1 hl with rfl|hl
     ·exact HM.out.bok
     obtain rfl:=bg.1 hl
     exact H.out.ok.top)
    have ac4:=aP (aK hst hg);have HEQ:=HM.out.eqn.trans (OI HIN.out);clear hst hg h1 h2 o13 alL aiG Br;generalize Zl:GQ (gy [own,S.top]) x.2=VR at*
    go_wp2_with fail
    refine HRV.mono ?_;intro e w15 hend
    cases VR with
    |none=>
     obtain⟨⟨b,rfl,s0,s1⟩,mr⟩:=hend;refine⟨rfl,?_⟩;rw[HF.out,HEQ];exact⟨⟨b,rfl,s0,s1⟩,(HM.out.bl.grown ac4.out.2 HM.out.st.bw (fun k hk=>by have h1:=ak hk;have h2:=H.out.vV;omega)).trans (mr.mono ac4.out.1.bw)⟩
    |some xy=>
     obtain⟨rfl,aiy,air⟩:=hend;have HMN:Hid (FW p a B w GR rb ls S (m+1) FJ UF (OU.reverse++qg S) (p.n3+OU.length) w15 Er (x.1:Nat) r (oH own xy.1 xy.2) (nn+1)):=HM.out.bound ac4.out.1 ac4.out.2 aiy air Zl HIN.out HCT.out hrb H.out.vV hmw hmr hx4;clear aiy air
     go_wp2_with fail
     refine⟨⟨_,_,_,_,_,HMN.out⟩,?_⟩;rw[Rz.out];obtain⟨ao,cap,hv,_,_⟩:=HMN.out.st.const.now.1;rw[bZ HMN.out.st.row];show Ic (some Er)<_;rw[show Er=_ from hv];exact iX _
   |false=>
    rw[hin] at CX
    have Ba:Hid (kV S no t ls=.ok ({S with bB:=S.bB++[uZ outs ins HD own]},rest)):=by
     rw[HF.out,HM.out.eqn,ZL hin];rfl
    clear hin
    go_wp2_with fail
    refine CX.out.mono ?_;rintro e w13 ⟨rfl,hw⟩;rw[hw];clear hw;have h1:=HM.out.tb1;have h2:=HSZ.out;have h3:eb<GR.heap.size:=bI afm.out.2;have HRE:Hid (wr.heap[eb]?=some (.cells #[.slice CU nO cO,.slice PI nI cI,.slice JL nM cM,.slice JM nR cR,.string HD,.string ⟨#[]⟩] 63 (0,0))):=(HM.out.same eb afm.out.1 h3).trans afm.out.2
    have e0:wr.cell? ⟨eb,0,none⟩=some (.slice CU nO cO):=by rw[bZ HRE.out];rfl
    have e1:wr.cell? ⟨eb,1,none⟩=some (.slice PI nI cI):=by rw[bZ HRE.out];rfl
    have e2:wr.cell? ⟨eb,2,none⟩=some (.slice JL nM cM):=by rw[bZ HRE.out];rfl
    have e3:wr.cell? ⟨eb,3,none⟩=some (.slice JM nR cR):=by rw[bZ HRE.out];rfl
    have e4:wr.cell? ⟨eb,4,none⟩=some (.string HD):=by rw[bZ HRE.out];rfl
    have e5:wr.cell? ⟨eb,5,none⟩=some (.string ⟨#[]⟩):=by rw[bZ HRE.out];rfl
    have d5:wr.cell? ⟨rb,5,none⟩=some (.slice YD EL ED):=by rw[bZ HM.out.st.row];exact gW some HVD.out
    have HLT:=aP (aK h1.2.2 (aK h1.1 h1.2.1));clear h1 h2 h3
    go_wp2_with fail
    refine jT (by kernel_rfl) ?_;change wpAny _ _ _ _ _ _ _ (World.drew _);refine uA 0 (.pointer (some ⟨rb,0,none⟩)) rfl ?_<|uA 1 (.pointer (some ⟨rb,0,none⟩)) rfl ?_<|uA 2 (.pointer (some ⟨rb,0,none⟩)) rfl ?_<|uA 3 (.pointer (some ⟨rb,5,none⟩)) rfl ?_<|uA 6 (.pointer (some ⟨FJ,0,none⟩)) rfl ?_ ?_;(iterate 5 ·exact⟨by kernel_rfl,kI,by intro w;go_simp⟩);have d5a:(wr.alloc (.cells #[.slice CU nO cO,.slice PI nI cI,.slice JL nM cM,.slice JM nR cR,.string HD,.string ⟨#[]⟩,.pointer (some ⟨FJ,0,none⟩)] 311)).cell? ⟨rb,5,none⟩=some (.slice YD EL ED):=(((au wr.heap.size wr).alloc (ai _) _).cell (p:=⟨rb,5,none⟩) HM.out.st.qi).trans d5
    refine pA 4 5 rfl rfl (by kernel_rfl) (fun K hK=>?KY) fun K hK=>?KZ
    case' KY=>
     go_simp;refine hK _ _ ?_;clear hK K
     refine rA 5 rfl (by kernel_rfl) fun K hK=>?_
     go_simp;refine hK _ _ ?_;clear hK K
     refine rA 7 rfl (by kernel_rfl) fun K hK=>?_
     go_simp;refine hK _ _ ?_;clear hK K
     refine rA 8 rfl (by kernel_rfl) fun K hK=>?_
     go_simp
    case' KZ=>
     go_simp;refine hK _ _ ?_;clear hK K;refine uA 7 (.agg #[.slice CU nO cO,.slice PI nI cI,.slice JL nM cM,.slice JM nR cR,.string HD,.string ⟨#[]⟩,.pointer (some ⟨FJ,0,none⟩)]) rfl ⟨by kernel_rfl,kI,by intro w;go_simp⟩ ?_
     refine pA 4 8 rfl rfl (by kernel_rfl) (fun K hK=>?QG) fun K hK=>?QH
     case' QG=>
      go_simp;refine hK _ _ ?_;clear hK K
      refine rA 8 rfl (by kernel_rfl) fun K hK=>?_
      go_simp
     case' QH=>
      go_simp;refine hK _ _ ?_;clear hK K
      refine rA 4 rfl (by kernel_rfl) fun K hK=>?_
      go_simp
    all_goals
     refine hK _ _ ?_;clear hK K d5a;obtain⟨W8,Gq⟩:∃W8,W8=(wr.alloc (.cells #[.slice CU nO cO,.slice PI nI cI,.slice JL nM cM,.slice JM nR cR,.string HD,.string ⟨#[]⟩,.pointer (some ⟨FJ,0,none⟩)] 311)).drew:=⟨_,rfl⟩
     have Bb:Hid (Below wr.heap.size wr W8):=by rw[Gq];exact((au _ _).alloc (ai _) _).drew
     have HN8:Hid (∀j u,([.slice CU nO cO,.slice PI nI cI,.slice JL nM cM,.slice JM nR cR,.string HD,.string ⟨#[]⟩,.pointer (some ⟨FJ,0,none⟩)]:List Value)[j]?=some u->W8.cell? ((⟨wr.heap.size,0,none⟩:Addr).add j)=some u):=by rw[Gq];exact iH wr _ _
     rw[<-Gq];clear Gq;have MI:Hid (PStB {p with vl:=vl} a B W8 rb n rest S (m+1)):=HM.out.st.below Bb.out
     have HD8:Hid (W8.ownsRow B 311 7 (.slice YD EL ED) EL (sF p.ds)):=by
      have h:=MI.out.jN;rw[show({p with vl:=vl}:PV).vd=_ from HVD.out,HEL.out] at h;exact h
     refine rA 9 rfl (by kernel_rfl) fun K hK=>?_
     refine step_append_lies _ rfl (.tmp 124) (.tmp 128) 199 rfl B 311 ti (.agg #[.slice none 0 0,.slice none 0 0,.slice none 0 0,.slice none 0 0,.string ⟨#[]⟩,.string ⟨#[]⟩,.pointer none]) 7 136 Tryz.underlying199 HTI.out.1 HTI.out.2.2.2 HTI.out.2.1 HTI.out.2.2.1 rfl (by decide) _ EL (sF p.ds) rfl HD8.out ⟨wr.heap.size,0,none⟩ 1 1 [.slice CU nO cO,.slice PI nI cI,.slice JL nM cM,.slice JM nR cR,.string HD,.string ⟨#[]⟩,.pointer (some ⟨FJ,0,none⟩)] rfl rfl HN8.out (by intro u hu;simp only[aV,dz,ko] at hu;rcases hu with rfl|rfl|rfl|rfl|rfl|rfl|rfl<;>rfl) (by decide) (by unfold maxLen;omega) (by omega) (by have h1:=MI.out.bw;exact h1) _ rfl ?_;intro g6 cap6 Xv hv6 hg6 hat6 hlt6
     have HPF:Hid (ig {p with vl:=vl,vd:=.slice (some ⟨g6,0,none⟩) (EL+1) cap6,c:=fun k=>if (Value.slice (some ⟨g6,0,none⟩) (EL+1) cap6).ownBlock=some k then 5 else if p.c k=7 then 0 else p.c k,n3:=p.n3+OU.length,ds:=p.ds++[⟨.slice CU nO cO,.slice PI nI cI,.slice JL nM cM,.slice JM nR cR,HD,FJ⟩]} a B (Xv.setCell ⟨rb,5,none⟩ (.slice (some ⟨g6,0,none⟩) (EL+1) cap6)) rb n rest {S with bB:=S.bB++[uZ outs ins HD own]} m):=by
      have hou:(uZ outs ins HD own).outs=OU:=akF.out
      have hadd:=MI.out.PG (W0:=w.heap.size) (w3:=Xv) (vd':=.slice (some ⟨g6,0,none⟩) (EL+1) cap6) (d:=⟨.slice CU nO cO,.slice PI nI cI,.slice JL nM cM,.slice JM nR cR,HD,FJ⟩) (e:=uZ outs ins HD own) (by rw[hou];exact dU.keep HM.out.acg (Bb.out.block _ HM.out.acg.lt)) HC7.out (fun w'' hk=>by
        have hlt:=HLT.out;have h2:=HSZ.out;have h8:=Bb.out.size
        have h4:∀k,w.heap.size<=k->k<wr.heap.size->w''.heap[k]?=wr.heap[k]?:=fun k h1 h3=>(hk k h1 (by omega)).trans (Bb.out.block k h3)
        have h5:∀k,w.heap.size<=k->k<GR.heap.size->w''.heap[k]?=GR.heap[k]?:=fun k h1 h3=>(h4 k h1 (by omega)).trans (HM.out.same k h1 h3)
        refine⟨?_,(ac5.out.2.1.same h5).1,(ac5.out.2.2.1.same h5).1,(ac5.out.2.2.2.same h5).1,rfl,UF,nn,?_,(h4 FJ (by omega) hlt.1).trans HM.out.row,dU.keep HM.out.map (h4 UF (by omega) (by omega))⟩
        ·rw[hou];exact(ac5.out.1.same h5).1
        ·show p.sb<FJ;have:=HPS.out
         omega) (by rw[show({p with vl:=vl}:PV).vd=_ from HVD.out];exact hg6) (by rw[HEL.out];exact hv6) (fun k hk=>by
        have e:g6=k:=ak hk;subst e;rw[show({p with vl:=vl}:PV).vd=_ from HVD.out]
        rcases hat6 with e2|e2
        ·exact aG e2
        right;rw[e2];exact ai _) ⟨HM.out.bok,(by have h1:=HM.out.few;have h2:=H.out.ok.count;show own.length<=5000;omega),(by rw[hou];have h1:=HOU.out.1;omega),HIU.out.1,(by rw[hou];exact HOU.out.2),HIU.out.2.2.2,HIU.out.2.1,HIU.out.2.2.1⟩ (by rw[HEL.out];omega)
      rw[hou] at hadd;exact hadd
     have FN:Hid (Below B w (Xv.setCell ⟨rb,5,none⟩ (.slice (some ⟨g6,0,none⟩) (EL+1) cap6))):=((HM.out.bl.trans (Bb.out.mono HM.out.st.bw)).grown hg6 MI.out.bw (fun k hk=>(bA HD8.out k hk).1)).setCell (p:=⟨rb,5,none⟩) H.out.vV _
     have hrow6:Xv.heap[rb]?=W8.heap[rb]?:=hg6.block rb MI.out.qi (fun e=>by
      have h1:=MI.out.c5 rb (by rw[show({p with vl:=vl}:PV).vd=_ from HVD.out];exact e.symm);have h2:=MI.out.c1
      omega)
     have d6:Xv.cell? ⟨rb,5,none⟩=some (.slice YD EL ED):=by
      rw[aB (w:=W8) (a:=⟨rb,5,none⟩) hrow6,bZ MI.out.row];exact gW some HVD.out
     have f6:Xv.frozen? ⟨rb,5,none⟩=false:=iG (hrow6.trans MI.out.row);clear hv6 hg6 hat6 hlt6 hrow6;refine hK _ _ ?_;clear hK K;refine uA 10 (.pointer (some ⟨rb,0,none⟩)) rfl ?_<|uA 11 (.pointer (some ⟨rb,5,none⟩)) rfl ?_ ?_;(iterate 2 ·exact⟨by kernel_rfl,kI,by intro w;go_simp⟩)
     refine rA 12 rfl (by kernel_rfl) fun K hK=>?_
     go_simp;refine hK _ _ ?_;clear hK K;refine yP (by kernel_rfl) ?_ _;generalize Xv.setCell ⟨rb,5,none⟩ (.slice (some ⟨g6,0,none⟩) (EL+1) cap6)=w7' at*;clear d6 f6
     go_wp2_with fail
     go_end0
     rw[Ba.out];exact⟨rfl,⟨_,_,HPF.out⟩,FN.out⟩
