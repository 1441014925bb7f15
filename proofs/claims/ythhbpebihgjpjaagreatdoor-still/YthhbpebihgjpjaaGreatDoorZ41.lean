import Derived.Test.YthhbpebihgjpjaaGreatDoorZ32
namespace Go.Proofs.YthhbpebihgjpjaaGreatDoor
set_option maxRecDepth 1000000
set_option maxHeartbeats 20000000
set_option linter.all false
section
open Go.RowKit Go.Maps
theorem ZW(S:St)(no:Nat)(t:ah)(rest:List dQ):wz S no t rest=
  if dB (bI t)=0\/(bI (gV (bI t))).size≠0 then .error (.syn,no)
  else if (eT S.rules (fE (bI t))).isSome=true then .error (.rul,no)
  else match iw rest with
   |none=>.error (.syn,no)
   |some xr=>match EH xr.1.2 with
     |none=>.error (.syn,xr.1.1)
     |some v=>match iw xr.2 with
       |some y=>.error (.syn,y.1.1)
       |none=>.ok ({S with rules:=S.rules++[(fE (bI t),v)]},xr.2):=by
 unfold wz
 split
 ·rfl
 split
 ·rfl
 cases iw rest with
 |none=>rfl
 |some xr=>
  simp only
  cases hb:pR xr.1.2 with
  |none=>simp only[EH,hb]
  |some nv=>
   simp only[EH,hb]
   by_cases hq:nv.1≠yh\/iE Gy nv.2=none
   ·rw[aH hq,aH hq]
   rw[aA hq,aA hq];rfl
variable {ls:List dQ}
theorem zu{xr:dQ×List dQ}(h:iw ls=some xr):ls=xr.1::xr.2/\gq xr.1.2 32=true:=by
 cases ls with
 |nil=>cases h
 |cons y l=>
  rw[iw] at h
  by_cases hb:gq y.2 32=true
  ·rw[aH hb] at h;obtain rfl:=ax h;exact⟨rfl,hb⟩
  rw[aA hb] at h;cases h
variable {p:PV}{a:Nat->Addr}{B rb no m:Nat}{w:ak}{S:St}{t:ah}
theorem Nq(h:iF p a B w rb (no:Nat) ls S (m+1))(ht:t.size<=4000)(x:dQ)(rest:List dQ)(v:ah)(hN:(fE (bI t)).size≠0)(hU:bI (gV (bI t))=⟨#[]⟩)(hk:eT S.rules (fE (bI t))=none)(hi:iw ls=some (x,rest))(hc:EH x.2=some v)(r:Res)(hres:r=match iw rest with
   |some y=>.error (.syn,y.1.1)
   |none=>.ok ({S with rules:=S.rules++[(fE (bI t),v)]},rest)):
  Calls Tryz.prog 195 #[.pointer (some ⟨rb,0,none⟩),.string t] w (iQ a B rb m w r):=by
 have ahI:Hid (r=match iw rest with
   |some y=>.error (.syn,y.1.1)
   |none=>.ok ({S with rules:=S.rules++[(fE (bI t),v)]},rest)):=hres
 clear hres;have H:=aV h;have HLS:=aV ((zu hi).1);have hls:=kG t
 have HVS:Hid (v.size<=4000):=by
  have h1:=h.ok.lines x (by rw[HLS.out];exact aQ);unfold EH at hc
  cases hb:pR x.2 with
  |none=>rw[hb] at hc;cases hc
  |some nv=>
   rw[hb] at hc;simp only at hc
   split at hc
   ·cases hc
   obtain rfl:=ax hc;exact aC (xU hb).2.1 h1
 have HW1:Hid (∀wx,Calls Tryz.prog 191 #[.string t] wx fun e w'=>e=.returned (.string (bI t))/\w'=wx):=fun wx=>gM t wx
 generalize bI t=T at*
 have Dy:Hid (∀wx,Calls Tryz.prog 194 #[.string T] wx fun e w'=>e=.returned (.tuple #[.string (fE T),.string (gV T)])/\∃n,w'=wx.drewN n):=fun wx=>qB T aJ wx
 have SS:=mh T;have hwl:dB T<=T.size:=kg _ _
 have hds:(fE T).size<=4000:=aJ
 clear SS hwl;generalize gV T=TL at*
 have HW2:Hid (∀wx,Calls Tryz.prog 191 #[.string TL] wx fun e w'=>e=.returned (.string ⟨#[]⟩)/\w'=wx):=fun wx=>by rw[<-hU];exact gM TL wx
 have hnn:=qR (fE T);rw[bM hN] at hnn;generalize fE T=HD at*
 have HZ:Hid (∀w,(zeroValue 316).run Tryz.prog w=.ok yN w):=fun w=>dD
 have Vo:Hid (∀wx,iF p a B wx rb (no:Nat) ls S (m+1)->(Instr.lookup 197 (.map (some p.rm)) (.string HD) true).run Tryz.prog wx=.ok (.tuple #[((eT S.rules HD).map wD).getD yN,.bool ((eT S.rules HD).map wD).isSome]) wx):=fun wx hx=>eu.look_ok hx.rules (t:=197) Tryz.underlying197 HZ.out HD (by unfold maxLen;omega)
 rw[hk] at Vo;have HK:=aV hk;clear hk hU h
 go_enter Tryz.func195,Tryz.ntmps195
 go_wp2_with fail
 refine(HW1.out _).mono ?_;rintro e w1 ⟨rfl,rfl⟩
 go_wp2_with fail
 refine(Dy.out _).mono ?_;rintro e w2 ⟨rfl,k2,hw2⟩
 have qw:Hid (iF p a B w2.drew rb (no:Nat) ls S (m+1)):=by rw[hw2];exact H.out.below (di (ay _ w1) k2).drew
 have HB2:Hid (Below B w1 w2.drew):=by rw[hw2];exact(di (ay _ w1) k2).drew
 have e4:w2.cell? ⟨4,0,none⟩=some (.iface 472 (.pointer (some (a 4)))):=qw.out.gl.errs 4 bS;clear hw2
 go_wp2_with fail
 go_region_with (first|(go_at_call 191;refine(HW2.out _).mono ?_;rintro e w8 ⟨rfl,rfl⟩)|(go_at_call 112;refine(gL _ _ _).mono ?_;rintro e w8 ⟨rfl,rfl⟩))
 all_goals
  obtain⟨w3,hw3⟩:∃w3,w3=w2.drew:=⟨_,rfl⟩;rw[<-hw3];rw[<-hw3] at qw HB2;have hlk:(Instr.lookup 197 (.map (some p.rm)) (.string HD) true).run Tryz.prog w3=.ok (.tuple #[.agg #[.string (⟨#[]⟩)],.bool false]) w3:=Vo.out w3 qw.out
  have d3:w3.cell? ⟨rb,3,none⟩=some (.map (some p.rm)):=by rw[aj _ _ _ _ _ _ qw.out.row];rfl
  have f5:w3.cell? ⟨5,0,none⟩=some (.iface 472 (.pointer (some (a 5)))):=qw.out.gl.errs 5 bS;have f4:w3.cell? ⟨4,0,none⟩=some (.iface 472 (.pointer (some (a 4)))):=qw.out.gl.errs 4 bS
  have l5:5<w3.heap.size:=by have:=qw.out.gl.size;omega
  have l4:4<w3.heap.size:=aJ
  have agb:=qw.out.ql;have Jf:Hid (iF p a B (w3.alloc (.cells #[.string (⟨#[]⟩)] 316)).drew rb (no:Nat) ls S (m+1)):=(qw.out.below ((ay _ _).alloc (ai _) _)).below (ay _ _).drew;have CY:Hid (Below B w1 (w3.alloc (.cells #[.string (⟨#[]⟩)] 316)).drew):=(HB2.out.alloc qw.out.bw _).drew;clear hw3 e4
  go_wp2_with fail
  refine(gL _ _ _).mono ?_;rintro e w7 ⟨rfl,rfl⟩;have Br:=ul Jf.out;rw[hi] at Br;have Br:=aV Br
  go_wp2_with fail
  go_region_with (first|(go_at_call 263;refine Br.out.mono ?_;rintro e w8 ⟨rfl,rfl⟩)|(go_at_call 112;refine(gL _ _ _).mono ?_;rintro e w8 ⟨rfl,rfl⟩))
  all_goals
   obtain⟨w4,hw4⟩:∃w4,w4=(w3.alloc (.cells #[.string ⟨#[]⟩] 316)).drew:=⟨_,rfl⟩;rw[<-hw4];rw[<-hw4] at Jf CY;have HPB:Hid (iF p a B w4.drew rb (no:Nat) ls S (m+1)):=Jf.out.below (ay _ _).drew;have Rn:=aV CY.out.drew
   have d3':w4.cell? ⟨rb,3,none⟩=some (.map (some p.rm)):=by rw[aj _ _ _ _ _ _ Jf.out.row];rfl
   have HPC:iF p a B w4.drew rb (no:Nat) (x::rest) S (m+1):=by rw[<-HLS.out];exact HPB.out
   have Bt:=Bg HPC;rw[hc] at Bt;clear hw4 hlk d3 f5 f4 Br
   go_wp2_with fail
   go_region_with (go_at_call 264;refine Bt.mono ?_;rintro e w8 ⟨rfl,⟨vl8,hp8⟩,hg8⟩;obtain⟨w9,Oj,EU,Ct⟩:=eu.store hp8.rules (t:=197) Tryz.underlying197 (by have:=hp8.few;show p.n2<maxLen;have h2:p.n2+(m+1)<=5000:=this.2.1;unfold maxLen;omega) HD (by unfold maxLen;omega) (wD v) (UK v);have Oj:(Instr.mapUpdate 197 (.map (some p.rm)) (.string HD) (.agg #[.string v])).run Tryz.prog w8=.ok () w9:=Oj;have d8:w8.cell? ⟨rb,3,none⟩=some (.map (some p.rm)):=(by rw[aj _ _ _ _ _ _ hp8.row];rfl))
   all_goals
    have HP9:=aV (hp8.adp Ct (wH.set EU) HK.out HVS.out);have RD:Hid (Below B w1 w9):=(Rn.out.trans (jP hg8 HPC.vY HPC.bw)).trans (jP Ct (by rcases bX p.rm B with q|q;(have h1:=H.out.low p.rm q;have h2:=H.out.c3;omega);exact q) hp8.bw);clear Oj EU Ct hp8 hg8 Bt d8;have HBN:=ul HP9.out
    cases hr:iw rest with
    |none=>
     rw[hr] at HBN
     go_wp2_with fail
     refine HBN.mono ?_;rintro e yu ⟨rfl,rfl⟩
     go_wp2_with fail
     go_end0
     have HRR:=ahI.out;rw[hr] at HRR;rw[HRR];exact⟨rfl,⟨_,_,HP9.out⟩,RD.out⟩
    |some y=>
     rw[hr] at HBN;have HRR:=ahI.out;rw[hr] at HRR;have HRR:=aV HRR;obtain⟨y,r2⟩:=y;obtain rfl:=(zu hr).1;have Bu:=Me HP9.out
     go_wp2_with fail
     refine HBN.mono ?_;rintro e yu ⟨rfl,rfl⟩
     go_wp2_with fail
     refine Bu.mono ?_;rintro e Jc ⟨rfl,⟨apX,adN⟩,ait⟩;have g4:Jc.cell? ⟨4,0,none⟩=some (.iface 472 (.pointer (some (a 4)))):=adN.gl.errs 4 bS;have Vn:=SB rb (y.1:Nat) 472 (.pointer (some (a 4))) Jc adN.Ji;have Yl:=aV (RD.out.trans (jP ait HP9.out.vY HP9.out.bw));have ain:=adN.bw;clear adN ait
     go_wp2_with fail
     refine Vn.mono ?_;rintro e w12 ⟨⟨b,rfl,s0,s1⟩,alp⟩;exact⟨rfl,⟨b,rfl,s0,s1⟩,Yl.out.trans (alp.mono ain)⟩
theorem QX(h:iF p a B w rb (no:Nat) ls S (m+1))(ht:t.size<=4000):
  Calls Tryz.prog 195 #[.pointer (some ⟨rb,0,none⟩),.string t] w (iQ a B rb m w (wz S no t ls)):=by
 have HR:=aV (ZW S no t ls);have H:=aV h
 have ahr:Hid (∀(x:dQ) (rest:List dQ) (v:ah),(fE (bI t)).size≠0->bI (gV (bI t))=⟨#[]⟩->eT S.rules (fE (bI t))=none->iw ls=some (x,rest)->EH x.2=some v->∀r:Res,(r=match iw rest with
   |some y=>.error (.syn,y.1.1)
   |none=>.ok ({S with rules:=S.rules++[(fE (bI t),v)]},rest))->Calls Tryz.prog 195 #[.pointer (some ⟨rb,0,none⟩),.string t] w (iQ a B rb m w r)):=fun x rest v h1 h2 h3 h4 h5 r h6=>Nq h ht x rest v h1 h2 h3 h4 h5 r h6
 have hls:=kG t
 have HW1:Hid (∀wx,Calls Tryz.prog 191 #[.string t] wx fun e w'=>e=.returned (.string (bI t))/\w'=wx):=fun wx=>gM t wx
 generalize bI t=T at*
 have Dy:Hid (∀wx,Calls Tryz.prog 194 #[.string T] wx fun e w'=>e=.returned (.tuple #[.string (fE T),.string (gV T)])/\∃n,w'=wx.drewN n):=fun wx=>qB T aJ wx
 have SS:=mh T;have hwl:dB T<=T.size:=kg _ _;generalize gV T=TL at*
 have HW2:Hid (∀wx,Calls Tryz.prog 191 #[.string TL] wx fun e w'=>e=.returned (.string (bI TL))/\w'=wx):=fun wx=>gM TL wx
 generalize bI TL=U at*;have hnu:=qR U;have c4:w.cell? ⟨4,0,none⟩=some (.iface 472 (.pointer (some (a 4)))):=h.gl.errs 4 bS;have c5:w.cell? ⟨5,0,none⟩=some (.iface 472 (.pointer (some (a 5)))):=h.gl.errs 5 bS;have hnn:=qR (fE T);rw[SS] at hnn;generalize fE T=HD at*;rw[<-SS] at HR hnn
 have hds:HD.size<=4000:=aJ
 clear hwl;generalize dB T=N at*;subst SS
 have uT:Hid (∀wx k,Below B w wx->wx.cell? ⟨rb,0,none⟩=some (.int .i64 (no:Nat))->Calls Tryz.prog 112 #[.pointer (some ⟨rb,0,none⟩),.bool false,.iface 472 (.pointer (some (a k)))] wx fun e w'=>jF (no:Nat) (ja a k) e w'/\Below B w w'):=fun wx k hb h0=>(pz rb (no:Nat) _ _ wx h0).mono (fun e w' h=>⟨h.1,hb.trans (h.2.mono (aC H.out.bw hb.size))⟩)
 have x0:=h.Ji;clear h
 by_cases hN:HD.size=0
 ·have HF:Hid (wz S no t ls=.error (.syn,no)):=by rw[HR.out,aH (aK hN)];rfl
  obtain rfl:HD=⟨#[]⟩:=iJ.1 hN;clear hnn hN HR hnu
  go_enter Tryz.func195,Tryz.ntmps195
  go_wp2_with fail
  refine(HW1.out _).mono ?_;rintro e w1 ⟨rfl,rfl⟩
  go_wp2_with fail
  refine(Dy.out _).mono ?_;rintro e w2 ⟨rfl,k2,hw2⟩
  have qw:Hid (iF p a B w2.drew rb (no:Nat) ls S (m+1)):=by rw[hw2];exact H.out.below (di (ay _ w1) k2).drew
  have HB2:Hid (Below B w1 w2.drew):=by rw[hw2];exact(di (ay _ w1) k2).drew
  have e4:w2.cell? ⟨4,0,none⟩=some (.iface 472 (.pointer (some (a 4)))):=qw.out.gl.errs 4 bS;clear hw2 c4 c5 x0
  go_wp2_with fail
  refine jX dD ?_;change wpAny _ _ _ _ _ _ _ (World.drew _);refine uA 0 (.pointer (some ⟨rb,0,none⟩)) rfl<|uA 1 (.string ⟨#[]⟩) rfl<|uA 2 (.bool false) rfl<|uA 3 (.bool false) rfl<|sA 4 rfl<|sA 5 rfl<|sA 6 rfl<|uA 7 (.bool false) rfl ?_
  refine rA 8 rfl fun K hK=>?_
  go_simp;refine hK _ _ ?_;clear hK K
  refine rA 9 rfl fun K hK=>?_
  go_simp;refine(uT.out _ 4 HB2.out qw.out.Ji).mono ?_;rintro e w8 ⟨hst,mH⟩;obtain⟨b,rfl,s0,s1⟩:=hst;exact⟨rfl,(by rw[HF.out];exact⟨⟨b,rfl,s0,s1⟩,mH⟩)⟩
 rw[bM hN] at hnn
 by_cases hU:U.size=0
 ·have HR2:=HR.out;rw[aA aJ] at HR2;obtain rfl:U=⟨#[]⟩:=iJ.1 hU;clear hU hnu;have HR:=aV HR2;clear HR2
  have HZ:Hid (∀w,(zeroValue 316).run Tryz.prog w=.ok yN w):=fun w=>dD
  have Vo:Hid (∀wx,iF p a B wx rb (no:Nat) ls S (m+1)->(Instr.lookup 197 (.map (some p.rm)) (.string HD) true).run Tryz.prog wx=.ok (.tuple #[((eT S.rules HD).map wD).getD yN,.bool ((eT S.rules HD).map wD).isSome]) wx):=fun wx hx=>eu.look_ok hx.rules (t:=197) Tryz.underlying197 HZ.out HD (by unfold maxLen;omega)
  cases hk:eT S.rules HD with
  |some y=>
   have HF:Hid (wz S no t ls=.error (.rul,no)):=by rw[HR.out,hk];rfl
   rw[hk] at Vo;clear HR hk
   go_enter Tryz.func195,Tryz.ntmps195
   go_wp2_with fail
   refine(HW1.out _).mono ?_;rintro e w1 ⟨rfl,rfl⟩
   go_wp2_with fail
   refine(Dy.out _).mono ?_;rintro e w2 ⟨rfl,k2,hw2⟩
   have qw:Hid (iF p a B w2.drew rb (no:Nat) ls S (m+1)):=by rw[hw2];exact H.out.below (di (ay _ w1) k2).drew
   have HB2:Hid (Below B w1 w2.drew):=by rw[hw2];exact(di (ay _ w1) k2).drew
   have e4:w2.cell? ⟨4,0,none⟩=some (.iface 472 (.pointer (some (a 4)))):=qw.out.gl.errs 4 bS;clear hw2 c4 c5 x0
   go_wp2_with fail
   go_region_with (first|(go_at_call 191;refine(HW2.out _).mono ?_;rintro e w8 ⟨rfl,rfl⟩)|(go_at_call 112;refine(gL _ _ _).mono ?_;rintro e w8 ⟨rfl,rfl⟩))
   all_goals
    obtain⟨w3,hw3⟩:∃w3,w3=w2.drew:=⟨_,rfl⟩;rw[<-hw3];rw[<-hw3] at qw HB2;have hlk:(Instr.lookup 197 (.map (some p.rm)) (.string HD) true).run Tryz.prog w3=.ok (.tuple #[.agg #[.string (y)],.bool true]) w3:=Vo.out w3 qw.out
    have d3:w3.cell? ⟨rb,3,none⟩=some (.map (some p.rm)):=by rw[aj _ _ _ _ _ _ qw.out.row];rfl
    have f5:w3.cell? ⟨5,0,none⟩=some (.iface 472 (.pointer (some (a 5)))):=qw.out.gl.errs 5 bS;have f4:w3.cell? ⟨4,0,none⟩=some (.iface 472 (.pointer (some (a 4)))):=qw.out.gl.errs 4 bS
    have l5:5<w3.heap.size:=by have:=qw.out.gl.size;omega
    have l4:4<w3.heap.size:=aJ
    have agb:=qw.out.ql;have Jf:Hid (iF p a B (w3.alloc (.cells #[.string (y)] 316)) rb (no:Nat) ls S (m+1)):=qw.out.below ((ay _ _).alloc (ai _) _);have CY:Hid (Below B w1 (w3.alloc (.cells #[.string (y)] 316))):=HB2.out.alloc qw.out.bw _;clear hw3 e4
    go_wp2_with fail
    refine(uT.out _ 5 CY.out Jf.out.Ji).mono ?_;rintro e w8 ⟨hst,mH⟩;obtain⟨b,rfl,s0,s1⟩:=hst;exact⟨rfl,(by rw[HF.out];exact⟨⟨b,rfl,s0,s1⟩,mH⟩)⟩
  |none=>
   rw[hk] at Vo HR;have HK:=aV hk;clear hk
   cases hi:iw ls with
   |none=>
    have HF:Hid (wz S no t ls=.error (.syn,no)):=by rw[HR.out,hi];rfl
    clear HR
    go_enter Tryz.func195,Tryz.ntmps195
    go_wp2_with fail
    refine(HW1.out _).mono ?_;rintro e w1 ⟨rfl,rfl⟩
    go_wp2_with fail
    refine(Dy.out _).mono ?_;rintro e w2 ⟨rfl,k2,hw2⟩
    have qw:Hid (iF p a B w2.drew rb (no:Nat) ls S (m+1)):=by rw[hw2];exact H.out.below (di (ay _ w1) k2).drew
    have HB2:Hid (Below B w1 w2.drew):=by rw[hw2];exact(di (ay _ w1) k2).drew
    have e4:w2.cell? ⟨4,0,none⟩=some (.iface 472 (.pointer (some (a 4)))):=qw.out.gl.errs 4 bS;clear hw2 c4 c5 x0
    go_wp2_with fail
    go_region_with (first|(go_at_call 191;refine(HW2.out _).mono ?_;rintro e w8 ⟨rfl,rfl⟩)|(go_at_call 112;refine(gL _ _ _).mono ?_;rintro e w8 ⟨rfl,rfl⟩))
    all_goals
     obtain⟨w3,hw3⟩:∃w3,w3=w2.drew:=⟨_,rfl⟩;rw[<-hw3];rw[<-hw3] at qw HB2;have hlk:(Instr.lookup 197 (.map (some p.rm)) (.string HD) true).run Tryz.prog w3=.ok (.tuple #[.agg #[.string (⟨#[]⟩)],.bool false]) w3:=Vo.out w3 qw.out
     have d3:w3.cell? ⟨rb,3,none⟩=some (.map (some p.rm)):=by rw[aj _ _ _ _ _ _ qw.out.row];rfl
     have f5:w3.cell? ⟨5,0,none⟩=some (.iface 472 (.pointer (some (a 5)))):=qw.out.gl.errs 5 bS;have f4:w3.cell? ⟨4,0,none⟩=some (.iface 472 (.pointer (some (a 4)))):=qw.out.gl.errs 4 bS
     have l5:5<w3.heap.size:=by have:=qw.out.gl.size;omega
     have l4:4<w3.heap.size:=aJ
     have agb:=qw.out.ql;have Jf:Hid (iF p a B (w3.alloc (.cells #[.string (⟨#[]⟩)] 316)).drew rb (no:Nat) ls S (m+1)):=(qw.out.below ((ay _ _).alloc (ai _) _)).below (ay _ _).drew;have CY:Hid (Below B w1 (w3.alloc (.cells #[.string (⟨#[]⟩)] 316)).drew):=(HB2.out.alloc qw.out.bw _).drew;clear hw3 e4
     go_wp2_with fail
     refine(gL _ _ _).mono ?_;rintro e w7 ⟨rfl,rfl⟩;have Br:=ul Jf.out;rw[hi] at Br;have Br:=aV Br
     go_wp2_with fail
     go_region_with (first|(go_at_call 263;refine Br.out.mono ?_;rintro e w8 ⟨rfl,rfl⟩)|(go_at_call 112;refine(uT.out _ 4 CY.out Jf.out.Ji).mono ?_;rintro e w8 ⟨hst,mH⟩;obtain⟨b,rfl,s0,s1⟩:=hst;refine uo ⟨rfl,(by rw[HF.out];exact⟨⟨b,rfl,s0,s1⟩,mH⟩)⟩ w1 ?_))
     all_goals trivial
   |some xr=>
    obtain⟨x,rest⟩:=xr;have HLS:=aV ((zu hi).1);have HR3:=HR.out;rw[hi] at HR3
    have HR:Hid (wz S no t ls=(match EH x.2 with
     |none=>.error (.syn,x.1)
     |some v=>match iw rest with
       |some y=>.error (.syn,y.1.1)
       |none=>.ok ({S with rules:=S.rules++[(HD,v)]},rest))):=HR3
    clear HR3
    cases hc:EH x.2 with
    |none=>
     have HF:Hid (wz S no t ls=.error (.syn,x.1)):=by rw[HR.out,hc];rfl
     clear HR
     go_enter Tryz.func195,Tryz.ntmps195
     go_wp2_with fail
     refine(HW1.out _).mono ?_;rintro e w1 ⟨rfl,rfl⟩
     go_wp2_with fail
     refine(Dy.out _).mono ?_;rintro e w2 ⟨rfl,k2,hw2⟩
     have qw:Hid (iF p a B w2.drew rb (no:Nat) ls S (m+1)):=by rw[hw2];exact H.out.below (di (ay _ w1) k2).drew
     have HB2:Hid (Below B w1 w2.drew):=by rw[hw2];exact(di (ay _ w1) k2).drew
     have e4:w2.cell? ⟨4,0,none⟩=some (.iface 472 (.pointer (some (a 4)))):=qw.out.gl.errs 4 bS;clear hw2 c4 c5 x0
     go_wp2_with fail
     go_region_with (first|(go_at_call 191;refine(HW2.out _).mono ?_;rintro e w8 ⟨rfl,rfl⟩)|(go_at_call 112;refine(gL _ _ _).mono ?_;rintro e w8 ⟨rfl,rfl⟩))
     all_goals
      obtain⟨w3,hw3⟩:∃w3,w3=w2.drew:=⟨_,rfl⟩;rw[<-hw3];rw[<-hw3] at qw HB2;have hlk:(Instr.lookup 197 (.map (some p.rm)) (.string HD) true).run Tryz.prog w3=.ok (.tuple #[.agg #[.string (⟨#[]⟩)],.bool false]) w3:=Vo.out w3 qw.out
      have d3:w3.cell? ⟨rb,3,none⟩=some (.map (some p.rm)):=by rw[aj _ _ _ _ _ _ qw.out.row];rfl
      have f5:w3.cell? ⟨5,0,none⟩=some (.iface 472 (.pointer (some (a 5)))):=qw.out.gl.errs 5 bS;have f4:w3.cell? ⟨4,0,none⟩=some (.iface 472 (.pointer (some (a 4)))):=qw.out.gl.errs 4 bS
      have l5:5<w3.heap.size:=by have:=qw.out.gl.size;omega
      have l4:4<w3.heap.size:=aJ
      have agb:=qw.out.ql;have Jf:Hid (iF p a B (w3.alloc (.cells #[.string (⟨#[]⟩)] 316)).drew rb (no:Nat) ls S (m+1)):=(qw.out.below ((ay _ _).alloc (ai _) _)).below (ay _ _).drew;have CY:Hid (Below B w1 (w3.alloc (.cells #[.string (⟨#[]⟩)] 316)).drew):=(HB2.out.alloc qw.out.bw _).drew;clear hw3 e4
      go_wp2_with fail
      refine(gL _ _ _).mono ?_;rintro e w7 ⟨rfl,rfl⟩;have Br:=ul Jf.out;rw[hi] at Br;have Br:=aV Br
      go_wp2_with fail
      go_region_with (first|(go_at_call 263;refine Br.out.mono ?_;rintro e w8 ⟨rfl,rfl⟩)|(go_at_call 112;refine(gL _ _ _).mono ?_;rintro e w8 ⟨rfl,rfl⟩))
      all_goals
       obtain⟨w4,hw4⟩:∃w4,w4=(w3.alloc (.cells #[.string ⟨#[]⟩] 316)).drew:=⟨_,rfl⟩;rw[<-hw4];rw[<-hw4] at Jf CY;have HPB:Hid (iF p a B w4.drew rb (no:Nat) ls S (m+1)):=Jf.out.below (ay _ _).drew;have Rn:=aV CY.out.drew
       have d3':w4.cell? ⟨rb,3,none⟩=some (.map (some p.rm)):=by rw[aj _ _ _ _ _ _ Jf.out.row];rfl
       have HPC:iF p a B w4.drew rb (no:Nat) (x::rest) S (m+1):=by rw[<-HLS.out];exact HPB.out
       have Bt:=Bg HPC;rw[hc] at Bt;clear hw4 hlk d3 f5 f4 Br
       go_wp2_with fail
       go_region_with (go_at_call 264;refine Bt.mono ?_;rintro e w8 ⟨hst,mH⟩;obtain⟨b,rfl,s0,s1⟩:=hst;refine uo ⟨rfl,(by rw[HF.out];exact⟨⟨b,rfl,s0,s1⟩,Rn.out.trans mH⟩)⟩ w1 ?_)
       all_goals trivial
    |some v=>exact ahr.out x rest v hN rfl HK.out hi hc _ (by rw[HR.out,hc])
 rw[bM hU] at hnu
 have HF:Hid (wz S no t ls=.error (.syn,no)):=by rw[HR.out,aH (aP hU)];rfl
 clear HR
 go_enter Tryz.func195,Tryz.ntmps195
 go_wp2_with fail
 refine(HW1.out _).mono ?_;rintro e w1 ⟨rfl,rfl⟩
 go_wp2_with fail
 refine(Dy.out _).mono ?_;rintro e w2 ⟨rfl,k2,hw2⟩
 have qw:Hid (iF p a B w2.drew rb (no:Nat) ls S (m+1)):=by rw[hw2];exact H.out.below (di (ay _ w1) k2).drew
 have HB2:Hid (Below B w1 w2.drew):=by rw[hw2];exact(di (ay _ w1) k2).drew
 have e4:w2.cell? ⟨4,0,none⟩=some (.iface 472 (.pointer (some (a 4)))):=qw.out.gl.errs 4 bS;clear hw2 c4 c5 x0
 go_wp2_with fail
 go_region_with (first|(go_at_call 191;refine(HW2.out _).mono ?_;rintro e w8 ⟨rfl,rfl⟩)|(go_at_call 112;refine(uT.out _ 4 HB2.out qw.out.Ji).mono ?_;rintro e w8 ⟨hst,mH⟩;obtain⟨b,rfl,s0,s1⟩:=hst;refine uo ⟨rfl,(by rw[HF.out];exact⟨⟨b,rfl,s0,s1⟩,mH⟩)⟩ w1 ?_))
 all_goals trivial
end
end Go.Proofs.YthhbpebihgjpjaaGreatDoor
