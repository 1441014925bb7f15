import Derived.Test.YthhbpebihgjpjaaGreatDoorZ32
namespace Go.Proofs.YthhbpebihgjpjaaGreatDoor
set_option maxRecDepth 1000000
set_option maxHeartbeats 20000000
set_option linter.all false
section
open Go.RowKit Go.Maps
theorem ZV(S:St)(no:Nat)(t:ah)(rest:List dK):wh S no t rest=
  if di (bD t)=0\/(bD (gL (bD t))).size≠0 then .error (.syn,no)
  else if (eB S.rules (fo (bD t))).isSome=true then .error (.rul,no)
  else match gT rest with
   |none=>.error (.syn,no)
   |some xr=>match EG xr.1.2 with
     |none=>.error (.syn,xr.1.1)
     |some v=>match gT xr.2 with
       |some y=>.error (.syn,y.1.1)
       |none=>.ok ({S with rules:=S.rules++[(fo (bD t),v)]},xr.2):=by
 unfold wh
 split
 ·rfl
 split
 ·rfl
 cases gT rest with
 |none=>rfl
 |some xr=>
  simp only
  cases hb:pK xr.1.2 with
  |none=>simp only[EG,hb]
  |some nv=>
   simp only[EG,hb]
   by_cases hq:nv.1≠xZ\/iy Gx nv.2=none
   ·rw[aD hq,aD hq]
   rw[ax hq,ax hq];rfl
variable {ls:List dK}
theorem zo{xr:dK×List dK}(h:gT ls=some xr):ls=xr.1::xr.2/\fQ xr.1.2 32=true:=by
 cases ls with
 |nil=>cases h
 |cons y l=>
  rw[gT] at h
  by_cases hb:fQ y.2 32=true
  ·rw[aD hb] at h;obtain rfl:=ak h;exact⟨rfl,hb⟩
  rw[ax hb] at h;cases h
variable {p:PV}{a:Nat->Addr}{B rb no m:Nat}{w:aj}{S:St}{t:ah}
theorem Nn(h:ig p a B w rb (no:Nat) ls S (m+1))(ht:t.size<=4000)(x:dK)(rest:List dK)(v:ah)(hN:(fo (bD t)).size≠0)(hU:bD (gL (bD t))=⟨#[]⟩)(hk:eB S.rules (fo (bD t))=none)(hi:gT ls=some (x,rest))(hc:EG x.2=some v)(r:Res)(hres:r=match gT rest with
   |some y=>.error (.syn,y.1.1)
   |none=>.ok ({S with rules:=S.rules++[(fo (bD t),v)]},rest)):
  Calls Tryz.prog 195 #[.pointer (some ⟨rb,0,none⟩),.string t] w (iL a B rb m w r):=by
 have ahE:Hid (r=match gT rest with
   |some y=>.error (.syn,y.1.1)
   |none=>.ok ({S with rules:=S.rules++[(fo (bD t),v)]},rest)):=hres
 clear hres;have H:=aP h;have HLS:=aP ((zo hi).1);have hls:=kD t
 have HVS:Hid (v.size<=4000):=by
  have h1:=h.ok.lines x (by rw[HLS.out];exact aM);unfold EG at hc
  cases hb:pK x.2 with
  |none=>rw[hb] at hc;cases hc
  |some nv=>
   rw[hb] at hc;simp only at hc
   split at hc
   ·cases hc
   obtain rfl:=ak hc;exact aA (xP hb).2.1 h1
 have HW1:Hid (∀wx,Calls Tryz.prog 191 #[.string t] wx fun e w'=>e=.returned (.string (bD t))/\w'=wx):=fun wx=>gG t wx
 generalize bD t=T at*
 have Dx:Hid (∀wx,Calls Tryz.prog 194 #[.string T] wx fun e w'=>e=.returned (.tuple #[.string (fo T),.string (gL T)])/\∃n,w'=wx.drewN n):=fun wx=>qy T (by omega) wx
 have SK:=lX T;have hwl:di T<=T.size:=jX _ _
 have hds:(fo T).size<=4000:=by omega
 clear SK hwl;generalize gL T=TL at*
 have HW2:Hid (∀wx,Calls Tryz.prog 191 #[.string TL] wx fun e w'=>e=.returned (.string ⟨#[]⟩)/\w'=wx):=fun wx=>by rw[<-hU];exact gG TL wx
 have hnn:=qN (fo T);rw[bH hN] at hnn;generalize fo T=HD at*
 have HZ:Hid (∀w,(zeroValue 316).run Tryz.prog w=.ok yL w):=fun w=>by kernel_rfl
 have Vn:Hid (∀wx,ig p a B wx rb (no:Nat) ls S (m+1)->(Instr.lookup 197 (.map (some p.rm)) (.string HD) true).run Tryz.prog wx=.ok (.tuple #[((eB S.rules HD).map wu).getD yL,.bool ((eB S.rules HD).map wu).isSome]) wx):=fun wx hx=>dU.look_ok hx.rules (t:=197) Tryz.underlying197 HZ.out HD (by unfold maxLen;omega)
 rw[hk] at Vn;have HK:=aP hk;clear hk hU h
 go_enter Tryz.func195,Tryz.ntmps195
 go_wp2_with fail
 refine(HW1.out _).mono ?_;rintro e w1 ⟨rfl,rfl⟩
 go_wp2_with fail
 refine(Dx.out _).mono ?_;rintro e w2 ⟨rfl,k2,hw2⟩
 have qo:Hid (ig p a B w2.drew rb (no:Nat) ls S (m+1)):=by rw[hw2];exact H.out.below (bX (au _ w1) k2).drew
 have HB2:Hid (Below B w1 w2.drew):=by rw[hw2];exact(bX (au _ w1) k2).drew
 have e4:w2.cell? ⟨4,0,none⟩=some (.iface 472 (.pointer (some (a 4)))):=qo.out.gl.errs 4 (by decide);clear hw2
 go_wp2_with fail
 go_region_with (first|(go_at_call 191;refine(HW2.out _).mono ?_;rintro e w8 ⟨rfl,rfl⟩)|(go_at_call 112;refine(gD _ _ _).mono ?_;rintro e w8 ⟨rfl,rfl⟩))
 all_goals
  obtain⟨w3,hw3⟩:∃w3,w3=w2.drew:=⟨_,rfl⟩;rw[<-hw3];rw[<-hw3] at qo HB2;have hlk:(Instr.lookup 197 (.map (some p.rm)) (.string HD) true).run Tryz.prog w3=.ok (.tuple #[.agg #[.string (⟨#[]⟩)],.bool false]) w3:=Vn.out w3 qo.out
  have d3:w3.cell? ⟨rb,3,none⟩=some (.map (some p.rm)):=by rw[bZ qo.out.row];rfl
  have f5:w3.cell? ⟨5,0,none⟩=some (.iface 472 (.pointer (some (a 5)))):=qo.out.gl.errs 5 (by decide);have f4:w3.cell? ⟨4,0,none⟩=some (.iface 472 (.pointer (some (a 4)))):=qo.out.gl.errs 4 (by decide)
  have l5:5<w3.heap.size:=by have:=qo.out.gl.size;omega
  have l4:4<w3.heap.size:=by omega
  have af7:=qo.out.qi;have Jd:Hid (ig p a B (w3.alloc (.cells #[.string (⟨#[]⟩)] 316)).drew rb (no:Nat) ls S (m+1)):=(qo.out.below ((au _ _).alloc (ai _) _)).below (au _ _).drew;have CX:Hid (Below B w1 (w3.alloc (.cells #[.string (⟨#[]⟩)] 316)).drew):=(HB2.out.alloc qo.out.bw _).drew;clear hw3 e4
  go_wp2_with fail
  refine(gD _ _ _).mono ?_;rintro e w7 ⟨rfl,rfl⟩;have Bp:=ug Jd.out;rw[hi] at Bp;have Bp:=aP Bp
  go_wp2_with fail
  go_region_with (first|(go_at_call 263;refine Bp.out.mono ?_;rintro e w8 ⟨rfl,rfl⟩)|(go_at_call 112;refine(gD _ _ _).mono ?_;rintro e w8 ⟨rfl,rfl⟩))
  all_goals
   obtain⟨w4,hw4⟩:∃w4,w4=(w3.alloc (.cells #[.string ⟨#[]⟩] 316)).drew:=⟨_,rfl⟩;rw[<-hw4];rw[<-hw4] at Jd CX;have HPB:Hid (ig p a B w4.drew rb (no:Nat) ls S (m+1)):=Jd.out.below (au _ _).drew;have Rl:=aP CX.out.drew
   have d3':w4.cell? ⟨rb,3,none⟩=some (.map (some p.rm)):=by rw[bZ Jd.out.row];rfl
   have HPC:ig p a B w4.drew rb (no:Nat) (x::rest) S (m+1):=by rw[<-HLS.out];exact HPB.out
   have Bq:=Be HPC;rw[hc] at Bq;clear hw4 hlk d3 f5 f4 Bp
   go_wp2_with fail
   go_region_with (go_at_call 264;refine Bq.mono ?_;rintro e w8 ⟨rfl,⟨vl8,hp8⟩,hg8⟩;obtain⟨w9,Oh,ET,Cr⟩:=dU.store hp8.rules (t:=197) Tryz.underlying197 (by have:=hp8.few;show p.n2<maxLen;have h2:p.n2+(m+1)<=5000:=this.2.1;unfold maxLen;omega) HD (by unfold maxLen;omega) (wu v) (UI v);have Oh:(Instr.mapUpdate 197 (.map (some p.rm)) (.string HD) (.agg #[.string v])).run Tryz.prog w8=.ok () w9:=Oh;have d8:w8.cell? ⟨rb,3,none⟩=some (.map (some p.rm)):=(by rw[bZ hp8.row];rfl))
   all_goals
    have HP9:=aP (hp8.adm Cr (wD.set ET) HK.out HVS.out);have Ry:Hid (Below B w1 w9):=(Rl.out.trans (jL hg8 HPC.vV HPC.bw)).trans (jL Cr (by rcases bR p.rm B with q|q;(have h1:=H.out.low p.rm q;have h2:=H.out.c3;omega);exact q) hp8.bw);clear Oh ET Cr hp8 hg8 Bq d8;have HBN:=ug HP9.out
    cases hr:gT rest with
    |none=>
     rw[hr] at HBN
     go_wp2_with fail
     refine HBN.mono ?_;rintro e yh ⟨rfl,rfl⟩
     go_wp2_with fail
     go_end0
     have HRR:=ahE.out;rw[hr] at HRR;rw[HRR];exact⟨rfl,⟨_,_,HP9.out⟩,Ry.out⟩
    |some y=>
     rw[hr] at HBN;have HRR:=ahE.out;rw[hr] at HRR;have HRR:=aP HRR;obtain⟨y,r2⟩:=y;obtain rfl:=(zo hr).1;have Br:=Me HP9.out
     go_wp2_with fail
     refine HBN.mono ?_;rintro e yh ⟨rfl,rfl⟩
     go_wp2_with fail
     refine Br.mono ?_;rintro e GR ⟨rfl,⟨apX,adK⟩,aiq⟩;have g4:GR.cell? ⟨4,0,none⟩=some (.iface 472 (.pointer (some (a 4)))):=adK.gl.errs 4 (by decide);have Vm:=Sy rb (y.1:Nat) 472 (.pointer (some (a 4))) GR adK.Jg;have Yk:=aP (Ry.out.trans (jL aiq HP9.out.vV HP9.out.bw));have aik:=adK.bw;clear adK aiq
     go_wp2_with fail
     refine Vm.mono ?_;rintro e w12 ⟨⟨b,rfl,s0,s1⟩,alp⟩;exact⟨rfl,⟨b,rfl,s0,s1⟩,Yk.out.trans (alp.mono aik)⟩
theorem QV(h:ig p a B w rb (no:Nat) ls S (m+1))(ht:t.size<=4000):
  Calls Tryz.prog 195 #[.pointer (some ⟨rb,0,none⟩),.string t] w (iL a B rb m w (wh S no t ls)):=by
 have HR:=aP (ZV S no t ls);have H:=aP h
 have ahn:Hid (∀(x:dK) (rest:List dK) (v:ah),(fo (bD t)).size≠0->bD (gL (bD t))=⟨#[]⟩->eB S.rules (fo (bD t))=none->gT ls=some (x,rest)->EG x.2=some v->∀r:Res,(r=match gT rest with
   |some y=>.error (.syn,y.1.1)
   |none=>.ok ({S with rules:=S.rules++[(fo (bD t),v)]},rest))->Calls Tryz.prog 195 #[.pointer (some ⟨rb,0,none⟩),.string t] w (iL a B rb m w r)):=fun x rest v h1 h2 h3 h4 h5 r h6=>Nn h ht x rest v h1 h2 h3 h4 h5 r h6
 have hls:=kD t
 have HW1:Hid (∀wx,Calls Tryz.prog 191 #[.string t] wx fun e w'=>e=.returned (.string (bD t))/\w'=wx):=fun wx=>gG t wx
 generalize bD t=T at*
 have Dx:Hid (∀wx,Calls Tryz.prog 194 #[.string T] wx fun e w'=>e=.returned (.tuple #[.string (fo T),.string (gL T)])/\∃n,w'=wx.drewN n):=fun wx=>qy T (by omega) wx
 have SK:=lX T;have hwl:di T<=T.size:=jX _ _;generalize gL T=TL at*
 have HW2:Hid (∀wx,Calls Tryz.prog 191 #[.string TL] wx fun e w'=>e=.returned (.string (bD TL))/\w'=wx):=fun wx=>gG TL wx
 generalize bD TL=U at*;have hnu:=qN U;have c4:w.cell? ⟨4,0,none⟩=some (.iface 472 (.pointer (some (a 4)))):=h.gl.errs 4 (by decide);have c5:w.cell? ⟨5,0,none⟩=some (.iface 472 (.pointer (some (a 5)))):=h.gl.errs 5 (by decide);have hnn:=qN (fo T);rw[SK] at hnn;generalize fo T=HD at*;rw[<-SK] at HR hnn
 have hds:HD.size<=4000:=by omega
 clear hwl;generalize di T=N at*;subst SK
 have uR:Hid (∀wx k,Below B w wx->wx.cell? ⟨rb,0,none⟩=some (.int .i64 (no:Nat))->Calls Tryz.prog 112 #[.pointer (some ⟨rb,0,none⟩),.bool false,.iface 472 (.pointer (some (a k)))] wx fun e w'=>jB (no:Nat) (iW a k) e w'/\Below B w w'):=fun wx k hb h0=>(pq rb (no:Nat) _ _ wx h0).mono (fun e w' h=>⟨h.1,hb.trans (h.2.mono (aA H.out.bw hb.size))⟩)
 have x0:=h.Jg;clear h
 by_cases hN:HD.size=0
 ·have HF:Hid (wh S no t ls=.error (.syn,no)):=by rw[HR.out,aD (aG hN)];rfl
  obtain rfl:HD=⟨#[]⟩:=iD.1 hN;clear hnn hN HR hnu
  go_enter Tryz.func195,Tryz.ntmps195
  go_wp2_with fail
  refine(HW1.out _).mono ?_;rintro e w1 ⟨rfl,rfl⟩
  go_wp2_with fail
  refine(Dx.out _).mono ?_;rintro e w2 ⟨rfl,k2,hw2⟩
  have qo:Hid (ig p a B w2.drew rb (no:Nat) ls S (m+1)):=by rw[hw2];exact H.out.below (bX (au _ w1) k2).drew
  have HB2:Hid (Below B w1 w2.drew):=by rw[hw2];exact(bX (au _ w1) k2).drew
  have e4:w2.cell? ⟨4,0,none⟩=some (.iface 472 (.pointer (some (a 4)))):=qo.out.gl.errs 4 (by decide);clear hw2 c4 c5 x0
  go_wp2_with fail
  refine jT (by kernel_rfl) ?_;change wpAny _ _ _ _ _ _ _ (World.drew _);refine uA 0 (.pointer (some ⟨rb,0,none⟩)) rfl ?_<|uA 1 (.string ⟨#[]⟩) rfl ?_<|uA 2 (.bool false) rfl ?_<|uA 3 (.bool false) rfl ?_ ?_;(iterate 4 ·exact⟨by kernel_rfl,kI,by intro w;go_simp⟩);refine sA 4 rfl (by kernel_rfl) kI ?_;refine sA 5 rfl (by kernel_rfl) kI ?_;refine sA 6 rfl (by kernel_rfl) kI ?_;refine uA 7 (.bool false) rfl ⟨by kernel_rfl,kI,by intro w;go_simp⟩ ?_
  refine rA 8 rfl (by kernel_rfl) fun K hK=>?_
  go_simp;refine hK _ _ ?_;clear hK K
  refine rA 9 rfl (by kernel_rfl) fun K hK=>?_
  go_simp;refine(uR.out _ 4 HB2.out qo.out.Jg).mono ?_;rintro e w8 ⟨hst,mr⟩;obtain⟨b,rfl,s0,s1⟩:=hst;exact⟨rfl,(by rw[HF.out];exact⟨⟨b,rfl,s0,s1⟩,mr⟩)⟩
 rw[bH hN] at hnn
 by_cases hU:U.size=0
 ·have HR2:=HR.out;rw[ax (by omega)] at HR2;obtain rfl:U=⟨#[]⟩:=iD.1 hU;clear hU hnu;have HR:=aP HR2;clear HR2
  have HZ:Hid (∀w,(zeroValue 316).run Tryz.prog w=.ok yL w):=fun w=>by kernel_rfl
  have Vn:Hid (∀wx,ig p a B wx rb (no:Nat) ls S (m+1)->(Instr.lookup 197 (.map (some p.rm)) (.string HD) true).run Tryz.prog wx=.ok (.tuple #[((eB S.rules HD).map wu).getD yL,.bool ((eB S.rules HD).map wu).isSome]) wx):=fun wx hx=>dU.look_ok hx.rules (t:=197) Tryz.underlying197 HZ.out HD (by unfold maxLen;omega)
  cases hk:eB S.rules HD with
  |some y=>
   have HF:Hid (wh S no t ls=.error (.rul,no)):=by rw[HR.out,hk];rfl
   rw[hk] at Vn;clear HR hk
   go_enter Tryz.func195,Tryz.ntmps195
   go_wp2_with fail
   refine(HW1.out _).mono ?_;rintro e w1 ⟨rfl,rfl⟩
   go_wp2_with fail
   refine(Dx.out _).mono ?_;rintro e w2 ⟨rfl,k2,hw2⟩
   have qo:Hid (ig p a B w2.drew rb (no:Nat) ls S (m+1)):=by rw[hw2];exact H.out.below (bX (au _ w1) k2).drew
   have HB2:Hid (Below B w1 w2.drew):=by rw[hw2];exact(bX (au _ w1) k2).drew
   have e4:w2.cell? ⟨4,0,none⟩=some (.iface 472 (.pointer (some (a 4)))):=qo.out.gl.errs 4 (by decide);clear hw2 c4 c5 x0
   go_wp2_with fail
   go_region_with (first|(go_at_call 191;refine(HW2.out _).mono ?_;rintro e w8 ⟨rfl,rfl⟩)|(go_at_call 112;refine(gD _ _ _).mono ?_;rintro e w8 ⟨rfl,rfl⟩))
   all_goals
    obtain⟨w3,hw3⟩:∃w3,w3=w2.drew:=⟨_,rfl⟩;rw[<-hw3];rw[<-hw3] at qo HB2;have hlk:(Instr.lookup 197 (.map (some p.rm)) (.string HD) true).run Tryz.prog w3=.ok (.tuple #[.agg #[.string (y)],.bool true]) w3:=Vn.out w3 qo.out
    have d3:w3.cell? ⟨rb,3,none⟩=some (.map (some p.rm)):=by rw[bZ qo.out.row];rfl
    have f5:w3.cell? ⟨5,0,none⟩=some (.iface 472 (.pointer (some (a 5)))):=qo.out.gl.errs 5 (by decide);have f4:w3.cell? ⟨4,0,none⟩=some (.iface 472 (.pointer (some (a 4)))):=qo.out.gl.errs 4 (by decide)
    have l5:5<w3.heap.size:=by have:=qo.out.gl.size;omega
    have l4:4<w3.heap.size:=by omega
    have af7:=qo.out.qi;have Jd:Hid (ig p a B (w3.alloc (.cells #[.string (y)] 316)) rb (no:Nat) ls S (m+1)):=qo.out.below ((au _ _).alloc (ai _) _);have CX:Hid (Below B w1 (w3.alloc (.cells #[.string (y)] 316))):=HB2.out.alloc qo.out.bw _;clear hw3 e4
    go_wp2_with fail
    refine(uR.out _ 5 CX.out Jd.out.Jg).mono ?_;rintro e w8 ⟨hst,mr⟩;obtain⟨b,rfl,s0,s1⟩:=hst;exact⟨rfl,(by rw[HF.out];exact⟨⟨b,rfl,s0,s1⟩,mr⟩)⟩
  |none=>
   rw[hk] at Vn HR;have HK:=aP hk;clear hk
   cases hi:gT ls with
   |none=>
    have HF:Hid (wh S no t ls=.error (.syn,no)):=by rw[HR.out,hi];rfl
    clear HR
    go_enter Tryz.func195,Tryz.ntmps195
    go_wp2_with fail
    refine(HW1.out _).mono ?_;rintro e w1 ⟨rfl,rfl⟩
    go_wp2_with fail
    refine(Dx.out _).mono ?_;rintro e w2 ⟨rfl,k2,hw2⟩
    have qo:Hid (ig p a B w2.drew rb (no:Nat) ls S (m+1)):=by rw[hw2];exact H.out.below (bX (au _ w1) k2).drew
    have HB2:Hid (Below B w1 w2.drew):=by rw[hw2];exact(bX (au _ w1) k2).drew
    have e4:w2.cell? ⟨4,0,none⟩=some (.iface 472 (.pointer (some (a 4)))):=qo.out.gl.errs 4 (by decide);clear hw2 c4 c5 x0
    go_wp2_with fail
    go_region_with (first|(go_at_call 191;refine(HW2.out _).mono ?_;rintro e w8 ⟨rfl,rfl⟩)|(go_at_call 112;refine(gD _ _ _).mono ?_;rintro e w8 ⟨rfl,rfl⟩))
    all_goals
     obtain⟨w3,hw3⟩:∃w3,w3=w2.drew:=⟨_,rfl⟩;rw[<-hw3];rw[<-hw3] at qo HB2;have hlk:(Instr.lookup 197 (.map (some p.rm)) (.string HD) true).run Tryz.prog w3=.ok (.tuple #[.agg #[.string (⟨#[]⟩)],.bool false]) w3:=Vn.out w3 qo.out
     have d3:w3.cell? ⟨rb,3,none⟩=some (.map (some p.rm)):=by rw[bZ qo.out.row];rfl
     have f5:w3.cell? ⟨5,0,none⟩=some (.iface 472 (.pointer (some (a 5)))):=qo.out.gl.errs 5 (by decide);have f4:w3.cell? ⟨4,0,none⟩=some (.iface 472 (.pointer (some (a 4)))):=qo.out.gl.errs 4 (by decide)
     have l5:5<w3.heap.size:=by have:=qo.out.gl.size;omega
     have l4:4<w3.heap.size:=by omega
     have af7:=qo.out.qi;have Jd:Hid (ig p a B (w3.alloc (.cells #[.string (⟨#[]⟩)] 316)).drew rb (no:Nat) ls S (m+1)):=(qo.out.below ((au _ _).alloc (ai _) _)).below (au _ _).drew;have CX:Hid (Below B w1 (w3.alloc (.cells #[.string (⟨#[]⟩)] 316)).drew):=(HB2.out.alloc qo.out.bw _).drew;clear hw3 e4
     go_wp2_with fail
     refine(gD _ _ _).mono ?_;rintro e w7 ⟨rfl,rfl⟩;have Bp:=ug Jd.out;rw[hi] at Bp;have Bp:=aP Bp
     go_wp2_with fail
     go_region_with (first|(go_at_call 263;refine Bp.out.mono ?_;rintro e w8 ⟨rfl,rfl⟩)|(go_at_call 112;refine(uR.out _ 4 CX.out Jd.out.Jg).mono ?_;rintro e w8 ⟨hst,mr⟩;obtain⟨b,rfl,s0,s1⟩:=hst;refine uj ⟨rfl,(by rw[HF.out];exact⟨⟨b,rfl,s0,s1⟩,mr⟩)⟩ w1 ?_))
     all_goals trivial
   |some xr=>
    obtain⟨x,rest⟩:=xr;have HLS:=aP ((zo hi).1);have HR3:=HR.out;rw[hi] at HR3
    have HR:Hid (wh S no t ls=(match EG x.2 with
     |none=>.error (.syn,x.1)
     |some v=>match gT rest with
       |some y=>.error (.syn,y.1.1)
       |none=>.ok ({S with rules:=S.rules++[(HD,v)]},rest))):=HR3
    clear HR3
    cases hc:EG x.2 with
    |none=>
     have HF:Hid (wh S no t ls=.error (.syn,x.1)):=by rw[HR.out,hc];rfl
     clear HR
     go_enter Tryz.func195,Tryz.ntmps195
     go_wp2_with fail
     refine(HW1.out _).mono ?_;rintro e w1 ⟨rfl,rfl⟩
     go_wp2_with fail
     refine(Dx.out _).mono ?_;rintro e w2 ⟨rfl,k2,hw2⟩
     have qo:Hid (ig p a B w2.drew rb (no:Nat) ls S (m+1)):=by rw[hw2];exact H.out.below (bX (au _ w1) k2).drew
     have HB2:Hid (Below B w1 w2.drew):=by rw[hw2];exact(bX (au _ w1) k2).drew
     have e4:w2.cell? ⟨4,0,none⟩=some (.iface 472 (.pointer (some (a 4)))):=qo.out.gl.errs 4 (by decide);clear hw2 c4 c5 x0
     go_wp2_with fail
     go_region_with (first|(go_at_call 191;refine(HW2.out _).mono ?_;rintro e w8 ⟨rfl,rfl⟩)|(go_at_call 112;refine(gD _ _ _).mono ?_;rintro e w8 ⟨rfl,rfl⟩))
     all_goals
      obtain⟨w3,hw3⟩:∃w3,w3=w2.drew:=⟨_,rfl⟩;rw[<-hw3];rw[<-hw3] at qo HB2;have hlk:(Instr.lookup 197 (.map (some p.rm)) (.string HD) true).run Tryz.prog w3=.ok (.tuple #[.agg #[.string (⟨#[]⟩)],.bool false]) w3:=Vn.out w3 qo.out
      have d3:w3.cell? ⟨rb,3,none⟩=some (.map (some p.rm)):=by rw[bZ qo.out.row];rfl
      have f5:w3.cell? ⟨5,0,none⟩=some (.iface 472 (.pointer (some (a 5)))):=qo.out.gl.errs 5 (by decide);have f4:w3.cell? ⟨4,0,none⟩=some (.iface 472 (.pointer (some (a 4)))):=qo.out.gl.errs 4 (by decide)
      have l5:5<w3.heap.size:=by have:=qo.out.gl.size;omega
      have l4:4<w3.heap.size:=by omega
      have af7:=qo.out.qi;have Jd:Hid (ig p a B (w3.alloc (.cells #[.string (⟨#[]⟩)] 316)).drew rb (no:Nat) ls S (m+1)):=(qo.out.below ((au _ _).alloc (ai _) _)).below (au _ _).drew;have CX:Hid (Below B w1 (w3.alloc (.cells #[.string (⟨#[]⟩)] 316)).drew):=(HB2.out.alloc qo.out.bw _).drew;clear hw3 e4
      go_wp2_with fail
      refine(gD _ _ _).mono ?_;rintro e w7 ⟨rfl,rfl⟩;have Bp:=ug Jd.out;rw[hi] at Bp;have Bp:=aP Bp
      go_wp2_with fail
      go_region_with (first|(go_at_call 263;refine Bp.out.mono ?_;rintro e w8 ⟨rfl,rfl⟩)|(go_at_call 112;refine(gD _ _ _).mono ?_;rintro e w8 ⟨rfl,rfl⟩))
      all_goals
       obtain⟨w4,hw4⟩:∃w4,w4=(w3.alloc (.cells #[.string ⟨#[]⟩] 316)).drew:=⟨_,rfl⟩;rw[<-hw4];rw[<-hw4] at Jd CX;have HPB:Hid (ig p a B w4.drew rb (no:Nat) ls S (m+1)):=Jd.out.below (au _ _).drew;have Rl:=aP CX.out.drew
       have d3':w4.cell? ⟨rb,3,none⟩=some (.map (some p.rm)):=by rw[bZ Jd.out.row];rfl
       have HPC:ig p a B w4.drew rb (no:Nat) (x::rest) S (m+1):=by rw[<-HLS.out];exact HPB.out
       have Bq:=Be HPC;rw[hc] at Bq;clear hw4 hlk d3 f5 f4 Bp
       go_wp2_with fail
       go_region_with (go_at_call 264;refine Bq.mono ?_;rintro e w8 ⟨hst,mr⟩;obtain⟨b,rfl,s0,s1⟩:=hst;refine uj ⟨rfl,(by rw[HF.out];exact⟨⟨b,rfl,s0,s1⟩,Rl.out.trans mr⟩)⟩ w1 ?_)
       all_goals trivial
    |some v=>exact ahn.out x rest v hN rfl HK.out hi hc _ (by rw[HR.out,hc])
 rw[bH hU] at hnu
 have HF:Hid (wh S no t ls=.error (.syn,no)):=by rw[HR.out,aD (aL hU)];rfl
 clear HR
 go_enter Tryz.func195,Tryz.ntmps195
 go_wp2_with fail
 refine(HW1.out _).mono ?_;rintro e w1 ⟨rfl,rfl⟩
 go_wp2_with fail
 refine(Dx.out _).mono ?_;rintro e w2 ⟨rfl,k2,hw2⟩
 have qo:Hid (ig p a B w2.drew rb (no:Nat) ls S (m+1)):=by rw[hw2];exact H.out.below (bX (au _ w1) k2).drew
 have HB2:Hid (Below B w1 w2.drew):=by rw[hw2];exact(bX (au _ w1) k2).drew
 have e4:w2.cell? ⟨4,0,none⟩=some (.iface 472 (.pointer (some (a 4)))):=qo.out.gl.errs 4 (by decide);clear hw2 c4 c5 x0
 go_wp2_with fail
 go_region_with (first|(go_at_call 191;refine(HW2.out _).mono ?_;rintro e w8 ⟨rfl,rfl⟩)|(go_at_call 112;refine(uR.out _ 4 HB2.out qo.out.Jg).mono ?_;rintro e w8 ⟨hst,mr⟩;obtain⟨b,rfl,s0,s1⟩:=hst;refine uj ⟨rfl,(by rw[HF.out];exact⟨⟨b,rfl,s0,s1⟩,mr⟩)⟩ w1 ?_))
 all_goals trivial
