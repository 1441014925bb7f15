import Derived.Test.YthhbpebihgjpjaaGreatDoorZ32
namespace Go.Proofs.YthhbpebihgjpjaaGreatDoor
set_option maxRecDepth 1000000
set_option maxHeartbeats 20000000
set_option linter.all false
section
open Go.RowKit Go.Shelf
def Uc(W0:Nat)(a:Nat->Addr)(n:Int)(r:Except FO jm)(e:Ending)(w':ak):Prop:=match r with
 |.ok s=>∃v,e=.returned v/\rD W0 w' v s
 |.error b=>jF n (ja a (BG b)) e w'
theorem Ud(w:ak):jL w.heap.size w (w.alloc (.cells #[.string ⟨#[]⟩,.slice none 0 0] 399)) (fun k=>if k=w.heap.size then 1 else 0) (.slice (some ⟨w.heap.size,0,none⟩) 1 1) (.slice none 0 0) [] [] ⟨#[]⟩ [] where
 secs:=World.ownsRow_lit w _ 1 (ai _) (by unfold maxLen;omega) rfl
 last:=dK _ _ _ _
 const:=fun _ _ _=>⟨rfl,fun k x y h _=>by simp at h⟩
 c1:=fun k hk=>by
  have e:w.heap.size=k:=ax hk;subst e;exact aH rfl
 c2:=fun k hk=>by cases hk
 low:=fun k hk=>aA aJ
 below:=(ay _ _).alloc (ai _) _
theorem Dp(rb:Nat)(n:Int)(t:ah)(ls:List iH)(ao:Option Addr)(a:Nat->Addr)(ms:List ah)(vm:Value)(w:ak)(h0:w.cell? ⟨rb,0,none⟩=some (.int .i64 n))(h2:w.cell? ⟨rb,2,none⟩=some (.pointer ao))(hs:lY w (.pointer ao) ls)(hg:Gl a w)(ht:t.size<=4000)(hE:∀l∈ls,BOk l)(hm:bL w vm ms)(hml:ms.length<=2):
  Calls Tryz.prog 266 #[.pointer (some ⟨rb,0,none⟩),.string t,vm] w fun e w'=>Uc w.heap.size a n (nP (gK ls) ms t) e w'/\Below w.heap.size w w':=by
 obtain⟨ti,HTI⟩:=iT (P:=Tryz.prog) (e:=399) (n:=2) (b:=40) (z:=(.agg #[.string ⟨#[]⟩,.slice none 0 0])) dD;obtain⟨tj,HTJ⟩:=iT (P:=Tryz.prog) (e:=9) (n:=1) (b:=16) (z:=(.string ⟨#[]⟩)) dD
 have HRP:Hid (∀wx u,Below w.heap.size w wx->u.size<=4000->Calls Tryz.prog 320 #[.pointer (some ⟨rb,0,none⟩),.string u] wx fun e w'=>Ua a n (qY (gK ls) u) e w'/\Below wx.heap.size wx w'):=fun wx u hb hu=>
  QW rb n u ls ao a wx ((hb.cell (p:=⟨rb,0,none⟩) (aG h0)).trans h0) ((hb.cell (p:=⟨rb,2,none⟩) (aG h2)).trans h2) (hs.keep hb.block) (hg.below hb hg.size) aJ hE
 have uT:Hid (∀wx,Below w.heap.size w wx->Calls Tryz.prog 112 #[.pointer (some ⟨rb,0,none⟩),.bool false,.iface 472 (.pointer (some (a 4)))] wx fun e w'=>jF n (ja a 4) e w'/\Below w.heap.size w w'):=fun wx hb=>(pz rb n _ _ wx ((hb.cell (p:=⟨rb,0,none⟩) (aG h0)).trans h0)).mono (fun e w' h=>⟨h.1,hb.trans (h.2.mono hb.size)⟩)
 have HCT:Hid (∀wx x,Below w.heap.size w wx->Calls Tryz.prog 321 #[vm,.string x] wx fun e w'=>e=.returned (.bool (fo x ms))/\w'=wx):=fun wx x hb=>Qb ms vm x wx (hm.iy hb) aJ
 have HC4:Hid (∀wx,Below w.heap.size w wx->wx.cell? ⟨4,0,none⟩=some (.iface 472 (.pointer (some (a 4))))):=fun wx hb=>(hg.below hb hg.size).errs 4 bS
 have HT:=aV ht;obtain⟨lM,aoX,rfl,_,_⟩:=hm;generalize ms.length=ML at*;clear hs hg hE h0 h2
 go_enter Tryz.func266,Tryz.ntmps266
 go_wp2_with fail
 go_loopw [1,7] (fun v1 v7 wr=>∃(u:ah) (c:Nat->Nat) (g nn cap:Nat) (pv:Value) (vs:FY) (I:jm) (mk:ah) (l:List ah),v1=.string u/\v7=.slice (some ⟨g,0,none⟩) nn cap/\nn=vs.length+1/\jL w.heap.size w wr c (.slice (some ⟨g,0,none⟩) nn cap) pv vs I mk l/\qj (gK ls) ms u (I++[(mk,l)])=nP (gK ls) ms t/\u.size<=t.size/\l.length+u.size<=4000/\nn+u.size<=4001) (fun v1 _ _=>ai3 v1)
 case atStart=>
  exact⟨t,_,w.heap.size,1,1,.slice none 0 0,[],[],⟨#[]⟩,[],rfl,rfl,rfl,Ud w,rfl,ai _,by simpa using HT.out,by have:=HT.out;omega⟩
 case round=>
  obtain⟨u,c,g,nn,cap,pv,vs,I,mk,l,rfl,rfl,hnn,hp,hpa,hus,hls,hns⟩:=hrel;have HP:=aV hp;have Jf:=aV hpa;have GY:=aV hnn;have lJ:=aV hp.below;clear hp hpa hnn;have hUS:=kG u
  have FR:Hid ((bI u).size=0->nP (gK ls) ms t=.ok (I++[(mk,l)])):=fun h=>Jf.out.symm.trans (Ub _ _ _ _ h)
  have ahC:Hid ((bI u).size≠0->jM (bI u)=⟨#[]⟩->(nP (gK ls) ms t=match qY (gK ls) ((bI u).extract 0 (kP (bI u))) with
   |.error e=>.error e
   |.ok p=>qj (gK ls) ms ((bI u).extract (kP (bI u)) (bI u).size) (I++[(mk,l++[p])]))/\1<=kP (bI u)/\kP (bI u)<=(bI u).size):=fun h1 h2=>⟨by
    rw[<-Jf.out,QN _ _ _ _ h1 h2]
    cases qY (gK ls) ((bI u).extract 0 (kP (bI u))) with
    |error e=>rfl
    |ok p=>simp only[EB],yK u h1 h2⟩
  have ahs:Hid ((bI u).size≠0->jM (bI u)≠⟨#[]⟩->(nP (gK ls) ms t=if fo (jM (bI u)) ms=true then qj (gK ls) ms ((bI u).extract (jM (bI u)).size (bI u).size) (I++[(mk,l)]++[(jM (bI u),[])]) else .error .syn)/\1<=(jM (bI u)).size/\(jM (bI u)).size<=(bI u).size):=fun h1 h2=>⟨by rw[<-Jf.out,QM _ _ _ _ h1 h2],Cw h2⟩
  have XD:Hid (∀wx,Calls Tryz.prog 191 #[.string u] wx fun e w'=>e=.returned (.string (bI u))/\w'=wx):=fun wx=>gM u wx
  generalize bI u=U at*
  have HMO:Hid (∀wx,Calls Tryz.prog 319 #[.string U] wx fun e w'=>e=.returned (.string (jM U))/\w'=wx):=fun wx=>WJ U wx
  generalize jM U=MK at*;have hnU:=qR U;have hnM:=qR MK
  by_cases hU:U.size=0
  ·have HF:=aV (FR.out hU);rw[bT hU] at hnU
   go_wp2_with fail
   refine(XD.out _).mono ?_;rintro e w1 ⟨rfl,rfl⟩
   go_wp2_with fail
   refine(HMO.out _).mono ?_;rintro e w1 ⟨rfl,rfl⟩
   go_wp2_with fail
   go_ret;exact⟨by rw[HF.out];exact⟨_,rfl,HP.out.done⟩,lJ.out⟩
  rw[bM hU] at hnU
  by_cases hM:MK=⟨#[]⟩
  ·obtain⟨hst,apB,aiH⟩:=ahC.out hU hM;obtain rfl:=hM
   have HFI:Hid (∀wx,Calls Tryz.prog 265 #[.string U,.string ⟨#[32,58,124]⟩] wx fun e w'=>e=.returned (.int .i64 ((kP U:Nat):Int))/\w'=wx):=fun wx=>Dm Kz U ⟨#[32,58,124]⟩ adR (by have:=HT.out;omega) wx
   have HST:Hid (nP (gK ls) ms t=match qY (gK ls) (U.extract 0 (kP U)) with
    |.error e=>.error e
    |.ok p=>qj (gK ls) ms (U.extract (kP U) U.size) (I++[(mk,l++[p])])):=hst
   generalize kP U=PE at*
   have hs1:∀wx,(Instr.slice 9 (.string U) none (some (.int .i64 PE)) none).run Tryz.prog wx=.ok (.string (U.extract 0 PE)) wx:=fun wx=>qH U PE aiH wx
   have hs2:∀wx,(Instr.slice 9 (.string U) (some (.int .i64 PE)) none none).run Tryz.prog wx=.ok (.string (U.extract PE U.size)) wx:=fun wx=>nQ U PE aiH wx
   have wX:Hid ((U.extract PE U.size).size+1<=u.size):=by show _<=_;rw[aM];omega
   have HX:=HRP.out wr.drew (U.extract 0 PE) lJ.out.drew (by rw[aM];have:=HT.out;omega);have hS:=HP.out.secs;rw[<-GY.out] at hS;have hcell:=dV hS (vs.length*2+1) pv (GQ (l:=vs++[(mk,pv)]) (i:=vs.length) (x:=(mk,pv)) eB).2;have c1:=hcell.1;have f1:=hcell.2;have hgw:g<wr.heap.size:=aG c1
   have hw0:IntKind.i64.wrap ((nn:Int)-1)=(vs.length:Int):=by rw[gP];have:=GY.out;omega
   have hi1:(vs.length:Int)<(nn:Int):=by have:=GY.out;omega
   have hi0:(0:Int)<=(vs.length:Int):=aJ
   clear hst hcell hnM hS;generalize U.extract 0 PE=PT at*;generalize U.extract PE U.size=RT at*;obtain⟨VL,hVL⟩:∃VL,VL=vs.length:=⟨_,rfl⟩;have HVL:=aV hVL;rw[<-hVL] at c1 f1 hw0 hi1 hi0;clear hVL
   cases hp:qY (gK ls) PT with
   |error b=>
    have HF:Hid (nP (gK ls) ms t=.error b):=by rw[HST.out,hp];rfl
    rw[hp] at HX
    go_wp2_with fail
    refine(XD.out _).mono ?_;rintro e w1 ⟨rfl,rfl⟩
    go_wp2_with fail
    refine(HMO.out _).mono ?_;rintro e w2 ⟨rfl,rfl⟩
    go_wp2_with fail
    refine(HFI.out _).mono ?_;rintro e w3 ⟨rfl,rfl⟩
    go_wp2_with fail
    go_region_with (go_at_call 320;refine HX.mono ?_;rintro e w8 ⟨hst,mH⟩;obtain⟨b',rfl,s0,s1⟩:=hst;refine uo ⟨rfl,(by rw[HF.out];exact⟨b',rfl,s0,s1⟩),lJ.out.drew.trans (mH.mono lJ.out.size)⟩ w ?_)
    all_goals trivial
   |ok p=>
    have HF:Hid (nP (gK ls) ms t=qj (gK ls) ms RT (I++[(mk,l++[p])])):=by rw[HST.out,hp];rfl
    rw[hp] at HX
    go_wp2_with fail
    refine(XD.out _).mono ?_;rintro e w1 ⟨rfl,rfl⟩
    go_wp2_with fail
    refine(HMO.out _).mono ?_;rintro e w2 ⟨rfl,rfl⟩
    go_wp2_with fail
    refine(HFI.out _).mono ?_;rintro e w3 ⟨rfl,rfl⟩
    go_wp2_with fail
    refine jX dD ?_;change wpAny _ _ _ _ _ _ _ (World.drew _);refine uA 0 (.pointer (some ⟨g,VL*2,none⟩)) rfl<|uA 1 (.pointer (some ⟨g,VL*2,none⟩)) rfl<|uA 2 (.pointer (some ⟨g,VL*2,none⟩)) rfl<|uA 3 (.pointer (some ⟨g,VL*2+1,none⟩)) rfl<|uA 5 (.pointer (some ⟨rb,0,none⟩)) rfl<|uA 6 (.string U) rfl<|uA 7 (.int .i64 PE) rfl<|uA 8 (.string PT) rfl ?_
    refine pA 4 9 rfl rfl (fun K hK=>?_) fun K hK=>?_
    ·go_simp;refine hK _ _ ?_;clear hK K
     refine rA 9 rfl fun K hK=>?_
     go_simp
     go_wp2_with (go_at_call 320;refine HX.mono ?_;rintro e w8 ⟨rfl,mH⟩)
     have MH:Hid (jL w.heap.size w (w8.alloc (.cells #[.string p] 9)) c (.slice (some ⟨g,0,none⟩) nn cap) pv vs I mk l):=((HP.out.later (ay _ _).drew lJ.out.size).later mH lJ.out.size).later ((ay _ _).alloc (ai _) _) (aC lJ.out.size mH.size);have Gr:w.heap.size<=w8.heap.size:=aC lJ.out.size mH.size;clear mH f1;clear c1
     refine rA 10 rfl fun K hK=>?_
     go_simp;refine hK _ _ ?_;clear hK K
     refine rA 11 rfl fun K hK=>?_
     refine step_append_lies _ rfl (.tmp 50) (.tmp 56) 32 rfl w.heap.size 9 tj (.string ⟨#[]⟩) 1 16 Tryz.underlying32 HTJ.out.1 HTJ.out.2.2.2 HTJ.out.2.1 HTJ.out.2.2.1 rfl bS _ l.length (l.map Value.string) rfl MH.out.last ⟨w8.heap.size,0,none⟩ 1 1 [.string p] rfl rfl (by exact iM w8 _ _) (by intro u hu;simp only[bg,dH,kz] at hu;subst hu;rfl) bS (by unfold maxLen;omega) aJ (by simp;omega) _ rfl ?_;intro g6 cap6 w6 hv6 hg6 hat6 hlt6;have ET:=MH.out.still GY.out hg6;rw[<-HVL.out] at ET;have c6:=ET.1;have f6:=ET.2
     have HM:Hid (∃c',jL w.heap.size w (w6.setCell ⟨g,VL*2+1,none⟩ (.slice (some ⟨g6,0,none⟩) (l.length+1) cap6)) c' (.slice (some ⟨g,0,none⟩) nn cap) (.slice (some ⟨g6,0,none⟩) (l.length+1) cap6) vs I mk (l++[p])):=by
      rw[HVL.out];refine MH.out.add GY.out hg6 hv6 ?_ (by simp;omega);intro k hk;have e:g6=k:=ax hk;subst e
      rcases hat6 with e2|e2
      ·exact aK e2
      right;rw[e2];exact ai _
     clear hv6 hg6 hat6 hlt6 ET;refine hK _ _ ?_;clear hK K;refine uA 12 (.pointer (some ⟨g,VL*2,none⟩)) rfl<|uA 13 (.pointer (some ⟨g,VL*2+1,none⟩)) rfl ?_
     refine rA 14 rfl fun K hK=>?_
     go_simp;refine hK _ _ ?_;clear hK K;refine yR dD ?_ _;generalize hw7:w6.setCell ⟨g,VL*2+1,none⟩ (.slice (some ⟨g6,0,none⟩) (l.length+1) cap6)=w7 at*;clear hw7 c6 f6
     go_wp2_with fail
     obtain⟨c',hc'⟩:=HM.out;exact⟨⟨RT,c',g,nn,cap,.slice (some ⟨g6,0,none⟩) (l.length+1) cap6,vs,I,mk,l++[p],rfl,rfl,GY.out,hc',HF.out.symm,by have:=wX.out;omega,by have:=wX.out;rw[aI];show l.length+1+_<=_;omega,by have:=wX.out;omega⟩,by have:=wX.out;show RT.size<u.size;omega⟩
    go_simp
    go_wp2_with (go_at_call 320;refine HX.mono ?_;rintro e w8 ⟨rfl,mH⟩)
    have c8:w8.cell? ⟨g,VL*2+1,none⟩=some pv:=(mH.cell (p:=⟨g,VL*2+1,none⟩) hgw).trans c1;have l8:g<w8.heap.size:=aB hgw mH.size
    refine pA 4 10 rfl rfl (fun K hK=>?_) fun K hK=>?_
    ·go_simp;refine hK _ _ ?_;clear hK K c8;have MH:Hid (jL w.heap.size w (w8.alloc (.cells #[.string p] 9)) c (.slice (some ⟨g,0,none⟩) nn cap) pv vs I mk l):=((HP.out.later (ay _ _).drew lJ.out.size).later mH lJ.out.size).later ((ay _ _).alloc (ai _) _) (aC lJ.out.size mH.size);have Gr:w.heap.size<=w8.heap.size:=aC lJ.out.size mH.size;clear mH f1;clear c1
     refine rA 10 rfl fun K hK=>?_
     go_simp;refine hK _ _ ?_;clear hK K
     refine rA 11 rfl fun K hK=>?_
     refine step_append_lies _ rfl (.tmp 50) (.tmp 56) 32 rfl w.heap.size 9 tj (.string ⟨#[]⟩) 1 16 Tryz.underlying32 HTJ.out.1 HTJ.out.2.2.2 HTJ.out.2.1 HTJ.out.2.2.1 rfl bS _ l.length (l.map Value.string) rfl MH.out.last ⟨w8.heap.size,0,none⟩ 1 1 [.string p] rfl rfl (by exact iM w8 _ _) (by intro u hu;simp only[bg,dH,kz] at hu;subst hu;rfl) bS (by unfold maxLen;omega) aJ (by simp;omega) _ rfl ?_;intro g6 cap6 w6 hv6 hg6 hat6 hlt6;have ET:=MH.out.still GY.out hg6;rw[<-HVL.out] at ET;have c6:=ET.1;have f6:=ET.2
     have HM:Hid (∃c',jL w.heap.size w (w6.setCell ⟨g,VL*2+1,none⟩ (.slice (some ⟨g6,0,none⟩) (l.length+1) cap6)) c' (.slice (some ⟨g,0,none⟩) nn cap) (.slice (some ⟨g6,0,none⟩) (l.length+1) cap6) vs I mk (l++[p])):=by
      rw[HVL.out];refine MH.out.add GY.out hg6 hv6 ?_ (by simp;omega);intro k hk;have e:g6=k:=ax hk;subst e
      rcases hat6 with e2|e2
      ·exact aK e2
      right;rw[e2];exact ai _
     clear hv6 hg6 hat6 hlt6 ET;refine hK _ _ ?_;clear hK K;refine uA 12 (.pointer (some ⟨g,VL*2,none⟩)) rfl<|uA 13 (.pointer (some ⟨g,VL*2+1,none⟩)) rfl ?_
     refine rA 14 rfl fun K hK=>?_
     go_simp;refine hK _ _ ?_;clear hK K;refine yR dD ?_ _;generalize hw7:w6.setCell ⟨g,VL*2+1,none⟩ (.slice (some ⟨g6,0,none⟩) (l.length+1) cap6)=w7 at*;clear hw7 c6 f6
     go_wp2_with fail
     obtain⟨c',hc'⟩:=HM.out;exact⟨⟨RT,c',g,nn,cap,.slice (some ⟨g6,0,none⟩) (l.length+1) cap6,vs,I,mk,l++[p],rfl,rfl,GY.out,hc',HF.out.symm,by have:=wX.out;omega,by have:=wX.out;rw[aI];show l.length+1+_<=_;omega,by have:=wX.out;omega⟩,by have:=wX.out;show RT.size<u.size;omega⟩
    go_simp;refine hK _ _ ?_;clear hK K;have MH:Hid (jL w.heap.size w (w8.alloc (.cells #[.string p] 9)) c (.slice (some ⟨g,0,none⟩) nn cap) pv vs I mk l):=((HP.out.later (ay _ _).drew lJ.out.size).later mH lJ.out.size).later ((ay _ _).alloc (ai _) _) (aC lJ.out.size mH.size);have Gr:w.heap.size<=w8.heap.size:=aC lJ.out.size mH.size;clear mH f1
    refine rA 4 rfl fun K hK=>?_
    go_simp;refine hK _ _ ?_;clear hK K c8 c1
    refine rA 11 rfl fun K hK=>?_
    refine step_append_lies _ rfl (.tmp 50) (.tmp 56) 32 rfl w.heap.size 9 tj (.string ⟨#[]⟩) 1 16 Tryz.underlying32 HTJ.out.1 HTJ.out.2.2.2 HTJ.out.2.1 HTJ.out.2.2.1 rfl bS _ l.length (l.map Value.string) rfl MH.out.last ⟨w8.heap.size,0,none⟩ 1 1 [.string p] rfl rfl (by exact iM w8 _ _) (by intro u hu;simp only[bg,dH,kz] at hu;subst hu;rfl) bS (by unfold maxLen;omega) aJ (by simp;omega) _ rfl ?_;intro g6 cap6 w6 hv6 hg6 hat6 hlt6;have ET:=MH.out.still GY.out hg6;rw[<-HVL.out] at ET;have c6:=ET.1;have f6:=ET.2
    have HM:Hid (∃c',jL w.heap.size w (w6.setCell ⟨g,VL*2+1,none⟩ (.slice (some ⟨g6,0,none⟩) (l.length+1) cap6)) c' (.slice (some ⟨g,0,none⟩) nn cap) (.slice (some ⟨g6,0,none⟩) (l.length+1) cap6) vs I mk (l++[p])):=by
     rw[HVL.out];refine MH.out.add GY.out hg6 hv6 ?_ (by simp;omega);intro k hk;have e:g6=k:=ax hk;subst e
     rcases hat6 with e2|e2
     ·exact aK e2
     right;rw[e2];exact ai _
    clear hv6 hg6 hat6 hlt6 ET;refine hK _ _ ?_;clear hK K;refine uA 12 (.pointer (some ⟨g,VL*2,none⟩)) rfl<|uA 13 (.pointer (some ⟨g,VL*2+1,none⟩)) rfl ?_
    refine rA 14 rfl fun K hK=>?_
    go_simp;refine hK _ _ ?_;clear hK K;refine yR dD ?_ _;generalize hw7:w6.setCell ⟨g,VL*2+1,none⟩ (.slice (some ⟨g6,0,none⟩) (l.length+1) cap6)=w7 at*;clear hw7 c6 f6
    go_wp2_with fail
    obtain⟨c',hc'⟩:=HM.out;exact⟨⟨RT,c',g,nn,cap,.slice (some ⟨g6,0,none⟩) (l.length+1) cap6,vs,I,mk,l++[p],rfl,rfl,GY.out,hc',HF.out.symm,by have:=wX.out;omega,by have:=wX.out;rw[aI];show l.length+1+_<=_;omega,by have:=wX.out;omega⟩,by have:=wX.out;show RT.size<u.size;omega⟩
  obtain⟨hst,hz1,hz2⟩:=ahs.out hU hM
  have hM0:¬MK.size=0:=aJ
  rw[bM hM0] at hnM;have c4:=HC4.out wr lJ.out
  cases hb:fo MK ms with
  |false=>
   rw[hb,aA bS] at hst;have HF:=aV hst;have HCF:=HCT.out wr.drew MK lJ.out.drew;rw[hb] at HCF;have HCF:=aV HCF;clear hst
   go_wp2_with fail
   refine(XD.out _).mono ?_;rintro e w1 ⟨rfl,rfl⟩
   go_wp2_with fail
   refine(HMO.out _).mono ?_;rintro e w2 ⟨rfl,rfl⟩
   go_wp2_with fail
   go_region_with (first|(go_at_call 321;refine HCF.out.mono ?_;rintro e w8 ⟨rfl,rfl⟩)|(go_at_call 112;refine(uT.out _ lJ.out.drew).mono ?_;rintro e w8 ⟨hst,mH⟩;obtain⟨b,rfl,s0,s1⟩:=hst;refine uo ⟨rfl,(by rw[HF.out];exact⟨b,rfl,s0,s1⟩),mH⟩ w ?_))
   all_goals trivial
  |true=>
   rw[hb,aH rfl] at hst;have HF:=aV hst;have HCF:=HCT.out wr.drew MK lJ.out.drew;rw[hb] at HCF;have HCF:=aV HCF;clear hst
   have hsl:∀wx,(Instr.slice 9 (.string U) (some (.int .i64 MK.size)) none none).run Tryz.prog wx=.ok (.string (U.extract MK.size U.size)) wx:=fun wx=>nQ U MK.size hz2 wx
   have wX:Hid ((U.extract MK.size U.size).size+1<=u.size):=by show _<=_;rw[aM];omega
   go_wp2_with fail
   refine(XD.out _).mono ?_;rintro e w1 ⟨rfl,rfl⟩
   go_wp2_with fail
   refine(HMO.out _).mono ?_;rintro e w2 ⟨rfl,rfl⟩
   go_wp2_with fail
   go_region_with (first|(go_at_call 321;refine HCF.out.mono ?_;rintro e w8 ⟨rfl,rfl⟩)|(go_at_call 112;refine(gL _ _ _).mono ?_;rintro e w8 ⟨rfl,rfl⟩))
   all_goals
    obtain⟨w3,hw3⟩:∃w3,w3=w2.drew:=⟨_,rfl⟩;rw[<-hw3]
    have Es:Hid (jL w.heap.size w w3 c (.slice (some ⟨g,0,none⟩) nn cap) pv vs I mk l):=by rw[hw3];exact HP.out.later (ay _ _).drew lJ.out.size
    have HS3:Hid (w3.ownsRow w.heap.size 399 2 (.slice (some ⟨g,0,none⟩) nn cap) nn (sM (vs++[(mk,pv)]))):=by
     have h:=Es.out.secs;rw[<-GY.out] at h;exact h
    have hW3:w.heap.size<=w3.heap.size:=Es.out.below.size;clear hw3 c4
    go_wp2_with (at_builtin;refine wpList_append_lies _ rfl (.tmp 23) (.tmp 26) 396 rfl w.heap.size 399 ti (.agg #[.string ⟨#[]⟩,.slice none 0 0]) 2 40 Tryz.underlying396 HTI.out.1 HTI.out.2.2.2 HTI.out.2.1 HTI.out.2.2.1 rfl bS _ nn (sM (vs++[(mk,pv)])) rfl (by exact dR HS3.out (fun k hk=>bC w3 _ k (bF HS3.out k hk).2)) ⟨w3.heap.size,0,none⟩ 1 1 [.string MK,.slice none 0 0] rfl rfl (by exact iM w3 _ _) (by intro u hu;simp only[bg,dH,kz] at hu;rcases hu with rfl|rfl<;>rfl) bS (by unfold maxLen;omega) aJ (by simp;omega) _ rfl ?_;intro g6 cap6 w6 hv6 hg6 hat6 hlt6;refine dO ?_)
    have HM:Hid (∃c',jL w.heap.size w w6 c' (.slice (some ⟨g6,0,none⟩) (nn+1) cap6) (.slice none 0 0) (vs++[(mk,pv)]) (I++[(mk,l)]) MK []):=by
     refine(Es.out.later ((ay _ _).alloc (ai _) _) hW3).more hg6 ?_ ?_ (by simp;omega)
     ·rw[zD];have h:=hv6;rw[GY.out] at h⊢;exact h
     intro k hk;have e:g6=k:=ax hk;subst e
     rcases hat6 with e2|e2
     ·exact aK e2
     right;rw[e2];exact ai _
    clear hv6 hg6 hat6 hlt6;unfold Hid
    go_wp2_with fail
    obtain⟨c',hc'⟩:=HM.out;exact⟨⟨U.extract MK.size U.size,c',g6,nn+1,cap6,.slice none 0 0,vs++[(mk,pv)],I++[(mk,l)],MK,[],rfl,rfl,by rw[aI,GY.out];rfl,hc',HF.out.symm,by have:=wX.out;omega,by have:=wX.out;show 0+_<=_;omega,by have:=wX.out;omega⟩,by have:=wX.out;show(U.extract MK.size U.size).size<u.size;omega⟩
end
def oQ(s:jm):Nat:=(s.map fun x=>x.2.length).sum
theorem zi(a b:jm):oQ (a++b)=oQ a+oQ b:=by unfold oQ;rw[iI,adj]
theorem vg:∀{s:jm} {x:ah×List ah},x∈s->x.2.length<=oQ s
 |y::s,x,h=>by
  have e:oQ (y::s)=y.2.length+oQ s:=by unfold oQ;simp
  rcases bg.1 h with rfl|h
  ·omega
  have:=vg h;omega
structure qy(ms:List ah)(s:jm):Prop where
 ne:s≠[]
 names:∀x∈s,∀y∈x.2,y.size<=32
 first:(s.head?.map (·.1))=some ⟨#[]⟩
 marks:∀x∈s.tail,fo x.1 ms=true
variable {ms:List ah}{s:jm}
theorem qy.uh(h:qy ms s){p:ah}(hp:p.size<=32):qy ms (uh s p)/\oQ (uh s p)=oQ s+1/\(uh s p).length=s.length:=by
 rcases tV s with h0|⟨I,x,rfl⟩
 ·exact absurd h0 h.ne
 obtain⟨mk,l⟩:=x;rw[tQ] at*;rw[EB];refine⟨⟨eB,fun x hx y hy=>?_,?_,fun x hx=>?_⟩,?_,eB⟩
 ·rcases bQ.1 hx with hx|hx
  ·exact h.names x (fD _ hx) y hy
  obtain rfl:=bD.1 hx
  rcases bQ.1 hy with hy|hy
  ·exact h.names (mk,l) eB y hy
  obtain rfl:=bD.1 hy;exact hp
 ·have:=h.first
  cases I with
  |nil=>exact this
  |cons z I=>exact this
 ·cases I with
  |nil=>cases hx
  |cons z I=>
   rcases bQ.1 (show x∈I++[(mk,l++[p])] from hx) with hx|hx
   ·exact h.marks x (show x∈I++[(mk,l)] from fD _ hx)
   obtain rfl:=bD.1 hx;exact h.marks (mk,l) (show(mk,l)∈I++[(mk,l)] by simp)
 rw[zi,zi];unfold oQ
 simp
 omega
theorem qy.ado(h:qy ms s){m:ah}(hm:fo m ms=true):qy ms (s++[(m,[])])/\oQ (s++[(m,[])])=oQ s:=by
 refine⟨⟨eB,fun x hx y hy=>?_,?_,fun x hx=>?_⟩,?_⟩
 ·rcases bQ.1 hx with hx|hx
  ·exact h.names x hx y hy
  obtain rfl:=bD.1 hx
  cases hy
 ·have:=h.first
  cases s with
  |nil=>exact absurd rfl h.ne
  |cons z I=>exact this
 ·cases s with
  |nil=>exact absurd rfl h.ne
  |cons z I=>
   rcases bQ.1 (show x∈I++[(m,[])] from hx) with hx|hx
   ·exact h.marks x hx
   obtain rfl:=bD.1 hx;exact hm
 rw[zi];rfl
variable {E:ah->ah}{t:ah}
theorem Xb{p:ah}(h:qY E t=.ok p):p.size<=32:=by
 unfold qY at h
 split at h
 ·cases h
 split at h
 ·rename_i hk
  injection h with h;subst h;unfold mP at hk;simp only[rf] at hk;have:=fI (show eU _=true from hk.1.1);exact this.2.1
 cases h
theorem AL(E:ah->ah)(ms:List ah):∀(g:Nat) (u:ah) (a s:jm),jN E ms g u a=.ok s->qy ms a->qy ms s/\oQ s<=oQ a+u.size/\s.length<=a.length+u.size
 |0,u,a,s,h,ha=>by
  rw[jN] at h;injection h with h;subst h;exact⟨ha,aJ,aJ⟩
 |g+1,u,a,s,h,ha=>by
  have hle:=kG u;rw[jN] at h
  by_cases h0:(bI u).size=0
  ·rw[aH h0] at h;injection h with h;subst h;exact⟨ha,aJ,aJ⟩
  rw[aA h0] at h
  by_cases hm:jM (bI u)=⟨#[]⟩
  ·rw[aH hm] at h;have hp:=yK u h0 hm
   cases hq:qY E ((bI u).extract 0 (kP (bI u))) with
   |error e=>rw[hq] at h;cases h
   |ok p=>
    rw[hq] at h;obtain⟨h1,h2,h3⟩:=ha.uh (Xb hq);obtain⟨h4,h5,h6⟩:=AL E ms g _ _ s h h1;rw[aM] at h5 h6;exact⟨h4,aJ,aJ⟩
  rw[aA hm] at h;have hz:=Cw hm
  by_cases hb:fo (jM (bI u)) ms=true
  ·rw[aH hb] at h;obtain⟨h1,h2⟩:=ha.ado hb;obtain⟨h4,h5,h6⟩:=AL E ms g _ _ s h h1;rw[aM] at h5 h6;rw[aI] at h6;refine⟨h4,aJ,?_⟩;have:([(jM (bI u),([]:List ah))]:jm).length=1:=rfl;omega
  rw[aA hb] at h
  cases h
theorem xK(h:nP E ms t=.ok s):qy ms s/\oQ s<=t.size/\s.length<=1+t.size:=by
 have ha:qy ms [(⟨#[]⟩,[])]:=⟨eB,(fun x hx y hy=>by obtain rfl:=bD.1 hx;cases hy),rfl,(fun x hx=>by cases hx)⟩;obtain⟨h1,h2,h3⟩:=AL E ms _ t _ s h ha;have e:oQ [(⟨#[]⟩,[])]=0:=rfl;exact⟨h1,aJ,by simpa using h3⟩
theorem qy.iL(h:qy ms s):∃x,s[0]?=some x/\iL s=x.2/\x∈s:=by
 cases s with
 |nil=>exact absurd rfl h.ne
 |cons x s=>exact⟨x,rfl,rfl,aQ⟩
section
open Go.RowKit Go.Shelf
theorem LD:∀(s:jm) (k:Nat) (x y:ah×List ah),s[k]?=some x->s[k+1]?=some y->¬x.1.size<y.1.size->qU s=false
 |[],k,x,y,h,_,_=>by simp at h
 |[z],k,x,y,_,h,_=>by simp at h
 |z::z2::l,0,x,y,h1,h2,h3=>by
  simp only[jq,Option.some.injEq] at h1;simp only[iK,jq,Option.some.injEq] at h2;subst h1 h2;rw[qU,bM h3];rfl
 |z::z2::l,k+1,x,y,h1,h2,h3=>by
  rw[qU,LD (z2::l) k x y (by simpa using h1) (by simpa using h2) h3,Po]
theorem LC:∀(s:jm),(∀(k:Nat) x y,s[k]?=some x->s[k+1]?=some y->x.1.size<y.1.size)->qU s=true
 |[],_=>rfl
 |[z],_=>rfl
 |z::z2::l,h=>by
  rw[qU,bT (h 0 z z2 rfl rfl),LC (z2::l) (fun k x y h1 h2=>h (k+1) x y (by simpa using h1) (by simpa using h2))];rfl
variable {W0:Nat}{w:ak}{v:Value}
theorem rD.cell(h:rD W0 w v s):∃g cap,v=.slice (some ⟨g,0,none⟩) s.length cap/\s.length<=cap/\∀(i:Nat) y,s[i]?=some y->∃pv,w.cell? ⟨g,i*2,none⟩=some (.string y.1)/\w.cell? ⟨g,i*2+1,none⟩=some pv/\gJ W0 w pv y.2:=by
 obtain⟨g,cap,rfl,hc,vs,hs,hcell⟩:=h;refine⟨g,cap,rfl,hc,fun i y hy=>?_⟩
 have hi:i<vs.length:=by rw[hs.1];exact(aN.1 hy).1
 have hx:vs[i]?=some vs[i]:=fe hi;obtain⟨e,ht⟩:=hs.2 i _ y hx hy;have:=hcell i _ hx;exact⟨_,by rw[<-e];exact this.1,this.2,ht⟩
variable {w':ak}{l:List ah}
theorem gJ.keep(h:gJ W0 w v l)(hb:∀k,k<w.heap.size->w'.heap[k]?=w.heap[k]?):gJ W0 w' v l:=by
 refine⟨?_,h.2⟩;obtain⟨ao,cap,rfl,hc,q|⟨b,o,rfl,q⟩⟩:=h.1
 ·exact⟨ao,cap,rfl,hc,aK q⟩
 exact⟨_,cap,rfl,hc,aP ⟨b,o,rfl,fun k s hs=>(aF (w:=w) (a:=⟨b,o+k,none⟩) (hb b (aG (q k s hs)))).trans (q k s hs)⟩⟩
theorem rD.keep(h:rD W0 w v s)(hb:∀k,k<w.heap.size->w'.heap[k]?=w.heap[k]?):rD W0 w' v s:=by
 obtain⟨g,cap,rfl,hc,vs,hs,hcell⟩:=h;refine⟨g,cap,rfl,hc,vs,⟨hs.1,fun k x y hx hy=>⟨(hs.2 k x y hx hy).1,(hs.2 k x y hx hy).2.keep hb⟩⟩,fun i x hx=>?_⟩;obtain⟨h1,h2⟩:=hcell i x hx;exact⟨(aF (w:=w) (a:=⟨g,i*2,none⟩) (hb g (aG h1))).trans h1,(aF (w:=w) (a:=⟨g,i*2+1,none⟩) (hb g (aG h2))).trans h2⟩
theorem Xi(W0:Nat)(s:jm)(v:Value)(w:ak)(h:rD W0 w v s)(hs:s.length<=5000)(hm:∀x∈s,x.1.size<=5000):
  Calls Tryz.prog 267 #[v] w fun e w'=>e=.returned (.bool (qU s))/\∃q,w'=w.drewN q:=by
 obtain⟨g,cap,rfl,hc,hcell⟩:=h.cell;have HC:=aV hcell;have HM:=aV hm
 have n0:(s.length:Int)<=5000:=aJ
 clear h hcell hm;generalize hL:s.length=L at*;have HL:=aV hL;clear hL
 go_enter Tryz.func267,Tryz.ntmps267
 go_wp2_with fail
 go_loopw [3] (fun i wr=>∃j:Nat,i=.int .i64 ((j:Int)+1)/\(j<=L)/\(∀(k:Nat) x y,k<j->s[k]?=some x->s[k+1]?=some y->x.1.size<y.1.size)/\∃q,wr=w.drewN q) (fun i _=>L+1-(intOf i).toNat)
 case atStart=>exact⟨0,rfl,aS _,fun k x y hk=>aJ,0,rfl⟩
 case round=>
  obtain⟨j,rfl,hle,hag,hbq⟩:=hrel;have HBQ:=aV hbq
  have hbw:Below w.heap.size w wr:=by obtain⟨q,rfl⟩:=hbq;exact di (ay _ _) q
  have Br:Hid (∃q,wr.drew=w.drewN q):=by obtain⟨q,hq⟩:=hbq;exact⟨q+1,by rw[hq];rfl⟩
  clear hbq;have Rl:=aV hag;have lJ:=aV hbw;clear hag hbw
  by_cases hlt:j+1<L
  ·obtain⟨x,hx⟩:∃x,s[j]?=some x:=⟨s[j]'(by have:=HL.out;omega),eB⟩;obtain⟨y,hy⟩:∃y,s[j+1]?=some y:=⟨s[j+1]'(by have:=HL.out;omega),eB⟩;obtain⟨_,cx,_,_⟩:=HC.out j x hx;obtain⟨_,cy,_,_⟩:=HC.out (j+1) y hy;have c1:wr.cell? ⟨g,j*2,none⟩=some (.string x.1):=(lJ.out.cell (p:=⟨g,j*2,none⟩) (aG cx)).trans cx;have c2:wr.cell? ⟨g,(j+1)*2,none⟩=some (.string y.1):=(lJ.out.cell (p:=⟨g,(j+1)*2,none⟩) (aG cy)).trans cy;have hxs:=HM.out x (aU hx);have hys:=HM.out y (aU hy);have HXY:=aV (aO hx hy);clear cx cy hx hy;obtain⟨J,hJ⟩:∃J,J=j+1:=⟨_,rfl⟩;rw[<-hJ] at c2
   have e1:(j:Int)+1=(J:Int):=aJ
   rw[e1]
   have hw0:IntKind.i64.wrap ((J:Int)-1)=(j:Int):=by rw[gP];omega
   have i0:(0:Int)<=(J:Int):=aJ
   have i1:(J:Int)<(L:Int):=aJ
   have i2:(0:Int)<=(j:Int):=aJ
   have i3:(j:Int)<(L:Int):=aJ
   have HJ:=aV hJ;clear hJ e1;obtain⟨x1,x2⟩:=x;obtain⟨y1,y2⟩:=y;simp only at c1 c2 hxs hys
   by_cases hxy:x1.size<y1.size
   ·have HR:Hid (∀(k:Nat) x y,k<j+1->s[k]?=some x->s[k+1]?=some y->x.1.size<y.1.size):=fun k x y hk h1 h2=>by
     rcases bX k j with q|q
     ·exact Rl.out k x y q h1 h2
     obtain rfl:k=j:=aJ
     rw[HXY.out.1] at h1;rw[HXY.out.2] at h2;obtain rfl:=ax h1;obtain rfl:=ax h2;exact hxy
    have t1:¬(y1.size:Int)<=(x1.size:Int):=aJ
    go_wp2_with fail
    go_region
    all_goals
     go_wp2_with fail
     exact⟨⟨j+1,by rw[HJ.out],aJ,HR.out,Br.out⟩,by simp[intOf];omega⟩
   have HR:Hid (qU s=false):=LD s j _ _ HXY.out.1 HXY.out.2 hxy
   have t1:(y1.size:Int)<=(x1.size:Int):=aJ
   go_wp2_with fail
   go_region
   all_goals
    go_wp2_with fail
    go_ret;exact⟨by rw[HR.out];rfl,Br.out⟩
  have HR:Hid (qU s=true):=LC s (fun k x y h1 h2=>Rl.out k x y (by have:=(aN.1 h2).1;have:=HL.out;omega) h1 h2)
  have i1:¬(j:Int)+1<(L:Int):=aJ
  go_wp2_with fail
  go_ret;exact⟨by rw[HR.out];rfl,HBQ.out⟩
theorem wS(W0:Nat)(s:jm)(v:Value)(m:ah)(w0 w:ak)(h:rD W0 w0 v s)(hb0:Below w0.heap.size w0 w)(hs:s.length<=5000):
  Calls Tryz.prog 268 #[v,.string m] w fun e w'=>∃pv,e=.returned pv/\gJ W0 w0 pv (fF s m)/\Below w.heap.size w w':=by
 obtain⟨g,cap,rfl,hc,hcell⟩:=h.cell
 have HC:Hid (∀(i:Nat) y,s[i]?=some y->∃pv,w.cell? ⟨g,i*2,none⟩=some (.string y.1)/\w.cell? ⟨g,i*2+1,none⟩=some pv/\gJ W0 w0 pv y.2):=fun i y hy=>by
  obtain⟨pv,q1,q2,q3⟩:=hcell i y hy;exact⟨pv,(hb0.cell (p:=⟨g,i*2,none⟩) (aG q1)).trans q1,(hb0.cell (p:=⟨g,i*2+1,none⟩) (aG q2)).trans q2,q3⟩
 have n0:(s.length:Int)<=5000:=aJ
 clear h hcell hb0;generalize hL:s.length=L at*;have HL:=aV hL;clear hL
 go_enter Tryz.func268,Tryz.ntmps268
 go_wp2_with fail
 go_loopw [9] (fun i wr=>∃j:Nat,i=.int .i64 j/\j<=L/\(∀(k:Nat) x,k<j->s[k]?=some x->x.1≠m)/\Below w.heap.size w wr) (fun i _=>L-(intOf i).toNat)
 case atStart=>exact⟨0,rfl,aS _,fun k x hk=>aJ,ay _ _⟩
 case round=>
  obtain⟨j,rfl,hle,hag,hbw⟩:=hrel;have Rl:=aV hag;have lJ:=aV hbw;clear hag hbw
  have j0:(0:Int)<=(j:Int):=aJ
  by_cases hlt:j<L
  ·have j1:(j:Int)<(L:Int):=aJ
   obtain⟨x,hx⟩:∃x,s[j]?=some x:=⟨s[j]'(by have:=HL.out;omega),eB⟩;obtain⟨pv,cx,cp,ht⟩:=HC.out j x hx;have c1:wr.cell? ⟨g,j*2,none⟩=some (.string x.1):=(lJ.out.cell (p:=⟨g,j*2,none⟩) (aG cx)).trans cx;have c2:wr.cell? ⟨g,j*2+1,none⟩=some pv:=(lJ.out.cell (p:=⟨g,j*2+1,none⟩) (aG cp)).trans cp;have CU:=aV ht;have HX:=aV hx
   obtain⟨ao,pn,pc,rfl⟩:∃ao n c,pv=.slice ao n c:=by obtain⟨ao,c,e,_⟩:=ht.1;exact⟨ao,_,c,e⟩
   clear cx cp ht hx;obtain⟨x1,x2⟩:=x;simp only at c1 c2 CU
   cases hq:(x1.toList==m.toList) with
   |true=>
    have HR:Hid (fF s m=x2):=by
     have e1:=xL hq;obtain⟨hk,he⟩:=aN.1 HX.out
     have:s.find? (fun x=>decide (x.1=m))=some (x1,x2):=List.find?_eq_some_iff_getElem.2 ⟨bT e1,j,hk,he,fun i hi=>by
      have:=Rl.out i s[i] hi eB
      simpa using this⟩
     show _=_;unfold fF;rw[this];rfl
    go_wp2_with fail
    go_ret;exact⟨_,rfl,by rw[HR.out];exact CU.out,lJ.out.alloc lJ.out.size _⟩
   |false=>
    have HR:Hid (∀(k:Nat) x,k<j+1->s[k]?=some x->x.1≠m):=fun k z hk hz=>by
     rcases bX k j with q|q
     ·exact Rl.out k z q hz
     obtain rfl:k=j:=aJ
     rw[HX.out] at hz;obtain rfl:=ax hz;exact Xr hq
    go_wp2_with fail
    exact⟨⟨j+1,oW,hlt,HR.out,lJ.out.alloc lJ.out.size _⟩,by simp[intOf];omega⟩
  have HR:Hid (fF s m=[]):=by
   have:s.find? (fun x=>decide (x.1=m))=none:=Dz.2 (fun z hz=>by
    obtain⟨k,hk,rfl⟩:=List.getElem_of_mem hz;have:=Rl.out k s[k] (by have:=HL.out;omega) eB
    simpa using this)
   show _=_;unfold fF;rw[this];rfl
  have j1:¬(j:Int)<(L:Int):=aJ
  go_wp2_with fail
  go_ret;exact⟨_,rfl,by rw[HR.out];exact⟨⟨none,0,rfl,ai _,aK ⟨fun _=>rfl,rfl,trivial⟩⟩,fun k hk=>by cases hk⟩,lJ.out⟩
end
section
open Go.RowKit Go.Maps
variable {p:PV}{a:Nat->Addr}{B rb m:Nat}{w:ak}{n:Int}{ls:List dQ}{S:St}{l:List ah}
theorem iF.adn{w3:ak}{vf':Value}(h:iF p a B w rb n ls S (m+1))(hg:w.grownBy w3 p.vf.ownBlock)(hr:w3.ownsRow B 9 1 vf' (S.defs.length+l.length) (S.defs.map Value.string++l.map Value.string))(hat:∀k,vf'.ownBlock=some k->p.vf.ownBlock=some k\/w.heap.size<=k)(hl:l.length<=4000):iF {p with vf:=vf',c:=fun k=>if vf'.ownBlock=some k then 6 else p.c k} a B (w3.setCell ⟨rb,6,none⟩ vf') rb n ls {S with defs:=S.defs++l} m:=by
 have hrb:=h.ql
 have hnv:∀k,k<w.heap.size->p.c k≠6->vf'.ownBlock≠some k:=fun k hk hc e=>by
  rcases hat k e with q|q
  ·exact hc (h.c6 k q)
  omega
 have hc':∀k,k<w.heap.size->p.c k≠6->(if vf'.ownBlock=some k then 6 else p.c k)=p.c k:=fun k hk hc=>aA (hnv k hk hc)
 have TP:∀k,k<w.heap.size->p.c k≠6->w3.heap[k]?=w.heap[k]?:=fun k hk hc=>hg.block k hk (fun e=>hc (h.c6 k e.symm))
 have off:∀k,k<w.heap.size->p.c k≠6->p.c k≠1->(w3.setCell ⟨rb,6,none⟩ vf').heap[k]?=w.heap[k]?:=fun k hk hc h1=>by
  rw[au _ _ _ _ (show k≠rb from fun e=>h1 (by rw[e];exact h.c1))];exact TP k hk hc
 have hsz:w.heap.size<=(w3.setCell ⟨rb,6,none⟩ vf').heap.size:=by simpa using hg.size
 exact {
  gl:=h.gl.keep hsz (fun k hk=>off k (aB hk h.gl.size) (by rw[h.low k (aB hk h.base)];decide) (by rw[h.low k (aB hk h.base)];decide))
  base:=h.base
  row:=by
   have h1:w3.heap[rb]?=_:=(TP rb hrb (by rw[h.c1];decide)).trans h.row;show(w3.setCell ⟨rb,6,none⟩ vf').heap[rb]?=_;rw[aR _ _ _ _ _ _ h1];rfl
  const:=h.const.step hsz (fun k hk h0=>⟨off k hk (by rw[h0];decide) (by rw[h0];decide),(hc' k hk (by rw[h0];decide)).trans h0⟩)
  top:=eu.keep h.top (off p.tb h.top.lt (by rw[h.c2];decide) (by rw[h.c2];decide))
  rules:=eu.keep h.rules (off p.rm h.rules.lt (by rw[h.c3];decide) (by rw[h.c3];decide))
  mlt:=aB h.mlt (hsz)
  made:=eu.keep h.made (off p.mm h.made.lt (by rw[h.c4];decide) (by rw[h.c4];decide))
  jR:=dR h.jR (fun k hk=>off k (bF h.jR k hk).2 (by rw[h.c5 k hk];decide) (by rw[h.c5 k hk];decide))
  defs:=by
   show World.ownsRow _ _ _ _ _ (S.defs++l).length ((S.defs++l).map Value.string);rw[aI,iI];exact dR hr (fun k hk=>au _ _ _ _ (show k≠rb from fun e=>hnv rb hrb (by rw[h.c1];decide) (by rw[<-e];exact hk)))
  c1:=(hc' rb hrb (by rw[h.c1];decide)).trans h.c1
  c2:=(hc' p.tb h.top.lt (by rw[h.c2];decide)).trans h.c2
  c3:=(hc' p.rm h.rules.lt (by rw[h.c3];decide)).trans h.c3
  c4:=(hc' p.mm h.made.lt (by rw[h.c4];decide)).trans h.c4
  c5:=fun k hk=>(hc' k (bF h.jR k hk).2 (by rw[h.c5 k hk];decide)).trans (h.c5 k hk)
  c6:=fun k hk=>aH hk
  low:=fun k hk=>by
   show(if vf'.ownBlock=some k then 6 else p.c k)=9;rw[aA (fun e=>by have:=(bF hr k e).1;omega)];exact h.low k hk
  few:=by show p.n1+m<=5000/\p.n2+m<=5000/\p.n3+8000*m<=40000000;have:=h.few;omega
  ok:={top:=h.ok.top,Mi:=(by show S.top.length+m<=5000;have:=h.ok.Mi;omega),rules:=h.ok.rules,Ca:=(by show S.rules.length+m<=5000;have:=h.ok.Ca;omega),bG:=h.ok.bG,edge:=h.ok.edge,defs:=(by show(S.defs++l).length+4000*m<=_;rw[aI];have:=h.ok.defs;omega),lines:=h.ok.lines,count:=h.ok.count}}
theorem PStB.scopes(h:PStB p a B w rb n ls S m):lY w (.pointer (some ⟨p.sb,0,none⟩)) [S.top]:=⟨p.sb,p.tb,p.n1,.pointer none,rfl,aS _,h.const.now.2.1,h.top,rfl⟩
theorem PStB.afI(h:PStB p a B w rb n ls S m):∀l∈[S.top],BOk l:=fun l hl=>by
 obtain rfl:=bD.1 hl;exact h.ok.top
theorem UL(w:ak):bL w (.slice none 0 0) []:=⟨none,0,rfl,ai _,aK ⟨fun _=>rfl,rfl,trivial⟩⟩
variable {no:Nat}
theorem GH(h:iF p a B w rb (no:Nat) ls S (m+1))(ht:t.size<=4000):
  Calls Tryz.prog 197 #[.pointer (some ⟨rb,0,none⟩),.string t] w (iQ a B rb m w (oq S no t ls)):=by
 obtain⟨tj,HTJ⟩:=iT (P:=Tryz.prog) (e:=9) (n:=1) (b:=16) (z:=(.string ⟨#[]⟩)) dD;have H:=aV h;have HRP:=Dp rb (no:Nat) t [S.top] (some ⟨p.sb,0,none⟩) a [] (.slice none 0 0) w h.Ji (by rw[aj _ _ _ _ _ _ h.row];rfl) h.scopes h.gl ht h.afI (UL w) bS
 have HD:Hid (oq S no t ls=match nP (gK [S.top]) [] t with
  |.error e=>.error (e,no)
  |.ok a=>if iL a=[] then .error (.syn,no) else .ok ({S with defs:=S.defs++iL a},ls)):=by
  show oq S no t ls=_;unfold oq;rw[Gm]
  cases nP (gK [S.top]) [] t with
  |error e=>rfl
  |ok a=>simp only
 clear h
 cases hp:nP (gK [S.top]) [] t with
 |error b=>
  have HF:Hid (oq S no t ls=.error (b,no)):=by rw[HD.out,hp];rfl
  rw[hp] at HRP
  go_enter Tryz.func197,Tryz.ntmps197
  go_wp2_with fail
  refine HRP.mono ?_;rintro e w1 ⟨⟨b',rfl,s0,s1⟩,hb1⟩;exact⟨rfl,(by rw[HF.out];exact⟨⟨b',rfl,s0,s1⟩,hb1.mono H.out.bw⟩)⟩
 |ok s=>
  obtain⟨hok,hcnt,hlen⟩:=xK hp;obtain⟨x,hx0,hfs,hxm⟩:=hok.iL
  have hxl:x.2.length<=4000:=by have:=vg hxm;omega
  rw[hp] at HRP
  have HD2:Hid (oq S no t ls=if x.2=[] then .error (.syn,no) else .ok ({S with defs:=S.defs++x.2},ls)):=by rw[HD.out,hp,<-hfs];rfl
  have HX0:=aV hx0;have hs0:0<s.length:=(aN.1 hx0).1;clear hp hok hcnt hfs hxm hx0 HD;obtain⟨x1,x2⟩:=x;simp only at hxl HD2
  go_enter Tryz.func197,Tryz.ntmps197
  go_wp2_with fail
  refine HRP.mono ?_;rintro e w1 ⟨⟨v1,rfl,aiL⟩,hb1⟩;obtain⟨g,cap,rfl,hc,hcell⟩:=aiL.cell;obtain⟨pv,_,cp,htx⟩:=hcell 0 (x1,x2) HX0.out;rw[qo,dh] at cp;obtain⟨ao,Ue,hpv,hpc,aiO⟩:=htx.1;simp only at hpv;subst hpv;have tK:=aV (H.out.below hb1);have HB1:=aV (hb1.mono H.out.bw);have c4:w1.cell? ⟨4,0,none⟩=some (.iface 472 (.pointer (some (a 4)))):=tK.out.gl.errs 4 bS
  have sl:(0:Int)<(s.length:Int):=aJ
  generalize s.length=SL at*;clear aiL hcell hb1
  by_cases h0:x2=[]
  ·subst h0;have HF:=aV (HD2.out.trans (aH rfl));have uT:=pz rb (no:Nat) 472 (.pointer (some (a 4))) w1 tK.out.Ji;simp only[dY] at cp
   go_wp2_with fail
   refine uT.mono ?_;rintro e w8 ⟨⟨b',rfl,s0,s1⟩,mH⟩;exact⟨rfl,(by rw[HF.out];exact⟨⟨b',rfl,s0,s1⟩,HB1.out.trans (mH.mono tK.out.bw)⟩)⟩
  have HF:=aV (HD2.out.trans (aA h0))
  obtain⟨b,o,rfl,hbc⟩:∃b o,ao=some ⟨b,o,none⟩/\∀k s,x2[k]?=some s->w1.cell? ⟨b,o+k,none⟩=some (.string s):=by
   rcases aiO with e|e
   ·exact absurd e.2.1 h0
   exact e
  have hpos:0<x2.length:=gD.2 h0
  have xl:(0:Int)<(x2.length:Int):=aJ
  have HBC:Hid (∀j u,(x2.map Value.string)[j]?=some u->w1.cell? ((⟨b,o,none⟩:Addr).add j)=some u):=fun j u hu=>by
   have hadd:(⟨b,o,none⟩:Addr).add j=⟨b,o+j,none⟩:=by unfold Addr.add;split<;>simp_all
   rw[dS] at hu;obtain⟨y,hy,rfl⟩:=bA.1 hu;rw[hadd];exact hbc j y hy
  have d6:w1.cell? ⟨rb,6,none⟩=some p.vf:=by rw[aj _ _ _ _ _ _ tK.out.row];rfl
  have f6:w1.frozen? ⟨rb,6,none⟩=false:=aD _ _ _ _ _ tK.out.row
  have hdl:S.defs.length<=20000000:=by have:=tK.out.ok.defs;omega
  obtain⟨aof,Ao,hvf,_,_⟩:=bE tK.out.defs
  have HDF:Hid (w1.ownsRow B 9 1 (.slice aof S.defs.length Ao) S.defs.length (S.defs.map Value.string)):=by rw[<-hvf];exact tK.out.defs
  rw[hvf] at d6;have Yw:=aV hvf;clear hvf htx aiO hbc;generalize hDL:S.defs.length=DL at*;have Rp:=aV hDL;generalize hXL:x2.length=XL at*;have Yx:=aV hXL;clear hDL hXL
  go_wp2_with fail
  refine(gL _ _ _).mono ?_;rintro e w2 ⟨rfl,rfl⟩
  go_wp2_with (at_builtin;refine wpList_append_lies _ rfl (.tmp 21) (.tmp 22) 32 rfl B 9 tj (.string ⟨#[]⟩) 1 16 Tryz.underlying32 HTJ.out.1 HTJ.out.2.2.2 HTJ.out.2.1 HTJ.out.2.2.1 rfl bS _ DL (S.defs.map Value.string) rfl HDF.out ⟨b,o,none⟩ XL Ue (x2.map Value.string) rfl (by rw[jV,Yx.out];omega) HBC.out (by intro u hu;obtain⟨y,_,rfl⟩:=fP.1 hu;rfl) hpos (by unfold maxLen;omega) aJ tK.out.bw _ rfl ?_;intro g7 lW w7 hv7 wW rF xu;refine dO ?_)
  have HM:Hid (iF {p with vf:=.slice (some ⟨g7,0,none⟩) (DL+XL) lW,c:=fun k=>if (Value.slice (some ⟨g7,0,none⟩) (DL+XL) lW).ownBlock=some k then 6 else p.c k} a B (w7.setCell ⟨rb,6,none⟩ (.slice (some ⟨g7,0,none⟩) (DL+XL) lW)) rb (no:Nat) ls {S with defs:=S.defs++x2} m):=by
   refine tK.out.adn (by rw[Yw.out];exact wW) (by rw[Rp.out,Yx.out];exact hv7) ?_ (by rw[Yx.out];exact hxl);intro k hk;have e:g7=k:=ax hk;subst e;rw[Yw.out]
   rcases rF with e2|e2
   ·exact aK e2
   right;rw[e2];exact ai _
  have RA:Hid (Below B w (w7.setCell ⟨rb,6,none⟩ (.slice (some ⟨g7,0,none⟩) (DL+XL) lW))):=(HB1.out.grown wW tK.out.bw (fun k hk=>(bF HDF.out k hk).1)).setCell (p:=⟨rb,6,none⟩) H.out.vY _
  have abx:w7.heap[rb]?=w2.heap[rb]?:=wW.block rb tK.out.ql (fun e=>by
   have h1:=tK.out.c6 rb (by rw[Yw.out];exact e.symm);have h2:=tK.out.c1
   omega)
  have d7:w7.cell? ⟨rb,6,none⟩=some (.slice aof DL Ao):=(aF (w:=w2) (a:=⟨rb,6,none⟩) abx).trans d6;have f7:w7.frozen? ⟨rb,6,none⟩=false:=aD _ _ _ _ _ (abx.trans tK.out.row);clear hv7 wW rF xu abx d6 f6 HBC HDF;unfold Hid
  go_wp2_with fail
  go_end0
  rw[HF.out];exact⟨rfl,⟨_,_,HM.out⟩,RA.out⟩
theorem Ce(x v:ah):∀l:iH,(pG l x v).length<=l.length+1
 |[]=>ai _
 |y::l=>by
  rw[pG]
  split
  ·exact fH _
  have:=Ce x v l;show(pG l x v).length+1<=l.length+1+1;omega
variable {x:ah}
theorem Yd{l:iH}{v:ah}(h:BOk l)(hv:v.size<=10000)(hx:0<x.size):BOk (pG l x v):=by
 induction l with
 |nil=>
  intro y hy;obtain rfl:=bD.1 hy;exact⟨hv,hx⟩
 |cons z l ih=>
  intro y hy;rw[pG] at hy
  split at hy
  ·rcases bg.1 hy with rfl|hy
   ·exact⟨hv,hx⟩
   exact h y (aZ _ hy)
  rcases bg.1 hy with rfl|hy
  ·exact h y aQ
  exact ih (fun z hz=>h z (aZ _ hz)) y hy
theorem wM(E:ah->ah)(t:ah):∀(g i:Nat) (out y:ah),iA E t g i out=some y->i<=t.size->out.size<=4000+i->y.size<=4000+t.size
 |0,i,out,y,h,hi,ho=>by
  rw[iA] at h
  split at h
  ·obtain rfl:=ax h;omega
  cases h
 |g+1,i,out,y,h,hi,ho=>by
  rw[iA] at h
  split at h
  ·obtain rfl:=ax h;omega
  rename_i h0
  split at h
  ·refine wM E t g (i+1) _ y h aJ ?_;rw[aL,aM];omega
  cases hf:uz t i with
  |none=>rw[hf] at h;cases h
  |some fk=>
   obtain⟨f,k⟩:=fk;have hk:=zO hf;rw[hf] at h;simp only at h
   split at h
   ·cases h
   exact wM E t g k _ y h aJ aJ
theorem EO{y:ah}(h:iE E t=some y):y.size<=4000+t.size:=wM E t _ 0 _ y h (aS _) (aS _)
variable {w':ak}
theorem iF.addTop{v:ah}(h:iF p a B w rb n ls S (m+1))(hg:w.grownBy w' (some p.tb))(hm:wH w' p.tb (p.n1+1) (pG S.top x v))(hv:v.size<=10000)(hx:0<x.size):iF {p with n1:=p.n1+1} a B w' rb n ls {S with top:=pG S.top x v} m:=by
 have off:=fun {k:Nat} (hk:k<w.heap.size) (hc:p.c k≠2)=>h.off hg h.c2 hk hc
 exact {
  gl:=h.gl.keep hg.size (fun k hk=>off (aB hk h.gl.size) (by rw[h.low k (aB hk h.base)];decide))
  base:=h.base
  row:=(off h.ql (by rw[h.c1];decide)).trans h.row
  const:=h.const.step hg.size (fun k hk h0=>⟨off hk (by rw[h0];decide),h0⟩)
  top:=hm
  rules:=eu.keep h.rules (off h.rules.lt (by rw[h.c3];decide))
  mlt:=aB h.mlt (hg.size)
  made:=eu.keep h.made (off h.made.lt (by rw[h.c4];decide))
  jR:=dR h.jR (fun k hk=>off (bF h.jR k hk).2 (by rw[h.c5 k hk];decide))
  defs:=dR h.defs (fun k hk=>off (bF h.defs k hk).2 (by rw[h.c6 k hk];decide))
  c1:=h.c1,c2:=h.c2,c3:=h.c3,c4:=h.c4,c5:=h.c5,c6:=h.c6,low:=h.low
  few:=by show p.n1+1+m<=5000/\p.n2+m<=5000/\p.n3+8000*m<=40000000;have:=h.few;omega
  ok:={top:=Yd h.ok.top hv hx,Mi:=(by show(pG S.top x v).length+m<=5000;have:=h.ok.Mi;have:=Ce x v S.top;omega),rules:=h.ok.rules,Ca:=(by show S.rules.length+m<=5000;have:=h.ok.Ca;omega),bG:=h.ok.bG,edge:=h.ok.edge,defs:=(by show S.defs.length+4000*m<=_;have:=h.ok.defs;omega),lines:=h.ok.lines,count:=h.ok.count}}
theorem aal(S:St)(no:Nat)(t:ah)(rest:List dQ):Nw S no t rest=match GU (gK [S.top]) t with
  |none=>.error (.syn,no)
  |some xy=>.ok ({S with top:=pG S.top xy.1 xy.2},rest):=by
 unfold Nw GU;rw[Gm]
 cases pR t with
 |none=>rfl
 |some nv=>
  simp only
  cases iE (gK [S.top]) nv.2 with
  |none=>rfl
  |some y=>rfl
theorem Pg{xy:ah×ah}(h:GU E t=some xy):xy.2.size<=4000+t.size/\0<xy.1.size:=by
 unfold GU at h
 cases hb:pR t with
 |none=>rw[hb] at h;cases h
 |some nv=>
  rw[hb] at h;obtain⟨y,hy,rfl⟩:=bA.1 h;have h1:=xU hb;have h2:=EO hy;exact⟨by show y.size<=_;omega,h1.2.2⟩
theorem Mh(h:iF p a B w rb (no:Nat) ls S (m+1))(ht:t.size<=4000):
  Calls Tryz.prog 198 #[.pointer (some ⟨rb,0,none⟩),.string t,.pointer (some ⟨p.sb,0,none⟩)] w (iQ a B rb m w (Nw S no t ls)):=by
 have hc:=zS h.Ji h.gl ht h.const.now.2.1 h.top (by have:=h.few;omega) h.scopes h.afI;refine hc.mono ?_;intro e w' hx;rw[aal]
 cases hv:GU (gK [S.top]) t with
 |none=>
  rw[hv] at hx;exact⟨hx.1,hx.2.mono h.bw⟩
 |some xy=>
  rw[hv] at hx;have hs:=Pg hv;refine⟨hx.1,⟨_,_,h.addTop hx.2.2 hx.2.1 aJ hs.2⟩,jP hx.2.2 ?_ h.bw⟩
  rcases bX p.tb B with q|q
  ·have h1:=h.low p.tb q;have h2:=h.c2;omega
  exact q
theorem AA(q:Value)(hq:∃ao,q=.pointer ao)(w:ak):
  Calls Tryz.prog 111 #[q] w fun e w'=>∃sb tb,e=.returned (.pointer (some ⟨sb,0,none⟩))/\w'.heap[sb]?=some (.cells #[.map (some tb),q] 302 (0,0))/\wH w' tb 0 []/\w.heap.size<=tb/\tb<sb/\Below w.heap.size w w':=by
 obtain⟨ao,rfl⟩:=hq;have aeT:wH (w.alloc (.map #[] 0)) w.heap.size 0 []:=eu.made UI yN ⟨_,_,rfl⟩ w;have HM:=aV aeT;clear aeT;have hmm:= @run_makeMap Tryz.prog
 go_enter Tryz.func111,Tryz.ntmps111
 go_wp2_with fail
 go_ret;refine⟨w.heap.size+1,w.heap.size,eB,?_,?_,ai _,jc _,?_⟩
 ·exact bq (w.alloc (.map #[] 0)) _ _ eB
 ·exact eu.keep HM.out (bC (w.alloc (.map #[] 0)) _ _ eB)
 exact((ay _ _).alloc (ai _) _).alloc eB _
end
theorem Za(e:dA)(top:iH):Dj (QL e) top=gK [pG (pG [] tIn (rQ e.ins)) Md (rQ e.outs),e.own,top]:=by
 rw[Oc]
 funext x
 show(eT (QL e) x).getD (gK [top] x)=(eT (pG (pG [] tIn (rQ e.ins)) Md (rQ e.outs)) x).getD ((eT e.own x).getD (gK [top] x));unfold QL;rw[uW,uW,uW,uW]
 by_cases h1:x=Md
 ·rw[aH h1,aH h1];rfl
 rw[aA h1,aA h1]
 by_cases h2:x=tIn
 ·rw[aH h2,aH h2];rfl
 rw[aA h2,aA h2];rfl
def Rz:Prop:=∀(p:PV) (a:Nat->Addr) (B:Nat) (w:ak) (rb no:Nat) (ls:List dQ) (S:St) (m:Nat) (t:ah),iF p a B w rb (no:Nat) ls S (m+1)->t.size<=4000->Calls Tryz.prog 196 #[.pointer (some ⟨rb,0,none⟩),.string t] w (iQ a B rb m w (kZ S no t ls))
section
open Go.RowKit Go.Maps
theorem ZC(x y:ah)(l:List ah):fo x (y::l)=(decide (y=x)||fo x l):=rfl
variable {w':ak}{b:Nat}{l:List ah}{x:ah}
theorem nG.add{n:Nat}(h:eu Mj (.agg #[]) w' b n (fun y=>if y=x then some (.agg #[]) else if fo y l=true then some (.agg #[]) else none)):nG w' b n (x::l):=by
 have e:(fun y=>if y=x then some (Value.agg #[]) else if fo y l=true then some (.agg #[]) else none)=fun y=>if fo y (x::l)=true then some (.agg #[]) else none:=by
  funext y
  rw[ZC]
  by_cases h:y=x
  ·rw[aH h,bT h.symm];rfl
  rw[aA h,bM (fun e=>h e.symm)];rfl
 unfold nG;rw[<-e];exact h
variable {w:ak}
theorem nG.same{n:Nat}{l':List ah}(h:nG w b n l)(e:∀x,fo x l'=fo x l):nG w b n l':=by
 have:(fun x=>if fo x l'=true then some (Value.agg #[]) else none)=fun x=>if fo x l=true then some (.agg #[]) else none:=by
  funext x;rw[e x]
 unfold nG;rw[this];exact h
theorem Ig(x:ah)(l r:List ah):fo x (l++r)=(fo x l||fo x r):=by unfold fo;rw[List.any_append]
theorem QA(x:ah)(l:List ah):fo x l.reverse=fo x l:=by unfold fo;rw[List.any_reverse]
def EG(a:Nat->Addr)(B:Nat)(n:Int)(mm n3:Nat)(made outs:List ah)(w:ak)(e:Ending)(w':ak):Prop:=
 if sO made outs=true then jF n (ja a 6) e w'/\Below B w w'
 else e=.returned (.tuple #[])/\nG w' mm (n3+outs.length) (outs.reverse++made)/\w.grownBy w' (some mm)
variable {p:PV}{a:Nat->Addr}{B rb m:Nat}{n:Int}{ls:List dQ}{S:St}{v:Value}
theorem YP{outs:List ah}(h:iF p a B w rb n ls S m)(hv:bL w v outs)(hne:v.ownBlock≠some p.mm)(ho:outs.length<=10000)(hos:∀x∈outs,x.size<=10000):
  Calls Tryz.prog 269 #[.pointer (some ⟨rb,0,none⟩),v] w (EG a B n p.mm p.n3 (qE S) outs w):=by
 have H:=aV h
 have HZ:Hid (∀w,(zeroValue 86).run Tryz.prog w=.ok (.agg #[]) w):=fun w=>dD
 have HOS:=aV hos
 have hn3:p.n3<=40000000:=by have:=h.few;omega
 have hmb:B<=p.mm:=by
  rcases bX p.mm B with q|q
  ·have h1:=h.low p.mm q;have h2:=h.c4;omega
  exact q
 have hrm:rb≠p.mm:=fun e=>by have h1:=h.c1;have h2:=h.c4;rw[e] at h1;omega
 obtain⟨ao,cap,rfl,hc,hv⟩:=hv;have HV:=aV hv
 have n0:(outs.length:Int)<=10000:=aJ
 clear h hv hos;generalize hL:outs.length=L at*;have HL:=aV hL;clear hL
 go_enter Tryz.func269,Tryz.ntmps269
 go_wp2_with fail
 go_loopw [10] (fun i wr=>∃j:Nat,i=.int .i64 j/\j<=L/\nG wr p.mm (p.n3+j) ((outs.take j).reverse++qE S)/\sO ((outs.take j).reverse++qE S) (outs.drop j)=sO (qE S) outs/\w.grownBy wr (some p.mm)) (fun i _=>L-(intOf i).toNat)
 case atStart=>exact⟨0,rfl,aS _,H.out.made,rfl,⟨rfl,rfl,rfl,ai _,fun _ _ _=>rfl⟩⟩
 case round=>
  obtain⟨j,rfl,hle,hu,SX,hgr⟩:=hrel;have HU:=aV hu;have HTW:=aV SX;have Rt:=aV hgr;clear hu SX hgr
  have j0:(0:Int)<=(j:Int):=aJ
  by_cases hlt:j<L
  ·have j1:(j:Int)<(L:Int):=aJ
   obtain⟨y,hy⟩:∃y,outs[j]?=some y:=⟨outs[j]'(by have:=HL.out;omega),eB⟩
   obtain⟨b,o,rfl,q⟩:∃b o,ao=some ⟨b,o,none⟩/\∀k s,outs[k]?=some s->w.cell? ⟨b,o+k,none⟩=some (.string s):=by
    rcases HV.out with e|e
    ·rw[e.2.1] at hy;simp at hy
    exact e
   have cy:=q j y hy;have r1:wr.cell? ⟨b,o+j,none⟩=some (.string y):=(aF (w:=w) (a:=⟨b,o+j,none⟩) (Rt.out.block b (aG cy) (fun e=>hne (by rw[<-e];rfl)))).trans cy;have hys:=HOS.out y (aU hy)
   have HDR:Hid (outs.drop j=y::outs.drop (j+1)/\outs.take (j+1)=outs.take j++[y]):=by
    obtain⟨h1,h2⟩:=aN.1 hy;exact⟨by rw[fG h1,h2],by rw[jk h1,h2]⟩
   have hrow:wr.heap[rb]?=w.heap[rb]?:=Rt.out.block rb H.out.ql (fun e=>hrm (ax e))
   have d4:wr.cell? ⟨rb,4,none⟩=some (.map (some p.mm)):=by rw[aj _ _ _ _ _ _ (hrow.trans H.out.row)];rfl
   have d0:wr.cell? ⟨rb,0,none⟩=some (.int .i64 n):=by rw[aj _ _ _ _ _ _ (hrow.trans H.out.row)];rfl
   have hrb:rb<wr.heap.size:=aB H.out.ql Rt.out.size;have g6:wr.cell? ⟨6,0,none⟩=some (.iface 472 (.pointer (some (a 6)))):=(aF (w:=w) (a:=⟨6,0,none⟩) (Rt.out.block 6 (by have:=H.out.gl.size;omega) (fun e=>by have h1:6=p.mm:=ax e;have:=H.out.base;omega))).trans (H.out.gl.errs 6 bS)
   have l6:6<wr.heap.size:=by have:=H.out.gl.size;have:=Rt.out.size;omega
   have Vo:Hid ((Instr.lookup 122 (.map (some p.mm)) (.string y) true).run Tryz.prog wr=.ok (.tuple #[(if fo y ((outs.take j).reverse++qE S)=true then some (Value.agg #[]) else none).getD (.agg #[]),.bool (if fo y ((outs.take j).reverse++qE S)=true then some (Value.agg #[]) else none).isSome]) wr):=eu.look_ok HU.out (t:=122) Tryz.underlying122 HZ.out y (by unfold maxLen;omega);clear q cy hy hrow
   cases hmem:fo y ((outs.take j).reverse++qE S) with
   |true=>
    have HF:Hid (sO (qE S) outs=true):=by rw[<-HTW.out,HDR.out.1,sO,hmem];rfl
    rw[hmem] at Vo;have hlk:(Instr.lookup 122 (.map (some p.mm)) (.string y) true).run Tryz.prog wr=.ok (.tuple #[.agg #[],.bool true]) wr:=Vo.out;clear Vo hmem;have uT:=pz rb n 472 (.pointer (some (a 6))) (wr.alloc (.cells #[] 86)) (by rw[aF (w:=wr) (a:=⟨rb,0,none⟩) (bC wr _ rb hrb)];exact d0)
    go_wp2_with fail
    refine uT.mono ?_;rintro e w8 ⟨⟨b',rfl,s0,s1⟩,mH⟩;refine⟨rfl,?_⟩;unfold EG;rw[aH HF.out];exact⟨⟨b',rfl,s0,s1⟩,((jP Rt.out hmb H.out.bw).alloc (aC H.out.bw Rt.out.size) _).trans (mH.mono (by have:=Rt.out.size;have:=H.out.bw;simp;omega))⟩
   |false=>
    rw[hmem] at Vo;have hlk:(Instr.lookup 122 (.map (some p.mm)) (.string y) true).run Tryz.prog wr=.ok (.tuple #[.agg #[],.bool false]) wr:=Vo.out
    have HTN:Hid (sO ((outs.take (j+1)).reverse++qE S) (outs.drop (j+1))=sO (qE S) outs):=by
     show _=_;rw[<-HTW.out,HDR.out.1,sO,hmem,HDR.out.2,List.reverse_append];rfl
    clear Vo hmem;have HUA:nG (wr.alloc (.cells #[] 86)) p.mm (p.n3+j) ((outs.take j).reverse++qE S):=eu.keep HU.out (bC wr _ p.mm HU.out.lt);obtain⟨w9,Oj,EU,Ct⟩:=eu.store HUA (t:=122) Tryz.underlying122 (by unfold maxLen;omega) y (by unfold maxLen;omega) (.agg #[]) ⟨_,_,rfl⟩
    have HU9:Hid (nG w9 p.mm (p.n3+(j+1)) ((outs.take (j+1)).reverse++qE S)):=by
     show nG _ _ _ _;rw[HDR.out.2,List.reverse_append];exact nG.add EU
    have HG9:Hid (w.grownBy w9 (some p.mm)):=⟨Ct.os.trans Rt.out.os,Ct.tape.trans Rt.out.tape,Ct.output.trans Rt.out.output,by have:=Ct.size;have:=Rt.out.size;simp at this⊢;simp at*;omega,fun k hk hn=>(Ct.block k (by have:=Rt.out.size;simp;omega) hn).trans ((bC wr _ k (by have:=Rt.out.size;omega)).trans (Rt.out.block k hk hn))⟩;clear EU Ct HUA
    go_wp2_with fail
    refine(gL _ _ _).mono ?_;rintro e w8 ⟨rfl,rfl⟩
    go_wp2_with fail
    exact⟨⟨j+1,oW,hlt,HU9.out,HTN.out,HG9.out⟩,by simp[intOf];omega⟩
  obtain rfl:j=L:=aJ
  have HF:Hid (sO (qE S) outs=false):=by
   rw[<-HTW.out,<-HL.out,List.drop_length];rfl
  have HUF:Hid (nG wr p.mm (p.n3+outs.length) (outs.reverse++qE S)):=by
   have h:=HU.out;rw[<-HL.out,rz] at h;exact h
  have j1:¬(j:Int)<(j:Int):=aJ
  go_wp2_with fail
  go_end0
  unfold EG;rw[aA (by rw[HF.out];decide)];exact⟨rfl,HUF.out,Rt.out⟩
end
section
open Go.RowKit
theorem abD(u:ah)(n:Nat)(hn:n<u.size)(h:byteOf u n=10)(hb:∀k,k<n->byteOf u k≠10):Lib.indexB u nl=n:=by
 have h1:Lib.indexB u nl=Lib.indexByte u.data.toList 10:=Lib.one u nl rfl
 have hbb:∀k,k<u.size->u.data.toList[k]?=some 10->byteOf u k=10:=fun k _ e=>by rw[uZ e];rfl
 have hn2:u.data.toList[n]?=some 10:=by rw[cZ,NQ u n hn,h];rfl
 rcases Lib.indexB_cases u nl with e|⟨i,e,hi⟩
 ·rw[h1] at e;exact absurd hn2 (Lib.indexByte_none e n)
 rw[h1] at e⊢;have:=Lib.indexByte_some e;have hs:nl.size=1:=rfl
 rcases Nat.lt_trichotomy i n with c|c|c
 ·exact absurd (hbb i aJ this.1) (hb i c)
 ·rw[e,c]
 exact absurd hn2 (this.2 n c)
theorem ad8(t:ah)(f i:Nat)(hf:f<=i)(hi:i<t.size)(h:byteOf t i=10)(hb:∀k,f<=k->k<i->byteOf t k≠10):zR (t.extract f t.size)=t.extract f i::zR (t.extract (i+1) t.size):=by
 have hsz:(t.extract f t.size).size=t.size-f:=by rw[aM];omega
 have hx:=abD (t.extract f t.size) (i-f) aJ (by rw[kF _ _ _ _ aJ (ai _),show f+(i-f)=i by omega];exact h) (fun k hk=>by rw[kF _ _ _ _ aJ (ai _)];exact hb (f+k) aJ aJ);have hc:=Lib.countB_hit (t.extract f t.size) nl (i-f) bS hx;unfold zR
 have e1:(t.extract f t.size).extract (i-f+nl.size) (t.extract f t.size).size=t.extract (i+1) t.size:=by
  have hs:nl.size=1:=rfl;rw[hs,hsz,nK _ _ _ _ _ aJ,show f+(i-f+1)=i+1 by omega,show f+(t.size-f)=t.size by omega]
 rw[e1] at hc;rw[hc,Yz,Lib.splitB_hit _ _ _ _ _ hx,e1,kX,nK _ _ _ _ _ aJ,show f+(i-f)=i by omega,kX]
theorem ab0(t:ah)(f:Nat)(hb:∀k,f<=k->k<t.size->byteOf t k≠10):zR (t.extract f t.size)=[t.extract f t.size]:=by
 unfold zR;refine Lib.splitB_miss _ _ _ _ ?_
 rcases Lib.indexB_cases (t.extract f t.size) nl with e|⟨i,e,hi⟩
 ·exact e
 exfalso;have h1:Lib.indexB (t.extract f t.size) nl=Lib.indexByte (t.extract f t.size).data.toList 10:=Lib.one _ nl rfl;rw[h1] at e;have:=uZ (Lib.indexByte_some e).1;have hs:nl.size=1:=rfl;rw[aM] at hi;rw[kF _ _ _ _ aJ (ai _)] at this;exact hb (f+i) aJ aJ this
end
def aeo(l:List ah):Nat:=(l.map fun x=>x.size+1).sum
def zX(l:List dQ):Nat:=(l.map fun x=>x.2.size+1).sum
theorem Ch(l r:List dQ):zX (l++r)=zX l+zX r:=by unfold zX;rw[iI,adj]
theorem acg{l:List dQ}{x:dQ}(h:x∈l):x.2.size+1<=zX l:=by
 induction l with
 |nil=>cases h
 |cons y l ih=>
  show _<=y.2.size+1+zX l
  rcases bg.1 h with rfl|h
  ·omega
  have:=ih h;omega
theorem UO(l:List dQ):l.length<=zX l:=by
 induction l with
 |nil=>exact ai _
 |cons y l ih=>
  show l.length+1<=y.2.size+1+zX l;omega
theorem ad9(t:ah):∀(d f:Nat),t.size-f=d->f<=t.size->aeo (zR (t.extract f t.size))<=t.size-f+1:=by
 intro d
 induction d using Nat.strongRecOn with
 |_ d ih=>
  intro f hd hf
  by_cases hx:∃i,f<=i/\i<t.size/\byteOf t i=10
  ·have hmin:∃i,(f<=i/\i<t.size/\byteOf t i=10)/\∀k,f<=k->k<i->byteOf t k≠10:=by
    obtain⟨i,hi⟩:=hx
    induction i using Nat.strongRecOn with
    |_ i ih2=>
     by_cases hk:∃k,f<=k/\k<i/\byteOf t k=10
     ·obtain⟨k,h1,h2,h3⟩:=hk;exact ih2 k h2 ⟨h1,aJ,h3⟩
     exact⟨i,hi,fun k h1 h2 h3=>hk ⟨k,h1,h2,h3⟩⟩
   obtain⟨i,⟨h1,h2,h3⟩,h4⟩:=hmin;rw[ad8 t f i h1 h2 h3 h4];have h5:=ih (t.size-(i+1)) aJ (i+1) rfl aJ;show(t.extract f i).size+1+aeo _<=_;rw[aM];omega
  rw[ab0 t f (fun k h1 h2 h3=>hx ⟨k,h1,h2,h3⟩)];show(t.extract f t.size).size+1+0<=_;rw[aM];omega
theorem RO(a:List dQ)(s:ah):zX (EA a s)<=zX a+s.size:=by
 unfold EA
 cases h:a.getLast? with
 |none=>exact Ah _ _
 |some x=>
  have hne:a≠[]:=fun e=>by rw[e] at h;cases h
  have hx:a.getLast hne=x:=by rw[List.getLast?_eq_some_getLast hne] at h;exact ax h
  have ha:a=a.dropLast++[x]:=by rw[<-hx];exact(Bz hne).symm
  show zX (a.dropLast++[(x.1,x.2++s)])<=_
  have e:zX a=zX (a.dropLast++[x]):=by rw[<-ha]
  rw[e,Ch,Ch];show _+((x.2++s).size+1+0)<=_+(x.2.size+1+0)+_;rw[aL];omega
theorem Tm:∀(rs:List ah) (no:Nat) (a:List dQ) (on:Bool),zX (mX no rs a on)<=zX a+aeo rs
 |[],no,a,on=>by rw[mX];exact Ah _ _
 |r::rs,no,a,on=>by
  rw[mX];have h1:=Tm rs (no+1) (lI a on no r) (Ed r)
  have h2:zX (lI a on no r)<=zX a+(r.size+1):=by
   unfold lI;have hp:=Le r
   split
   ·have h3:=RO a (bI (qF r));have h4:=kG (qF r);omega
   rw[Ch];show _+((qF r).size+1+0)<=_;omega
  show _<=zX a+(r.size+1+aeo rs);omega
theorem Zx(t:ah):zX (uG t)<=t.size+1:=by
 unfold uG;have h1:=Tm (zR t) 1 [] false;have h2:=ad9 t (t.size-0) 0 rfl (aS _);rw[kC] at h2;have h3:zX []=0:=rfl;omega
theorem abR(t:ah):(uG t).length<=t.size+1/\∀x∈uG t,x.2.size<=t.size:=by
 have h:=Zx t;refine⟨aC (UO _) h,fun x hx=>?_⟩;have:=acg hx;omega
theorem aef(t:ah):(Cb t).length<=t.size+1/\∀x∈Cb t,x.2.size<=t.size:=by
 have h:=abR t;exact⟨aC (pK _ _) h.1,fun x hx=>h.2 x (Mx.1 hx).1⟩
section
open Go.RowKit
theorem KE(M:Nat):∀(l:List ah) (a:ah),(∀y∈l,y.size<=M)->(l.foldl (fun a y=>a++⟨#[32]⟩++y) a).size<=a.size+l.length*(M+1)
 |[],a,_=>Ah _ _
 |y::l,a,h=>by
  have h1:=KE M l (a++⟨#[32]⟩++y) (fun z hz=>h z (aZ _ hz));have h2:=h y aQ;rw[aL,aL] at h1;have:(⟨#[32]⟩:ah).size=1:=rfl;rw[jA,aY,acF];omega
theorem Wo(M:Nat)(l:List ah)(h:∀y∈l,y.size<=M):(rQ l).size<=l.length*(M+1):=by
 cases l with
 |nil=>exact aS _
 |cons x l=>
  have h1:=KE M l x (fun z hz=>h z (aZ _ hz));have h2:=h x aQ;show(l.foldl _ x).size<=_;rw[aY,acF];omega
end
section
open Go.RowKit Go.Shelf
theorem KG:∀(q:List ah) (x:ah),(q.foldl (fun a y=>a++⟨#[32]⟩++y) x).data.toList=x.data.toList++Lib.joinTail [32] (q.map (·.data.toList))
 |[],x=>by simp[Lib.joinTail]
 |y::r,x=>by
  rw[jA,KG r]
  simp[Lib.joinTail,Ab]
theorem OQ(l:List ah)(v:Value)(w:ak)(h:bL w v l)(hl:l.length<=10000)(hs:∀y∈l,y.size<=10000):
  Calls Tryz.prog 200 #[v,.string ⟨#[32]⟩] w fun e w'=>e=.returned (.string (rQ l))/\Below w.heap.size w w':=by
 obtain⟨ao,cap,rfl,hcap,h⟩:=h
 cases l with
 |nil=>
  refine(Any.strings_Join_none Tryz.lays156 Tryz.Builder_Extra_156 ao cap ⟨#[32]⟩ w).mono ?_;rintro e w' ⟨he,hw⟩;exact⟨he,by rw[hw];exact ay _ _⟩
 |cons x q=>
  obtain⟨b,o,rfl,hc⟩:∃b o,ao=some ⟨b,o,none⟩/\∀k s,(x::q)[k]?=some s->w.cell? ⟨b,o+k,none⟩=some (.string s):=by
   rcases h with e|e
   ·cases e.2.1
   exact e
  have hj:Lib.join ((x::q).map (·.data.toList)) (ByteArray.mk #[32]).data.toList=(rQ (x::q)).data.toList:=by
   rw[mJ,Lib.join_cons];exact(KG q x).symm
  have hz:=Wo 10000 (x::q) hs;have hz2:(rQ (x::q)).size<=10000*10001:=aC hz (Nat.mul_le_mul_right _ hl);refine(Any.strings_Join Tryz.lays156 Tryz.Builder_Extra_156 b o cap (x::q) ⟨#[32]⟩ w hc (aG (hc 0 x rfl)) aJ hcap ?_).mono ?_
  ·rw[hj];show(rQ (x::q)).size<=_;omega
  rintro e w' ⟨he,hw⟩;refine⟨?_,hw⟩;rw[he,hj]
end
section
open Go.RowKit Go.Maps
def yF(d:jQ)(c:ah):List Value:=[d.vo,d.vi,d.vm,d.vr,.string d.rule,.string c]
def nJ:List jQ->List ah->List Value
 |d::ds,c::cs=>yF d c++nJ ds cs
 |_,_=>[]
theorem BP:∀(ds:List jQ) (cs:List ah) (d:jQ) (c:ah),ds.length=cs.length->nJ (ds++[d]) (cs++[c])=nJ ds cs++yF d c
 |[],[],d,c,_=>by simp[nJ]
 |x::ds,y::cs,d,c,h=>by
  show yF x y++nJ (ds++[d]) (cs++[c])=(yF x y++nJ ds cs)++_;rw[BP ds cs d c (by simpa using h),eZ]
 |[],_::_,_,_,h=>by cases h
 |_::_,[],_,_,h=>by cases h
theorem Dh(S:St):∀(es:List dA) (cs:List ah),cs.length=es.length->(∀(k:Nat) e c,es[k]?=some e->cs[k]?=some c->qz S e=some c)->jl S es=some cs
 |[],[],_,_=>rfl
 |e::es,c::cs,h,hk=>by
  have h0:=hk 0 e c rfl rfl;have h1:=Dh S es cs (by simpa using h) (fun k e c h1 h2=>hk (k+1) e c (by simpa using h1) (by simpa using h2));rw[jl,h0,h1];rfl
 |[],_::_,h,_=>by cases h
 |_::_,[],h,_=>by cases h
theorem Df(S:St):∀(es:List dA) (k:Nat) (e:dA),es[k]?=some e->qz S e=none->jl S es=none
 |[],k,e,h,_=>by simp at h
 |x::es,0,e,h,hn=>by
  simp only[jq,Option.some.injEq] at h;subst h;rw[jl,hn]
 |x::es,k+1,e,h,hn=>by
  have h1:=Df S es k e (by simpa using h) hn;rw[jl,h1]
  cases qz S x<;>rfl
theorem sU:∀(ds:List jQ) (j:Nat) (d:jQ) (i:Nat),ds[j]?=some d->i<7->(sJ ds)[j*7+i]?=d.cells[i]?
 |[],j,d,i,h,_=>by simp at h
 |x::ds,0,d,i,h,hi=>by
  simp only[jq,Option.some.injEq] at h;subst h;show(x.cells++sJ ds)[0*7+i]?=_;rw[qo,dh,bW (by show i<7;exact hi)]
 |x::ds,j+1,d,i,h,hi=>by
  show(x.cells++sJ ds)[(j+1)*7+i]?=_;rw[dz (by show 7<=_;omega),show(j+1)*7+i-x.cells.length=j*7+i by show(j+1)*7+i-7=_;omega];exact sU ds j d i (by simpa using h) hi
variable {l:List ah}
theorem XW(h:∀x∈l,x.size<=32):(rQ l).size<=33*l.length:=by
 have hf:∀(l:List ah) (a:ah),(∀x∈l,x.size<=32)->(l.foldl (fun a y=>a++⟨#[32]⟩++y) a).size<=a.size+33*l.length:=by
  intro l
  induction l with
  |nil=>intro a _;exact ai _
  |cons y l ih=>
   intro a hl;have h1:=ih (a++⟨#[32]⟩++y) (fun x hx=>hl x (aZ _ hx));have h2:=hl y aQ;rw[aL,aL] at h1;have h3:(⟨#[32]⟩:ah).size=1:=rfl;rw[jA,aY];omega
 cases l with
 |nil=>exact aS _
 |cons x l=>
  have h1:=hf l x (fun y hy=>h y (aZ _ hy));have h2:=h x aQ;rw[aY];show(l.foldl _ x).size<=_;omega
theorem adz{N:Nat}{ls:List iH}(h:∀l∈ls,∀x∈l,x.2.size<=N)(x:ah):(gK ls x).size<=N:=by
 induction ls with
 |nil=>exact aS _
 |cons l ls ih=>
  rw[gK]
  cases hb:eT l x with
  |none=>exact ih (fun l hl=>h l (aZ _ hl))
  |some y=>
   obtain⟨z,hz,_,rfl⟩:=uV hb;exact h l aQ z hz
theorem YZ{ls:List iH}(h:∀l∈ls,∀x∈l,0<x.1.size):gK ls ⟨#[]⟩=⟨#[]⟩:=by
 induction ls with
 |nil=>rfl
 |cons l ls ih=>
  rw[gK]
  cases hb:eT l ⟨#[]⟩ with
  |none=>exact ih (fun l hl=>h l (aZ _ hl))
  |some y=>
   obtain⟨z,hz,e,_⟩:=uV hb;have:=h l aQ z hz;rw[e] at this;exact absurd this bS
def EW(e:dA):iH:=pG (pG [] tIn (rQ e.ins)) Md (rQ e.outs)
theorem abC(e:dA):EW e=[(tIn,rQ e.ins),(Md,rQ e.outs)]:=by
 unfold EW;show pG [(tIn,rQ e.ins)] Md _=_;rw[pG,aA (show¬tIn=Md by decide),pG]
theorem RZ(S:St)(e:dA):qz S e=iE (gK [EW e,e.own,S.top]) ((eT S.rules e.rule).getD ⟨#[]⟩):=by
 unfold qz;rw[Za];rfl
def afL(a:Nat->Addr)(n:Int)(W0:Nat)(ds:List jQ)(L:Nat)(r:Option (List ah))(e:Ending)(w':ak):Prop:=match r with
 |none=>jF n (ja a 4) e w'
 |some cs=>∃v,e=.returned v/\w'.ownsRow W0 63 6 v L (nJ ds cs)
variable {S:St}{m:Nat}{ls:List dQ}
theorem ab6(h:SOk S m ls)(x:ah):((eT S.rules x).getD ⟨#[]⟩).size<=4000:=by
 cases hb:eT S.rules x with
 |none=>exact aS _
 |some y=>
  obtain⟨z,hz,_,rfl⟩:=uV hb;exact h.rules z hz
theorem Tc{e:dA}(h1:e.ins.length<=4000)(h2:e.outs.length<=8000)(h3:∀x∈e.outs,x.size<=32)(h4:∀x∈e.ins,x.size<=32):∀x∈EW e,x.2.size<=1000000/\0<x.1.size:=by
 intro x hx;rw[abC] at hx
 rcases bg.1 hx with rfl|hx
 ·have:=XW h4;exact⟨by show(rQ e.ins).size<=_;omega,by show 0<tIn.size;decide⟩
 obtain rfl:=bD.1 hx;have:=XW h3;exact⟨by show(rQ e.outs).size<=_;omega,by show 0<Md.size;decide⟩
variable {p:PV}{a:Nat->Addr}{B rb:Nat}{w:ak}{n:Int}
theorem Qn(h:PStB p a B w rb n ls S m)(hru:∀e∈S.bG,e.rule.size<=4000):
  Calls Tryz.prog 115 #[.pointer (some ⟨rb,0,none⟩)] w fun e w'=>afL a n w.heap.size p.ds S.bG.length (jl S S.bG) e w'/\Below w.heap.size w w':=by
 obtain⟨ti,HTI⟩:=iT (P:=Tryz.prog) (e:=63) (n:=6) (b:=128) (z:=(.agg #[.slice none 0 0,.slice none 0 0,.slice none 0 0,.slice none 0 0,.string ⟨#[]⟩,.string ⟨#[]⟩])) dD;have H:=aV h;have HRU:=aV hru
 have HZ:Hid (∀w,(zeroValue 316).run Tryz.prog w=.ok yN w):=fun w=>dD
 clear hru;have hL:=h.ok.bG;have hdl:=h.const.now.2.2.1;obtain⟨YE,EF,hvd,hcd,hgd⟩:=bE h.jR
 have c5:w.cell? ⟨rb,5,none⟩=some (.slice YE S.bG.length EF):=by rw[aj _ _ _ _ _ _ h.row];exact ig some hvd
 obtain⟨w1,hmk,hown1,abq⟩:=run_make_own (P:=Tryz.prog) w w.heap.size 60 63 ti _ 6 Tryz.underlying60 HTI.out.1 HTI.out.2.2.2 HTI.out.2.1 .i64 .i64 S.bG.length (by rw[HTI.out.2.2.1];omega) (by unfold maxLen;omega) (ai _);have HB1:Hid (Below w.heap.size w w1):=(ay _ w).grown abq (ai _) (fun k hk=>by cases hk);have HO1:=aV hown1;have d5:w1.cell? ⟨rb,5,none⟩=some (.slice YE S.bG.length EF):=(HB1.out.cell (p:=⟨rb,5,none⟩) h.ql).trans c5;have HVD:=aV hvd;have HGD:=aV hgd;have Rp:=aV hdl;clear h hown1 abq hvd hgd hcd hdl;generalize hLE:S.bG.length=L at*;have RF:=aV hLE
 have l0:(L:Int)<=64:=aJ
 clear hLE
 go_enter Tryz.func115,Tryz.ntmps115
 go_wp2_with fail
 go_loopw [3,19] (fun v i wr=>∃(j cap:Nat) (ao:Option Addr) (cs:List ah),i=.int .i64 j/\v=.slice ao j cap/\j<=L/\cs.length=j/\(∀(k:Nat) e c,k<j->S.bG[k]?=some e->cs[k]?=some c->qz S e=some c)/\wr.ownsRow w.heap.size 63 6 (.slice ao j cap) j (nJ (p.ds.take j) cs)/\Below w.heap.size w wr) (fun _ i _=>L-(intOf i).toNat)
 case atStart=>
  exact⟨0,L,_,[],rfl,rfl,aS _,rfl,fun k e c hk=>aJ,HO1.out,HB1.out⟩
 case round=>
  obtain⟨j,cap,ao,cs,rfl,rfl,hle,hcl,hag,hown,hbw⟩:=hrel;have HCL:=aV hcl;have Rl:=aV hag;have HOW:=aV hown;have lJ:=aV hbw;clear hcl hag hown hbw
  have j0:(0:Int)<=(j:Int):=aJ
  by_cases hlt:j<L
  ·have j1:(j:Int)<(L:Int):=aJ
   obtain⟨e0,he0⟩:∃e,S.bG[j]?=some e:=⟨S.bG[j]'(by have:=RF.out;omega),eB⟩;obtain⟨d,hd⟩:∃d,p.ds[j]?=some d:=⟨p.ds[j]'(by have:=Rp.out;omega),eB⟩;have HST:=aV (H.out.below lJ.out);have hda:=HST.out.const.now.2.2.2 j d e0 hd he0;have HDA:=aV hda;have HED:=aV (aO he0 hd);obtain⟨g,rfl⟩:=HGD.out aJ
   have hrow:wr.ownsRow B 311 7 (.slice (some ⟨g,0,none⟩) L EF) L (sJ p.ds):=by
    have:=HST.out.jR;rw[HVD.out,RF.out] at this;exact this
   have e0c:wr.cell? ⟨g,j*7,none⟩=some d.vo:=(dV hrow (j*7+0) _ (sU p.ds j d 0 hd bS)).1;have e1c:wr.cell? ⟨g,j*7+1,none⟩=some d.vi:=(dV hrow _ _ (sU p.ds j d 1 hd bS)).1;have e2c:wr.cell? ⟨g,j*7+2,none⟩=some d.vm:=(dV hrow _ _ (sU p.ds j d 2 hd bS)).1;have e3c:wr.cell? ⟨g,j*7+3,none⟩=some d.vr:=(dV hrow _ _ (sU p.ds j d 3 hd bS)).1;have e4c:wr.cell? ⟨g,j*7+4,none⟩=some (.string d.rule):=(dV hrow _ _ (sU p.ds j d 4 hd bS)).1;have e5c:wr.cell? ⟨g,j*7+5,none⟩=some (.string ⟨#[]⟩):=(dV hrow _ _ (sU p.ds j d 5 hd bS)).1;have e6c:wr.cell? ⟨g,j*7+6,none⟩=some (.pointer (some ⟨d.ob,0,none⟩)):=(dV hrow _ _ (sU p.ds j d 6 hd bS)).1;clear hrow he0 hd hda;obtain⟨vo,vi,vm,vr,rl,ob⟩:=d;simp only at e0c e1c e2c e3c e4c e6c
   obtain⟨nu,no,co,Rx⟩:∃ao n c,vo=.slice ao n c:=by obtain⟨ao,c,e,_⟩:=HDA.out.outs;exact⟨ao,_,c,e⟩
   obtain⟨kE,ni,ci,MB⟩:∃ao n c,vi=.slice ao n c:=by obtain⟨ao,c,e,_⟩:=HDA.out.ins;exact⟨ao,_,c,e⟩
   obtain⟨lM,nm,cm,Wl⟩:∃ao n c,vm=.slice ao n c:=by obtain⟨ao,c,e,_⟩:=HDA.out.impl;exact⟨ao,_,c,e⟩
   obtain⟨nH,nr,cr,Zm⟩:∃ao n c,vr=.slice ao n c:=by obtain⟨ao,c,e,_⟩:=HDA.out.ord;exact⟨ao,_,c,e⟩
   subst Rx MB Wl Zm;have hel:=HED.out.1;have Pq:=aV (H.out.ok.edge e0 (aU hel));have hrl:e0.rule=rl:=HDA.out.rule.symm
   have hrs:rl.size<=4000:=by rw[<-hrl];exact HRU.out e0 (aU hel)
   have HRL:=aV hrl;clear hel hrl
   go_wp2_with fail
   obtain⟨W1,hW1⟩:∃W1,W1=(wr.alloc (.cells #[.slice nu no co,.slice kE ni ci,.slice lM nm cm,.slice nH nr cr,.string rl,.string ⟨#[]⟩,.pointer (some ⟨ob,0,none⟩)] 311)).alloc (.cells #[.slice nu no co,.slice kE ni ci,.slice lM nm cm,.slice nH nr cr,.string rl,.string ⟨#[]⟩] 63):=⟨_,rfl⟩
   have akX:Hid (W1.heap.size=wr.heap.size+2):=by rw[hW1];show _=_;simp
   have HE1:Hid (W1.heap[wr.heap.size+1]?=some (.cells #[.slice nu no co,.slice kE ni ci,.slice lM nm cm,.slice nH nr cr,.string rl,.string ⟨#[]⟩] 63 (0,0))):=by rw[hW1];exact bq _ _ _ eB
   have ag6:Hid (Below wr.heap.size wr W1):=by rw[hW1];exact((ay _ _).alloc (ai _) _).alloc eB _
   rw[<-hW1];clear hW1;refine(AA (.pointer (some ⟨ob,0,none⟩)) ⟨_,rfl⟩ W1).mono ?_;rintro e w2 ⟨GN,Xq,rfl,hs2,hm2,ht2,ht3,hb2⟩;have alm:=akX.out;have HE2:Hid (w2.heap[wr.heap.size+1]?=some (.cells #[.slice nu no co,.slice kE ni ci,.slice lM nm cm,.slice nH nr cr,.string rl,.string ⟨#[]⟩] 63 (0,0))):=(hb2.block _ aJ).trans HE1.out;have HB2:Hid (Below wr.heap.size wr w2):=ag6.out.trans (hb2.mono aJ);have HS2:=aV hs2;have HM2:=aV hm2;have HTB:Hid (wr.heap.size+2<=Xq/\Xq<GN):=⟨aJ,ht3⟩;have HJ2:=OQ e0.ins (.slice kE ni ci) w2 (HDA.out.ins.iy HB2.out) (by have:=Pq.out;omega) (fun y hy=>by have:=Pq.out.2.2.2.2.2.1 y hy;omega)
   have q1:w2.cell? ⟨wr.heap.size+1,1,none⟩=some (.slice kE ni ci):=by rw[aj _ _ _ _ _ _ HE2.out];rfl
   have agh:GN<w2.heap.size:=bN hs2;clear hs2 hm2 ht2 hb2 alm HE1 ag6
   go_wp2_with fail
   refine HJ2.mono ?_;rintro e w3 ⟨rfl,hb3⟩;have akQ:=aV HM2.out.lt;have HE3:Hid (w3.heap[wr.heap.size+1]?=some (.cells #[.slice nu no co,.slice kE ni ci,.slice lM nm cm,.slice nH nr cr,.string rl,.string ⟨#[]⟩] 63 (0,0))):=(hb3.block _ (bN HE2.out)).trans HE2.out;have HB3:=aV (HB2.out.trans (hb3.mono HB2.out.size));have ahM:=Rc (x:=tIn) (v:=rQ e0.ins) ((hb3.block _ agh).trans HS2.out) (eu.keep HM2.out (hb3.block _ HM2.out.lt)) aJ (show tIn.size<=1048576 by decide);have HS3:Hid (w3.heap[GN]?=some (.cells #[.map (some Xq),.pointer (some ⟨ob,0,none⟩)] 302 (0,0))):=(hb3.block _ agh).trans HS2.out;clear hb3 HJ2 HE2 HB2 HS2 HM2 q1 agh akQ
   go_wp2_with fail
   refine ahM.mono ?_;rintro e w4 ⟨rfl,hm4,hg4⟩;have htb:=HTB.out;have Ve:Hid (w4.heap[wr.heap.size+1]?=some (.cells #[.slice nu no co,.slice kE ni ci,.slice lM nm cm,.slice nH nr cr,.string rl,.string ⟨#[]⟩] 63 (0,0))):=(hg4.block _ (bN HE3.out) (fun e=>by have:=ax e;omega)).trans HE3.out;have xC:Hid (Below wr.heap.size wr w4):=HB3.out.grown hg4 HB3.out.size (fun k hk=>by have:=ax hk;omega);have HS4:Hid (w4.heap[GN]?=some (.cells #[.map (some Xq),.pointer (some ⟨ob,0,none⟩)] 302 (0,0))):=(hg4.block _ (bN HS3.out) (fun e=>by have:=ax e;omega)).trans HS3.out;have ru:=aV hm4;have HJ4:=OQ e0.outs (.slice nu no co) w4 (HDA.out.outs.iy xC.out) (by have:=Pq.out;omega) (fun y hy=>by have:=Pq.out.2.2.2.2.1 y hy;omega)
   have q0:w4.cell? ⟨wr.heap.size+1,0,none⟩=some (.slice nu no co):=by rw[aj _ _ _ _ _ _ Ve.out];rfl
   clear hm4 hg4 htb HE3 HB3 HS3 ahM
   go_wp2_with fail
   refine HJ4.mono ?_;rintro e w5 ⟨rfl,hb5⟩;have HE5:Hid (w5.heap[wr.heap.size+1]?=some (.cells #[.slice nu no co,.slice kE ni ci,.slice lM nm cm,.slice nH nr cr,.string rl,.string ⟨#[]⟩] 63 (0,0))):=(hb5.block _ (bN Ve.out)).trans Ve.out;have Bq:=aV (xC.out.trans (hb5.mono xC.out.size));have Jg:Hid (w5.heap[GN]?=some (.cells #[.map (some Xq),.pointer (some ⟨ob,0,none⟩)] 302 (0,0))):=(hb5.block _ (bN HS4.out)).trans HS4.out;have Yt:=Rc (x:=Md) (v:=rQ e0.outs) Jg.out (eu.keep ru.out (hb5.block _ ru.out.lt)) aJ (show Md.size<=1048576 by decide);clear hb5 HJ4 Ve xC HS4 ru q0
   go_wp2_with fail
   refine Yt.mono ?_;rintro e w6 ⟨rfl,Zk,hg6⟩;have htb:=HTB.out;have HE6:Hid (w6.heap[wr.heap.size+1]?=some (.cells #[.slice nu no co,.slice kE ni ci,.slice lM nm cm,.slice nH nr cr,.string rl,.string ⟨#[]⟩] 63 (0,0))):=(hg6.block _ (bN HE5.out) (fun e=>by have:=ax e;omega)).trans HE5.out;have FP:Hid (Below wr.heap.size wr w6):=Bq.out.grown hg6 Bq.out.size (fun k hk=>by have:=ax hk;omega)
   have Mt:Hid (lY w6 (.pointer (some ⟨GN,0,none⟩)) [EW e0,e0.own,S.top]):=by
    obtain⟨tb0,n0,q1,q2,q3⟩:=HDA.out.own;have hob:ob<wr.heap.size:=bN q2;refine⟨GN,Xq,1+1,.pointer (some ⟨ob,0,none⟩),rfl,(by show ob+1<=GN;omega),(hg6.block _ (bN Jg.out) (fun e=>by have:=ax e;omega)).trans Jg.out,Zk,?_⟩;have h1:lY wr (.pointer (some ⟨ob,0,none⟩)) [e0.own,S.top]:=⟨ob,tb0,n0,.pointer (some ⟨p.sb,0,none⟩),rfl,q1,q2,q3,p.sb,p.tb,p.n1,.pointer none,rfl,aS _,HST.out.const.now.2.1,HST.out.top,rfl⟩;exact h1.keep FP.out.block
   have HP6:=aV (HST.out.below FP.out)
   have q3:w6.cell? ⟨rb,3,none⟩=some (.map (some p.rm)):=by rw[aj _ _ _ _ _ _ HP6.out.row];rfl
   have q4:w6.cell? ⟨wr.heap.size+1,4,none⟩=some (.string rl):=by rw[aj _ _ _ _ _ _ HE6.out];rfl
   have hlk:(Instr.lookup 197 (.map (some p.rm)) (.string rl) false).run Tryz.prog w6.drew=.ok (((eT S.rules rl).map wD).getD yN) w6.drew:=eu.look (w:=w6.drew) (eu.keep (w':=w6.drew) HP6.out.rules rfl) Tryz.underlying197 HZ.out rl (by unfold maxLen;omega)
   have hlv:((eT S.rules rl).map wD).getD yN=.agg #[.string ((eT S.rules rl).getD ⟨#[]⟩)]:=by
    cases eT S.rules rl<;>rfl
   rw[hlv] at hlk
   have HX:=xX rb n ((eT S.rules rl).getD ⟨#[]⟩) [EW e0,e0.own,S.top] (.pointer (some ⟨GN,0,none⟩)) a w6.drew HP6.out.Ji (Mt.out.keep (fun k _=>rfl)) (HP6.out.gl.keep (ai _) (fun _ _=>rfl)) (by have:=ab6 H.out.ok rl;omega) (fun x=>by
    have hbi:=Tc (e:=e0) (by have:=Pq.out;omega) (by have:=Pq.out;omega) Pq.out.2.2.2.2.1 Pq.out.2.2.2.2.2.1
    have:=adz (N:=1000000) (ls:=[EW e0,e0.own,S.top]) (fun l hl y hy=>by
     rcases bg.1 hl with rfl|hl
     ·exact(hbi y hy).1
     rcases bg.1 hl with rfl|hl
     ·have:=(Pq.out.1 y hy).1;omega
     obtain rfl:=bD.1 hl
     have:=(H.out.ok.top y hy).1;omega) x
    omega) (YZ (fun l hl y hy=>by
     have hbi:=Tc (e:=e0) (by have:=Pq.out;omega) (by have:=Pq.out;omega) Pq.out.2.2.2.2.1 Pq.out.2.2.2.2.2.1
     rcases bg.1 hl with rfl|hl
     ·exact(hbi y hy).2
     rcases bg.1 hl with rfl|hl
     ·exact(Pq.out.1 y hy).2
     obtain rfl:=bD.1 hl
     exact(H.out.ok.top y hy).2))
   have HCM:Hid (qz S e0=iE (gK [EW e0,e0.own,S.top]) ((eT S.rules rl).getD ⟨#[]⟩)):=by
    show _=_;rw[RZ,HRL.out]
   clear hlv Zk hg6 htb HE5 Bq Jg Yt Mt;generalize (eT S.rules rl).getD ⟨#[]⟩=CT at*
   have hfd:∀wx,(Instr.field 316 (.agg #[.string CT]) 0).run Tryz.prog wx=.ok (.string CT) wx:=fun wx=>dD
   generalize hEX:iE (gK [EW e0,e0.own,S.top]) CT=EX at*;clear hEX
   cases EX with
   |none=>
    have HF:=aV (Df S S.bG j e0 HED.out.1 HCM.out)
    go_wp2_with fail
    go_region_with (go_at_call 201;refine HX.mono ?_;rintro e w8 ⟨hst,mH⟩;obtain⟨b,rfl,s0,s1⟩:=hst;refine uo ⟨rfl,(by rw[HF.out];exact⟨⟨b,rfl,s0,s1⟩,(lJ.out.trans (FP.out.mono lJ.out.size)).drew.trans (mH.mono (by have:=FP.out.size;have:=lJ.out.size;show _<=w6.heap.size;omega))⟩)⟩ w ?_)
    all_goals trivial
   |some y=>
    go_wp2_with fail
    go_region_with (go_at_call 201;refine HX.mono ?_;rintro e w8 ⟨rfl,mH⟩;have HE8:Hid (w8.heap[wr.heap.size+1]?=some (.cells #[.slice nu no co,.slice kE ni ci,.slice lM nm cm,.slice nH nr cr,.string rl,.string ⟨#[]⟩] 63 (0,0))):=(mH.block _ (bN HE6.out)).trans HE6.out;have q5:w8.cell? ⟨wr.heap.size+1,5,none⟩=some (.string ⟨#[]⟩):=(by rw[aj _ _ _ _ _ _ HE8.out];rfl);have f5:w8.frozen? ⟨wr.heap.size+1,5,none⟩=false:=aD _ _ _ _ _ HE8.out)
    all_goals
     have HE9:Hid ((w8.setCell ⟨wr.heap.size+1,5,none⟩ (.string y)).heap[wr.heap.size+1]?=some (.cells #[.slice nu no co,.slice kE ni ci,.slice lM nm cm,.slice nH nr cr,.string rl,.string y] 63 (0,0))):=by
      show _=_;rw[aR _ _ _ _ _ _ HE8.out];rfl
     have RD:Hid (Below wr.heap.size wr (w8.setCell ⟨wr.heap.size+1,5,none⟩ (.string y))):=(FP.out.drew.trans (mH.mono FP.out.size)).setCell (p:=⟨wr.heap.size+1,5,none⟩) (fH _) _;clear mH q5 f5 HE8 HE6 FP HP6 q3 q4 hlk HX hfd;generalize w8.setCell ⟨wr.heap.size+1,5,none⟩ (.string y)=W9 at*
     have z0:W9.cell? ⟨wr.heap.size+1,0,none⟩=some (.slice nu no co):=by rw[aj _ _ _ _ _ _ HE9.out];rfl
     have z1:W9.cell? ⟨wr.heap.size+1,1,none⟩=some (.slice kE ni ci):=by rw[aj _ _ _ _ _ _ HE9.out];rfl
     have z2:W9.cell? ⟨wr.heap.size+1,2,none⟩=some (.slice lM nm cm):=by rw[aj _ _ _ _ _ _ HE9.out];rfl
     have z3:W9.cell? ⟨wr.heap.size+1,3,none⟩=some (.slice nH nr cr):=by rw[aj _ _ _ _ _ _ HE9.out];rfl
     have z4:W9.cell? ⟨wr.heap.size+1,4,none⟩=some (.string rl):=by rw[aj _ _ _ _ _ _ HE9.out];rfl
     have z5:W9.cell? ⟨wr.heap.size+1,5,none⟩=some (.string y):=by rw[aj _ _ _ _ _ _ HE9.out];rfl
     have HOA:Hid ((W9.alloc (.cells #[.slice nu no co,.slice kE ni ci,.slice lM nm cm,.slice nH nr cr,.string rl,.string y] 63)).ownsRow w.heap.size 63 6 (.slice ao j cap) j (nJ (p.ds.take j) cs)):=dR HOW.out (fun k hk=>(bC W9 _ k (by have:=(bF HOW.out k hk).2;have:=RD.out.size;omega)).trans (RD.out.block k (bF HOW.out k hk).2));have hsz:w.heap.size<=W9.heap.size:=aC lJ.out.size RD.out.size;have CY:Hid (Below w.heap.size w (W9.alloc (.cells #[.slice nu no co,.slice kE ni ci,.slice lM nm cm,.slice nH nr cr,.string rl,.string y] 63))):=(lJ.out.trans (RD.out.mono lJ.out.size)).alloc hsz _
     go_wp2_with (at_builtin;refine Ad _ rfl (.tmp 50) (.tmp 52) 60 rfl w.heap.size 63 ti (.agg #[.slice none 0 0,.slice none 0 0,.slice none 0 0,.slice none 0 0,.string ⟨#[]⟩,.string ⟨#[]⟩]) 6 128 Tryz.underlying60 HTI.out.1 HTI.out.2.2.2 HTI.out.2.1 HTI.out.2.2.1 rfl bS _ j _ rfl (by exact HOA.out) ⟨W9.heap.size,0,none⟩ 1 1 [.slice nu no co,.slice kE ni ci,.slice lM nm cm,.slice nH nr cr,.string rl,.string y] rfl rfl (by exact iM W9 _ _) (by intro u hu;simp only[bg,dH,kz] at hu;rcases hu with rfl|rfl|rfl|rfl|rfl|rfl<;>rfl) (by unfold maxLen;omega) aJ (by simp;omega) ?_;intro v5 w5 hv5 hg5 hn5;refine dO ?_)
     have HO5:Hid (w5.ownsRow w.heap.size 63 6 v5 (j+1) (nJ (p.ds.take (j+1)) (cs++[y]))):=by
      rw[AU _ _ _ HED.out.2,BP _ _ _ _ (by rw[ic,Rp.out,HCL.out];omega)];exact hv5
     have Bq:Hid (Below w.heap.size w w5):=CY.out.grown hg5 (by simp;omega) (fun q hq=>(bF HOA.out q hq).1);obtain⟨ao5,cap5,rfl,_,_⟩:=bE HO5.out;clear hv5 hg5 hn5;unfold Hid
     go_wp2_with fail
     refine⟨⟨j+1,cap5,ao5,cs++[y],oW,rfl,hlt,by rw[aI,HCL.out];rfl,fun k e c hk he hc=>?_,HO5.out,Bq.out⟩,by simp[intOf];omega⟩
     rcases bX k j with q|q
     ·rw[bW (by rw[HCL.out];exact q)] at hc;exact Rl.out k e c q he hc
     obtain rfl:k=j:=aJ
     rw[HED.out.1] at he;obtain rfl:=ax he;rw[dz (by rw[HCL.out];exact ai _),HCL.out,qm] at hc;obtain rfl:=ax hc;exact HCM.out
  obtain rfl:j=L:=aJ
  have j1:¬(j:Int)<(j:Int):=aJ
  have HF:Hid (jl S S.bG=some cs):=Dh S S.bG cs (by rw[HCL.out,RF.out]) (fun k e c h1 h2=>Rl.out k e c (by have:=(aN.1 h1).1;have:=RF.out;omega) h1 h2)
  go_wp2_with fail
  go_ret;refine⟨?_,lJ.out⟩;rw[HF.out];refine⟨_,rfl,?_⟩;have h1:=HOW.out;rw[bK (by rw[Rp.out];exact ai _)] at h1;exact h1
end
end Go.Proofs.YthhbpebihgjpjaaGreatDoor
