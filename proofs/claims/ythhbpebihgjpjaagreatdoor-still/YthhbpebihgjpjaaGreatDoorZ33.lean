import Derived.Test.YthhbpebihgjpjaaGreatDoorZ32
namespace Go.Proofs.YthhbpebihgjpjaaGreatDoor
set_option maxRecDepth 1000000
set_option maxHeartbeats 20000000
set_option linter.all false
section
open Go.RowKit Go.Shelf
def TY(W0:Nat)(a:Nat->Addr)(n:Int)(r:Except FM jh)(e:Ending)(w':aj):Prop:=match r with
 |.ok s=>∃v,e=.returned v/\ru W0 w' v s
 |.error b=>jB n (iW a (BD b)) e w'
theorem Ua(w:aj):jH w.heap.size w (w.alloc (.cells #[.string ⟨#[]⟩,.slice none 0 0] 399)) (fun k=>if k=w.heap.size then 1 else 0) (.slice (some ⟨w.heap.size,0,none⟩) 1 1) (.slice none 0 0) [] [] ⟨#[]⟩ [] where
 secs:=World.ownsRow_lit w _ 1 (ai _) (by unfold maxLen;omega) rfl
 last:=dD _ _ _ _
 const:=fun _ _ _=>⟨rfl,fun k x y h _=>by simp at h⟩
 c1:=fun k hk=>by
  have e:w.heap.size=k:=ak hk;subst e;exact aD rfl
 c2:=fun k hk=>by cases hk
 low:=fun k hk=>ax (by omega)
 below:=(au _ _).alloc (ai _) _
theorem Dn(rb:Nat)(n:Int)(t:ah)(ls:List iB)(ao:Option Addr)(a:Nat->Addr)(ms:List ah)(vm:Value)(w:aj)(h0:w.cell? ⟨rb,0,none⟩=some (.int .i64 n))(h2:w.cell? ⟨rb,2,none⟩=some (.pointer ao))(hs:lU w (.pointer ao) ls)(hg:Gl a w)(ht:t.size<=4000)(hE:∀l∈ls,BOk l)(hm:bG w vm ms)(hml:ms.length<=2):
  Calls Tryz.prog 266 #[.pointer (some ⟨rb,0,none⟩),.string t,vm] w fun e w'=>TY w.heap.size a n (nK (gy ls) ms t) e w'/\Below w.heap.size w w':=by
 obtain⟨ti,HTI⟩:=iT (P:=Tryz.prog) (e:=399) (n:=2) (b:=40) (z:=(.agg #[.string ⟨#[]⟩,.slice none 0 0])) (by kernel_rfl);obtain⟨tj,HTJ⟩:=iT (P:=Tryz.prog) (e:=9) (n:=1) (b:=16) (z:=(.string ⟨#[]⟩)) (by kernel_rfl)
 have HRP:Hid (∀wx u,Below w.heap.size w wx->u.size<=4000->Calls Tryz.prog 320 #[.pointer (some ⟨rb,0,none⟩),.string u] wx fun e w'=>TV a n (qU (gy ls) u) e w'/\Below wx.heap.size wx w'):=fun wx u hb hu=>
  QU rb n u ls ao a wx ((hb.cell (p:=⟨rb,0,none⟩) (aC h0)).trans h0) ((hb.cell (p:=⟨rb,2,none⟩) (aC h2)).trans h2) (hs.keep hb.block) (hg.below hb hg.size) (by omega) hE
 have uR:Hid (∀wx,Below w.heap.size w wx->Calls Tryz.prog 112 #[.pointer (some ⟨rb,0,none⟩),.bool false,.iface 472 (.pointer (some (a 4)))] wx fun e w'=>jB n (iW a 4) e w'/\Below w.heap.size w w'):=fun wx hb=>(pq rb n _ _ wx ((hb.cell (p:=⟨rb,0,none⟩) (aC h0)).trans h0)).mono (fun e w' h=>⟨h.1,hb.trans (h.2.mono hb.size)⟩)
 have HCT:Hid (∀wx x,Below w.heap.size w wx->Calls Tryz.prog 321 #[vm,.string x] wx fun e w'=>e=.returned (.bool (eT x ms))/\w'=wx):=fun wx x hb=>PZ ms vm x wx (hm.gY hb) (by omega)
 have HC4:Hid (∀wx,Below w.heap.size w wx->wx.cell? ⟨4,0,none⟩=some (.iface 472 (.pointer (some (a 4))))):=fun wx hb=>(hg.below hb hg.size).errs 4 (by decide)
 have HT:=aP ht;obtain⟨lH,aoX,rfl,_,_⟩:=hm;generalize ms.length=ML at*;clear hs hg hE h0 h2
 go_enter Tryz.func266,Tryz.ntmps266
 go_wp2_with fail
 go_loopw [1,7] (fun v1 v7 wr=>∃(u:ah) (c:Nat->Nat) (g nn cap:Nat) (pv:Value) (vs:FX) (I:jh) (mk:ah) (l:List ah),v1=.string u/\v7=.slice (some ⟨g,0,none⟩) nn cap/\nn=vs.length+1/\jH w.heap.size w wr c (.slice (some ⟨g,0,none⟩) nn cap) pv vs I mk l/\qh (gy ls) ms u (I++[(mk,l)])=nK (gy ls) ms t/\u.size<=t.size/\l.length+u.size<=4000/\nn+u.size<=4001) (fun v1 _ _=>ai0 v1)
 case atStart=>
  exact⟨t,_,w.heap.size,1,1,.slice none 0 0,[],[],⟨#[]⟩,[],rfl,rfl,rfl,Ua w,rfl,ai _,by simpa using HT.out,by have:=HT.out;omega⟩
 case round=>
  obtain⟨u,c,g,nn,cap,pv,vs,I,mk,l,rfl,rfl,hnn,hp,hpa,hus,hls,hns⟩:=hrel;have HP:=aP hp;have Jd:=aP hpa;have GX:=aP hnn;have lF:=aP hp.below;clear hp hpa hnn;have hUS:=kD u
  have FP:Hid ((bD u).size=0->nK (gy ls) ms t=.ok (I++[(mk,l)])):=fun h=>Jd.out.symm.trans (TW _ _ _ _ h)
  have ahy:Hid ((bD u).size≠0->jI (bD u)=⟨#[]⟩->(nK (gy ls) ms t=match qU (gy ls) ((bD u).extract 0 (kL (bD u))) with
   |.error e=>.error e
   |.ok p=>qh (gy ls) ms ((bD u).extract (kL (bD u)) (bD u).size) (I++[(mk,l++[p])]))/\1<=kL (bD u)/\kL (bD u)<=(bD u).size):=fun h1 h2=>⟨by
    rw[<-Jd.out,QL _ _ _ _ h1 h2]
    cases qU (gy ls) ((bD u).extract 0 (kL (bD u))) with
    |error e=>rfl
    |ok p=>simp only[EA],yI u h1 h2⟩
  have aho:Hid ((bD u).size≠0->jI (bD u)≠⟨#[]⟩->(nK (gy ls) ms t=if eT (jI (bD u)) ms=true then qh (gy ls) ms ((bD u).extract (jI (bD u)).size (bD u).size) (I++[(mk,l)]++[(jI (bD u),[])]) else .error .syn)/\1<=(jI (bD u)).size/\(jI (bD u)).size<=(bD u).size):=fun h1 h2=>⟨by rw[<-Jd.out,QJ _ _ _ _ h1 h2],Cu h2⟩
  have XC:Hid (∀wx,Calls Tryz.prog 191 #[.string u] wx fun e w'=>e=.returned (.string (bD u))/\w'=wx):=fun wx=>gG u wx
  generalize bD u=U at*
  have HMO:Hid (∀wx,Calls Tryz.prog 319 #[.string U] wx fun e w'=>e=.returned (.string (jI U))/\w'=wx):=fun wx=>WI U wx
  generalize jI U=MK at*;have hnU:=qN U;have hnM:=qN MK
  by_cases hU:U.size=0
  ·have HF:=aP (FP.out hU);rw[bN hU] at hnU
   go_wp2_with fail
   refine(XC.out _).mono ?_;rintro e w1 ⟨rfl,rfl⟩
   go_wp2_with fail
   refine(HMO.out _).mono ?_;rintro e w1 ⟨rfl,rfl⟩
   go_wp2_with fail
   go_ret;exact⟨by rw[HF.out];exact⟨_,rfl,HP.out.done⟩,lF.out⟩
  rw[bH hU] at hnU
  by_cases hM:MK=⟨#[]⟩
  ·obtain⟨hst,apB,aiE⟩:=ahy.out hU hM;obtain rfl:=hM
   have HFI:Hid (∀wx,Calls Tryz.prog 265 #[.string U,.string ⟨#[32,58,124]⟩] wx fun e w'=>e=.returned (.int .i64 ((kL U:Nat):Int))/\w'=wx):=fun wx=>Dl Kz U ⟨#[32,58,124]⟩ adO (by have:=HT.out;omega) wx
   have HST:Hid (nK (gy ls) ms t=match qU (gy ls) (U.extract 0 (kL U)) with
    |.error e=>.error e
    |.ok p=>qh (gy ls) ms (U.extract (kL U) U.size) (I++[(mk,l++[p])])):=hst
   generalize kL U=PE at*
   have hs1:∀wx,(Instr.slice 9 (.string U) none (some (.int .i64 PE)) none).run Tryz.prog wx=.ok (.string (U.extract 0 PE)) wx:=fun wx=>qD U PE aiE wx
   have hs2:∀wx,(Instr.slice 9 (.string U) (some (.int .i64 PE)) none none).run Tryz.prog wx=.ok (.string (U.extract PE U.size)) wx:=fun wx=>nL U PE aiE wx
   have wU:Hid ((U.extract PE U.size).size+1<=u.size):=by show _<=_;rw[aI];omega
   have HX:=HRP.out wr.drew (U.extract 0 PE) lF.out.drew (by rw[aI];have:=HT.out;omega);have hS:=HP.out.secs;rw[<-GX.out] at hS;have hcell:=dO hS (vs.length*2+1) pv (GL (l:=vs++[(mk,pv)]) (i:=vs.length) (x:=(mk,pv)) (by simp)).2;have c1:=hcell.1;have f1:=hcell.2;have hgw:g<wr.heap.size:=aC c1
   have hw0:IntKind.i64.wrap ((nn:Int)-1)=(vs.length:Int):=by rw[gH];have:=GX.out;omega
   have hi1:(vs.length:Int)<(nn:Int):=by have:=GX.out;omega
   have hi0:(0:Int)<=(vs.length:Int):=by omega
   clear hst hcell hnM hS;generalize U.extract 0 PE=PT at*;generalize U.extract PE U.size=RT at*;obtain⟨VL,hVL⟩:∃VL,VL=vs.length:=⟨_,rfl⟩;have HVL:=aP hVL;rw[<-hVL] at c1 f1 hw0 hi1 hi0;clear hVL
   cases hp:qU (gy ls) PT with
   |error b=>
    have HF:Hid (nK (gy ls) ms t=.error b):=by rw[HST.out,hp];rfl
    rw[hp] at HX
    go_wp2_with fail
    refine(XC.out _).mono ?_;rintro e w1 ⟨rfl,rfl⟩
    go_wp2_with fail
    refine(HMO.out _).mono ?_;rintro e w2 ⟨rfl,rfl⟩
    go_wp2_with fail
    refine(HFI.out _).mono ?_;rintro e w3 ⟨rfl,rfl⟩
    go_wp2_with fail
    go_region_with (go_at_call 320;refine HX.mono ?_;rintro e w8 ⟨hst,mr⟩;obtain⟨b',rfl,s0,s1⟩:=hst;refine uj ⟨rfl,(by rw[HF.out];exact⟨b',rfl,s0,s1⟩),lF.out.drew.trans (mr.mono lF.out.size)⟩ w ?_)
    all_goals trivial
   |ok p=>
    have HF:Hid (nK (gy ls) ms t=qh (gy ls) ms RT (I++[(mk,l++[p])])):=by rw[HST.out,hp];rfl
    rw[hp] at HX
    go_wp2_with fail
    refine(XC.out _).mono ?_;rintro e w1 ⟨rfl,rfl⟩
    go_wp2_with fail
    refine(HMO.out _).mono ?_;rintro e w2 ⟨rfl,rfl⟩
    go_wp2_with fail
    refine(HFI.out _).mono ?_;rintro e w3 ⟨rfl,rfl⟩
    go_wp2_with fail
    refine jT (by kernel_rfl) ?_;change wpAny _ _ _ _ _ _ _ (World.drew _);refine uA 0 (.pointer (some ⟨g,VL*2,none⟩)) rfl ?_<|uA 1 (.pointer (some ⟨g,VL*2,none⟩)) rfl ?_<|uA 2 (.pointer (some ⟨g,VL*2,none⟩)) rfl ?_<|uA 3 (.pointer (some ⟨g,VL*2+1,none⟩)) rfl ?_<|uA 5 (.pointer (some ⟨rb,0,none⟩)) rfl ?_<|uA 6 (.string U) rfl ?_<|uA 7 (.int .i64 PE) rfl ?_<|uA 8 (.string PT) rfl ?_ ?_;(iterate 8 ·exact⟨by kernel_rfl,kI,by intro w;go_simp⟩)
    refine pA 4 9 rfl rfl (by kernel_rfl) (fun K hK=>?_) fun K hK=>?_
    ·go_simp;refine hK _ _ ?_;clear hK K
     refine rA 9 rfl (by kernel_rfl) fun K hK=>?_
     go_simp
     go_wp2_with (go_at_call 320;refine HX.mono ?_;rintro e w8 ⟨rfl,mr⟩)
     have MI:Hid (jH w.heap.size w (w8.alloc (.cells #[.string p] 9)) c (.slice (some ⟨g,0,none⟩) nn cap) pv vs I mk l):=((HP.out.later (au _ _).drew lF.out.size).later mr lF.out.size).later ((au _ _).alloc (ai _) _) (aA lF.out.size mr.size);have Gq:w.heap.size<=w8.heap.size:=aA lF.out.size mr.size;clear mr f1;clear c1
     refine rA 10 rfl (by kernel_rfl) fun K hK=>?_
     go_simp;refine hK _ _ ?_;clear hK K
     refine rA 11 rfl (by kernel_rfl) fun K hK=>?_
     refine step_append_lies _ rfl (.tmp 50) (.tmp 56) 32 rfl w.heap.size 9 tj (.string ⟨#[]⟩) 1 16 Tryz.underlying32 HTJ.out.1 HTJ.out.2.2.2 HTJ.out.2.1 HTJ.out.2.2.1 rfl (by decide) _ l.length (l.map Value.string) rfl MI.out.last ⟨w8.heap.size,0,none⟩ 1 1 [.string p] rfl rfl (by exact iH w8 _ _) (by intro u hu;simp only[aV,dz,ko] at hu;subst hu;rfl) (by decide) (by unfold maxLen;omega) (by omega) (by simp;omega) _ rfl ?_;intro g6 cap6 w6 hv6 hg6 hat6 hlt6;have ES:=MI.out.still GX.out hg6;rw[<-HVL.out] at ES;have c6:=ES.1;have f6:=ES.2
     have HM:Hid (∃c',jH w.heap.size w (w6.setCell ⟨g,VL*2+1,none⟩ (.slice (some ⟨g6,0,none⟩) (l.length+1) cap6)) c' (.slice (some ⟨g,0,none⟩) nn cap) (.slice (some ⟨g6,0,none⟩) (l.length+1) cap6) vs I mk (l++[p])):=by
      rw[HVL.out];refine MI.out.add GX.out hg6 hv6 ?_ (by simp;omega);intro k hk;have e:g6=k:=ak hk;subst e
      rcases hat6 with e2|e2
      ·exact aG e2
      right;rw[e2];exact ai _
     clear hv6 hg6 hat6 hlt6 ES;refine hK _ _ ?_;clear hK K;refine uA 12 (.pointer (some ⟨g,VL*2,none⟩)) rfl ?_<|uA 13 (.pointer (some ⟨g,VL*2+1,none⟩)) rfl ?_ ?_;(iterate 2 ·exact⟨by kernel_rfl,kI,by intro w;go_simp⟩)
     refine rA 14 rfl (by kernel_rfl) fun K hK=>?_
     go_simp;refine hK _ _ ?_;clear hK K;refine yP (by kernel_rfl) ?_ _;generalize hw7:w6.setCell ⟨g,VL*2+1,none⟩ (.slice (some ⟨g6,0,none⟩) (l.length+1) cap6)=w7 at*;clear hw7 c6 f6
     go_wp2_with fail
     obtain⟨c',hc'⟩:=HM.out;exact⟨⟨RT,c',g,nn,cap,.slice (some ⟨g6,0,none⟩) (l.length+1) cap6,vs,I,mk,l++[p],rfl,rfl,GX.out,hc',HF.out.symm,by have:=wU.out;omega,by have:=wU.out;rw[aF];show l.length+1+_<=_;omega,by have:=wU.out;omega⟩,by have:=wU.out;show RT.size<u.size;omega⟩
    go_simp
    go_wp2_with (go_at_call 320;refine HX.mono ?_;rintro e w8 ⟨rfl,mr⟩)
    have c8:w8.cell? ⟨g,VL*2+1,none⟩=some pv:=(mr.cell (p:=⟨g,VL*2+1,none⟩) hgw).trans c1;have l8:g<w8.heap.size:=ay hgw mr.size
    refine pA 4 10 rfl rfl (by kernel_rfl) (fun K hK=>?_) fun K hK=>?_
    ·go_simp;refine hK _ _ ?_;clear hK K c8;have MI:Hid (jH w.heap.size w (w8.alloc (.cells #[.string p] 9)) c (.slice (some ⟨g,0,none⟩) nn cap) pv vs I mk l):=((HP.out.later (au _ _).drew lF.out.size).later mr lF.out.size).later ((au _ _).alloc (ai _) _) (aA lF.out.size mr.size);have Gq:w.heap.size<=w8.heap.size:=aA lF.out.size mr.size;clear mr f1;clear c1
     refine rA 10 rfl (by kernel_rfl) fun K hK=>?_
     go_simp;refine hK _ _ ?_;clear hK K
     refine rA 11 rfl (by kernel_rfl) fun K hK=>?_
     refine step_append_lies _ rfl (.tmp 50) (.tmp 56) 32 rfl w.heap.size 9 tj (.string ⟨#[]⟩) 1 16 Tryz.underlying32 HTJ.out.1 HTJ.out.2.2.2 HTJ.out.2.1 HTJ.out.2.2.1 rfl (by decide) _ l.length (l.map Value.string) rfl MI.out.last ⟨w8.heap.size,0,none⟩ 1 1 [.string p] rfl rfl (by exact iH w8 _ _) (by intro u hu;simp only[aV,dz,ko] at hu;subst hu;rfl) (by decide) (by unfold maxLen;omega) (by omega) (by simp;omega) _ rfl ?_;intro g6 cap6 w6 hv6 hg6 hat6 hlt6;have ES:=MI.out.still GX.out hg6;rw[<-HVL.out] at ES;have c6:=ES.1;have f6:=ES.2
     have HM:Hid (∃c',jH w.heap.size w (w6.setCell ⟨g,VL*2+1,none⟩ (.slice (some ⟨g6,0,none⟩) (l.length+1) cap6)) c' (.slice (some ⟨g,0,none⟩) nn cap) (.slice (some ⟨g6,0,none⟩) (l.length+1) cap6) vs I mk (l++[p])):=by
      rw[HVL.out];refine MI.out.add GX.out hg6 hv6 ?_ (by simp;omega);intro k hk;have e:g6=k:=ak hk;subst e
      rcases hat6 with e2|e2
      ·exact aG e2
      right;rw[e2];exact ai _
     clear hv6 hg6 hat6 hlt6 ES;refine hK _ _ ?_;clear hK K;refine uA 12 (.pointer (some ⟨g,VL*2,none⟩)) rfl ?_<|uA 13 (.pointer (some ⟨g,VL*2+1,none⟩)) rfl ?_ ?_;(iterate 2 ·exact⟨by kernel_rfl,kI,by intro w;go_simp⟩)
     refine rA 14 rfl (by kernel_rfl) fun K hK=>?_
     go_simp;refine hK _ _ ?_;clear hK K;refine yP (by kernel_rfl) ?_ _;generalize hw7:w6.setCell ⟨g,VL*2+1,none⟩ (.slice (some ⟨g6,0,none⟩) (l.length+1) cap6)=w7 at*;clear hw7 c6 f6
     go_wp2_with fail
     obtain⟨c',hc'⟩:=HM.out;exact⟨⟨RT,c',g,nn,cap,.slice (some ⟨g6,0,none⟩) (l.length+1) cap6,vs,I,mk,l++[p],rfl,rfl,GX.out,hc',HF.out.symm,by have:=wU.out;omega,by have:=wU.out;rw[aF];show l.length+1+_<=_;omega,by have:=wU.out;omega⟩,by have:=wU.out;show RT.size<u.size;omega⟩
    go_simp;refine hK _ _ ?_;clear hK K;have MI:Hid (jH w.heap.size w (w8.alloc (.cells #[.string p] 9)) c (.slice (some ⟨g,0,none⟩) nn cap) pv vs I mk l):=((HP.out.later (au _ _).drew lF.out.size).later mr lF.out.size).later ((au _ _).alloc (ai _) _) (aA lF.out.size mr.size);have Gq:w.heap.size<=w8.heap.size:=aA lF.out.size mr.size;clear mr f1
    refine rA 4 rfl (by kernel_rfl) fun K hK=>?_
    go_simp;refine hK _ _ ?_;clear hK K c8 c1
    refine rA 11 rfl (by kernel_rfl) fun K hK=>?_
    refine step_append_lies _ rfl (.tmp 50) (.tmp 56) 32 rfl w.heap.size 9 tj (.string ⟨#[]⟩) 1 16 Tryz.underlying32 HTJ.out.1 HTJ.out.2.2.2 HTJ.out.2.1 HTJ.out.2.2.1 rfl (by decide) _ l.length (l.map Value.string) rfl MI.out.last ⟨w8.heap.size,0,none⟩ 1 1 [.string p] rfl rfl (by exact iH w8 _ _) (by intro u hu;simp only[aV,dz,ko] at hu;subst hu;rfl) (by decide) (by unfold maxLen;omega) (by omega) (by simp;omega) _ rfl ?_;intro g6 cap6 w6 hv6 hg6 hat6 hlt6;have ES:=MI.out.still GX.out hg6;rw[<-HVL.out] at ES;have c6:=ES.1;have f6:=ES.2
    have HM:Hid (∃c',jH w.heap.size w (w6.setCell ⟨g,VL*2+1,none⟩ (.slice (some ⟨g6,0,none⟩) (l.length+1) cap6)) c' (.slice (some ⟨g,0,none⟩) nn cap) (.slice (some ⟨g6,0,none⟩) (l.length+1) cap6) vs I mk (l++[p])):=by
     rw[HVL.out];refine MI.out.add GX.out hg6 hv6 ?_ (by simp;omega);intro k hk;have e:g6=k:=ak hk;subst e
     rcases hat6 with e2|e2
     ·exact aG e2
     right;rw[e2];exact ai _
    clear hv6 hg6 hat6 hlt6 ES;refine hK _ _ ?_;clear hK K;refine uA 12 (.pointer (some ⟨g,VL*2,none⟩)) rfl ?_<|uA 13 (.pointer (some ⟨g,VL*2+1,none⟩)) rfl ?_ ?_;(iterate 2 ·exact⟨by kernel_rfl,kI,by intro w;go_simp⟩)
    refine rA 14 rfl (by kernel_rfl) fun K hK=>?_
    go_simp;refine hK _ _ ?_;clear hK K;refine yP (by kernel_rfl) ?_ _;generalize hw7:w6.setCell ⟨g,VL*2+1,none⟩ (.slice (some ⟨g6,0,none⟩) (l.length+1) cap6)=w7 at*;clear hw7 c6 f6
    go_wp2_with fail
    obtain⟨c',hc'⟩:=HM.out;exact⟨⟨RT,c',g,nn,cap,.slice (some ⟨g6,0,none⟩) (l.length+1) cap6,vs,I,mk,l++[p],rfl,rfl,GX.out,hc',HF.out.symm,by have:=wU.out;omega,by have:=wU.out;rw[aF];show l.length+1+_<=_;omega,by have:=wU.out;omega⟩,by have:=wU.out;show RT.size<u.size;omega⟩
  obtain⟨hst,hz1,hz2⟩:=aho.out hU hM
  have hM0:¬MK.size=0:=by omega
  rw[bH hM0] at hnM;have c4:=HC4.out wr lF.out
  cases hb:eT MK ms with
  |false=>
   rw[hb,ax (by decide)] at hst;have HF:=aP hst;have HCF:=HCT.out wr.drew MK lF.out.drew;rw[hb] at HCF;have HCF:=aP HCF;clear hst
   go_wp2_with fail
   refine(XC.out _).mono ?_;rintro e w1 ⟨rfl,rfl⟩
   go_wp2_with fail
   refine(HMO.out _).mono ?_;rintro e w2 ⟨rfl,rfl⟩
   go_wp2_with fail
   go_region_with (first|(go_at_call 321;refine HCF.out.mono ?_;rintro e w8 ⟨rfl,rfl⟩)|(go_at_call 112;refine(uR.out _ lF.out.drew).mono ?_;rintro e w8 ⟨hst,mr⟩;obtain⟨b,rfl,s0,s1⟩:=hst;refine uj ⟨rfl,(by rw[HF.out];exact⟨b,rfl,s0,s1⟩),mr⟩ w ?_))
   all_goals trivial
  |true=>
   rw[hb,aD rfl] at hst;have HF:=aP hst;have HCF:=HCT.out wr.drew MK lF.out.drew;rw[hb] at HCF;have HCF:=aP HCF;clear hst
   have hsl:∀wx,(Instr.slice 9 (.string U) (some (.int .i64 MK.size)) none none).run Tryz.prog wx=.ok (.string (U.extract MK.size U.size)) wx:=fun wx=>nL U MK.size hz2 wx
   have wU:Hid ((U.extract MK.size U.size).size+1<=u.size):=by show _<=_;rw[aI];omega
   go_wp2_with fail
   refine(XC.out _).mono ?_;rintro e w1 ⟨rfl,rfl⟩
   go_wp2_with fail
   refine(HMO.out _).mono ?_;rintro e w2 ⟨rfl,rfl⟩
   go_wp2_with fail
   go_region_with (first|(go_at_call 321;refine HCF.out.mono ?_;rintro e w8 ⟨rfl,rfl⟩)|(go_at_call 112;refine(gD _ _ _).mono ?_;rintro e w8 ⟨rfl,rfl⟩))
   all_goals
    obtain⟨w3,hw3⟩:∃w3,w3=w2.drew:=⟨_,rfl⟩;rw[<-hw3]
    have Ep:Hid (jH w.heap.size w w3 c (.slice (some ⟨g,0,none⟩) nn cap) pv vs I mk l):=by rw[hw3];exact HP.out.later (au _ _).drew lF.out.size
    have HS3:Hid (w3.ownsRow w.heap.size 399 2 (.slice (some ⟨g,0,none⟩) nn cap) nn (sI (vs++[(mk,pv)]))):=by
     have h:=Ep.out.secs;rw[<-GX.out] at h;exact h
    have hW3:w.heap.size<=w3.heap.size:=Ep.out.below.size;clear hw3 c4
    go_wp2_with (at_builtin;refine wpList_append_lies _ rfl (.tmp 23) (.tmp 26) 396 rfl w.heap.size 399 ti (.agg #[.string ⟨#[]⟩,.slice none 0 0]) 2 40 Tryz.underlying396 HTI.out.1 HTI.out.2.2.2 HTI.out.2.1 HTI.out.2.2.1 rfl (by decide) _ nn (sI (vs++[(mk,pv)])) rfl (by exact dL HS3.out (fun k hk=>aZ w3 _ k (bA HS3.out k hk).2)) ⟨w3.heap.size,0,none⟩ 1 1 [.string MK,.slice none 0 0] rfl rfl (by exact iH w3 _ _) (by intro u hu;simp only[aV,dz,ko] at hu;rcases hu with rfl|rfl<;>rfl) (by decide) (by unfold maxLen;omega) (by omega) (by simp;omega) _ rfl ?_;intro g6 cap6 w6 hv6 hg6 hat6 hlt6;refine dI ?_)
    have HM:Hid (∃c',jH w.heap.size w w6 c' (.slice (some ⟨g6,0,none⟩) (nn+1) cap6) (.slice none 0 0) (vs++[(mk,pv)]) (I++[(mk,l)]) MK []):=by
     refine(Ep.out.later ((au _ _).alloc (ai _) _) hW3).more hg6 ?_ ?_ (by simp;omega)
     ·rw[zB];have h:=hv6;rw[GX.out] at h⊢;exact h
     intro k hk;have e:g6=k:=ak hk;subst e
     rcases hat6 with e2|e2
     ·exact aG e2
     right;rw[e2];exact ai _
    clear hv6 hg6 hat6 hlt6;unfold Hid
    go_wp2_with fail
    obtain⟨c',hc'⟩:=HM.out;exact⟨⟨U.extract MK.size U.size,c',g6,nn+1,cap6,.slice none 0 0,vs++[(mk,pv)],I++[(mk,l)],MK,[],rfl,rfl,by rw[aF,GX.out];rfl,hc',HF.out.symm,by have:=wU.out;omega,by have:=wU.out;show 0+_<=_;omega,by have:=wU.out;omega⟩,by have:=wU.out;show(U.extract MK.size U.size).size<u.size;omega⟩
end
def nD(s:jh):Nat:=(s.map fun x=>x.2.length).sum
theorem zb(a b:jh):nD (a++b)=nD a+nD b:=by unfold nD;rw[iC,adg]
theorem uY:∀{s:jh} {x:ah×List ah},x∈s->x.2.length<=nD s
 |y::s,x,h=>by
  have e:nD (y::s)=y.2.length+nD s:=by unfold nD;simp
  rcases aV.1 h with rfl|h
  ·omega
  have:=uY h;omega
structure oP(ms:List ah)(s:jh):Prop where
 ne:s≠[]
 names:∀x∈s,∀y∈x.2,y.size<=32
 first:(s.head?.map (·.1))=some ⟨#[]⟩
 marks:∀x∈s.tail,eT x.1 ms=true
variable {ms:List ah}{s:jh}
theorem oP.tZ(h:oP ms s){p:ah}(hp:p.size<=32):oP ms (tZ s p)/\nD (tZ s p)=nD s+1/\(tZ s p).length=s.length:=by
 rcases tL s with h0|⟨I,x,rfl⟩
 ·exact absurd h0 h.ne
 obtain⟨mk,l⟩:=x;rw[tK] at*;rw[EA];refine⟨⟨by simp,fun x hx y hy=>?_,?_,fun x hx=>?_⟩,?_,by simp⟩
 ·rcases bK.1 hx with hx|hx
  ·exact h.names x (fq _ hx) y hy
  obtain rfl:=bg.1 hx
  rcases bK.1 hy with hy|hy
  ·exact h.names (mk,l) (by simp) y hy
  obtain rfl:=bg.1 hy;exact hp
 ·have:=h.first
  cases I with
  |nil=>exact this
  |cons z I=>exact this
 ·cases I with
  |nil=>cases hx
  |cons z I=>
   rcases bK.1 (show x∈I++[(mk,l++[p])] from hx) with hx|hx
   ·exact h.marks x (show x∈I++[(mk,l)] from fq _ hx)
   obtain rfl:=bg.1 hx;exact h.marks (mk,l) (show(mk,l)∈I++[(mk,l)] by simp)
 rw[zb,zb];unfold nD
 simp
 omega
theorem oP.adl(h:oP ms s){m:ah}(hm:eT m ms=true):oP ms (s++[(m,[])])/\nD (s++[(m,[])])=nD s:=by
 refine⟨⟨by simp,fun x hx y hy=>?_,?_,fun x hx=>?_⟩,?_⟩
 ·rcases bK.1 hx with hx|hx
  ·exact h.names x hx y hy
  obtain rfl:=bg.1 hx
  cases hy
 ·have:=h.first
  cases s with
  |nil=>exact absurd rfl h.ne
  |cons z I=>exact this
 ·cases s with
  |nil=>exact absurd rfl h.ne
  |cons z I=>
   rcases bK.1 (show x∈I++[(m,[])] from hx) with hx|hx
   ·exact h.marks x hx
   obtain rfl:=bg.1 hx;exact hm
 rw[zb];rfl
variable {E:ah->ah}{t:ah}
theorem Xa{p:ah}(h:qU E t=.ok p):p.size<=32:=by
 unfold qU at h
 split at h
 ·cases h
 split at h
 ·rename_i hk
  injection h with h;subst h;unfold mH at hk;simp only[qW] at hk;have:=fC (show eD _=true from hk.1.1);exact this.2.1
 cases h
theorem AB(E:ah->ah)(ms:List ah):∀(g:Nat) (u:ah) (a s:jh),jK E ms g u a=.ok s->oP ms a->oP ms s/\nD s<=nD a+u.size/\s.length<=a.length+u.size
 |0,u,a,s,h,ha=>by
  rw[jK] at h;injection h with h;subst h;exact⟨ha,by omega,by omega⟩
 |g+1,u,a,s,h,ha=>by
  have hle:=kD u;rw[jK] at h
  by_cases h0:(bD u).size=0
  ·rw[aD h0] at h;injection h with h;subst h;exact⟨ha,by omega,by omega⟩
  rw[ax h0] at h
  by_cases hm:jI (bD u)=⟨#[]⟩
  ·rw[aD hm] at h;have hp:=yI u h0 hm
   cases hq:qU E ((bD u).extract 0 (kL (bD u))) with
   |error e=>rw[hq] at h;cases h
   |ok p=>
    rw[hq] at h;obtain⟨h1,h2,h3⟩:=ha.tZ (Xa hq);obtain⟨h4,h5,h6⟩:=AB E ms g _ _ s h h1;rw[aI] at h5 h6;exact⟨h4,by omega,by omega⟩
  rw[ax hm] at h;have hz:=Cu hm
  by_cases hb:eT (jI (bD u)) ms=true
  ·rw[aD hb] at h;obtain⟨h1,h2⟩:=ha.adl hb;obtain⟨h4,h5,h6⟩:=AB E ms g _ _ s h h1;rw[aI] at h5 h6;rw[aF] at h6;refine⟨h4,by omega,?_⟩;have:([(jI (bD u),([]:List ah))]:jh).length=1:=rfl;omega
  rw[ax hb] at h
  cases h
theorem xG(h:nK E ms t=.ok s):oP ms s/\nD s<=t.size/\s.length<=1+t.size:=by
 have ha:oP ms [(⟨#[]⟩,[])]:=⟨by simp,(fun x hx y hy=>by obtain rfl:=bg.1 hx;cases hy),rfl,(fun x hx=>by cases hx)⟩;obtain⟨h1,h2,h3⟩:=AB E ms _ t _ s h ha;have e:nD [(⟨#[]⟩,[])]=0:=rfl;exact⟨h1,by omega,by simpa using h3⟩
theorem oP.iF(h:oP ms s):∃x,s[0]?=some x/\iF s=x.2/\x∈s:=by
 cases s with
 |nil=>exact absurd rfl h.ne
 |cons x s=>exact⟨x,rfl,rfl,aM⟩
section
open Go.RowKit Go.Shelf
theorem LD:∀(s:jh) (k:Nat) (x y:ah×List ah),s[k]?=some x->s[k+1]?=some y->¬x.1.size<y.1.size->qO s=false
 |[],k,x,y,h,_,_=>by simp at h
 |[z],k,x,y,_,h,_=>by simp at h
 |z::z2::l,0,x,y,h1,h2,h3=>by
  simp only[jk,Option.some.injEq] at h1;simp only[iE,jk,Option.some.injEq] at h2;subst h1 h2;rw[qO,bH h3];rfl
 |z::z2::l,k+1,x,y,h1,h2,h3=>by
  rw[qO,LD (z2::l) k x y (by simpa using h1) (by simpa using h2) h3,Pm]
theorem LC:∀(s:jh),(∀(k:Nat) x y,s[k]?=some x->s[k+1]?=some y->x.1.size<y.1.size)->qO s=true
 |[],_=>rfl
 |[z],_=>rfl
 |z::z2::l,h=>by
  rw[qO,bN (h 0 z z2 rfl rfl),LC (z2::l) (fun k x y h1 h2=>h (k+1) x y (by simpa using h1) (by simpa using h2))];rfl
variable {W0:Nat}{w:aj}{v:Value}
theorem ru.cell(h:ru W0 w v s):∃g cap,v=.slice (some ⟨g,0,none⟩) s.length cap/\s.length<=cap/\∀(i:Nat) y,s[i]?=some y->∃pv,w.cell? ⟨g,i*2,none⟩=some (.string y.1)/\w.cell? ⟨g,i*2+1,none⟩=some pv/\gu W0 w pv y.2:=by
 obtain⟨g,cap,rfl,hc,vs,hs,hcell⟩:=h;refine⟨g,cap,rfl,hc,fun i y hy=>?_⟩
 have hi:i<vs.length:=by rw[hs.1];exact(aJ.1 hy).1
 have hx:vs[i]?=some vs[i]:=eP hi;obtain⟨e,ht⟩:=hs.2 i _ y hx hy;have:=hcell i _ hx;exact⟨_,by rw[<-e];exact this.1,this.2,ht⟩
variable {w':aj}{l:List ah}
theorem gu.keep(h:gu W0 w v l)(hb:∀k,k<w.heap.size->w'.heap[k]?=w.heap[k]?):gu W0 w' v l:=by
 refine⟨?_,h.2⟩;obtain⟨ao,cap,rfl,hc,q|⟨b,o,rfl,q⟩⟩:=h.1
 ·exact⟨ao,cap,rfl,hc,aG q⟩
 exact⟨_,cap,rfl,hc,aL ⟨b,o,rfl,fun k s hs=>(aB (w:=w) (a:=⟨b,o+k,none⟩) (hb b (aC (q k s hs)))).trans (q k s hs)⟩⟩
theorem ru.keep(h:ru W0 w v s)(hb:∀k,k<w.heap.size->w'.heap[k]?=w.heap[k]?):ru W0 w' v s:=by
 obtain⟨g,cap,rfl,hc,vs,hs,hcell⟩:=h;refine⟨g,cap,rfl,hc,vs,⟨hs.1,fun k x y hx hy=>⟨(hs.2 k x y hx hy).1,(hs.2 k x y hx hy).2.keep hb⟩⟩,fun i x hx=>?_⟩;obtain⟨h1,h2⟩:=hcell i x hx;exact⟨(aB (w:=w) (a:=⟨g,i*2,none⟩) (hb g (aC h1))).trans h1,(aB (w:=w) (a:=⟨g,i*2+1,none⟩) (hb g (aC h2))).trans h2⟩
theorem Xh(W0:Nat)(s:jh)(v:Value)(w:aj)(h:ru W0 w v s)(hs:s.length<=5000)(hm:∀x∈s,x.1.size<=5000):
  Calls Tryz.prog 267 #[v] w fun e w'=>e=.returned (.bool (qO s))/\∃q,w'=w.drewN q:=by
 obtain⟨g,cap,rfl,hc,hcell⟩:=h.cell;have HC:=aP hcell;have HM:=aP hm
 have n0:(s.length:Int)<=5000:=by omega
 clear h hcell hm;generalize hL:s.length=L at*;have HL:=aP hL;clear hL
 go_enter Tryz.func267,Tryz.ntmps267
 go_wp2_with fail
 go_loopw [3] (fun i wr=>∃j:Nat,i=.int .i64 ((j:Int)+1)/\(j<=L)/\(∀(k:Nat) x y,k<j->s[k]?=some x->s[k+1]?=some y->x.1.size<y.1.size)/\∃q,wr=w.drewN q) (fun i _=>L+1-(intOf i).toNat)
 case atStart=>exact⟨0,rfl,aN _,fun k x y hk=>by omega,0,rfl⟩
 case round=>
  obtain⟨j,rfl,hle,hag,hbq⟩:=hrel;have HBQ:=aP hbq
  have hbw:Below w.heap.size w wr:=by obtain⟨q,rfl⟩:=hbq;exact bX (au _ _) q
  have Bp:Hid (∃q,wr.drew=w.drewN q):=by obtain⟨q,hq⟩:=hbq;exact⟨q+1,by rw[hq];rfl⟩
  clear hbq;have Rj:=aP hag;have lF:=aP hbw;clear hag hbw
  by_cases hlt:j+1<L
  ·obtain⟨x,hx⟩:∃x,s[j]?=some x:=⟨s[j]'(by have:=HL.out;omega),by simp⟩;obtain⟨y,hy⟩:∃y,s[j+1]?=some y:=⟨s[j+1]'(by have:=HL.out;omega),by simp⟩;obtain⟨_,cx,_,_⟩:=HC.out j x hx;obtain⟨_,cy,_,_⟩:=HC.out (j+1) y hy;have c1:wr.cell? ⟨g,j*2,none⟩=some (.string x.1):=(lF.out.cell (p:=⟨g,j*2,none⟩) (aC cx)).trans cx;have c2:wr.cell? ⟨g,(j+1)*2,none⟩=some (.string y.1):=(lF.out.cell (p:=⟨g,(j+1)*2,none⟩) (aC cy)).trans cy;have hxs:=HM.out x (aO hx);have hys:=HM.out y (aO hy);have HXY:=aP (aK hx hy);clear cx cy hx hy;obtain⟨J,hJ⟩:∃J,J=j+1:=⟨_,rfl⟩;rw[<-hJ] at c2
   have e1:(j:Int)+1=(J:Int):=by omega
   rw[e1]
   have hw0:IntKind.i64.wrap ((J:Int)-1)=(j:Int):=by rw[gH];omega
   have i0:(0:Int)<=(J:Int):=by omega
   have i1:(J:Int)<(L:Int):=by omega
   have i2:(0:Int)<=(j:Int):=by omega
   have i3:(j:Int)<(L:Int):=by omega
   have HJ:=aP hJ;clear hJ e1;obtain⟨x1,x2⟩:=x;obtain⟨y1,y2⟩:=y;simp only at c1 c2 hxs hys
   by_cases hxy:x1.size<y1.size
   ·have HR:Hid (∀(k:Nat) x y,k<j+1->s[k]?=some x->s[k+1]?=some y->x.1.size<y.1.size):=fun k x y hk h1 h2=>by
     rcases bR k j with q|q
     ·exact Rj.out k x y q h1 h2
     obtain rfl:k=j:=by omega
     rw[HXY.out.1] at h1;rw[HXY.out.2] at h2;obtain rfl:=ak h1;obtain rfl:=ak h2;exact hxy
    have t1:¬(y1.size:Int)<=(x1.size:Int):=by omega
    go_wp2_with fail
    go_region
    all_goals
     go_wp2_with fail
     exact⟨⟨j+1,by rw[HJ.out],by omega,HR.out,Bp.out⟩,by simp[intOf];omega⟩
   have HR:Hid (qO s=false):=LD s j _ _ HXY.out.1 HXY.out.2 hxy
   have t1:(y1.size:Int)<=(x1.size:Int):=by omega
   go_wp2_with fail
   go_region
   all_goals
    go_wp2_with fail
    go_ret;exact⟨by rw[HR.out];rfl,Bp.out⟩
  have HR:Hid (qO s=true):=LC s (fun k x y h1 h2=>Rj.out k x y (by have:=(aJ.1 h2).1;have:=HL.out;omega) h1 h2)
  have i1:¬(j:Int)+1<(L:Int):=by omega
  go_wp2_with fail
  go_ret;exact⟨by rw[HR.out];rfl,HBQ.out⟩
theorem wP(W0:Nat)(s:jh)(v:Value)(m:ah)(w0 w:aj)(h:ru W0 w0 v s)(hb0:Below w0.heap.size w0 w)(hs:s.length<=5000):
  Calls Tryz.prog 268 #[v,.string m] w fun e w'=>∃pv,e=.returned pv/\gu W0 w0 pv (fu s m)/\Below w.heap.size w w':=by
 obtain⟨g,cap,rfl,hc,hcell⟩:=h.cell
 have HC:Hid (∀(i:Nat) y,s[i]?=some y->∃pv,w.cell? ⟨g,i*2,none⟩=some (.string y.1)/\w.cell? ⟨g,i*2+1,none⟩=some pv/\gu W0 w0 pv y.2):=fun i y hy=>by
  obtain⟨pv,q1,q2,q3⟩:=hcell i y hy;exact⟨pv,(hb0.cell (p:=⟨g,i*2,none⟩) (aC q1)).trans q1,(hb0.cell (p:=⟨g,i*2+1,none⟩) (aC q2)).trans q2,q3⟩
 have n0:(s.length:Int)<=5000:=by omega
 clear h hcell hb0;generalize hL:s.length=L at*;have HL:=aP hL;clear hL
 go_enter Tryz.func268,Tryz.ntmps268
 go_wp2_with fail
 go_loopw [9] (fun i wr=>∃j:Nat,i=.int .i64 j/\j<=L/\(∀(k:Nat) x,k<j->s[k]?=some x->x.1≠m)/\Below w.heap.size w wr) (fun i _=>L-(intOf i).toNat)
 case atStart=>exact⟨0,rfl,aN _,fun k x hk=>by omega,au _ _⟩
 case round=>
  obtain⟨j,rfl,hle,hag,hbw⟩:=hrel;have Rj:=aP hag;have lF:=aP hbw;clear hag hbw
  have j0:(0:Int)<=(j:Int):=by omega
  by_cases hlt:j<L
  ·have j1:(j:Int)<(L:Int):=by omega
   obtain⟨x,hx⟩:∃x,s[j]?=some x:=⟨s[j]'(by have:=HL.out;omega),by simp⟩;obtain⟨pv,cx,cp,ht⟩:=HC.out j x hx;have c1:wr.cell? ⟨g,j*2,none⟩=some (.string x.1):=(lF.out.cell (p:=⟨g,j*2,none⟩) (aC cx)).trans cx;have c2:wr.cell? ⟨g,j*2+1,none⟩=some pv:=(lF.out.cell (p:=⟨g,j*2+1,none⟩) (aC cp)).trans cp;have CQ:=aP ht;have HX:=aP hx
   obtain⟨ao,pn,pc,rfl⟩:∃ao n c,pv=.slice ao n c:=by obtain⟨ao,c,e,_⟩:=ht.1;exact⟨ao,_,c,e⟩
   clear cx cp ht hx;obtain⟨x1,x2⟩:=x;simp only at c1 c2 CQ
   cases hq:(x1.toList==m.toList) with
   |true=>
    have HR:Hid (fu s m=x2):=by
     have e1:=xH hq;obtain⟨hk,he⟩:=aJ.1 HX.out
     have:s.find? (fun x=>decide (x.1=m))=some (x1,x2):=List.find?_eq_some_iff_getElem.2 ⟨bN e1,j,hk,he,fun i hi=>by
      have:=Rj.out i s[i] hi (by simp)
      simpa using this⟩
     show _=_;unfold fu;rw[this];rfl
    go_wp2_with fail
    go_ret;exact⟨_,rfl,by rw[HR.out];exact CQ.out,lF.out.alloc lF.out.size _⟩
   |false=>
    have HR:Hid (∀(k:Nat) x,k<j+1->s[k]?=some x->x.1≠m):=fun k z hk hz=>by
     rcases bR k j with q|q
     ·exact Rj.out k z q hz
     obtain rfl:k=j:=by omega
     rw[HX.out] at hz;obtain rfl:=ak hz;exact Xq hq
    go_wp2_with fail
    exact⟨⟨j+1,by go_num,hlt,HR.out,lF.out.alloc lF.out.size _⟩,by simp[intOf];omega⟩
  have HR:Hid (fu s m=[]):=by
   have:s.find? (fun x=>decide (x.1=m))=none:=Dy.2 (fun z hz=>by
    obtain⟨k,hk,rfl⟩:=List.getElem_of_mem hz;have:=Rj.out k s[k] (by have:=HL.out;omega) (by simp)
    simpa using this)
   show _=_;unfold fu;rw[this];rfl
  have j1:¬(j:Int)<(L:Int):=by omega
  go_wp2_with fail
  go_ret;exact⟨_,rfl,by rw[HR.out];exact⟨⟨none,0,rfl,ai _,aG ⟨fun _=>rfl,rfl,trivial⟩⟩,fun k hk=>by cases hk⟩,lF.out⟩
end
section
open Go.RowKit Go.Maps
variable {p:PV}{a:Nat->Addr}{B rb m:Nat}{w:aj}{n:Int}{ls:List dK}{S:St}{l:List ah}
theorem ig.adk{w3:aj}{vf':Value}(h:ig p a B w rb n ls S (m+1))(hg:w.grownBy w3 p.vf.ownBlock)(hr:w3.ownsRow B 9 1 vf' (S.defs.length+l.length) (S.defs.map Value.string++l.map Value.string))(hat:∀k,vf'.ownBlock=some k->p.vf.ownBlock=some k\/w.heap.size<=k)(hl:l.length<=4000):ig {p with vf:=vf',c:=fun k=>if vf'.ownBlock=some k then 6 else p.c k} a B (w3.setCell ⟨rb,6,none⟩ vf') rb n ls {S with defs:=S.defs++l} m:=by
 have hrb:=h.qi
 have hnv:∀k,k<w.heap.size->p.c k≠6->vf'.ownBlock≠some k:=fun k hk hc e=>by
  rcases hat k e with q|q
  ·exact hc (h.c6 k q)
  omega
 have hc':∀k,k<w.heap.size->p.c k≠6->(if vf'.ownBlock=some k then 6 else p.c k)=p.c k:=fun k hk hc=>ax (hnv k hk hc)
 have TK:∀k,k<w.heap.size->p.c k≠6->w3.heap[k]?=w.heap[k]?:=fun k hk hc=>hg.block k hk (fun e=>hc (h.c6 k e.symm))
 have off:∀k,k<w.heap.size->p.c k≠6->p.c k≠1->(w3.setCell ⟨rb,6,none⟩ vf').heap[k]?=w.heap[k]?:=fun k hk hc h1=>by
  rw[iP (show k≠rb from fun e=>h1 (by rw[e];exact h.c1))];exact TK k hk hc
 have hsz:w.heap.size<=(w3.setCell ⟨rb,6,none⟩ vf').heap.size:=by simpa using hg.size
 exact {
  gl:=h.gl.keep hsz (fun k hk=>off k (ay hk h.gl.size) (by rw[h.low k (ay hk h.base)];decide) (by rw[h.low k (ay hk h.base)];decide))
  base:=h.base
  row:=by
   have h1:w3.heap[rb]?=_:=(TK rb hrb (by rw[h.c1];decide)).trans h.row;show(w3.setCell ⟨rb,6,none⟩ vf').heap[rb]?=_;rw[xY h1];rfl
  const:=h.const.step hsz (fun k hk h0=>⟨off k hk (by rw[h0];decide) (by rw[h0];decide),(hc' k hk (by rw[h0];decide)).trans h0⟩)
  top:=dU.keep h.top (off p.tb h.top.lt (by rw[h.c2];decide) (by rw[h.c2];decide))
  rules:=dU.keep h.rules (off p.rm h.rules.lt (by rw[h.c3];decide) (by rw[h.c3];decide))
  mlt:=ay h.mlt (hsz)
  made:=dU.keep h.made (off p.mm h.made.lt (by rw[h.c4];decide) (by rw[h.c4];decide))
  jN:=dL h.jN (fun k hk=>off k (bA h.jN k hk).2 (by rw[h.c5 k hk];decide) (by rw[h.c5 k hk];decide))
  defs:=by
   show World.ownsRow _ _ _ _ _ (S.defs++l).length ((S.defs++l).map Value.string);rw[aF,iC];exact dL hr (fun k hk=>iP (show k≠rb from fun e=>hnv rb hrb (by rw[h.c1];decide) (by rw[<-e];exact hk)))
  c1:=(hc' rb hrb (by rw[h.c1];decide)).trans h.c1
  c2:=(hc' p.tb h.top.lt (by rw[h.c2];decide)).trans h.c2
  c3:=(hc' p.rm h.rules.lt (by rw[h.c3];decide)).trans h.c3
  c4:=(hc' p.mm h.made.lt (by rw[h.c4];decide)).trans h.c4
  c5:=fun k hk=>(hc' k (bA h.jN k hk).2 (by rw[h.c5 k hk];decide)).trans (h.c5 k hk)
  c6:=fun k hk=>aD hk
  low:=fun k hk=>by
   show(if vf'.ownBlock=some k then 6 else p.c k)=9;rw[ax (fun e=>by have:=(bA hr k e).1;omega)];exact h.low k hk
  few:=by show p.n1+m<=5000/\p.n2+m<=5000/\p.n3+8000*m<=40000000;have:=h.few;omega
  ok:={top:=h.ok.top,Mi:=(by show S.top.length+m<=5000;have:=h.ok.Mi;omega),rules:=h.ok.rules,BX:=(by show S.rules.length+m<=5000;have:=h.ok.BX;omega),bB:=h.ok.bB,edge:=h.ok.edge,defs:=(by show(S.defs++l).length+4000*m<=_;rw[aF];have:=h.ok.defs;omega),lines:=h.ok.lines,count:=h.ok.count}}
theorem PStB.scopes(h:PStB p a B w rb n ls S m):lU w (.pointer (some ⟨p.sb,0,none⟩)) [S.top]:=⟨p.sb,p.tb,p.n1,.pointer none,rfl,aN _,h.const.now.2.1,h.top,rfl⟩
theorem PStB.afE(h:PStB p a B w rb n ls S m):∀l∈[S.top],BOk l:=fun l hl=>by
 obtain rfl:=bg.1 hl;exact h.ok.top
theorem UJ(w:aj):bG w (.slice none 0 0) []:=⟨none,0,rfl,ai _,aG ⟨fun _=>rfl,rfl,trivial⟩⟩
variable {no:Nat}
theorem GD(h:ig p a B w rb (no:Nat) ls S (m+1))(ht:t.size<=4000):
  Calls Tryz.prog 197 #[.pointer (some ⟨rb,0,none⟩),.string t] w (iL a B rb m w (oh S no t ls)):=by
 obtain⟨tj,HTJ⟩:=iT (P:=Tryz.prog) (e:=9) (n:=1) (b:=16) (z:=(.string ⟨#[]⟩)) (by kernel_rfl);have H:=aP h;have HRP:=Dn rb (no:Nat) t [S.top] (some ⟨p.sb,0,none⟩) a [] (.slice none 0 0) w h.Jg (by rw[bZ h.row];rfl) h.scopes h.gl ht h.afE (UJ w) (by decide)
 have HD:Hid (oh S no t ls=match nK (gy [S.top]) [] t with
  |.error e=>.error (e,no)
  |.ok a=>if iF a=[] then .error (.syn,no) else .ok ({S with defs:=S.defs++iF a},ls)):=by
  show oh S no t ls=_;unfold oh;rw[Gj]
  cases nK (gy [S.top]) [] t with
  |error e=>rfl
  |ok a=>simp only
 clear h
 cases hp:nK (gy [S.top]) [] t with
 |error b=>
  have HF:Hid (oh S no t ls=.error (b,no)):=by rw[HD.out,hp];rfl
  rw[hp] at HRP
  go_enter Tryz.func197,Tryz.ntmps197
  go_wp2_with fail
  refine HRP.mono ?_;rintro e w1 ⟨⟨b',rfl,s0,s1⟩,hb1⟩;exact⟨rfl,(by rw[HF.out];exact⟨⟨b',rfl,s0,s1⟩,hb1.mono H.out.bw⟩)⟩
 |ok s=>
  obtain⟨hok,hcnt,hlen⟩:=xG hp;obtain⟨x,hx0,hfs,hxm⟩:=hok.iF
  have hxl:x.2.length<=4000:=by have:=uY hxm;omega
  rw[hp] at HRP
  have HD2:Hid (oh S no t ls=if x.2=[] then .error (.syn,no) else .ok ({S with defs:=S.defs++x.2},ls)):=by rw[HD.out,hp,<-hfs];rfl
  have HX0:=aP hx0;have hs0:0<s.length:=(aJ.1 hx0).1;clear hp hok hcnt hfs hxm hx0 HD;obtain⟨x1,x2⟩:=x;simp only at hxl HD2
  go_enter Tryz.func197,Tryz.ntmps197
  go_wp2_with fail
  refine HRP.mono ?_;rintro e w1 ⟨⟨v1,rfl,aiI⟩,hb1⟩;obtain⟨g,cap,rfl,hc,hcell⟩:=aiI.cell;obtain⟨pv,_,cp,htx⟩:=hcell 0 (x1,x2) HX0.out;rw[ql,bW] at cp;obtain⟨ao,Ub,hpv,hpc,aiL⟩:=htx.1;simp only at hpv;subst hpv;have tC:=aP (H.out.below hb1);have HB1:=aP (hb1.mono H.out.bw);have c4:w1.cell? ⟨4,0,none⟩=some (.iface 472 (.pointer (some (a 4)))):=tC.out.gl.errs 4 (by decide)
  have sl:(0:Int)<(s.length:Int):=by omega
  generalize s.length=SL at*;clear aiI hcell hb1
  by_cases h0:x2=[]
  ·subst h0;have HF:=aP (HD2.out.trans (aD rfl));have uR:=pq rb (no:Nat) 472 (.pointer (some (a 4))) w1 tC.out.Jg;simp only[dR] at cp
   go_wp2_with fail
   refine uR.mono ?_;rintro e w8 ⟨⟨b',rfl,s0,s1⟩,mr⟩;exact⟨rfl,(by rw[HF.out];exact⟨⟨b',rfl,s0,s1⟩,HB1.out.trans (mr.mono tC.out.bw)⟩)⟩
  have HF:=aP (HD2.out.trans (ax h0))
  obtain⟨b,o,rfl,hbc⟩:∃b o,ao=some ⟨b,o,none⟩/\∀k s,x2[k]?=some s->w1.cell? ⟨b,o+k,none⟩=some (.string s):=by
   rcases aiL with e|e
   ·exact absurd e.2.1 h0
   exact e
  have hpos:0<x2.length:=fZ.2 h0
  have xl:(0:Int)<(x2.length:Int):=by omega
  have HBC:Hid (∀j u,(x2.map Value.string)[j]?=some u->w1.cell? ((⟨b,o,none⟩:Addr).add j)=some u):=fun j u hu=>by
   have hadd:(⟨b,o,none⟩:Addr).add j=⟨b,o+j,none⟩:=by unfold Addr.add;split<;>simp_all
   rw[dM] at hu;obtain⟨y,hy,rfl⟩:=aX.1 hu;rw[hadd];exact hbc j y hy
  have d6:w1.cell? ⟨rb,6,none⟩=some p.vf:=by rw[bZ tC.out.row];rfl
  have f6:w1.frozen? ⟨rb,6,none⟩=false:=iG tC.out.row
  have hdl:S.defs.length<=20000000:=by have:=tC.out.ok.defs;omega
  obtain⟨aof,Al,hvf,_,_⟩:=bq tC.out.defs
  have HDF:Hid (w1.ownsRow B 9 1 (.slice aof S.defs.length Al) S.defs.length (S.defs.map Value.string)):=by rw[<-hvf];exact tC.out.defs
  rw[hvf] at d6;have Yv:=aP hvf;clear hvf htx aiL hbc;generalize hDL:S.defs.length=DL at*;have Rm:=aP hDL;generalize hXL:x2.length=XL at*;have Yw:=aP hXL;clear hDL hXL
  go_wp2_with fail
  refine(gD _ _ _).mono ?_;rintro e w2 ⟨rfl,rfl⟩
  go_wp2_with (at_builtin;refine wpList_append_lies _ rfl (.tmp 21) (.tmp 22) 32 rfl B 9 tj (.string ⟨#[]⟩) 1 16 Tryz.underlying32 HTJ.out.1 HTJ.out.2.2.2 HTJ.out.2.1 HTJ.out.2.2.1 rfl (by decide) _ DL (S.defs.map Value.string) rfl HDF.out ⟨b,o,none⟩ XL Ub (x2.map Value.string) rfl (by rw[jR,Yw.out];omega) HBC.out (by intro u hu;obtain⟨y,_,rfl⟩:=fH.1 hu;rfl) hpos (by unfold maxLen;omega) (by omega) tC.out.bw _ rfl ?_;intro g7 lS w7 hv7 wT rC xg;refine dI ?_)
  have HM:Hid (ig {p with vf:=.slice (some ⟨g7,0,none⟩) (DL+XL) lS,c:=fun k=>if (Value.slice (some ⟨g7,0,none⟩) (DL+XL) lS).ownBlock=some k then 6 else p.c k} a B (w7.setCell ⟨rb,6,none⟩ (.slice (some ⟨g7,0,none⟩) (DL+XL) lS)) rb (no:Nat) ls {S with defs:=S.defs++x2} m):=by
   refine tC.out.adk (by rw[Yv.out];exact wT) (by rw[Rm.out,Yw.out];exact hv7) ?_ (by rw[Yw.out];exact hxl);intro k hk;have e:g7=k:=ak hk;subst e;rw[Yv.out]
   rcases rC with e2|e2
   ·exact aG e2
   right;rw[e2];exact ai _
  have Rx:Hid (Below B w (w7.setCell ⟨rb,6,none⟩ (.slice (some ⟨g7,0,none⟩) (DL+XL) lS))):=(HB1.out.grown wT tC.out.bw (fun k hk=>(bA HDF.out k hk).1)).setCell (p:=⟨rb,6,none⟩) H.out.vV _
  have abv:w7.heap[rb]?=w2.heap[rb]?:=wT.block rb tC.out.qi (fun e=>by
   have h1:=tC.out.c6 rb (by rw[Yv.out];exact e.symm);have h2:=tC.out.c1
   omega)
  have d7:w7.cell? ⟨rb,6,none⟩=some (.slice aof DL Al):=(aB (w:=w2) (a:=⟨rb,6,none⟩) abv).trans d6;have f7:w7.frozen? ⟨rb,6,none⟩=false:=iG (abv.trans tC.out.row);clear hv7 wT rC xg abv d6 f6 HBC HDF;unfold Hid
  go_wp2_with fail
  go_end0
  rw[HF.out];exact⟨rfl,⟨_,_,HM.out⟩,Rx.out⟩
theorem Cb(x v:ah):∀l:iB,(oH l x v).length<=l.length+1
 |[]=>ai _
 |y::l=>by
  rw[oH]
  split
  ·exact fB _
  have:=Cb x v l;show(oH l x v).length+1<=l.length+1+1;omega
variable {x:ah}
theorem Yc{l:iB}{v:ah}(h:BOk l)(hv:v.size<=10000)(hx:0<x.size):BOk (oH l x v):=by
 induction l with
 |nil=>
  intro y hy;obtain rfl:=bg.1 hy;exact⟨hv,hx⟩
 |cons z l ih=>
  intro y hy;rw[oH] at hy
  split at hy
  ·rcases aV.1 hy with rfl|hy
   ·exact⟨hv,hx⟩
   exact h y (aU _ hy)
  rcases aV.1 hy with rfl|hy
  ·exact h y aM
  exact ih (fun z hz=>h z (aU _ hz)) y hy
theorem wJ(E:ah->ah)(t:ah):∀(g i:Nat) (out y:ah),gZ E t g i out=some y->i<=t.size->out.size<=4000+i->y.size<=4000+t.size
 |0,i,out,y,h,hi,ho=>by
  rw[gZ] at h
  split at h
  ·obtain rfl:=ak h;omega
  cases h
 |g+1,i,out,y,h,hi,ho=>by
  rw[gZ] at h
  split at h
  ·obtain rfl:=ak h;omega
  rename_i h0
  split at h
  ·refine wJ E t g (i+1) _ y h (by omega) ?_;rw[aH,aI];omega
  cases hf:uq t i with
  |none=>rw[hf] at h;cases h
  |some fk=>
   obtain⟨f,k⟩:=fk;have hk:=zM hf;rw[hf] at h;simp only at h
   split at h
   ·cases h
   exact wJ E t g k _ y h (by omega) (by omega)
theorem EN{y:ah}(h:iy E t=some y):y.size<=4000+t.size:=wJ E t _ 0 _ y h (aN _) (aN _)
variable {w':aj}
theorem ig.addTop{v:ah}(h:ig p a B w rb n ls S (m+1))(hg:w.grownBy w' (some p.tb))(hm:wD w' p.tb (p.n1+1) (oH S.top x v))(hv:v.size<=10000)(hx:0<x.size):ig {p with n1:=p.n1+1} a B w' rb n ls {S with top:=oH S.top x v} m:=by
 have off:=fun {k:Nat} (hk:k<w.heap.size) (hc:p.c k≠2)=>h.off hg h.c2 hk hc
 exact {
  gl:=h.gl.keep hg.size (fun k hk=>off (ay hk h.gl.size) (by rw[h.low k (ay hk h.base)];decide))
  base:=h.base
  row:=(off h.qi (by rw[h.c1];decide)).trans h.row
  const:=h.const.step hg.size (fun k hk h0=>⟨off hk (by rw[h0];decide),h0⟩)
  top:=hm
  rules:=dU.keep h.rules (off h.rules.lt (by rw[h.c3];decide))
  mlt:=ay h.mlt (hg.size)
  made:=dU.keep h.made (off h.made.lt (by rw[h.c4];decide))
  jN:=dL h.jN (fun k hk=>off (bA h.jN k hk).2 (by rw[h.c5 k hk];decide))
  defs:=dL h.defs (fun k hk=>off (bA h.defs k hk).2 (by rw[h.c6 k hk];decide))
  c1:=h.c1,c2:=h.c2,c3:=h.c3,c4:=h.c4,c5:=h.c5,c6:=h.c6,low:=h.low
  few:=by show p.n1+1+m<=5000/\p.n2+m<=5000/\p.n3+8000*m<=40000000;have:=h.few;omega
  ok:={top:=Yc h.ok.top hv hx,Mi:=(by show(oH S.top x v).length+m<=5000;have:=h.ok.Mi;have:=Cb x v S.top;omega),rules:=h.ok.rules,BX:=(by show S.rules.length+m<=5000;have:=h.ok.BX;omega),bB:=h.ok.bB,edge:=h.ok.edge,defs:=(by show S.defs.length+4000*m<=_;have:=h.ok.defs;omega),lines:=h.ok.lines,count:=h.ok.count}}
theorem aak(S:St)(no:Nat)(t:ah)(rest:List dK):Nu S no t rest=match GQ (gy [S.top]) t with
  |none=>.error (.syn,no)
  |some xy=>.ok ({S with top:=oH S.top xy.1 xy.2},rest):=by
 unfold Nu GQ;rw[Gj]
 cases pK t with
 |none=>rfl
 |some nv=>
  simp only
  cases iy (gy [S.top]) nv.2 with
  |none=>rfl
  |some y=>rfl
theorem Pb{xy:ah×ah}(h:GQ E t=some xy):xy.2.size<=4000+t.size/\0<xy.1.size:=by
 unfold GQ at h
 cases hb:pK t with
 |none=>rw[hb] at h;cases h
 |some nv=>
  rw[hb] at h;obtain⟨y,hy,rfl⟩:=aX.1 h;have h1:=xP hb;have h2:=EN hy;exact⟨by show y.size<=_;omega,h1.2.2⟩
theorem Mh(h:ig p a B w rb (no:Nat) ls S (m+1))(ht:t.size<=4000):
  Calls Tryz.prog 198 #[.pointer (some ⟨rb,0,none⟩),.string t,.pointer (some ⟨p.sb,0,none⟩)] w (iL a B rb m w (Nu S no t ls)):=by
 have hc:=zQ h.Jg h.gl ht h.const.now.2.1 h.top (by have:=h.few;omega) h.scopes h.afE;refine hc.mono ?_;intro e w' hx;rw[aak]
 cases hv:GQ (gy [S.top]) t with
 |none=>
  rw[hv] at hx;exact⟨hx.1,hx.2.mono h.bw⟩
 |some xy=>
  rw[hv] at hx;have hs:=Pb hv;refine⟨hx.1,⟨_,_,h.addTop hx.2.2 hx.2.1 (by omega) hs.2⟩,jL hx.2.2 ?_ h.bw⟩
  rcases bR p.tb B with q|q
  ·have h1:=h.low p.tb q;have h2:=h.c2;omega
  exact q
theorem Ay(q:Value)(hq:∃ao,q=.pointer ao)(w:aj):
  Calls Tryz.prog 111 #[q] w fun e w'=>∃sb tb,e=.returned (.pointer (some ⟨sb,0,none⟩))/\w'.heap[sb]?=some (.cells #[.map (some tb),q] 302 (0,0))/\wD w' tb 0 []/\w.heap.size<=tb/\tb<sb/\Below w.heap.size w w':=by
 obtain⟨ao,rfl⟩:=hq;have aeP:wD (w.alloc (.map #[] 0)) w.heap.size 0 []:=dU.made UG yL ⟨_,_,rfl⟩ w;have HM:=aP aeP;clear aeP;have hmm:= @run_makeMap Tryz.prog
 go_enter Tryz.func111,Tryz.ntmps111
 go_wp2_with fail
 go_ret;refine⟨w.heap.size+1,w.heap.size,by simp,?_,?_,ai _,iX _,?_⟩
 ·exact aW (w.alloc (.map #[] 0)) _ _ (by simp)
 ·exact dU.keep HM.out (aZ (w.alloc (.map #[] 0)) _ _ (by simp))
 exact((au _ _).alloc (ai _) _).alloc (by simp) _
end
theorem YZ(e:dm)(top:iB):Di (QI e) top=gy [oH (oH [] tIn (rM e.ins)) Md (rM e.outs),e.own,top]:=by
 rw[Oa]
 funext x
 show(eB (QI e) x).getD (gy [top] x)=(eB (oH (oH [] tIn (rM e.ins)) Md (rM e.outs)) x).getD ((eB e.own x).getD (gy [top] x));unfold QI;rw[uU,uU,uU,uU]
 by_cases h1:x=Md
 ·rw[aD h1,aD h1];rfl
 rw[ax h1,ax h1]
 by_cases h2:x=tIn
 ·rw[aD h2,aD h2];rfl
 rw[ax h2,ax h2];rfl
def Rw:Prop:=∀(p:PV) (a:Nat->Addr) (B:Nat) (w:aj) (rb no:Nat) (ls:List dK) (S:St) (m:Nat) (t:ah),ig p a B w rb (no:Nat) ls S (m+1)->t.size<=4000->Calls Tryz.prog 196 #[.pointer (some ⟨rb,0,none⟩),.string t] w (iL a B rb m w (kV S no t ls))
section
open Go.RowKit Go.Maps
theorem ZB(x y:ah)(l:List ah):eT x (y::l)=(decide (y=x)||eT x l):=rfl
variable {w':aj}{b:Nat}{l:List ah}{x:ah}
theorem ny.add{n:Nat}(h:dU Mj (.agg #[]) w' b n (fun y=>if y=x then some (.agg #[]) else if eT y l=true then some (.agg #[]) else none)):ny w' b n (x::l):=by
 have e:(fun y=>if y=x then some (Value.agg #[]) else if eT y l=true then some (.agg #[]) else none)=fun y=>if eT y (x::l)=true then some (.agg #[]) else none:=by
  funext y
  rw[ZB]
  by_cases h:y=x
  ·rw[aD h,bN h.symm];rfl
  rw[ax h,bH (fun e=>h e.symm)];rfl
 unfold ny;rw[<-e];exact h
variable {w:aj}
theorem ny.same{n:Nat}{l':List ah}(h:ny w b n l)(e:∀x,eT x l'=eT x l):ny w b n l':=by
 have:(fun x=>if eT x l'=true then some (Value.agg #[]) else none)=fun x=>if eT x l=true then some (.agg #[]) else none:=by
  funext x;rw[e x]
 unfold ny;rw[this];exact h
theorem Ie(x:ah)(l r:List ah):eT x (l++r)=(eT x l||eT x r):=by unfold eT;rw[List.any_append]
theorem Qy(x:ah)(l:List ah):eT x l.reverse=eT x l:=by unfold eT;rw[List.any_reverse]
def EF(a:Nat->Addr)(B:Nat)(n:Int)(mm n3:Nat)(made outs:List ah)(w:aj)(e:Ending)(w':aj):Prop:=
 if sK made outs=true then jB n (iW a 6) e w'/\Below B w w'
 else e=.returned (.tuple #[])/\ny w' mm (n3+outs.length) (outs.reverse++made)/\w.grownBy w' (some mm)
variable {p:PV}{a:Nat->Addr}{B rb m:Nat}{n:Int}{ls:List dK}{S:St}{v:Value}
theorem YO{outs:List ah}(h:ig p a B w rb n ls S m)(hv:bG w v outs)(hne:v.ownBlock≠some p.mm)(ho:outs.length<=10000)(hos:∀x∈outs,x.size<=10000):
  Calls Tryz.prog 269 #[.pointer (some ⟨rb,0,none⟩),v] w (EF a B n p.mm p.n3 (qg S) outs w):=by
 have H:=aP h
 have HZ:Hid (∀w,(zeroValue 86).run Tryz.prog w=.ok (.agg #[]) w):=fun w=>by kernel_rfl
 have HOS:=aP hos
 have hn3:p.n3<=40000000:=by have:=h.few;omega
 have hmb:B<=p.mm:=by
  rcases bR p.mm B with q|q
  ·have h1:=h.low p.mm q;have h2:=h.c4;omega
  exact q
 have hrm:rb≠p.mm:=fun e=>by have h1:=h.c1;have h2:=h.c4;rw[e] at h1;omega
 obtain⟨ao,cap,rfl,hc,hv⟩:=hv;have HV:=aP hv
 have n0:(outs.length:Int)<=10000:=by omega
 clear h hv hos;generalize hL:outs.length=L at*;have HL:=aP hL;clear hL
 go_enter Tryz.func269,Tryz.ntmps269
 go_wp2_with fail
 go_loopw [10] (fun i wr=>∃j:Nat,i=.int .i64 j/\j<=L/\ny wr p.mm (p.n3+j) ((outs.take j).reverse++qg S)/\sK ((outs.take j).reverse++qg S) (outs.drop j)=sK (qg S) outs/\w.grownBy wr (some p.mm)) (fun i _=>L-(intOf i).toNat)
 case atStart=>exact⟨0,rfl,aN _,H.out.made,rfl,⟨rfl,rfl,rfl,ai _,fun _ _ _=>rfl⟩⟩
 case round=>
  obtain⟨j,rfl,hle,hu,SQ,hgr⟩:=hrel;have HU:=aP hu;have HTW:=aP SQ;have Rp:=aP hgr;clear hu SQ hgr
  have j0:(0:Int)<=(j:Int):=by omega
  by_cases hlt:j<L
  ·have j1:(j:Int)<(L:Int):=by omega
   obtain⟨y,hy⟩:∃y,outs[j]?=some y:=⟨outs[j]'(by have:=HL.out;omega),by simp⟩
   obtain⟨b,o,rfl,q⟩:∃b o,ao=some ⟨b,o,none⟩/\∀k s,outs[k]?=some s->w.cell? ⟨b,o+k,none⟩=some (.string s):=by
    rcases HV.out with e|e
    ·rw[e.2.1] at hy;simp at hy
    exact e
   have cy:=q j y hy;have r1:wr.cell? ⟨b,o+j,none⟩=some (.string y):=(aB (w:=w) (a:=⟨b,o+j,none⟩) (Rp.out.block b (aC cy) (fun e=>hne (by rw[<-e];rfl)))).trans cy;have hys:=HOS.out y (aO hy)
   have HDR:Hid (outs.drop j=y::outs.drop (j+1)/\outs.take (j+1)=outs.take j++[y]):=by
    obtain⟨h1,h2⟩:=aJ.1 hy;exact⟨by rw[fA h1,h2],by rw[jf h1,h2]⟩
   have hrow:wr.heap[rb]?=w.heap[rb]?:=Rp.out.block rb H.out.qi (fun e=>hrm (ak e))
   have d4:wr.cell? ⟨rb,4,none⟩=some (.map (some p.mm)):=by rw[bZ (hrow.trans H.out.row)];rfl
   have d0:wr.cell? ⟨rb,0,none⟩=some (.int .i64 n):=by rw[bZ (hrow.trans H.out.row)];rfl
   have hrb:rb<wr.heap.size:=ay H.out.qi Rp.out.size;have g6:wr.cell? ⟨6,0,none⟩=some (.iface 472 (.pointer (some (a 6)))):=(aB (w:=w) (a:=⟨6,0,none⟩) (Rp.out.block 6 (by have:=H.out.gl.size;omega) (fun e=>by have h1:6=p.mm:=ak e;have:=H.out.base;omega))).trans (H.out.gl.errs 6 (by decide))
   have l6:6<wr.heap.size:=by have:=H.out.gl.size;have:=Rp.out.size;omega
   have Vn:Hid ((Instr.lookup 122 (.map (some p.mm)) (.string y) true).run Tryz.prog wr=.ok (.tuple #[(if eT y ((outs.take j).reverse++qg S)=true then some (Value.agg #[]) else none).getD (.agg #[]),.bool (if eT y ((outs.take j).reverse++qg S)=true then some (Value.agg #[]) else none).isSome]) wr):=dU.look_ok HU.out (t:=122) Tryz.underlying122 HZ.out y (by unfold maxLen;omega);clear q cy hy hrow
   cases hmem:eT y ((outs.take j).reverse++qg S) with
   |true=>
    have HF:Hid (sK (qg S) outs=true):=by rw[<-HTW.out,HDR.out.1,sK,hmem];rfl
    rw[hmem] at Vn;have hlk:(Instr.lookup 122 (.map (some p.mm)) (.string y) true).run Tryz.prog wr=.ok (.tuple #[.agg #[],.bool true]) wr:=Vn.out;clear Vn hmem;have uR:=pq rb n 472 (.pointer (some (a 6))) (wr.alloc (.cells #[] 86)) (by rw[aB (w:=wr) (a:=⟨rb,0,none⟩) (aZ wr _ rb hrb)];exact d0)
    go_wp2_with fail
    refine uR.mono ?_;rintro e w8 ⟨⟨b',rfl,s0,s1⟩,mr⟩;refine⟨rfl,?_⟩;unfold EF;rw[aD HF.out];exact⟨⟨b',rfl,s0,s1⟩,((jL Rp.out hmb H.out.bw).alloc (aA H.out.bw Rp.out.size) _).trans (mr.mono (by have:=Rp.out.size;have:=H.out.bw;simp;omega))⟩
   |false=>
    rw[hmem] at Vn;have hlk:(Instr.lookup 122 (.map (some p.mm)) (.string y) true).run Tryz.prog wr=.ok (.tuple #[.agg #[],.bool false]) wr:=Vn.out
    have HTN:Hid (sK ((outs.take (j+1)).reverse++qg S) (outs.drop (j+1))=sK (qg S) outs):=by
     show _=_;rw[<-HTW.out,HDR.out.1,sK,hmem,HDR.out.2,List.reverse_append];rfl
    clear Vn hmem;have HUA:ny (wr.alloc (.cells #[] 86)) p.mm (p.n3+j) ((outs.take j).reverse++qg S):=dU.keep HU.out (aZ wr _ p.mm HU.out.lt);obtain⟨w9,Oh,ET,Cr⟩:=dU.store HUA (t:=122) Tryz.underlying122 (by unfold maxLen;omega) y (by unfold maxLen;omega) (.agg #[]) ⟨_,_,rfl⟩
    have HU9:Hid (ny w9 p.mm (p.n3+(j+1)) ((outs.take (j+1)).reverse++qg S)):=by
     show ny _ _ _ _;rw[HDR.out.2,List.reverse_append];exact ny.add ET
    have HG9:Hid (w.grownBy w9 (some p.mm)):=⟨Cr.os.trans Rp.out.os,Cr.tape.trans Rp.out.tape,Cr.output.trans Rp.out.output,by have:=Cr.size;have:=Rp.out.size;simp at this⊢;simp at*;omega,fun k hk hn=>(Cr.block k (by have:=Rp.out.size;simp;omega) hn).trans ((aZ wr _ k (by have:=Rp.out.size;omega)).trans (Rp.out.block k hk hn))⟩;clear ET Cr HUA
    go_wp2_with fail
    refine(gD _ _ _).mono ?_;rintro e w8 ⟨rfl,rfl⟩
    go_wp2_with fail
    exact⟨⟨j+1,by go_num,hlt,HU9.out,HTN.out,HG9.out⟩,by simp[intOf];omega⟩
  obtain rfl:j=L:=by omega
  have HF:Hid (sK (qg S) outs=false):=by
   rw[<-HTW.out,<-HL.out,List.drop_length];rfl
  have HUF:Hid (ny wr p.mm (p.n3+outs.length) (outs.reverse++qg S)):=by
   have h:=HU.out;rw[<-HL.out,rf] at h;exact h
  have j1:¬(j:Int)<(j:Int):=by omega
  go_wp2_with fail
  go_end0
  unfold EF;rw[ax (by rw[HF.out];decide)];exact⟨rfl,HUF.out,Rp.out⟩
end
section
open Go.RowKit
theorem abB(u:ah)(n:Nat)(hn:n<u.size)(h:byteOf u n=10)(hb:∀k,k<n->byteOf u k≠10):Lib.indexB u nl=n:=by
 have h1:Lib.indexB u nl=Lib.indexByte u.data.toList 10:=Lib.one u nl rfl
 have hbb:∀k,k<u.size->u.data.toList[k]?=some 10->byteOf u k=10:=fun k _ e=>by rw[uX e];rfl
 have hn2:u.data.toList[n]?=some 10:=by rw[bV,NN u n hn,h];rfl
 rcases Lib.indexB_cases u nl with e|⟨i,e,hi⟩
 ·rw[h1] at e;exact absurd hn2 (Lib.indexByte_none e n)
 rw[h1] at e⊢;have:=Lib.indexByte_some e;have hs:nl.size=1:=rfl
 rcases Nat.lt_trichotomy i n with c|c|c
 ·exact absurd (hbb i (by omega) this.1) (hb i c)
 ·rw[e,c]
 exact absurd hn2 (this.2 n c)
theorem ad4(t:ah)(f i:Nat)(hf:f<=i)(hi:i<t.size)(h:byteOf t i=10)(hb:∀k,f<=k->k<i->byteOf t k≠10):zP (t.extract f t.size)=t.extract f i::zP (t.extract (i+1) t.size):=by
 have hsz:(t.extract f t.size).size=t.size-f:=by rw[aI];omega
 have hx:=abB (t.extract f t.size) (i-f) (by omega) (by rw[kC _ _ _ _ (by omega) (ai _),show f+(i-f)=i by omega];exact h) (fun k hk=>by rw[kC _ _ _ _ (by omega) (ai _)];exact hb (f+k) (by omega) (by omega));have hc:=Lib.countB_hit (t.extract f t.size) nl (i-f) (by decide) hx;unfold zP
 have e1:(t.extract f t.size).extract (i-f+nl.size) (t.extract f t.size).size=t.extract (i+1) t.size:=by
  have hs:nl.size=1:=rfl;rw[hs,hsz,nH _ _ _ _ _ (by omega),show f+(i-f+1)=i+1 by omega,show f+(t.size-f)=t.size by omega]
 rw[e1] at hc;rw[hc,Yy,Lib.splitB_hit _ _ _ _ _ hx,e1,kT,nH _ _ _ _ _ (by omega),show f+(i-f)=i by omega,kT]
theorem abZ(t:ah)(f:Nat)(hb:∀k,f<=k->k<t.size->byteOf t k≠10):zP (t.extract f t.size)=[t.extract f t.size]:=by
 unfold zP;refine Lib.splitB_miss _ _ _ _ ?_
 rcases Lib.indexB_cases (t.extract f t.size) nl with e|⟨i,e,hi⟩
 ·exact e
 exfalso;have h1:Lib.indexB (t.extract f t.size) nl=Lib.indexByte (t.extract f t.size).data.toList 10:=Lib.one _ nl rfl;rw[h1] at e;have:=uX (Lib.indexByte_some e).1;have hs:nl.size=1:=rfl;rw[aI] at hi;rw[kC _ _ _ _ (by omega) (ai _)] at this;exact hb (f+i) (by omega) (by omega) this
end
def aek(l:List ah):Nat:=(l.map fun x=>x.size+1).sum
def zV(l:List dK):Nat:=(l.map fun x=>x.2.size+1).sum
theorem Cf(l r:List dK):zV (l++r)=zV l+zV r:=by unfold zV;rw[iC,adg]
theorem acf{l:List dK}{x:dK}(h:x∈l):x.2.size+1<=zV l:=by
 induction l with
 |nil=>cases h
 |cons y l ih=>
  show _<=y.2.size+1+zV l
  rcases aV.1 h with rfl|h
  ·omega
  have:=ih h;omega
theorem UM(l:List dK):l.length<=zV l:=by
 induction l with
 |nil=>exact ai _
 |cons y l ih=>
  show l.length+1<=y.2.size+1+zV l;omega
theorem ad5(t:ah):∀(d f:Nat),t.size-f=d->f<=t.size->aek (zP (t.extract f t.size))<=t.size-f+1:=by
 intro d
 induction d using Nat.strongRecOn with
 |_ d ih=>
  intro f hd hf
  by_cases hx:∃i,f<=i/\i<t.size/\byteOf t i=10
  ·have hmin:∃i,(f<=i/\i<t.size/\byteOf t i=10)/\∀k,f<=k->k<i->byteOf t k≠10:=by
    obtain⟨i,hi⟩:=hx
    induction i using Nat.strongRecOn with
    |_ i ih2=>
     by_cases hk:∃k,f<=k/\k<i/\byteOf t k=10
     ·obtain⟨k,h1,h2,h3⟩:=hk;exact ih2 k h2 ⟨h1,by omega,h3⟩
     exact⟨i,hi,fun k h1 h2 h3=>hk ⟨k,h1,h2,h3⟩⟩
   obtain⟨i,⟨h1,h2,h3⟩,h4⟩:=hmin;rw[ad4 t f i h1 h2 h3 h4];have h5:=ih (t.size-(i+1)) (by omega) (i+1) rfl (by omega);show(t.extract f i).size+1+aek _<=_;rw[aI];omega
  rw[abZ t f (fun k h1 h2 h3=>hx ⟨k,h1,h2,h3⟩)];show(t.extract f t.size).size+1+0<=_;rw[aI];omega
theorem RI(a:List dK)(s:ah):zV (Ez a s)<=zV a+s.size:=by
 unfold Ez
 cases h:a.getLast? with
 |none=>exact Af _ _
 |some x=>
  have hne:a≠[]:=fun e=>by rw[e] at h;cases h
  have hx:a.getLast hne=x:=by rw[List.getLast?_eq_some_getLast hne] at h;exact ak h
  have ha:a=a.dropLast++[x]:=by rw[<-hx];exact(Bv hne).symm
  show zV (a.dropLast++[(x.1,x.2++s)])<=_
  have e:zV a=zV (a.dropLast++[x]):=by rw[<-ha]
  rw[e,Cf,Cf];show _+((x.2++s).size+1+0)<=_+(x.2.size+1+0)+_;rw[aH];omega
theorem Ti:∀(rs:List ah) (no:Nat) (a:List dK) (on:Bool),zV (mP no rs a on)<=zV a+aek rs
 |[],no,a,on=>by rw[mP];exact Af _ _
 |r::rs,no,a,on=>by
  rw[mP];have h1:=Ti rs (no+1) (lD a on no r) (Eb r)
  have h2:zV (lD a on no r)<=zV a+(r.size+1):=by
   unfold lD;have hp:=Le r
   split
   ·have h3:=RI a (bD (qB r));have h4:=kD (qB r);omega
   rw[Cf];show _+((qB r).size+1+0)<=_;omega
  show _<=zV a+(r.size+1+aek rs);omega
theorem Zw(t:ah):zV (uy t)<=t.size+1:=by
 unfold uy;have h1:=Ti (zP t) 1 [] false;have h2:=ad5 t (t.size-0) 0 rfl (aN _);rw[kr] at h2;have h3:zV []=0:=rfl;omega
theorem abP(t:ah):(uy t).length<=t.size+1/\∀x∈uy t,x.2.size<=t.size:=by
 have h:=Zw t;refine⟨aA (UM _) h,fun x hx=>?_⟩;have:=acf hx;omega
theorem aeb(t:ah):(BZ t).length<=t.size+1/\∀x∈BZ t,x.2.size<=t.size:=by
 have h:=abP t;exact⟨aA (pG _ _) h.1,fun x hx=>h.2 x (Mx.1 hx).1⟩
section
open Go.RowKit
theorem KE(M:Nat):∀(l:List ah) (a:ah),(∀y∈l,y.size<=M)->(l.foldl (fun a y=>a++⟨#[32]⟩++y) a).size<=a.size+l.length*(M+1)
 |[],a,_=>Af _ _
 |y::l,a,h=>by
  have h1:=KE M l (a++⟨#[32]⟩++y) (fun z hz=>h z (aU _ hz));have h2:=h y aM;rw[aH,aH] at h1;have:(⟨#[32]⟩:ah).size=1:=rfl;rw[jr,aS,acE];omega
theorem Wn(M:Nat)(l:List ah)(h:∀y∈l,y.size<=M):(rM l).size<=l.length*(M+1):=by
 cases l with
 |nil=>exact aN _
 |cons x l=>
  have h1:=KE M l x (fun z hz=>h z (aU _ hz));have h2:=h x aM;show(l.foldl _ x).size<=_;rw[aS,acE];omega
end
section
open Go.RowKit Go.Shelf
theorem KG:∀(q:List ah) (x:ah),(q.foldl (fun a y=>a++⟨#[32]⟩++y) x).data.toList=x.data.toList++Lib.joinTail [32] (q.map (·.data.toList))
 |[],x=>by simp[Lib.joinTail]
 |y::r,x=>by
  rw[jr,KG r]
  simp[Lib.joinTail,zZ]
theorem OO(l:List ah)(v:Value)(w:aj)(h:bG w v l)(hl:l.length<=10000)(hs:∀y∈l,y.size<=10000):
  Calls Tryz.prog 200 #[v,.string ⟨#[32]⟩] w fun e w'=>e=.returned (.string (rM l))/\Below w.heap.size w w':=by
 obtain⟨ao,cap,rfl,hcap,h⟩:=h
 cases l with
 |nil=>
  refine(Any.strings_Join_none Tryz.lays156 Tryz.Builder_Extra_156 ao cap ⟨#[32]⟩ w).mono ?_;rintro e w' ⟨he,hw⟩;exact⟨he,by rw[hw];exact au _ _⟩
 |cons x q=>
  obtain⟨b,o,rfl,hc⟩:∃b o,ao=some ⟨b,o,none⟩/\∀k s,(x::q)[k]?=some s->w.cell? ⟨b,o+k,none⟩=some (.string s):=by
   rcases h with e|e
   ·cases e.2.1
   exact e
  have hj:Lib.join ((x::q).map (·.data.toList)) (ByteArray.mk #[32]).data.toList=(rM (x::q)).data.toList:=by
   rw[mD,Lib.join_cons];exact(KG q x).symm
  have hz:=Wn 10000 (x::q) hs;have hz2:(rM (x::q)).size<=10000*10001:=aA hz (Nat.mul_le_mul_right _ hl);refine(Any.strings_Join Tryz.lays156 Tryz.Builder_Extra_156 b o cap (x::q) ⟨#[32]⟩ w hc (aC (hc 0 x rfl)) (by omega) hcap ?_).mono ?_
  ·rw[hj];show(rM (x::q)).size<=_;omega
  rintro e w' ⟨he,hw⟩;refine⟨?_,hw⟩;rw[he,hj]
end
section
open Go.RowKit Go.Maps
def yD(d:jM)(c:ah):List Value:=[d.vo,d.vi,d.vm,d.vr,.string d.rule,.string c]
def nG:List jM->List ah->List Value
 |d::ds,c::cs=>yD d c++nG ds cs
 |_,_=>[]
theorem BN:∀(ds:List jM) (cs:List ah) (d:jM) (c:ah),ds.length=cs.length->nG (ds++[d]) (cs++[c])=nG ds cs++yD d c
 |[],[],d,c,_=>by simp[nG]
 |x::ds,y::cs,d,c,h=>by
  show yD x y++nG (ds++[d]) (cs++[c])=(yD x y++nG ds cs)++_;rw[BN ds cs d c (by simpa using h),eH]
 |[],_::_,_,_,h=>by cases h
 |_::_,[],_,_,h=>by cases h
theorem Df(S:St):∀(es:List dm) (cs:List ah),cs.length=es.length->(∀(k:Nat) e c,es[k]?=some e->cs[k]?=some c->qw S e=some c)->jg S es=some cs
 |[],[],_,_=>rfl
 |e::es,c::cs,h,hk=>by
  have h0:=hk 0 e c rfl rfl;have h1:=Df S es cs (by simpa using h) (fun k e c h1 h2=>hk (k+1) e c (by simpa using h1) (by simpa using h2));rw[jg,h0,h1];rfl
 |[],_::_,h,_=>by cases h
 |_::_,[],h,_=>by cases h
theorem Dc(S:St):∀(es:List dm) (k:Nat) (e:dm),es[k]?=some e->qw S e=none->jg S es=none
 |[],k,e,h,_=>by simp at h
 |x::es,0,e,h,hn=>by
  simp only[jk,Option.some.injEq] at h;subst h;rw[jg,hn]
 |x::es,k+1,e,h,hn=>by
  have h1:=Dc S es k e (by simpa using h) hn;rw[jg,h1]
  cases qw S x<;>rfl
theorem sO:∀(ds:List jM) (j:Nat) (d:jM) (i:Nat),ds[j]?=some d->i<7->(sF ds)[j*7+i]?=d.cells[i]?
 |[],j,d,i,h,_=>by simp at h
 |x::ds,0,d,i,h,hi=>by
  simp only[jk,Option.some.injEq] at h;subst h;show(x.cells++sF ds)[0*7+i]?=_;rw[ql,bW,bQ (by show i<7;exact hi)]
 |x::ds,j+1,d,i,h,hi=>by
  show(x.cells++sF ds)[(j+1)*7+i]?=_;rw[dh (by show 7<=_;omega),show(j+1)*7+i-x.cells.length=j*7+i by show(j+1)*7+i-7=_;omega];exact sO ds j d i (by simpa using h) hi
variable {l:List ah}
theorem XV(h:∀x∈l,x.size<=32):(rM l).size<=33*l.length:=by
 have hf:∀(l:List ah) (a:ah),(∀x∈l,x.size<=32)->(l.foldl (fun a y=>a++⟨#[32]⟩++y) a).size<=a.size+33*l.length:=by
  intro l
  induction l with
  |nil=>intro a _;exact ai _
  |cons y l ih=>
   intro a hl;have h1:=ih (a++⟨#[32]⟩++y) (fun x hx=>hl x (aU _ hx));have h2:=hl y aM;rw[aH,aH] at h1;have h3:(⟨#[32]⟩:ah).size=1:=rfl;rw[jr,aS];omega
 cases l with
 |nil=>exact aN _
 |cons x l=>
  have h1:=hf l x (fun y hy=>h y (aU _ hy));have h2:=h x aM;rw[aS];show(l.foldl _ x).size<=_;omega
theorem adw{N:Nat}{ls:List iB}(h:∀l∈ls,∀x∈l,x.2.size<=N)(x:ah):(gy ls x).size<=N:=by
 induction ls with
 |nil=>exact aN _
 |cons l ls ih=>
  rw[gy]
  cases hb:eB l x with
  |none=>exact ih (fun l hl=>h l (aU _ hl))
  |some y=>
   obtain⟨z,hz,_,rfl⟩:=uT hb;exact h l aM z hz
theorem YX{ls:List iB}(h:∀l∈ls,∀x∈l,0<x.1.size):gy ls ⟨#[]⟩=⟨#[]⟩:=by
 induction ls with
 |nil=>rfl
 |cons l ls ih=>
  rw[gy]
  cases hb:eB l ⟨#[]⟩ with
  |none=>exact ih (fun l hl=>h l (aU _ hl))
  |some y=>
   obtain⟨z,hz,e,_⟩:=uT hb;have:=h l aM z hz;rw[e] at this;exact absurd this (by decide)
def EU(e:dm):iB:=oH (oH [] tIn (rM e.ins)) Md (rM e.outs)
theorem abA(e:dm):EU e=[(tIn,rM e.ins),(Md,rM e.outs)]:=by
 unfold EU;show oH [(tIn,rM e.ins)] Md _=_;rw[oH,ax (show¬tIn=Md by decide),oH]
theorem RV(S:St)(e:dm):qw S e=iy (gy [EU e,e.own,S.top]) ((eB S.rules e.rule).getD ⟨#[]⟩):=by
 unfold qw;rw[YZ];rfl
def afH(a:Nat->Addr)(n:Int)(W0:Nat)(ds:List jM)(L:Nat)(r:Option (List ah))(e:Ending)(w':aj):Prop:=match r with
 |none=>jB n (iW a 4) e w'
 |some cs=>∃v,e=.returned v/\w'.ownsRow W0 63 6 v L (nG ds cs)
variable {S:St}{m:Nat}{ls:List dK}
theorem ab5(h:SOk S m ls)(x:ah):((eB S.rules x).getD ⟨#[]⟩).size<=4000:=by
 cases hb:eB S.rules x with
 |none=>exact aN _
 |some y=>
  obtain⟨z,hz,_,rfl⟩:=uT hb;exact h.rules z hz
theorem SX{e:dm}(h1:e.ins.length<=4000)(h2:e.outs.length<=8000)(h3:∀x∈e.outs,x.size<=32)(h4:∀x∈e.ins,x.size<=32):∀x∈EU e,x.2.size<=1000000/\0<x.1.size:=by
 intro x hx;rw[abA] at hx
 rcases aV.1 hx with rfl|hx
 ·have:=XV h4;exact⟨by show(rM e.ins).size<=_;omega,by show 0<tIn.size;decide⟩
 obtain rfl:=bg.1 hx;have:=XV h3;exact⟨by show(rM e.outs).size<=_;omega,by show 0<Md.size;decide⟩
variable {p:PV}{a:Nat->Addr}{B rb:Nat}{w:aj}{n:Int}
theorem Ql(h:PStB p a B w rb n ls S m)(hru:∀e∈S.bB,e.rule.size<=4000):
  Calls Tryz.prog 115 #[.pointer (some ⟨rb,0,none⟩)] w fun e w'=>afH a n w.heap.size p.ds S.bB.length (jg S S.bB) e w'/\Below w.heap.size w w':=by
 obtain⟨ti,HTI⟩:=iT (P:=Tryz.prog) (e:=63) (n:=6) (b:=128) (z:=(.agg #[.slice none 0 0,.slice none 0 0,.slice none 0 0,.slice none 0 0,.string ⟨#[]⟩,.string ⟨#[]⟩])) (by kernel_rfl);have H:=aP h;have HRU:=aP hru
 have HZ:Hid (∀w,(zeroValue 316).run Tryz.prog w=.ok yL w):=fun w=>by kernel_rfl
 clear hru;have hL:=h.ok.bB;have hdl:=h.const.now.2.2.1;obtain⟨YD,ED,hvd,hcd,hgd⟩:=bq h.jN
 have c5:w.cell? ⟨rb,5,none⟩=some (.slice YD S.bB.length ED):=by rw[bZ h.row];exact gW some hvd
 obtain⟨w1,hmk,hown1,abo⟩:=run_make_own (P:=Tryz.prog) w w.heap.size 60 63 ti _ 6 Tryz.underlying60 HTI.out.1 HTI.out.2.2.2 HTI.out.2.1 .i64 .i64 S.bB.length (by rw[HTI.out.2.2.1];omega) (by unfold maxLen;omega) (ai _);have HB1:Hid (Below w.heap.size w w1):=(au _ w).grown abo (ai _) (fun k hk=>by cases hk);have HO1:=aP hown1;have d5:w1.cell? ⟨rb,5,none⟩=some (.slice YD S.bB.length ED):=(HB1.out.cell (p:=⟨rb,5,none⟩) h.qi).trans c5;have HVD:=aP hvd;have HGD:=aP hgd;have Rm:=aP hdl;clear h hown1 abo hvd hgd hcd hdl;generalize hLE:S.bB.length=L at*;have Rz:=aP hLE
 have l0:(L:Int)<=64:=by omega
 clear hLE
 go_enter Tryz.func115,Tryz.ntmps115
 go_wp2_with fail
 go_loopw [3,19] (fun v i wr=>∃(j cap:Nat) (ao:Option Addr) (cs:List ah),i=.int .i64 j/\v=.slice ao j cap/\j<=L/\cs.length=j/\(∀(k:Nat) e c,k<j->S.bB[k]?=some e->cs[k]?=some c->qw S e=some c)/\wr.ownsRow w.heap.size 63 6 (.slice ao j cap) j (nG (p.ds.take j) cs)/\Below w.heap.size w wr) (fun _ i _=>L-(intOf i).toNat)
 case atStart=>
  exact⟨0,L,_,[],rfl,rfl,aN _,rfl,fun k e c hk=>by omega,HO1.out,HB1.out⟩
 case round=>
  obtain⟨j,cap,ao,cs,rfl,rfl,hle,hcl,hag,hown,hbw⟩:=hrel;have HCL:=aP hcl;have Rj:=aP hag;have HOW:=aP hown;have lF:=aP hbw;clear hcl hag hown hbw
  have j0:(0:Int)<=(j:Int):=by omega
  by_cases hlt:j<L
  ·have j1:(j:Int)<(L:Int):=by omega
   obtain⟨e0,he0⟩:∃e,S.bB[j]?=some e:=⟨S.bB[j]'(by have:=Rz.out;omega),by simp⟩;obtain⟨d,hd⟩:∃d,p.ds[j]?=some d:=⟨p.ds[j]'(by have:=Rm.out;omega),by simp⟩;have HST:=aP (H.out.below lF.out);have hda:=HST.out.const.now.2.2.2 j d e0 hd he0;have HDA:=aP hda;have HED:=aP (aK he0 hd);obtain⟨g,rfl⟩:=HGD.out (by omega)
   have hrow:wr.ownsRow B 311 7 (.slice (some ⟨g,0,none⟩) L ED) L (sF p.ds):=by
    have:=HST.out.jN;rw[HVD.out,Rz.out] at this;exact this
   have e0c:wr.cell? ⟨g,j*7,none⟩=some d.vo:=(dO hrow (j*7+0) _ (sO p.ds j d 0 hd (by decide))).1;have e1c:wr.cell? ⟨g,j*7+1,none⟩=some d.vi:=(dO hrow _ _ (sO p.ds j d 1 hd (by decide))).1;have e2c:wr.cell? ⟨g,j*7+2,none⟩=some d.vm:=(dO hrow _ _ (sO p.ds j d 2 hd (by decide))).1;have e3c:wr.cell? ⟨g,j*7+3,none⟩=some d.vr:=(dO hrow _ _ (sO p.ds j d 3 hd (by decide))).1;have e4c:wr.cell? ⟨g,j*7+4,none⟩=some (.string d.rule):=(dO hrow _ _ (sO p.ds j d 4 hd (by decide))).1;have e5c:wr.cell? ⟨g,j*7+5,none⟩=some (.string ⟨#[]⟩):=(dO hrow _ _ (sO p.ds j d 5 hd (by decide))).1;have e6c:wr.cell? ⟨g,j*7+6,none⟩=some (.pointer (some ⟨d.ob,0,none⟩)):=(dO hrow _ _ (sO p.ds j d 6 hd (by decide))).1;clear hrow he0 hd hda;obtain⟨vo,vi,vm,vr,rl,ob⟩:=d;simp only at e0c e1c e2c e3c e4c e6c
   obtain⟨mY,no,co,Ru⟩:∃ao n c,vo=.slice ao n c:=by obtain⟨ao,c,e,_⟩:=HDA.out.outs;exact⟨ao,_,c,e⟩
   obtain⟨kz,ni,ci,MC⟩:∃ao n c,vi=.slice ao n c:=by obtain⟨ao,c,e,_⟩:=HDA.out.ins;exact⟨ao,_,c,e⟩
   obtain⟨lH,nm,cm,Wj⟩:∃ao n c,vm=.slice ao n c:=by obtain⟨ao,c,e,_⟩:=HDA.out.impl;exact⟨ao,_,c,e⟩
   obtain⟨nC,nr,cr,Zl⟩:∃ao n c,vr=.slice ao n c:=by obtain⟨ao,c,e,_⟩:=HDA.out.ord;exact⟨ao,_,c,e⟩
   subst Ru MC Wj Zl;have hel:=HED.out.1;have Po:=aP (H.out.ok.edge e0 (aO hel));have hrl:e0.rule=rl:=HDA.out.rule.symm
   have hrs:rl.size<=4000:=by rw[<-hrl];exact HRU.out e0 (aO hel)
   have HRL:=aP hrl;clear hel hrl
   go_wp2_with fail
   obtain⟨W1,hW1⟩:∃W1,W1=(wr.alloc (.cells #[.slice mY no co,.slice kz ni ci,.slice lH nm cm,.slice nC nr cr,.string rl,.string ⟨#[]⟩,.pointer (some ⟨ob,0,none⟩)] 311)).alloc (.cells #[.slice mY no co,.slice kz ni ci,.slice lH nm cm,.slice nC nr cr,.string rl,.string ⟨#[]⟩] 63):=⟨_,rfl⟩
   have akX:Hid (W1.heap.size=wr.heap.size+2):=by rw[hW1];show _=_;simp
   have HE1:Hid (W1.heap[wr.heap.size+1]?=some (.cells #[.slice mY no co,.slice kz ni ci,.slice lH nm cm,.slice nC nr cr,.string rl,.string ⟨#[]⟩] 63 (0,0))):=by rw[hW1];exact aW _ _ _ (by simp)
   have ag2:Hid (Below wr.heap.size wr W1):=by rw[hW1];exact((au _ _).alloc (ai _) _).alloc (by simp) _
   rw[<-hW1];clear hW1;refine(Ay (.pointer (some ⟨ob,0,none⟩)) ⟨_,rfl⟩ W1).mono ?_;rintro e w2 ⟨FJ,UF,rfl,hs2,hm2,ht2,ht3,hb2⟩;have alm:=akX.out;have HE2:Hid (w2.heap[wr.heap.size+1]?=some (.cells #[.slice mY no co,.slice kz ni ci,.slice lH nm cm,.slice nC nr cr,.string rl,.string ⟨#[]⟩] 63 (0,0))):=(hb2.block _ (by omega)).trans HE1.out;have HB2:Hid (Below wr.heap.size wr w2):=ag2.out.trans (hb2.mono (by omega));have HS2:=aP hs2;have HM2:=aP hm2;have HTB:Hid (wr.heap.size+2<=UF/\UF<FJ):=⟨by omega,ht3⟩;have HJ2:=OO e0.ins (.slice kz ni ci) w2 (HDA.out.ins.gY HB2.out) (by have:=Po.out;omega) (fun y hy=>by have:=Po.out.2.2.2.2.2.1 y hy;omega)
   have q1:w2.cell? ⟨wr.heap.size+1,1,none⟩=some (.slice kz ni ci):=by rw[bZ HE2.out];rfl
   have agb:FJ<w2.heap.size:=bI hs2;clear hs2 hm2 ht2 hb2 alm HE1 ag2
   go_wp2_with fail
   refine HJ2.mono ?_;rintro e w3 ⟨rfl,hb3⟩;have akQ:=aP HM2.out.lt;have HE3:Hid (w3.heap[wr.heap.size+1]?=some (.cells #[.slice mY no co,.slice kz ni ci,.slice lH nm cm,.slice nC nr cr,.string rl,.string ⟨#[]⟩] 63 (0,0))):=(hb3.block _ (bI HE2.out)).trans HE2.out;have HB3:=aP (HB2.out.trans (hb3.mono HB2.out.size));have ahI:=QZ (x:=tIn) (v:=rM e0.ins) ((hb3.block _ agb).trans HS2.out) (dU.keep HM2.out (hb3.block _ HM2.out.lt)) (by omega) (show tIn.size<=1048576 by decide);have HS3:Hid (w3.heap[FJ]?=some (.cells #[.map (some UF),.pointer (some ⟨ob,0,none⟩)] 302 (0,0))):=(hb3.block _ agb).trans HS2.out;clear hb3 HJ2 HE2 HB2 HS2 HM2 q1 agb akQ
   go_wp2_with fail
   refine ahI.mono ?_;rintro e w4 ⟨rfl,hm4,hg4⟩;have htb:=HTB.out;have Vb:Hid (w4.heap[wr.heap.size+1]?=some (.cells #[.slice mY no co,.slice kz ni ci,.slice lH nm cm,.slice nC nr cr,.string rl,.string ⟨#[]⟩] 63 (0,0))):=(hg4.block _ (bI HE3.out) (fun e=>by have:=ak e;omega)).trans HE3.out;have xu:Hid (Below wr.heap.size wr w4):=HB3.out.grown hg4 HB3.out.size (fun k hk=>by have:=ak hk;omega);have HS4:Hid (w4.heap[FJ]?=some (.cells #[.map (some UF),.pointer (some ⟨ob,0,none⟩)] 302 (0,0))):=(hg4.block _ (bI HS3.out) (fun e=>by have:=ak e;omega)).trans HS3.out;have qY:=aP hm4;have HJ4:=OO e0.outs (.slice mY no co) w4 (HDA.out.outs.gY xu.out) (by have:=Po.out;omega) (fun y hy=>by have:=Po.out.2.2.2.2.1 y hy;omega)
   have q0:w4.cell? ⟨wr.heap.size+1,0,none⟩=some (.slice mY no co):=by rw[bZ Vb.out];rfl
   clear hm4 hg4 htb HE3 HB3 HS3 ahI
   go_wp2_with fail
   refine HJ4.mono ?_;rintro e w5 ⟨rfl,hb5⟩;have HE5:Hid (w5.heap[wr.heap.size+1]?=some (.cells #[.slice mY no co,.slice kz ni ci,.slice lH nm cm,.slice nC nr cr,.string rl,.string ⟨#[]⟩] 63 (0,0))):=(hb5.block _ (bI Vb.out)).trans Vb.out;have Bo:=aP (xu.out.trans (hb5.mono xu.out.size));have Je:Hid (w5.heap[FJ]?=some (.cells #[.map (some UF),.pointer (some ⟨ob,0,none⟩)] 302 (0,0))):=(hb5.block _ (bI HS4.out)).trans HS4.out;have Yr:=QZ (x:=Md) (v:=rM e0.outs) Je.out (dU.keep qY.out (hb5.block _ qY.out.lt)) (by omega) (show Md.size<=1048576 by decide);clear hb5 HJ4 Vb xu HS4 qY q0
   go_wp2_with fail
   refine Yr.mono ?_;rintro e w6 ⟨rfl,Zj,hg6⟩;have htb:=HTB.out;have HE6:Hid (w6.heap[wr.heap.size+1]?=some (.cells #[.slice mY no co,.slice kz ni ci,.slice lH nm cm,.slice nC nr cr,.string rl,.string ⟨#[]⟩] 63 (0,0))):=(hg6.block _ (bI HE5.out) (fun e=>by have:=ak e;omega)).trans HE5.out;have FN:Hid (Below wr.heap.size wr w6):=Bo.out.grown hg6 Bo.out.size (fun k hk=>by have:=ak hk;omega)
   have Mt:Hid (lU w6 (.pointer (some ⟨FJ,0,none⟩)) [EU e0,e0.own,S.top]):=by
    obtain⟨tb0,n0,q1,q2,q3⟩:=HDA.out.own;have hob:ob<wr.heap.size:=bI q2;refine⟨FJ,UF,1+1,.pointer (some ⟨ob,0,none⟩),rfl,(by show ob+1<=FJ;omega),(hg6.block _ (bI Je.out) (fun e=>by have:=ak e;omega)).trans Je.out,Zj,?_⟩;have h1:lU wr (.pointer (some ⟨ob,0,none⟩)) [e0.own,S.top]:=⟨ob,tb0,n0,.pointer (some ⟨p.sb,0,none⟩),rfl,q1,q2,q3,p.sb,p.tb,p.n1,.pointer none,rfl,aN _,HST.out.const.now.2.1,HST.out.top,rfl⟩;exact h1.keep FN.out.block
   have HP6:=aP (HST.out.below FN.out)
   have q3:w6.cell? ⟨rb,3,none⟩=some (.map (some p.rm)):=by rw[bZ HP6.out.row];rfl
   have q4:w6.cell? ⟨wr.heap.size+1,4,none⟩=some (.string rl):=by rw[bZ HE6.out];rfl
   have hlk:(Instr.lookup 197 (.map (some p.rm)) (.string rl) false).run Tryz.prog w6.drew=.ok (((eB S.rules rl).map wu).getD yL) w6.drew:=dU.look (w:=w6.drew) (dU.keep (w':=w6.drew) HP6.out.rules rfl) Tryz.underlying197 HZ.out rl (by unfold maxLen;omega)
   have hlv:((eB S.rules rl).map wu).getD yL=.agg #[.string ((eB S.rules rl).getD ⟨#[]⟩)]:=by
    cases eB S.rules rl<;>rfl
   rw[hlv] at hlk
   have HX:=xS rb n ((eB S.rules rl).getD ⟨#[]⟩) [EU e0,e0.own,S.top] (.pointer (some ⟨FJ,0,none⟩)) a w6.drew HP6.out.Jg (Mt.out.keep (fun k _=>rfl)) (HP6.out.gl.keep (ai _) (fun _ _=>rfl)) (by have:=ab5 H.out.ok rl;omega) (fun x=>by
    have hbi:=SX (e:=e0) (by have:=Po.out;omega) (by have:=Po.out;omega) Po.out.2.2.2.2.1 Po.out.2.2.2.2.2.1
    have:=adw (N:=1000000) (ls:=[EU e0,e0.own,S.top]) (fun l hl y hy=>by
     rcases aV.1 hl with rfl|hl
     ·exact(hbi y hy).1
     rcases aV.1 hl with rfl|hl
     ·have:=(Po.out.1 y hy).1;omega
     obtain rfl:=bg.1 hl
     have:=(H.out.ok.top y hy).1;omega) x
    omega) (YX (fun l hl y hy=>by
     have hbi:=SX (e:=e0) (by have:=Po.out;omega) (by have:=Po.out;omega) Po.out.2.2.2.2.1 Po.out.2.2.2.2.2.1
     rcases aV.1 hl with rfl|hl
     ·exact(hbi y hy).2
     rcases aV.1 hl with rfl|hl
     ·exact(Po.out.1 y hy).2
     obtain rfl:=bg.1 hl
     exact(H.out.ok.top y hy).2))
   have HCM:Hid (qw S e0=iy (gy [EU e0,e0.own,S.top]) ((eB S.rules rl).getD ⟨#[]⟩)):=by
    show _=_;rw[RV,HRL.out]
   clear hlv Zj hg6 htb HE5 Bo Je Yr Mt;generalize (eB S.rules rl).getD ⟨#[]⟩=CT at*
   have hfd:∀wx,(Instr.field 316 (.agg #[.string CT]) 0).run Tryz.prog wx=.ok (.string CT) wx:=fun wx=>by kernel_rfl
   generalize hEX:iy (gy [EU e0,e0.own,S.top]) CT=EX at*;clear hEX
   cases EX with
   |none=>
    have HF:=aP (Dc S S.bB j e0 HED.out.1 HCM.out)
    go_wp2_with fail
    go_region_with (go_at_call 201;refine HX.mono ?_;rintro e w8 ⟨hst,mr⟩;obtain⟨b,rfl,s0,s1⟩:=hst;refine uj ⟨rfl,(by rw[HF.out];exact⟨⟨b,rfl,s0,s1⟩,(lF.out.trans (FN.out.mono lF.out.size)).drew.trans (mr.mono (by have:=FN.out.size;have:=lF.out.size;show _<=w6.heap.size;omega))⟩)⟩ w ?_)
    all_goals trivial
   |some y=>
    go_wp2_with fail
    go_region_with (go_at_call 201;refine HX.mono ?_;rintro e w8 ⟨rfl,mr⟩;have HE8:Hid (w8.heap[wr.heap.size+1]?=some (.cells #[.slice mY no co,.slice kz ni ci,.slice lH nm cm,.slice nC nr cr,.string rl,.string ⟨#[]⟩] 63 (0,0))):=(mr.block _ (bI HE6.out)).trans HE6.out;have q5:w8.cell? ⟨wr.heap.size+1,5,none⟩=some (.string ⟨#[]⟩):=(by rw[bZ HE8.out];rfl);have f5:w8.frozen? ⟨wr.heap.size+1,5,none⟩=false:=iG HE8.out)
    all_goals
     have HE9:Hid ((w8.setCell ⟨wr.heap.size+1,5,none⟩ (.string y)).heap[wr.heap.size+1]?=some (.cells #[.slice mY no co,.slice kz ni ci,.slice lH nm cm,.slice nC nr cr,.string rl,.string y] 63 (0,0))):=by
      show _=_;rw[xY HE8.out];rfl
     have Ry:Hid (Below wr.heap.size wr (w8.setCell ⟨wr.heap.size+1,5,none⟩ (.string y))):=(FN.out.drew.trans (mr.mono FN.out.size)).setCell (p:=⟨wr.heap.size+1,5,none⟩) (fB _) _;clear mr q5 f5 HE8 HE6 FN HP6 q3 q4 hlk HX hfd;generalize w8.setCell ⟨wr.heap.size+1,5,none⟩ (.string y)=W9 at*
     have z0:W9.cell? ⟨wr.heap.size+1,0,none⟩=some (.slice mY no co):=by rw[bZ HE9.out];rfl
     have z1:W9.cell? ⟨wr.heap.size+1,1,none⟩=some (.slice kz ni ci):=by rw[bZ HE9.out];rfl
     have z2:W9.cell? ⟨wr.heap.size+1,2,none⟩=some (.slice lH nm cm):=by rw[bZ HE9.out];rfl
     have z3:W9.cell? ⟨wr.heap.size+1,3,none⟩=some (.slice nC nr cr):=by rw[bZ HE9.out];rfl
     have z4:W9.cell? ⟨wr.heap.size+1,4,none⟩=some (.string rl):=by rw[bZ HE9.out];rfl
     have z5:W9.cell? ⟨wr.heap.size+1,5,none⟩=some (.string y):=by rw[bZ HE9.out];rfl
     have HOA:Hid ((W9.alloc (.cells #[.slice mY no co,.slice kz ni ci,.slice lH nm cm,.slice nC nr cr,.string rl,.string y] 63)).ownsRow w.heap.size 63 6 (.slice ao j cap) j (nG (p.ds.take j) cs)):=dL HOW.out (fun k hk=>(aZ W9 _ k (by have:=(bA HOW.out k hk).2;have:=Ry.out.size;omega)).trans (Ry.out.block k (bA HOW.out k hk).2));have hsz:w.heap.size<=W9.heap.size:=aA lF.out.size Ry.out.size;have CX:Hid (Below w.heap.size w (W9.alloc (.cells #[.slice mY no co,.slice kz ni ci,.slice lH nm cm,.slice nC nr cr,.string rl,.string y] 63))):=(lF.out.trans (Ry.out.mono lF.out.size)).alloc hsz _
     go_wp2_with (at_builtin;refine Ab _ rfl (.tmp 50) (.tmp 52) 60 rfl w.heap.size 63 ti (.agg #[.slice none 0 0,.slice none 0 0,.slice none 0 0,.slice none 0 0,.string ⟨#[]⟩,.string ⟨#[]⟩]) 6 128 Tryz.underlying60 HTI.out.1 HTI.out.2.2.2 HTI.out.2.1 HTI.out.2.2.1 rfl (by decide) _ j _ rfl (by exact HOA.out) ⟨W9.heap.size,0,none⟩ 1 1 [.slice mY no co,.slice kz ni ci,.slice lH nm cm,.slice nC nr cr,.string rl,.string y] rfl rfl (by exact iH W9 _ _) (by intro u hu;simp only[aV,dz,ko] at hu;rcases hu with rfl|rfl|rfl|rfl|rfl|rfl<;>rfl) (by unfold maxLen;omega) (by omega) (by simp;omega) ?_;intro v5 w5 hv5 hg5 hn5;refine dI ?_)
     have HO5:Hid (w5.ownsRow w.heap.size 63 6 v5 (j+1) (nG (p.ds.take (j+1)) (cs++[y]))):=by
      rw[AQ _ _ _ HED.out.2,BN _ _ _ _ (by rw[gV,Rm.out,HCL.out];omega)];exact hv5
     have Bo:Hid (Below w.heap.size w w5):=CX.out.grown hg5 (by simp;omega) (fun q hq=>(bA HOA.out q hq).1);obtain⟨ao5,cap5,rfl,_,_⟩:=bq HO5.out;clear hv5 hg5 hn5;unfold Hid
     go_wp2_with fail
     refine⟨⟨j+1,cap5,ao5,cs++[y],by go_num,rfl,hlt,by rw[aF,HCL.out];rfl,fun k e c hk he hc=>?_,HO5.out,Bo.out⟩,by simp[intOf];omega⟩
     rcases bR k j with q|q
     ·rw[bQ (by rw[HCL.out];exact q)] at hc;exact Rj.out k e c q he hc
     obtain rfl:k=j:=by omega
     rw[HED.out.1] at he;obtain rfl:=ak he;rw[dh (by rw[HCL.out];exact ai _),HCL.out,qj] at hc;obtain rfl:=ak hc;exact HCM.out
  obtain rfl:j=L:=by omega
  have j1:¬(j:Int)<(j:Int):=by omega
  have HF:Hid (jg S S.bB=some cs):=Df S S.bB cs (by rw[HCL.out,Rz.out]) (fun k e c h1 h2=>Rj.out k e c (by have:=(aJ.1 h1).1;have:=Rz.out;omega) h1 h2)
  go_wp2_with fail
  go_ret;refine⟨?_,lF.out⟩;rw[HF.out];refine⟨_,rfl,?_⟩;have h1:=HOW.out;rw[bF (by rw[Rm.out];exact ai _)] at h1;exact h1
