import Derived.Test.YthhbpebihgjpjaaGreatDoorZ35
namespace Go.Proofs.YthhbpebihgjpjaaGreatDoor
set_option maxRecDepth 1000000
set_option maxHeartbeats 20000000
set_option linter.all false
section
open Go.RowKit Go.Maps
variable {W0 mb:Nat}{S:St}{cs:List ah}{w:aj}
theorem NC.bB(h:NC W0 S cs mb w):∃ev dv,w.heap[mb]?=some (.cells #[ev,dv] 101 (0,0))/\nZ w ev S.bB cs/\bG w dv S.defs/\cs.length=S.bB.length:=by
 obtain⟨ev,dv,ds,h1,hrow,hdl,hcl,hli,hd⟩:=h;refine⟨ev,dv,h1,?_,hd,hcl⟩;obtain⟨ao,cap,rfl,hcap,hg⟩:=bq hrow;refine⟨ao,cap,rfl,?_⟩
 by_cases h0:S.bB=[]
 ·exact aG h0
 obtain⟨g,rfl⟩:=hg (fZ.2 h0);refine aL ⟨g,0,rfl,fun k e y he hy=>?_⟩
 have hlt:k<ds.length:=by rw[hdl];exact(aJ.1 he).1
 obtain⟨d,hd⟩:∃d,ds[k]?=some d:=⟨ds[k],by simp⟩;have hl:=hli k d e hd he
 have cell:∀i u,i<6->(yD d y)[i]?=some u->w.cell? ⟨g,k*6+i,none⟩=some u:=fun i u hi hu=>(dO hrow (k*6+i) u (by rw[oq ds cs k d y i hd hy hi];exact hu)).1
 rw[bW];refine⟨d.vo,d.vi,d.vm,d.vr,⟨cell 0 _ (by omega) rfl,cell 1 _ (by omega) rfl,cell 2 _ (by omega) rfl,cell 3 _ (by omega) rfl,?_,cell 5 _ (by omega) rfl⟩,hl.1,hl.2.1,hl.2.2.1,hl.2.2.2.1⟩;rw[<-hl.2.2.2.2];exact cell 4 _ (by omega) rfl
variable {w':aj}{v:Value}{es:List dm}
theorem nZ.later(h:nZ w v es cs)(hb:Below w.heap.size w w'):nZ w' v es cs:=by
 obtain⟨ao,cap,rfl,q|⟨g,o,rfl,q⟩⟩:=h
 ·exact⟨ao,cap,rfl,aG q⟩
 refine⟨_,cap,rfl,aL ⟨g,o,rfl,fun k e c he hc=>?_⟩⟩;obtain⟨vo,vi,vm,vr,⟨d0,d1,d2,d3,d4,d5⟩,UL,MG,tm',UN⟩:=q k e c he hc
 have kc:∀(a:Addr) u,w.cell? a=some u->w'.cell? a=some u:=fun a u h=>(hb.cell (p:=a) (aC h)).trans h
 exact⟨vo,vi,vm,vr,⟨kc _ _ d0,kc _ _ d1,kc _ _ d2,kc _ _ d3,kc _ _ d4,kc _ _ d5⟩,UL.gY hb,MG.gY hb,tm'.gY hb,UN.gY hb⟩
structure aaY(S:St):Prop where
 few:S.bB.length<=64
 edge:∀e∈S.bB,e.outs.length<=10000/\e.ins.length<=10000/\e.impl.length<=10000/\e.ord.length<=10000/\(∀x∈e.outs,x.size<=32)/\∀x∈dZ e,x.size<=32
 once:(S.bB.flatMap (·.outs)).Nodup
 defs:S.defs.length<=20000000/\∀x∈S.defs,x.size<=32
variable {x:ah}{p:Nat}
theorem Gu(h:fE es x=some p):p<es.length:=by
 unfold fE at h;rw[XE] at h;exact h.1
theorem OD(es:List dm):(∀i,∀n∈(jd es).getD i [],n<(jd es).length):=by
 intro i n hn
 have hl:(jd es).length=es.length:=by unfold jd;simp
 rw[hl];unfold jd at hn;rw[cZ,dM] at hn
 cases he:es[i]? with
 |none=>rw[he] at hn;simp at hn
 |some e=>
  rw[he] at hn;simp only[nu,bY] at hn;unfold Ig at hn;obtain⟨x,_,hx⟩:=jo.1 hn;exact Gu hx
theorem ZF(h:∀e∈es,e.ins.length<=10000/\e.impl.length<=10000/\e.ord.length<=10000)(i:Nat):((jd es).getD i []).length<=30000:=by
 unfold jd;rw[cZ,dM]
 cases he:es[i]? with
 |none=>simp
 |some e=>
  simp only[nu,bY];have:=h e (aO he);refine aA (wW _ _) ?_;unfold dZ;rw[aF,aF];omega
theorem Mg{l:List ah}(h:bG w v l):∃ao cap,v=.slice ao l.length cap/\(0<l.length->∃b o,ao=some ⟨b,o,none⟩/\∀k s,l[k]?=some s->w.cell? ⟨b,o+k,none⟩=some (.string s)):=by
 obtain⟨ao,cap,rfl,_,⟨_,q,_⟩|⟨b,o,rfl,q⟩⟩:=h
 ·exact⟨ao,cap,rfl,fun hp=>by rw[q] at hp;simp at hp⟩
 exact⟨_,cap,rfl,fun _=>⟨b,o,rfl,q⟩⟩
def abR(a:Nat->Addr)(W0:Nat)(r:Except XF (List Nat))(e:Ending)(w':aj):Prop:=match r with
 |.error false=>e=.returned (.tuple #[.slice none 0 0,iW a 7])
 |.error true=>e=.returned (.tuple #[.slice none 0 0,iW a 8])
 |.ok o=>∃v,e=.returned (.tuple #[v,.nilIface])/\w'.ownsRow W0 3 1 v o.length (lZ o)
variable {N:List (List Nat)}
theorem UU{mk:ah->Option Nat}{xs:List ah}{s o:List Nat}(h:mk x=some p):wQ N mk (x::xs) s o=wQ N mk xs (fU N p s o).2.1 (fU N p s o).2.2:=by
 rw[wQ,h]
theorem Sz:∀(es:List dm),(∀e∈es,e.outs.length<=10000)->(es.flatMap (·.outs)).length<=es.length*10000
 |[],_=>aN _
 |e::es,h=>by
  have ih:=Sz es (fun x hx=>h x (aU _ hx));have h1:=h e (aM ..);rw[mW,aF,aS];omega
theorem vF.keep{gN:Nat}(h:vF w gN N)(hb:Below w.heap.size w w'):vF w' gN N:=fun i l hi=>by
 obtain⟨v,hc,hv⟩:=h i l hi;exact⟨v,(hb.cell (p:=⟨gN,i,none⟩) (aC hc)).trans hc,hv.keep (fun k hk=>hb.block k hk)⟩
theorem ZJ{a:Nat->Addr}(h:NC W0 S cs mb w)(hg:Gl a w)(hS:aaY S){vt:Value}{ts:List ah}(ht:bG w vt ts)(htl:ts.length<=1048576)(hts:∀x∈ts,x.size<=maxLen):
  Calls Tryz.prog 47 #[.pointer (some ⟨mb,0,none⟩),vt] w fun e w'=>abR a w.heap.size (wO S ts) e w'/\Below w.heap.size w w':=by
 obtain⟨ev,dv,adH,hrow,hdef,hcl⟩:=h.bB;obtain⟨RN,CV,hev,_⟩:=id hrow;obtain⟨YD,ED,hdv,_⟩:=Mg hdef;obtain⟨aot,adq,hvt,_⟩:=Mg ht;subst hev hdv hvt
 have c0:w.cell? ⟨mb,0,none⟩=some (.slice RN S.bB.length CV):=by rw[bZ adH];rfl
 have SN:=bI adH;have akA:=aP adH;have CP:=aP (aK hrow hcl);have akh:=aP hdef;have HTS:=aP (aK ht (aK htl hts));have HG:=aP hg;have HS:=aP hS;have HMK:Hid (Calls Tryz.prog 67 #[.slice RN S.bB.length CV] w fun e w'=>∃mb n,e=.returned (.map (some mb))/\dU Ky (.int .i64 0) w' mb n (KS (fE S.bB))/\w.heap.size<=mb/\n<=1000000/\Below w.heap.size w w'):=Qw hrow hS.few hcl (fun e he=>⟨(hS.edge e he).1,(hS.edge e he).2.2.2.2.1⟩) hS.once;obtain⟨R,hR⟩:∃R,R=wO S ts:=⟨_,rfl⟩;rw[<-hR];have HR:=aP hR;clear hR h hg hS ht htl hts adH hrow hdef hcl
 go_enter Tryz.func47,Tryz.ntmps47
 go_wp2_with fail
 refine HMK.out.mono ?_;rintro e w1 ⟨mb1,n1,rfl,abt,aiv,hn1,hb1⟩;have HB1:=aP hb1;have HMP:=aP abt;have d0:w1.cell? ⟨mb,0,none⟩=some (.slice RN S.bB.length CV):=(hb1.cell (p:=⟨mb,0,none⟩) SN).trans c0;have HND:Hid (Calls Tryz.prog 68 #[.slice RN S.bB.length CV,.map (some mb1)] w1 fun e w'=>∃gN,e=.returned (.slice (some ⟨gN,0,none⟩) S.bB.length S.bB.length)/\vF w' gN (jd S.bB)/\Below w1.heap.size w1 w'):=TH (CP.out.1.later hb1) abt HS.out.few CP.out.2 (fun e he=>⟨(HS.out.edge e he).2.1,(HS.out.edge e he).2.2.1,(HS.out.edge e he).2.2.2.1,(HS.out.edge e he).2.2.2.2.2⟩);clear abt aiv hn1 hb1 HMK c0
 go_wp2_with fail
 refine HND.out.mono ?_;rintro e w2 ⟨gN,rfl,hnd,hb2⟩
 have CY:Hid ((jd S.bB).length=S.bB.length):=by show _=_;unfold jd;simp
 have HNF:Hid ((∀i,∀n∈(jd S.bB).getD i [],n<(jd S.bB).length)/\∀i,((jd S.bB).getD i []).length<=30000):=⟨OD S.bB,ZF (fun e he=>⟨(HS.out.edge e he).2.1,(HS.out.edge e he).2.2.1,(HS.out.edge e he).2.2.2.1⟩)⟩;have HB2:Hid (Below w.heap.size w w2/\Below w1.heap.size w1 w2):=⟨HB1.out.trans (hb2.mono HB1.out.size),hb2⟩;have HN2:=aP hnd;have HRU:=Uq (cN:=S.bB.length) hnd (by rw[CY.out];have:=HS.out.few;omega) HNF.out.1 HNF.out.2;rw[CY.out] at HRU;have HRU:=aP HRU;clear hnd hb2 HND d0;generalize hrb:zS (jd S.bB) (List.range S.bB.length) (jP S.bB.length) []=rb at*;have HRB:=aP hrb;clear hrb
 go_wp2_with fail
 refine HRU.out.mono ?_;rintro e w3 ⟨rfl,hb3⟩;have HB3:Hid (Below w.heap.size w w3/\Below w1.heap.size w1 w3/\Below w2.heap.size w2 w3):=⟨HB2.out.1.trans (hb3.mono HB2.out.1.size),HB2.out.2.trans (hb3.mono HB2.out.2.size),hb3⟩;have HG3:=aP (HG.out.below HB3.out.1 HG.out.size);have g7:w3.cell? ⟨7,0,none⟩=some (.iface 472 (.pointer (some (a 7)))):=HG3.out.errs 7 (by decide);clear hb3 HRU
 cases rb with
 |false=>
  have hRe:R=.error false:=by rw[HR.out];unfold wO;rw[HRB.out];rfl
  subst hRe;clear HR
  go_wp2
  go_quiet (fail)
  have xu:Hid (Below w.heap.size w (w3.drewN nq)):=HB3.out.1.trans ⟨rfl,rfl,rfl,ai _,fun _ _=>rfl⟩;generalize w3.drewN nq=w4 at*
  go_wp2
  go_ret2;exact⟨rfl,xu.out⟩
 |true=>
  have ant:mb<w3.heap.size:=ay SN HB3.out.1.size;have abr:w3.heap[mb]?=_:=(HB3.out.1.block mb SN).trans akA.out
  have m0:w3.cell? ⟨mb,0,none⟩=some (.slice RN S.bB.length CV):=by rw[bZ abr];rfl
  have m1:w3.cell? ⟨mb,1,none⟩=some (.slice YD S.defs.length ED):=by rw[bZ abr];rfl
  have Nz:Hid (∀T,T=wL S ts->R=match wQ (jd S.bB) (fE S.bB) T (jP S.bB.length) [] with
   |none=>.error true
   |some o=>.ok o):=fun T hT=>by
   rw[HR.out,hT];unfold wO;rw[HRB.out];rfl
  have HLO:=aP (Qt (CP.out.1.later HB3.out.1) HS.out.few CP.out.2 HS.out.edge);clear abr HR HRB g7 HG3
  by_cases h0:ts.length=0
  case' neg=>
   have b0:(((ts.length:Nat):Int)==0)=false:=lg.2 (by omega)
   have hgo:ts=wL S ts:=by unfold wL;rw[aD (fun e=>h0 (by rw[e];rfl))]
   have HT4:Hid (bG w3 (.slice aot ts.length adq) ts/\ts.length<=20000000/\∀x∈ts,x.size<=maxLen):=⟨HTS.out.1.gY HB3.out.1,by have:=HTS.out.2.1;omega,HTS.out.2.2⟩;have HR4:=aP (Nz.out ts hgo);clear HLO m0 m1 h0 hgo Nz
   go_wp2_with fail
   obtain⟨T,hT⟩:∃T,T=ts:=⟨_,rfl⟩;obtain⟨aT,haT⟩:∃x,x=aot:=⟨_,rfl⟩;obtain⟨ahV,hcT⟩:∃x,x=adq:=⟨_,rfl⟩;obtain⟨w4,hw4⟩:∃x,x=w3:=⟨_,rfl⟩
   have xu:Hid (Below w.heap.size w w4/\Below w1.heap.size w1 w4/\Below w2.heap.size w2 w4):=by rw[hw4];exact HB3.out
   rw[<-hw4,<-hT,<-haT,<-hcT];rw[<-hw4,<-hT,<-haT,<-hcT] at HT4;rw[<-hT] at HR4;clear hw4 hT haT hcT b0 HB3
  case' pos=>
   have adL:ts=[]:=mF h0
   have b0:(((ts.length:Nat):Int)==0)=true:=by rw[h0];rfl
   by_cases h1:S.defs.length=0
   case' neg=>
    have b1:(((S.defs.length:Nat):Int)==0)=false:=lg.2 (by omega)
    have hgo:S.defs=wL S ts:=by unfold wL;rw[ax (fun e=>e adL),aD (fun e=>h1 (by rw[e];rfl))]
    have HT4:Hid (bG w3 (.slice YD S.defs.length ED) S.defs/\S.defs.length<=20000000/\∀x∈S.defs,x.size<=maxLen):=⟨akh.out.gY HB3.out.1,HS.out.defs.1,fun x hx=>by have:=HS.out.defs.2 x hx;unfold maxLen;omega⟩;have HR4:=aP (Nz.out S.defs hgo);clear HLO m0 h1 hgo Nz adL h0
    go_wp2_with fail
    obtain⟨T,hT⟩:∃T,T=S.defs:=⟨_,rfl⟩;obtain⟨aT,haT⟩:∃x,x=YD:=⟨_,rfl⟩;obtain⟨ahV,hcT⟩:∃x,x=ED:=⟨_,rfl⟩;obtain⟨w4,hw4⟩:∃x,x=w3:=⟨_,rfl⟩
    have xu:Hid (Below w.heap.size w w4/\Below w1.heap.size w1 w4/\Below w2.heap.size w2 w4):=by rw[hw4];exact HB3.out
    rw[<-hw4,<-hT,<-haT,<-hcT];rw[<-hw4,<-hT,<-haT,<-hcT] at HT4;rw[<-hT] at HR4;clear hw4 hT haT hcT b0 b1 m1 HB3
   case' pos=>
    have b1:(((S.defs.length:Nat):Int)==0)=true:=by rw[h1];rfl
    have hgo:yF S.bB=wL S ts:=by unfold wL;rw[ax (fun e=>e adL),ax (fun e=>e (mF h1))]
    have HR4:=aP (Nz.out (yF S.bB) hgo)
    have CK:Hid ((yF S.bB).length<=20000000/\∀x∈yF S.bB,x.size<=maxLen):=by
     refine⟨aA (pG _ _) ?_,fun x hx=>?_⟩
     ·refine aA (Sz S.bB (fun e he=>(HS.out.edge e he).1)) ?_;have:=HS.out.few;omega
     obtain⟨e,he,hxe⟩:=IJ.1 (Mx.1 hx).1;have:=(HS.out.edge e he).2.2.2.2.1 x hxe;unfold maxLen;omega
    clear h1 hgo Nz adL h0
    go_wp2_with fail
    refine HLO.out.mono ?_;rintro e w4 ⟨v4,rfl,hv4,hb4⟩;obtain⟨aT,ahV,hvT,_,_⟩:=bq hv4;have HT4:Hid (bG w4 v4 (yF S.bB)/\(yF S.bB).length<=20000000/\∀x∈yF S.bB,x.size<=maxLen):=⟨mV hv4,CK.out⟩;have xu:Hid (Below w.heap.size w w4/\Below w1.heap.size w1 w4/\Below w2.heap.size w2 w4):=⟨HB3.out.1.trans (hb4.mono HB3.out.1.size),HB3.out.2.1.trans (hb4.mono HB3.out.2.1.size),HB3.out.2.2.trans (hb4.mono HB3.out.2.2.size)⟩;obtain⟨T,hT⟩:∃T,T=yF S.bB:=⟨_,rfl⟩;subst hvT;rw[<-hT] at HT4 HR4;rw[<-hT];clear hT hv4 hb4 HLO CK b0 b1 m0 m1 HB3
    go_wp2_with fail
  all_goals
   have Eu:=Ih (cN:=S.bB.length) (HN2.out.keep xu.out.2.2) (by rw[CY.out];have:=HS.out.few;omega);have afZ:=HS.out.few
   have HFZ:Hid (qX (jd S.bB) [] (jP S.bB.length)/\fG (jd S.bB) (jP S.bB.length) 0<=1000*30002):=by
    have h1:=Kk HNF.out.1;rw[CY.out] at h1;have h2:=En (jd S.bB) HNF.out.2 (jP S.bB.length) 0;refine⟨h1,?_⟩;simp only[jP,List.length_replicate] at h2⊢;omega
   rw[CY.out] at Eu;have Eu:=aP Eu;refine Eu.out.mono ?_;rintro e w5 ⟨wb,gs,rfl,hwk⟩;have HWK:=aP hwk;clear hwk Eu;generalize hTL:T.length=TL at*;have Ve:=aP hTL
   have t0:(TL:Int)<=20000000:=by have:=HT4.out.2.1;omega
   clear hTL;generalize hL:S.bB.length=L at*;have HL:=aP hL;clear hL;generalize hN:jd S.bB=N at*;clear hN
   go_wp2_with fail
   go_loopw [47] (fun i wr=>∃(k:Nat) (vo:Value) (s o:List Nat),i=.int .i64 k/\k<=TL/\tY w4 wb gN L gs L N vo s o wr/\qX N [] s/\(R=match wQ N (fE S.bB) (T.drop k) s o with
    |none=>.error true
    |some o=>.ok o)/\o.length+fG N s 0<=1000*30002+k*30001) (fun i _=>TL-(intOf i).toNat)
   case atStart=>exact⟨0,_,_,[],rfl,aN _,HWK.out,HFZ.out.1,HR4.out,by have:=HFZ.out.2;simp only[dR];omega⟩
   case round=>
    clear HWK HFZ HR4;obtain⟨k,vo,s,o,rfl,hk,hwk,hfi,hrun,hbd⟩:=hrel;have HWK:=aP hwk
    have HJ:Hid (qX N [] s/\(R=match wQ N (fE S.bB) (T.drop k) s o with
     |none=>.error true
     |some o=>.ok o)/\o.length+fG N s 0<=1000*30002+k*30001):=⟨hfi,hrun,hbd⟩
    have hbw:Below w.heap.size w wr:=xu.out.1.trans (hwk.bl.mono xu.out.1.size);have lF:=aP hbw
    have k0:(0:Int)<=(k:Int):=by omega
    by_cases hlt:k<TL
    ·have k1:(k:Int)<(TL:Int):=by omega
     obtain⟨x,hx⟩:∃x,T[k]?=some x:=⟨T[k]'(by have:=Ve.out;omega),by simp⟩;obtain⟨aT',am2,hvT,hgT⟩:=Mg (HT4.out.1.gY hwk.bl);injection hvT with e1 e2 e3;subst e1 e3;obtain⟨b,o3,hab,hct⟩:=hgT (by have:=Ve.out;omega);subst hab;have cx:wr.cell? ⟨b,o3+k,none⟩=some (.string x):=hct k x hx;have hxs:x.size<=maxLen:=HT4.out.2.2 x (aO hx);have hmw:=(HMP.out.keep (w':=wr) ((hwk.bl.block mb1 (ay HMP.out.lt xu.out.2.1.size)).trans (xu.out.2.1.block mb1 HMP.out.lt))).look_ok (t:=136) Tryz.underlying136 UZ x hxs
     have hdr:T.drop k=x::T.drop (k+1):=by
      rw[fA (aJ.1 hx).1,(aJ.1 hx).2]
     have g8:wr.cell? ⟨8,0,none⟩=some (.iface 472 (.pointer (some (a 8)))):=(HG.out.below hbw HG.out.size).errs 8 (by decide)
     cases hmx:fE S.bB x with
     |none=>
      have hf:KS (fE S.bB) x=none:=by unfold KS;rw[hmx];rfl
      rw[hf] at hmw;simp only[jC,iN] at hmw
      have hRe:R=.error true:=by rw[hrun,hdr];unfold wQ;rw[hmx]
      subst hRe;clear hwk hfi hrun hbd hbw e2 hct hgT hf hdr hmx hx HJ
      go_wp2
      go_quiet (fail)
      have Ry:Hid (Below w.heap.size w (wr.drewN nq)):=lF.out.trans ⟨rfl,rfl,rfl,ai _,fun _ _=>rfl⟩;generalize wr.drewN nq=w9 at*
      go_wp2
      go_ret2;exact⟨rfl,Ry.out⟩
     |some p=>
      have hf:KS (fE S.bB) x=some (.int .i64 (p:Nat)):=by unfold KS;rw[hmx];rfl
      rw[hf] at hmw;simp only[bY,fT] at hmw
      have hpN:p<N.length:=by rw[CY.out,<-HL.out];exact Gu hmx
      have HVI:Hid (Calls Tryz.prog 72 #[.pointer (some ⟨wb,0,none⟩),.int .i64 (p:Nat)] wr fun e w'=>e=.returned (.bool (fU N p s o).1)/\∃vo',tY w4 wb gN L gs L N vo' (fU N p s o).2.1 (fU N p s o).2.2 w'):=Pf (by have:=hwk;rw[<-CY.out] at this⊢;exact this) hfi hpN (by rw[CY.out];omega) (by have:=HNF.out.2 p;omega);have hvb:=Iu (o:=o) hfi hpN;have HVB:Hid ((fU N p s o).2.2.length+fG N (fU N p s o).2.1 0<=1000*30002+(k+1)*30001/\qX N [] (fU N p s o).2.1):=⟨by have:=HNF.out.2 p;have:=hvb.1;omega,hvb.2⟩
      have HDR:Hid (R=match wQ N (fE S.bB) (T.drop (k+1)) (fU N p s o).2.1 (fU N p s o).2.2 with
       |none=>.error true
       |some o=>.ok o):=by
       show _=_;rw[hrun,hdr,UU hmx]
      clear hvb hdr hwk hfi hrun hbd hbw e2 hct hgT hf hmx hx HJ;generalize fU N p s o=V at*;obtain⟨vb,vs,vo2⟩:=V;simp only at HVI HVB HDR
      go_wp2_with fail
      refine HVI.out.mono ?_;rintro e w6 ⟨rfl,vo3,abz⟩;have HW3:=aP abz;clear abz HVI
      go_wp2
      exact⟨⟨k+1,vo3,vs,vo2,by go_num,by omega,HW3.out,HVB.out.2,HDR.out,HVB.out.1⟩,by simp[intOf];omega⟩
    obtain rfl:k=TL:=by omega
    have hRe:R=.ok o:=by
     rw[hrun,yV (dx Ve.out)];rfl
    subst hRe;obtain⟨mY,YM,Ru,_,_⟩:=bq hwk.order
    have c2:wr.cell? ⟨wb,2,none⟩=some vo:=by rw[bZ hwk.row];rfl
    subst Ru;have HFIN:Hid (wr.ownsRow w.heap.size 3 1 (.slice mY o.length YM) o.length (lZ o)/\Below w.heap.size w wr):=⟨vZ hwk.order xu.out.1.size,hbw⟩;clear hwk hfi hrun hbd hbw HJ HWK
    go_wp2
    go_ret2;exact⟨⟨_,rfl,HFIN.out.1⟩,HFIN.out.2⟩
end
section
open Go.RowKit
def agZ(W0:Nat)(w:aj)(v:Value)(es:List dm)(cs:List ah):Prop:=∀w'',w.heap.size<=w''.heap.size->(∀k,W0<=k->k<w.heap.size->w''.heap[k]?=w.heap[k]?)->nZ w'' v es cs
variable {W0:Nat}{w:aj}{v:Value}{es:List dm}{cs:List ah}
theorem rU.stays{c:Nat->Nat}{ds:List jM}(h:rU W0 w c v ds es cs):agZ W0 w v es cs:=fun w'' hs hk=>by
 have hrow:=dL h.row (w':=w'') (fun k hq=>hk k (bA h.row k hq).1 (bA h.row k hq).2)
 have hc:=h.const w'' hs (fun k h1 h2=>hk k (by
  rcases bR k W0 with q|q
  ·have:=h.low k q;omega
  exact q) h1)
 obtain⟨ao,cap,rfl,hcap,hg⟩:=bq hrow;refine⟨ao,cap,rfl,?_⟩
 by_cases h0:es=[]
 ·exact aG h0
 obtain⟨g,rfl⟩:=hg (fZ.2 h0);refine aL ⟨g,0,rfl,fun k e y he hy=>?_⟩
 have hlt:k<ds.length:=by rw[hc.1];exact(aJ.1 he).1
 obtain⟨d,hd⟩:∃d,ds[k]?=some d:=⟨ds[k],by simp⟩;have hl:=hc.2 k d e hd he
 have cell:∀i u,i<6->(yD d y)[i]?=some u->w''.cell? ⟨g,k*6+i,none⟩=some u:=fun i u hi hu=>(dO hrow (k*6+i) u (by rw[oq ds cs k d y i hd hy hi];exact hu)).1
 rw[bW];refine⟨d.vo,d.vi,d.vm,d.vr,⟨cell 0 _ (by omega) rfl,cell 1 _ (by omega) rfl,cell 2 _ (by omega) rfl,cell 3 _ (by omega) rfl,?_,cell 5 _ (by omega) rfl⟩,hl.1,hl.2.1,hl.2.2.1,hl.2.2.2.1⟩;rw[<-hl.2.2.2.2];exact cell 4 _ (by omega) rfl
