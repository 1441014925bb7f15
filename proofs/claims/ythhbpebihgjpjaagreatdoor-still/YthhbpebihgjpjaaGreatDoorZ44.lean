import Derived.Test.YthhbpebihgjpjaaGreatDoorZ35
namespace Go.Proofs.YthhbpebihgjpjaaGreatDoor
set_option maxRecDepth 1000000
set_option maxHeartbeats 20000000
set_option linter.all false
section
open Go.RowKit Go.Maps
variable {W0 mb:Nat}{S:St}{cs:List ah}{w:ak}
theorem NG.bG(h:NG W0 S cs mb w):∃ev dv,w.heap[mb]?=some (.cells #[ev,dv] 101 (0,0))/\og w ev S.bG cs/\bL w dv S.defs/\cs.length=S.bG.length:=by
 obtain⟨ev,dv,ds,h1,hrow,hdl,hcl,hli,hd⟩:=h;refine⟨ev,dv,h1,?_,hd,hcl⟩;obtain⟨ao,cap,rfl,hcap,hg⟩:=bE hrow;refine⟨ao,cap,rfl,?_⟩
 by_cases h0:S.bG=[]
 ·exact aK h0
 obtain⟨g,rfl⟩:=hg (gD.2 h0);refine aP ⟨g,0,rfl,fun k e y he hy=>?_⟩
 have hlt:k<ds.length:=by rw[hdl];exact(aN.1 he).1
 obtain⟨d,hd⟩:∃d,ds[k]?=some d:=⟨ds[k],eB⟩;have hl:=hli k d e hd he
 have cell:∀i u,i<6->(yF d y)[i]?=some u->w.cell? ⟨g,k*6+i,none⟩=some u:=fun i u hi hu=>(dV hrow (k*6+i) u (by rw[ou ds cs k d y i hd hy hi];exact hu)).1
 rw[dh];refine⟨d.vo,d.vi,d.vm,d.vr,⟨cell 0 _ aJ rfl,cell 1 _ aJ rfl,cell 2 _ aJ rfl,cell 3 _ aJ rfl,?_,cell 5 _ aJ rfl⟩,hl.1,hl.2.1,hl.2.2.1,hl.2.2.2.1⟩;rw[<-hl.2.2.2.2];exact cell 4 _ aJ rfl
variable {w':ak}{v:Value}{es:List dA}
theorem og.later(h:og w v es cs)(hb:Below w.heap.size w w'):og w' v es cs:=by
 obtain⟨ao,cap,rfl,q|⟨g,o,rfl,q⟩⟩:=h
 ·exact⟨ao,cap,rfl,aK q⟩
 refine⟨_,cap,rfl,aP ⟨g,o,rfl,fun k e c he hc=>?_⟩⟩;obtain⟨vo,vi,vm,vr,⟨d0,d1,d2,d3,d4,d5⟩,UN,MF,tm',UQ⟩:=q k e c he hc
 have kc:∀(a:Addr) u,w.cell? a=some u->w'.cell? a=some u:=fun a u h=>(hb.cell (p:=a) (aG h)).trans h
 exact⟨vo,vi,vm,vr,⟨kc _ _ d0,kc _ _ d1,kc _ _ d2,kc _ _ d3,kc _ _ d4,kc _ _ d5⟩,UN.iy hb,MF.iy hb,tm'.iy hb,UQ.iy hb⟩
structure aa0(S:St):Prop where
 few:S.bG.length<=64
 edge:∀e∈S.bG,e.outs.length<=10000/\e.ins.length<=10000/\e.impl.length<=10000/\e.ord.length<=10000/\(∀x∈e.outs,x.size<=32)/\∀x∈eO e,x.size<=32
 once:(S.bG.flatMap (·.outs)).Nodup
 defs:S.defs.length<=20000000/\∀x∈S.defs,x.size<=32
variable {x:ah}{p:Nat}
theorem Gv(h:fK es x=some p):p<es.length:=by
 unfold fK at h;rw[XF] at h;exact h.1
theorem OG(es:List dA):(∀i,∀n∈(jh es).getD i [],n<(jh es).length):=by
 intro i n hn
 have hl:(jh es).length=es.length:=by unfold jh;simp
 rw[hl];unfold jh at hn;rw[dx,dS] at hn
 cases he:es[i]? with
 |none=>rw[he] at hn;simp at hn
 |some e=>
  rw[he] at hn;simp only[nD,dm] at hn;unfold Ih at hn;obtain⟨x,_,hx⟩:=jw.1 hn;exact Gv hx
theorem ZG(h:∀e∈es,e.ins.length<=10000/\e.impl.length<=10000/\e.ord.length<=10000)(i:Nat):((jh es).getD i []).length<=30000:=by
 unfold jh;rw[dx,dS]
 cases he:es[i]? with
 |none=>simp
 |some e=>
  simp only[nD,dm];have:=h e (aU he);refine aC (wZ _ _) ?_;unfold eO;rw[aI,aI];omega
theorem Mg{l:List ah}(h:bL w v l):∃ao cap,v=.slice ao l.length cap/\(0<l.length->∃b o,ao=some ⟨b,o,none⟩/\∀k s,l[k]?=some s->w.cell? ⟨b,o+k,none⟩=some (.string s)):=by
 obtain⟨ao,cap,rfl,_,⟨_,q,_⟩|⟨b,o,rfl,q⟩⟩:=h
 ·exact⟨ao,cap,rfl,fun hp=>by rw[q] at hp;simp at hp⟩
 exact⟨_,cap,rfl,fun _=>⟨b,o,rfl,q⟩⟩
def abT(a:Nat->Addr)(W0:Nat)(r:Except XG (List Nat))(e:Ending)(w':ak):Prop:=match r with
 |.error false=>e=.returned (.tuple #[.slice none 0 0,ja a 7])
 |.error true=>e=.returned (.tuple #[.slice none 0 0,ja a 8])
 |.ok o=>∃v,e=.returned (.tuple #[v,.nilIface])/\w'.ownsRow W0 3 1 v o.length (mq o)
variable {N:List (List Nat)}
theorem UX{mk:ah->Option Nat}{xs:List ah}{s o:List Nat}(h:mk x=some p):wT N mk (x::xs) s o=wT N mk xs (gy N p s o).2.1 (gy N p s o).2.2:=by
 rw[wT,h]
theorem SC:∀(es:List dA),(∀e∈es,e.outs.length<=10000)->(es.flatMap (·.outs)).length<=es.length*10000
 |[],_=>aS _
 |e::es,h=>by
  have ih:=SC es (fun x hx=>h x (aZ _ hx));have h1:=h e (aQ ..);rw[ng,aI,aY];omega
theorem vH.keep{gN:Nat}(h:vH w gN N)(hb:Below w.heap.size w w'):vH w' gN N:=fun i l hi=>by
 obtain⟨v,hc,hv⟩:=h i l hi;exact⟨v,(hb.cell (p:=⟨gN,i,none⟩) (aG hc)).trans hc,hv.keep (fun k hk=>hb.block k hk)⟩
theorem ZK{a:Nat->Addr}(h:NG W0 S cs mb w)(hg:Gl a w)(hS:aa0 S){vt:Value}{ts:List ah}(ht:bL w vt ts)(htl:ts.length<=1048576)(hts:∀x∈ts,x.size<=maxLen):
  Calls Tryz.prog 47 #[.pointer (some ⟨mb,0,none⟩),vt] w fun e w'=>abT a w.heap.size (wR S ts) e w'/\Below w.heap.size w w':=by
 obtain⟨ev,dv,adK,hrow,hdef,hcl⟩:=h.bG;obtain⟨RQ,CW,hev,_⟩:=id hrow;obtain⟨YE,EF,hdv,_⟩:=Mg hdef;obtain⟨aot,adt,hvt,_⟩:=Mg ht;subst hev hdv hvt
 have c0:w.cell? ⟨mb,0,none⟩=some (.slice RQ S.bG.length CW):=by rw[aj _ _ _ _ _ _ adK];rfl
 have SV:=bN adK;have akA:=aV adK;have CR:=aV (aO hrow hcl);have akh:=aV hdef;have HTS:=aV (aO ht (aO htl hts));have HG:=aV hg;have HS:=aV hS;have HMK:Hid (Calls Tryz.prog 67 #[.slice RQ S.bG.length CW] w fun e w'=>∃mb n,e=.returned (.map (some mb))/\eu Ky (.int .i64 0) w' mb n (KS (fK S.bG))/\w.heap.size<=mb/\n<=1000000/\Below w.heap.size w w'):=Qy hrow hS.few hcl (fun e he=>⟨(hS.edge e he).1,(hS.edge e he).2.2.2.2.1⟩) hS.once;obtain⟨R,hR⟩:∃R,R=wR S ts:=⟨_,rfl⟩;rw[<-hR];have HR:=aV hR;clear hR h hg hS ht htl hts adK hrow hdef hcl
 go_enter Tryz.func47,Tryz.ntmps47
 go_wp2_with fail
 refine HMK.out.mono ?_;rintro e w1 ⟨mb1,n1,rfl,abv,aiy,hn1,hb1⟩;have HB1:=aV hb1;have HMP:=aV abv;have d0:w1.cell? ⟨mb,0,none⟩=some (.slice RQ S.bG.length CW):=(hb1.cell (p:=⟨mb,0,none⟩) SV).trans c0;have HND:Hid (Calls Tryz.prog 68 #[.slice RQ S.bG.length CW,.map (some mb1)] w1 fun e w'=>∃gN,e=.returned (.slice (some ⟨gN,0,none⟩) S.bG.length S.bG.length)/\vH w' gN (jh S.bG)/\Below w1.heap.size w1 w'):=TK (CR.out.1.later hb1) abv HS.out.few CR.out.2 (fun e he=>⟨(HS.out.edge e he).2.1,(HS.out.edge e he).2.2.1,(HS.out.edge e he).2.2.2.1,(HS.out.edge e he).2.2.2.2.2⟩);clear abv aiy hn1 hb1 HMK c0
 go_wp2_with fail
 refine HND.out.mono ?_;rintro e w2 ⟨gN,rfl,hnd,hb2⟩
 have CZ:Hid ((jh S.bG).length=S.bG.length):=by show _=_;unfold jh;simp
 have HNF:Hid ((∀i,∀n∈(jh S.bG).getD i [],n<(jh S.bG).length)/\∀i,((jh S.bG).getD i []).length<=30000):=⟨OG S.bG,ZG (fun e he=>⟨(HS.out.edge e he).2.1,(HS.out.edge e he).2.2.1,(HS.out.edge e he).2.2.2.1⟩)⟩;have HB2:Hid (Below w.heap.size w w2/\Below w1.heap.size w1 w2):=⟨HB1.out.trans (hb2.mono HB1.out.size),hb2⟩;have HN2:=aV hnd;have HRU:=Ut (cN:=S.bG.length) hnd (by rw[CZ.out];have:=HS.out.few;omega) HNF.out.1 HNF.out.2;rw[CZ.out] at HRU;have HRU:=aV HRU;clear hnd hb2 HND d0;generalize hrb:zU (jh S.bG) (List.range S.bG.length) (jT S.bG.length) []=rb at*;have HRB:=aV hrb;clear hrb
 go_wp2_with fail
 refine HRU.out.mono ?_;rintro e w3 ⟨rfl,hb3⟩;have HB3:Hid (Below w.heap.size w w3/\Below w1.heap.size w1 w3/\Below w2.heap.size w2 w3):=⟨HB2.out.1.trans (hb3.mono HB2.out.1.size),HB2.out.2.trans (hb3.mono HB2.out.2.size),hb3⟩;have HG3:=aV (HG.out.below HB3.out.1 HG.out.size);have g7:w3.cell? ⟨7,0,none⟩=some (.iface 472 (.pointer (some (a 7)))):=HG3.out.errs 7 bS;clear hb3 HRU
 cases rb with
 |false=>
  have hRe:R=.error false:=by rw[HR.out];unfold wR;rw[HRB.out];rfl
  subst hRe;clear HR
  go_wp2
  go_quiet (fail)
  have xC:Hid (Below w.heap.size w (w3.drewN nq)):=HB3.out.1.trans ⟨rfl,rfl,rfl,ai _,fun _ _=>rfl⟩;generalize w3.drewN nq=w4 at*
  go_wp2
  go_ret2;exact⟨rfl,xC.out⟩
 |true=>
  have ant:mb<w3.heap.size:=aB SV HB3.out.1.size;have abu:w3.heap[mb]?=_:=(HB3.out.1.block mb SV).trans akA.out
  have m0:w3.cell? ⟨mb,0,none⟩=some (.slice RQ S.bG.length CW):=by rw[aj _ _ _ _ _ _ abu];rfl
  have m1:w3.cell? ⟨mb,1,none⟩=some (.slice YE S.defs.length EF):=by rw[aj _ _ _ _ _ _ abu];rfl
  have NC:Hid (∀T,T=wO S ts->R=match wT (jh S.bG) (fK S.bG) T (jT S.bG.length) [] with
   |none=>.error true
   |some o=>.ok o):=fun T hT=>by
   rw[HR.out,hT];unfold wR;rw[HRB.out];rfl
  have HLO:=aV (Qv (CR.out.1.later HB3.out.1) HS.out.few CR.out.2 HS.out.edge);clear abu HR HRB g7 HG3
  by_cases h0:ts.length=0
  case' neg=>
   have b0:(((ts.length:Nat):Int)==0)=false:=lD.2 aJ
   have hgo:ts=wO S ts:=by unfold wO;rw[aH (fun e=>h0 (by rw[e];rfl))]
   have HT4:Hid (bL w3 (.slice aot ts.length adt) ts/\ts.length<=20000000/\∀x∈ts,x.size<=maxLen):=⟨HTS.out.1.iy HB3.out.1,by have:=HTS.out.2.1;omega,HTS.out.2.2⟩;have HR4:=aV (NC.out ts hgo);clear HLO m0 m1 h0 hgo NC
   go_wp2_with fail
   obtain⟨T,hT⟩:∃T,T=ts:=⟨_,rfl⟩;obtain⟨aT,haT⟩:∃x,x=aot:=⟨_,rfl⟩;obtain⟨ahY,hcT⟩:∃x,x=adt:=⟨_,rfl⟩;obtain⟨w4,hw4⟩:∃x,x=w3:=⟨_,rfl⟩
   have xC:Hid (Below w.heap.size w w4/\Below w1.heap.size w1 w4/\Below w2.heap.size w2 w4):=by rw[hw4];exact HB3.out
   rw[<-hw4,<-hT,<-haT,<-hcT];rw[<-hw4,<-hT,<-haT,<-hcT] at HT4;rw[<-hT] at HR4;clear hw4 hT haT hcT b0 HB3
  case' pos=>
   have adO:ts=[]:=mM h0
   have b0:(((ts.length:Nat):Int)==0)=true:=by rw[h0];rfl
   by_cases h1:S.defs.length=0
   case' neg=>
    have b1:(((S.defs.length:Nat):Int)==0)=false:=lD.2 aJ
    have hgo:S.defs=wO S ts:=by unfold wO;rw[aA (fun e=>e adO),aH (fun e=>h1 (by rw[e];rfl))]
    have HT4:Hid (bL w3 (.slice YE S.defs.length EF) S.defs/\S.defs.length<=20000000/\∀x∈S.defs,x.size<=maxLen):=⟨akh.out.iy HB3.out.1,HS.out.defs.1,fun x hx=>by have:=HS.out.defs.2 x hx;unfold maxLen;omega⟩;have HR4:=aV (NC.out S.defs hgo);clear HLO m0 h1 hgo NC adO h0
    go_wp2_with fail
    obtain⟨T,hT⟩:∃T,T=S.defs:=⟨_,rfl⟩;obtain⟨aT,haT⟩:∃x,x=YE:=⟨_,rfl⟩;obtain⟨ahY,hcT⟩:∃x,x=EF:=⟨_,rfl⟩;obtain⟨w4,hw4⟩:∃x,x=w3:=⟨_,rfl⟩
    have xC:Hid (Below w.heap.size w w4/\Below w1.heap.size w1 w4/\Below w2.heap.size w2 w4):=by rw[hw4];exact HB3.out
    rw[<-hw4,<-hT,<-haT,<-hcT];rw[<-hw4,<-hT,<-haT,<-hcT] at HT4;rw[<-hT] at HR4;clear hw4 hT haT hcT b0 b1 m1 HB3
   case' pos=>
    have b1:(((S.defs.length:Nat):Int)==0)=true:=by rw[h1];rfl
    have hgo:yH S.bG=wO S ts:=by unfold wO;rw[aA (fun e=>e adO),aA (fun e=>e (mM h1))]
    have HR4:=aV (NC.out (yH S.bG) hgo)
    have CP:Hid ((yH S.bG).length<=20000000/\∀x∈yH S.bG,x.size<=maxLen):=by
     refine⟨aC (pK _ _) ?_,fun x hx=>?_⟩
     ·refine aC (SC S.bG (fun e he=>(HS.out.edge e he).1)) ?_;have:=HS.out.few;omega
     obtain⟨e,he,hxe⟩:=IK.1 (Mx.1 hx).1;have:=(HS.out.edge e he).2.2.2.2.1 x hxe;unfold maxLen;omega
    clear h1 hgo NC adO h0
    go_wp2_with fail
    refine HLO.out.mono ?_;rintro e w4 ⟨v4,rfl,hv4,hb4⟩;obtain⟨aT,ahY,hvT,_,_⟩:=bE hv4;have HT4:Hid (bL w4 v4 (yH S.bG)/\(yH S.bG).length<=20000000/\∀x∈yH S.bG,x.size<=maxLen):=⟨mZ hv4,CP.out⟩;have xC:Hid (Below w.heap.size w w4/\Below w1.heap.size w1 w4/\Below w2.heap.size w2 w4):=⟨HB3.out.1.trans (hb4.mono HB3.out.1.size),HB3.out.2.1.trans (hb4.mono HB3.out.2.1.size),HB3.out.2.2.trans (hb4.mono HB3.out.2.2.size)⟩;obtain⟨T,hT⟩:∃T,T=yH S.bG:=⟨_,rfl⟩;subst hvT;rw[<-hT] at HT4 HR4;rw[<-hT];clear hT hv4 hb4 HLO CP b0 b1 m0 m1 HB3
    go_wp2_with fail
  all_goals
   have Ev:=Ii (cN:=S.bG.length) (HN2.out.keep xC.out.2.2) (by rw[CZ.out];have:=HS.out.few;omega);have af4:=HS.out.few
   have HFZ:Hid (rq (jh S.bG) [] (jT S.bG.length)/\fO (jh S.bG) (jT S.bG.length) 0<=1000*30002):=by
    have h1:=Kk HNF.out.1;rw[CZ.out] at h1;have h2:=Ep (jh S.bG) HNF.out.2 (jT S.bG.length) 0;refine⟨h1,?_⟩;simp only[jT,List.length_replicate] at h2⊢;omega
   rw[CZ.out] at Ev;have Ev:=aV Ev;refine Ev.out.mono ?_;rintro e w5 ⟨wb,gs,rfl,hwk⟩;have HWK:=aV hwk;clear hwk Ev;generalize hTL:T.length=TL at*;have Vg:=aV hTL
   have t0:(TL:Int)<=20000000:=by have:=HT4.out.2.1;omega
   clear hTL;generalize hL:S.bG.length=L at*;have HL:=aV hL;clear hL;generalize hN:jh S.bG=N at*;clear hN
   go_wp2_with fail
   go_loopw [47] (fun i wr=>∃(k:Nat) (vo:Value) (s o:List Nat),i=.int .i64 k/\k<=TL/\ug w4 wb gN L gs L N vo s o wr/\rq N [] s/\(R=match wT N (fK S.bG) (T.drop k) s o with
    |none=>.error true
    |some o=>.ok o)/\o.length+fO N s 0<=1000*30002+k*30001) (fun i _=>TL-(intOf i).toNat)
   case atStart=>exact⟨0,_,_,[],rfl,aS _,HWK.out,HFZ.out.1,HR4.out,by have:=HFZ.out.2;simp only[dY];omega⟩
   case round=>
    clear HWK HFZ HR4;obtain⟨k,vo,s,o,rfl,hk,hwk,hfi,hrun,hbd⟩:=hrel;have HWK:=aV hwk
    have HJ:Hid (rq N [] s/\(R=match wT N (fK S.bG) (T.drop k) s o with
     |none=>.error true
     |some o=>.ok o)/\o.length+fO N s 0<=1000*30002+k*30001):=⟨hfi,hrun,hbd⟩
    have hbw:Below w.heap.size w wr:=xC.out.1.trans (hwk.bl.mono xC.out.1.size);have lJ:=aV hbw
    have k0:(0:Int)<=(k:Int):=aJ
    by_cases hlt:k<TL
    ·have k1:(k:Int)<(TL:Int):=aJ
     obtain⟨x,hx⟩:∃x,T[k]?=some x:=⟨T[k]'(by have:=Vg.out;omega),eB⟩;obtain⟨aT',am2,hvT,hgT⟩:=Mg (HT4.out.1.iy hwk.bl);injection hvT with e1 e2 e3;subst e1 e3;obtain⟨b,o3,hab,hct⟩:=hgT (by have:=Vg.out;omega);subst hab;have cx:wr.cell? ⟨b,o3+k,none⟩=some (.string x):=hct k x hx;have hxs:x.size<=maxLen:=HT4.out.2.2 x (aU hx);have hmw:=(HMP.out.keep (w':=wr) ((hwk.bl.block mb1 (aB HMP.out.lt xC.out.2.1.size)).trans (xC.out.2.1.block mb1 HMP.out.lt))).look_ok (t:=136) Tryz.underlying136 Vb x hxs
     have hdr:T.drop k=x::T.drop (k+1):=by
      rw[fG (aN.1 hx).1,(aN.1 hx).2]
     have g8:wr.cell? ⟨8,0,none⟩=some (.iface 472 (.pointer (some (a 8)))):=(HG.out.below hbw HG.out.size).errs 8 bS
     cases hmx:fK S.bG x with
     |none=>
      have hf:KS (fK S.bG) x=none:=by unfold KS;rw[hmx];rfl
      rw[hf] at hmw;simp only[jG,iU] at hmw
      have hRe:R=.error true:=by rw[hrun,hdr];unfold wT;rw[hmx]
      subst hRe;clear hwk hfi hrun hbd hbw e2 hct hgT hf hdr hmx hx HJ
      go_wp2
      go_quiet (fail)
      have RD:Hid (Below w.heap.size w (wr.drewN nq)):=lJ.out.trans ⟨rfl,rfl,rfl,ai _,fun _ _=>rfl⟩;generalize wr.drewN nq=w9 at*
      go_wp2
      go_ret2;exact⟨rfl,RD.out⟩
     |some p=>
      have hf:KS (fK S.bG) x=some (.int .i64 (p:Nat)):=by unfold KS;rw[hmx];rfl
      rw[hf] at hmw;simp only[dm,gu] at hmw
      have hpN:p<N.length:=by rw[CZ.out,<-HL.out];exact Gv hmx
      have HVI:Hid (Calls Tryz.prog 72 #[.pointer (some ⟨wb,0,none⟩),.int .i64 (p:Nat)] wr fun e w'=>e=.returned (.bool (gy N p s o).1)/\∃vo',ug w4 wb gN L gs L N vo' (gy N p s o).2.1 (gy N p s o).2.2 w'):=Ph (by have:=hwk;rw[<-CZ.out] at this⊢;exact this) hfi hpN (by rw[CZ.out];omega) (by have:=HNF.out.2 p;omega);have hvb:=Iw (o:=o) hfi hpN;have HVB:Hid ((gy N p s o).2.2.length+fO N (gy N p s o).2.1 0<=1000*30002+(k+1)*30001/\rq N [] (gy N p s o).2.1):=⟨by have:=HNF.out.2 p;have:=hvb.1;omega,hvb.2⟩
      have HDR:Hid (R=match wT N (fK S.bG) (T.drop (k+1)) (gy N p s o).2.1 (gy N p s o).2.2 with
       |none=>.error true
       |some o=>.ok o):=by
       show _=_;rw[hrun,hdr,UX hmx]
      clear hvb hdr hwk hfi hrun hbd hbw e2 hct hgT hf hmx hx HJ;generalize gy N p s o=V at*;obtain⟨vb,vs,vo2⟩:=V;simp only at HVI HVB HDR
      go_wp2_with fail
      refine HVI.out.mono ?_;rintro e w6 ⟨rfl,vo3,abB⟩;have HW3:=aV abB;clear abB HVI
      go_wp2
      exact⟨⟨k+1,vo3,vs,vo2,oW,aJ,HW3.out,HVB.out.2,HDR.out,HVB.out.1⟩,by simp[intOf];omega⟩
    obtain rfl:k=TL:=aJ
    have hRe:R=.ok o:=by
     rw[hrun,yY (dG Vg.out)];rfl
    subst hRe;obtain⟨nu,YN,Rx,_,_⟩:=bE hwk.order
    have c2:wr.cell? ⟨wb,2,none⟩=some vo:=by rw[aj _ _ _ _ _ _ hwk.row];rfl
    subst Rx;have HFIN:Hid (wr.ownsRow w.heap.size 3 1 (.slice nu o.length YN) o.length (mq o)/\Below w.heap.size w wr):=⟨wu hwk.order xC.out.1.size,hbw⟩;clear hwk hfi hrun hbd hbw HJ HWK
    go_wp2
    go_ret2;exact⟨⟨_,rfl,HFIN.out.1⟩,HFIN.out.2⟩
end
section
open Go.RowKit
def ag3(W0:Nat)(w:ak)(v:Value)(es:List dA)(cs:List ah):Prop:=∀w'',w.heap.size<=w''.heap.size->(∀k,W0<=k->k<w.heap.size->w''.heap[k]?=w.heap[k]?)->og w'' v es cs
variable {W0:Nat}{w:ak}{v:Value}{es:List dA}{cs:List ah}
theorem rX.stays{c:Nat->Nat}{ds:List jQ}(h:rX W0 w c v ds es cs):ag3 W0 w v es cs:=fun w'' hs hk=>by
 have hrow:=dR h.row (w':=w'') (fun k hq=>hk k (bF h.row k hq).1 (bF h.row k hq).2)
 have hc:=h.const w'' hs (fun k h1 h2=>hk k (by
  rcases bX k W0 with q|q
  ·have:=h.low k q;omega
  exact q) h1)
 obtain⟨ao,cap,rfl,hcap,hg⟩:=bE hrow;refine⟨ao,cap,rfl,?_⟩
 by_cases h0:es=[]
 ·exact aK h0
 obtain⟨g,rfl⟩:=hg (gD.2 h0);refine aP ⟨g,0,rfl,fun k e y he hy=>?_⟩
 have hlt:k<ds.length:=by rw[hc.1];exact(aN.1 he).1
 obtain⟨d,hd⟩:∃d,ds[k]?=some d:=⟨ds[k],eB⟩;have hl:=hc.2 k d e hd he
 have cell:∀i u,i<6->(yF d y)[i]?=some u->w''.cell? ⟨g,k*6+i,none⟩=some u:=fun i u hi hu=>(dV hrow (k*6+i) u (by rw[ou ds cs k d y i hd hy hi];exact hu)).1
 rw[dh];refine⟨d.vo,d.vi,d.vm,d.vr,⟨cell 0 _ aJ rfl,cell 1 _ aJ rfl,cell 2 _ aJ rfl,cell 3 _ aJ rfl,?_,cell 5 _ aJ rfl⟩,hl.1,hl.2.1,hl.2.2.1,hl.2.2.2.1⟩;rw[<-hl.2.2.2.2];exact cell 4 _ aJ rfl
end
end Go.Proofs.YthhbpebihgjpjaaGreatDoor
