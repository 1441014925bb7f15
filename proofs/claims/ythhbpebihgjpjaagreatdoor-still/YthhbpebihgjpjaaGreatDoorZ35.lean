import Derived.Test.YthhbpebihgjpjaaGreatDoorZ34
namespace Go.Proofs.YthhbpebihgjpjaaGreatDoor
set_option maxRecDepth 1000000
set_option maxHeartbeats 20000000
set_option linter.all false
section
open Go.RowKit Go.Maps
variable {S:St}{t:ah}
theorem UE{no:Nat}{rest:List dQ}{S':St}{rest':List dQ}(h:qZ S no t rest=.ok (S',rest'))(ht:t.size<=4000)(hS:∀e∈S.bG,e.rule.size<=4000):∀e∈S'.bG,e.rule.size<=4000:=by
 unfold qZ at h
 split at h
 ·cases h
 split at h
 ·unfold wz at h
  split at h
  ·cases h
  split at h
  ·cases h
  split at h
  ·cases h
  split at h
  ·cases h
  split at h
  ·cases h
  split at h
  ·cases h
  injection h with h;obtain⟨rfl,_⟩:=Prod.mk.inj h;exact hS
 split at h
 ·unfold kZ at h
  split at h
  ·cases h
  split at h
  ·cases h
  split at h
  ·cases h
  split at h
  ·cases h
  split at h
  ·cases h
  injection h with h;obtain⟨rfl,_⟩:=Prod.mk.inj h;intro e he
  rcases bQ.1 he with he|he
  ·exact hS e he
  obtain rfl:=bD.1 he;show(fE _).size<=4000
  have hw:∀u:ah,(fE u).size<=u.size:=fun u=>by rw[mh];exact kg _ _
  refine aC (hw _) (aC (kG _) ?_);rw[aM,aM];omega
 split at h
 ·unfold oq at h
  split at h
  ·cases h
  split at h
  ·cases h
  injection h with h;obtain⟨rfl,_⟩:=Prod.mk.inj h;exact hS
 unfold Nw at h
 split at h
 ·cases h
 split at h
 ·cases h
 injection h with h;obtain⟨rfl,_⟩:=Prod.mk.inj h;exact hS
def NG(W0:Nat)(S:St)(cs:List ah)(mb:Nat)(w:ak):Prop:=
 ∃ev dv ds,w.heap[mb]?=some (.cells #[ev,dv] 101 (0,0))/\w.ownsRow W0 63 6 ev S.bG.length (nJ ds cs)/\ds.length=S.bG.length/\cs.length=S.bG.length/\(∀(k:Nat) d e,ds[k]?=some d->S.bG[k]?=some e->bL w d.vo e.outs/\bL w d.vi e.ins/\bL w d.vm e.impl/\bL w d.vr e.ord/\d.rule=e.rule)/\bL w dv S.defs
def MP(W0:Nat)(S:St)(cs:List ah)(mb:Nat)(w:ak):Prop:=∀w'',w.heap.size<=w''.heap.size->(∀k,W0<=k->k<w.heap.size->w''.heap[k]?=w.heap[k]?)->NG W0 S cs mb w''
variable {W0 mb:Nat}{cs:List ah}{w:ak}
theorem MP.now(h:MP W0 S cs mb w):NG W0 S cs mb w:=h w (ai _) (fun _ _ _=>rfl)
variable {w':ak}
theorem MP.below(h:MP W0 S cs mb w)(hb:Below w.heap.size w w'):MP W0 S cs mb w':=fun w'' hs hk=>h w'' (aC hb.size hs) (fun k h1 h2=>(hk k h1 (aB h2 hb.size)).trans (hb.block k h2))
def WI(a:Nat->Addr)(W0:Nat)(r:Except (FO×Nat) (St×List ah))(e:Ending)(w':ak):Prop:=match r with
 |.error bk=>∃fb,e=.returned (.tuple #[.pointer none,.iface 129 (.pointer (some ⟨fb,0,none⟩))])/\w'.cell? ⟨fb,0,none⟩=some (.int .i64 (bk.2:Nat))/\w'.cell? ⟨fb,1,none⟩=some (ja a (BG bk.1))
 |.ok Sc=>∃mb,e=.returned (.tuple #[.pointer (some ⟨mb,0,none⟩),.nilIface])/\MP W0 Sc.1 Sc.2 mb w'/\SOk Sc.1 0 []
def JI:Prop:=∀(p:PV) (a:Nat->Addr) (B:Nat) (w:ak) (rb:Nat) (n:Int) (x:dQ) (rest:List dQ) (S:St) (m:Nat),iF p a B w rb n (x::rest) S (m+1)->Calls Tryz.prog 114 #[.pointer (some ⟨rb,0,none⟩)] w (iQ a B rb m w (qZ S x.1 x.2 rest))
theorem abW(t:ah)(ht:t.size<=4000):jZ t=match zB St.none (Cb t) with
  |.error e=>.error e
  |.ok S=>match jl S S.bG with
    |.none=>.error (.syn,0)
    |some cs=>.ok (S,cs):=by
 unfold jZ zB;rw[aA aJ];rfl
variable {b:Nat}
theorem yc{a:Nat->Addr}{w1 w8:ak}{bk:FO×Nat}{T:Array Value}(hT2:T[2]?=some (.pointer none))(hT3:T[3]?=some (.pointer (some ⟨w.heap.size,0,none⟩)))(hWS:Below w.heap.size w w1)(hRZ:w1.heap.size=w.heap.size+1)(hRN:w1.heap[w.heap.size]?=some (.cells #[.nilIface] 70 (0,0)))(hB8:Below w1.heap.size w1 w8)(s0:w8.cell? ⟨b,0,none⟩=some (.int .i64 (bk.2:Nat)))(s1:w8.cell? ⟨b,1,none⟩=some (ja a (BG bk.1)))(hF:jZ t=.error bk):
  bodyPostD Tryz.prog Tryz.f66 (fun e w'=>WI a w.heap.size (jZ t) e w'/\Below w.heap.size w w') (Exit.panic [{v:=.iface 129 (.pointer (some ⟨b,0,none⟩)),recovered:=false}]) {tmps:=T,defers:=[{target:=Target.fn (Fn.func 110) #[.pointer (some ⟨w.heap.size,0,none⟩)],args:=#[]}]} w8:=by
 have Px:=aV hWS;have Ms:=aV hRZ;have II:=aV hRN;have HB8:=aV hB8;have hrz:=Ms.out;have HE8:w8.heap[w.heap.size]?=some (.cells #[.nilIface] 70 (0,0)):=(HB8.out.block _ aJ).trans II.out
 have hce:w8.cell? ⟨w.heap.size,0,none⟩=some .nilIface:=by rw[aj _ _ _ _ _ _ HE8];rfl
 have hne:b≠w.heap.size:=fun e=>by rw[e,hce] at s0;cases s0
 have q0:(w8.setCell ⟨w.heap.size,0,none⟩ (.iface 129 (.pointer (some ⟨b,0,none⟩)))).cell? ⟨b,0,none⟩=_:=(aF (w:=w8) (a:=⟨b,0,none⟩) (au _ _ _ _ hne)).trans s0;have q1:(w8.setCell ⟨w.heap.size,0,none⟩ (.iface 129 (.pointer (some ⟨b,0,none⟩)))).cell? ⟨b,1,none⟩=_:=(aF (w:=w8) (a:=⟨b,1,none⟩) (au _ _ _ _ hne)).trans s1
 have qe:(w8.setCell ⟨w.heap.size,0,none⟩ (.iface 129 (.pointer (some ⟨b,0,none⟩)))).cell? ⟨w.heap.size,0,none⟩=some (.iface 129 (.pointer (some ⟨b,0,none⟩))):=by
  rw[aj _ _ _ _ _ _ (aR _ _ _ _ _ _ HE8)];rfl
 have HBF:Hid (Below w.heap.size w (w8.setCell ⟨w.heap.size,0,none⟩ (.iface 129 (.pointer (some ⟨b,0,none⟩))))):=(Px.out.trans (HB8.out.mono Px.out.size)).setCell (p:=⟨w.heap.size,0,none⟩) (ai _) _;refine fA (f:=110) (args:=#[.pointer (some ⟨w.heap.size,0,none⟩)]) eB FE ?_;refine(IU ⟨w.heap.size,0,none⟩ b .nilIface w8 hce (aD _ _ _ _ _ HE8)).mono ?_;rintro e u' w9 ⟨rfl,rfl,rfl⟩
 simp[Leaves,settle,results,Tryz.results66,go_sem,qe,hT2,hT3]
 rw[hF];exact⟨⟨b,rfl,q0,q1⟩,HBF.out⟩
theorem wJ:∀{es:List dA} {cs:List ah},jl S es=some cs->cs.length=es.length
 |[],cs,h=>by rw[jl] at h;obtain rfl:=ax h;rfl
 |e::es,cs,h=>by
  rw[jl] at h
  split at h
  ·cases h
  obtain⟨cs',h1,rfl⟩:=bA.1 h;rw[aY,aY,wJ h1]
theorem GI(hSD:JI)(t:ah)(a:Nat->Addr)(w:ak)(hg:Gl a w)(ht:t.size<=140737488351232):
  Calls Tryz.prog 66 #[.string t] w fun e w'=>WI a w.heap.size (jZ t) e w'/\Below w.heap.size w w':=by
 have hmf:∀(fn:Fn) (first cap:Array Value) (w:ak),(Instr.makeFunc fn first cap).run Tryz.prog w=.ok (.func fn first cap) w:=fun _ _ _ _=>rfl
 have hmm:= @run_makeMap Tryz.prog;have HG:=aV hg;have HSD:Hid JI:=hSD;have Px:Hid (Below w.heap.size w (w.alloc (.cells #[.nilIface] 70))):=(ay _ _).alloc (ai _) _;have II:Hid ((w.alloc (.cells #[.nilIface] 70)).heap[w.heap.size]?=some (.cells #[.nilIface] 70 (0,0))):=bq _ _ _ rfl
 have Ms:Hid ((w.alloc (.cells #[.nilIface] 70)).heap.size=w.heap.size+1):=by show _=_;simp
 have HG1:Hid (Gl a (w.alloc (.cells #[.nilIface] 70))):=hg.keep eB (fun k hk=>bC _ _ k (aB hk hg.size));clear hSD hg
 go_enter_defers Tryz.func66,Tryz.ntmps66
 go_wp2_with fail
 obtain⟨w1,hw1⟩:∃w1,w1=w.alloc (.cells #[.nilIface] 70):=⟨_,rfl⟩;rw[<-hw1] at Px II Ms HG1;rw[<-hw1];clear hw1;refine(AA (.pointer none) ⟨_,rfl⟩ w1).mono ?_;rintro e w2 ⟨sb,tb,rfl,hs2,hm2,ht2,ht3,hb2⟩;have HS2:=aV (aO hs2 (aO hm2 (aO ht2 (aO ht3 hb2))));obtain⟨w3,hw3⟩:∃w3,w3=((w2.alloc (.map #[] 0)).alloc (.map #[] 0)).alloc (.cells #[.int .i64 0,.slice none 0 0,.pointer (some ⟨sb,0,none⟩),.map (some w2.heap.size),.map (some (w2.heap.size+1)),.slice none 0 0,.slice none 0 0] 201):=⟨_,rfl⟩
 have HB3:Hid (Below w2.heap.size w2 w3):=by rw[hw3];exact(((ay _ _).alloc (ai _) _).alloc eB _).alloc (by simp;omega) _
 have HR3:Hid (w3.heap[w2.heap.size+2]?=some (.cells #[.int .i64 0,.slice none 0 0,.pointer (some ⟨sb,0,none⟩),.map (some w2.heap.size),.map (some (w2.heap.size+1)),.slice none 0 0,.slice none 0 0] 201 (0,0))):=by rw[hw3];exact bq _ _ _ eB
 have HW3:=aV hw3;have Ym:=aV (hb2.trans (HB3.out.mono hb2.size));have HG3:=aV (HG1.out.below Ym.out HG1.out.size);have c34:w3.cell? ⟨4,0,none⟩=some (.iface 472 (.pointer (some (a 4)))):=HG3.out.errs 4 bS
 have c30:w3.cell? ⟨w2.heap.size+2,0,none⟩=some (.int .i64 0):=by rw[aj _ _ _ _ _ _ HR3.out];rfl
 clear hs2 hm2 ht2 ht3 hb2
 by_cases h4:t.size<=4000
 ·have HPI:=aV (abW t h4);have HSK:=aef t;have HSK:Hid ((Cb t).length<=4001/\∀x∈Cb t,x.2.size<=4000):=⟨aJ,fun x hx=>by have:=HSK.2 x hx;omega⟩;have HLN:=TB t aJ a w3 HG3.out
  have t4:(t.size:Int)<=4000:=aJ
  clear h4;generalize Cb t=LS at*;rw[hw3] at c34
  go_wp2_with fail
  rw[<-hw3];refine(gL _ _ _).mono ?_;rintro e w3' ⟨rfl,hw⟩;rw[hw];clear hw c34 hw3;obtain⟨rb,hrb⟩:∃rb,rb=w2.heap.size+1+1:=⟨_,rfl⟩;rw[<-hrb];have HRB:=aV hrb
  have c31:w3.cell? ⟨rb,1,none⟩=some (.slice none 0 0):=by rw[hrb,aj _ _ _ _ _ _ HR3.out];rfl
  have hrw:rb<w3.heap.size:=by rw[hrb];exact bN HR3.out
  have HRW:Hid (w3.heap[rb]?=some (.cells #[.int .i64 0,.slice none 0 0,.pointer (some ⟨sb,0,none⟩),.map (some w2.heap.size),.map (some (w2.heap.size+1)),.slice none 0 0,.slice none 0 0] 201 (0,0))):=by rw[hrb];exact HR3.out
  clear hrb c30
  go_wp2_with fail
  refine HLN.mono ?_;rintro e w4 ⟨v4,rfl,hl4,hb4⟩;obtain⟨ao4,cap4,rfl,_,_⟩:=bE hl4;have HST:=UB (B:=w1.heap.size) (w:=w1) HG1.out (by have h1:=HG.out.size;have h2:=Ms.out;omega) (ai _) HS2.out.1 HS2.out.2.1 ⟨HS2.out.2.2.1,HS2.out.2.2.2.1⟩ HS2.out.2.2.2.2 (by rw[<-HW3.out];exact hl4) (by rw[<-HW3.out];exact hb4) HSK.out.2 (by have:=HSK.out.1;omega);rw[<-HRB.out] at HST;have aaQ:=aV HST;have c41:w4.cell? ⟨rb,1,none⟩=some (.slice none 0 0):=(hb4.cell (p:=⟨rb,1,none⟩) hrw).trans c31;have f41:w4.frozen? ⟨rb,1,none⟩=false:=aD _ _ _ _ _ ((hb4.block _ hrw).trans HRW.out)
  have HRL:Hid (w1.heap.size<=rb):=by have h1:=HRB.out;have h2:=HS2.out.2.2.2.2.size;show _<=_;omega
  have xC:Hid (Below w1.heap.size w1 (w4.setCell ⟨rb,1,none⟩ (.slice ao4 LS.length cap4))):=(Ym.out.trans (hb4.mono Ym.out.size)).setCell (p:=⟨rb,1,none⟩) HRL.out _;clear hl4 hb4 HST c31 HLN HRW hrw HW3 HR3 HB3 HS2 HG3 Ym
  go_wp2_with fail
  generalize w4.setCell ⟨rb,1,none⟩ (.slice ao4 LS.length cap4)=w5 at*;clear c41 f41
  go_loopw [] (fun wr=>∃(p:PV) (n:Int) (S:St) (ls:List dQ) (m:Nat),iF p a w1.heap.size wr rb n ls S m/\ls.length<=m/\zB S ls=zB St.none LS/\(∀e∈S.bG,e.rule.size<=4000)/\Below w1.heap.size w1 wr) (fun wr=>Ie (wr.cell? ⟨rb,1,none⟩))
  case atStart=>
   obtain⟨p,hp⟩:=aaQ.out;exact⟨p,_,_,_,5000,hp,by have:=HSK.out.1;omega,rfl,(fun e he=>by cases he),xC.out⟩
  case round=>
   obtain⟨p,n,S,ls,m,hp,hlm,hrun,hru,hbl⟩:=hrel;have HP:=aV hp;have aaP:=aV hrun;have HRU:=aV hru;have tF:=aV hbl;obtain⟨aol,aa8,hvl,_,_⟩:=hp.const.now.1
   have c1:wr.cell? ⟨rb,1,none⟩=some (.slice aol ls.length aa8):=by rw[aj _ _ _ _ _ _ hp.row];exact ig some hvl
   clear hp hrun hru hbl hvl
   cases ls with
   |cons x rest=>
    obtain⟨m',rfl⟩:∃m',m=m'+1:=⟨m-1,by rw[aY] at hlm;omega⟩
    have RF:Hid (Ie (wr.cell? ⟨rb,1,none⟩)=rest.length+1):=by rw[c1];rfl
    have wX:=HSD.out p a w1.heap.size wr rb n x rest S m' HP.out
    have l0:(0:Int)<((x::rest).length:Int):=by rw[aY];omega
    have apy:rest.length<=m':=by rw[aY] at hlm;omega
    generalize (x::rest).length=LL at*
    go_wp2_with fail
    refine wX.mono ?_;intro e w8 hend;have Bt:=(Us S x rest).symm.trans aaP.out
    cases hss:qZ S x.1 x.2 rest with
    |error bk=>
     rw[hss] at hend Bt;obtain⟨⟨b,rfl,s0,s1⟩,mH⟩:=hend;exact yc (bk:=bk) rfl rfl Px.out Ms.out II.out (tF.out.trans mH) s0 s1 (by rw[HPI.out,<-Bt])
    |ok Sr=>
     rw[hss] at hend Bt;obtain⟨rfl,⟨p',n',hp'⟩,mH⟩:=hend;have hr:=En (S':=Sr.1) (rest':=Sr.2) hss;have Ew:Hid (∃(p:PV) (n:Int) (S:St) (ls:List dQ) (m:Nat),iF p a w1.heap.size w8 rb n ls S m/\ls.length<=m/\zB S ls=zB St.none LS/\(∀e∈S.bG,e.rule.size<=4000)/\Below w1.heap.size w1 w8):=⟨p',n',Sr.1,Sr.2,m',hp',aJ,Bt,UE (S':=Sr.1) (rest':=Sr.2) hss (HP.out.ok.lines x aQ) HRU.out,tF.out.trans mH⟩
     have aky:Hid (Ie (w8.cell? ⟨rb,1,none⟩)=Sr.2.length):=by
      show _=_;obtain⟨ao,cap,hv,_,_⟩:=hp'.const.now.1;rw[aj _ _ _ _ _ _ hp'.row];show Ie (some p'.vl)=_;rw[hv];rfl
     clear hp' mH hss Bt wX
     go_wp2_with fail
     refine⟨Ew.out,?_⟩;rw[aky.out,RF.out];omega
   |nil=>
    have HOK:Hid (jZ t=match jl S S.bG with
     |.none=>.error (.syn,0)
     |some cs=>.ok (S,cs)):=by
     rw[HPI.out,<-aaP.out,Xk];rfl
    simp only[dY] at c1;have c0:=HP.out.Ji;have f0:wr.frozen? ⟨rb,0,none⟩=false:=aD _ _ _ _ _ HP.out.row
    have HP0:Hid (PStB p a w1.heap.size (wr.setCell ⟨rb,0,none⟩ (.int .i64 0)) rb (0:Nat) [] S m):=by
     refine PStB.turn (p':=p) (FI:=p.vl) HP.out.toPStB ⟨rfl,rfl,rfl,eB,fun k hk hn=>au _ _ _ _ (fun e=>hn (by rw[e]))⟩ rfl ?_ (fun _ h=>h) HP.out.ok;show(wr.setCell ⟨rb,0,none⟩ (.int .i64 0)).heap[rb]?=_;rw[aR _ _ _ _ _ _ HP.out.row];rfl
    have HB0:Hid (Below w1.heap.size w1 (wr.setCell ⟨rb,0,none⟩ (.int .i64 0))):=tF.out.setCell (p:=⟨rb,0,none⟩) HRL.out _;have HSO:Hid (SOk S 0 []):=(HP.out.fewer (aS _)).ok;have ahJ:=HRU.out;clear hlm HP aaP tF
    go_wp2_with fail
    generalize wr.setCell ⟨rb,0,none⟩ (.int .i64 0)=w5 at*;clear c0 f0 c1;obtain⟨aof,Ao,hvf,_,_⟩:=bE HP0.out.defs
    have c6:w5.cell? ⟨rb,6,none⟩=some (.slice aof S.defs.length Ao):=by rw[aj _ _ _ _ _ _ HP0.out.row];exact ig some hvf
    have Yw:=aV hvf;have Bc:=Qn (HP0.out.below (ay w5.heap.size w5).drew) ahJ
    have c6a:∀wx,Below w5.heap.size w5.drew wx->wx.cell? ⟨rb,6,none⟩=some (.slice aof S.defs.length Ao):=fun wx hb=>(hb.cell (p:=⟨rb,6,none⟩) (show rb<w5.heap.size from HP0.out.ql)).trans c6
    have HC6:=aV ((c6a));clear hvf c6a ahJ;generalize S.defs.length=DL at*
    cases hcm:jl S S.bG with
    |none=>
     have HF:Hid (jZ t=.error (.syn,0)):=by rw[HOK.out,hcm];rfl
     rw[hcm] at Bc;refine jX dD ?_;change wpAny _ _ _ _ _ _ _ (World.drew _)
     all_goals first
      | (replace m0:=m0;refine pA 1 2 rfl rfl (fun K hK=>?_) fun K hK=>?_)
      | (refine pA 0 2 rfl rfl (fun K hK=>?a2) fun K hK=>?b2
         case' a2=>go_simp;refine hK _ _ ?_;clear hK K;have m0:=True.intro;refine pA 1 2 rfl rfl (fun K hK=>?_) fun K hK=>?_)
     all_goals
      go_simp
      first
       | (refine hK _ _ ?_;clear hK K)
       | (refine Bc.mono ?_;rintro e w8 ⟨⟨b,rfl,s0,s1⟩,mH⟩;exact yc (bk:=(.syn,0)) rfl rfl Px.out Ms.out II.out (HB0.out.drew.trans (mH.mono HB0.out.size)) s0 s1 HF.out)
     all_goals first
      | (replace m0:=m0;refine pA 1 3 rfl rfl (fun K hK=>?_) fun K hK=>?_)
      | (refine pA 0 3 rfl rfl (fun K hK=>?a3) fun K hK=>?b3
         case' a3=>go_simp;refine hK _ _ ?_;clear hK K;have m0:=True.intro;refine pA 1 3 rfl rfl (fun K hK=>?_) fun K hK=>?_)
     all_goals
      go_simp
      first
       | (refine hK _ _ ?_;clear hK K)
       | (refine Bc.mono ?_;rintro e w8 ⟨⟨b,rfl,s0,s1⟩,mH⟩;exact yc (bk:=(.syn,0)) rfl rfl Px.out Ms.out II.out (HB0.out.drew.trans (mH.mono HB0.out.size)) s0 s1 HF.out)
     all_goals first
      | (replace m0:=m0;refine pA 1 4 rfl rfl (fun K hK=>?_) fun K hK=>?_)
      | (refine pA 0 4 rfl rfl (fun K hK=>?a4) fun K hK=>?b4
         case' a4=>go_simp;refine hK _ _ ?_;clear hK K;have m0:=True.intro;refine pA 1 4 rfl rfl (fun K hK=>?_) fun K hK=>?_)
     all_goals
      go_simp
      first
       | (refine hK _ _ ?_;clear hK K)
       | (refine Bc.mono ?_;rintro e w8 ⟨⟨b,rfl,s0,s1⟩,mH⟩;exact yc (bk:=(.syn,0)) rfl rfl Px.out Ms.out II.out (HB0.out.drew.trans (mH.mono HB0.out.size)) s0 s1 HF.out)
     all_goals first
      | (replace m0:=m0;refine pA 1 5 rfl rfl (fun K hK=>?_) fun K hK=>?_)
      | (refine pA 0 5 rfl rfl (fun K hK=>?a5) fun K hK=>?b5
         case' a5=>go_simp;refine hK _ _ ?_;clear hK K;have m0:=True.intro;refine pA 1 5 rfl rfl (fun K hK=>?_) fun K hK=>?_)
     all_goals
      go_simp
      first
       | (refine hK _ _ ?_;clear hK K)
       | (refine Bc.mono ?_;rintro e w8 ⟨⟨b,rfl,s0,s1⟩,mH⟩;exact yc (bk:=(.syn,0)) rfl rfl Px.out Ms.out II.out (HB0.out.drew.trans (mH.mono HB0.out.size)) s0 s1 HF.out)
     all_goals first
      |replace m0:=m0
      | (refine rA 0 rfl fun K hK=>?_;go_simp;refine hK _ _ ?_;clear hK K)
     all_goals
      refine rA 1 rfl fun K hK=>?_
      go_simp;refine Bc.mono ?_;rintro e w8 ⟨⟨b,rfl,s0,s1⟩,mH⟩;exact yc (bk:=(.syn,0)) rfl rfl Px.out Ms.out II.out (HB0.out.drew.trans (mH.mono HB0.out.size)) s0 s1 HF.out
    |some cs=>
     have HF:Hid (jZ t=.ok (S,cs)):=by rw[HOK.out,hcm];rfl
     have HCL:=aV (wJ hcm);rw[hcm] at Bc;refine wp_region_noPanic ?_;refine jX dD ?_;change wpAny _ _ _ _ _ _ _ (World.drew _);refine uA 0 (.pointer (some ⟨rb,0,none⟩)) rfl<|uA 2 (.pointer (some ⟨rb,0,none⟩)) rfl<|uA 3 (.pointer (some ⟨rb,0,none⟩)) rfl<|uA 4 (.pointer (some ⟨rb,6,none⟩)) rfl ?_
     refine pA 1 5 rfl rfl (fun K hK=>?pA) fun K hK=>?pB
     case' pA=>
      go_simp;refine Bc.mono ?_;rintro e w6 ⟨⟨ev,rfl,hev⟩,hb6⟩;obtain⟨RQ,CW,rfl,_,_⟩:=bE hev;have d6:w6.cell? ⟨rb,6,none⟩=some (.slice aof DL Ao):=HC6.out w6 hb6;have HEV:Hid (w6.ownsRow w5.heap.size 63 6 (.slice RQ S.bG.length CW) S.bG.length (nJ p.ds cs)/\Below w5.heap.size w5.drew w6):=⟨(hev),hb6⟩;clear hev hb6;refine hK _ _ ?_;clear hK K
      refine rA 5 rfl fun K hK=>?_
      go_simp
     case' pB=>
      go_simp;refine hK _ _ ?_;clear hK K
      refine rA 1 rfl fun K hK=>?_
      go_simp;refine Bc.mono ?_;rintro e w6 ⟨⟨ev,rfl,hev⟩,hb6⟩;obtain⟨RQ,CW,rfl,_,_⟩:=bE hev;have d6:w6.cell? ⟨rb,6,none⟩=some (.slice aof DL Ao):=HC6.out w6 hb6;have HEV:Hid (w6.ownsRow w5.heap.size 63 6 (.slice RQ S.bG.length CW) S.bG.length (nJ p.ds cs)/\Below w5.heap.size w5.drew w6):=⟨(hev),hb6⟩;clear hev hb6
     all_goals
      refine hK _ _ ?_;clear hK K
      refine rA 6 rfl fun K hK=>?_
      go_simp;refine hK _ _ ?_;clear hK K
      refine rA 7 rfl fun K hK=>?_
      go_simp;refine hK _ _ ?_;clear hK K;obtain⟨wa,Vi⟩:∃wa,wa=w6.alloc (.cells #[.slice RQ S.bG.length CW,.slice aof DL Ao] 101):=⟨_,rfl⟩
      have XC:Hid (wa.heap[w6.heap.size]?=some (.cells #[.slice RQ S.bG.length CW,.slice aof DL Ao] 101 (0,0))):=by rw[Vi];exact bq _ _ _ rfl
      have CY:Hid (Below w6.heap.size w6 wa):=by rw[Vi];exact(ay _ _).alloc (ai _) _
      rw[<-Vi];clear Vi d6;have acQ:Hid (Below w5.heap.size w5 wa):=((ay _ _).drew.trans HEV.out.2).trans (CY.out.mono HEV.out.2.size);have ae6:=aV (HB0.out.trans (acQ.out.mono HB0.out.size));have HEa:Hid (wa.heap[w.heap.size]?=some (.cells #[.nilIface] 70 (0,0))):=(ae6.out.block _ (by have:=Ms.out;omega)).trans II.out
      have z0:wa.cell? ⟨w.heap.size,0,none⟩=some .nilIface:=by rw[aj _ _ _ _ _ _ HEa.out];rfl
      have zf:wa.frozen? ⟨w.heap.size,0,none⟩=false:=aD _ _ _ _ _ HEa.out
      refine rA 8 rfl fun K hK=>?_
      go_simp;refine hK _ _ ?_;clear hK K
      refine rA 9 rfl fun K hK=>?_
      go_simp;refine hK _ _ ?_;clear hK K;refine yR dD (NoPanic.normal ?_) _
      have hsame:∀k,(wa.setCell ⟨w.heap.size,0,none⟩ .nilIface).heap[k]?=wa.heap[k]?:=fun k=>by
       by_cases hk:k=w.heap.size
       ·rw[hk,aR _ _ _ _ _ _ HEa.out,HEa.out];rfl
       exact au _ _ _ _ hk
      have HFIN:Hid (MP w.heap.size S cs w6.heap.size (wa.setCell ⟨w.heap.size,0,none⟩ .nilIface)/\Below w.heap.size w (wa.setCell ⟨w.heap.size,0,none⟩ .nilIface)):=by
       refine⟨?_,(Px.out.trans (ae6.out.mono Px.out.size)).setCell (p:=⟨w.heap.size,0,none⟩) (ai _) _⟩;intro w'' hs hk
       have hs':wa.heap.size<=w''.heap.size:=by simpa using hs
       have hka:∀k,w.heap.size<=k->k<wa.heap.size->w''.heap[k]?=wa.heap[k]?:=fun k h1 h2=>(hk k h1 (by simpa using h2)).trans (hsame k)
       have hz:=Ms.out;have s0:=HB0.out.size;have s5:=acQ.out.size;have sA:=CY.out.size;have s6:w5.heap.size<=w6.heap.size:=HEV.out.2.size
       have h5:∀k,w.heap.size<=k->k<w5.heap.size->w''.heap[k]?=w5.heap[k]?:=fun k h1 h2=>(hka k h1 aJ).trans (acQ.out.block k h2)
       have hdr:=HP0.out.const.now.2.2
       have hd2:=(HP0.out.const w'' aJ (fun k h1 h2=>h5 k (by
        rcases bX k w.heap.size with q|q
        ·have:=HP0.out.low k aJ;omega
        exact q) h1)).2.2
       have hmb:=bN XC.out;refine⟨_,_,p.ds,(hka _ aJ hmb).trans XC.out,?_,hdr.1,HCL.out,fun k d e h1 h2=>⟨(hd2.2 k d e h1 h2).outs,(hd2.2 k d e h1 h2).ins,(hd2.2 k d e h1 h2).impl,(hd2.2 k d e h1 h2).ord,(hd2.2 k d e h1 h2).rule⟩,?_⟩
       ·refine wu (dR HEV.out.1 (fun k hk=>(hka k (by have:=(bF HEV.out.1 k hk).1;omega) (by have:=(bF HEV.out.1 k hk).2;omega)).trans (CY.out.block k (bF HEV.out.1 k hk).2))) ?_;have h1:=HB0.out.size;have h2:=Ms.out;omega
       have h3:=HP0.out.defs;rw[Yw.out] at h3;exact zW (dR h3 (fun k hk=>h5 k (by have:=(bF h3 k hk).1;omega) (bF h3 k hk).2))
      have ze:(wa.setCell ⟨w.heap.size,0,none⟩ .nilIface).cell? ⟨w.heap.size,0,none⟩=some .nilIface:=(aF (w:=wa) (a:=⟨w.heap.size,0,none⟩) (hsame _)).trans z0;clear z0 zf hsame XC CY HEa ae6 acQ;generalize wa.setCell ⟨w.heap.size,0,none⟩ .nilIface=wf at*
      go_wp2_with fail
      refine fA (f:=110) (args:=#[.pointer (some ⟨w.heap.size,0,none⟩)]) eB FE ?_;refine(VH ⟨w.heap.size,0,none⟩ _).mono ?_;rintro e u' w9 ⟨rfl,rfl,rfl⟩
      simp[Leaves,settle,results,Tryz.results66,go_sem,ze]
      rw[HF.out];exact⟨⟨_,rfl,HFIN.out.1,HSO.out⟩,HFIN.out.2⟩
 have t4:¬(t.size:Int)<=4000:=aJ
 have HF:Hid (jZ t=.error (.syn,0)):=by show _=_;unfold jZ;rw[aH aJ]
 have t5:decide ((t.size:Int)<=4000)=false:=bM t4;have uT:=pz (w2.heap.size+2) 0 472 (.pointer (some (a 4))) w3 c30;rw[hw3] at c34
 go_wp2_with fail
 rw[<-hw3];refine uT.mono ?_;rintro e w8 ⟨⟨b,rfl,s0,s1⟩,mH⟩;exact yc (bk:=(.syn,0)) rfl rfl Px.out Ms.out II.out (Ym.out.trans (mH.mono Ym.out.size)) s0 s1 HF.out
end
section
open Go.RowKit Go.Maps Go.Shelf
theorem AO(l:List ah)(v:Value)(w:ak)(h:bL w v l)(hl:l.length<=10000):
  Calls Tryz.prog 54 #[v] w fun e w'=>∃ao n c,e=.returned (.slice ao n c)/\gJ w.heap.size w' (.slice ao n c) l/\(∀k,(Value.slice ao n c).ownBlock=some k->k<w'.heap.size)/\Below w.heap.size w w':=by
 have fin:∀{e:Ending} {w':ak} {v':Value} {l:List ah},e=.returned v'->w'.ownsRow w.heap.size 9 1 v' l.length (l.map Value.string)->Below w.heap.size w w'->∃ao n c,e=.returned (.slice ao n c)/\gJ w.heap.size w' (.slice ao n c) l/\(∀k,(Value.slice ao n c).ownBlock=some k->k<w'.heap.size)/\Below w.heap.size w w':=by
  intro e w' v' l he hr hb;obtain⟨ao,cap,rfl,_,_⟩:=bE hr;exact⟨ao,_,cap,he,⟨zW hr,fun k hk=>(bF hr k hk).1⟩,fun k hk=>(bF hr k hk).2,hb⟩
 obtain⟨ao,cap,rfl,hc,⟨h0,rfl,_⟩|⟨b,o,rfl,h⟩⟩:=h
 ·cases ao with
  |none=>
   refine(Any.slices_Clone_string_nil Tryz.laysNm216 0 cap w).mono ?_;rintro e w' ⟨rfl,rfl⟩;exact⟨none,0,0,rfl,⟨⟨none,0,rfl,ai _,aK ⟨fun _=>rfl,rfl,trivial⟩⟩,(fun k hk=>by cases hk)⟩,(fun k hk=>by cases hk),ay _ _⟩
  |some a=>
   refine(Any.slices_Clone_string_zero Tryz.laysNm216 a cap w).mono ?_;rintro e w' ⟨v',rfl,hr,_,hb⟩;exact fin (l:=[]) rfl hr hb
 refine(Any.slices_Clone_string Tryz.laysNm216 b o l.length cap l w (ai _) aJ (fun j hj=>?_)).mono ?_
 ·rw[h j l[j] eB]
  simp[List.getD,hj]
 rintro e w' ⟨v',rfl,hr,_,hb⟩;rw[rz] at hr;exact fin rfl hr hb
structure rX(W0:Nat)(w:ak)(c:Nat->Nat)(v:Value)(ds:List jQ)(es:List dA)(cs:List ah):Prop where
 row:w.ownsRow W0 63 6 v es.length (nJ ds cs)
 const:BF c w (fun w=>ds.length=es.length/\∀(k:Nat) d e,ds[k]?=some d->es[k]?=some e->bL w d.vo e.outs/\bL w d.vi e.ins/\bL w d.vm e.impl/\bL w d.vr e.ord/\d.rule=e.rule)
 c1:∀k,v.ownBlock=some k->c k=1
 fresh:∀k,w.heap.size<=k->c k=0
 low:∀k,k<W0->c k=9
theorem ou:∀(ds:List jQ) (cs:List ah) (j:Nat) (d:jQ) (c:ah) (i:Nat),ds[j]?=some d->cs[j]?=some c->i<6->(nJ ds cs)[j*6+i]?=(yF d c)[i]?
 |[],_,j,d,c,i,h,_,_=>by simp at h
 |_::_,[],j,d,c,i,_,h,_=>by simp at h
 |x::ds,y::cs,0,d,c,i,h,h2,hi=>by
  simp only[jq,Option.some.injEq] at h h2;subst h h2;show(yF x y++nJ ds cs)[0*6+i]?=_;rw[qo,dh,bW (by show i<6;exact hi)]
 |x::ds,y::cs,j+1,d,c,i,h,h2,hi=>by
  show(yF x y++nJ ds cs)[(j+1)*6+i]?=_;rw[dz (by show 6<=_;omega),show(j+1)*6+i-(yF x y).length=j*6+i by show(j+1)*6+i-6=_;omega];exact ou ds cs j d c i (by simpa using h) (by simpa using h2) hi
variable {W0:Nat}{w w':ak}{c:Nat->Nat}{v:Value}{ds:List jQ}{es:List dA}{cs:List ah}
theorem rX.later(h:rX W0 w c v ds es cs)(hb:Below w.heap.size w w'):rX W0 w' c v ds es cs where
 row:=dR h.row (fun k hk=>hb.block k (bF h.row k hk).2)
 const:=h.const.step hb.size (fun k hk h0=>⟨hb.block k hk,h0⟩)
 c1:=h.c1
 fresh:=fun k hk=>h.fresh k (aC hb.size hk)
 low:=h.low
variable {e:dA}{y:ah}
theorem rX.add{wx:ak}{v':Value}{d:jQ}(h:rX W0 w c v ds es cs)(hlen:ds.length=cs.length)(hb:Below w.heap.size w wx)(hg:wx.grownBy w' v.ownBlock)(hr:w'.ownsRow W0 63 6 v' (es.length+1) (nJ ds cs++yF d y))(hat:∀k,v'.ownBlock=some k->v.ownBlock=some k\/wx.heap.size<=k)(t1:gJ w.heap.size wx d.vo e.outs)(t2:gJ w.heap.size wx d.vi e.ins)(t3:gJ w.heap.size wx d.vm e.impl)(t4:gJ w.heap.size wx d.vr e.ord)(hru:d.rule=e.rule):∃c',rX W0 w' c' v' (ds++[d]) (es++[e]) (cs++[y]):=by
 have hx:=h.later hb
 have hoff:∀k,k<wx.heap.size->c k≠1->w'.heap[k]?=wx.heap[k]?:=fun k hk hc=>hg.block k hk (fun e=>hc (h.c1 k e.symm))
 have hn:∀k,k<wx.heap.size->c k≠1->v'.ownBlock≠some k:=fun k hk hc e=>by
  rcases hat k e with q|q
  ·exact hc (h.c1 k q)
  omega
 refine⟨fun k=>if v'.ownBlock=some k then 1 else if c k=1 then 2 else c k,?_⟩
 exact {
  row:=by rw[aI,BP _ _ _ _ hlen];exact hr
  const:=fun w'' hs hk=>by
   have hk2:∀k,k<wx.heap.size->c k=0->w''.heap[k]?=wx.heap[k]?:=fun k h1 h2=>by
    refine(hk k (aB h1 hg.size) ?_).trans (hoff k h1 aJ);show(if v'.ownBlock=some k then 1 else if c k=1 then 2 else c k)=0;rw[aA (hn k h1 aJ),aA aJ];exact h2
   have hold:=hx.const w'' (aC hg.size hs) hk2
   have hnew:∀{u:Value} {l:List ah},gJ w.heap.size wx u l->bL w'' u l:=fun {u l} hu=>by
    obtain⟨ao,cap,rfl,hc,q|⟨b,o,rfl,q⟩⟩:=hu.1
    ·exact⟨ao,cap,rfl,hc,aK q⟩
    exact⟨_,cap,rfl,hc,aP ⟨b,o,rfl,fun k s hs'=>(aF (w:=wx) (a:=⟨b,o+k,none⟩) (hk2 b (aG (q k s hs')) (h.fresh b (hu.2 b rfl)))).trans (q k s hs')⟩⟩
   refine⟨by simp[hold.1],fun k x z hx' hz=>?_⟩
   rcases bX k ds.length with q|q
   ·rw[bW q] at hx';rw[bW (by rw[<-hold.1];exact q)] at hz;exact hold.2 k x z hx' hz
   have hkk:k=ds.length:=by
    have:=(aN.1 hx').1
    simp at this
    omega
   subst hkk;rw[dz (ai _),qm] at hx';rw[hold.1,dz (ai _),qm] at hz;obtain rfl:=ax hx';obtain rfl:=ax hz;exact⟨hnew t1,hnew t2,hnew t3,hnew t4,hru⟩
  c1:=fun k hk=>aH hk
  fresh:=fun k hk=>by
   have h1:=hg.size;have h0:=hx.fresh k aJ;show(if v'.ownBlock=some k then 1 else if c k=1 then 2 else c k)=0;rw[aA (fun e=>by have:=(bF hr k e).2;omega),aA aJ];exact h0
  low:=fun k hk=>by
   have h0:=h.low k hk;show(if v'.ownBlock=some k then 1 else if c k=1 then 2 else c k)=9
   rw[aA (fun e=>by have:=(bF hr k e).1;omega),aA aJ];exact h0}
end
section
open Go.RowKit Go.Maps
variable {w:ak}{B n cap:Nat}
theorem abo{t:TypeId}{s g m:Nat}{xs:List Value}(h:w.ownsRow B t s (.slice (some ⟨g,0,none⟩) n cap) m xs):g<w.heap.size:=(bF h g rfl).2
variable {S:St}{cs:List ah}{mb:Nat}
theorem Xc{W0':Nat}(h:NG W0' S cs mb w)(hn:S.bG.length<=64)(hok:∀e∈S.bG,e.outs.length<=10000/\e.ins.length<=10000/\e.impl.length<=10000/\e.ord.length<=10000):
  Calls Tryz.prog 34 #[.pointer (some ⟨mb,0,none⟩)] w fun e w'=>∃(v:Value) (c:Nat->Nat) (ds:List jQ),e=.returned v/\rX w.heap.size w' c v ds S.bG cs/\Below w.heap.size w w':=by
 obtain⟨ti,HTI⟩:=iT (P:=Tryz.prog) (e:=63) (n:=6) (b:=128) (z:=(.agg #[.slice none 0 0,.slice none 0 0,.slice none 0 0,.slice none 0 0,.string ⟨#[]⟩,.string ⟨#[]⟩])) dD;obtain⟨ev,dv,ds,hm,hrow,hdl,hcl,hlists,_⟩:=h;have HOK:=aV hok;have HLI:=aV hlists;have Rp:=aV (aO hdl hcl);obtain⟨RQ,CW,hve,hce,hge⟩:=bE hrow;subst hve;have Da:=aV hrow;have HGE:=aV hge
 have c0:w.cell? ⟨mb,0,none⟩=some (.slice RQ S.bG.length CW):=by rw[aj _ _ _ _ _ _ hm];rfl
 have hmb:mb<w.heap.size:=bN hm;obtain⟨w1,hmk,hown1,abq⟩:=run_make_own (P:=Tryz.prog) w w.heap.size 60 63 ti _ 6 Tryz.underlying60 HTI.out.1 HTI.out.2.2.2 HTI.out.2.1 .i64 .i64 S.bG.length (by rw[HTI.out.2.2.1];omega) (by unfold maxLen;omega) (ai _);have HB1:Hid (Below w.heap.size w w1):=(ay _ w).grown abq (ai _) (fun k hk=>by cases hk);have HO1:=aV hown1;have c01:w1.cell? ⟨mb,0,none⟩=some (.slice RQ S.bG.length CW):=(HB1.out.cell (p:=⟨mb,0,none⟩) hmb).trans c0;clear hm hrow hlists hge hce hown1 abq hdl hcl hok;generalize hLE:S.bG.length=L at*;have RF:=aV hLE
 have l0:(L:Int)<=64:=aJ
 clear hLE
 go_enter Tryz.func34,Tryz.ntmps34
 go_wp2_with fail
 go_loopw [3,17] (fun v i wr=>∃(j cap:Nat) (ao:Option Addr) (c:Nat->Nat) (ds':List jQ),i=.int .i64 j/\v=.slice ao j cap/\j<=L/\ds'.length=j/\rX w.heap.size wr c (.slice ao j cap) ds' (S.bG.take j) (cs.take j)/\Below w.heap.size w wr) (fun _ i _=>L-(intOf i).toNat)
 case atStart=>
  refine⟨0,L,_,fun k=>if k=w.heap.size then 1 else if k<w.heap.size then 9 else 0,[],rfl,rfl,aS _,rfl,⟨HO1.out,fun _ _ _=>⟨rfl,fun k d e hd=>by simp at hd⟩,fun k hk=>?_,fun k hk=>?_,fun k hk=>?_⟩,HB1.out⟩
  ·have e:w.heap.size=k:=ax hk;exact aH e.symm
  ·have:=abo HO1.out;exact(aA aJ).trans (aA aJ)
  exact(aA aJ).trans (aH hk)
 case round=>
  obtain⟨j,cap,ao,c,ds',rfl,rfl,hle,hdj,hea,hbw⟩:=hrel;have HEA:=aV hea;have lJ:=aV hbw;have HDJ:=aV hdj;clear hea hbw hdj
  have j0:(0:Int)<=(j:Int):=aJ
  by_cases hlt:j<L
  ·have j1:(j:Int)<(L:Int):=aJ
   obtain⟨e0,he0⟩:∃e,S.bG[j]?=some e:=⟨S.bG[j]'(by have:=RF.out;omega),eB⟩;obtain⟨d,hd⟩:∃d,ds[j]?=some d:=⟨ds[j]'(by have:=Rp.out.1;omega),eB⟩;obtain⟨cm,hcm⟩:∃c,cs[j]?=some c:=⟨cs[j]'(by have:=Rp.out.2;omega),eB⟩;have htx:=HLI.out j d e0 hd he0;have Pq:=aV (HOK.out e0 (aU he0));obtain⟨g,rfl⟩:=HGE.out aJ;have hrw:wr.ownsRow W0' 63 6 (.slice (some ⟨g,0,none⟩) L CW) L (nJ ds cs):=dR Da.out (fun k hk=>lJ.out.block k (bF Da.out k hk).2);have e0c:wr.cell? ⟨g,j*6,none⟩=some d.vo:=(dV hrw (j*6+0) _ (ou ds cs j d cm 0 hd hcm bS)).1;have e1c:wr.cell? ⟨g,j*6+1,none⟩=some d.vi:=(dV hrw _ _ (ou ds cs j d cm 1 hd hcm bS)).1;have e2c:wr.cell? ⟨g,j*6+2,none⟩=some d.vm:=(dV hrw _ _ (ou ds cs j d cm 2 hd hcm bS)).1;have e3c:wr.cell? ⟨g,j*6+3,none⟩=some d.vr:=(dV hrw _ _ (ou ds cs j d cm 3 hd hcm bS)).1;have e4c:wr.cell? ⟨g,j*6+4,none⟩=some (.string d.rule):=(dV hrw _ _ (ou ds cs j d cm 4 hd hcm bS)).1;have e5c:wr.cell? ⟨g,j*6+5,none⟩=some (.string cm):=(dV hrw _ _ (ou ds cs j d cm 5 hd hcm bS)).1;have HED:=aV (aO he0 hcm);clear hrw he0 hd hcm;obtain⟨vo,vi,vm,vr,rl,ob⟩:=d;simp only at e0c e1c e2c e3c e4c htx
   obtain⟨nu,no,co,Rx⟩:∃ao n c,vo=.slice ao n c:=by obtain⟨ao,c,e,_⟩:=htx.1;exact⟨ao,_,c,e⟩
   obtain⟨kE,ni,ci,MB⟩:∃ao n c,vi=.slice ao n c:=by obtain⟨ao,c,e,_⟩:=htx.2.1;exact⟨ao,_,c,e⟩
   obtain⟨lM,nm,YQ,Wl⟩:∃ao n c,vm=.slice ao n c:=by obtain⟨ao,c,e,_⟩:=htx.2.2.1;exact⟨ao,_,c,e⟩
   obtain⟨nH,nr,cr,Zm⟩:∃ao n c,vr=.slice ao n c:=by obtain⟨ao,c,e,_⟩:=htx.2.2.2.1;exact⟨ao,_,c,e⟩
   subst Rx MB Wl Zm
   have SX:∀{u:Value} {l:List ah},bL w u l->bL wr u l:=fun {u l} hu=>hu.iy lJ.out
   have CU:Hid (bL wr (.slice nu no co) e0.outs/\bL wr (.slice kE ni ci) e0.ins/\bL wr (.slice lM nm YQ) e0.impl/\bL wr (.slice nH nr cr) e0.ord/\rl=e0.rule):=⟨SX htx.1,SX htx.2.1,SX htx.2.2.1,SX htx.2.2.2.1,htx.2.2.2.2⟩;clear htx SX;have ahj:Hid ((wr.alloc (.cells #[.slice nu no co,.slice kE ni ci,.slice lM nm YQ,.slice nH nr cr,.string rl,.string cm] 63)).heap[wr.heap.size]?=some (.cells #[.slice nu no co,.slice kE ni ci,.slice lM nm YQ,.slice nH nr cr,.string rl,.string cm] 63 (0,0))):=bq _ _ _ rfl;have ag5:Hid (Below wr.heap.size wr (wr.alloc (.cells #[.slice nu no co,.slice kE ni ci,.slice lM nm YQ,.slice nH nr cr,.string rl,.string cm] 63))):=(ay _ _).alloc (ai _) _
   go_wp2_with fail
   generalize wr.alloc (.cells #[.slice nu no co,.slice kE ni ci,.slice lM nm YQ,.slice nH nr cr,.string rl,.string cm] 63)=W0 at*;have HE0:=aV ahj;have HB0:=aV ag5;clear ahj ag5 e0c e1c e2c e3c e4c e5c;have HC0:=AO e0.outs (.slice nu no co) W0 (CU.out.1.iy HB0.out) (by have:=Pq.out;omega);refine HC0.mono ?_;rintro e w2 ⟨vU,no',Ic,rfl,hty,hlt,hbl⟩;have hsz:wr.heap.size<W0.heap.size:=bN HE0.out;have hrow:w2.heap[wr.heap.size]?=some (.cells #[.slice nu no co,.slice kE ni ci,.slice lM nm YQ,.slice nH nr cr,.string rl,.string cm] 63 (0,0)):=(hbl.block _ hsz).trans HE0.out
   have zc:w2.cell? ⟨wr.heap.size,0,none⟩=some (.slice nu no co):=by rw[aj _ _ _ _ _ _ hrow];rfl
   have zf:w2.frozen? ⟨wr.heap.size,0,none⟩=false:=aD _ _ _ _ _ hrow
   have HE1:Hid ((w2.setCell ⟨wr.heap.size,0,none⟩ (.slice vU no' Ic)).heap[wr.heap.size]?=some (.cells #[.slice vU no' Ic,.slice kE ni ci,.slice lM nm YQ,.slice nH nr cr,.string rl,.string cm] 63 (0,0))):=by
    show _=_;rw[aR _ _ _ _ _ _ hrow];rfl
   have HB1:Hid (Below wr.heap.size wr (w2.setCell ⟨wr.heap.size,0,none⟩ (.slice vU no' Ic))):=(HB0.out.trans (hbl.mono HB0.out.size)).setCell (p:=⟨wr.heap.size,0,none⟩) (ai _) _
   have hst:∀q,wr.heap.size+1<=q->q<W0.heap.size->(w2.setCell ⟨wr.heap.size,0,none⟩ (.slice vU no' Ic)).heap[q]?=W0.heap[q]?:=fun q h1 h2=>by
    rw[au _ _ _ _ (show q≠wr.heap.size by omega)];exact hbl.block q h2
   have HT0:Hid (gJ (wr.heap.size+1) (w2.setCell ⟨wr.heap.size,0,none⟩ (.slice vU no' Ic)) (.slice vU no' Ic) e0.outs):=gJ.same (w:=w2) ⟨hty.1,fun q hq=>by have:=hty.2 q hq;omega⟩ (fun q h1 _=>au _ _ _ _ (show q≠wr.heap.size by omega))
   have zn:(w2.setCell ⟨wr.heap.size,0,none⟩ (.slice vU no' Ic)).cell? ⟨wr.heap.size,1,none⟩=some (.slice kE ni ci):=by rw[aj _ _ _ _ _ _ HE1.out];rfl
   clear hty hlt hbl hrow hst hsz HC0 HE0 HB0
   go_wp2_with fail
   generalize w2.setCell ⟨wr.heap.size,0,none⟩ (.slice vU no' Ic)=W1 at*;clear zc zf zn;have HC1:=AO e0.ins (.slice kE ni ci) W1 (CU.out.2.1.iy HB1.out) (by have:=Pq.out;omega);refine HC1.mono ?_;rintro e w3 ⟨xg,Jp,Jo,rfl,hty,hlt,hbl⟩;have hsz:wr.heap.size<W1.heap.size:=bN HE1.out;have hrow:w3.heap[wr.heap.size]?=some (.cells #[.slice vU no' Ic,.slice kE ni ci,.slice lM nm YQ,.slice nH nr cr,.string rl,.string cm] 63 (0,0)):=(hbl.block _ hsz).trans HE1.out
   have zc:w3.cell? ⟨wr.heap.size,1,none⟩=some (.slice kE ni ci):=by rw[aj _ _ _ _ _ _ hrow];rfl
   have zf:w3.frozen? ⟨wr.heap.size,1,none⟩=false:=aD _ _ _ _ _ hrow
   have HE2:Hid ((w3.setCell ⟨wr.heap.size,1,none⟩ (.slice xg Jp Jo)).heap[wr.heap.size]?=some (.cells #[.slice vU no' Ic,.slice xg Jp Jo,.slice lM nm YQ,.slice nH nr cr,.string rl,.string cm] 63 (0,0))):=by
    show _=_;rw[aR _ _ _ _ _ _ hrow];rfl
   have HB2:Hid (Below wr.heap.size wr (w3.setCell ⟨wr.heap.size,1,none⟩ (.slice xg Jp Jo))):=(HB1.out.trans (hbl.mono HB1.out.size)).setCell (p:=⟨wr.heap.size,1,none⟩) (ai _) _
   have hst:∀q,wr.heap.size+1<=q->q<W1.heap.size->(w3.setCell ⟨wr.heap.size,1,none⟩ (.slice xg Jp Jo)).heap[q]?=W1.heap[q]?:=fun q h1 h2=>by
    rw[au _ _ _ _ (show q≠wr.heap.size by omega)];exact hbl.block q h2
   have HT1:Hid (gJ (wr.heap.size+1) (w3.setCell ⟨wr.heap.size,1,none⟩ (.slice xg Jp Jo)) (.slice xg Jp Jo) e0.ins):=gJ.same (w:=w3) ⟨hty.1,fun q hq=>by have:=hty.2 q hq;omega⟩ (fun q h1 _=>au _ _ _ _ (show q≠wr.heap.size by omega));replace HT0:=aV (HT0.out.same hst)
   have zn:(w3.setCell ⟨wr.heap.size,1,none⟩ (.slice xg Jp Jo)).cell? ⟨wr.heap.size,2,none⟩=some (.slice lM nm YQ):=by rw[aj _ _ _ _ _ _ HE2.out];rfl
   clear hty hlt hbl hrow hst hsz HC1 HE1 HB1
   go_wp2_with fail
   generalize w3.setCell ⟨wr.heap.size,1,none⟩ (.slice xg Jp Jo)=W2 at*;clear zc zf zn;have HC2:=AO e0.impl (.slice lM nm YQ) W2 (CU.out.2.2.1.iy HB2.out) (by have:=Pq.out;omega);refine HC2.mono ?_;rintro e w4 ⟨yB,ME,MC,rfl,hty,hlt,hbl⟩;have hsz:wr.heap.size<W2.heap.size:=bN HE2.out;have hrow:w4.heap[wr.heap.size]?=some (.cells #[.slice vU no' Ic,.slice xg Jp Jo,.slice lM nm YQ,.slice nH nr cr,.string rl,.string cm] 63 (0,0)):=(hbl.block _ hsz).trans HE2.out
   have zc:w4.cell? ⟨wr.heap.size,2,none⟩=some (.slice lM nm YQ):=by rw[aj _ _ _ _ _ _ hrow];rfl
   have zf:w4.frozen? ⟨wr.heap.size,2,none⟩=false:=aD _ _ _ _ _ hrow
   have HE3:Hid ((w4.setCell ⟨wr.heap.size,2,none⟩ (.slice yB ME MC)).heap[wr.heap.size]?=some (.cells #[.slice vU no' Ic,.slice xg Jp Jo,.slice yB ME MC,.slice nH nr cr,.string rl,.string cm] 63 (0,0))):=by
    show _=_;rw[aR _ _ _ _ _ _ hrow];rfl
   have HB3:Hid (Below wr.heap.size wr (w4.setCell ⟨wr.heap.size,2,none⟩ (.slice yB ME MC))):=(HB2.out.trans (hbl.mono HB2.out.size)).setCell (p:=⟨wr.heap.size,2,none⟩) (ai _) _
   have hst:∀q,wr.heap.size+1<=q->q<W2.heap.size->(w4.setCell ⟨wr.heap.size,2,none⟩ (.slice yB ME MC)).heap[q]?=W2.heap[q]?:=fun q h1 h2=>by
    rw[au _ _ _ _ (show q≠wr.heap.size by omega)];exact hbl.block q h2
   have HT2:Hid (gJ (wr.heap.size+1) (w4.setCell ⟨wr.heap.size,2,none⟩ (.slice yB ME MC)) (.slice yB ME MC) e0.impl):=gJ.same (w:=w4) ⟨hty.1,fun q hq=>by have:=hty.2 q hq;omega⟩ (fun q h1 _=>au _ _ _ _ (show q≠wr.heap.size by omega));replace HT0:=aV (HT0.out.same hst);replace HT1:=aV (HT1.out.same hst)
   have zn:(w4.setCell ⟨wr.heap.size,2,none⟩ (.slice yB ME MC)).cell? ⟨wr.heap.size,3,none⟩=some (.slice nH nr cr):=by rw[aj _ _ _ _ _ _ HE3.out];rfl
   clear hty hlt hbl hrow hst hsz HC2 HE2 HB2
   go_wp2_with fail
   generalize w4.setCell ⟨wr.heap.size,2,none⟩ (.slice yB ME MC)=W3 at*;clear zc zf zn;have HC3:=AO e0.ord (.slice nH nr cr) W3 (CU.out.2.2.2.1.iy HB3.out) (by have:=Pq.out;omega);refine HC3.mono ?_;rintro e w5 ⟨qK,Cy,Cv,rfl,hty,hlt,hbl⟩;have hsz:wr.heap.size<W3.heap.size:=bN HE3.out;have hrow:w5.heap[wr.heap.size]?=some (.cells #[.slice vU no' Ic,.slice xg Jp Jo,.slice yB ME MC,.slice nH nr cr,.string rl,.string cm] 63 (0,0)):=(hbl.block _ hsz).trans HE3.out
   have zc:w5.cell? ⟨wr.heap.size,3,none⟩=some (.slice nH nr cr):=by rw[aj _ _ _ _ _ _ hrow];rfl
   have zf:w5.frozen? ⟨wr.heap.size,3,none⟩=false:=aD _ _ _ _ _ hrow
   have Ve:Hid ((w5.setCell ⟨wr.heap.size,3,none⟩ (.slice qK Cy Cv)).heap[wr.heap.size]?=some (.cells #[.slice vU no' Ic,.slice xg Jp Jo,.slice yB ME MC,.slice qK Cy Cv,.string rl,.string cm] 63 (0,0))):=by
    show _=_;rw[aR _ _ _ _ _ _ hrow];rfl
   have xC:Hid (Below wr.heap.size wr (w5.setCell ⟨wr.heap.size,3,none⟩ (.slice qK Cy Cv))):=(HB3.out.trans (hbl.mono HB3.out.size)).setCell (p:=⟨wr.heap.size,3,none⟩) (ai _) _
   have hst:∀q,wr.heap.size+1<=q->q<W3.heap.size->(w5.setCell ⟨wr.heap.size,3,none⟩ (.slice qK Cy Cv)).heap[q]?=W3.heap[q]?:=fun q h1 h2=>by
    rw[au _ _ _ _ (show q≠wr.heap.size by omega)];exact hbl.block q h2
   have HT3:Hid (gJ (wr.heap.size+1) (w5.setCell ⟨wr.heap.size,3,none⟩ (.slice qK Cy Cv)) (.slice qK Cy Cv) e0.ord):=gJ.same (w:=w5) ⟨hty.1,fun q hq=>by have:=hty.2 q hq;omega⟩ (fun q h1 _=>au _ _ _ _ (show q≠wr.heap.size by omega));replace HT0:=aV (HT0.out.same hst);replace HT1:=aV (HT1.out.same hst);replace HT2:=aV (HT2.out.same hst)
   have y0:(w5.setCell ⟨wr.heap.size,3,none⟩ (.slice qK Cy Cv)).cell? ⟨wr.heap.size,0,none⟩=some (.slice vU no' Ic):=by rw[aj _ _ _ _ _ _ Ve.out];rfl
   have y1:(w5.setCell ⟨wr.heap.size,3,none⟩ (.slice qK Cy Cv)).cell? ⟨wr.heap.size,1,none⟩=some (.slice xg Jp Jo):=by rw[aj _ _ _ _ _ _ Ve.out];rfl
   have y2:(w5.setCell ⟨wr.heap.size,3,none⟩ (.slice qK Cy Cv)).cell? ⟨wr.heap.size,2,none⟩=some (.slice yB ME MC):=by rw[aj _ _ _ _ _ _ Ve.out];rfl
   have y3:(w5.setCell ⟨wr.heap.size,3,none⟩ (.slice qK Cy Cv)).cell? ⟨wr.heap.size,3,none⟩=some (.slice qK Cy Cv):=by rw[aj _ _ _ _ _ _ Ve.out];rfl
   have y4:(w5.setCell ⟨wr.heap.size,3,none⟩ (.slice qK Cy Cv)).cell? ⟨wr.heap.size,4,none⟩=some (.string rl):=by rw[aj _ _ _ _ _ _ Ve.out];rfl
   have y5:(w5.setCell ⟨wr.heap.size,3,none⟩ (.slice qK Cy Cv)).cell? ⟨wr.heap.size,5,none⟩=some (.string cm):=by rw[aj _ _ _ _ _ _ Ve.out];rfl
   have hwz:(w5.setCell ⟨wr.heap.size,3,none⟩ (.slice qK Cy Cv)).heap.size=w5.heap.size:=eB
   have hw5:w.heap.size<=w5.heap.size:=by have h1:=xC.out.size;have h2:=lJ.out.size;omega
   have HXA:Hid (rX w.heap.size ((w5.setCell ⟨wr.heap.size,3,none⟩ (.slice qK Cy Cv)).alloc (.cells #[.slice vU no' Ic,.slice xg Jp Jo,.slice yB ME MC,.slice qK Cy Cv,.string rl,.string cm] 63)) c (.slice ao j cap) ds' (S.bG.take j) (cs.take j)):=(HEA.out.later xC.out).later ((ay _ _).alloc (ai _) _)
   have hrj:((w5.setCell ⟨wr.heap.size,3,none⟩ (.slice qK Cy Cv)).alloc (.cells #[.slice vU no' Ic,.slice xg Jp Jo,.slice yB ME MC,.slice qK Cy Cv,.string rl,.string cm] 63)).ownsRow w.heap.size 63 6 (.slice ao j cap) j (nJ ds' (cs.take j)):=by
    have h:=HXA.out.row;rw[ic,lK (by rw[RF.out];omega)] at h;exact h
   have HRJ:=aV hrj
   have HNC:Hid (∀jj u,([.slice vU no' Ic,.slice xg Jp Jo,.slice yB ME MC,.slice qK Cy Cv,.string rl,.string cm]:List Value)[jj]?=some u->((w5.setCell ⟨wr.heap.size,3,none⟩ (.slice qK Cy Cv)).alloc (.cells #[.slice vU no' Ic,.slice xg Jp Jo,.slice yB ME MC,.slice qK Cy Cv,.string rl,.string cm] 63)).cell? ((⟨w5.heap.size,0,none⟩:Addr).add jj)=some u):=by
    have h:=iM (w5.setCell ⟨wr.heap.size,3,none⟩ (.slice qK Cy Cv)) [.slice vU no' Ic,.slice xg Jp Jo,.slice yB ME MC,.slice qK Cy Cv,.string rl,.string cm] 63;rw[hwz] at h;exact h
   clear hty hlt hbl hrow hst hsz HC3 HE3 HB3 hrj
   go_wp2_with (at_builtin;refine wpList_append_lies _ rfl (.tmp 37) (.tmp 39) 60 rfl w.heap.size 63 ti (.agg #[.slice none 0 0,.slice none 0 0,.slice none 0 0,.slice none 0 0,.string ⟨#[]⟩,.string ⟨#[]⟩]) 6 128 Tryz.underlying60 HTI.out.1 HTI.out.2.2.2 HTI.out.2.1 HTI.out.2.2.1 rfl bS _ j (nJ ds' (cs.take j)) rfl HRJ.out ⟨w5.heap.size,0,none⟩ 1 1 [.slice vU no' Ic,.slice xg Jp Jo,.slice yB ME MC,.slice qK Cy Cv,.string rl,.string cm] rfl rfl HNC.out (by intro u hu;simp only[bg,dH,kz] at hu;rcases hu with rfl|rfl|rfl|rfl|rfl|rfl<;>rfl) bS (by unfold maxLen;omega) aJ (by simp;omega) _ rfl ?_;intro g7 lW w7 hv7 wW rF xu;refine dO ?_)
   have HEN:Hid (∃c',rX w.heap.size w7 c' (.slice (some ⟨g7,0,none⟩) (j+1) lW) (ds'++[⟨.slice vU no' Ic,.slice xg Jp Jo,.slice yB ME MC,.slice qK Cy Cv,rl,0⟩]) (S.bG.take (j+1)) (cs.take (j+1))):=by
    have hbx:Below wr.heap.size wr ((w5.setCell ⟨wr.heap.size,3,none⟩ (.slice qK Cy Cv)).alloc (.cells #[.slice vU no' Ic,.slice xg Jp Jo,.slice yB ME MC,.slice qK Cy Cv,.string rl,.string cm] 63)):=xC.out.alloc xC.out.size _
    have hup:∀{u:Value} {l:List ah},gJ (wr.heap.size+1) (w5.setCell ⟨wr.heap.size,3,none⟩ (.slice qK Cy Cv)) u l->gJ wr.heap.size ((w5.setCell ⟨wr.heap.size,3,none⟩ (.slice qK Cy Cv)).alloc (.cells #[.slice vU no' Ic,.slice xg Jp Jo,.slice yB ME MC,.slice qK Cy Cv,.string rl,.string cm] 63)) u l:=fun {u l} hu=>by
     have h:=hu.keep (w':=(w5.setCell ⟨wr.heap.size,3,none⟩ (.slice qK Cy Cv)).alloc (.cells #[.slice vU no' Ic,.slice xg Jp Jo,.slice yB ME MC,.slice qK Cy Cv,.string rl,.string cm] 63)) (fun q hq=>bC _ _ q hq);exact⟨h.1,fun q hq=>by have:=h.2 q hq;omega⟩
    rw[AU _ _ _ HED.out.1,AU _ _ _ HED.out.2];refine HEA.out.add (wx:=(w5.setCell ⟨wr.heap.size,3,none⟩ (.slice qK Cy Cv)).alloc (.cells #[.slice vU no' Ic,.slice xg Jp Jo,.slice yB ME MC,.slice qK Cy Cv,.string rl,.string cm] 63)) (by rw[HDJ.out,ic,lK (by have:=Rp.out.2;have:=RF.out;omega)]) hbx wW ?_ (fun k hk=>?_) (hup HT0.out) (hup HT1.out) (hup HT2.out) (hup HT3.out) CU.out.2.2.2.2
    ·rw[ic,lK (by rw[RF.out];omega)];exact hv7
    have e:g7=k:=ax hk;subst e
    rcases rF with e2|e2
    ·exact aK e2
    right;rw[e2];exact ai _
   have HBN:Hid (Below w.heap.size w w7):=((lJ.out.trans (xC.out.mono lJ.out.size)).alloc (by simp;omega) _).grown wW (by simp;omega) (fun k hk=>(bF HRJ.out k hk).1);clear hv7 wW rF xu;obtain⟨c7,hc7⟩:=HEN.out;unfold Hid
   go_wp2_with fail
   exact⟨⟨j+1,lW,some ⟨g7,0,none⟩,c7,_,oW,rfl,hlt,by rw[aI,HDJ.out];rfl,hc7,HBN.out⟩,by simp[intOf];omega⟩
  obtain rfl:j=L:=aJ
  have j1:¬(j:Int)<(j:Int):=aJ
  go_wp2_with fail
  go_ret;refine⟨_,rFL,⟨c,ds',?_⟩,lJ.out⟩;have h1:=HEA.out;rw[bK (by rw[RF.out];exact ai _),bK (by rw[Rp.out.2];exact ai _)] at h1;exact h1
end
section
open Go.RowKit
def og(w:ak)(v:Value)(es:List dA)(cs:List ah):Prop:=∃ao cap,v=.slice ao es.length cap/\(es=[]\/∃g o,ao=some ⟨g,o,none⟩/\∀(k:Nat) e c,es[k]?=some e->cs[k]?=some c->∃vo vi vm vr,(w.cell? ⟨g,o+k*6,none⟩=some vo/\w.cell? ⟨g,o+k*6+1,none⟩=some vi/\w.cell? ⟨g,o+k*6+2,none⟩=some vm/\w.cell? ⟨g,o+k*6+3,none⟩=some vr/\w.cell? ⟨g,o+k*6+4,none⟩=some (.string e.rule)/\w.cell? ⟨g,o+k*6+5,none⟩=some (.string c))/\bL w vo e.outs/\bL w vi e.ins/\bL w vm e.impl/\bL w vr e.ord)
end
section
open Go.RowKit Go.Maps
def KS(f:ah->Option Nat)(x:ah):Option Value:=(f x).map fun p=>.int .i64 ((p:Nat):Int)
variable {es:List dA}{e:dA}{x:ah}
theorem TF(hn:fo x e.outs=true->fK es x=none):fK (es++[e]) x=if fo x e.outs=true then some es.length else fK es x:=by
 unfold fK at*;rw[List.findIdx?_append]
 by_cases h:fo x e.outs=true
 ·rw[aH h,hn h]
  simp[h]
 rw[aA h]
 simp[h]
variable {y:ah}{l:List ah}
theorem mY:fo y l=true↔y∈l:=by
 unfold fo
 simp
variable {j:Nat}{e0:dA}
theorem Qz(hnd:(es.flatMap (·.outs)).Nodup)(he:es[j]?=some e0)(hy:fo y e0.outs=true):fK (es.take j) y=none:=by
 have hsp:es=es.take j++e0::es.drop (j+1):=by
  have hj:=(aN.1 he).1;have:=MO j es;rw[fG hj,(aN.1 he).2] at this;exact this.symm
 rw[hsp,lC,ng] at hnd;have hd:=(nk.1 hnd).2.2;unfold fK;rw[List.findIdx?_eq_none_iff];intro e hm
 rcases hq:fo y e.outs with _|_
 ·rfl
 exact absurd rfl (hd y (IK.2 ⟨e,hm,mY.1 hq⟩) y (fD _ (mY.1 hy)))
variable {w:ak}{v:Value}{cs:List ah}
theorem Qy(h:og w v es cs)(hl:es.length<=64)(hc:cs.length=es.length)(hok:∀e∈es,e.outs.length<=10000/\∀x∈e.outs,x.size<=32)(hnd:(es.flatMap (·.outs)).Nodup):
  Calls Tryz.prog 67 #[v] w fun e w'=>∃mb n,e=.returned (.map (some mb))/\eu Ky (.int .i64 0) w' mb n (KS (fK es))/\w.heap.size<=mb/\n<=1000000/\Below w.heap.size w w':=by
 obtain⟨ao,cap,rfl,hrow⟩:=h;have CR:=aV hrow;have HOK:=aV (aO hok (aO hnd hc));have HM0:Hid (eu Ky (.int .i64 0) (w.alloc (.map #[] 0)) w.heap.size 0 (KS (fK []))):=eu.made Ky _ ⟨_,_,rfl⟩ w;have HB0:Hid (Below w.heap.size w (w.alloc (.map #[] 0))):=(ay _ _).alloc (ai _) _
 have hmk:(Instr.makeMap 136 none).run Tryz.prog w=.ok (.map (some w.heap.size)) (w.alloc (.map #[] 0)):=by simp[Instr.makeMap,go_sem]
 clear hrow hok hnd hc;generalize hL:es.length=L at*;have HL:=aV hL;clear hL
 have l0:(L:Int)<=64:=aJ
 go_enter Tryz.func67,Tryz.ntmps67
 go_wp2_with fail
 clear hmk;generalize w.alloc (.map #[] 0)=w1 at*;generalize hmb:w.heap.size=mb at*;have XC:=aV hmb;clear hmb
 go_loopw [11] (fun i wr=>∃(j n:Nat),i=.int .i64 j/\j<=L/\eu Ky (.int .i64 0) wr mb n (KS (fK (es.take j)))/\n<=j*10000/\Below mb w wr) (fun i _=>L-(intOf i).toNat)
 case atStart=>exact⟨0,0,rfl,aS _,HM0.out,aS _,HB0.out⟩
 case round=>
  clear HM0 HB0;obtain⟨j,n,rfl,hj,hmap,hn,hbl⟩:=hrel;have HM:=aV (aO hmap (aO hn hbl))
  have j0:(0:Int)<=(j:Int):=aJ
  by_cases hlt:j<L
  ·have j1:(j:Int)<(L:Int):=aJ
   obtain⟨e0,he0⟩:∃e,es[j]?=some e:=⟨es[j]'(by have:=HL.out;omega),eB⟩;obtain⟨cm,hcm⟩:∃c,cs[j]?=some c:=⟨cs[j]'(by have:=HL.out;have:=HOK.out.2.2;omega),eB⟩
   obtain⟨g,o,rfl,hcells⟩:∃g o,ao=some ⟨g,o,none⟩/\∀(k:Nat) e c,es[k]?=some e->cs[k]?=some c->∃vo vi vm vr,(w.cell? ⟨g,o+k*6,none⟩=some vo/\w.cell? ⟨g,o+k*6+1,none⟩=some vi/\w.cell? ⟨g,o+k*6+2,none⟩=some vm/\w.cell? ⟨g,o+k*6+3,none⟩=some vr/\w.cell? ⟨g,o+k*6+4,none⟩=some (.string e.rule)/\w.cell? ⟨g,o+k*6+5,none⟩=some (.string c))/\bL w vo e.outs/\bL w vi e.ins/\bL w vm e.impl/\bL w vr e.ord:=by
    rcases CR.out with q|q
    ·exfalso;have:=HL.out;rw[q] at this;simp at this;omega
    exact q
   obtain⟨vo,vi,vm,vr,⟨d0,d1,d2,d3,d4,d5⟩,UN,MF,tm',UQ⟩:=hcells j e0 cm he0 hcm
   have kc:∀(a:Addr) u,w.cell? a=some u->wr.cell? a=some u:=fun a u h=>(hbl.cell (p:=a) (by have:=aG h;have:=XC.out;omega)).trans h
   have c0:=kc _ _ d0;have c1:=kc _ _ d1;have c2:=kc _ _ d2;have c3:=kc _ _ d3;have c4:=kc _ _ d4;have c5:=kc _ _ d5
   obtain⟨nu,nO,cO,Rx⟩:∃ao n c,vo=.slice ao n c:=by obtain⟨ao,cap,e,_⟩:=UN;exact⟨ao,_,cap,e⟩
   obtain⟨kE,nI,cI,MB⟩:∃ao n c,vi=.slice ao n c:=by obtain⟨ao,cap,e,_⟩:=MF;exact⟨ao,_,cap,e⟩
   obtain⟨lM,nM,cM,Wl⟩:∃ao n c,vm=.slice ao n c:=by obtain⟨ao,cap,e,_⟩:=tm';exact⟨ao,_,cap,e⟩
   obtain⟨nH,nR,cR,Zm⟩:∃ao n c,vr=.slice ao n c:=by obtain⟨ao,cap,e,_⟩:=UQ;exact⟨ao,_,cap,e⟩
   subst Rx MB Wl Zm;have JA:=aV UN;have HE:=aV he0;clear kc d0 d1 d2 d3 d4 d5 UN MF tm' UQ hcells hmap hn hbl he0 hcm
   go_wp2_with fail
   clear c0 c1 c2 c3 c4 c5;have HMA:Hid (eu Ky (.int .i64 0) (wr.alloc (.cells #[.slice nu nO cO,.slice kE nI cI,.slice lM nM cM,.slice nH nR cR,.string e0.rule,.string cm] 63)) mb n (KS (fK (es.take j)))/\n<=j*10000/\Below mb w (wr.alloc (.cells #[.slice nu nO cO,.slice kE nI cI,.slice lM nM cM,.slice nH nR cR,.string e0.rule,.string cm] 63))):=⟨HM.out.1.keep (bC _ _ mb HM.out.1.lt),HM.out.2.1,HM.out.2.2.alloc (by have:=HM.out.1.lt;omega) _⟩;generalize wr.alloc (.cells #[.slice nu nO cO,.slice kE nI cI,.slice lM nM cM,.slice nH nR cR,.string e0.rule,.string cm] 63)=wa at*;obtain⟨ak5,cO2,agl,hcO,htx⟩:=JA.out;injection agl with f1 f2 f3;subst f1 f3;have HOL:=aV f2.symm;have CU:=aV htx;have HEO:Hid ((∀x∈e0.outs,x.size<=32)/\e0.outs.length<=10000):=⟨(HOK.out.1 e0 (aU HE.out)).2,(HOK.out.1 e0 (aU HE.out)).1⟩
   have o0:(nO:Int)<=10000:=by have:=HEO.out.2;have:=HOL.out;omega
   clear f2 htx hcO JA HM
   go_loopw [19] (fun i wr=>∃(k m:Nat),i=.int .i64 k/\k<=nO/\eu Ky (.int .i64 0) wr mb m (fun x=>if fo x (e0.outs.take k)=true then some (.int .i64 (j:Nat)) else KS (fK (es.take j)) x)/\m<=j*10000+k/\Below mb w wr) (fun i _=>nO-(intOf i).toNat)
   case atStart=>exact⟨0,n,rfl,aS _,HMA.out.1,HMA.out.2.1,HMA.out.2.2⟩
   case round=>
    clear HMA;obtain⟨k,m,rfl,hk,hmap,hm,hbl⟩:=hrel;have HM:=aV (aO hmap (aO hm hbl))
    have k0:(0:Int)<=(k:Int):=aJ
    by_cases hkl:k<nO
    ·have k1:(k:Int)<(nO:Int):=aJ
     obtain⟨x,hx⟩:∃x,e0.outs[k]?=some x:=⟨e0.outs[k]'(by have:=HOL.out;omega),eB⟩
     obtain⟨b,o3,rfl,hct⟩:∃b o,nu=some ⟨b,o,none⟩/\∀k s,e0.outs[k]?=some s->w.cell? ⟨b,o+k,none⟩=some (.string s):=by
      rcases CU.out with ⟨_,q,_⟩|q
      ·exfalso;rw[q] at hx;simp at hx
      exact q
     have cx:wr.cell? ⟨b,o3+k,none⟩=some (.string x):=(hbl.cell (p:=⟨b,o3+k,none⟩) (by have:=aG (hct k x hx);have:=XC.out;omega)).trans (hct k x hx);have hxs:x.size<=32:=HEO.out.1 x (aU hx);obtain⟨w9,Oj,EU,Ct⟩:=hmap.store (t:=136) Tryz.underlying136 (by unfold maxLen;omega) x (by unfold maxLen;omega) (.int .i64 (j:Nat)) ⟨_,_,rfl⟩
     have XB:Hid (eu Ky (.int .i64 0) w9 mb (m+1) (fun y=>if fo y (e0.outs.take (k+1))=true then some (.int .i64 (j:Nat)) else KS (fK (es.take j)) y)/\m+1<=j*10000+(k+1)/\Below mb w w9):=by
      refine⟨?_,aJ,hbl.grown Ct (by have:=hmap.lt;omega) (fun k hk=>dG (ax hk))⟩
      have e:(fun y=>if y=x then some (Value.int .i64 ((j:Nat):Int)) else if fo y (e0.outs.take k)=true then some (.int .i64 (j:Nat)) else KS (fK (es.take j)) y)=(fun y=>if fo y (e0.outs.take (k+1))=true then some (.int .i64 (j:Nat)) else KS (fK (es.take j)) y):=by
       funext y
       have ht:e0.outs.take (k+1)=e0.outs.take k++[x]:=by
        rw[dU,hx];rfl
       have hmm:fo y (e0.outs.take (k+1))=(fo y (e0.outs.take k)||decide (x=y)):=by rw[ht];unfold fo;simp
       rw[hmm]
       by_cases q:y=x
       ·subst q;simp
       have q':decide (x=y)=false:=bM (fun e=>q e.symm);rw[aA q,q',Vd]
      rw[<-e];exact EU
     clear EU Ct hmap hm hbl hct HM
     go_wp2
     exact⟨⟨k+1,m+1,oW,aJ,XB.out.1,XB.out.2.1,XB.out.2.2⟩,by simp[intOf];omega⟩
    obtain rfl:k=nO:=aJ
    have HMJ:Hid (eu Ky (.int .i64 0) wr mb m (KS (fK (es.take (j+1))))/\m<=(j+1)*10000/\Below mb w wr):=by
     refine⟨?_,by have:=HEO.out.2;have:=HOL.out;omega,hbl⟩
     have e:(fun x=>if fo x (e0.outs.take k)=true then some (Value.int .i64 ((j:Nat):Int)) else KS (fK (es.take j)) x)=KS (fK (es.take (j+1))):=by
      funext y
      have ht:es.take (j+1)=es.take j++[e0]:=by rw[dU,HE.out];rfl
      have hlj:(es.take j).length=j:=by rw[ic];have:=HL.out;omega
      unfold KS;rw[ht,TF (Qz HOK.out.2.1 HE.out),hlj,bK (dG HOL.out)]
      by_cases q:fo y e0.outs=true
      ·rw[aH q,aH q];rfl
      rw[aA q,aA q]
     rw[<-e];exact hmap
    clear hmap hm hbl HM
    go_wp2
    exact⟨⟨j+1,m,oW,aJ,HMJ.out.1,HMJ.out.2.1,HMJ.out.2.2⟩,by simp[intOf];omega⟩
  obtain rfl:j=L:=aJ
  have HFIN:Hid (eu Ky (.int .i64 0) wr mb n (KS (fK es))/\n<=1000000/\Below mb w wr):=⟨by have h:=HM.out.1;rw[bK (dG HL.out)] at h;exact h,by have:=HM.out.2.1;omega,HM.out.2.2⟩;clear hmap hn hbl HM
  go_wp2
  go_ret;exact⟨mb,n,rfl,HFIN.out.1,dG XC.out,HFIN.out.2.1,by rw[XC.out];exact HFIN.out.2.2⟩
theorem ZA(n:Nat):(madeCells (Value.slice none 0 0).cells (n*1)).toList=List.replicate n (Value.slice none 0 0):=by
 have h1:(Value.slice none 0 0).cells=#[.slice none 0 0]:=rfl;rw[h1,PG];unfold madeCells;refine List.ext_getElem eB (fun i h1 h2=>?_)
 simp[Nat.mod_one]
variable {B:Nat}
theorem Hz{l:List Nat}(h:w.ownsRow B 3 1 v l.length (mq l)):sw w v l:=by
 obtain⟨ao,cap,rfl,hc,hg⟩:=bE h;refine⟨ao,cap,rfl,hc,?_⟩
 by_cases h0:l=[]
 ·exact aK h0
 obtain⟨g,rfl⟩:=hg (gD.2 h0);exact aP ⟨g,0,rfl,fun k x hx=>by rw[dh];exact(dV h k _ (TJ hx)).1⟩
structure Ai(w0:ak)(gN n:Nat)(es:List dA)(j:Nat)(vs:List Value)(w:ak):Prop where
 row:w.ownsRow w0.heap.size 48 1 (.slice (some ⟨gN,0,none⟩) n n) n vs
 len:vs.length=n
 told:∀i e,i<j->es[i]?=some e->∃v,vs[i]?=some v/\sw w v (Ih es e)/\∀b o m c,v=.slice (some ⟨b,o,none⟩) m c->0<m->b≠gN
 rest:∀i,j<=i->i<n->vs[i]?=some (.slice none 0 0)
 bl:Below w0.heap.size w0 w
variable {w0 w':ak}{gN n:Nat}{vs:List Value}
theorem Ai.later(h:Ai w0 gN n es j vs w)(hb:Below w.heap.size w w'):Ai w0 gN n es j vs w' where
 row:=dR h.row (fun k hk=>hb.block k (bF h.row k hk).2)
 len:=h.len
 told:=fun i e hi he=>by
  obtain⟨v,h1,h2,h3⟩:=h.told i e hi he;exact⟨v,h1,h2.keep (fun k hk=>hb.block k hk),h3⟩
 rest:=h.rest
 bl:=h.bl.trans (hb.mono h.bl.size)
theorem Ai.tell(h:Ai w0 gN n es j vs w)(he:es[j]?=some e0)(hj:j<n)(hr:w'.ownsRow w0.heap.size 48 1 (.slice (some ⟨gN,0,none⟩) n n) n (vs.set j v))(hv:w'.ownsRow w.heap.size 3 1 v (Ih es e0).length (mq (Ih es e0)))(hk:∀k,k<w.heap.size->k≠gN->w'.heap[k]?=w.heap[k]?)(hb:Below w0.heap.size w0 w'):Ai w0 gN n es (j+1) (vs.set j v) w' where
 row:=hr
 len:=by rw[Mw];exact h.len
 told:=fun i e hi he'=>by
  by_cases hij:i=j
  ·subst hij;obtain rfl:e0=e:=ax (he.symm.trans he');refine⟨v,by rw[sD (by rw[h.len];exact hj)],Hz hv,fun b o m c hq hm e=>?_⟩;have h1:=(bF h.row gN rfl).2;subst hq;obtain⟨ao,cap,hf,_,hg⟩:=bE hv;injection hf with f1 f2 f3;obtain⟨g,hg⟩:=hg aJ;rw[hg] at f1;injection f1 with f1;injection f1 with f1 f4 _;have h2:=(bF hv b (by rw[f4];rfl)).1;omega
  obtain⟨u,h1,h2,h3⟩:=h.told i e aJ he';refine⟨u,by rw[Bn (fun q=>hij q.symm)];exact h1,?_,h3⟩;obtain⟨ao,cap,rfl,hc,hl|⟨b,o,rfl,hl⟩⟩:=h2
  ·exact⟨ao,cap,rfl,hc,aK hl⟩
  refine⟨_,cap,rfl,hc,?_⟩
  by_cases h0:Ih es e=[]
  ·exact aK h0
  refine aP ⟨b,o,rfl,fun k x hx=>?_⟩;have:=hl k x hx;exact(aF (w:=w) (a:=⟨b,o+k,none⟩) (hk b (aG this) (h3 b o _ cap rfl (gD.2 h0)))).trans this
 rest:=fun i hi hn=>by
  rw[Bn aJ];exact h.rest i aJ hn
 bl:=hb
theorem Vb(w:ak):(zeroValue 3).run Tryz.prog w=.ok (.int .i64 0) w:=by
 kernel_rfl
variable {mb:Nat}
theorem TK{nm:Nat}(h:og w v es cs)(hmap:eu Ky (.int .i64 0) w mb nm (KS (fK es)))(hl:es.length<=64)(hc:cs.length=es.length)(hok:∀e∈es,e.ins.length<=10000/\e.impl.length<=10000/\e.ord.length<=10000/\∀x∈eO e,x.size<=32):
  Calls Tryz.prog 68 #[v,.map (some mb)] w fun e w'=>∃gN,e=.returned (.slice (some ⟨gN,0,none⟩) es.length es.length)/\vH w' gN (jh es)/\Below w.heap.size w w':=by
 have hinf:(Tryz.prog.info? 48).map (fun i=>(i.size,i.bytes,i.zero))=some (1,24,some (.slice none 0 0)):=dD
 obtain⟨ti,hti,htj⟩:=bA.1 hinf;simp only[Prod.mk.injEq] at htj;obtain⟨w2,hmk,ho,hg⟩:=run_makeSlice_full (P:=Tryz.prog) w w.heap.size 138 48 ti (.slice none 0 0) 1 Tryz.underlying138 hti htj.2.2 htj.1 .i64 .i64 es.length aJ (by rw[htj.2.1];omega) (by unfold maxLen;omega) (ai _);have hb2:Below w.heap.size w w2:=⟨hg.os,hg.tape,hg.output,hg.size,fun k hk=>hg.block k hk eB⟩;rw[ZA] at ho;clear hinf hti htj
 have hinf:(Tryz.prog.info? 3).map (fun i=>(i.size,i.bytes,i.zero))=some (1,8,some (.int .i64 0)):=dD
 obtain⟨tj,hti,htj⟩:=bA.1 hinf;simp only[Prod.mk.injEq] at htj;have HTJ:=aV (aO hti (aO htj.1 (aO htj.2.1 htj.2.2)));have HN0:Hid (Ai w w.heap.size es.length es 0 (List.replicate es.length (.slice none 0 0)) w2):=⟨ho,eB,fun i e hi=>aJ,fun i _ hi=>by simp[hi],hb2⟩;obtain⟨ao,cap,rfl,hrow⟩:=h;have CR:=aV hrow;have HOK:=aV (aO hok hc);have HMP:=aV hmap;clear hinf hti htj ho hg hb2 hrow hok hc hmap;generalize hL:es.length=L at*;have HL:=aV hL;clear hL;generalize hgN:w.heap.size=gN at*;have HGN:=aV hgN;clear hgN
 have l0:(L:Int)<=64:=aJ
 go_enter Tryz.func68,Tryz.ntmps68
 go_wp2_with fail
 clear hmk
 go_loopw [17] (fun i wr=>∃(j:Nat) (vs:List Value),i=.int .i64 j/\j<=L/\Ai w gN L es j vs wr) (fun i _=>L-(intOf i).toNat)
 case atStart=>exact⟨0,_,rfl,aS _,HN0.out⟩
 case round=>
  clear HN0;obtain⟨j,vs,rfl,hj,hns⟩:=hrel;have HNS:=aV hns
  have j0:(0:Int)<=(j:Int):=aJ
  by_cases hlt:j<L
  ·have j1:(j:Int)<(L:Int):=aJ
   obtain⟨e0,he0⟩:∃e,es[j]?=some e:=⟨es[j]'(by have:=HL.out;omega),eB⟩;obtain⟨cm,hcm⟩:∃c,cs[j]?=some c:=⟨cs[j]'(by have:=HL.out;have:=HOK.out.2;omega),eB⟩
   obtain⟨g,o,rfl,hcells⟩:∃g o,ao=some ⟨g,o,none⟩/\∀(k:Nat) e c,es[k]?=some e->cs[k]?=some c->∃vo vi vm vr,(w.cell? ⟨g,o+k*6,none⟩=some vo/\w.cell? ⟨g,o+k*6+1,none⟩=some vi/\w.cell? ⟨g,o+k*6+2,none⟩=some vm/\w.cell? ⟨g,o+k*6+3,none⟩=some vr/\w.cell? ⟨g,o+k*6+4,none⟩=some (.string e.rule)/\w.cell? ⟨g,o+k*6+5,none⟩=some (.string c))/\bL w vo e.outs/\bL w vi e.ins/\bL w vm e.impl/\bL w vr e.ord:=by
    rcases CR.out with q|q
    ·exfalso;have:=HL.out;rw[q] at this;simp at this;omega
    exact q
   obtain⟨vo,vi,vm,vr,⟨d0,d1,d2,d3,d4,d5⟩,UN,MF,tm',UQ⟩:=hcells j e0 cm he0 hcm;have hbl:=hns.bl
   have kc:∀(a:Addr) u,w.cell? a=some u->wr.cell? a=some u:=fun a u h=>(hbl.cell (p:=a) (aG h)).trans h
   have c0:=kc _ _ d0;have c1:=kc _ _ d1;have c2:=kc _ _ d2;have c3:=kc _ _ d3;have c4:=kc _ _ d4;have c5:=kc _ _ d5
   obtain⟨nu,nO,cO,Rx⟩:∃ao n c,vo=.slice ao n c:=by obtain⟨ao,cap,e,_⟩:=UN;exact⟨ao,_,cap,e⟩
   obtain⟨kE,nI,cI,MB⟩:∃ao n c,vi=.slice ao n c:=by obtain⟨ao,cap,e,_⟩:=MF;exact⟨ao,_,cap,e⟩
   obtain⟨lM,nM,cM,Wl⟩:∃ao n c,vm=.slice ao n c:=by obtain⟨ao,cap,e,_⟩:=tm';exact⟨ao,_,cap,e⟩
   obtain⟨nH,nR,cR,Zm⟩:∃ao n c,vr=.slice ao n c:=by obtain⟨ao,cap,e,_⟩:=UQ;exact⟨ao,_,cap,e⟩
   subst Rx MB Wl Zm;have HE:=aV he0;obtain⟨hi1,hi2,hi3,hi4⟩:=HOK.out.1 e0 (aU he0);have HDS:Hid ((∀x∈eO e0,x.size<=32)/\(eO e0).length<=30000):=⟨hi4,by unfold eO;rw[aI,aI];omega⟩;obtain⟨wa,Vi⟩:∃wa,wa=wr.alloc (.cells #[.slice nu nO cO,.slice kE nI cI,.slice lM nM cM,.slice nH nR cR,.string e0.rule,.string cm] 63):=⟨_,rfl⟩
   have hba:Below wr.heap.size wr wa:=by rw[Vi];exact(ay _ _).alloc (ai _) _
   have adE:Below w.heap.size w wa:=hbl.trans (hba.mono hbl.size);have Bc:Hid (Calls Tryz.prog 116 #[.agg #[.slice nu nO cO,.slice kE nI cI,.slice lM nM cM,.slice nH nR cR,.string e0.rule,.string cm]] wa fun e' w'=>∃v,e'=.returned v/\w'.ownsRow wa.heap.size 9 1 v (eO e0).length ((eO e0).map Value.string)/\Below wa.heap.size wa w'):=wN e0 ⟨_,_,_,rfl⟩ (MF.iy adE) (tm'.iy adE) (UQ.iy adE) hi1 hi2 hi3;have NA:=aV (hns.later hba);have HWA:=aV Vi
   have ca:∀i u,(#[.slice nu nO cO,.slice kE nI cI,.slice lM nM cM,.slice nH nR cR,.string e0.rule,.string cm]:Array Value)[i]?=some u->(wr.alloc (.cells #[.slice nu nO cO,.slice kE nI cI,.slice lM nM cM,.slice nH nR cR,.string e0.rule,.string cm] 63)).cell? ⟨wr.heap.size,i,none⟩=some u:=fun i u hu=>by rw[aj _ _ _ _ _ _ (bq wr _ _ rfl)];exact hu
   have a0:=ca 0 _ rfl;have a1:=ca 1 _ rfl;have a2:=ca 2 _ rfl;have a3:=ca 3 _ rfl;have a4:=ca 4 _ rfl;have a5:=ca 5 _ rfl;clear kc d0 d1 d2 d3 d4 d5 UN MF tm' UQ hcells hns hbl he0 hcm hi1 hi2 hi3 hi4 Vi hba adE ca
   go_wp2_with fail
   rw[<-HWA.out];clear a0 a1 a2 a3 a4 a5 c0 c1 c2 c3 c4 c5;refine Bc.out.mono ?_;rintro e1 ws ⟨vf,rfl,hvf,hbs⟩;have Ev:=aV (NA.out.later hbs);obtain⟨af,Ao,agk,_,hgf⟩:=bE hvf;have Yw:=aV hvf;have HGF:=aV hgf;generalize hFL:(eO e0).length=FL at*;have Vn:=aV hFL
   have f0:(FL:Int)<=30000:=by have:=HDS.out.2;omega
   clear hFL hvf hbs hgf;subst agk
   have hset:vs.set j (.slice none 0 0)=vs:=by
    refine FM (fun i=>?_)
    by_cases q:i=j
    ·subst q;rw[sD (by rw[Ev.out.len];exact hlt),Ev.out.rest i (ai _) hlt]
    rw[Bn (fun e=>q e.symm)]
   have HST:Hid (ws.ownsRow w.heap.size 48 1 (.slice (some ⟨gN,0,none⟩) L L) L (vs.set j (.slice none 0 0))):=by rw[hset];exact Ev.out.row
   clear hset Bc NA HNS
   go_wp2_with fail
   go_loopw [25] (fun i wr=>∃(k:Nat) (vj:Value) (l:List Nat),i=.int .i64 k/\k<=FL/\l=((eO e0).take k).filterMap (fK es)/\wr.ownsRow w.heap.size 48 1 (.slice (some ⟨gN,0,none⟩) L L) L (vs.set j vj)/\wr.ownsRow ws.heap.size 3 1 vj l.length (mq l)/\(∀k,k<ws.heap.size->k≠gN->wr.heap[k]?=ws.heap[k]?)/\Below w.heap.size w wr/\ws.heap.size<=wr.heap.size) (fun i _=>FL-(intOf i).toNat)
   case atStart=>exact⟨0,.slice none 0 0,[],rfl,aS _,rfl,HST.out,dK _ _ _ _,fun _ _ _=>rfl,Ev.out.bl,ai _⟩
   case round=>
    clear HST;obtain⟨k,vj,l,rfl,hk,hlk,hrw,Nc,hkp,hbl,hsz⟩:=hrel;have HS:=aV (aO hlk (aO hrw (aO Nc (aO hkp (aO hbl hsz)))))
    have k0:(0:Int)<=(k:Int):=aJ
    by_cases hkl:k<FL
    ·have k1:(k:Int)<(FL:Int):=aJ
     obtain⟨x,hx⟩:∃x,(eO e0)[k]?=some x:=⟨(eO e0)[k]'(by have:=Vn.out;omega),eB⟩;obtain⟨gf,rfl⟩:=HGF.out aJ
     have alz:gf≠gN:=fun e=>pF Yw.out Ev.out.row bS (k:=gf) rfl (by rw[e];rfl)
     have cx:wr.cell? ⟨gf,k,none⟩=some (.string x):=(aF (w:=ws) (a:=⟨gf,k,none⟩) (hkp gf (bF Yw.out gf rfl).2 alz)).trans (dV Yw.out k _ (by simp[hx])).1;have hxs:x.size<=32:=HDS.out.1 x (aU hx);have hmw:=(HMP.out.keep (w':=wr) (hbl.block mb HMP.out.lt)).look_ok (t:=136) Tryz.underlying136 Vb x (by unfold maxLen;omega)
     have htk:(eO e0).take (k+1)=(eO e0).take k++[x]:=by rw[dU,hx];rfl
     cases hmx:fK es x with
     |none=>
      have hf:KS (fK es) x=none:=by unfold KS;rw[hmx];rfl
      rw[hf] at hmw
      have HS2:Hid (l=((eO e0).take (k+1)).filterMap (fK es)):=by
       show _=_;rw[htk,MJ,<-hlk,show [x].filterMap (fK es)=[] by simp[hmx],fM]
      simp only[jG,iU] at hmw;clear hlk hrw Nc hkp hbl hsz hx hf htk hmx
      go_wp2
      exact⟨⟨k+1,vj,l,oW,aJ,HS2.out,HS.out.2⟩,by simp[intOf];omega⟩
     |some p=>
      have hf:KS (fK es) x=some (.int .i64 (p:Nat)):=by unfold KS;rw[hmx];rfl
      rw[hf] at hmw;simp only[dm,gu] at hmw
      have HS2:Hid (l++[p]=((eO e0).take (k+1)).filterMap (fK es)):=by
       show _=_;rw[htk,MJ,<-hlk,show [x].filterMap (fK es)=[p] by simp[hmx]]
      obtain⟨YF,Gg,alS,_,_⟩:=bE Nc
      have hll:l.length<=30000:=by
       rw[hlk];refine aC (wZ _ _) ?_;rw[ic];have:=HDS.out.2;omega
      generalize Qp:l.length=LL at*;have CP:=aV Qp;subst alS;have cj:=(dV hrw j (.slice YF LL Gg) (by rw[sD (by rw[Ev.out.len];exact hlt)])).1;have HJA:=aV Nc;have Ru:Hid ((wr.alloc (.cells #[.int .i64 (p:Nat)] 3)).ownsRow ws.heap.size 3 1 (.slice YF LL Gg) LL (mq l)):=dR Nc (fun k hk=>bC _ _ k (bF Nc k hk).2);have alU:ws.heap.size<=wr.heap.size:=hsz;clear hlk hrw Nc hkp hbl hsz hx hf htk hmx Qp
      go_wp2_with (at_builtin;refine wpList_append_lies _ rfl (.tmp 41) (.tmp 43) 48 rfl ws.heap.size 3 tj (.int .i64 0) 1 8 Tryz.underlying48 HTJ.out.1 HTJ.out.2.2.2 HTJ.out.2.1 HTJ.out.2.2.1 rfl bS _ LL (mq l) rfl Ru.out ⟨wr.heap.size,0,none⟩ 1 1 [.int .i64 (p:Nat)] rfl rfl (by exact iM wr _ _) (by intro u hu;simp only[bg,dH,kz] at hu;rcases hu with rfl;rfl) bS (by unfold maxLen;omega) aJ (by simp;omega) _ rfl ?_;intro g7 lW w7 hv7 wW rF xu;refine dO ?_)
      have hs:=HS.out
      have hjn:∀q,(Value.slice YF LL Gg).ownBlock=some q->ws.heap.size<=q:=fun q hq=>(bF HJA.out q hq).1
      have hgs:gN<ws.heap.size:=(bF Ev.out.row gN rfl).2;have hrw1:(wr.alloc (.cells #[.int .i64 (p:Nat)] 3)).ownsRow w.heap.size 48 1 (.slice (some ⟨gN,0,none⟩) L L) L (vs.set j (.slice YF LL Gg)):=dR hs.2.1 (fun q hq=>bC _ _ q (bF hs.2.1 q hq).2);have agd:w7.ownsRow w.heap.size 48 1 (.slice (some ⟨gN,0,none⟩) L L) L (vs.set j (.slice YF LL Gg)):=dR hrw1 (fun q hq=>wW.block q (bF hrw1 q hq).2 (fun e=>by have h1:gN=q:=ax hq;have:=hjn q e.symm;omega));have c7:=dV agd j (.slice YF LL Gg) (by rw[sD (by rw[Ev.out.len];exact hlt)]);have d7:=c7.1;have f7:=c7.2
      have alx:g7≠gN:=fun e=>by
       rcases rF with q|q
       ·have:=hjn g7 q;omega
       rw[q] at e;simp at e;omega
      have Ew:Hid ((w7.setCell ⟨gN,j,none⟩ (.slice (some ⟨g7,0,none⟩) (LL+1) lW)).ownsRow w.heap.size 48 1 (.slice (some ⟨gN,0,none⟩) L L) L (vs.set j (.slice (some ⟨g7,0,none⟩) (LL+1) lW))/\(w7.setCell ⟨gN,j,none⟩ (.slice (some ⟨g7,0,none⟩) (LL+1) lW)).ownsRow ws.heap.size 3 1 (.slice (some ⟨g7,0,none⟩) (LL+1) lW) (l++[p]).length (mq (l++[p]))/\(∀k,k<ws.heap.size->k≠gN->(w7.setCell ⟨gN,j,none⟩ (.slice (some ⟨g7,0,none⟩) (LL+1) lW)).heap[k]?=ws.heap[k]?)/\Below w.heap.size w (w7.setCell ⟨gN,j,none⟩ (.slice (some ⟨g7,0,none⟩) (LL+1) lW))/\ws.heap.size<=(w7.setCell ⟨gN,j,none⟩ (.slice (some ⟨g7,0,none⟩) (LL+1) lW)).heap.size):=by
       refine⟨?_,?_,fun q hq hn=>?_,?_,?_⟩
       ·have:=FC agd j (.slice (some ⟨g7,0,none⟩) (LL+1) lW);rw[List.set_set] at this;exact this
       ·rw[aI,Fh,CP.out];exact dR hv7 (fun q hq=>au _ _ _ _ (show q≠gN from fun e=>alx (by rw[<-e];exact ax hq)))
       ·rw[au _ _ _ _ hn,wW.block q (by simp;omega) (fun e=>by have:=hjn q e.symm;omega),bC _ _ q aJ];exact hs.2.2.2.1 q hq hn
       ·exact((hs.2.2.2.2.1.alloc (aC Ev.out.bl.size alU) _).grown wW (by have:=Ev.out.bl.size;simp;omega) (fun q hq=>by have:=hjn q hq;have:=Ev.out.bl.size;omega)).setCell (p:=⟨gN,j,none⟩) (dG HGN.out) _
       have h1:=wW.size
       simp at h1⊢
       omega
      clear hv7 wW rF xu hs hjn hrw1 agd c7 cj;unfold Hid
      go_wp2
      exact⟨⟨k+1,_,l++[p],oW,aJ,HS2.out,Ew.out⟩,by simp[intOf];omega⟩
    obtain rfl:k=FL:=aJ
    have HNJ:Hid (Ai w gN L es (j+1) (vs.set j vj) wr):=by
     have hln:l=Ih es e0:=by rw[hlk,bK (dG Vn.out)];rfl
     subst hln;exact Ev.out.tell HE.out hlt hrw Nc hkp hbl
    clear hlk hrw Nc hkp hbl hsz HS
    go_wp2
    exact⟨⟨j+1,_,oW,aJ,HNJ.out⟩,by simp[intOf];omega⟩
  obtain rfl:j=L:=aJ
  have HFIN:Hid (vH wr gN (jh es)/\Below w.heap.size w wr):=by
   refine⟨fun i l hi=>?_,hns.bl⟩;unfold jh at hi;rw[dS] at hi;obtain⟨e,he,rfl⟩:=bA.1 hi
   have hij:i<j:=by rw[<-HL.out];exact(aN.1 he).1
   obtain⟨v,h1,h2,_⟩:=hns.told i e hij he;exact⟨v,(dV hns.row i v h1).1,h2⟩
  clear hns HNS
  go_wp2
  go_ret;exact⟨gN,rfl,HFIN.out.1,by rw[<-HGN.out];exact HFIN.out.2⟩
variable {b:Nat}
theorem nG.snoc(h:eu Mj (.agg #[]) w' b n (fun y=>if y=x then some (.agg #[]) else if fo y l=true then some (.agg #[]) else none)):nG w' b n (l++[x]):=by
 have e:(fun y=>if y=x then some (Value.agg #[]) else if fo y l=true then some (Value.agg #[]) else none)=(fun y=>if fo y (l++[x])=true then some (Value.agg #[]) else none):=by
  funext y
  have hmm:fo y (l++[x])=(fo y l||decide (x=y)):=by unfold fo;simp
  rw[hmm]
  by_cases q:y=x
  ·subst q;simp
  have q':decide (x=y)=false:=bM (fun e=>q e.symm);rw[aA q,q',Vd]
 unfold nG;rw[<-e];exact h
theorem Pm(w:ak):(zeroValue 86).run Tryz.prog w=.ok (.agg #[]) w:=dD
variable {cap:Nat}
theorem Ka{wr:ak}{ao:Option Addr}{L:Nat}(h:og w (.slice ao L cap) es cs)(hL:es.length=L)(hc:cs.length=es.length)(he:es[j]?=some e0)(hb:Below w.heap.size w wr):∃g o nu nO cO kE nI cI lM nM cM nH nR cR cm,ao=some ⟨g,o,none⟩/\(wr.cell? ⟨g,o+j*6,none⟩=some (.slice nu nO cO)/\wr.cell? ⟨g,o+j*6+1,none⟩=some (.slice kE nI cI)/\wr.cell? ⟨g,o+j*6+2,none⟩=some (.slice lM nM cM)/\wr.cell? ⟨g,o+j*6+3,none⟩=some (.slice nH nR cR)/\wr.cell? ⟨g,o+j*6+4,none⟩=some (.string e0.rule)/\wr.cell? ⟨g,o+j*6+5,none⟩=some (.string cm))/\bL wr (.slice nu nO cO) e0.outs/\bL wr (.slice kE nI cI) e0.ins/\bL wr (.slice lM nM cM) e0.impl/\bL wr (.slice nH nR cR) e0.ord/\bL w (.slice nu nO cO) e0.outs:=by
 obtain⟨Bo,cap',hv,hrow⟩:=h;injection hv with e1 e2 e3;subst e1 e3;have hj:=(aN.1 he).1;obtain⟨cm,hcm⟩:∃c,cs[j]?=some c:=⟨cs[j]' aJ,eB⟩
 rcases hrow with q|⟨g,o,rfl,hcells⟩
 ·rw[q] at hj;simp at hj
 obtain⟨vo,vi,vm,vr,⟨d0,d1,d2,d3,d4,d5⟩,UN,MF,tm',UQ⟩:=hcells j e0 cm he hcm
 have kc:∀(a:Addr) u,w.cell? a=some u->wr.cell? a=some u:=fun a u h=>(hb.cell (p:=a) (aG h)).trans h
 obtain⟨nu,nO,cO,Rx⟩:∃ao n c,vo=.slice ao n c:=by obtain⟨ao,cap,e,_⟩:=UN;exact⟨ao,_,cap,e⟩
 obtain⟨kE,nI,cI,MB⟩:∃ao n c,vi=.slice ao n c:=by obtain⟨ao,cap,e,_⟩:=MF;exact⟨ao,_,cap,e⟩
 obtain⟨lM,nM,cM,Wl⟩:∃ao n c,vm=.slice ao n c:=by obtain⟨ao,cap,e,_⟩:=tm';exact⟨ao,_,cap,e⟩
 obtain⟨nH,nR,cR,Zm⟩:∃ao n c,vr=.slice ao n c:=by obtain⟨ao,cap,e,_⟩:=UQ;exact⟨ao,_,cap,e⟩
 subst Rx MB Wl Zm;exact⟨g,o,nu,nO,cO,kE,nI,cI,lM,nM,cM,nH,nR,cR,cm,rfl,⟨kc _ _ d0,kc _ _ d1,kc _ _ d2,kc _ _ d3,kc _ _ d4,kc _ _ d5⟩,UN.iy hb,MF.iy hb,tm'.iy hb,UQ.iy hb,UN⟩
theorem Qv(h:og w v es cs)(hl:es.length<=64)(hc:cs.length=es.length)(hok:∀e∈es,e.outs.length<=10000/\e.ins.length<=10000/\e.impl.length<=10000/\e.ord.length<=10000/\(∀x∈e.outs,x.size<=32)/\∀x∈eO e,x.size<=32):
  Calls Tryz.prog 70 #[v] w fun e w'=>∃v',e=.returned v'/\w'.ownsRow w.heap.size 9 1 v' (yH es).length ((yH es).map Value.string)/\Below w.heap.size w w':=by
 obtain⟨tj,HTJ⟩:=iT (P:=Tryz.prog) (e:=9) (n:=1) (b:=16) (z:=(.string ⟨#[]⟩)) dD;obtain⟨ao,cap,hv,_⟩:=id h;subst hv;have CR:=aV h;have HOK:=aV (aO hok hc)
 have hmk:(Instr.makeMap 122 none).run Tryz.prog w=.ok (.map (some w.heap.size)) (w.alloc (.map #[] 0)):=by simp[Instr.makeMap,go_sem]
 have HM0:Hid (nG (w.alloc (.map #[] 0)) w.heap.size 0 []):=eu.made Mj _ ⟨_,_,rfl⟩ w;have HB0:Hid (Below w.heap.size w (w.alloc (.map #[] 0))):=(ay _ _).alloc (ai _) _;clear h hok hc;generalize hL:es.length=L at*;have HL:=aV hL;clear hL
 have l0:(L:Int)<=64:=aJ
 go_enter Tryz.func70,Tryz.ntmps70
 go_wp2_with fail
 clear hmk;generalize w.alloc (.map #[] 0)=w1 at*;generalize hmb:w.heap.size=mb at*;have XC:=aV hmb;clear hmb
 go_loopw [18] (fun i wr=>∃(j n:Nat),i=.int .i64 j/\j<=L/\nG wr mb n ((es.take j).flatMap eO)/\n<=j*30000/\Below mb w wr) (fun i _=>L-(intOf i).toNat)
 case atStart=>exact⟨0,0,rfl,aS _,HM0.out,aS _,HB0.out⟩
 case round=>
  clear HM0 HB0;obtain⟨j,n,rfl,hj,hmap,hn,hbl⟩:=hrel;have HM:=aV (aO hmap (aO hn hbl))
  have j0:(0:Int)<=(j:Int):=aJ
  by_cases hlt:j<L
  ·have j1:(j:Int)<(L:Int):=aJ
   obtain⟨e0,he0⟩:∃e,es[j]?=some e:=⟨es[j]'(by have:=HL.out;omega),eB⟩;obtain⟨g,o,nu,nO,cO,kE,nI,cI,lM,nM,cM,nH,nR,cR,cm,rfl,⟨c0,c1,c2,c3,c4,c5⟩,UN,MF,tm',UQ,tw'⟩:=Ka CR.out HL.out (HOK.out.2.trans HL.out.symm) he0 (show Below w.heap.size w wr by rw[XC.out];exact hbl);have HE:=aV he0;obtain⟨hi0,hi1,hi2,hi3,hi5,hi4⟩:=HOK.out.1 e0 (aU he0);have HDS:Hid ((∀x∈eO e0,x.size<=32)/\(eO e0).length<=30000):=⟨hi4,by unfold eO;rw[aI,aI];omega⟩;obtain⟨wa,Vi⟩:∃wa,wa=wr.alloc (.cells #[.slice nu nO cO,.slice kE nI cI,.slice lM nM cM,.slice nH nR cR,.string e0.rule,.string cm] 63):=⟨_,rfl⟩
   have hba:Below wr.heap.size wr wa:=by rw[Vi];exact(ay _ _).alloc (ai _) _
   have Bc:Hid (Calls Tryz.prog 116 #[.agg #[.slice nu nO cO,.slice kE nI cI,.slice lM nM cM,.slice nH nR cR,.string e0.rule,.string cm]] wa fun e' w'=>∃v,e'=.returned v/\w'.ownsRow wa.heap.size 9 1 v (eO e0).length ((eO e0).map Value.string)/\Below wa.heap.size wa w'):=wN e0 ⟨_,_,_,rfl⟩ (MF.iy hba) (tm'.iy hba) (UQ.iy hba) hi1 hi2 hi3;have HWA:=aV (aO Vi hba)
   have ca:∀i u,(#[.slice nu nO cO,.slice kE nI cI,.slice lM nM cM,.slice nH nR cR,.string e0.rule,.string cm]:Array Value)[i]?=some u->(wr.alloc (.cells #[.slice nu nO cO,.slice kE nI cI,.slice lM nM cM,.slice nH nR cR,.string e0.rule,.string cm] 63)).cell? ⟨wr.heap.size,i,none⟩=some u:=fun i u hu=>by rw[aj _ _ _ _ _ _ (bq wr _ _ rfl)];exact hu
   have a0:=ca 0 _ rfl;have a1:=ca 1 _ rfl;have a2:=ca 2 _ rfl;have a3:=ca 3 _ rfl;have a4:=ca 4 _ rfl;have a5:=ca 5 _ rfl;clear UN MF tm' UQ tw' hmap hn hbl he0 hi0 hi1 hi2 hi3 hi4 hi5 Vi hba ca
   go_wp2_with fail
   rw[<-HWA.out.1];clear a0 a1 a2 a3 a4 a5 c0 c1 c2 c3 c4 c5;refine Bc.out.mono ?_;rintro e1 ws ⟨vf,rfl,hvf,hbs⟩;have afZ:Below wr.heap.size wr ws:=HWA.out.2.trans (hbs.mono HWA.out.2.size);have HMS:Hid (nG ws mb n ((es.take j).flatMap eO)/\n<=j*30000/\Below mb w ws):=⟨eu.keep HM.out.1 (afZ.block mb HM.out.1.lt),HM.out.2.1,HM.out.2.2.trans (afZ.mono (by have:=HM.out.1.lt;omega))⟩;obtain⟨af,Ao,agk,_,hgf⟩:=bE hvf;have Yw:Hid (ws.ownsRow wa.heap.size 9 1 vf (eO e0).length ((eO e0).map Value.string)/\mb<wa.heap.size):=⟨hvf,aB HM.out.1.lt HWA.out.2.size⟩;have HGF:=aV hgf;generalize hFL:(eO e0).length=FL at*;have Vn:=aV hFL
   have f0:(FL:Int)<=30000:=by have:=HDS.out.2;omega
   clear hFL hvf hbs hgf afZ;subst agk;clear Bc HM
   go_wp2_with fail
   go_loopw [25] (fun i wr=>∃(k m:Nat),i=.int .i64 k/\k<=FL/\nG wr mb m ((es.take j).flatMap eO++(eO e0).take k)/\m<=j*30000+k/\Below mb w wr/\ws.grownBy wr (some mb)) (fun i _=>FL-(intOf i).toNat)
   case atStart=>exact⟨0,n,rfl,aS _,by rw[DF,fM];exact HMS.out.1,HMS.out.2.1,HMS.out.2.2,⟨rfl,rfl,rfl,ai _,fun _ _ _=>rfl⟩⟩
   case round=>
    clear HMS;obtain⟨k,m,rfl,hk,hmap,hm,hbl,hgr⟩:=hrel
    have k0:(0:Int)<=(k:Int):=aJ
    by_cases hkl:k<FL
    ·have k1:(k:Int)<(FL:Int):=aJ
     obtain⟨x,hx⟩:∃x,(eO e0)[k]?=some x:=⟨(eO e0)[k]'(by have:=Vn.out;omega),eB⟩;obtain⟨gf,rfl⟩:=HGF.out aJ;have hgb:=bF Yw.out.1 gf rfl;have cx:wr.cell? ⟨gf,k,none⟩=some (.string x):=(aF (w:=ws) (a:=⟨gf,k,none⟩) (hgr.block gf hgb.2 (fun e=>by have h1:gf=mb:=ax e;have:=Yw.out.2;omega))).trans (dV Yw.out.1 k _ (by simp[hx])).1;have hxs:x.size<=32:=HDS.out.1 x (aU hx);obtain⟨w9,Oj,EU,Ct⟩:=eu.store hmap (t:=122) Tryz.underlying122 (by unfold maxLen;omega) x (by unfold maxLen;omega) (.agg #[]) ⟨_,_,rfl⟩
     have XB:Hid (nG w9 mb (m+1) ((es.take j).flatMap eO++(eO e0).take (k+1))/\m+1<=j*30000+(k+1)/\Below mb w w9/\ws.grownBy w9 (some mb)):=by
      refine⟨?_,aJ,hbl.grown Ct (by have:=hmap.lt;omega) (fun k hk=>dG (ax hk)),Ct.os.trans hgr.os,Ct.tape.trans hgr.tape,Ct.output.trans hgr.output,aC hgr.size Ct.size,fun q hq hn=>(Ct.block q (aB hq hgr.size) hn).trans (hgr.block q hq hn)⟩;rw[dU,hx,lX,<-eZ];exact nG.snoc EU
     clear EU Ct hmap hm hbl hgr hgb
     go_wp2
     exact⟨⟨k+1,m+1,oW,aJ,XB.out⟩,by simp[intOf];omega⟩
    obtain rfl:k=FL:=aJ
    have HMJ:Hid (nG wr mb m ((es.take (j+1)).flatMap eO)/\m<=(j+1)*30000/\Below mb w wr):=by
     refine⟨?_,by have:=HDS.out.2;have:=Vn.out;omega,hbl⟩;rw[dU,HE.out,lX,lC];have h:=hmap;rw[bK (dG Vn.out)] at h
     simpa using h
    clear hmap hm hbl hgr
    go_wp2
    exact⟨⟨j+1,m,oW,aJ,HMJ.out⟩,by simp[intOf];omega⟩
  obtain rfl:j=L:=aJ
  have HMA:Hid (nG wr mb n (es.flatMap eO)/\Below mb w wr):=⟨by have h:=hmap;rw[bK (dG HL.out)] at h;exact h,hbl⟩;clear hmap hn hbl HM
  go_wp2_with fail
  go_loopw [8,36] (fun v i wr=>∃(j' cap:Nat) (ao:Option Addr) (l:List ah),i=.int .i64 j'/\v=.slice ao l.length cap/\j'<=j/\l=((es.take j').flatMap (·.outs)).filter (fun o=>!fo o (es.flatMap eO))/\wr.ownsRow (mb+1) 9 1 (.slice ao l.length cap) l.length (l.map Value.string)/\l.length<=j'*10000/\nG wr mb n (es.flatMap eO)/\Below mb w wr) (fun _ i _=>j-(intOf i).toNat)
  case atStart=>exact⟨0,0,none,[],rfl,rfl,aS _,rfl,dK _ _ _ _,aS _,HMA.out⟩
  case round=>
   clear HMA;obtain⟨i,cp,ap,l,rfl,rfl,hi,hl0,hown,hll,hmap,hbl⟩:=hrel;have HS:=aV (aO hl0 (aO hown (aO hll (aO hmap hbl))))
   have i0:(0:Int)<=(i:Int):=aJ
   by_cases hil:i<j
   ·have i1:(i:Int)<(j:Int):=aJ
    obtain⟨e0,he0⟩:∃e,es[i]?=some e:=⟨es[i]'(by have:=HL.out;omega),eB⟩;obtain⟨g,o,nu,nO,cO,kE,nI,cI,lM,nM,cM,nH,nR,cR,cm,rfl,⟨c0,c1,c2,c3,c4,c5⟩,UN,MF,tm',UQ,tw'⟩:=Ka CR.out HL.out (HOK.out.2.trans HL.out.symm) he0 (show Below w.heap.size w wr by rw[XC.out];exact hbl);have HE:=aV he0;have HEO:Hid ((∀x∈e0.outs,x.size<=32)/\e0.outs.length<=10000):=⟨(HOK.out.1 e0 (aU he0)).2.2.2.2.1,(HOK.out.1 e0 (aU he0)).1⟩;obtain⟨ak5,cO2,agl,hcO,htx⟩:=tw';injection agl with f1 f2 f3;subst f1 f3;have HOL:=aV f2.symm;have CU:=aV htx
    have o0:(nO:Int)<=10000:=by have:=HEO.out.2;have:=HOL.out;omega
    obtain⟨wa,Vi⟩:∃wa,wa=wr.alloc (.cells #[.slice nu nO cO,.slice kE nI cI,.slice lM nM cM,.slice nH nR cR,.string e0.rule,.string cm] 63):=⟨_,rfl⟩
    have hba:Below wr.heap.size wr wa:=by rw[Vi];exact(ay _ _).alloc (ai _) _
    have HSA:Hid (wa.ownsRow (mb+1) 9 1 (.slice ap l.length cp) l.length (l.map Value.string)/\nG wa mb n (es.flatMap eO)/\Below mb w wa):=⟨dR hown (fun q hq=>hba.block q (bF hown q hq).2),eu.keep hmap (hba.block mb hmap.lt),hbl.trans (hba.mono (by have:=hmap.lt;omega))⟩;have HWA:=aV Vi;have CP:=aV hll;have HL0:=aV hl0;clear f2 htx hcO UN MF tm' UQ hl0 hown hll hmap hbl he0 Vi hba HS
    go_wp2_with fail
    rw[<-HWA.out];clear c0 c1 c2 c3 c4 c5
    go_loopw [8,43] (fun v z wr=>∃(k cap:Nat) (ao:Option Addr) (l:List ah),z=.int .i64 k/\v=.slice ao l.length cap/\k<=nO/\l=((es.take i).flatMap (·.outs)++e0.outs.take k).filter (fun o=>!fo o (es.flatMap eO))/\wr.ownsRow (mb+1) 9 1 (.slice ao l.length cap) l.length (l.map Value.string)/\l.length<=i*10000+k/\nG wr mb n (es.flatMap eO)/\Below mb w wr) (fun _ z _=>nO-(intOf z).toNat)
    case atStart=>exact⟨0,cp,ap,l,rfl,rfl,aS _,by rw[DF,fM];exact HL0.out,HSA.out.1,CP.out,HSA.out.2⟩
    case round=>
     clear HSA CP HL0 HWA;clear wa;obtain⟨k,cq,aq,lq,rfl,rfl,hk,hlq,hown,hll,hmap,hbl⟩:=hrel;have HS:=aV (aO hlq (aO hown (aO hll (aO hmap hbl))))
     have k0:(0:Int)<=(k:Int):=aJ
     by_cases hkl:k<nO
     ·have k1:(k:Int)<(nO:Int):=aJ
      obtain⟨x,hx⟩:∃x,e0.outs[k]?=some x:=⟨e0.outs[k]'(by have:=HOL.out;omega),eB⟩
      obtain⟨b,o3,rfl,hct⟩:∃b o,nu=some ⟨b,o,none⟩/\∀k s,e0.outs[k]?=some s->w.cell? ⟨b,o+k,none⟩=some (.string s):=by
       rcases CU.out with ⟨_,q,_⟩|q
       ·exfalso;rw[q] at hx;simp at hx
       exact q
      have cx:wr.cell? ⟨b,o3+k,none⟩=some (.string x):=(hbl.cell (p:=⟨b,o3+k,none⟩) (by have:=aG (hct k x hx);have:=XC.out;omega)).trans (hct k x hx);have hxs:x.size<=32:=HEO.out.1 x (aU hx);have hmw:=eu.look_ok hmap (t:=122) Tryz.underlying122 Pm x (by unfold maxLen;omega)
      have htk:(es.take i).flatMap (·.outs)++e0.outs.take (k+1)=((es.take i).flatMap (·.outs)++e0.outs.take k)++[x]:=by rw[dU,hx,lX,eZ]
      cases hmx:fo x (es.flatMap eO) with
      |true=>
       rw[hmx,aH rfl] at hmw;simp only[dm,gu] at hmw
       have HS2:Hid (lq=((es.take i).flatMap (·.outs)++e0.outs.take (k+1)).filter (fun o=>!fo o (es.flatMap eO))):=by
        show _=_;rw[htk,xP,<-hlq];simp[hmx]
       have HSB:Hid ((wr.alloc (.cells #[] 86)).ownsRow (mb+1) 9 1 (.slice aq lq.length cq) lq.length (lq.map Value.string)/\lq.length<=i*10000+(k+1)/\nG (wr.alloc (.cells #[] 86)) mb n (es.flatMap eO)/\Below mb w (wr.alloc (.cells #[] 86))):=⟨dR hown (fun q hq=>bC _ _ q (bF hown q hq).2),aJ,eu.keep hmap (bC _ _ mb hmap.lt),hbl.alloc (by have:=hmap.lt;omega) _⟩;clear hlq hown hll hmap hbl hx htk hmx hct
       go_wp2_with fail
       exact⟨⟨k+1,cq,aq,lq,oW,rfl,aJ,HS2.out,HSB.out⟩,by simp[intOf];omega⟩
      |false=>
       rw[hmx,aA bS] at hmw;simp only[jG,iU] at hmw
       have HS2:Hid (lq++[x]=((es.take i).flatMap (·.outs)++e0.outs.take (k+1)).filter (fun o=>!fo o (es.flatMap eO))):=by
        show _=_;rw[htk,xP,<-hlq];simp[hmx]
       have HX:Hid (((wr.alloc (.cells #[] 86)).alloc (.cells #[.string x] 9)).ownsRow (mb+1) 9 1 (.slice aq lq.length cq) lq.length (lq.map Value.string)/\nG ((wr.alloc (.cells #[] 86)).alloc (.cells #[.string x] 9)) mb n (es.flatMap eO)/\Below mb w ((wr.alloc (.cells #[] 86)).alloc (.cells #[.string x] 9))):=by
        have h1:Below wr.heap.size wr ((wr.alloc (.cells #[] 86)).alloc (.cells #[.string x] 9)):=((ay _ _).alloc (ai _) _).alloc eB _;exact⟨dR hown (fun q hq=>h1.block q (bF hown q hq).2),eu.keep hmap (h1.block mb hmap.lt),hbl.trans (h1.mono (by have:=hmap.lt;omega))⟩
       have HNC:Hid (∀j u,([.string x]:List Value)[j]?=some u->((wr.alloc (.cells #[] 86)).alloc (.cells #[.string x] 9)).cell? ((⟨wr.heap.size+1,0,none⟩:Addr).add j)=some u):=by
        have:=iM (wr.alloc (.cells #[] 86)) [.string x] 9;rw[bO] at this;exact this
       have SV:=hmap.lt;generalize hLQ:lq.length=LQ at*;have HLQ:=aV hLQ;clear hlq hown hmap hbl hx htk hmx hct hLQ
       go_wp2_with (at_builtin;refine wpList_append_lies _ rfl (.tmp 55) (.tmp 57) 32 rfl (mb+1) 9 tj (.string ⟨#[]⟩) 1 16 Tryz.underlying32 HTJ.out.1 HTJ.out.2.2.2 HTJ.out.2.1 HTJ.out.2.2.1 rfl bS _ LQ (lq.map Value.string) rfl HX.out.1 ⟨wr.heap.size+1,0,none⟩ 1 1 [.string x] rfl rfl HNC.out (by intro u hu;simp only[bg,dH,kz] at hu;rcases hu with rfl;rfl) bS (by unfold maxLen;omega) aJ (by simp;omega) _ rfl ?_;intro g7 lW w7 hv7 wW rF xu;refine dO ?_)
       have hjn:∀q,(Value.slice aq LQ cq).ownBlock=some q->mb+1<=q:=fun q hq=>(bF HX.out.1 q hq).1
       have HS7:Hid (w7.ownsRow (mb+1) 9 1 (.slice (some ⟨g7,0,none⟩) (lq++[x]).length lW) (lq++[x]).length ((lq++[x]).map Value.string)/\(lq++[x]).length<=i*10000+(k+1)/\nG w7 mb n (es.flatMap eO)/\Below mb w w7):=by
        rw[aI,HLQ.out,iI];refine⟨hv7,by simp only[aY,dY];omega,eu.keep HX.out.2.1 (wW.block mb HX.out.2.1.lt (fun e=>by have:=hjn mb e.symm;omega)),HX.out.2.2.grown wW (by have:=HX.out.2.1.lt;omega) (fun q hq=>by have:=hjn q hq;omega)⟩
       have HLX:Hid ((lq++[x]).length=LQ+1):=by rw[aI,HLQ.out];rfl
       clear hv7 wW rF xu hjn HX HNC;unfold Hid
       go_wp2_with fail
       exact⟨⟨k+1,lW,some ⟨g7,0,none⟩,lq++[x],oW,by rw[HLX.out],aJ,HS2.out,HS7.out⟩,by simp[intOf];omega⟩
     obtain rfl:k=nO:=aJ
     have HSJ:Hid (lq=((es.take (i+1)).flatMap (·.outs)).filter (fun o=>!fo o (es.flatMap eO))/\wr.ownsRow (mb+1) 9 1 (.slice aq lq.length cq) lq.length (lq.map Value.string)/\lq.length<=(i+1)*10000/\nG wr mb n (es.flatMap eO)/\Below mb w wr):=by
      refine⟨?_,hown,by have:=HEO.out.2;have:=HOL.out;omega,hmap,hbl⟩;rw[hlq,bK (dG HOL.out),dU,HE.out,lX,lC]
      simp
     clear hlq hown hll hmap hbl HS
     go_wp2_with fail
     exact⟨⟨i+1,cq,aq,lq,oW,rfl,aJ,HSJ.out⟩,by simp[intOf];omega⟩
   obtain rfl:i=j:=aJ
   have HFIN:Hid (wr.ownsRow w.heap.size 9 1 (.slice ap l.length cp) (yH es).length ((yH es).map Value.string)/\Below w.heap.size w wr):=by
    have hle:l=yH es:=by rw[hl0,bK (dG HL.out)];rfl
    rw[<-hle,XC.out];exact⟨wu hown (fH _),hbl⟩
   clear hl0 hown hll hmap hbl HS
   go_wp2
   go_ret;exact⟨_,rfl,by rw[<-XC.out];exact HFIN.out⟩
end
end Go.Proofs.YthhbpebihgjpjaaGreatDoor
