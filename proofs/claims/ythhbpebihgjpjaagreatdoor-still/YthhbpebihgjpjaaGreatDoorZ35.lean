import Derived.Test.YthhbpebihgjpjaaGreatDoorZ34
namespace Go.Proofs.YthhbpebihgjpjaaGreatDoor
set_option maxRecDepth 1000000
set_option maxHeartbeats 20000000
set_option linter.all false
section
open Go.RowKit Go.Maps
variable {S:St}{t:ah}
theorem UB{no:Nat}{rest:List dK}{S':St}{rest':List dK}(h:qV S no t rest=.ok (S',rest'))(ht:t.size<=4000)(hS:∀e∈S.bB,e.rule.size<=4000):∀e∈S'.bB,e.rule.size<=4000:=by
 unfold qV at h
 split at h
 ·cases h
 split at h
 ·unfold wh at h
  split at h
  ·cases h
  split at h
  ·cases h
  split at h
  ·cases h
  split at h
  ·cases h
  split at h
  ·cases h
  split at h
  ·cases h
  injection h with h;obtain⟨rfl,_⟩:=Prod.mk.inj h;exact hS
 split at h
 ·unfold kV at h
  split at h
  ·cases h
  split at h
  ·cases h
  split at h
  ·cases h
  split at h
  ·cases h
  split at h
  ·cases h
  injection h with h;obtain⟨rfl,_⟩:=Prod.mk.inj h;intro e he
  rcases bK.1 he with he|he
  ·exact hS e he
  obtain rfl:=bg.1 he;show(fo _).size<=4000
  have hw:∀u:ah,(fo u).size<=u.size:=fun u=>by rw[lX];exact jX _ _
  refine aA (hw _) (aA (kD _) ?_);rw[aI,aI];omega
 split at h
 ·unfold oh at h
  split at h
  ·cases h
  split at h
  ·cases h
  injection h with h;obtain⟨rfl,_⟩:=Prod.mk.inj h;exact hS
 unfold Nu at h
 split at h
 ·cases h
 split at h
 ·cases h
 injection h with h;obtain⟨rfl,_⟩:=Prod.mk.inj h;exact hS
def NC(W0:Nat)(S:St)(cs:List ah)(mb:Nat)(w:aj):Prop:=
 ∃ev dv ds,w.heap[mb]?=some (.cells #[ev,dv] 101 (0,0))/\w.ownsRow W0 63 6 ev S.bB.length (nG ds cs)/\ds.length=S.bB.length/\cs.length=S.bB.length/\(∀(k:Nat) d e,ds[k]?=some d->S.bB[k]?=some e->bG w d.vo e.outs/\bG w d.vi e.ins/\bG w d.vm e.impl/\bG w d.vr e.ord/\d.rule=e.rule)/\bG w dv S.defs
def MQ(W0:Nat)(S:St)(cs:List ah)(mb:Nat)(w:aj):Prop:=∀w'',w.heap.size<=w''.heap.size->(∀k,W0<=k->k<w.heap.size->w''.heap[k]?=w.heap[k]?)->NC W0 S cs mb w''
variable {W0 mb:Nat}{cs:List ah}{w:aj}
theorem MQ.now(h:MQ W0 S cs mb w):NC W0 S cs mb w:=h w (ai _) (fun _ _ _=>rfl)
variable {w':aj}
theorem MQ.below(h:MQ W0 S cs mb w)(hb:Below w.heap.size w w'):MQ W0 S cs mb w':=fun w'' hs hk=>h w'' (aA hb.size hs) (fun k h1 h2=>(hk k h1 (ay h2 hb.size)).trans (hb.block k h2))
def WH(a:Nat->Addr)(W0:Nat)(r:Except (FM×Nat) (St×List ah))(e:Ending)(w':aj):Prop:=match r with
 |.error bk=>∃fb,e=.returned (.tuple #[.pointer none,.iface 129 (.pointer (some ⟨fb,0,none⟩))])/\w'.cell? ⟨fb,0,none⟩=some (.int .i64 (bk.2:Nat))/\w'.cell? ⟨fb,1,none⟩=some (iW a (BD bk.1))
 |.ok Sc=>∃mb,e=.returned (.tuple #[.pointer (some ⟨mb,0,none⟩),.nilIface])/\MQ W0 Sc.1 Sc.2 mb w'/\SOk Sc.1 0 []
def JG:Prop:=∀(p:PV) (a:Nat->Addr) (B:Nat) (w:aj) (rb:Nat) (n:Int) (x:dK) (rest:List dK) (S:St) (m:Nat),ig p a B w rb n (x::rest) S (m+1)->Calls Tryz.prog 114 #[.pointer (some ⟨rb,0,none⟩)] w (iL a B rb m w (qV S x.1 x.2 rest))
theorem abU(t:ah)(ht:t.size<=4000):jV t=match zy St.none (BZ t) with
  |.error e=>.error e
  |.ok S=>match jg S S.bB with
    |.none=>.error (.syn,0)
    |some cs=>.ok (S,cs):=by
 unfold jV zy;rw[ax (by omega)];rfl
variable {b:Nat}
theorem xW{a:Nat->Addr}{w1 w8:aj}{bk:FM×Nat}{T:Array Value}(hT2:T[2]?=some (.pointer none))(hT3:T[3]?=some (.pointer (some ⟨w.heap.size,0,none⟩)))(hWS:Below w.heap.size w w1)(hRZ:w1.heap.size=w.heap.size+1)(hRN:w1.heap[w.heap.size]?=some (.cells #[.nilIface] 70 (0,0)))(hB8:Below w1.heap.size w1 w8)(s0:w8.cell? ⟨b,0,none⟩=some (.int .i64 (bk.2:Nat)))(s1:w8.cell? ⟨b,1,none⟩=some (iW a (BD bk.1)))(hF:jV t=.error bk):
  bodyPostD Tryz.prog Tryz.f66 (fun e w'=>WH a w.heap.size (jV t) e w'/\Below w.heap.size w w') (Exit.panic [{v:=.iface 129 (.pointer (some ⟨b,0,none⟩)),recovered:=false}]) {tmps:=T,defers:=[{target:=Target.fn (Fn.func 110) #[.pointer (some ⟨w.heap.size,0,none⟩)],args:=#[]}]} w8:=by
 have Pv:=aP hWS;have Ms:=aP hRZ;have IG:=aP hRN;have HB8:=aP hB8;have hrz:=Ms.out;have HE8:w8.heap[w.heap.size]?=some (.cells #[.nilIface] 70 (0,0)):=(HB8.out.block _ (by omega)).trans IG.out
 have hce:w8.cell? ⟨w.heap.size,0,none⟩=some .nilIface:=by rw[bZ HE8];rfl
 have hne:b≠w.heap.size:=fun e=>by rw[e,hce] at s0;cases s0
 have q0:(w8.setCell ⟨w.heap.size,0,none⟩ (.iface 129 (.pointer (some ⟨b,0,none⟩)))).cell? ⟨b,0,none⟩=_:=(aB (w:=w8) (a:=⟨b,0,none⟩) (iP hne)).trans s0;have q1:(w8.setCell ⟨w.heap.size,0,none⟩ (.iface 129 (.pointer (some ⟨b,0,none⟩)))).cell? ⟨b,1,none⟩=_:=(aB (w:=w8) (a:=⟨b,1,none⟩) (iP hne)).trans s1
 have qe:(w8.setCell ⟨w.heap.size,0,none⟩ (.iface 129 (.pointer (some ⟨b,0,none⟩)))).cell? ⟨w.heap.size,0,none⟩=some (.iface 129 (.pointer (some ⟨b,0,none⟩))):=by
  rw[bZ (xY HE8)];rfl
 have HBF:Hid (Below w.heap.size w (w8.setCell ⟨w.heap.size,0,none⟩ (.iface 129 (.pointer (some ⟨b,0,none⟩))))):=(Pv.out.trans (HB8.out.mono Pv.out.size)).setCell (p:=⟨w.heap.size,0,none⟩) (ai _) _;refine eY (f:=110) (args:=#[.pointer (some ⟨w.heap.size,0,none⟩)]) (by simp) (by simp[go_sem]) ?_;refine(IQ ⟨w.heap.size,0,none⟩ b .nilIface w8 hce (iG HE8)).mono ?_;rintro e u' w9 ⟨rfl,rfl,rfl⟩
 simp[Leaves,settle,results,Tryz.results66,go_sem,qe,hT2,hT3]
 rw[hF];exact⟨⟨b,rfl,q0,q1⟩,HBF.out⟩
theorem wG:∀{es:List dm} {cs:List ah},jg S es=some cs->cs.length=es.length
 |[],cs,h=>by rw[jg] at h;obtain rfl:=ak h;rfl
 |e::es,cs,h=>by
  rw[jg] at h
  split at h
  ·cases h
  obtain⟨cs',h1,rfl⟩:=aX.1 h;rw[aS,aS,wG h1]
theorem GH(hSD:JG)(t:ah)(a:Nat->Addr)(w:aj)(hg:Gl a w)(ht:t.size<=140737488351232):
  Calls Tryz.prog 66 #[.string t] w fun e w'=>WH a w.heap.size (jV t) e w'/\Below w.heap.size w w':=by
 have hmf:∀(fn:Fn) (first cap:Array Value) (w:aj),(Instr.makeFunc fn first cap).run Tryz.prog w=.ok (.func fn first cap) w:=fun _ _ _ _=>rfl
 have hmm:= @run_makeMap Tryz.prog;have HG:=aP hg;have HSD:Hid JG:=hSD;have Pv:Hid (Below w.heap.size w (w.alloc (.cells #[.nilIface] 70))):=(au _ _).alloc (ai _) _;have IG:Hid ((w.alloc (.cells #[.nilIface] 70)).heap[w.heap.size]?=some (.cells #[.nilIface] 70 (0,0))):=aW _ _ _ rfl
 have Ms:Hid ((w.alloc (.cells #[.nilIface] 70)).heap.size=w.heap.size+1):=by show _=_;simp
 have HG1:Hid (Gl a (w.alloc (.cells #[.nilIface] 70))):=hg.keep (by simp) (fun k hk=>aZ _ _ k (ay hk hg.size));clear hSD hg
 go_enter_defers Tryz.func66,Tryz.ntmps66
 go_wp2_with fail
 obtain⟨w1,hw1⟩:∃w1,w1=w.alloc (.cells #[.nilIface] 70):=⟨_,rfl⟩;rw[<-hw1] at Pv IG Ms HG1;rw[<-hw1];clear hw1;refine(Ay (.pointer none) ⟨_,rfl⟩ w1).mono ?_;rintro e w2 ⟨sb,tb,rfl,hs2,hm2,ht2,ht3,hb2⟩;have HS2:=aP (aK hs2 (aK hm2 (aK ht2 (aK ht3 hb2))));obtain⟨w3,hw3⟩:∃w3,w3=((w2.alloc (.map #[] 0)).alloc (.map #[] 0)).alloc (.cells #[.int .i64 0,.slice none 0 0,.pointer (some ⟨sb,0,none⟩),.map (some w2.heap.size),.map (some (w2.heap.size+1)),.slice none 0 0,.slice none 0 0] 201):=⟨_,rfl⟩
 have HB3:Hid (Below w2.heap.size w2 w3):=by rw[hw3];exact(((au _ _).alloc (ai _) _).alloc (by simp) _).alloc (by simp;omega) _
 have HR3:Hid (w3.heap[w2.heap.size+2]?=some (.cells #[.int .i64 0,.slice none 0 0,.pointer (some ⟨sb,0,none⟩),.map (some w2.heap.size),.map (some (w2.heap.size+1)),.slice none 0 0,.slice none 0 0] 201 (0,0))):=by rw[hw3];exact aW _ _ _ (by simp)
 have HW3:=aP hw3;have Yl:=aP (hb2.trans (HB3.out.mono hb2.size));have HG3:=aP (HG1.out.below Yl.out HG1.out.size);have c34:w3.cell? ⟨4,0,none⟩=some (.iface 472 (.pointer (some (a 4)))):=HG3.out.errs 4 (by decide)
 have c30:w3.cell? ⟨w2.heap.size+2,0,none⟩=some (.int .i64 0):=by rw[bZ HR3.out];rfl
 clear hs2 hm2 ht2 ht3 hb2
 by_cases h4:t.size<=4000
 ·have HPI:=aP (abU t h4);have HSK:=aeb t;have HSK:Hid ((BZ t).length<=4001/\∀x∈BZ t,x.2.size<=4000):=⟨by omega,fun x hx=>by have:=HSK.2 x hx;omega⟩;have HLN:=Ty t (by omega) a w3 HG3.out
  have t4:(t.size:Int)<=4000:=by omega
  clear h4;generalize BZ t=LS at*;rw[hw3] at c34
  go_wp2_with fail
  rw[<-hw3];refine(gD _ _ _).mono ?_;rintro e w3' ⟨rfl,hw⟩;rw[hw];clear hw c34 hw3;obtain⟨rb,hrb⟩:∃rb,rb=w2.heap.size+1+1:=⟨_,rfl⟩;rw[<-hrb];have HRB:=aP hrb
  have c31:w3.cell? ⟨rb,1,none⟩=some (.slice none 0 0):=by rw[hrb,bZ HR3.out];rfl
  have hrw:rb<w3.heap.size:=by rw[hrb];exact bI HR3.out
  have HRW:Hid (w3.heap[rb]?=some (.cells #[.int .i64 0,.slice none 0 0,.pointer (some ⟨sb,0,none⟩),.map (some w2.heap.size),.map (some (w2.heap.size+1)),.slice none 0 0,.slice none 0 0] 201 (0,0))):=by rw[hrb];exact HR3.out
  clear hrb c30
  go_wp2_with fail
  refine HLN.mono ?_;rintro e w4 ⟨v4,rfl,hl4,hb4⟩;obtain⟨ao4,cap4,rfl,_,_⟩:=bq hl4;have HST:=Uy (B:=w1.heap.size) (w:=w1) HG1.out (by have h1:=HG.out.size;have h2:=Ms.out;omega) (ai _) HS2.out.1 HS2.out.2.1 ⟨HS2.out.2.2.1,HS2.out.2.2.2.1⟩ HS2.out.2.2.2.2 (by rw[<-HW3.out];exact hl4) (by rw[<-HW3.out];exact hb4) HSK.out.2 (by have:=HSK.out.1;omega);rw[<-HRB.out] at HST;have aaO:=aP HST;have c41:w4.cell? ⟨rb,1,none⟩=some (.slice none 0 0):=(hb4.cell (p:=⟨rb,1,none⟩) hrw).trans c31;have f41:w4.frozen? ⟨rb,1,none⟩=false:=iG ((hb4.block _ hrw).trans HRW.out)
  have HRL:Hid (w1.heap.size<=rb):=by have h1:=HRB.out;have h2:=HS2.out.2.2.2.2.size;show _<=_;omega
  have xu:Hid (Below w1.heap.size w1 (w4.setCell ⟨rb,1,none⟩ (.slice ao4 LS.length cap4))):=(Yl.out.trans (hb4.mono Yl.out.size)).setCell (p:=⟨rb,1,none⟩) HRL.out _;clear hl4 hb4 HST c31 HLN HRW hrw HW3 HR3 HB3 HS2 HG3 Yl
  go_wp2_with fail
  generalize w4.setCell ⟨rb,1,none⟩ (.slice ao4 LS.length cap4)=w5 at*;clear c41 f41
  go_loopw [] (fun wr=>∃(p:PV) (n:Int) (S:St) (ls:List dK) (m:Nat),ig p a w1.heap.size wr rb n ls S m/\ls.length<=m/\zy S ls=zy St.none LS/\(∀e∈S.bB,e.rule.size<=4000)/\Below w1.heap.size w1 wr) (fun wr=>Ic (wr.cell? ⟨rb,1,none⟩))
  case atStart=>
   obtain⟨p,hp⟩:=aaO.out;exact⟨p,_,_,_,5000,hp,by have:=HSK.out.1;omega,rfl,(fun e he=>by cases he),xu.out⟩
  case round=>
   obtain⟨p,n,S,ls,m,hp,hlm,hrun,hru,hbl⟩:=hrel;have HP:=aP hp;have aaN:=aP hrun;have HRU:=aP hru;have tq:=aP hbl;obtain⟨aol,aa6,hvl,_,_⟩:=hp.const.now.1
   have c1:wr.cell? ⟨rb,1,none⟩=some (.slice aol ls.length aa6):=by rw[bZ hp.row];exact gW some hvl
   clear hp hrun hru hbl hvl
   cases ls with
   |cons x rest=>
    obtain⟨m',rfl⟩:∃m',m=m'+1:=⟨m-1,by rw[aS] at hlm;omega⟩
    have Rz:Hid (Ic (wr.cell? ⟨rb,1,none⟩)=rest.length+1):=by rw[c1];rfl
    have wU:=HSD.out p a w1.heap.size wr rb n x rest S m' HP.out
    have l0:(0:Int)<((x::rest).length:Int):=by rw[aS];omega
    have apy:rest.length<=m':=by rw[aS] at hlm;omega
    generalize (x::rest).length=LL at*
    go_wp2_with fail
    refine wU.mono ?_;intro e w8 hend;have Bq:=(Uo S x rest).symm.trans aaN.out
    cases hss:qV S x.1 x.2 rest with
    |error bk=>
     rw[hss] at hend Bq;obtain⟨⟨b,rfl,s0,s1⟩,mr⟩:=hend;exact xW (bk:=bk) rfl rfl Pv.out Ms.out IG.out (tq.out.trans mr) s0 s1 (by rw[HPI.out,<-Bq])
    |ok Sr=>
     rw[hss] at hend Bq;obtain⟨rfl,⟨p',n',hp'⟩,mr⟩:=hend;have hr:=El (S':=Sr.1) (rest':=Sr.2) hss;have Ev:Hid (∃(p:PV) (n:Int) (S:St) (ls:List dK) (m:Nat),ig p a w1.heap.size w8 rb n ls S m/\ls.length<=m/\zy S ls=zy St.none LS/\(∀e∈S.bB,e.rule.size<=4000)/\Below w1.heap.size w1 w8):=⟨p',n',Sr.1,Sr.2,m',hp',by omega,Bq,UB (S':=Sr.1) (rest':=Sr.2) hss (HP.out.ok.lines x aM) HRU.out,tq.out.trans mr⟩
     have aky:Hid (Ic (w8.cell? ⟨rb,1,none⟩)=Sr.2.length):=by
      show _=_;obtain⟨ao,cap,hv,_,_⟩:=hp'.const.now.1;rw[bZ hp'.row];show Ic (some p'.vl)=_;rw[hv];rfl
     clear hp' mr hss Bq wU
     go_wp2_with fail
     refine⟨Ev.out,?_⟩;rw[aky.out,Rz.out];omega
   |nil=>
    have HOK:Hid (jV t=match jg S S.bB with
     |.none=>.error (.syn,0)
     |some cs=>.ok (S,cs)):=by
     rw[HPI.out,<-aaN.out,Xj];rfl
    simp only[dR] at c1;have c0:=HP.out.Jg;have f0:wr.frozen? ⟨rb,0,none⟩=false:=iG HP.out.row
    have HP0:Hid (PStB p a w1.heap.size (wr.setCell ⟨rb,0,none⟩ (.int .i64 0)) rb (0:Nat) [] S m):=by
     refine PStB.turn (p':=p) (Er:=p.vl) HP.out.toPStB ⟨rfl,rfl,rfl,by simp,fun k hk hn=>iP (fun e=>hn (by rw[e]))⟩ rfl ?_ (fun _ h=>h) HP.out.ok;show(wr.setCell ⟨rb,0,none⟩ (.int .i64 0)).heap[rb]?=_;rw[xY HP.out.row];rfl
    have HB0:Hid (Below w1.heap.size w1 (wr.setCell ⟨rb,0,none⟩ (.int .i64 0))):=tq.out.setCell (p:=⟨rb,0,none⟩) HRL.out _;have HSO:Hid (SOk S 0 []):=(HP.out.fewer (aN _)).ok;have ahF:=HRU.out;clear hlm HP aaN tq
    go_wp2_with fail
    generalize wr.setCell ⟨rb,0,none⟩ (.int .i64 0)=w5 at*;clear c0 f0 c1;obtain⟨aof,Al,hvf,_,_⟩:=bq HP0.out.defs
    have c6:w5.cell? ⟨rb,6,none⟩=some (.slice aof S.defs.length Al):=by rw[bZ HP0.out.row];exact gW some hvf
    have Yv:=aP hvf;have Ba:=Ql (HP0.out.below (au w5.heap.size w5).drew) ahF
    have c6a:∀wx,Below w5.heap.size w5.drew wx->wx.cell? ⟨rb,6,none⟩=some (.slice aof S.defs.length Al):=fun wx hb=>(hb.cell (p:=⟨rb,6,none⟩) (show rb<w5.heap.size from HP0.out.qi)).trans c6
    have HC6:=aP ((c6a));clear hvf c6a ahF;generalize S.defs.length=DL at*
    cases hcm:jg S S.bB with
    |none=>
     have HF:Hid (jV t=.error (.syn,0)):=by rw[HOK.out,hcm];rfl
     rw[hcm] at Ba;refine jT (by kernel_rfl) ?_;change wpAny _ _ _ _ _ _ _ (World.drew _)
     all_goals first
      | (replace m0:=m0;refine pA 1 2 rfl rfl (by kernel_rfl) (fun K hK=>?_) fun K hK=>?_)
      | (refine pA 0 2 rfl rfl (by kernel_rfl) (fun K hK=>?a2) fun K hK=>?b2
         case' a2=>go_simp;refine hK _ _ ?_;clear hK K;have m0:=True.intro;refine pA 1 2 rfl rfl (by kernel_rfl) (fun K hK=>?_) fun K hK=>?_)
     all_goals
      go_simp
      first
       | (refine hK _ _ ?_;clear hK K)
       | (refine Ba.mono ?_;rintro e w8 ⟨⟨b,rfl,s0,s1⟩,mr⟩;exact xW (bk:=(.syn,0)) rfl rfl Pv.out Ms.out IG.out (HB0.out.drew.trans (mr.mono HB0.out.size)) s0 s1 HF.out)
     all_goals first
      | (replace m0:=m0;refine pA 1 3 rfl rfl (by kernel_rfl) (fun K hK=>?_) fun K hK=>?_)
      | (refine pA 0 3 rfl rfl (by kernel_rfl) (fun K hK=>?a3) fun K hK=>?b3
         case' a3=>go_simp;refine hK _ _ ?_;clear hK K;have m0:=True.intro;refine pA 1 3 rfl rfl (by kernel_rfl) (fun K hK=>?_) fun K hK=>?_)
     all_goals
      go_simp
      first
       | (refine hK _ _ ?_;clear hK K)
       | (refine Ba.mono ?_;rintro e w8 ⟨⟨b,rfl,s0,s1⟩,mr⟩;exact xW (bk:=(.syn,0)) rfl rfl Pv.out Ms.out IG.out (HB0.out.drew.trans (mr.mono HB0.out.size)) s0 s1 HF.out)
     all_goals first
      | (replace m0:=m0;refine pA 1 4 rfl rfl (by kernel_rfl) (fun K hK=>?_) fun K hK=>?_)
      | (refine pA 0 4 rfl rfl (by kernel_rfl) (fun K hK=>?a4) fun K hK=>?b4
         case' a4=>go_simp;refine hK _ _ ?_;clear hK K;have m0:=True.intro;refine pA 1 4 rfl rfl (by kernel_rfl) (fun K hK=>?_) fun K hK=>?_)
     all_goals
      go_simp
      first
       | (refine hK _ _ ?_;clear hK K)
       | (refine Ba.mono ?_;rintro e w8 ⟨⟨b,rfl,s0,s1⟩,mr⟩;exact xW (bk:=(.syn,0)) rfl rfl Pv.out Ms.out IG.out (HB0.out.drew.trans (mr.mono HB0.out.size)) s0 s1 HF.out)
     all_goals first
      | (replace m0:=m0;refine pA 1 5 rfl rfl (by kernel_rfl) (fun K hK=>?_) fun K hK=>?_)
      | (refine pA 0 5 rfl rfl (by kernel_rfl) (fun K hK=>?a5) fun K hK=>?b5
         case' a5=>go_simp;refine hK _ _ ?_;clear hK K;have m0:=True.intro;refine pA 1 5 rfl rfl (by kernel_rfl) (fun K hK=>?_) fun K hK=>?_)
     all_goals
      go_simp
      first
       | (refine hK _ _ ?_;clear hK K)
       | (refine Ba.mono ?_;rintro e w8 ⟨⟨b,rfl,s0,s1⟩,mr⟩;exact xW (bk:=(.syn,0)) rfl rfl Pv.out Ms.out IG.out (HB0.out.drew.trans (mr.mono HB0.out.size)) s0 s1 HF.out)
     all_goals first
      |replace m0:=m0
      | (refine rA 0 rfl (by kernel_rfl) fun K hK=>?_;go_simp;refine hK _ _ ?_;clear hK K)
     all_goals
      refine rA 1 rfl (by kernel_rfl) fun K hK=>?_
      go_simp;refine Ba.mono ?_;rintro e w8 ⟨⟨b,rfl,s0,s1⟩,mr⟩;exact xW (bk:=(.syn,0)) rfl rfl Pv.out Ms.out IG.out (HB0.out.drew.trans (mr.mono HB0.out.size)) s0 s1 HF.out
    |some cs=>
     have HF:Hid (jV t=.ok (S,cs)):=by rw[HOK.out,hcm];rfl
     have HCL:=aP (wG hcm);rw[hcm] at Ba;refine wp_region_noPanic ?_;refine jT (by kernel_rfl) ?_;change wpAny _ _ _ _ _ _ _ (World.drew _);refine uA 0 (.pointer (some ⟨rb,0,none⟩)) rfl ?_<|uA 2 (.pointer (some ⟨rb,0,none⟩)) rfl ?_<|uA 3 (.pointer (some ⟨rb,0,none⟩)) rfl ?_<|uA 4 (.pointer (some ⟨rb,6,none⟩)) rfl ?_ ?_;(iterate 4 ·exact⟨by kernel_rfl,kI,by intro w;go_simp⟩)
     refine pA 1 5 rfl rfl (by kernel_rfl) (fun K hK=>?pA) fun K hK=>?pB
     case' pA=>
      go_simp;refine Ba.mono ?_;rintro e w6 ⟨⟨ev,rfl,hev⟩,hb6⟩;obtain⟨RN,CV,rfl,_,_⟩:=bq hev;have d6:w6.cell? ⟨rb,6,none⟩=some (.slice aof DL Al):=HC6.out w6 hb6;have HEV:Hid (w6.ownsRow w5.heap.size 63 6 (.slice RN S.bB.length CV) S.bB.length (nG p.ds cs)/\Below w5.heap.size w5.drew w6):=⟨(hev),hb6⟩;clear hev hb6;refine hK _ _ ?_;clear hK K
      refine rA 5 rfl (by kernel_rfl) fun K hK=>?_
      go_simp
     case' pB=>
      go_simp;refine hK _ _ ?_;clear hK K
      refine rA 1 rfl (by kernel_rfl) fun K hK=>?_
      go_simp;refine Ba.mono ?_;rintro e w6 ⟨⟨ev,rfl,hev⟩,hb6⟩;obtain⟨RN,CV,rfl,_,_⟩:=bq hev;have d6:w6.cell? ⟨rb,6,none⟩=some (.slice aof DL Al):=HC6.out w6 hb6;have HEV:Hid (w6.ownsRow w5.heap.size 63 6 (.slice RN S.bB.length CV) S.bB.length (nG p.ds cs)/\Below w5.heap.size w5.drew w6):=⟨(hev),hb6⟩;clear hev hb6
     all_goals
      refine hK _ _ ?_;clear hK K
      refine rA 6 rfl (by kernel_rfl) fun K hK=>?_
      go_simp;refine hK _ _ ?_;clear hK K
      refine rA 7 rfl (by kernel_rfl) fun K hK=>?_
      go_simp;refine hK _ _ ?_;clear hK K;obtain⟨wa,Vg⟩:∃wa,wa=w6.alloc (.cells #[.slice RN S.bB.length CV,.slice aof DL Al] 101):=⟨_,rfl⟩
      have XB:Hid (wa.heap[w6.heap.size]?=some (.cells #[.slice RN S.bB.length CV,.slice aof DL Al] 101 (0,0))):=by rw[Vg];exact aW _ _ _ rfl
      have CX:Hid (Below w6.heap.size w6 wa):=by rw[Vg];exact(au _ _).alloc (ai _) _
      rw[<-Vg];clear Vg d6;have acN:Hid (Below w5.heap.size w5 wa):=((au _ _).drew.trans HEV.out.2).trans (CX.out.mono HEV.out.2.size);have ae2:=aP (HB0.out.trans (acN.out.mono HB0.out.size));have HEa:Hid (wa.heap[w.heap.size]?=some (.cells #[.nilIface] 70 (0,0))):=(ae2.out.block _ (by have:=Ms.out;omega)).trans IG.out
      have z0:wa.cell? ⟨w.heap.size,0,none⟩=some .nilIface:=by rw[bZ HEa.out];rfl
      have zf:wa.frozen? ⟨w.heap.size,0,none⟩=false:=iG HEa.out
      refine rA 8 rfl (by kernel_rfl) fun K hK=>?_
      go_simp;refine hK _ _ ?_;clear hK K
      refine rA 9 rfl (by kernel_rfl) fun K hK=>?_
      go_simp;refine hK _ _ ?_;clear hK K;refine yP (by kernel_rfl) (NoPanic.normal ?_) _
      have hsame:∀k,(wa.setCell ⟨w.heap.size,0,none⟩ .nilIface).heap[k]?=wa.heap[k]?:=fun k=>by
       by_cases hk:k=w.heap.size
       ·rw[hk,xY HEa.out,HEa.out];rfl
       exact iP hk
      have HFIN:Hid (MQ w.heap.size S cs w6.heap.size (wa.setCell ⟨w.heap.size,0,none⟩ .nilIface)/\Below w.heap.size w (wa.setCell ⟨w.heap.size,0,none⟩ .nilIface)):=by
       refine⟨?_,(Pv.out.trans (ae2.out.mono Pv.out.size)).setCell (p:=⟨w.heap.size,0,none⟩) (ai _) _⟩;intro w'' hs hk
       have hs':wa.heap.size<=w''.heap.size:=by simpa using hs
       have hka:∀k,w.heap.size<=k->k<wa.heap.size->w''.heap[k]?=wa.heap[k]?:=fun k h1 h2=>(hk k h1 (by simpa using h2)).trans (hsame k)
       have hz:=Ms.out;have s0:=HB0.out.size;have s5:=acN.out.size;have sA:=CX.out.size;have s6:w5.heap.size<=w6.heap.size:=HEV.out.2.size
       have h5:∀k,w.heap.size<=k->k<w5.heap.size->w''.heap[k]?=w5.heap[k]?:=fun k h1 h2=>(hka k h1 (by omega)).trans (acN.out.block k h2)
       have hdr:=HP0.out.const.now.2.2
       have hd2:=(HP0.out.const w'' (by omega) (fun k h1 h2=>h5 k (by
        rcases bR k w.heap.size with q|q
        ·have:=HP0.out.low k (by omega);omega
        exact q) h1)).2.2
       have hmb:=bI XB.out;refine⟨_,_,p.ds,(hka _ (by omega) hmb).trans XB.out,?_,hdr.1,HCL.out,fun k d e h1 h2=>⟨(hd2.2 k d e h1 h2).outs,(hd2.2 k d e h1 h2).ins,(hd2.2 k d e h1 h2).impl,(hd2.2 k d e h1 h2).ord,(hd2.2 k d e h1 h2).rule⟩,?_⟩
       ·refine vZ (dL HEV.out.1 (fun k hk=>(hka k (by have:=(bA HEV.out.1 k hk).1;omega) (by have:=(bA HEV.out.1 k hk).2;omega)).trans (CX.out.block k (bA HEV.out.1 k hk).2))) ?_;have h1:=HB0.out.size;have h2:=Ms.out;omega
       have h3:=HP0.out.defs;rw[Yv.out] at h3;exact zU (dL h3 (fun k hk=>h5 k (by have:=(bA h3 k hk).1;omega) (bA h3 k hk).2))
      have ze:(wa.setCell ⟨w.heap.size,0,none⟩ .nilIface).cell? ⟨w.heap.size,0,none⟩=some .nilIface:=(aB (w:=wa) (a:=⟨w.heap.size,0,none⟩) (hsame _)).trans z0;clear z0 zf hsame XB CX HEa ae2 acN;generalize wa.setCell ⟨w.heap.size,0,none⟩ .nilIface=wf at*
      go_wp2_with fail
      refine eY (f:=110) (args:=#[.pointer (some ⟨w.heap.size,0,none⟩)]) (by simp) (by simp[go_sem]) ?_;refine(VG ⟨w.heap.size,0,none⟩ _).mono ?_;rintro e u' w9 ⟨rfl,rfl,rfl⟩
      simp[Leaves,settle,results,Tryz.results66,go_sem,ze]
      rw[HF.out];exact⟨⟨_,rfl,HFIN.out.1,HSO.out⟩,HFIN.out.2⟩
 have t4:¬(t.size:Int)<=4000:=by omega
 have HF:Hid (jV t=.error (.syn,0)):=by show _=_;unfold jV;rw[aD (by omega)]
 have t5:decide ((t.size:Int)<=4000)=false:=bH t4;have uR:=pq (w2.heap.size+2) 0 472 (.pointer (some (a 4))) w3 c30;rw[hw3] at c34
 go_wp2_with fail
 rw[<-hw3];refine uR.mono ?_;rintro e w8 ⟨⟨b,rfl,s0,s1⟩,mr⟩;exact xW (bk:=(.syn,0)) rfl rfl Pv.out Ms.out IG.out (Yl.out.trans (mr.mono Yl.out.size)) s0 s1 HF.out
end
section
open Go.RowKit Go.Maps Go.Shelf
theorem AJ(l:List ah)(v:Value)(w:aj)(h:bG w v l)(hl:l.length<=10000):
  Calls Tryz.prog 54 #[v] w fun e w'=>∃ao n c,e=.returned (.slice ao n c)/\gu w.heap.size w' (.slice ao n c) l/\(∀k,(Value.slice ao n c).ownBlock=some k->k<w'.heap.size)/\Below w.heap.size w w':=by
 have fin:∀{e:Ending} {w':aj} {v':Value} {l:List ah},e=.returned v'->w'.ownsRow w.heap.size 9 1 v' l.length (l.map Value.string)->Below w.heap.size w w'->∃ao n c,e=.returned (.slice ao n c)/\gu w.heap.size w' (.slice ao n c) l/\(∀k,(Value.slice ao n c).ownBlock=some k->k<w'.heap.size)/\Below w.heap.size w w':=by
  intro e w' v' l he hr hb;obtain⟨ao,cap,rfl,_,_⟩:=bq hr;exact⟨ao,_,cap,he,⟨zU hr,fun k hk=>(bA hr k hk).1⟩,fun k hk=>(bA hr k hk).2,hb⟩
 obtain⟨ao,cap,rfl,hc,⟨h0,rfl,_⟩|⟨b,o,rfl,h⟩⟩:=h
 ·cases ao with
  |none=>
   refine(Any.slices_Clone_string_nil Tryz.laysNm216 0 cap w).mono ?_;rintro e w' ⟨rfl,rfl⟩;exact⟨none,0,0,rfl,⟨⟨none,0,rfl,ai _,aG ⟨fun _=>rfl,rfl,trivial⟩⟩,(fun k hk=>by cases hk)⟩,(fun k hk=>by cases hk),au _ _⟩
  |some a=>
   refine(Any.slices_Clone_string_zero Tryz.laysNm216 a cap w).mono ?_;rintro e w' ⟨v',rfl,hr,_,hb⟩;exact fin (l:=[]) rfl hr hb
 refine(Any.slices_Clone_string Tryz.laysNm216 b o l.length cap l w (ai _) (by omega) (fun j hj=>?_)).mono ?_
 ·rw[h j l[j] (by simp)]
  simp[List.getD,hj]
 rintro e w' ⟨v',rfl,hr,_,hb⟩;rw[rf] at hr;exact fin rfl hr hb
structure rU(W0:Nat)(w:aj)(c:Nat->Nat)(v:Value)(ds:List jM)(es:List dm)(cs:List ah):Prop where
 row:w.ownsRow W0 63 6 v es.length (nG ds cs)
 const:BA c w (fun w=>ds.length=es.length/\∀(k:Nat) d e,ds[k]?=some d->es[k]?=some e->bG w d.vo e.outs/\bG w d.vi e.ins/\bG w d.vm e.impl/\bG w d.vr e.ord/\d.rule=e.rule)
 c1:∀k,v.ownBlock=some k->c k=1
 fresh:∀k,w.heap.size<=k->c k=0
 low:∀k,k<W0->c k=9
theorem oq:∀(ds:List jM) (cs:List ah) (j:Nat) (d:jM) (c:ah) (i:Nat),ds[j]?=some d->cs[j]?=some c->i<6->(nG ds cs)[j*6+i]?=(yD d c)[i]?
 |[],_,j,d,c,i,h,_,_=>by simp at h
 |_::_,[],j,d,c,i,_,h,_=>by simp at h
 |x::ds,y::cs,0,d,c,i,h,h2,hi=>by
  simp only[jk,Option.some.injEq] at h h2;subst h h2;show(yD x y++nG ds cs)[0*6+i]?=_;rw[ql,bW,bQ (by show i<6;exact hi)]
 |x::ds,y::cs,j+1,d,c,i,h,h2,hi=>by
  show(yD x y++nG ds cs)[(j+1)*6+i]?=_;rw[dh (by show 6<=_;omega),show(j+1)*6+i-(yD x y).length=j*6+i by show(j+1)*6+i-6=_;omega];exact oq ds cs j d c i (by simpa using h) (by simpa using h2) hi
variable {W0:Nat}{w w':aj}{c:Nat->Nat}{v:Value}{ds:List jM}{es:List dm}{cs:List ah}
theorem rU.later(h:rU W0 w c v ds es cs)(hb:Below w.heap.size w w'):rU W0 w' c v ds es cs where
 row:=dL h.row (fun k hk=>hb.block k (bA h.row k hk).2)
 const:=h.const.step hb.size (fun k hk h0=>⟨hb.block k hk,h0⟩)
 c1:=h.c1
 fresh:=fun k hk=>h.fresh k (aA hb.size hk)
 low:=h.low
variable {e:dm}{y:ah}
theorem rU.add{wx:aj}{v':Value}{d:jM}(h:rU W0 w c v ds es cs)(hlen:ds.length=cs.length)(hb:Below w.heap.size w wx)(hg:wx.grownBy w' v.ownBlock)(hr:w'.ownsRow W0 63 6 v' (es.length+1) (nG ds cs++yD d y))(hat:∀k,v'.ownBlock=some k->v.ownBlock=some k\/wx.heap.size<=k)(t1:gu w.heap.size wx d.vo e.outs)(t2:gu w.heap.size wx d.vi e.ins)(t3:gu w.heap.size wx d.vm e.impl)(t4:gu w.heap.size wx d.vr e.ord)(hru:d.rule=e.rule):∃c',rU W0 w' c' v' (ds++[d]) (es++[e]) (cs++[y]):=by
 have hx:=h.later hb
 have hoff:∀k,k<wx.heap.size->c k≠1->w'.heap[k]?=wx.heap[k]?:=fun k hk hc=>hg.block k hk (fun e=>hc (h.c1 k e.symm))
 have hn:∀k,k<wx.heap.size->c k≠1->v'.ownBlock≠some k:=fun k hk hc e=>by
  rcases hat k e with q|q
  ·exact hc (h.c1 k q)
  omega
 refine⟨fun k=>if v'.ownBlock=some k then 1 else if c k=1 then 2 else c k,?_⟩
 exact {
  row:=by rw[aF,BN _ _ _ _ hlen];exact hr
  const:=fun w'' hs hk=>by
   have hk2:∀k,k<wx.heap.size->c k=0->w''.heap[k]?=wx.heap[k]?:=fun k h1 h2=>by
    refine(hk k (ay h1 hg.size) ?_).trans (hoff k h1 (by omega));show(if v'.ownBlock=some k then 1 else if c k=1 then 2 else c k)=0;rw[ax (hn k h1 (by omega)),ax (by omega)];exact h2
   have hold:=hx.const w'' (aA hg.size hs) hk2
   have hnew:∀{u:Value} {l:List ah},gu w.heap.size wx u l->bG w'' u l:=fun {u l} hu=>by
    obtain⟨ao,cap,rfl,hc,q|⟨b,o,rfl,q⟩⟩:=hu.1
    ·exact⟨ao,cap,rfl,hc,aG q⟩
    exact⟨_,cap,rfl,hc,aL ⟨b,o,rfl,fun k s hs'=>(aB (w:=wx) (a:=⟨b,o+k,none⟩) (hk2 b (aC (q k s hs')) (h.fresh b (hu.2 b rfl)))).trans (q k s hs')⟩⟩
   refine⟨by simp[hold.1],fun k x z hx' hz=>?_⟩
   rcases bR k ds.length with q|q
   ·rw[bQ q] at hx';rw[bQ (by rw[<-hold.1];exact q)] at hz;exact hold.2 k x z hx' hz
   have hkk:k=ds.length:=by
    have:=(aJ.1 hx').1
    simp at this
    omega
   subst hkk;rw[dh (ai _),qj] at hx';rw[hold.1,dh (ai _),qj] at hz;obtain rfl:=ak hx';obtain rfl:=ak hz;exact⟨hnew t1,hnew t2,hnew t3,hnew t4,hru⟩
  c1:=fun k hk=>aD hk
  fresh:=fun k hk=>by
   have h1:=hg.size;have h0:=hx.fresh k (by omega);show(if v'.ownBlock=some k then 1 else if c k=1 then 2 else c k)=0;rw[ax (fun e=>by have:=(bA hr k e).2;omega),ax (by omega)];exact h0
  low:=fun k hk=>by
   have h0:=h.low k hk;show(if v'.ownBlock=some k then 1 else if c k=1 then 2 else c k)=9
   rw[ax (fun e=>by have:=(bA hr k e).1;omega),ax (by omega)];exact h0}
end
section
open Go.RowKit Go.Maps
variable {w:aj}{B n cap:Nat}
theorem abm{t:TypeId}{s g m:Nat}{xs:List Value}(h:w.ownsRow B t s (.slice (some ⟨g,0,none⟩) n cap) m xs):g<w.heap.size:=(bA h g rfl).2
variable {S:St}{cs:List ah}{mb:Nat}
theorem Xb{W0':Nat}(h:NC W0' S cs mb w)(hn:S.bB.length<=64)(hok:∀e∈S.bB,e.outs.length<=10000/\e.ins.length<=10000/\e.impl.length<=10000/\e.ord.length<=10000):
  Calls Tryz.prog 34 #[.pointer (some ⟨mb,0,none⟩)] w fun e w'=>∃(v:Value) (c:Nat->Nat) (ds:List jM),e=.returned v/\rU w.heap.size w' c v ds S.bB cs/\Below w.heap.size w w':=by
 obtain⟨ti,HTI⟩:=iT (P:=Tryz.prog) (e:=63) (n:=6) (b:=128) (z:=(.agg #[.slice none 0 0,.slice none 0 0,.slice none 0 0,.slice none 0 0,.string ⟨#[]⟩,.string ⟨#[]⟩])) (by kernel_rfl);obtain⟨ev,dv,ds,hm,hrow,hdl,hcl,hlists,_⟩:=h;have HOK:=aP hok;have HLI:=aP hlists;have Rm:=aP (aK hdl hcl);obtain⟨RN,CV,hve,hce,hge⟩:=bq hrow;subst hve;have CZ:=aP hrow;have HGE:=aP hge
 have c0:w.cell? ⟨mb,0,none⟩=some (.slice RN S.bB.length CV):=by rw[bZ hm];rfl
 have hmb:mb<w.heap.size:=bI hm;obtain⟨w1,hmk,hown1,abo⟩:=run_make_own (P:=Tryz.prog) w w.heap.size 60 63 ti _ 6 Tryz.underlying60 HTI.out.1 HTI.out.2.2.2 HTI.out.2.1 .i64 .i64 S.bB.length (by rw[HTI.out.2.2.1];omega) (by unfold maxLen;omega) (ai _);have HB1:Hid (Below w.heap.size w w1):=(au _ w).grown abo (ai _) (fun k hk=>by cases hk);have HO1:=aP hown1;have c01:w1.cell? ⟨mb,0,none⟩=some (.slice RN S.bB.length CV):=(HB1.out.cell (p:=⟨mb,0,none⟩) hmb).trans c0;clear hm hrow hlists hge hce hown1 abo hdl hcl hok;generalize hLE:S.bB.length=L at*;have Rz:=aP hLE
 have l0:(L:Int)<=64:=by omega
 clear hLE
 go_enter Tryz.func34,Tryz.ntmps34
 go_wp2_with fail
 go_loopw [3,17] (fun v i wr=>∃(j cap:Nat) (ao:Option Addr) (c:Nat->Nat) (ds':List jM),i=.int .i64 j/\v=.slice ao j cap/\j<=L/\ds'.length=j/\rU w.heap.size wr c (.slice ao j cap) ds' (S.bB.take j) (cs.take j)/\Below w.heap.size w wr) (fun _ i _=>L-(intOf i).toNat)
 case atStart=>
  refine⟨0,L,_,fun k=>if k=w.heap.size then 1 else if k<w.heap.size then 9 else 0,[],rfl,rfl,aN _,rfl,⟨HO1.out,fun _ _ _=>⟨rfl,fun k d e hd=>by simp at hd⟩,fun k hk=>?_,fun k hk=>?_,fun k hk=>?_⟩,HB1.out⟩
  ·have e:w.heap.size=k:=ak hk;exact aD e.symm
  ·have:=abm HO1.out;exact(ax (by omega)).trans (ax (by omega))
  exact(ax (by omega)).trans (aD hk)
 case round=>
  obtain⟨j,cap,ao,c,ds',rfl,rfl,hle,hdj,hea,hbw⟩:=hrel;have HEA:=aP hea;have lF:=aP hbw;have HDJ:=aP hdj;clear hea hbw hdj
  have j0:(0:Int)<=(j:Int):=by omega
  by_cases hlt:j<L
  ·have j1:(j:Int)<(L:Int):=by omega
   obtain⟨e0,he0⟩:∃e,S.bB[j]?=some e:=⟨S.bB[j]'(by have:=Rz.out;omega),by simp⟩;obtain⟨d,hd⟩:∃d,ds[j]?=some d:=⟨ds[j]'(by have:=Rm.out.1;omega),by simp⟩;obtain⟨cm,hcm⟩:∃c,cs[j]?=some c:=⟨cs[j]'(by have:=Rm.out.2;omega),by simp⟩;have htx:=HLI.out j d e0 hd he0;have Po:=aP (HOK.out e0 (aO he0));obtain⟨g,rfl⟩:=HGE.out (by omega);have hrw:wr.ownsRow W0' 63 6 (.slice (some ⟨g,0,none⟩) L CV) L (nG ds cs):=dL CZ.out (fun k hk=>lF.out.block k (bA CZ.out k hk).2);have e0c:wr.cell? ⟨g,j*6,none⟩=some d.vo:=(dO hrw (j*6+0) _ (oq ds cs j d cm 0 hd hcm (by decide))).1;have e1c:wr.cell? ⟨g,j*6+1,none⟩=some d.vi:=(dO hrw _ _ (oq ds cs j d cm 1 hd hcm (by decide))).1;have e2c:wr.cell? ⟨g,j*6+2,none⟩=some d.vm:=(dO hrw _ _ (oq ds cs j d cm 2 hd hcm (by decide))).1;have e3c:wr.cell? ⟨g,j*6+3,none⟩=some d.vr:=(dO hrw _ _ (oq ds cs j d cm 3 hd hcm (by decide))).1;have e4c:wr.cell? ⟨g,j*6+4,none⟩=some (.string d.rule):=(dO hrw _ _ (oq ds cs j d cm 4 hd hcm (by decide))).1;have e5c:wr.cell? ⟨g,j*6+5,none⟩=some (.string cm):=(dO hrw _ _ (oq ds cs j d cm 5 hd hcm (by decide))).1;have HED:=aP (aK he0 hcm);clear hrw he0 hd hcm;obtain⟨vo,vi,vm,vr,rl,ob⟩:=d;simp only at e0c e1c e2c e3c e4c htx
   obtain⟨mY,no,co,Ru⟩:∃ao n c,vo=.slice ao n c:=by obtain⟨ao,c,e,_⟩:=htx.1;exact⟨ao,_,c,e⟩
   obtain⟨kz,ni,ci,MC⟩:∃ao n c,vi=.slice ao n c:=by obtain⟨ao,c,e,_⟩:=htx.2.1;exact⟨ao,_,c,e⟩
   obtain⟨lH,nm,YP,Wj⟩:∃ao n c,vm=.slice ao n c:=by obtain⟨ao,c,e,_⟩:=htx.2.2.1;exact⟨ao,_,c,e⟩
   obtain⟨nC,nr,cr,Zl⟩:∃ao n c,vr=.slice ao n c:=by obtain⟨ao,c,e,_⟩:=htx.2.2.2.1;exact⟨ao,_,c,e⟩
   subst Ru MC Wj Zl
   have SQ:∀{u:Value} {l:List ah},bG w u l->bG wr u l:=fun {u l} hu=>hu.gY lF.out
   have CQ:Hid (bG wr (.slice mY no co) e0.outs/\bG wr (.slice kz ni ci) e0.ins/\bG wr (.slice lH nm YP) e0.impl/\bG wr (.slice nC nr cr) e0.ord/\rl=e0.rule):=⟨SQ htx.1,SQ htx.2.1,SQ htx.2.2.1,SQ htx.2.2.2.1,htx.2.2.2.2⟩;clear htx SQ;have ahf:Hid ((wr.alloc (.cells #[.slice mY no co,.slice kz ni ci,.slice lH nm YP,.slice nC nr cr,.string rl,.string cm] 63)).heap[wr.heap.size]?=some (.cells #[.slice mY no co,.slice kz ni ci,.slice lH nm YP,.slice nC nr cr,.string rl,.string cm] 63 (0,0))):=aW _ _ _ rfl;have ag1:Hid (Below wr.heap.size wr (wr.alloc (.cells #[.slice mY no co,.slice kz ni ci,.slice lH nm YP,.slice nC nr cr,.string rl,.string cm] 63))):=(au _ _).alloc (ai _) _
   go_wp2_with fail
   generalize wr.alloc (.cells #[.slice mY no co,.slice kz ni ci,.slice lH nm YP,.slice nC nr cr,.string rl,.string cm] 63)=W0 at*;have HE0:=aP ahf;have HB0:=aP ag1;clear ahf ag1 e0c e1c e2c e3c e4c e5c;have HC0:=AJ e0.outs (.slice mY no co) W0 (CQ.out.1.gY HB0.out) (by have:=Po.out;omega);refine HC0.mono ?_;rintro e w2 ⟨vQ,no',Ib,rfl,hty,hlt,hbl⟩;have hsz:wr.heap.size<W0.heap.size:=bI HE0.out;have hrow:w2.heap[wr.heap.size]?=some (.cells #[.slice mY no co,.slice kz ni ci,.slice lH nm YP,.slice nC nr cr,.string rl,.string cm] 63 (0,0)):=(hbl.block _ hsz).trans HE0.out
   have zc:w2.cell? ⟨wr.heap.size,0,none⟩=some (.slice mY no co):=by rw[bZ hrow];rfl
   have zf:w2.frozen? ⟨wr.heap.size,0,none⟩=false:=iG hrow
   have HE1:Hid ((w2.setCell ⟨wr.heap.size,0,none⟩ (.slice vQ no' Ib)).heap[wr.heap.size]?=some (.cells #[.slice vQ no' Ib,.slice kz ni ci,.slice lH nm YP,.slice nC nr cr,.string rl,.string cm] 63 (0,0))):=by
    show _=_;rw[xY hrow];rfl
   have HB1:Hid (Below wr.heap.size wr (w2.setCell ⟨wr.heap.size,0,none⟩ (.slice vQ no' Ib))):=(HB0.out.trans (hbl.mono HB0.out.size)).setCell (p:=⟨wr.heap.size,0,none⟩) (ai _) _
   have hst:∀q,wr.heap.size+1<=q->q<W0.heap.size->(w2.setCell ⟨wr.heap.size,0,none⟩ (.slice vQ no' Ib)).heap[q]?=W0.heap[q]?:=fun q h1 h2=>by
    rw[iP (show q≠wr.heap.size by omega)];exact hbl.block q h2
   have HT0:Hid (gu (wr.heap.size+1) (w2.setCell ⟨wr.heap.size,0,none⟩ (.slice vQ no' Ib)) (.slice vQ no' Ib) e0.outs):=gu.same (w:=w2) ⟨hty.1,fun q hq=>by have:=hty.2 q hq;omega⟩ (fun q h1 _=>iP (show q≠wr.heap.size by omega))
   have zn:(w2.setCell ⟨wr.heap.size,0,none⟩ (.slice vQ no' Ib)).cell? ⟨wr.heap.size,1,none⟩=some (.slice kz ni ci):=by rw[bZ HE1.out];rfl
   clear hty hlt hbl hrow hst hsz HC0 HE0 HB0
   go_wp2_with fail
   generalize w2.setCell ⟨wr.heap.size,0,none⟩ (.slice vQ no' Ib)=W1 at*;clear zc zf zn;have HC1:=AJ e0.ins (.slice kz ni ci) W1 (CQ.out.2.1.gY HB1.out) (by have:=Po.out;omega);refine HC1.mono ?_;rintro e w3 ⟨wX,Jm,Jl,rfl,hty,hlt,hbl⟩;have hsz:wr.heap.size<W1.heap.size:=bI HE1.out;have hrow:w3.heap[wr.heap.size]?=some (.cells #[.slice vQ no' Ib,.slice kz ni ci,.slice lH nm YP,.slice nC nr cr,.string rl,.string cm] 63 (0,0)):=(hbl.block _ hsz).trans HE1.out
   have zc:w3.cell? ⟨wr.heap.size,1,none⟩=some (.slice kz ni ci):=by rw[bZ hrow];rfl
   have zf:w3.frozen? ⟨wr.heap.size,1,none⟩=false:=iG hrow
   have HE2:Hid ((w3.setCell ⟨wr.heap.size,1,none⟩ (.slice wX Jm Jl)).heap[wr.heap.size]?=some (.cells #[.slice vQ no' Ib,.slice wX Jm Jl,.slice lH nm YP,.slice nC nr cr,.string rl,.string cm] 63 (0,0))):=by
    show _=_;rw[xY hrow];rfl
   have HB2:Hid (Below wr.heap.size wr (w3.setCell ⟨wr.heap.size,1,none⟩ (.slice wX Jm Jl))):=(HB1.out.trans (hbl.mono HB1.out.size)).setCell (p:=⟨wr.heap.size,1,none⟩) (ai _) _
   have hst:∀q,wr.heap.size+1<=q->q<W1.heap.size->(w3.setCell ⟨wr.heap.size,1,none⟩ (.slice wX Jm Jl)).heap[q]?=W1.heap[q]?:=fun q h1 h2=>by
    rw[iP (show q≠wr.heap.size by omega)];exact hbl.block q h2
   have HT1:Hid (gu (wr.heap.size+1) (w3.setCell ⟨wr.heap.size,1,none⟩ (.slice wX Jm Jl)) (.slice wX Jm Jl) e0.ins):=gu.same (w:=w3) ⟨hty.1,fun q hq=>by have:=hty.2 q hq;omega⟩ (fun q h1 _=>iP (show q≠wr.heap.size by omega));replace HT0:=aP (HT0.out.same hst)
   have zn:(w3.setCell ⟨wr.heap.size,1,none⟩ (.slice wX Jm Jl)).cell? ⟨wr.heap.size,2,none⟩=some (.slice lH nm YP):=by rw[bZ HE2.out];rfl
   clear hty hlt hbl hrow hst hsz HC1 HE1 HB1
   go_wp2_with fail
   generalize w3.setCell ⟨wr.heap.size,1,none⟩ (.slice wX Jm Jl)=W2 at*;clear zc zf zn;have HC2:=AJ e0.impl (.slice lH nm YP) W2 (CQ.out.2.2.1.gY HB2.out) (by have:=Po.out;omega);refine HC2.mono ?_;rintro e w4 ⟨yx,MF,ME,rfl,hty,hlt,hbl⟩;have hsz:wr.heap.size<W2.heap.size:=bI HE2.out;have hrow:w4.heap[wr.heap.size]?=some (.cells #[.slice vQ no' Ib,.slice wX Jm Jl,.slice lH nm YP,.slice nC nr cr,.string rl,.string cm] 63 (0,0)):=(hbl.block _ hsz).trans HE2.out
   have zc:w4.cell? ⟨wr.heap.size,2,none⟩=some (.slice lH nm YP):=by rw[bZ hrow];rfl
   have zf:w4.frozen? ⟨wr.heap.size,2,none⟩=false:=iG hrow
   have HE3:Hid ((w4.setCell ⟨wr.heap.size,2,none⟩ (.slice yx MF ME)).heap[wr.heap.size]?=some (.cells #[.slice vQ no' Ib,.slice wX Jm Jl,.slice yx MF ME,.slice nC nr cr,.string rl,.string cm] 63 (0,0))):=by
    show _=_;rw[xY hrow];rfl
   have HB3:Hid (Below wr.heap.size wr (w4.setCell ⟨wr.heap.size,2,none⟩ (.slice yx MF ME))):=(HB2.out.trans (hbl.mono HB2.out.size)).setCell (p:=⟨wr.heap.size,2,none⟩) (ai _) _
   have hst:∀q,wr.heap.size+1<=q->q<W2.heap.size->(w4.setCell ⟨wr.heap.size,2,none⟩ (.slice yx MF ME)).heap[q]?=W2.heap[q]?:=fun q h1 h2=>by
    rw[iP (show q≠wr.heap.size by omega)];exact hbl.block q h2
   have HT2:Hid (gu (wr.heap.size+1) (w4.setCell ⟨wr.heap.size,2,none⟩ (.slice yx MF ME)) (.slice yx MF ME) e0.impl):=gu.same (w:=w4) ⟨hty.1,fun q hq=>by have:=hty.2 q hq;omega⟩ (fun q h1 _=>iP (show q≠wr.heap.size by omega));replace HT0:=aP (HT0.out.same hst);replace HT1:=aP (HT1.out.same hst)
   have zn:(w4.setCell ⟨wr.heap.size,2,none⟩ (.slice yx MF ME)).cell? ⟨wr.heap.size,3,none⟩=some (.slice nC nr cr):=by rw[bZ HE3.out];rfl
   clear hty hlt hbl hrow hst hsz HC2 HE2 HB2
   go_wp2_with fail
   generalize w4.setCell ⟨wr.heap.size,2,none⟩ (.slice yx MF ME)=W3 at*;clear zc zf zn;have HC3:=AJ e0.ord (.slice nC nr cr) W3 (CQ.out.2.2.2.1.gY HB3.out) (by have:=Po.out;omega);refine HC3.mono ?_;rintro e w5 ⟨qG,Cw,Ct,rfl,hty,hlt,hbl⟩;have hsz:wr.heap.size<W3.heap.size:=bI HE3.out;have hrow:w5.heap[wr.heap.size]?=some (.cells #[.slice vQ no' Ib,.slice wX Jm Jl,.slice yx MF ME,.slice nC nr cr,.string rl,.string cm] 63 (0,0)):=(hbl.block _ hsz).trans HE3.out
   have zc:w5.cell? ⟨wr.heap.size,3,none⟩=some (.slice nC nr cr):=by rw[bZ hrow];rfl
   have zf:w5.frozen? ⟨wr.heap.size,3,none⟩=false:=iG hrow
   have Vb:Hid ((w5.setCell ⟨wr.heap.size,3,none⟩ (.slice qG Cw Ct)).heap[wr.heap.size]?=some (.cells #[.slice vQ no' Ib,.slice wX Jm Jl,.slice yx MF ME,.slice qG Cw Ct,.string rl,.string cm] 63 (0,0))):=by
    show _=_;rw[xY hrow];rfl
   have xu:Hid (Below wr.heap.size wr (w5.setCell ⟨wr.heap.size,3,none⟩ (.slice qG Cw Ct))):=(HB3.out.trans (hbl.mono HB3.out.size)).setCell (p:=⟨wr.heap.size,3,none⟩) (ai _) _
   have hst:∀q,wr.heap.size+1<=q->q<W3.heap.size->(w5.setCell ⟨wr.heap.size,3,none⟩ (.slice qG Cw Ct)).heap[q]?=W3.heap[q]?:=fun q h1 h2=>by
    rw[iP (show q≠wr.heap.size by omega)];exact hbl.block q h2
   have HT3:Hid (gu (wr.heap.size+1) (w5.setCell ⟨wr.heap.size,3,none⟩ (.slice qG Cw Ct)) (.slice qG Cw Ct) e0.ord):=gu.same (w:=w5) ⟨hty.1,fun q hq=>by have:=hty.2 q hq;omega⟩ (fun q h1 _=>iP (show q≠wr.heap.size by omega));replace HT0:=aP (HT0.out.same hst);replace HT1:=aP (HT1.out.same hst);replace HT2:=aP (HT2.out.same hst)
   have y0:(w5.setCell ⟨wr.heap.size,3,none⟩ (.slice qG Cw Ct)).cell? ⟨wr.heap.size,0,none⟩=some (.slice vQ no' Ib):=by rw[bZ Vb.out];rfl
   have y1:(w5.setCell ⟨wr.heap.size,3,none⟩ (.slice qG Cw Ct)).cell? ⟨wr.heap.size,1,none⟩=some (.slice wX Jm Jl):=by rw[bZ Vb.out];rfl
   have y2:(w5.setCell ⟨wr.heap.size,3,none⟩ (.slice qG Cw Ct)).cell? ⟨wr.heap.size,2,none⟩=some (.slice yx MF ME):=by rw[bZ Vb.out];rfl
   have y3:(w5.setCell ⟨wr.heap.size,3,none⟩ (.slice qG Cw Ct)).cell? ⟨wr.heap.size,3,none⟩=some (.slice qG Cw Ct):=by rw[bZ Vb.out];rfl
   have y4:(w5.setCell ⟨wr.heap.size,3,none⟩ (.slice qG Cw Ct)).cell? ⟨wr.heap.size,4,none⟩=some (.string rl):=by rw[bZ Vb.out];rfl
   have y5:(w5.setCell ⟨wr.heap.size,3,none⟩ (.slice qG Cw Ct)).cell? ⟨wr.heap.size,5,none⟩=some (.string cm):=by rw[bZ Vb.out];rfl
   have hwz:(w5.setCell ⟨wr.heap.size,3,none⟩ (.slice qG Cw Ct)).heap.size=w5.heap.size:=by simp
   have hw5:w.heap.size<=w5.heap.size:=by have h1:=xu.out.size;have h2:=lF.out.size;omega
   have HXA:Hid (rU w.heap.size ((w5.setCell ⟨wr.heap.size,3,none⟩ (.slice qG Cw Ct)).alloc (.cells #[.slice vQ no' Ib,.slice wX Jm Jl,.slice yx MF ME,.slice qG Cw Ct,.string rl,.string cm] 63)) c (.slice ao j cap) ds' (S.bB.take j) (cs.take j)):=(HEA.out.later xu.out).later ((au _ _).alloc (ai _) _)
   have hrj:((w5.setCell ⟨wr.heap.size,3,none⟩ (.slice qG Cw Ct)).alloc (.cells #[.slice vQ no' Ib,.slice wX Jm Jl,.slice yx MF ME,.slice qG Cw Ct,.string rl,.string cm] 63)).ownsRow w.heap.size 63 6 (.slice ao j cap) j (nG ds' (cs.take j)):=by
    have h:=HXA.out.row;rw[gV,lG (by rw[Rz.out];omega)] at h;exact h
   have HRJ:=aP hrj
   have HNC:Hid (∀jj u,([.slice vQ no' Ib,.slice wX Jm Jl,.slice yx MF ME,.slice qG Cw Ct,.string rl,.string cm]:List Value)[jj]?=some u->((w5.setCell ⟨wr.heap.size,3,none⟩ (.slice qG Cw Ct)).alloc (.cells #[.slice vQ no' Ib,.slice wX Jm Jl,.slice yx MF ME,.slice qG Cw Ct,.string rl,.string cm] 63)).cell? ((⟨w5.heap.size,0,none⟩:Addr).add jj)=some u):=by
    have h:=iH (w5.setCell ⟨wr.heap.size,3,none⟩ (.slice qG Cw Ct)) [.slice vQ no' Ib,.slice wX Jm Jl,.slice yx MF ME,.slice qG Cw Ct,.string rl,.string cm] 63;rw[hwz] at h;exact h
   clear hty hlt hbl hrow hst hsz HC3 HE3 HB3 hrj
   go_wp2_with (at_builtin;refine wpList_append_lies _ rfl (.tmp 37) (.tmp 39) 60 rfl w.heap.size 63 ti (.agg #[.slice none 0 0,.slice none 0 0,.slice none 0 0,.slice none 0 0,.string ⟨#[]⟩,.string ⟨#[]⟩]) 6 128 Tryz.underlying60 HTI.out.1 HTI.out.2.2.2 HTI.out.2.1 HTI.out.2.2.1 rfl (by decide) _ j (nG ds' (cs.take j)) rfl HRJ.out ⟨w5.heap.size,0,none⟩ 1 1 [.slice vQ no' Ib,.slice wX Jm Jl,.slice yx MF ME,.slice qG Cw Ct,.string rl,.string cm] rfl rfl HNC.out (by intro u hu;simp only[aV,dz,ko] at hu;rcases hu with rfl|rfl|rfl|rfl|rfl|rfl<;>rfl) (by decide) (by unfold maxLen;omega) (by omega) (by simp;omega) _ rfl ?_;intro g7 lS w7 hv7 wT rC xg;refine dI ?_)
   have HEN:Hid (∃c',rU w.heap.size w7 c' (.slice (some ⟨g7,0,none⟩) (j+1) lS) (ds'++[⟨.slice vQ no' Ib,.slice wX Jm Jl,.slice yx MF ME,.slice qG Cw Ct,rl,0⟩]) (S.bB.take (j+1)) (cs.take (j+1))):=by
    have hbx:Below wr.heap.size wr ((w5.setCell ⟨wr.heap.size,3,none⟩ (.slice qG Cw Ct)).alloc (.cells #[.slice vQ no' Ib,.slice wX Jm Jl,.slice yx MF ME,.slice qG Cw Ct,.string rl,.string cm] 63)):=xu.out.alloc xu.out.size _
    have hup:∀{u:Value} {l:List ah},gu (wr.heap.size+1) (w5.setCell ⟨wr.heap.size,3,none⟩ (.slice qG Cw Ct)) u l->gu wr.heap.size ((w5.setCell ⟨wr.heap.size,3,none⟩ (.slice qG Cw Ct)).alloc (.cells #[.slice vQ no' Ib,.slice wX Jm Jl,.slice yx MF ME,.slice qG Cw Ct,.string rl,.string cm] 63)) u l:=fun {u l} hu=>by
     have h:=hu.keep (w':=(w5.setCell ⟨wr.heap.size,3,none⟩ (.slice qG Cw Ct)).alloc (.cells #[.slice vQ no' Ib,.slice wX Jm Jl,.slice yx MF ME,.slice qG Cw Ct,.string rl,.string cm] 63)) (fun q hq=>aZ _ _ q hq);exact⟨h.1,fun q hq=>by have:=h.2 q hq;omega⟩
    rw[AQ _ _ _ HED.out.1,AQ _ _ _ HED.out.2];refine HEA.out.add (wx:=(w5.setCell ⟨wr.heap.size,3,none⟩ (.slice qG Cw Ct)).alloc (.cells #[.slice vQ no' Ib,.slice wX Jm Jl,.slice yx MF ME,.slice qG Cw Ct,.string rl,.string cm] 63)) (by rw[HDJ.out,gV,lG (by have:=Rm.out.2;have:=Rz.out;omega)]) hbx wT ?_ (fun k hk=>?_) (hup HT0.out) (hup HT1.out) (hup HT2.out) (hup HT3.out) CQ.out.2.2.2.2
    ·rw[gV,lG (by rw[Rz.out];omega)];exact hv7
    have e:g7=k:=ak hk;subst e
    rcases rC with e2|e2
    ·exact aG e2
    right;rw[e2];exact ai _
   have HBN:Hid (Below w.heap.size w w7):=((lF.out.trans (xu.out.mono lF.out.size)).alloc (by simp;omega) _).grown wT (by simp;omega) (fun k hk=>(bA HRJ.out k hk).1);clear hv7 wT rC xg;obtain⟨c7,hc7⟩:=HEN.out;unfold Hid
   go_wp2_with fail
   exact⟨⟨j+1,lS,some ⟨g7,0,none⟩,c7,_,by go_num,rfl,hlt,by rw[aF,HDJ.out];rfl,hc7,HBN.out⟩,by simp[intOf];omega⟩
  obtain rfl:j=L:=by omega
  have j1:¬(j:Int)<(j:Int):=by omega
  go_wp2_with fail
  go_ret;refine⟨_,by rfl,⟨c,ds',?_⟩,lF.out⟩;have h1:=HEA.out;rw[bF (by rw[Rz.out];exact ai _),bF (by rw[Rm.out.2];exact ai _)] at h1;exact h1
end
section
open Go.RowKit
def nZ(w:aj)(v:Value)(es:List dm)(cs:List ah):Prop:=∃ao cap,v=.slice ao es.length cap/\(es=[]\/∃g o,ao=some ⟨g,o,none⟩/\∀(k:Nat) e c,es[k]?=some e->cs[k]?=some c->∃vo vi vm vr,(w.cell? ⟨g,o+k*6,none⟩=some vo/\w.cell? ⟨g,o+k*6+1,none⟩=some vi/\w.cell? ⟨g,o+k*6+2,none⟩=some vm/\w.cell? ⟨g,o+k*6+3,none⟩=some vr/\w.cell? ⟨g,o+k*6+4,none⟩=some (.string e.rule)/\w.cell? ⟨g,o+k*6+5,none⟩=some (.string c))/\bG w vo e.outs/\bG w vi e.ins/\bG w vm e.impl/\bG w vr e.ord)
end
section
open Go.RowKit Go.Maps
def KS(f:ah->Option Nat)(x:ah):Option Value:=(f x).map fun p=>.int .i64 ((p:Nat):Int)
variable {es:List dm}{e:dm}{x:ah}
theorem TA(hn:eT x e.outs=true->fE es x=none):fE (es++[e]) x=if eT x e.outs=true then some es.length else fE es x:=by
 unfold fE at*;rw[List.findIdx?_append]
 by_cases h:eT x e.outs=true
 ·rw[aD h,hn h]
  simp[h]
 rw[ax h]
 simp[h]
variable {y:ah}{l:List ah}
theorem mQ:eT y l=true↔y∈l:=by
 unfold eT
 simp
variable {j:Nat}{e0:dm}
theorem Qx(hnd:(es.flatMap (·.outs)).Nodup)(he:es[j]?=some e0)(hy:eT y e0.outs=true):fE (es.take j) y=none:=by
 have hsp:es=es.take j++e0::es.drop (j+1):=by
  have hj:=(aJ.1 he).1;have:=MP j es;rw[fA hj,(aJ.1 he).2] at this;exact this.symm
 rw[hsp,kZ,mW] at hnd;have hd:=(mX.1 hnd).2.2;unfold fE;rw[List.findIdx?_eq_none_iff];intro e hm
 rcases hq:eT y e.outs with _|_
 ·rfl
 exact absurd rfl (hd y (IJ.2 ⟨e,hm,mQ.1 hq⟩) y (fq _ (mQ.1 hy)))
variable {w:aj}{v:Value}{cs:List ah}
theorem Qw(h:nZ w v es cs)(hl:es.length<=64)(hc:cs.length=es.length)(hok:∀e∈es,e.outs.length<=10000/\∀x∈e.outs,x.size<=32)(hnd:(es.flatMap (·.outs)).Nodup):
  Calls Tryz.prog 67 #[v] w fun e w'=>∃mb n,e=.returned (.map (some mb))/\dU Ky (.int .i64 0) w' mb n (KS (fE es))/\w.heap.size<=mb/\n<=1000000/\Below w.heap.size w w':=by
 obtain⟨ao,cap,rfl,hrow⟩:=h;have CP:=aP hrow;have HOK:=aP (aK hok (aK hnd hc));have HM0:Hid (dU Ky (.int .i64 0) (w.alloc (.map #[] 0)) w.heap.size 0 (KS (fE []))):=dU.made Ky _ ⟨_,_,rfl⟩ w;have HB0:Hid (Below w.heap.size w (w.alloc (.map #[] 0))):=(au _ _).alloc (ai _) _
 have hmk:(Instr.makeMap 136 none).run Tryz.prog w=.ok (.map (some w.heap.size)) (w.alloc (.map #[] 0)):=by simp[Instr.makeMap,go_sem]
 clear hrow hok hnd hc;generalize hL:es.length=L at*;have HL:=aP hL;clear hL
 have l0:(L:Int)<=64:=by omega
 go_enter Tryz.func67,Tryz.ntmps67
 go_wp2_with fail
 clear hmk;generalize w.alloc (.map #[] 0)=w1 at*;generalize hmb:w.heap.size=mb at*;have XB:=aP hmb;clear hmb
 go_loopw [11] (fun i wr=>∃(j n:Nat),i=.int .i64 j/\j<=L/\dU Ky (.int .i64 0) wr mb n (KS (fE (es.take j)))/\n<=j*10000/\Below mb w wr) (fun i _=>L-(intOf i).toNat)
 case atStart=>exact⟨0,0,rfl,aN _,HM0.out,aN _,HB0.out⟩
 case round=>
  clear HM0 HB0;obtain⟨j,n,rfl,hj,hmap,hn,hbl⟩:=hrel;have HM:=aP (aK hmap (aK hn hbl))
  have j0:(0:Int)<=(j:Int):=by omega
  by_cases hlt:j<L
  ·have j1:(j:Int)<(L:Int):=by omega
   obtain⟨e0,he0⟩:∃e,es[j]?=some e:=⟨es[j]'(by have:=HL.out;omega),by simp⟩;obtain⟨cm,hcm⟩:∃c,cs[j]?=some c:=⟨cs[j]'(by have:=HL.out;have:=HOK.out.2.2;omega),by simp⟩
   obtain⟨g,o,rfl,hcells⟩:∃g o,ao=some ⟨g,o,none⟩/\∀(k:Nat) e c,es[k]?=some e->cs[k]?=some c->∃vo vi vm vr,(w.cell? ⟨g,o+k*6,none⟩=some vo/\w.cell? ⟨g,o+k*6+1,none⟩=some vi/\w.cell? ⟨g,o+k*6+2,none⟩=some vm/\w.cell? ⟨g,o+k*6+3,none⟩=some vr/\w.cell? ⟨g,o+k*6+4,none⟩=some (.string e.rule)/\w.cell? ⟨g,o+k*6+5,none⟩=some (.string c))/\bG w vo e.outs/\bG w vi e.ins/\bG w vm e.impl/\bG w vr e.ord:=by
    rcases CP.out with q|q
    ·exfalso;have:=HL.out;rw[q] at this;simp at this;omega
    exact q
   obtain⟨vo,vi,vm,vr,⟨d0,d1,d2,d3,d4,d5⟩,UL,MG,tm',UN⟩:=hcells j e0 cm he0 hcm
   have kc:∀(a:Addr) u,w.cell? a=some u->wr.cell? a=some u:=fun a u h=>(hbl.cell (p:=a) (by have:=aC h;have:=XB.out;omega)).trans h
   have c0:=kc _ _ d0;have c1:=kc _ _ d1;have c2:=kc _ _ d2;have c3:=kc _ _ d3;have c4:=kc _ _ d4;have c5:=kc _ _ d5
   obtain⟨mY,nO,cO,Ru⟩:∃ao n c,vo=.slice ao n c:=by obtain⟨ao,cap,e,_⟩:=UL;exact⟨ao,_,cap,e⟩
   obtain⟨kz,nI,cI,MC⟩:∃ao n c,vi=.slice ao n c:=by obtain⟨ao,cap,e,_⟩:=MG;exact⟨ao,_,cap,e⟩
   obtain⟨lH,nM,cM,Wj⟩:∃ao n c,vm=.slice ao n c:=by obtain⟨ao,cap,e,_⟩:=tm';exact⟨ao,_,cap,e⟩
   obtain⟨nC,nR,cR,Zl⟩:∃ao n c,vr=.slice ao n c:=by obtain⟨ao,cap,e,_⟩:=UN;exact⟨ao,_,cap,e⟩
   subst Ru MC Wj Zl;have Jy:=aP UL;have HE:=aP he0;clear kc d0 d1 d2 d3 d4 d5 UL MG tm' UN hcells hmap hn hbl he0 hcm
   go_wp2_with fail
   clear c0 c1 c2 c3 c4 c5;have HMA:Hid (dU Ky (.int .i64 0) (wr.alloc (.cells #[.slice mY nO cO,.slice kz nI cI,.slice lH nM cM,.slice nC nR cR,.string e0.rule,.string cm] 63)) mb n (KS (fE (es.take j)))/\n<=j*10000/\Below mb w (wr.alloc (.cells #[.slice mY nO cO,.slice kz nI cI,.slice lH nM cM,.slice nC nR cR,.string e0.rule,.string cm] 63))):=⟨HM.out.1.keep (aZ _ _ mb HM.out.1.lt),HM.out.2.1,HM.out.2.2.alloc (by have:=HM.out.1.lt;omega) _⟩;generalize wr.alloc (.cells #[.slice mY nO cO,.slice kz nI cI,.slice lH nM cM,.slice nC nR cR,.string e0.rule,.string cm] 63)=wa at*;obtain⟨ak5,cO2,agh,hcO,htx⟩:=Jy.out;injection agh with f1 f2 f3;subst f1 f3;have HOL:=aP f2.symm;have CQ:=aP htx;have HEO:Hid ((∀x∈e0.outs,x.size<=32)/\e0.outs.length<=10000):=⟨(HOK.out.1 e0 (aO HE.out)).2,(HOK.out.1 e0 (aO HE.out)).1⟩
   have o0:(nO:Int)<=10000:=by have:=HEO.out.2;have:=HOL.out;omega
   clear f2 htx hcO Jy HM
   go_loopw [19] (fun i wr=>∃(k m:Nat),i=.int .i64 k/\k<=nO/\dU Ky (.int .i64 0) wr mb m (fun x=>if eT x (e0.outs.take k)=true then some (.int .i64 (j:Nat)) else KS (fE (es.take j)) x)/\m<=j*10000+k/\Below mb w wr) (fun i _=>nO-(intOf i).toNat)
   case atStart=>exact⟨0,n,rfl,aN _,HMA.out.1,HMA.out.2.1,HMA.out.2.2⟩
   case round=>
    clear HMA;obtain⟨k,m,rfl,hk,hmap,hm,hbl⟩:=hrel;have HM:=aP (aK hmap (aK hm hbl))
    have k0:(0:Int)<=(k:Int):=by omega
    by_cases hkl:k<nO
    ·have k1:(k:Int)<(nO:Int):=by omega
     obtain⟨x,hx⟩:∃x,e0.outs[k]?=some x:=⟨e0.outs[k]'(by have:=HOL.out;omega),by simp⟩
     obtain⟨b,o3,rfl,hct⟩:∃b o,mY=some ⟨b,o,none⟩/\∀k s,e0.outs[k]?=some s->w.cell? ⟨b,o+k,none⟩=some (.string s):=by
      rcases CQ.out with ⟨_,q,_⟩|q
      ·exfalso;rw[q] at hx;simp at hx
      exact q
     have cx:wr.cell? ⟨b,o3+k,none⟩=some (.string x):=(hbl.cell (p:=⟨b,o3+k,none⟩) (by have:=aC (hct k x hx);have:=XB.out;omega)).trans (hct k x hx);have hxs:x.size<=32:=HEO.out.1 x (aO hx);obtain⟨w9,Oh,ET,Cr⟩:=hmap.store (t:=136) Tryz.underlying136 (by unfold maxLen;omega) x (by unfold maxLen;omega) (.int .i64 (j:Nat)) ⟨_,_,rfl⟩
     have XA:Hid (dU Ky (.int .i64 0) w9 mb (m+1) (fun y=>if eT y (e0.outs.take (k+1))=true then some (.int .i64 (j:Nat)) else KS (fE (es.take j)) y)/\m+1<=j*10000+(k+1)/\Below mb w w9):=by
      refine⟨?_,by omega,hbl.grown Cr (by have:=hmap.lt;omega) (fun k hk=>dx (ak hk))⟩
      have e:(fun y=>if y=x then some (Value.int .i64 ((j:Nat):Int)) else if eT y (e0.outs.take k)=true then some (.int .i64 (j:Nat)) else KS (fE (es.take j)) y)=(fun y=>if eT y (e0.outs.take (k+1))=true then some (.int .i64 (j:Nat)) else KS (fE (es.take j)) y):=by
       funext y
       have ht:e0.outs.take (k+1)=e0.outs.take k++[x]:=by
        rw[dN,hx];rfl
       have hmm:eT y (e0.outs.take (k+1))=(eT y (e0.outs.take k)||decide (x=y)):=by rw[ht];unfold eT;simp
       rw[hmm]
       by_cases q:y=x
       ·subst q;simp
       have q':decide (x=y)=false:=bH (fun e=>q e.symm);rw[ax q,q',Va]
      rw[<-e];exact ET
     clear ET Cr hmap hm hbl hct HM
     go_wp2
     exact⟨⟨k+1,m+1,by go_num,by omega,XA.out.1,XA.out.2.1,XA.out.2.2⟩,by simp[intOf];omega⟩
    obtain rfl:k=nO:=by omega
    have HMJ:Hid (dU Ky (.int .i64 0) wr mb m (KS (fE (es.take (j+1))))/\m<=(j+1)*10000/\Below mb w wr):=by
     refine⟨?_,by have:=HEO.out.2;have:=HOL.out;omega,hbl⟩
     have e:(fun x=>if eT x (e0.outs.take k)=true then some (Value.int .i64 ((j:Nat):Int)) else KS (fE (es.take j)) x)=KS (fE (es.take (j+1))):=by
      funext y
      have ht:es.take (j+1)=es.take j++[e0]:=by rw[dN,HE.out];rfl
      have hlj:(es.take j).length=j:=by rw[gV];have:=HL.out;omega
      unfold KS;rw[ht,TA (Qx HOK.out.2.1 HE.out),hlj,bF (dx HOL.out)]
      by_cases q:eT y e0.outs=true
      ·rw[aD q,aD q];rfl
      rw[ax q,ax q]
     rw[<-e];exact hmap
    clear hmap hm hbl HM
    go_wp2
    exact⟨⟨j+1,m,by go_num,by omega,HMJ.out.1,HMJ.out.2.1,HMJ.out.2.2⟩,by simp[intOf];omega⟩
  obtain rfl:j=L:=by omega
  have HFIN:Hid (dU Ky (.int .i64 0) wr mb n (KS (fE es))/\n<=1000000/\Below mb w wr):=⟨by have h:=HM.out.1;rw[bF (dx HL.out)] at h;exact h,by have:=HM.out.2.1;omega,HM.out.2.2⟩;clear hmap hn hbl HM
  go_wp2
  go_ret;exact⟨mb,n,rfl,HFIN.out.1,dx XB.out,HFIN.out.2.1,by rw[XB.out];exact HFIN.out.2.2⟩
theorem Zz(n:Nat):(madeCells (Value.slice none 0 0).cells (n*1)).toList=List.replicate n (Value.slice none 0 0):=by
 have h1:(Value.slice none 0 0).cells=#[.slice none 0 0]:=rfl;rw[h1,Pz];unfold madeCells;refine List.ext_getElem (by simp) (fun i h1 h2=>?_)
 simp[Nat.mod_one]
variable {B:Nat}
theorem Hy{l:List Nat}(h:w.ownsRow B 3 1 v l.length (lZ l)):rZ w v l:=by
 obtain⟨ao,cap,rfl,hc,hg⟩:=bq h;refine⟨ao,cap,rfl,hc,?_⟩
 by_cases h0:l=[]
 ·exact aG h0
 obtain⟨g,rfl⟩:=hg (fZ.2 h0);exact aL ⟨g,0,rfl,fun k x hx=>by rw[bW];exact(dO h k _ (TG hx)).1⟩
structure Ag(w0:aj)(gN n:Nat)(es:List dm)(j:Nat)(vs:List Value)(w:aj):Prop where
 row:w.ownsRow w0.heap.size 48 1 (.slice (some ⟨gN,0,none⟩) n n) n vs
 len:vs.length=n
 told:∀i e,i<j->es[i]?=some e->∃v,vs[i]?=some v/\rZ w v (Ig es e)/\∀b o m c,v=.slice (some ⟨b,o,none⟩) m c->0<m->b≠gN
 rest:∀i,j<=i->i<n->vs[i]?=some (.slice none 0 0)
 bl:Below w0.heap.size w0 w
variable {w0 w':aj}{gN n:Nat}{vs:List Value}
theorem Ag.later(h:Ag w0 gN n es j vs w)(hb:Below w.heap.size w w'):Ag w0 gN n es j vs w' where
 row:=dL h.row (fun k hk=>hb.block k (bA h.row k hk).2)
 len:=h.len
 told:=fun i e hi he=>by
  obtain⟨v,h1,h2,h3⟩:=h.told i e hi he;exact⟨v,h1,h2.keep (fun k hk=>hb.block k hk),h3⟩
 rest:=h.rest
 bl:=h.bl.trans (hb.mono h.bl.size)
theorem Ag.tell(h:Ag w0 gN n es j vs w)(he:es[j]?=some e0)(hj:j<n)(hr:w'.ownsRow w0.heap.size 48 1 (.slice (some ⟨gN,0,none⟩) n n) n (vs.set j v))(hv:w'.ownsRow w.heap.size 3 1 v (Ig es e0).length (lZ (Ig es e0)))(hk:∀k,k<w.heap.size->k≠gN->w'.heap[k]?=w.heap[k]?)(hb:Below w0.heap.size w0 w'):Ag w0 gN n es (j+1) (vs.set j v) w' where
 row:=hr
 len:=by rw[Mw];exact h.len
 told:=fun i e hi he'=>by
  by_cases hij:i=j
  ·subst hij;obtain rfl:e0=e:=ak (he.symm.trans he');refine⟨v,by rw[sj (by rw[h.len];exact hj)],Hy hv,fun b o m c hq hm e=>?_⟩;have h1:=(bA h.row gN rfl).2;subst hq;obtain⟨ao,cap,hf,_,hg⟩:=bq hv;injection hf with f1 f2 f3;obtain⟨g,hg⟩:=hg (by omega);rw[hg] at f1;injection f1 with f1;injection f1 with f1 f4 _;have h2:=(bA hv b (by rw[f4];rfl)).1;omega
  obtain⟨u,h1,h2,h3⟩:=h.told i e (by omega) he';refine⟨u,by rw[Bj (fun q=>hij q.symm)];exact h1,?_,h3⟩;obtain⟨ao,cap,rfl,hc,hl|⟨b,o,rfl,hl⟩⟩:=h2
  ·exact⟨ao,cap,rfl,hc,aG hl⟩
  refine⟨_,cap,rfl,hc,?_⟩
  by_cases h0:Ig es e=[]
  ·exact aG h0
  refine aL ⟨b,o,rfl,fun k x hx=>?_⟩;have:=hl k x hx;exact(aB (w:=w) (a:=⟨b,o+k,none⟩) (hk b (aC this) (h3 b o _ cap rfl (fZ.2 h0)))).trans this
 rest:=fun i hi hn=>by
  rw[Bj (by omega)];exact h.rest i (by omega) hn
 bl:=hb
theorem UZ(w:aj):(zeroValue 3).run Tryz.prog w=.ok (.int .i64 0) w:=by
 kernel_rfl
variable {mb:Nat}
theorem TH{nm:Nat}(h:nZ w v es cs)(hmap:dU Ky (.int .i64 0) w mb nm (KS (fE es)))(hl:es.length<=64)(hc:cs.length=es.length)(hok:∀e∈es,e.ins.length<=10000/\e.impl.length<=10000/\e.ord.length<=10000/\∀x∈dZ e,x.size<=32):
  Calls Tryz.prog 68 #[v,.map (some mb)] w fun e w'=>∃gN,e=.returned (.slice (some ⟨gN,0,none⟩) es.length es.length)/\vF w' gN (jd es)/\Below w.heap.size w w':=by
 have hinf:(Tryz.prog.info? 48).map (fun i=>(i.size,i.bytes,i.zero))=some (1,24,some (.slice none 0 0)):=by kernel_rfl
 obtain⟨ti,hti,htj⟩:=aX.1 hinf;simp only[Prod.mk.injEq] at htj;obtain⟨w2,hmk,ho,hg⟩:=run_makeSlice_full (P:=Tryz.prog) w w.heap.size 138 48 ti (.slice none 0 0) 1 Tryz.underlying138 hti htj.2.2 htj.1 .i64 .i64 es.length (by omega) (by rw[htj.2.1];omega) (by unfold maxLen;omega) (ai _);have hb2:Below w.heap.size w w2:=⟨hg.os,hg.tape,hg.output,hg.size,fun k hk=>hg.block k hk (by simp)⟩;rw[Zz] at ho;clear hinf hti htj
 have hinf:(Tryz.prog.info? 3).map (fun i=>(i.size,i.bytes,i.zero))=some (1,8,some (.int .i64 0)):=by kernel_rfl
 obtain⟨tj,hti,htj⟩:=aX.1 hinf;simp only[Prod.mk.injEq] at htj;have HTJ:=aP (aK hti (aK htj.1 (aK htj.2.1 htj.2.2)));have HN0:Hid (Ag w w.heap.size es.length es 0 (List.replicate es.length (.slice none 0 0)) w2):=⟨ho,by simp,fun i e hi=>by omega,fun i _ hi=>by simp[hi],hb2⟩;obtain⟨ao,cap,rfl,hrow⟩:=h;have CP:=aP hrow;have HOK:=aP (aK hok hc);have HMP:=aP hmap;clear hinf hti htj ho hg hb2 hrow hok hc hmap;generalize hL:es.length=L at*;have HL:=aP hL;clear hL;generalize hgN:w.heap.size=gN at*;have HGN:=aP hgN;clear hgN
 have l0:(L:Int)<=64:=by omega
 go_enter Tryz.func68,Tryz.ntmps68
 go_wp2_with fail
 clear hmk
 go_loopw [17] (fun i wr=>∃(j:Nat) (vs:List Value),i=.int .i64 j/\j<=L/\Ag w gN L es j vs wr) (fun i _=>L-(intOf i).toNat)
 case atStart=>exact⟨0,_,rfl,aN _,HN0.out⟩
 case round=>
  clear HN0;obtain⟨j,vs,rfl,hj,hns⟩:=hrel;have HNS:=aP hns
  have j0:(0:Int)<=(j:Int):=by omega
  by_cases hlt:j<L
  ·have j1:(j:Int)<(L:Int):=by omega
   obtain⟨e0,he0⟩:∃e,es[j]?=some e:=⟨es[j]'(by have:=HL.out;omega),by simp⟩;obtain⟨cm,hcm⟩:∃c,cs[j]?=some c:=⟨cs[j]'(by have:=HL.out;have:=HOK.out.2;omega),by simp⟩
   obtain⟨g,o,rfl,hcells⟩:∃g o,ao=some ⟨g,o,none⟩/\∀(k:Nat) e c,es[k]?=some e->cs[k]?=some c->∃vo vi vm vr,(w.cell? ⟨g,o+k*6,none⟩=some vo/\w.cell? ⟨g,o+k*6+1,none⟩=some vi/\w.cell? ⟨g,o+k*6+2,none⟩=some vm/\w.cell? ⟨g,o+k*6+3,none⟩=some vr/\w.cell? ⟨g,o+k*6+4,none⟩=some (.string e.rule)/\w.cell? ⟨g,o+k*6+5,none⟩=some (.string c))/\bG w vo e.outs/\bG w vi e.ins/\bG w vm e.impl/\bG w vr e.ord:=by
    rcases CP.out with q|q
    ·exfalso;have:=HL.out;rw[q] at this;simp at this;omega
    exact q
   obtain⟨vo,vi,vm,vr,⟨d0,d1,d2,d3,d4,d5⟩,UL,MG,tm',UN⟩:=hcells j e0 cm he0 hcm;have hbl:=hns.bl
   have kc:∀(a:Addr) u,w.cell? a=some u->wr.cell? a=some u:=fun a u h=>(hbl.cell (p:=a) (aC h)).trans h
   have c0:=kc _ _ d0;have c1:=kc _ _ d1;have c2:=kc _ _ d2;have c3:=kc _ _ d3;have c4:=kc _ _ d4;have c5:=kc _ _ d5
   obtain⟨mY,nO,cO,Ru⟩:∃ao n c,vo=.slice ao n c:=by obtain⟨ao,cap,e,_⟩:=UL;exact⟨ao,_,cap,e⟩
   obtain⟨kz,nI,cI,MC⟩:∃ao n c,vi=.slice ao n c:=by obtain⟨ao,cap,e,_⟩:=MG;exact⟨ao,_,cap,e⟩
   obtain⟨lH,nM,cM,Wj⟩:∃ao n c,vm=.slice ao n c:=by obtain⟨ao,cap,e,_⟩:=tm';exact⟨ao,_,cap,e⟩
   obtain⟨nC,nR,cR,Zl⟩:∃ao n c,vr=.slice ao n c:=by obtain⟨ao,cap,e,_⟩:=UN;exact⟨ao,_,cap,e⟩
   subst Ru MC Wj Zl;have HE:=aP he0;obtain⟨hi1,hi2,hi3,hi4⟩:=HOK.out.1 e0 (aO he0);have HDS:Hid ((∀x∈dZ e0,x.size<=32)/\(dZ e0).length<=30000):=⟨hi4,by unfold dZ;rw[aF,aF];omega⟩;obtain⟨wa,Vg⟩:∃wa,wa=wr.alloc (.cells #[.slice mY nO cO,.slice kz nI cI,.slice lH nM cM,.slice nC nR cR,.string e0.rule,.string cm] 63):=⟨_,rfl⟩
   have hba:Below wr.heap.size wr wa:=by rw[Vg];exact(au _ _).alloc (ai _) _
   have adB:Below w.heap.size w wa:=hbl.trans (hba.mono hbl.size);have Ba:Hid (Calls Tryz.prog 116 #[.agg #[.slice mY nO cO,.slice kz nI cI,.slice lH nM cM,.slice nC nR cR,.string e0.rule,.string cm]] wa fun e' w'=>∃v,e'=.returned v/\w'.ownsRow wa.heap.size 9 1 v (dZ e0).length ((dZ e0).map Value.string)/\Below wa.heap.size wa w'):=wK e0 ⟨_,_,_,rfl⟩ (MG.gY adB) (tm'.gY adB) (UN.gY adB) hi1 hi2 hi3;have Ny:=aP (hns.later hba);have HWA:=aP Vg
   have ca:∀i u,(#[.slice mY nO cO,.slice kz nI cI,.slice lH nM cM,.slice nC nR cR,.string e0.rule,.string cm]:Array Value)[i]?=some u->(wr.alloc (.cells #[.slice mY nO cO,.slice kz nI cI,.slice lH nM cM,.slice nC nR cR,.string e0.rule,.string cm] 63)).cell? ⟨wr.heap.size,i,none⟩=some u:=fun i u hu=>by rw[bZ (aW wr _ _ rfl)];exact hu
   have a0:=ca 0 _ rfl;have a1:=ca 1 _ rfl;have a2:=ca 2 _ rfl;have a3:=ca 3 _ rfl;have a4:=ca 4 _ rfl;have a5:=ca 5 _ rfl;clear kc d0 d1 d2 d3 d4 d5 UL MG tm' UN hcells hns hbl he0 hcm hi1 hi2 hi3 hi4 Vg hba adB ca
   go_wp2_with fail
   rw[<-HWA.out];clear a0 a1 a2 a3 a4 a5 c0 c1 c2 c3 c4 c5;refine Ba.out.mono ?_;rintro e1 ws ⟨vf,rfl,hvf,hbs⟩;have Eu:=aP (Ny.out.later hbs);obtain⟨af,Al,agf,_,hgf⟩:=bq hvf;have Yv:=aP hvf;have HGF:=aP hgf;generalize hFL:(dZ e0).length=FL at*;have Vm:=aP hFL
   have f0:(FL:Int)<=30000:=by have:=HDS.out.2;omega
   clear hFL hvf hbs hgf;subst agf
   have hset:vs.set j (.slice none 0 0)=vs:=by
    refine FI (fun i=>?_)
    by_cases q:i=j
    ·subst q;rw[sj (by rw[Eu.out.len];exact hlt),Eu.out.rest i (ai _) hlt]
    rw[Bj (fun e=>q e.symm)]
   have HST:Hid (ws.ownsRow w.heap.size 48 1 (.slice (some ⟨gN,0,none⟩) L L) L (vs.set j (.slice none 0 0))):=by rw[hset];exact Eu.out.row
   clear hset Ba Ny HNS
   go_wp2_with fail
   go_loopw [25] (fun i wr=>∃(k:Nat) (vj:Value) (l:List Nat),i=.int .i64 k/\k<=FL/\l=((dZ e0).take k).filterMap (fE es)/\wr.ownsRow w.heap.size 48 1 (.slice (some ⟨gN,0,none⟩) L L) L (vs.set j vj)/\wr.ownsRow ws.heap.size 3 1 vj l.length (lZ l)/\(∀k,k<ws.heap.size->k≠gN->wr.heap[k]?=ws.heap[k]?)/\Below w.heap.size w wr/\ws.heap.size<=wr.heap.size) (fun i _=>FL-(intOf i).toNat)
   case atStart=>exact⟨0,.slice none 0 0,[],rfl,aN _,rfl,HST.out,dD _ _ _ _,fun _ _ _=>rfl,Eu.out.bl,ai _⟩
   case round=>
    clear HST;obtain⟨k,vj,l,rfl,hk,hlk,hrw,Na,hkp,hbl,hsz⟩:=hrel;have HS:=aP (aK hlk (aK hrw (aK Na (aK hkp (aK hbl hsz)))))
    have k0:(0:Int)<=(k:Int):=by omega
    by_cases hkl:k<FL
    ·have k1:(k:Int)<(FL:Int):=by omega
     obtain⟨x,hx⟩:∃x,(dZ e0)[k]?=some x:=⟨(dZ e0)[k]'(by have:=Vm.out;omega),by simp⟩;obtain⟨gf,rfl⟩:=HGF.out (by omega)
     have alz:gf≠gN:=fun e=>pz Yv.out Eu.out.row (by decide) (k:=gf) rfl (by rw[e];rfl)
     have cx:wr.cell? ⟨gf,k,none⟩=some (.string x):=(aB (w:=ws) (a:=⟨gf,k,none⟩) (hkp gf (bA Yv.out gf rfl).2 alz)).trans (dO Yv.out k _ (by simp[hx])).1;have hxs:x.size<=32:=HDS.out.1 x (aO hx);have hmw:=(HMP.out.keep (w':=wr) (hbl.block mb HMP.out.lt)).look_ok (t:=136) Tryz.underlying136 UZ x (by unfold maxLen;omega)
     have htk:(dZ e0).take (k+1)=(dZ e0).take k++[x]:=by rw[dN,hx];rfl
     cases hmx:fE es x with
     |none=>
      have hf:KS (fE es) x=none:=by unfold KS;rw[hmx];rfl
      rw[hf] at hmw
      have HS2:Hid (l=((dZ e0).take (k+1)).filterMap (fE es)):=by
       show _=_;rw[htk,MN,<-hlk,show [x].filterMap (fE es)=[] by simp[hmx],fF]
      simp only[jC,iN] at hmw;clear hlk hrw Na hkp hbl hsz hx hf htk hmx
      go_wp2
      exact⟨⟨k+1,vj,l,by go_num,by omega,HS2.out,HS.out.2⟩,by simp[intOf];omega⟩
     |some p=>
      have hf:KS (fE es) x=some (.int .i64 (p:Nat)):=by unfold KS;rw[hmx];rfl
      rw[hf] at hmw;simp only[bY,fT] at hmw
      have HS2:Hid (l++[p]=((dZ e0).take (k+1)).filterMap (fE es)):=by
       show _=_;rw[htk,MN,<-hlk,show [x].filterMap (fE es)=[p] by simp[hmx]]
      obtain⟨YE,Gf,alS,_,_⟩:=bq Na
      have hll:l.length<=30000:=by
       rw[hlk];refine aA (wW _ _) ?_;rw[gV];have:=HDS.out.2;omega
      generalize Qn:l.length=LL at*;have CK:=aP Qn;subst alS;have cj:=(dO hrw j (.slice YE LL Gf) (by rw[sj (by rw[Eu.out.len];exact hlt)])).1;have HJA:=aP Na;have Rq:Hid ((wr.alloc (.cells #[.int .i64 (p:Nat)] 3)).ownsRow ws.heap.size 3 1 (.slice YE LL Gf) LL (lZ l)):=dL Na (fun k hk=>aZ _ _ k (bA Na k hk).2);have alU:ws.heap.size<=wr.heap.size:=hsz;clear hlk hrw Na hkp hbl hsz hx hf htk hmx Qn
      go_wp2_with (at_builtin;refine wpList_append_lies _ rfl (.tmp 41) (.tmp 43) 48 rfl ws.heap.size 3 tj (.int .i64 0) 1 8 Tryz.underlying48 HTJ.out.1 HTJ.out.2.2.2 HTJ.out.2.1 HTJ.out.2.2.1 rfl (by decide) _ LL (lZ l) rfl Rq.out ⟨wr.heap.size,0,none⟩ 1 1 [.int .i64 (p:Nat)] rfl rfl (by exact iH wr _ _) (by intro u hu;simp only[aV,dz,ko] at hu;rcases hu with rfl;rfl) (by decide) (by unfold maxLen;omega) (by omega) (by simp;omega) _ rfl ?_;intro g7 lS w7 hv7 wT rC xg;refine dI ?_)
      have hs:=HS.out
      have hjn:∀q,(Value.slice YE LL Gf).ownBlock=some q->ws.heap.size<=q:=fun q hq=>(bA HJA.out q hq).1
      have hgs:gN<ws.heap.size:=(bA Eu.out.row gN rfl).2;have hrw1:(wr.alloc (.cells #[.int .i64 (p:Nat)] 3)).ownsRow w.heap.size 48 1 (.slice (some ⟨gN,0,none⟩) L L) L (vs.set j (.slice YE LL Gf)):=dL hs.2.1 (fun q hq=>aZ _ _ q (bA hs.2.1 q hq).2);have af9:w7.ownsRow w.heap.size 48 1 (.slice (some ⟨gN,0,none⟩) L L) L (vs.set j (.slice YE LL Gf)):=dL hrw1 (fun q hq=>wT.block q (bA hrw1 q hq).2 (fun e=>by have h1:gN=q:=ak hq;have:=hjn q e.symm;omega));have c7:=dO af9 j (.slice YE LL Gf) (by rw[sj (by rw[Eu.out.len];exact hlt)]);have d7:=c7.1;have f7:=c7.2
      have alx:g7≠gN:=fun e=>by
       rcases rC with q|q
       ·have:=hjn g7 q;omega
       rw[q] at e;simp at e;omega
      have Ev:Hid ((w7.setCell ⟨gN,j,none⟩ (.slice (some ⟨g7,0,none⟩) (LL+1) lS)).ownsRow w.heap.size 48 1 (.slice (some ⟨gN,0,none⟩) L L) L (vs.set j (.slice (some ⟨g7,0,none⟩) (LL+1) lS))/\(w7.setCell ⟨gN,j,none⟩ (.slice (some ⟨g7,0,none⟩) (LL+1) lS)).ownsRow ws.heap.size 3 1 (.slice (some ⟨g7,0,none⟩) (LL+1) lS) (l++[p]).length (lZ (l++[p]))/\(∀k,k<ws.heap.size->k≠gN->(w7.setCell ⟨gN,j,none⟩ (.slice (some ⟨g7,0,none⟩) (LL+1) lS)).heap[k]?=ws.heap[k]?)/\Below w.heap.size w (w7.setCell ⟨gN,j,none⟩ (.slice (some ⟨g7,0,none⟩) (LL+1) lS))/\ws.heap.size<=(w7.setCell ⟨gN,j,none⟩ (.slice (some ⟨g7,0,none⟩) (LL+1) lS)).heap.size):=by
       refine⟨?_,?_,fun q hq hn=>?_,?_,?_⟩
       ·have:=FB af9 j (.slice (some ⟨g7,0,none⟩) (LL+1) lS);rw[List.set_set] at this;exact this
       ·rw[aF,Fg,CK.out];exact dL hv7 (fun q hq=>iP (show q≠gN from fun e=>alx (by rw[<-e];exact ak hq)))
       ·rw[iP hn,wT.block q (by simp;omega) (fun e=>by have:=hjn q e.symm;omega),aZ _ _ q (by omega)];exact hs.2.2.2.1 q hq hn
       ·exact((hs.2.2.2.2.1.alloc (aA Eu.out.bl.size alU) _).grown wT (by have:=Eu.out.bl.size;simp;omega) (fun q hq=>by have:=hjn q hq;have:=Eu.out.bl.size;omega)).setCell (p:=⟨gN,j,none⟩) (dx HGN.out) _
       have h1:=wT.size
       simp at h1⊢
       omega
      clear hv7 wT rC xg hs hjn hrw1 af9 c7 cj;unfold Hid
      go_wp2
      exact⟨⟨k+1,_,l++[p],by go_num,by omega,HS2.out,Ev.out⟩,by simp[intOf];omega⟩
    obtain rfl:k=FL:=by omega
    have HNJ:Hid (Ag w gN L es (j+1) (vs.set j vj) wr):=by
     have hln:l=Ig es e0:=by rw[hlk,bF (dx Vm.out)];rfl
     subst hln;exact Eu.out.tell HE.out hlt hrw Na hkp hbl
    clear hlk hrw Na hkp hbl hsz HS
    go_wp2
    exact⟨⟨j+1,_,by go_num,by omega,HNJ.out⟩,by simp[intOf];omega⟩
  obtain rfl:j=L:=by omega
  have HFIN:Hid (vF wr gN (jd es)/\Below w.heap.size w wr):=by
   refine⟨fun i l hi=>?_,hns.bl⟩;unfold jd at hi;rw[dM] at hi;obtain⟨e,he,rfl⟩:=aX.1 hi
   have hij:i<j:=by rw[<-HL.out];exact(aJ.1 he).1
   obtain⟨v,h1,h2,_⟩:=hns.told i e hij he;exact⟨v,(dO hns.row i v h1).1,h2⟩
  clear hns HNS
  go_wp2
  go_ret;exact⟨gN,rfl,HFIN.out.1,by rw[<-HGN.out];exact HFIN.out.2⟩
variable {b:Nat}
theorem ny.snoc(h:dU Mj (.agg #[]) w' b n (fun y=>if y=x then some (.agg #[]) else if eT y l=true then some (.agg #[]) else none)):ny w' b n (l++[x]):=by
 have e:(fun y=>if y=x then some (Value.agg #[]) else if eT y l=true then some (Value.agg #[]) else none)=(fun y=>if eT y (l++[x])=true then some (Value.agg #[]) else none):=by
  funext y
  have hmm:eT y (l++[x])=(eT y l||decide (x=y)):=by unfold eT;simp
  rw[hmm]
  by_cases q:y=x
  ·subst q;simp
  have q':decide (x=y)=false:=bH (fun e=>q e.symm);rw[ax q,q',Va]
 unfold ny;rw[<-e];exact h
theorem Pj(w:aj):(zeroValue 86).run Tryz.prog w=.ok (.agg #[]) w:=by kernel_rfl
variable {cap:Nat}
theorem Ka{wr:aj}{ao:Option Addr}{L:Nat}(h:nZ w (.slice ao L cap) es cs)(hL:es.length=L)(hc:cs.length=es.length)(he:es[j]?=some e0)(hb:Below w.heap.size w wr):∃g o mY nO cO kz nI cI lH nM cM nC nR cR cm,ao=some ⟨g,o,none⟩/\(wr.cell? ⟨g,o+j*6,none⟩=some (.slice mY nO cO)/\wr.cell? ⟨g,o+j*6+1,none⟩=some (.slice kz nI cI)/\wr.cell? ⟨g,o+j*6+2,none⟩=some (.slice lH nM cM)/\wr.cell? ⟨g,o+j*6+3,none⟩=some (.slice nC nR cR)/\wr.cell? ⟨g,o+j*6+4,none⟩=some (.string e0.rule)/\wr.cell? ⟨g,o+j*6+5,none⟩=some (.string cm))/\bG wr (.slice mY nO cO) e0.outs/\bG wr (.slice kz nI cI) e0.ins/\bG wr (.slice lH nM cM) e0.impl/\bG wr (.slice nC nR cR) e0.ord/\bG w (.slice mY nO cO) e0.outs:=by
 obtain⟨Bl,cap',hv,hrow⟩:=h;injection hv with e1 e2 e3;subst e1 e3;have hj:=(aJ.1 he).1;obtain⟨cm,hcm⟩:∃c,cs[j]?=some c:=⟨cs[j]'(by omega),by simp⟩
 rcases hrow with q|⟨g,o,rfl,hcells⟩
 ·rw[q] at hj;simp at hj
 obtain⟨vo,vi,vm,vr,⟨d0,d1,d2,d3,d4,d5⟩,UL,MG,tm',UN⟩:=hcells j e0 cm he hcm
 have kc:∀(a:Addr) u,w.cell? a=some u->wr.cell? a=some u:=fun a u h=>(hb.cell (p:=a) (aC h)).trans h
 obtain⟨mY,nO,cO,Ru⟩:∃ao n c,vo=.slice ao n c:=by obtain⟨ao,cap,e,_⟩:=UL;exact⟨ao,_,cap,e⟩
 obtain⟨kz,nI,cI,MC⟩:∃ao n c,vi=.slice ao n c:=by obtain⟨ao,cap,e,_⟩:=MG;exact⟨ao,_,cap,e⟩
 obtain⟨lH,nM,cM,Wj⟩:∃ao n c,vm=.slice ao n c:=by obtain⟨ao,cap,e,_⟩:=tm';exact⟨ao,_,cap,e⟩
 obtain⟨nC,nR,cR,Zl⟩:∃ao n c,vr=.slice ao n c:=by obtain⟨ao,cap,e,_⟩:=UN;exact⟨ao,_,cap,e⟩
 subst Ru MC Wj Zl;exact⟨g,o,mY,nO,cO,kz,nI,cI,lH,nM,cM,nC,nR,cR,cm,rfl,⟨kc _ _ d0,kc _ _ d1,kc _ _ d2,kc _ _ d3,kc _ _ d4,kc _ _ d5⟩,UL.gY hb,MG.gY hb,tm'.gY hb,UN.gY hb,UL⟩
theorem Qt(h:nZ w v es cs)(hl:es.length<=64)(hc:cs.length=es.length)(hok:∀e∈es,e.outs.length<=10000/\e.ins.length<=10000/\e.impl.length<=10000/\e.ord.length<=10000/\(∀x∈e.outs,x.size<=32)/\∀x∈dZ e,x.size<=32):
  Calls Tryz.prog 70 #[v] w fun e w'=>∃v',e=.returned v'/\w'.ownsRow w.heap.size 9 1 v' (yF es).length ((yF es).map Value.string)/\Below w.heap.size w w':=by
 obtain⟨tj,HTJ⟩:=iT (P:=Tryz.prog) (e:=9) (n:=1) (b:=16) (z:=(.string ⟨#[]⟩)) (by kernel_rfl);obtain⟨ao,cap,hv,_⟩:=id h;subst hv;have CP:=aP h;have HOK:=aP (aK hok hc)
 have hmk:(Instr.makeMap 122 none).run Tryz.prog w=.ok (.map (some w.heap.size)) (w.alloc (.map #[] 0)):=by simp[Instr.makeMap,go_sem]
 have HM0:Hid (ny (w.alloc (.map #[] 0)) w.heap.size 0 []):=dU.made Mj _ ⟨_,_,rfl⟩ w;have HB0:Hid (Below w.heap.size w (w.alloc (.map #[] 0))):=(au _ _).alloc (ai _) _;clear h hok hc;generalize hL:es.length=L at*;have HL:=aP hL;clear hL
 have l0:(L:Int)<=64:=by omega
 go_enter Tryz.func70,Tryz.ntmps70
 go_wp2_with fail
 clear hmk;generalize w.alloc (.map #[] 0)=w1 at*;generalize hmb:w.heap.size=mb at*;have XB:=aP hmb;clear hmb
 go_loopw [18] (fun i wr=>∃(j n:Nat),i=.int .i64 j/\j<=L/\ny wr mb n ((es.take j).flatMap dZ)/\n<=j*30000/\Below mb w wr) (fun i _=>L-(intOf i).toNat)
 case atStart=>exact⟨0,0,rfl,aN _,HM0.out,aN _,HB0.out⟩
 case round=>
  clear HM0 HB0;obtain⟨j,n,rfl,hj,hmap,hn,hbl⟩:=hrel;have HM:=aP (aK hmap (aK hn hbl))
  have j0:(0:Int)<=(j:Int):=by omega
  by_cases hlt:j<L
  ·have j1:(j:Int)<(L:Int):=by omega
   obtain⟨e0,he0⟩:∃e,es[j]?=some e:=⟨es[j]'(by have:=HL.out;omega),by simp⟩;obtain⟨g,o,mY,nO,cO,kz,nI,cI,lH,nM,cM,nC,nR,cR,cm,rfl,⟨c0,c1,c2,c3,c4,c5⟩,UL,MG,tm',UN,tw'⟩:=Ka CP.out HL.out (HOK.out.2.trans HL.out.symm) he0 (show Below w.heap.size w wr by rw[XB.out];exact hbl);have HE:=aP he0;obtain⟨hi0,hi1,hi2,hi3,hi5,hi4⟩:=HOK.out.1 e0 (aO he0);have HDS:Hid ((∀x∈dZ e0,x.size<=32)/\(dZ e0).length<=30000):=⟨hi4,by unfold dZ;rw[aF,aF];omega⟩;obtain⟨wa,Vg⟩:∃wa,wa=wr.alloc (.cells #[.slice mY nO cO,.slice kz nI cI,.slice lH nM cM,.slice nC nR cR,.string e0.rule,.string cm] 63):=⟨_,rfl⟩
   have hba:Below wr.heap.size wr wa:=by rw[Vg];exact(au _ _).alloc (ai _) _
   have Ba:Hid (Calls Tryz.prog 116 #[.agg #[.slice mY nO cO,.slice kz nI cI,.slice lH nM cM,.slice nC nR cR,.string e0.rule,.string cm]] wa fun e' w'=>∃v,e'=.returned v/\w'.ownsRow wa.heap.size 9 1 v (dZ e0).length ((dZ e0).map Value.string)/\Below wa.heap.size wa w'):=wK e0 ⟨_,_,_,rfl⟩ (MG.gY hba) (tm'.gY hba) (UN.gY hba) hi1 hi2 hi3;have HWA:=aP (aK Vg hba)
   have ca:∀i u,(#[.slice mY nO cO,.slice kz nI cI,.slice lH nM cM,.slice nC nR cR,.string e0.rule,.string cm]:Array Value)[i]?=some u->(wr.alloc (.cells #[.slice mY nO cO,.slice kz nI cI,.slice lH nM cM,.slice nC nR cR,.string e0.rule,.string cm] 63)).cell? ⟨wr.heap.size,i,none⟩=some u:=fun i u hu=>by rw[bZ (aW wr _ _ rfl)];exact hu
   have a0:=ca 0 _ rfl;have a1:=ca 1 _ rfl;have a2:=ca 2 _ rfl;have a3:=ca 3 _ rfl;have a4:=ca 4 _ rfl;have a5:=ca 5 _ rfl;clear UL MG tm' UN tw' hmap hn hbl he0 hi0 hi1 hi2 hi3 hi4 hi5 Vg hba ca
   go_wp2_with fail
   rw[<-HWA.out.1];clear a0 a1 a2 a3 a4 a5 c0 c1 c2 c3 c4 c5;refine Ba.out.mono ?_;rintro e1 ws ⟨vf,rfl,hvf,hbs⟩;have afV:Below wr.heap.size wr ws:=HWA.out.2.trans (hbs.mono HWA.out.2.size);have HMS:Hid (ny ws mb n ((es.take j).flatMap dZ)/\n<=j*30000/\Below mb w ws):=⟨dU.keep HM.out.1 (afV.block mb HM.out.1.lt),HM.out.2.1,HM.out.2.2.trans (afV.mono (by have:=HM.out.1.lt;omega))⟩;obtain⟨af,Al,agf,_,hgf⟩:=bq hvf;have Yv:Hid (ws.ownsRow wa.heap.size 9 1 vf (dZ e0).length ((dZ e0).map Value.string)/\mb<wa.heap.size):=⟨hvf,ay HM.out.1.lt HWA.out.2.size⟩;have HGF:=aP hgf;generalize hFL:(dZ e0).length=FL at*;have Vm:=aP hFL
   have f0:(FL:Int)<=30000:=by have:=HDS.out.2;omega
   clear hFL hvf hbs hgf afV;subst agf;clear Ba HM
   go_wp2_with fail
   go_loopw [25] (fun i wr=>∃(k m:Nat),i=.int .i64 k/\k<=FL/\ny wr mb m ((es.take j).flatMap dZ++(dZ e0).take k)/\m<=j*30000+k/\Below mb w wr/\ws.grownBy wr (some mb)) (fun i _=>FL-(intOf i).toNat)
   case atStart=>exact⟨0,n,rfl,aN _,by rw[DC,fF];exact HMS.out.1,HMS.out.2.1,HMS.out.2.2,⟨rfl,rfl,rfl,ai _,fun _ _ _=>rfl⟩⟩
   case round=>
    clear HMS;obtain⟨k,m,rfl,hk,hmap,hm,hbl,hgr⟩:=hrel
    have k0:(0:Int)<=(k:Int):=by omega
    by_cases hkl:k<FL
    ·have k1:(k:Int)<(FL:Int):=by omega
     obtain⟨x,hx⟩:∃x,(dZ e0)[k]?=some x:=⟨(dZ e0)[k]'(by have:=Vm.out;omega),by simp⟩;obtain⟨gf,rfl⟩:=HGF.out (by omega);have hgb:=bA Yv.out.1 gf rfl;have cx:wr.cell? ⟨gf,k,none⟩=some (.string x):=(aB (w:=ws) (a:=⟨gf,k,none⟩) (hgr.block gf hgb.2 (fun e=>by have h1:gf=mb:=ak e;have:=Yv.out.2;omega))).trans (dO Yv.out.1 k _ (by simp[hx])).1;have hxs:x.size<=32:=HDS.out.1 x (aO hx);obtain⟨w9,Oh,ET,Cr⟩:=dU.store hmap (t:=122) Tryz.underlying122 (by unfold maxLen;omega) x (by unfold maxLen;omega) (.agg #[]) ⟨_,_,rfl⟩
     have XA:Hid (ny w9 mb (m+1) ((es.take j).flatMap dZ++(dZ e0).take (k+1))/\m+1<=j*30000+(k+1)/\Below mb w w9/\ws.grownBy w9 (some mb)):=by
      refine⟨?_,by omega,hbl.grown Cr (by have:=hmap.lt;omega) (fun k hk=>dx (ak hk)),Cr.os.trans hgr.os,Cr.tape.trans hgr.tape,Cr.output.trans hgr.output,aA hgr.size Cr.size,fun q hq hn=>(Cr.block q (ay hq hgr.size) hn).trans (hgr.block q hq hn)⟩;rw[dN,hx,lT,<-eH];exact ny.snoc ET
     clear ET Cr hmap hm hbl hgr hgb
     go_wp2
     exact⟨⟨k+1,m+1,by go_num,by omega,XA.out⟩,by simp[intOf];omega⟩
    obtain rfl:k=FL:=by omega
    have HMJ:Hid (ny wr mb m ((es.take (j+1)).flatMap dZ)/\m<=(j+1)*30000/\Below mb w wr):=by
     refine⟨?_,by have:=HDS.out.2;have:=Vm.out;omega,hbl⟩;rw[dN,HE.out,lT,kZ];have h:=hmap;rw[bF (dx Vm.out)] at h
     simpa using h
    clear hmap hm hbl hgr
    go_wp2
    exact⟨⟨j+1,m,by go_num,by omega,HMJ.out⟩,by simp[intOf];omega⟩
  obtain rfl:j=L:=by omega
  have HMA:Hid (ny wr mb n (es.flatMap dZ)/\Below mb w wr):=⟨by have h:=hmap;rw[bF (dx HL.out)] at h;exact h,hbl⟩;clear hmap hn hbl HM
  go_wp2_with fail
  go_loopw [8,36] (fun v i wr=>∃(j' cap:Nat) (ao:Option Addr) (l:List ah),i=.int .i64 j'/\v=.slice ao l.length cap/\j'<=j/\l=((es.take j').flatMap (·.outs)).filter (fun o=>!eT o (es.flatMap dZ))/\wr.ownsRow (mb+1) 9 1 (.slice ao l.length cap) l.length (l.map Value.string)/\l.length<=j'*10000/\ny wr mb n (es.flatMap dZ)/\Below mb w wr) (fun _ i _=>j-(intOf i).toNat)
  case atStart=>exact⟨0,0,none,[],rfl,rfl,aN _,rfl,dD _ _ _ _,aN _,HMA.out⟩
  case round=>
   clear HMA;obtain⟨i,cp,ap,l,rfl,rfl,hi,hl0,hown,hll,hmap,hbl⟩:=hrel;have HS:=aP (aK hl0 (aK hown (aK hll (aK hmap hbl))))
   have i0:(0:Int)<=(i:Int):=by omega
   by_cases hil:i<j
   ·have i1:(i:Int)<(j:Int):=by omega
    obtain⟨e0,he0⟩:∃e,es[i]?=some e:=⟨es[i]'(by have:=HL.out;omega),by simp⟩;obtain⟨g,o,mY,nO,cO,kz,nI,cI,lH,nM,cM,nC,nR,cR,cm,rfl,⟨c0,c1,c2,c3,c4,c5⟩,UL,MG,tm',UN,tw'⟩:=Ka CP.out HL.out (HOK.out.2.trans HL.out.symm) he0 (show Below w.heap.size w wr by rw[XB.out];exact hbl);have HE:=aP he0;have HEO:Hid ((∀x∈e0.outs,x.size<=32)/\e0.outs.length<=10000):=⟨(HOK.out.1 e0 (aO he0)).2.2.2.2.1,(HOK.out.1 e0 (aO he0)).1⟩;obtain⟨ak5,cO2,agh,hcO,htx⟩:=tw';injection agh with f1 f2 f3;subst f1 f3;have HOL:=aP f2.symm;have CQ:=aP htx
    have o0:(nO:Int)<=10000:=by have:=HEO.out.2;have:=HOL.out;omega
    obtain⟨wa,Vg⟩:∃wa,wa=wr.alloc (.cells #[.slice mY nO cO,.slice kz nI cI,.slice lH nM cM,.slice nC nR cR,.string e0.rule,.string cm] 63):=⟨_,rfl⟩
    have hba:Below wr.heap.size wr wa:=by rw[Vg];exact(au _ _).alloc (ai _) _
    have HSA:Hid (wa.ownsRow (mb+1) 9 1 (.slice ap l.length cp) l.length (l.map Value.string)/\ny wa mb n (es.flatMap dZ)/\Below mb w wa):=⟨dL hown (fun q hq=>hba.block q (bA hown q hq).2),dU.keep hmap (hba.block mb hmap.lt),hbl.trans (hba.mono (by have:=hmap.lt;omega))⟩;have HWA:=aP Vg;have CK:=aP hll;have HL0:=aP hl0;clear f2 htx hcO UL MG tm' UN hl0 hown hll hmap hbl he0 Vg hba HS
    go_wp2_with fail
    rw[<-HWA.out];clear c0 c1 c2 c3 c4 c5
    go_loopw [8,43] (fun v z wr=>∃(k cap:Nat) (ao:Option Addr) (l:List ah),z=.int .i64 k/\v=.slice ao l.length cap/\k<=nO/\l=((es.take i).flatMap (·.outs)++e0.outs.take k).filter (fun o=>!eT o (es.flatMap dZ))/\wr.ownsRow (mb+1) 9 1 (.slice ao l.length cap) l.length (l.map Value.string)/\l.length<=i*10000+k/\ny wr mb n (es.flatMap dZ)/\Below mb w wr) (fun _ z _=>nO-(intOf z).toNat)
    case atStart=>exact⟨0,cp,ap,l,rfl,rfl,aN _,by rw[DC,fF];exact HL0.out,HSA.out.1,CK.out,HSA.out.2⟩
    case round=>
     clear HSA CK HL0 HWA;clear wa;obtain⟨k,cq,aq,lq,rfl,rfl,hk,hlq,hown,hll,hmap,hbl⟩:=hrel;have HS:=aP (aK hlq (aK hown (aK hll (aK hmap hbl))))
     have k0:(0:Int)<=(k:Int):=by omega
     by_cases hkl:k<nO
     ·have k1:(k:Int)<(nO:Int):=by omega
      obtain⟨x,hx⟩:∃x,e0.outs[k]?=some x:=⟨e0.outs[k]'(by have:=HOL.out;omega),by simp⟩
      obtain⟨b,o3,rfl,hct⟩:∃b o,mY=some ⟨b,o,none⟩/\∀k s,e0.outs[k]?=some s->w.cell? ⟨b,o+k,none⟩=some (.string s):=by
       rcases CQ.out with ⟨_,q,_⟩|q
       ·exfalso;rw[q] at hx;simp at hx
       exact q
      have cx:wr.cell? ⟨b,o3+k,none⟩=some (.string x):=(hbl.cell (p:=⟨b,o3+k,none⟩) (by have:=aC (hct k x hx);have:=XB.out;omega)).trans (hct k x hx);have hxs:x.size<=32:=HEO.out.1 x (aO hx);have hmw:=dU.look_ok hmap (t:=122) Tryz.underlying122 Pj x (by unfold maxLen;omega)
      have htk:(es.take i).flatMap (·.outs)++e0.outs.take (k+1)=((es.take i).flatMap (·.outs)++e0.outs.take k)++[x]:=by rw[dN,hx,lT,eH]
      cases hmx:eT x (es.flatMap dZ) with
      |true=>
       rw[hmx,aD rfl] at hmw;simp only[bY,fT] at hmw
       have HS2:Hid (lq=((es.take i).flatMap (·.outs)++e0.outs.take (k+1)).filter (fun o=>!eT o (es.flatMap dZ))):=by
        show _=_;rw[htk,xK,<-hlq];simp[hmx]
       have HSB:Hid ((wr.alloc (.cells #[] 86)).ownsRow (mb+1) 9 1 (.slice aq lq.length cq) lq.length (lq.map Value.string)/\lq.length<=i*10000+(k+1)/\ny (wr.alloc (.cells #[] 86)) mb n (es.flatMap dZ)/\Below mb w (wr.alloc (.cells #[] 86))):=⟨dL hown (fun q hq=>aZ _ _ q (bA hown q hq).2),by omega,dU.keep hmap (aZ _ _ mb hmap.lt),hbl.alloc (by have:=hmap.lt;omega) _⟩;clear hlq hown hll hmap hbl hx htk hmx hct
       go_wp2_with fail
       exact⟨⟨k+1,cq,aq,lq,by go_num,rfl,by omega,HS2.out,HSB.out⟩,by simp[intOf];omega⟩
      |false=>
       rw[hmx,ax (by decide)] at hmw;simp only[jC,iN] at hmw
       have HS2:Hid (lq++[x]=((es.take i).flatMap (·.outs)++e0.outs.take (k+1)).filter (fun o=>!eT o (es.flatMap dZ))):=by
        show _=_;rw[htk,xK,<-hlq];simp[hmx]
       have HX:Hid (((wr.alloc (.cells #[] 86)).alloc (.cells #[.string x] 9)).ownsRow (mb+1) 9 1 (.slice aq lq.length cq) lq.length (lq.map Value.string)/\ny ((wr.alloc (.cells #[] 86)).alloc (.cells #[.string x] 9)) mb n (es.flatMap dZ)/\Below mb w ((wr.alloc (.cells #[] 86)).alloc (.cells #[.string x] 9))):=by
        have h1:Below wr.heap.size wr ((wr.alloc (.cells #[] 86)).alloc (.cells #[.string x] 9)):=((au _ _).alloc (ai _) _).alloc (by simp) _;exact⟨dL hown (fun q hq=>h1.block q (bA hown q hq).2),dU.keep hmap (h1.block mb hmap.lt),hbl.trans (h1.mono (by have:=hmap.lt;omega))⟩
       have HNC:Hid (∀j u,([.string x]:List Value)[j]?=some u->((wr.alloc (.cells #[] 86)).alloc (.cells #[.string x] 9)).cell? ((⟨wr.heap.size+1,0,none⟩:Addr).add j)=some u):=by
        have:=iH (wr.alloc (.cells #[] 86)) [.string x] 9;rw[bJ] at this;exact this
       have SN:=hmap.lt;generalize hLQ:lq.length=LQ at*;have HLQ:=aP hLQ;clear hlq hown hmap hbl hx htk hmx hct hLQ
       go_wp2_with (at_builtin;refine wpList_append_lies _ rfl (.tmp 55) (.tmp 57) 32 rfl (mb+1) 9 tj (.string ⟨#[]⟩) 1 16 Tryz.underlying32 HTJ.out.1 HTJ.out.2.2.2 HTJ.out.2.1 HTJ.out.2.2.1 rfl (by decide) _ LQ (lq.map Value.string) rfl HX.out.1 ⟨wr.heap.size+1,0,none⟩ 1 1 [.string x] rfl rfl HNC.out (by intro u hu;simp only[aV,dz,ko] at hu;rcases hu with rfl;rfl) (by decide) (by unfold maxLen;omega) (by omega) (by simp;omega) _ rfl ?_;intro g7 lS w7 hv7 wT rC xg;refine dI ?_)
       have hjn:∀q,(Value.slice aq LQ cq).ownBlock=some q->mb+1<=q:=fun q hq=>(bA HX.out.1 q hq).1
       have HS7:Hid (w7.ownsRow (mb+1) 9 1 (.slice (some ⟨g7,0,none⟩) (lq++[x]).length lS) (lq++[x]).length ((lq++[x]).map Value.string)/\(lq++[x]).length<=i*10000+(k+1)/\ny w7 mb n (es.flatMap dZ)/\Below mb w w7):=by
        rw[aF,HLQ.out,iC];refine⟨hv7,by simp only[aS,dR];omega,dU.keep HX.out.2.1 (wT.block mb HX.out.2.1.lt (fun e=>by have:=hjn mb e.symm;omega)),HX.out.2.2.grown wT (by have:=HX.out.2.1.lt;omega) (fun q hq=>by have:=hjn q hq;omega)⟩
       have HLX:Hid ((lq++[x]).length=LQ+1):=by rw[aF,HLQ.out];rfl
       clear hv7 wT rC xg hjn HX HNC;unfold Hid
       go_wp2_with fail
       exact⟨⟨k+1,lS,some ⟨g7,0,none⟩,lq++[x],by go_num,by rw[HLX.out],by omega,HS2.out,HS7.out⟩,by simp[intOf];omega⟩
     obtain rfl:k=nO:=by omega
     have HSJ:Hid (lq=((es.take (i+1)).flatMap (·.outs)).filter (fun o=>!eT o (es.flatMap dZ))/\wr.ownsRow (mb+1) 9 1 (.slice aq lq.length cq) lq.length (lq.map Value.string)/\lq.length<=(i+1)*10000/\ny wr mb n (es.flatMap dZ)/\Below mb w wr):=by
      refine⟨?_,hown,by have:=HEO.out.2;have:=HOL.out;omega,hmap,hbl⟩;rw[hlq,bF (dx HOL.out),dN,HE.out,lT,kZ]
      simp
     clear hlq hown hll hmap hbl HS
     go_wp2_with fail
     exact⟨⟨i+1,cq,aq,lq,by go_num,rfl,by omega,HSJ.out⟩,by simp[intOf];omega⟩
   obtain rfl:i=j:=by omega
   have HFIN:Hid (wr.ownsRow w.heap.size 9 1 (.slice ap l.length cp) (yF es).length ((yF es).map Value.string)/\Below w.heap.size w wr):=by
    have hle:l=yF es:=by rw[hl0,bF (dx HL.out)];rfl
    rw[<-hle,XB.out];exact⟨vZ hown (fB _),hbl⟩
   clear hl0 hown hll hmap hbl HS
   go_wp2
   go_ret;exact⟨_,rfl,by rw[<-XB.out];exact HFIN.out⟩
