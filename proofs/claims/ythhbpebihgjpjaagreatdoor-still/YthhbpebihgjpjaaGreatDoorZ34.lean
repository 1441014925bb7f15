import Derived.Lib.AppendZeros
import Derived.Test.YthhbpebihgjpjaaGreatDoorZ30
import Derived.Test.YthhbpebihgjpjaaGreatDoorZ31
import Derived.Test.YthhbpebihgjpjaaGreatDoorZ33
namespace Go.Proofs.YthhbpebihgjpjaaGreatDoor
set_option maxRecDepth 1000000
set_option maxHeartbeats 20000000
set_option linter.all false
section
open Go.RowKit
theorem abh(n:Nat)(hn:n<=1048576)(w:aj):
  Calls Tryz.prog 276 #[.slice none 0 0,.int .i64 n] w fun e w'=>∃v,e=.returned v/\w'.ownsRow w.heap.size 9 1 v 0 []/\Below w.heap.size w w':=by
 have hinf:(Tryz.prog.info? 9).map (fun i=>(i.size,i.bytes,i.zero))=some (1,16,some (.string ⟨#[]⟩)):=by kernel_rfl
 obtain⟨ti,hti,htj⟩:=aX.1 hinf;simp only[Prod.mk.injEq] at htj
 have n1:¬(n:Int)<0:=by omega
 have n2:(n:Int)<=1048576:=by omega
 by_cases h0:n=0
 ·subst h0;clear hinf hti htj
  go_enter Tryz.func276,Tryz.ntmps276
  go_wp2_with fail
  go_ret;exact⟨_,rfl,dD _ _ _ _,au _ _⟩
 have hrun:=fun ty=>Lib.run_append_nil_zeros (P:=Tryz.prog) w 32 3 ty 9 ti (.string ⟨#[]⟩) .i64 .i64 Tryz.underlying32 Tryz.underlying3 hti htj.2.2 n (by omega) (by rw[htj.1];decide) (by omega) (by rw[htj.2.1];omega)
 have hge:=grownCap_ge w n 0 9;have hle:=grownCap_le_maxLen w n 0 9 (by unfold maxLen;omega);generalize grownCap w n 0 9=G at*
 have hsz:(Builtin.zeroCells (Value.string ⟨#[]⟩).cells n++Builtin.zeroCells (Value.string ⟨#[]⟩).cells (G-n)).size=G*1:=by
  rw[Array.size_append,size_zeroCells,size_zeroCells];show n*1+(G-n)*1=_;omega
 generalize Builtin.zeroCells (Value.string ⟨#[]⟩).cells n++Builtin.zeroCells (Value.string ⟨#[]⟩).cells (G-n)=CS at*;have aaN:=aP hrun;have HOW:Hid ((w.drew.alloc (.cells CS 9)).ownsRow w.heap.size 9 1 (.slice (some ⟨w.heap.size,0,none⟩) 0 G) 0 []):=World.ownsRow_made w.drew CS G (ai _) hle hsz;have HB:Hid (Below w.heap.size w (w.drew.alloc (.cells CS 9))):=(au _ _).drew.alloc (ai _) _
 have n3:(0:Int)<(n:Int):=by omega
 have hsl0:∀wx,(Instr.slice 32 (.slice none 0 0) none (some (.int .i64 0)) none).run Tryz.prog wx=.ok (.slice none 0 0) wx:=fun wx=>by kernel_rfl
 have g0:¬(G:Int)<0:=by omega
 have hsl:∀wx,(Instr.slice 32 (.slice (some ⟨w.heap.size,0,none⟩) n G) none (some (.int .i64 0)) none).run Tryz.prog wx=.ok (.slice (some ⟨w.heap.size,0,none⟩) 0 G) wx:=fun wx=>by
  simp[Instr.slice,mZ Tryz.underlying32,go_sem]
 clear hrun hinf hti htj hsz
 go_enter Tryz.func276,Tryz.ntmps276
 go_wp2_with (at_builtin;refine Lib.wpList_append_run _ rfl (.tmp 20) (.tmp 21) 32 3 rfl _ _ rfl rfl _ _ (aaN.out _) ?_;refine dI ?_)
 unfold Hid
 go_wp2_with fail
 go_ret;exact⟨_,rfl,HOW.out,HB.out⟩
def oK(ll:List (Value×List ah)):List ah:=ll.flatMap (·.2)
theorem DV(ll:List (Value×List ah))(x:Value×List ah):oK (ll++[x])=oK ll++x.2:=by simp[oK]
theorem DR(ll:List (Value×List ah))(cb:Nat)(w:aj)(hc:∀(i:Nat) x,ll[i]?=some x->w.cell? ⟨cb,i,none⟩=some x.1/\bG w x.1 x.2)(hl:ll.length<=10)(hs:∀x∈ll,x.2.length<=10000):
  Calls Tryz.prog 202 #[.slice (some ⟨cb,0,none⟩) ll.length ll.length] w fun e w'=>∃v,e=.returned v/\w'.ownsRow w.heap.size 9 1 v (oK ll).length ((oK ll).map Value.string)/\Below w.heap.size w w':=by
 obtain⟨ti,HTI⟩:=iT (P:=Tryz.prog) (e:=9) (n:=1) (b:=16) (z:=(.string ⟨#[]⟩)) (by kernel_rfl);have HC:=aP hc;have HS:=aP hs
 have n0:(ll.length:Int)<=10:=by omega
 have Vm:Hid (∀j,j<=ll.length->(oK (ll.take j)).length<=j*10000):=by
  intro j
  induction j with
  |zero=>intro _;exact ai _
  |succ j ih=>
   intro hj;have h1:=ih (by omega);rw[jf (by omega),DV,aF];have h2:=hs ll[j] (List.getElem_mem _);omega
 clear hc hs;generalize hL:ll.length=L at*;have HL:=aP hL;clear hL
 go_enter Tryz.func202,Tryz.ntmps202
 go_wp2_with fail
 go_loop [3,11] (fun z i=>∃j:Nat,i=.int .i64 j/\z=.int .i64 ((oK (ll.take j)).length:Nat)/\j<=L) (fun _ i=>L-(intOf i).toNat)
 case atStart=>exact⟨0,rfl,rfl,aN _⟩
 case round=>
  obtain⟨j,rfl,rfl,hle⟩:=hrel
  have j0:(0:Int)<=(j:Int):=by omega
  have hfl:=Vm.out j hle
  by_cases hlt:j<L
  ·obtain⟨x,hx⟩:∃x,ll[j]?=some x:=⟨ll[j]'(by have:=HL.out;omega),by simp⟩;obtain⟨c1,ht⟩:=HC.out j x hx;obtain⟨ao,cap,hv,_,_⟩:=ht;rw[hv] at c1
   have j1:(j:Int)<(L:Int):=by omega
   have HN:Hid ((oK (ll.take (j+1))).length=(oK (ll.take j)).length+x.2.length):=by
    show _=_;obtain⟨h1,h2⟩:=aJ.1 hx;rw[jf h1,DV,aF,h2]
   have hxl:=HS.out x (aO hx);clear hv hx;generalize x.2.length=XL at*;generalize (oK (ll.take j)).length=FL at*
   have f1:¬(FL:Int)+(XL:Int)<0:=by omega
   have f2:(FL:Int)<=100000:=by omega
   have f3:(XL:Int)<=10000:=by omega
   go_wp2_with fail
   exact⟨⟨j+1,by go_num,by rw[HN.out];go_num,hlt⟩,by simp[intOf];omega⟩
  obtain rfl:j=L:=by omega
  have HE:Hid (oK (ll.take j)=oK ll):=by show _=_;rw[<-HL.out,rf]
  generalize hFL:(oK (ll.take j)).length=FL at*;have HGW:Hid (Calls Tryz.prog 276 #[.slice none 0 0,.int .i64 FL] w fun e w'=>∃v,e=.returned v/\w'.ownsRow w.heap.size 9 1 v 0 []/\Below w.heap.size w w'):=abh FL (by omega) w;clear hFL
  go_wp2_with fail
  refine HGW.out.mono ?_;rintro e w1 ⟨v1,rfl,ho1,hb1⟩;have HO1:=aP ho1;have HB1:=aP hb1;clear ho1 hb1
  go_wp2_with fail
  go_loopw [6,27] (fun v i wr=>∃(k:Nat) (ao:Option Addr) (nn cap:Nat),i=.int .i64 k/\v=.slice ao nn cap/\nn=(oK (ll.take k)).length/\k<=j/\wr.ownsRow w.heap.size 9 1 (.slice ao nn cap) nn ((oK (ll.take k)).map Value.string)/\Below w.heap.size w wr) (fun _ i _=>j-(intOf i).toNat)
  case atStart=>
   obtain⟨ao1,Gd,e1,_,_⟩:=bq HO1.out;exact⟨0,ao1,0,Gd,rfl,e1,rfl,aN _,by rw[<-e1];exact HO1.out,HB1.out⟩
  case round=>
   obtain⟨k,ao,nn,cap,rfl,rfl,hnn,hke,hown,hbw⟩:=hrel;have HO:=aP hown;have lF:=aP hbw;have hfk:=Vm.out k hke;rw[<-hnn] at hfk;have GX:=aP hnn;clear hown hbw hnn
   have k0:(0:Int)<=(k:Int):=by omega
   by_cases hlt2:k<j
   ·obtain⟨x,hx⟩:∃x,ll[k]?=some x:=⟨ll[k]'(by have:=HL.out;omega),by simp⟩;obtain⟨c0,ht⟩:=HC.out k x hx;have c1:wr.cell? ⟨cb,k,none⟩=some x.1:=(lF.out.cell (p:=⟨cb,k,none⟩) (aC c0)).trans c0
    have HN:Hid (oK (ll.take (k+1))=oK (ll.take k)++x.2):=by
     show _=_;obtain⟨h1,h2⟩:=aJ.1 hx;rw[jf h1,DV,h2]
    have hxl:=HS.out x (aO hx)
    have k1:(k:Int)<(j:Int):=by omega
    obtain⟨av,wF,hv,_,h⟩:=ht.gY lF.out;rw[hv] at c1;have hbs:w.heap.size<=wr.heap.size:=lF.out.size;obtain⟨x1,xl⟩:=x;simp only at hv c1 HN hxl h;clear hx c0 hv ht;generalize oK (ll.take k)=F at*
    rcases h with ⟨h0,rfl,_⟩|⟨b,o,rfl,h⟩
    ·rw[fF] at HN
     cases av with
     |none=>
      obtain rfl:=h0 rfl
      go_wp2_with (at_builtin;refine wpList_append_own_none rfl (.tmp 31) (.tmp 32) 32 rfl w.heap.size 9 ti 1 Tryz.underlying32 HTI.out.1 _ nn _ rfl (by exact HO.out) rfl ?_;refine dI ?_)
      unfold Hid
      go_wp2_with fail
      exact⟨⟨k+1,ao,nn,cap,by go_num,rfl,by rw[HN.out];exact GX.out,hlt2,by rw[HN.out];exact HO.out,lF.out⟩,by simp[intOf];omega⟩
     |some a0=>
      clear h0
      go_wp2_with (at_builtin;refine Ab _ rfl (.tmp 31) (.tmp 32) 32 rfl w.heap.size 9 ti (.string ⟨#[]⟩) 1 16 Tryz.underlying32 HTI.out.1 HTI.out.2.2.2 HTI.out.2.1 HTI.out.2.2.1 rfl (by decide) _ nn _ rfl (by exact HO.out) a0 0 wF [] rfl rfl (by intro j u hu;simp at hu) (by intro u hu;cases hu) (by unfold maxLen;omega) (by omega) hbs ?_;intro v5 w5 hv5 hg5 hn5;refine dI ?_)
      have HO5:Hid (w5.ownsRow w.heap.size 9 1 v5 nn (F.map Value.string)):=by have h:=hv5;rw[fF] at h;exact h
      have Bo:Hid (Below w.heap.size w w5):=lF.out.grown hg5 hbs (fun q hq=>(bA HO.out q hq).1);obtain⟨ao5,cap5,rfl,_,_⟩:=bq HO5.out;clear hv5 hg5 hn5;unfold Hid
      go_wp2_with fail
      exact⟨⟨k+1,ao5,nn,cap5,by go_num,rfl,by rw[HN.out];exact GX.out,hlt2,by rw[HN.out];exact HO5.out,Bo.out⟩,by simp[intOf];omega⟩
    have Eu:Hid (∀(j:Nat) u,(xl.map Value.string)[j]?=some u->wr.cell? ((⟨b,o,none⟩:Addr).add j)=some u):=by
     intro j u hu
     have hadd:(⟨b,o,none⟩:Addr).add j=⟨b,o+j,none⟩:=by unfold Addr.add;split<;>simp_all
     rw[dM] at hu;obtain⟨s,hs1,rfl⟩:=aX.1 hu;rw[hadd];exact h j s hs1
    clear h
    go_wp2_with (at_builtin;refine Ab _ rfl (.tmp 31) (.tmp 32) 32 rfl w.heap.size 9 ti (.string ⟨#[]⟩) 1 16 Tryz.underlying32 HTI.out.1 HTI.out.2.2.2 HTI.out.2.1 HTI.out.2.2.1 rfl (by decide) _ nn _ rfl (by exact HO.out) ⟨b,o,none⟩ xl.length wF (xl.map Value.string) rfl (by simp) Eu.out (by intro u hu;obtain⟨s,_,rfl⟩:=fH.1 hu;rfl) (by unfold maxLen;omega) (by omega) hbs ?_;intro v5 w5 hv5 hg5 hn5;refine dI ?_)
    have HO5:Hid (w5.ownsRow w.heap.size 9 1 v5 (nn+xl.length) ((F++xl).map Value.string)):=by rw[iC];exact hv5
    have Bo:Hid (Below w.heap.size w w5):=lF.out.grown hg5 hbs (fun q hq=>(bA HO.out q hq).1);obtain⟨ao5,cap5,rfl,_,_⟩:=bq HO5.out;clear hv5 hg5 hn5;unfold Hid
    go_wp2_with fail
    exact⟨⟨k+1,ao5,nn+xl.length,cap5,by go_num,rfl,by rw[HN.out,aF,<-GX.out],hlt2,by rw[HN.out];exact HO5.out,Bo.out⟩,by simp[intOf];omega⟩
   obtain rfl:k=j:=by omega
   have HF:Hid (wr.ownsRow w.heap.size 9 1 (.slice ao nn cap) (oK ll).length ((oK ll).map Value.string)):=by
    rw[<-HE.out,<-GX.out];exact HO.out
   have k1:¬(k:Int)<(k:Int):=by omega
   go_wp2_with fail
   go_ret;exact⟨_,rfl,HF.out,lF.out⟩
end
section
open Go.RowKit Go.Maps
def adP:Value->Option (DataW Unit×List MemPlace)
 |.int .i64 k=>some (.lit (.int .i64 k),[])
 |_=>none
variable {v:Value}
theorem abC{v':Value}{d:DataW Unit}{p p':List MemPlace}(h:adP v=some (d,p))(h':adP v'=some (d,p')):v=v':=by
 unfold adP at h h'
 split at h
 ·split at h'
  ·have e1:=gW Prod.fst (ak h);have e2:=gW Prod.fst (ak h');rw[<-e1] at e2;injection e2 with e2;injection e2 with _ e2;rw[e2]
  cases h'
 cases h
def Ky:zC:=⟨adP,abC⟩
variable {w:aj}{vm:Value}
theorem wK{vo vi vr:Value}{r c:ah}(e:dm)(tv:∃ao n c,vo=.slice ao n c)(ti:bG w vi e.ins)(tm:bG w vm e.impl)(tr:bG w vr e.ord)(hi:e.ins.length<=10000)(hm:e.impl.length<=10000)(hr:e.ord.length<=10000):
  Calls Tryz.prog 116 #[.agg #[vo,vi,vm,vr,.string r,.string c]] w fun e' w'=>∃v,e'=.returned v/\w'.ownsRow w.heap.size 9 1 v (dZ e).length ((dZ e).map Value.string)/\Below w.heap.size w w':=by
 obtain⟨mY,nO,cO,rfl⟩:=tv
 obtain⟨kz,nI,cI,MC⟩:∃ao n c,vi=.slice ao n c:=by obtain⟨ao,cap,e,_⟩:=ti;exact⟨ao,_,cap,e⟩
 obtain⟨lH,nM,cM,Wj⟩:∃ao n c,vm=.slice ao n c:=by obtain⟨ao,cap,e,_⟩:=tm;exact⟨ao,_,cap,e⟩
 obtain⟨nC,nR,cR,Zl⟩:∃ao n c,vr=.slice ao n c:=by obtain⟨ao,cap,e,_⟩:=tr;exact⟨ao,_,cap,e⟩
 subst MC Wj Zl;obtain⟨W1,hW1⟩:∃W1,W1=w.alloc (.cells #[.slice mY nO cO,.slice kz nI cI,.slice lH nM cM,.slice nC nR cR,.string r,.string c] 63):=⟨_,rfl⟩
 have hb1:Below w.heap.size w W1:=by rw[hW1];exact(au _ _).alloc (ai _) _
 obtain⟨W2,hW2⟩:∃W2,W2=W1.alloc (.cells #[.slice kz nI cI,.slice lH nM cM,.slice nC nR cR] 32):=⟨_,rfl⟩
 have hb2:Below w.heap.size w W2:=by rw[hW2];exact hb1.alloc hb1.size _
 have hrow:W2.heap[W1.heap.size]?=some (.cells #[.slice kz nI cI,.slice lH nM cM,.slice nC nR cR] 32 (0,0)):=by rw[hW2];exact aW _ _ _ rfl
 have HC:=DR [(.slice kz nI cI,e.ins),(.slice lH nM cM,e.impl),(.slice nC nR cR,e.ord)] W1.heap.size W2 (fun i x hx=>by
  match i,hx with
  |0,hx=>obtain rfl:=ak hx;exact⟨by rw[bZ hrow];rfl,ti.gY hb2⟩
  |1,hx=>obtain rfl:=ak hx;exact⟨by rw[bZ hrow];rfl,tm.gY hb2⟩
  |2,hx=>obtain rfl:=ak hx;exact⟨by rw[bZ hrow];rfl,tr.gY hb2⟩
  |i+3,hx=>cases hx) (show 3<=10 by decide) (fun x hx=>by
  rcases aV.1 hx with rfl|hx
  ·exact hi
  rcases aV.1 hx with rfl|hx
  ·exact hm
  obtain rfl:=bg.1 hx
  exact hr)
 have HC:=aP HC
 have hfl:oK [(.slice kz nI cI,e.ins),(.slice lH nM cM,e.impl),(.slice nC nR cR,e.ord)]=dZ e:=by simp[oK,dZ]
 rw[hfl] at HC;have HB2:=aP hb2
 have HW:Hid (W2=(w.alloc (.cells #[.slice mY nO cO,.slice kz nI cI,.slice lH nM cM,.slice nC nR cR,.string r,.string c] 63)).alloc (.cells #[.slice kz nI cI,.slice lH nM cM,.slice nC nR cR] 32)):=by rw[hW2,hW1];rfl
 have HZ:Hid (W1.heap.size=w.heap.size+1):=by rw[hW1];exact bJ _ _
 rw[HZ.out] at HC;clear hW1 hW2 hb1 hb2 hrow ti tm tr hi hm hr hfl
 go_enter Tryz.func116,Tryz.ntmps116
 go_wp2_with fail
 rw[<-HW.out];refine HC.out.mono ?_;rintro e1 w3 ⟨v,rfl,hv3,hb3⟩;have HF:Hid (w3.ownsRow w.heap.size 9 1 v (dZ e).length ((dZ e).map Value.string)/\Below w.heap.size w w3):=⟨vZ hv3 HB2.out.size,HB2.out.trans (hb3.mono HB2.out.size)⟩;clear hv3 hb3 HC
 go_wp2
 go_ret;exact⟨_,rfl,HF.out⟩
variable {p:PV}{a:Nat->Addr}{B rb m:Nat}{n:Int}{ls:List dK}{S:St}
theorem ig.fresh(h:ig p a B w rb n ls S m):∃q:PV,(∀k,w.heap.size<=k->q.c k=7)/\ig q a B w rb n ls S m:=by
 refine⟨{p with c:=fun k=>if w.heap.size<=k then 7 else p.c k},fun k hk=>aD hk,?_⟩
 have hc:∀k,k<w.heap.size->(if w.heap.size<=k then 7 else p.c k)=p.c k:=fun k hk=>ax (by omega)
 exact {
  gl:=h.gl,base:=h.base,row:=h.row
  const:=fun w'' hs hk=>h.const w'' hs (fun k h1 h2=>hk k h1 ((hc k h1).trans h2))
  top:=h.top,rules:=h.rules,mlt:=h.mlt,jN:=h.jN,defs:=h.defs
  c1:=(hc rb h.qi).trans h.c1
  c2:=(hc p.tb h.top.lt).trans h.c2
  c3:=(hc p.rm h.rules.lt).trans h.c3
  c4:=(hc p.mm h.mlt).trans h.c4
  c5:=fun k hk=>(hc k (bA h.jN k hk).2).trans (h.c5 k hk)
  c6:=fun k hk=>(hc k (bA h.defs k hk).2).trans (h.c6 k hk)
  low:=fun k hk=>(hc k (ay hk h.bw)).trans (h.low k hk)
  few:=h.few,ok:=h.ok,made:=h.made}
variable {w':aj}
theorem PStB.wrote{b:Nat}(h:PStB p a B w rb n ls S m)(hg:w.grownBy w' (some b))(hb:p.c b=4\/p.c b=7):PStB p a B w' rb n ls S m:=by
 have off:∀{k:Nat},k<w.heap.size->p.c k≠4->p.c k≠7->w'.heap[k]?=w.heap[k]?:=fun {k} hk h4 h7=>hg.block k hk (fun e=>by
  have e:=ak e;subst e
  rcases hb with q|q
  ·exact h4 q
  exact h7 q)
 exact {
  gl:=h.gl.keep hg.size (fun k hk=>off (ay hk h.gl.size) (by rw[h.low k (ay hk h.base)];decide) (by rw[h.low k (ay hk h.base)];decide))
  base:=h.base
  row:=(off h.qi (by rw[h.c1];decide) (by rw[h.c1];decide)).trans h.row
  const:=h.const.step hg.size (fun k hk h0=>⟨off hk (by rw[h0];decide) (by rw[h0];decide),h0⟩)
  top:=dU.keep h.top (off h.top.lt (by rw[h.c2];decide) (by rw[h.c2];decide))
  rules:=dU.keep h.rules (off h.rules.lt (by rw[h.c3];decide) (by rw[h.c3];decide))
  mlt:=ay h.mlt hg.size
  jN:=dL h.jN (fun k hk=>off (bA h.jN k hk).2 (by rw[h.c5 k hk];decide) (by rw[h.c5 k hk];decide))
  defs:=dL h.defs (fun k hk=>off (bA h.defs k hk).2 (by rw[h.c6 k hk];decide) (by rw[h.c6 k hk];decide))
  c1:=h.c1,c2:=h.c2,c3:=h.c3,c4:=h.c4,c5:=h.c5,c6:=h.c6,low:=h.low,few:=h.few,ok:=h.ok}
theorem MV(l r:List jM):sF (l++r)=sF l++sF r:=by unfold sF;rw[kZ]
theorem VJ(d:jM):sF [d]=d.cells:=by unfold sF;simp
variable {sb:Nat}{d:jM}{e:dm}
theorem Si{ds:List jM}{es:List dm}(h:Jt w sb ds es)(hd:Pn w sb d e):Jt w sb (ds++[d]) (es++[e]):=by
 refine⟨by simp[h.1],fun k x y hx hy=>?_⟩
 rcases bR k ds.length with q|q
 ·rw[bQ q] at hx;rw[bQ (by rw[<-h.1];exact q)] at hy;exact h.2 k x y hx hy
 have hk:k=ds.length:=by
  have:=(aJ.1 hx).1
  simp at this
  omega
 subst hk;rw[dh (ai _),qj] at hx;rw[h.1,dh (ai _),qj] at hy;obtain rfl:=ak hx;obtain rfl:=ak hy;exact hd
def ae0(e:dm):Prop:=BOk e.own/\e.own.length<=5000/\e.outs.length<=8000/\e.ins.length<=4000/\(∀x∈e.outs,x.size<=32)/\(∀x∈e.ins,x.size<=32)/\e.impl.length<=4000/\e.ord.length<=4000
variable {W0:Nat}
theorem PStB.PG{w3:aj}{vd':Value}(h:PStB p a B w rb n ls S (m+1))(hm:ny w p.mm (p.n3+e.outs.length) (e.outs.reverse++qg S))(hW:∀k,W0<=k->p.c k=7)(hd:∀w'':aj,(∀k,W0<=k->k<w.heap.size->w''.heap[k]?=w.heap[k]?)->Pn w'' p.sb d e)(hg:w.grownBy w3 p.vd.ownBlock)(hr:w3.ownsRow B 311 7 vd' (S.bB.length+1) (sF p.ds++d.cells))(hat:∀k,vd'.ownBlock=some k->p.vd.ownBlock=some k\/w.heap.size<=k)(he:ae0 e)(h64:S.bB.length<64):ig {p with vd:=vd',c:=fun k=>if vd'.ownBlock=some k then 5 else if p.c k=7 then 0 else p.c k,n3:=p.n3+e.outs.length,ds:=p.ds++[d]} a B (w3.setCell ⟨rb,5,none⟩ vd') rb n ls {S with bB:=S.bB++[e]} m:=by
 have hrb:=h.qi
 have hnv:∀k,k<w.heap.size->p.c k≠5->vd'.ownBlock≠some k:=fun k hk hc e=>by
  rcases hat k e with q|q
  ·exact hc (h.c5 k q)
  omega
 have hc':∀k,k<w.heap.size->p.c k≠5->p.c k≠7->(if vd'.ownBlock=some k then 5 else if p.c k=7 then 0 else p.c k)=p.c k:=fun k hk hc h7=>(ax (hnv k hk hc)).trans (ax h7)
 have TK:∀k,k<w.heap.size->p.c k≠5->w3.heap[k]?=w.heap[k]?:=fun k hk hc=>hg.block k hk (fun e=>hc (h.c5 k e.symm))
 have off:∀k,k<w.heap.size->p.c k≠5->p.c k≠1->(w3.setCell ⟨rb,5,none⟩ vd').heap[k]?=w.heap[k]?:=fun k hk hc h1=>by
  rw[iP (show k≠rb from fun e=>h1 (by rw[e];exact h.c1))];exact TK k hk hc
 have hsz:w.heap.size<=(w3.setCell ⟨rb,5,none⟩ vd').heap.size:=by simpa using hg.size
 exact {
  gl:=h.gl.keep hsz (fun k hk=>off k (ay hk h.gl.size) (by rw[h.low k (ay hk h.base)];decide) (by rw[h.low k (ay hk h.base)];decide))
  base:=h.base
  row:=by
   have h1:w3.heap[rb]?=_:=(TK rb hrb (by rw[h.c1];decide)).trans h.row;show(w3.setCell ⟨rb,5,none⟩ vd').heap[rb]?=_;rw[xY h1];rfl
  const:=fun w'' hs hk=>by
   have hold:=h.const w'' (aA hsz hs) (fun k h1 h2=>(hk k (ay h1 hsz) ((hc' k h1 (by rw[h2];decide) (by rw[h2];decide)).trans h2)).trans (off k h1 (by rw[h2];decide) (by rw[h2];decide)));refine⟨hold.1,hold.2.1,Si hold.2.2 (hd w'' (fun k h1 h2=>?_))⟩;have h7:=hW k h1
   exact(hk k (ay h2 hsz) (by
    show(if vd'.ownBlock=some k then 5 else if p.c k=7 then 0 else p.c k)=0
    rw[ax (hnv k h2 (by rw[h7];decide)),aD h7])).trans (off k h2 (by rw[h7];decide) (by rw[h7];decide))
  top:=dU.keep h.top (off p.tb h.top.lt (by rw[h.c2];decide) (by rw[h.c2];decide))
  rules:=dU.keep h.rules (off p.rm h.rules.lt (by rw[h.c3];decide) (by rw[h.c3];decide))
  mlt:=ay h.mlt hsz
  made:=by
   have hk:=dU.keep hm (off p.mm h.mlt (by rw[h.c4];decide) (by rw[h.c4];decide));refine ny.same (l:=e.outs.reverse++qg S) hk (fun x=>?_);show eT x ((S.bB++[e]).flatMap (·.outs))=_;rw[kZ,Ie,Ie,Qy,Bool.or_comm]
   simp[qg]
  jN:=by
   show World.ownsRow _ _ _ _ _ (S.bB++[e]).length (sF (p.ds++[d]));rw[aF,MV,VJ];exact dL hr (fun k hk=>iP (show k≠rb from fun e=>hnv rb hrb (by rw[h.c1];decide) (by rw[<-e];exact hk)))
  defs:=dL h.defs (fun k hk=>off k (bA h.defs k hk).2 (by rw[h.c6 k hk];decide) (by rw[h.c6 k hk];decide))
  c1:=(hc' rb hrb (by rw[h.c1];decide) (by rw[h.c1];decide)).trans h.c1
  c2:=(hc' p.tb h.top.lt (by rw[h.c2];decide) (by rw[h.c2];decide)).trans h.c2
  c3:=(hc' p.rm h.rules.lt (by rw[h.c3];decide) (by rw[h.c3];decide)).trans h.c3
  c4:=(hc' p.mm h.mlt (by rw[h.c4];decide) (by rw[h.c4];decide)).trans h.c4
  c5:=fun k hk=>aD hk
  c6:=fun k hk=>(hc' k (bA h.defs k hk).2 (by rw[h.c6 k hk];decide) (by rw[h.c6 k hk];decide)).trans (h.c6 k hk)
  low:=fun k hk=>by
   have h0:=h.low k hk;show(if vd'.ownBlock=some k then 5 else if p.c k=7 then 0 else p.c k)=9;rw[ax (fun e=>by have:=(bA hr k e).1;omega),ax (by rw[h0];decide)];exact h0
  few:=by show p.n1+m<=5000/\p.n2+m<=5000/\p.n3+e.outs.length+8000*m<=40000000;have:=h.few;have:=he.2.2.1;omega
  ok:={top:=h.ok.top,Mi:=(by show S.top.length+m<=5000;have:=h.ok.Mi;omega),rules:=h.ok.rules,BX:=(by show S.rules.length+m<=5000;have:=h.ok.BX;omega),bB:=(by show(S.bB++[e]).length<=64;rw[aF];show _+1<=_;omega),edge:=(fun x hx=>by
       rcases bK.1 (show x∈S.bB++[e] from hx) with hx|hx
       ·exact h.ok.edge x hx
       obtain rfl:=bg.1 hx
       exact he),defs:=(by show S.defs.length+4000*m<=_;have:=h.ok.defs;omega),lines:=h.ok.lines,count:=h.ok.count}}
theorem gu.same{l:List ah}(h:gu W0 w v l)(hb:∀k,W0<=k->k<w.heap.size->w'.heap[k]?=w.heap[k]?):gu W0 w' v l:=by
 refine⟨?_,h.2⟩;obtain⟨ao,cap,rfl,hc,q|⟨b,o,rfl,q⟩⟩:=h.1
 ·exact⟨ao,cap,rfl,hc,aG q⟩
 exact⟨_,cap,rfl,hc,aL ⟨b,o,rfl,fun k s hs=>(aB (w:=w) (a:=⟨b,o+k,none⟩) (hb b (h.2 b rfl) (aC (q k s hs)))).trans (q k s hs)⟩⟩
def OQ(S:St)(no:Nat)(ls:List dK)(u:ah)(ro ri:Except FM jh):Res:=match ro with
 |.error e=>.error (e,no)
 |.ok outs=>match ri with
   |.error e=>.error (e,no)
   |.ok ins=>match oU S outs ins u with
     |some e=>.error (e,no)
     |none=>match Ed S.top ls [] with
       |.error e=>.error e
       |.ok ol=>.ok ({S with bB:=S.bB++[uZ outs ins (fo u) ol.1]},ol.2)
variable {no:Nat}{t:ah}
theorem YJ(hk:¬t.size<=qC oW t):kV S no t ls=OQ S no ls (bD (t.extract (qC oW t+1) t.size)) (nK (gy [S.top]) [nT] (t.extract 0 (qC oW t))) (nK (gy [S.top]) [nT,uO] (gL (bD (t.extract (qC oW t+1) t.size)))):=by
 unfold kV OQ;rw[ax hk,Gj]
 split
 ·rename_i e h
  rw[h]
 rename_i outs h
 rw[h]
 simp only
 split
 ·rename_i e h2
  rw[h2]
 rename_i ins h2
 rw[h2]
 simp only
 split
 ·rename_i e h3
  rw[h3]
 rename_i h3
 rw[h3]
 simp only
 split
 ·rename_i e h4
  rw[h4]
 rename_i ol h4
 rw[h4]
variable {s:jh}
theorem ru.mono{W1:Nat}(h:ru W1 w v s)(hW:W0<=W1):ru W0 w v s:=by
 obtain⟨g,cap,hv,hc,vs,hs,hcell⟩:=h;exact⟨g,cap,hv,hc,vs,⟨hs.1,fun k x y hx hy=>⟨(hs.2 k x y hx hy).1,(hs.2 k x y hx hy).2.1,fun b hb=>aA hW ((hs.2 k x y hx hy).2.2 b hb)⟩⟩,hcell⟩
structure yB(p:PV)(a:Nat->Addr)(B:Nat)(w0:aj)(rb no:Nat)(ls:List dK)(S:St)(m:Nat)(v1:Value)(outs:jh)(v2:Value)(ins:jh)(w:aj):Prop where
 st:ig p a B w rb (no:Nat) ls S m
 so:ru w0.heap.size w v1 outs
 si:ru w0.heap.size w v2 ins
 bl:Below w0.heap.size w0 w
variable {w0:aj}{v1:Value}{outs ins:jh}
theorem yB.later{v2:Value}(h:yB p a B w0 rb no ls S m v1 outs v2 ins w)(hb:Below w.heap.size w w'):yB p a B w0 rb no ls S m v1 outs v2 ins w':=
 ⟨h.st.below hb,h.so.keep hb.block,h.si.keep hb.block,h.bl.trans (hb.mono h.bl.size)⟩
variable {ms:List ah}
theorem ig.paths(h:ig p a B w rb (no:Nat) ls S m)(ht:t.size<=4000)(hm:bG w vm ms)(hl:ms.length<=2):
  Calls Tryz.prog 266 #[.pointer (some ⟨rb,0,none⟩),.string t,vm] w fun e w'=>TY w.heap.size a (no:Nat) (nK (gy [S.top]) ms t) e w'/\Below w.heap.size w w':=
 Dn rb (no:Nat) t [S.top] (some ⟨p.sb,0,none⟩) a ms vm w h.Jg (by rw[bZ h.row];rfl) h.scopes h.gl ht h.afE hm hl
theorem OY(w:aj)(ms:List ah)(t:TypeId):bG (w.alloc (.cells (ms.map Value.string).toArray t)) (.slice (some ⟨w.heap.size,0,none⟩) ms.length ms.length) ms:=by
 refine⟨_,_,rfl,ai _,aL ⟨w.heap.size,0,rfl,fun k s hs=>?_⟩⟩;rw[bZ (aW w _ _ rfl)];show((ms.map Value.string).toArray)[0+k]?=_
 simp[hs]
theorem VH{cb:Nat}{v0:Value}{l0 l1:List ah}(h0:w.cell? ⟨cb,0,none⟩=some v0)(h1:w.cell? ⟨cb,1,none⟩=some v1)(t0:bG w v0 l0)(t1:bG w v1 l1)(s0:l0.length<=10000)(s1:l1.length<=10000):
  Calls Tryz.prog 202 #[.slice (some ⟨cb,0,none⟩) 2 2] w fun e w'=>∃v,e=.returned v/\gu w.heap.size w' v (l0++l1)/\(∀k,v.ownBlock=some k->k<w'.heap.size)/\Below w.heap.size w w':=by
 have:=DR [(v0,l0),(v1,l1)] cb w (fun i x hx=>by
  match i,hx with
  |0,hx=>obtain rfl:=ak hx;exact⟨h0,t0⟩
  |1,hx=>obtain rfl:=ak hx;exact⟨h1,t1⟩
  |i+2,hx=>cases hx) (show 2<=10 by decide) (fun x hx=>by
  rcases aV.1 hx with rfl|hx
  ·exact s0
  obtain rfl:=bg.1 hx
  exact s1)
 refine this.mono ?_;rintro e w' ⟨v,rfl,hr,hb⟩
 have e:oK [(v0,l0),(v1,l1)]=l0++l1:=by simp[oK]
 rw[e] at hr;exact⟨v,rfl,⟨zU hr,fun k hk=>(bA hr k hk).1⟩,fun k hk=>(bA hr k hk).2,hb⟩
variable {top own:iB}{rest:List dK}
theorem ZL(h:(gT rest).isSome=false):Ed top rest own=.ok (own,rest):=by
 cases rest with
 |nil=>rfl
 |cons x r=>
  rw[show gT (x::r)=if fQ x.2 32=true then some (x,r) else none from rfl] at h;rw[Ed]
  split at h
  ·cases h
  rename_i q
  rw[ax q]
variable {x:dK}
theorem OI(h:(gT (x::rest)).isSome=true):Ed top (x::rest) own=match GQ (gy [own,top]) x.2 with
  |none=>.error (.syn,x.1)
  |some xy=>Ed top rest (oH own xy.1 xy.2):=by
 rw[show gT (x::rest)=if fQ x.2 32=true then some (x,rest) else none from rfl] at h
 split at h
 ·rename_i q
  rw[Ed,aD q,Oa];unfold GQ
  cases pK x.2 with
  |none=>rfl
  |some nv=>
   simp only
   cases iy (gy [own,top]) nv.2 with
   |none=>rfl
   |some y=>rfl
 cases h
def Ic:Option Value->Nat
 |some (.slice _ n _)=>n
 |_=>0
structure FW(p:PV)(a:Nat->Addr)(B:Nat)(w0 w1:aj)(rb:Nat)(ls:List dK)(S:St)(m:Nat)(sb tb:Nat)(made:List ah)(n3:Nat)(w:aj)(vl:Value)(n:Int)(rest:List dK)(own:iB)(nn:Nat):Prop where
 st:PStB {p with vl:=vl} a B w rb n rest S m
 eqn:Ed S.top ls []=Ed S.top rest own
 map:wD w tb nn own
 row:w.heap[sb]?=some (.cells #[.map (some tb),.pointer (some ⟨p.sb,0,none⟩)] 302 (0,0))
 same:∀k,w0.heap.size<=k->k<w1.heap.size->w.heap[k]?=w1.heap[k]?
 acg:ny w p.mm n3 made
 bl:Below B w0 w
 few:nn+rest.length<=ls.length/\own.length+rest.length<=ls.length
 bok:BOk own
 tb1:w1.heap.size<=tb/\tb<sb/\sb<w.heap.size
 w01:w0.heap.size<=w1.heap.size
variable {tb:Nat}
theorem FW.bound{w1:aj}{made:List ah}{n3:Nat}{wr w13 w14:aj}{vl Er:Value}{r:List dK}{nn:Nat}{xy:ah×ah}(h:FW p a B w0 w1 rb ls S m sb tb made n3 wr vl n (x::r) own nn)(h13:PStB {p with vl:=Er} a B w13 rb (x.1:Nat) r S m)(af0:wr.grownBy w13 (some rb))(hm:wD w14 tb (nn+1) (oH own xy.1 xy.2))(adE:w13.grownBy w14 (some tb))(hv:GQ (gy [own,S.top]) x.2=some xy)(alA:(gT (x::r)).isSome=true)(hc7:p.c tb=7)(hrb:rb<w0.heap.size)(hB:B<=rb)(hmm:p.mm<w0.heap.size)(hmr:p.mm≠rb)(hx:x.2.size<=4000):FW p a B w0 w1 rb ls S m sb tb made n3 w14 Er (x.1:Nat) r (oH own xy.1 xy.2) (nn+1):=by
 have h1:=h.tb1;have h2:=h.w01;have s13:=af0.size;have s14:=adE.size;have hb0:=h.bl.size
 have o13:∀k,k<wr.heap.size->k≠rb->w13.heap[k]?=wr.heap[k]?:=fun k hk hn=>af0.block k hk (fun e=>hn (ak e))
 have o14:∀k,k<w13.heap.size->k≠tb->w14.heap[k]?=w13.heap[k]?:=fun k hk hn=>adE.block k hk (fun e=>hn (ak e))
 have hsz:=Pb hv
 exact {
  st:=h13.wrote adE (aL hc7)
  eqn:=by rw[h.eqn,OI alA,hv]
  map:=hm
  row:=(o14 sb (by omega) (by omega)).trans ((o13 sb (by omega) (by omega)).trans h.row)
  same:=fun k hk1 hk2=>(o14 k (by omega) (by omega)).trans ((o13 k (by omega) (by omega)).trans (h.same k hk1 hk2))
  acg:=dU.keep h.acg ((o14 p.mm (by omega) (by omega)).trans (o13 p.mm (by omega) hmr))
  bl:=(h.bl.grown af0 (by omega) (fun k hk=>by have:=ak hk;omega)).grown adE (by omega) (fun k hk=>by have:=ak hk;omega)
  few:=by have:=h.few;have h3:=Cb xy.1 xy.2 own;rw[aS] at this;omega
  bok:=Yc h.bok (by omega) hsz.2
  tb1:=⟨h1.1,h1.2.1,by omega⟩
  w01:=h2}
theorem uo(h:oP ms s):∀y∈iF s,y.size<=32:=by
 obtain⟨x,_,hf,hx⟩:=h.iF;rw[hf]
 exact fun y hy=>h.names x hx y hy
theorem vG(h:oP ms s)(m:ah):∀y∈fu s m,y.size<=32:=by
 unfold fu
 cases hf:s.find? (fun x=>decide (x.1=m)) with
 |none=>intro y hy;cases hy
 |some x=>exact fun y hy=>h.names x (pV hf) y hy
theorem yC(s:jh)(m:ah):(fu s m).length<=nD s:=by
 unfold fu
 cases h:s.find? (fun x=>decide (x.1=m)) with
 |none=>exact aN _
 |some x=>exact uY (pV h)
theorem Ki(h:oP ms s):(iF s).length<=nD s:=by
 obtain⟨x,_,hf,hx⟩:=h.iF;rw[hf];exact uY hx
theorem Xg{u:ah}(h:oU S outs ins u=none):OQ S no ls u (.ok outs) (.ok ins)=match Ed S.top ls [] with
  |.error e=>.error e
  |.ok ol=>.ok ({S with bB:=S.bB++[uZ outs ins (fo u) ol.1]},ol.2):=by
 unfold OQ;simp only[h]
theorem OH:∀{rest:List dK} {own own':iB} {rest':List dK},Ed top rest own=.ok (own',rest')->rest'.length<=rest.length
 |[],own,own',rest',h=>by
  rw[Ed] at h;injection h with h;obtain⟨rfl,rfl⟩:=Prod.mk.inj h;exact ai _
 |y::rest,own,own',rest',h=>by
  rw[Ed] at h
  by_cases hb:fQ y.2 32=true
  ·rw[aD hb] at h
   cases hbs:pK y.2 with
   |none=>rw[hbs] at h;cases h
   |some nv=>
    rw[hbs] at h;simp only at h
    cases hx:iy (Di own top) nv.2 with
    |none=>rw[hx] at h;cases h
    |some z=>
     rw[hx] at h;have:=OH h;rw[aS];omega
  rw[ax hb] at h;injection h with h;obtain⟨rfl,rfl⟩:=Prod.mk.inj h;exact ai _
theorem Nb{xr:dK×List dK}(h:gT ls=some xr):xr.2.length<=ls.length:=by
 cases ls with
 |nil=>cases h
 |cons x r=>
  rw[show gT (x::r)=if fQ x.2 32=true then some (x,r) else none from rfl] at h
  split at h
  ·obtain rfl:=ak h;exact fB _
  cases h
variable {S':St}{rest':List dK}
theorem Xi(h:wh S no t rest=.ok (S',rest')):rest'.length<=rest.length:=by
 unfold wh at h
 split at h
 ·cases h
 split at h
 ·cases h
 split at h
 ·cases h
 rename_i xr hx
 split at h
 ·cases h
 split at h
 ·cases h
 split at h
 ·cases h
 injection h with h;obtain⟨_,rfl⟩:=Prod.mk.inj h;exact Nb hx
theorem RP(h:kV S no t rest=.ok (S',rest')):rest'.length<=rest.length:=by
 unfold kV at h
 split at h
 ·cases h
 split at h
 ·cases h
 split at h
 ·cases h
 split at h
 ·cases h
 split at h
 ·cases h
 rename_i ol ho
 injection h with h;obtain⟨_,rfl⟩:=Prod.mk.inj h;exact OH (own':=ol.1) ho
theorem El(h:qV S no t rest=.ok (S',rest')):rest'.length<=rest.length:=by
 unfold qV at h
 split at h
 ·cases h
 split at h
 ·exact Xi h
 split at h
 ·exact RP h
 split at h
 ·unfold oh at h
  split at h
  ·cases h
  split at h
  ·cases h
  injection h with h;obtain⟨_,rfl⟩:=Prod.mk.inj h;exact ai _
 unfold Nu at h
 split at h
 ·cases h
 split at h
 ·cases h
 injection h with h;obtain⟨_,rfl⟩:=Prod.mk.inj h;exact ai _
theorem OT:∀(g g':Nat) (S:St) (ls:List dK),ls.length<=g->ls.length<=g'->Bn g S ls=Bn g' S ls
 |0,0,_,_,_,_=>rfl
 |0,g'+1,S,[],_,_=>by rw[Bn,Bn]
 |0,_+1,_,_::_,h,_=>by simp at h
 |g+1,0,S,[],_,_=>by rw[Bn,Bn]
 |_+1,0,_,_::_,_,h=>by simp at h
 |g+1,g'+1,S,[],_,_=>by rw[Bn,Bn]
 |g+1,g'+1,S,x::rest,h1,h2=>by
  rw[Bn,Bn];rw[aS] at h1 h2
  cases hs:qV S x.1 x.2 rest with
  |error e=>rfl
  |ok Sr=>
   have:=El (S':=Sr.1) (rest':=Sr.2) hs;exact OT g g' Sr.1 Sr.2 (by omega) (by omega)
def zy(S:St)(ls:List dK):Except (FM×Nat) St:=Bn ls.length S ls
theorem Xj(S:St):zy S []=.ok S:=rfl
theorem Uo(S:St)(x:dK)(rest:List dK):zy S (x::rest)=match qV S x.1 x.2 rest with
  |.error e=>.error e
  |.ok Sr=>zy Sr.1 Sr.2:=by
 unfold zy;rw[aS,Bn]
 cases hs:qV S x.1 x.2 rest with
 |error e=>rfl
 |ok Sr=>exact OT _ _ _ _ (El (S':=Sr.1) (rest':=Sr.2) hs) (ai _)
theorem Uy{w2 w4:aj}(hg:Gl a w)(hB:14<=B)(hBw:B<=w.heap.size)(hrow:w2.heap[sb]?=some (.cells #[.map (some tb),.pointer none] 302 (0,0)))(hmap:wD w2 tb 0 [])(htb:w.heap.size<=tb/\tb<sb)(hb2:Below w.heap.size w w2)(hl:XI w4 (((w2.alloc (.map #[] 0)).alloc (.map #[] 0)).alloc (.cells #[.int .i64 0,.slice none 0 0,.pointer (some ⟨sb,0,none⟩),.map (some w2.heap.size),.map (some (w2.heap.size+1)),.slice none 0 0,.slice none 0 0] 201)).heap.size v ls)(hb4:Below (((w2.alloc (.map #[] 0)).alloc (.map #[] 0)).alloc (.cells #[.int .i64 0,.slice none 0 0,.pointer (some ⟨sb,0,none⟩),.map (some w2.heap.size),.map (some (w2.heap.size+1)),.slice none 0 0,.slice none 0 0] 201)).heap.size (((w2.alloc (.map #[] 0)).alloc (.map #[] 0)).alloc (.cells #[.int .i64 0,.slice none 0 0,.pointer (some ⟨sb,0,none⟩),.map (some w2.heap.size),.map (some (w2.heap.size+1)),.slice none 0 0,.slice none 0 0] 201)) w4)(hls:∀x∈ls,x.2.size<=4000)(hlc:ls.length<=5000):
  ∃p,ig p a B (w4.setCell ⟨w2.heap.size+2,1,none⟩ v) (w2.heap.size+2) (0:Nat) ls St.none 5000:=by
 have hsb:=bI hrow;generalize hw3:((w2.alloc (.map #[] 0)).alloc (.map #[] 0)).alloc (.cells #[.int .i64 0,.slice none 0 0,.pointer (some ⟨sb,0,none⟩),.map (some w2.heap.size),.map (some (w2.heap.size+1)),.slice none 0 0,.slice none 0 0] 201)=w3 at*
 have h3s:w3.heap.size=w2.heap.size+3:=by rw[<-hw3];simp
 have h3o:∀k,k<w2.heap.size->w3.heap[k]?=w2.heap[k]?:=fun k hk=>by
  rw[<-hw3,aZ _ _ k (by simp;omega),aZ _ _ k (by simp;omega),aZ _ _ k hk]
 have h3r:w3.heap[w2.heap.size+2]?=some (.cells #[.int .i64 0,.slice none 0 0,.pointer (some ⟨sb,0,none⟩),.map (some w2.heap.size),.map (some (w2.heap.size+1)),.slice none 0 0,.slice none 0 0] 201 (0,0)):=by
  rw[<-hw3];exact aW _ _ _ (by simp)
 have hm1:wD w3 w2.heap.size 0 []:=by
  have h1:wD (w2.alloc (.map #[] 0)) w2.heap.size 0 []:=dU.made UG yL ⟨_,_,rfl⟩ w2;refine dU.keep h1 ?_;rw[<-hw3,aZ _ _ _ (by simp;omega),aZ _ _ _ (by simp)]
 have hm2:ny w3 (w2.heap.size+1) 0 []:=by
  have h1:ny ((w2.alloc (.map #[] 0)).alloc (.map #[] 0)) (w2.alloc (.map #[] 0)).heap.size 0 []:=dU.made Mj (.agg #[]) ⟨_,_,rfl⟩ (w2.alloc (.map #[] 0))
  have e:(w2.alloc (.map #[] 0)).heap.size=w2.heap.size+1:=by simp
  rw[e] at h1;refine dU.keep h1 ?_;rw[<-hw3,aZ _ _ _ (by simp)]
 clear hw3
 have h5:∀k,k≠w2.heap.size+2->(w4.setCell ⟨w2.heap.size+2,1,none⟩ v).heap[k]?=w4.heap[k]?:=fun k hk=>iP hk
 have h53:∀k,k<w3.heap.size->k≠w2.heap.size+2->(w4.setCell ⟨w2.heap.size+2,1,none⟩ v).heap[k]?=w3.heap[k]?:=fun k h1 h2=>(h5 k h2).trans (hb4.block k h1)
 have hs5:(w4.setCell ⟨w2.heap.size+2,1,none⟩ v).heap.size=w4.heap.size:=by simp
 have h4s:=hb4.size
 have hvb:∀k,v.ownBlock=some k->w3.heap.size<=k/\k<w4.heap.size:=fun k hk=>bA hl k hk
 refine⟨{c:=fun k=>if k=w2.heap.size+2 then 1 else if k=tb then 2 else if k=w2.heap.size then 3 else if k=w2.heap.size+1 then 4 else if k<B then 9 else 0,vl:=v,vd:=.slice none 0 0,vf:=.slice none 0 0,sb:=sb,tb:=tb,rm:=w2.heap.size,mm:=w2.heap.size+1,n1:=0,n2:=0,n3:=0,ds:=[]},?_⟩
 have hc0:∀k,k≠w2.heap.size+2->k≠tb->k≠w2.heap.size->k≠w2.heap.size+1->B<=k->(if k=w2.heap.size+2 then 1 else if k=tb then 2 else if k=w2.heap.size then 3 else if k=w2.heap.size+1 then 4 else if k<B then 9 else 0)=0:=fun k h1 h2 h3 h4 h5=>by
  rw[ax h1,ax h2,ax h3,ax h4,ax (by omega)]
 have apv:=hb2.size
 exact {
  gl:=hg.keep (by omega) (fun k hk=>((h53 k (by have:=hg.size;omega) (by have:=hg.size;omega)).trans (h3o k (by have:=hg.size;omega))).trans (hb2.block k (by have:=hg.size;omega)))
  base:=hB
  row:=by
   show(w4.setCell ⟨w2.heap.size+2,1,none⟩ v).heap[w2.heap.size+2]?=_;rw[xY ((hb4.block _ (by omega)).trans h3r)];rfl
  const:=fun w'' hs hk=>by
   refine⟨(Qu hl).keep (fun k h1 h2=>?_),?_,rfl,fun k d e hd=>by simp at hd⟩
   ·obtain⟨o,n,c,e⟩:=h2;have h3:=hvb k (by rw[e];rfl);exact(hk k (by omega) (hc0 k (by omega) (by omega) (by omega) (by omega) (by omega))).trans (h5 k (by omega))
   exact((hk sb (by omega) (hc0 sb (by omega) (by omega) (by omega) (by omega) (by omega))).trans ((h53 sb (by omega) (by omega)).trans (h3o sb hsb))).trans hrow
  top:=dU.keep hmap ((h53 tb (by omega) (by omega)).trans (h3o tb (by omega)))
  rules:=dU.keep hm1 (h53 w2.heap.size (by omega) (by omega))
  mlt:=by show w2.heap.size+1<_;omega
  made:=dU.keep hm2 (h53 (w2.heap.size+1) (by omega) (by omega))
  jN:=dD _ _ _ _
  defs:=dD _ _ _ _
  c1:=aD rfl
  c2:=by show(if tb=w2.heap.size+2 then 1 else if tb=tb then 2 else _)=2;rw[ax (by omega),aD rfl]
  c3:=by show(if w2.heap.size=w2.heap.size+2 then 1 else if w2.heap.size=tb then 2 else if w2.heap.size=w2.heap.size then 3 else _)=3;rw[ax (by omega),ax (by omega),aD rfl]
  c4:=by show(if w2.heap.size+1=w2.heap.size+2 then 1 else if w2.heap.size+1=tb then 2 else if w2.heap.size+1=w2.heap.size then 3 else if w2.heap.size+1=w2.heap.size+1 then 4 else _)=4;rw[ax (by omega),ax (by omega),ax (by omega),aD rfl]
  c5:=fun k hk=>by cases hk
  c6:=fun k hk=>by cases hk
  low:=fun k hk=>by
   show(if k=w2.heap.size+2 then 1 else if k=tb then 2 else if k=w2.heap.size then 3 else if k=w2.heap.size+1 then 4 else if k<B then 9 else 0)=9;rw[ax (by omega),ax (by omega),ax (by omega),ax (by omega),aD hk]
  few:=by show 0+5000<=5000/\0+5000<=5000/\0+8000*5000<=40000000;omega
  ok:={top:=(fun x hx=>by cases hx),Mi:=ai _,rules:=(fun x hx=>by cases hx),BX:=ai _,bB:=aN _,edge:=(fun x hx=>by cases hx),defs:=(by show 0+4000*5000<=20000000;omega),lines:=hls,count:=hlc}}
