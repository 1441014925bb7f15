import Derived.Lib.AppendZeros
import Derived.Test.YthhbpebihgjpjaaGreatDoorZ30
import Derived.Test.YthhbpebihgjpjaaGreatDoorZ31
import Derived.Test.YthhbpebihgjpjaaGreatDoorZ33
namespace Go.Proofs.YthhbpebihgjpjaaGreatDoor
set_option maxRecDepth 1000000
set_option maxHeartbeats 20000000
set_option linter.all false
section
open Go.RowKit
theorem abk(n:Nat)(hn:n<=1048576)(w:ak):
  Calls Tryz.prog 276 #[.slice none 0 0,.int .i64 n] w fun e w'=>∃v,e=.returned v/\w'.ownsRow w.heap.size 9 1 v 0 []/\Below w.heap.size w w':=by
 have hinf:(Tryz.prog.info? 9).map (fun i=>(i.size,i.bytes,i.zero))=some (1,16,some (.string ⟨#[]⟩)):=dD
 obtain⟨ti,hti,htj⟩:=bA.1 hinf;simp only[Prod.mk.injEq] at htj
 have n1:¬(n:Int)<0:=aJ
 have n2:(n:Int)<=1048576:=aJ
 by_cases h0:n=0
 ·subst h0;clear hinf hti htj
  go_enter Tryz.func276,Tryz.ntmps276
  go_wp2_with fail
  go_ret;exact⟨_,rfl,dK _ _ _ _,ay _ _⟩
 have hrun:=fun ty=>Lib.run_append_nil_zeros (P:=Tryz.prog) w 32 3 ty 9 ti (.string ⟨#[]⟩) .i64 .i64 Tryz.underlying32 Tryz.underlying3 hti htj.2.2 n aJ (by rw[htj.1];decide) aJ (by rw[htj.2.1];omega)
 have hge:=grownCap_ge w n 0 9;have hle:=grownCap_le_maxLen w n 0 9 (by unfold maxLen;omega);generalize grownCap w n 0 9=G at*
 have hsz:(Builtin.zeroCells (Value.string ⟨#[]⟩).cells n++Builtin.zeroCells (Value.string ⟨#[]⟩).cells (G-n)).size=G*1:=by
  rw[Array.size_append,size_zeroCells,size_zeroCells];show n*1+(G-n)*1=_;omega
 generalize Builtin.zeroCells (Value.string ⟨#[]⟩).cells n++Builtin.zeroCells (Value.string ⟨#[]⟩).cells (G-n)=CS at*;have aaP:=aV hrun;have HOW:Hid ((w.drew.alloc (.cells CS 9)).ownsRow w.heap.size 9 1 (.slice (some ⟨w.heap.size,0,none⟩) 0 G) 0 []):=World.ownsRow_made w.drew CS G (ai _) hle hsz;have HB:Hid (Below w.heap.size w (w.drew.alloc (.cells CS 9))):=(ay _ _).drew.alloc (ai _) _
 have n3:(0:Int)<(n:Int):=aJ
 have hsl0:∀wx,(Instr.slice 32 (.slice none 0 0) none (some (.int .i64 0)) none).run Tryz.prog wx=.ok (.slice none 0 0) wx:=fun wx=>dD
 have g0:¬(G:Int)<0:=aJ
 have hsl:∀wx,(Instr.slice 32 (.slice (some ⟨w.heap.size,0,none⟩) n G) none (some (.int .i64 0)) none).run Tryz.prog wx=.ok (.slice (some ⟨w.heap.size,0,none⟩) 0 G) wx:=fun wx=>by
  simp[Instr.slice,ny Tryz.underlying32,go_sem]
 clear hrun hinf hti htj hsz
 go_enter Tryz.func276,Tryz.ntmps276
 go_wp2_with (at_builtin;refine Lib.wpList_append_run _ rfl (.tmp 20) (.tmp 21) 32 3 rfl _ _ rfl rfl _ _ (aaP.out _) ?_;refine dO ?_)
 unfold Hid
 go_wp2_with fail
 go_ret;exact⟨_,rfl,HOW.out,HB.out⟩
def oL(ll:List (Value×List ah)):List ah:=ll.flatMap (·.2)
theorem DX(ll:List (Value×List ah))(x:Value×List ah):oL (ll++[x])=oL ll++x.2:=by simp[oL]
theorem DU(ll:List (Value×List ah))(cb:Nat)(w:ak)(hc:∀(i:Nat) x,ll[i]?=some x->w.cell? ⟨cb,i,none⟩=some x.1/\bL w x.1 x.2)(hl:ll.length<=10)(hs:∀x∈ll,x.2.length<=10000):
  Calls Tryz.prog 202 #[.slice (some ⟨cb,0,none⟩) ll.length ll.length] w fun e w'=>∃v,e=.returned v/\w'.ownsRow w.heap.size 9 1 v (oL ll).length ((oL ll).map Value.string)/\Below w.heap.size w w':=by
 obtain⟨ti,HTI⟩:=iT (P:=Tryz.prog) (e:=9) (n:=1) (b:=16) (z:=(.string ⟨#[]⟩)) dD;have HC:=aV hc;have HS:=aV hs
 have n0:(ll.length:Int)<=10:=aJ
 have Vn:Hid (∀j,j<=ll.length->(oL (ll.take j)).length<=j*10000):=by
  intro j
  induction j with
  |zero=>intro _;exact ai _
  |succ j ih=>
   intro hj;have h1:=ih aJ;rw[jk aJ,DX,aI];have h2:=hs ll[j] (List.getElem_mem _);omega
 clear hc hs;generalize hL:ll.length=L at*;have HL:=aV hL;clear hL
 go_enter Tryz.func202,Tryz.ntmps202
 go_wp2_with fail
 go_loop [3,11] (fun z i=>∃j:Nat,i=.int .i64 j/\z=.int .i64 ((oL (ll.take j)).length:Nat)/\j<=L) (fun _ i=>L-(intOf i).toNat)
 case atStart=>exact⟨0,rfl,rfl,aS _⟩
 case round=>
  obtain⟨j,rfl,rfl,hle⟩:=hrel
  have j0:(0:Int)<=(j:Int):=aJ
  have hfl:=Vn.out j hle
  by_cases hlt:j<L
  ·obtain⟨x,hx⟩:∃x,ll[j]?=some x:=⟨ll[j]'(by have:=HL.out;omega),eB⟩;obtain⟨c1,ht⟩:=HC.out j x hx;obtain⟨ao,cap,hv,_,_⟩:=ht;rw[hv] at c1
   have j1:(j:Int)<(L:Int):=aJ
   have HN:Hid ((oL (ll.take (j+1))).length=(oL (ll.take j)).length+x.2.length):=by
    show _=_;obtain⟨h1,h2⟩:=aN.1 hx;rw[jk h1,DX,aI,h2]
   have hxl:=HS.out x (aU hx);clear hv hx;generalize x.2.length=XL at*;generalize (oL (ll.take j)).length=FL at*
   have f1:¬(FL:Int)+(XL:Int)<0:=aJ
   have f2:(FL:Int)<=100000:=aJ
   have f3:(XL:Int)<=10000:=aJ
   go_wp2_with fail
   exact⟨⟨j+1,oW,by rw[HN.out];go_num,hlt⟩,by simp[intOf];omega⟩
  obtain rfl:j=L:=aJ
  have HE:Hid (oL (ll.take j)=oL ll):=by show _=_;rw[<-HL.out,rz]
  generalize hFL:(oL (ll.take j)).length=FL at*;have HGW:Hid (Calls Tryz.prog 276 #[.slice none 0 0,.int .i64 FL] w fun e w'=>∃v,e=.returned v/\w'.ownsRow w.heap.size 9 1 v 0 []/\Below w.heap.size w w'):=abk FL aJ w;clear hFL
  go_wp2_with fail
  refine HGW.out.mono ?_;rintro e w1 ⟨v1,rfl,ho1,hb1⟩;have HO1:=aV ho1;have HB1:=aV hb1;clear ho1 hb1
  go_wp2_with fail
  go_loopw [6,27] (fun v i wr=>∃(k:Nat) (ao:Option Addr) (nn cap:Nat),i=.int .i64 k/\v=.slice ao nn cap/\nn=(oL (ll.take k)).length/\k<=j/\wr.ownsRow w.heap.size 9 1 (.slice ao nn cap) nn ((oL (ll.take k)).map Value.string)/\Below w.heap.size w wr) (fun _ i _=>j-(intOf i).toNat)
  case atStart=>
   obtain⟨ao1,Gf,e1,_,_⟩:=bE HO1.out;exact⟨0,ao1,0,Gf,rfl,e1,rfl,aS _,by rw[<-e1];exact HO1.out,HB1.out⟩
  case round=>
   obtain⟨k,ao,nn,cap,rfl,rfl,hnn,hke,hown,hbw⟩:=hrel;have HO:=aV hown;have lJ:=aV hbw;have hfk:=Vn.out k hke;rw[<-hnn] at hfk;have GY:=aV hnn;clear hown hbw hnn
   have k0:(0:Int)<=(k:Int):=aJ
   by_cases hlt2:k<j
   ·obtain⟨x,hx⟩:∃x,ll[k]?=some x:=⟨ll[k]'(by have:=HL.out;omega),eB⟩;obtain⟨c0,ht⟩:=HC.out k x hx;have c1:wr.cell? ⟨cb,k,none⟩=some x.1:=(lJ.out.cell (p:=⟨cb,k,none⟩) (aG c0)).trans c0
    have HN:Hid (oL (ll.take (k+1))=oL (ll.take k)++x.2):=by
     show _=_;obtain⟨h1,h2⟩:=aN.1 hx;rw[jk h1,DX,h2]
    have hxl:=HS.out x (aU hx)
    have k1:(k:Int)<(j:Int):=aJ
    obtain⟨av,xh,hv,_,h⟩:=ht.iy lJ.out;rw[hv] at c1;have hbs:w.heap.size<=wr.heap.size:=lJ.out.size;obtain⟨x1,xl⟩:=x;simp only at hv c1 HN hxl h;clear hx c0 hv ht;generalize oL (ll.take k)=F at*
    rcases h with ⟨h0,rfl,_⟩|⟨b,o,rfl,h⟩
    ·rw[fM] at HN
     cases av with
     |none=>
      obtain rfl:=h0 rfl
      go_wp2_with (at_builtin;refine wpList_append_own_none rfl (.tmp 31) (.tmp 32) 32 rfl w.heap.size 9 ti 1 Tryz.underlying32 HTI.out.1 _ nn _ rfl (by exact HO.out) rfl ?_;refine dO ?_)
      unfold Hid
      go_wp2_with fail
      exact⟨⟨k+1,ao,nn,cap,oW,rfl,by rw[HN.out];exact GY.out,hlt2,by rw[HN.out];exact HO.out,lJ.out⟩,by simp[intOf];omega⟩
     |some a0=>
      clear h0
      go_wp2_with (at_builtin;refine Ad _ rfl (.tmp 31) (.tmp 32) 32 rfl w.heap.size 9 ti (.string ⟨#[]⟩) 1 16 Tryz.underlying32 HTI.out.1 HTI.out.2.2.2 HTI.out.2.1 HTI.out.2.2.1 rfl bS _ nn _ rfl (by exact HO.out) a0 0 xh [] rfl rfl (by intro j u hu;simp at hu) (by intro u hu;cases hu) (by unfold maxLen;omega) aJ hbs ?_;intro v5 w5 hv5 hg5 hn5;refine dO ?_)
      have HO5:Hid (w5.ownsRow w.heap.size 9 1 v5 nn (F.map Value.string)):=by have h:=hv5;rw[fM] at h;exact h
      have Bq:Hid (Below w.heap.size w w5):=lJ.out.grown hg5 hbs (fun q hq=>(bF HO.out q hq).1);obtain⟨ao5,cap5,rfl,_,_⟩:=bE HO5.out;clear hv5 hg5 hn5;unfold Hid
      go_wp2_with fail
      exact⟨⟨k+1,ao5,nn,cap5,oW,rfl,by rw[HN.out];exact GY.out,hlt2,by rw[HN.out];exact HO5.out,Bq.out⟩,by simp[intOf];omega⟩
    have Ev:Hid (∀(j:Nat) u,(xl.map Value.string)[j]?=some u->wr.cell? ((⟨b,o,none⟩:Addr).add j)=some u):=by
     intro j u hu
     have hadd:(⟨b,o,none⟩:Addr).add j=⟨b,o+j,none⟩:=by unfold Addr.add;split<;>simp_all
     rw[dS] at hu;obtain⟨s,hs1,rfl⟩:=bA.1 hu;rw[hadd];exact h j s hs1
    clear h
    go_wp2_with (at_builtin;refine Ad _ rfl (.tmp 31) (.tmp 32) 32 rfl w.heap.size 9 ti (.string ⟨#[]⟩) 1 16 Tryz.underlying32 HTI.out.1 HTI.out.2.2.2 HTI.out.2.1 HTI.out.2.2.1 rfl bS _ nn _ rfl (by exact HO.out) ⟨b,o,none⟩ xl.length xh (xl.map Value.string) rfl eB Ev.out (by intro u hu;obtain⟨s,_,rfl⟩:=fP.1 hu;rfl) (by unfold maxLen;omega) aJ hbs ?_;intro v5 w5 hv5 hg5 hn5;refine dO ?_)
    have HO5:Hid (w5.ownsRow w.heap.size 9 1 v5 (nn+xl.length) ((F++xl).map Value.string)):=by rw[iI];exact hv5
    have Bq:Hid (Below w.heap.size w w5):=lJ.out.grown hg5 hbs (fun q hq=>(bF HO.out q hq).1);obtain⟨ao5,cap5,rfl,_,_⟩:=bE HO5.out;clear hv5 hg5 hn5;unfold Hid
    go_wp2_with fail
    exact⟨⟨k+1,ao5,nn+xl.length,cap5,oW,rfl,by rw[HN.out,aI,<-GY.out],hlt2,by rw[HN.out];exact HO5.out,Bq.out⟩,by simp[intOf];omega⟩
   obtain rfl:k=j:=aJ
   have HF:Hid (wr.ownsRow w.heap.size 9 1 (.slice ao nn cap) (oL ll).length ((oL ll).map Value.string)):=by
    rw[<-HE.out,<-GY.out];exact HO.out
   have k1:¬(k:Int)<(k:Int):=aJ
   go_wp2_with fail
   go_ret;exact⟨_,rfl,HF.out,lJ.out⟩
end
section
open Go.RowKit Go.Maps
def adS:Value->Option (DataW Unit×List MemPlace)
 |.int .i64 k=>some (.lit (.int .i64 k),[])
 |_=>none
variable {v:Value}
theorem abE{v':Value}{d:DataW Unit}{p p':List MemPlace}(h:adS v=some (d,p))(h':adS v'=some (d,p')):v=v':=by
 unfold adS at h h'
 split at h
 ·split at h'
  ·have e1:=ig Prod.fst (ax h);have e2:=ig Prod.fst (ax h');rw[<-e1] at e2;injection e2 with e2;injection e2 with _ e2;rw[e2]
  cases h'
 cases h
def Ky:zF:=⟨adS,abE⟩
variable {w:ak}{vm:Value}
theorem wN{vo vi vr:Value}{r c:ah}(e:dA)(tv:∃ao n c,vo=.slice ao n c)(ti:bL w vi e.ins)(tm:bL w vm e.impl)(tr:bL w vr e.ord)(hi:e.ins.length<=10000)(hm:e.impl.length<=10000)(hr:e.ord.length<=10000):
  Calls Tryz.prog 116 #[.agg #[vo,vi,vm,vr,.string r,.string c]] w fun e' w'=>∃v,e'=.returned v/\w'.ownsRow w.heap.size 9 1 v (eO e).length ((eO e).map Value.string)/\Below w.heap.size w w':=by
 obtain⟨nu,nO,cO,rfl⟩:=tv
 obtain⟨kE,nI,cI,MB⟩:∃ao n c,vi=.slice ao n c:=by obtain⟨ao,cap,e,_⟩:=ti;exact⟨ao,_,cap,e⟩
 obtain⟨lM,nM,cM,Wl⟩:∃ao n c,vm=.slice ao n c:=by obtain⟨ao,cap,e,_⟩:=tm;exact⟨ao,_,cap,e⟩
 obtain⟨nH,nR,cR,Zm⟩:∃ao n c,vr=.slice ao n c:=by obtain⟨ao,cap,e,_⟩:=tr;exact⟨ao,_,cap,e⟩
 subst MB Wl Zm;obtain⟨W1,hW1⟩:∃W1,W1=w.alloc (.cells #[.slice nu nO cO,.slice kE nI cI,.slice lM nM cM,.slice nH nR cR,.string r,.string c] 63):=⟨_,rfl⟩
 have hb1:Below w.heap.size w W1:=by rw[hW1];exact(ay _ _).alloc (ai _) _
 obtain⟨W2,hW2⟩:∃W2,W2=W1.alloc (.cells #[.slice kE nI cI,.slice lM nM cM,.slice nH nR cR] 32):=⟨_,rfl⟩
 have hb2:Below w.heap.size w W2:=by rw[hW2];exact hb1.alloc hb1.size _
 have hrow:W2.heap[W1.heap.size]?=some (.cells #[.slice kE nI cI,.slice lM nM cM,.slice nH nR cR] 32 (0,0)):=by rw[hW2];exact bq _ _ _ rfl
 have HC:=DU [(.slice kE nI cI,e.ins),(.slice lM nM cM,e.impl),(.slice nH nR cR,e.ord)] W1.heap.size W2 (fun i x hx=>by
  match i,hx with
  |0,hx=>obtain rfl:=ax hx;exact⟨by rw[aj _ _ _ _ _ _ hrow];rfl,ti.iy hb2⟩
  |1,hx=>obtain rfl:=ax hx;exact⟨by rw[aj _ _ _ _ _ _ hrow];rfl,tm.iy hb2⟩
  |2,hx=>obtain rfl:=ax hx;exact⟨by rw[aj _ _ _ _ _ _ hrow];rfl,tr.iy hb2⟩
  |i+3,hx=>cases hx) (show 3<=10 by decide) (fun x hx=>by
  rcases bg.1 hx with rfl|hx
  ·exact hi
  rcases bg.1 hx with rfl|hx
  ·exact hm
  obtain rfl:=bD.1 hx
  exact hr)
 have HC:=aV HC
 have hfl:oL [(.slice kE nI cI,e.ins),(.slice lM nM cM,e.impl),(.slice nH nR cR,e.ord)]=eO e:=by simp[oL,eO]
 rw[hfl] at HC;have HB2:=aV hb2
 have HW:Hid (W2=(w.alloc (.cells #[.slice nu nO cO,.slice kE nI cI,.slice lM nM cM,.slice nH nR cR,.string r,.string c] 63)).alloc (.cells #[.slice kE nI cI,.slice lM nM cM,.slice nH nR cR] 32)):=by rw[hW2,hW1];rfl
 have HZ:Hid (W1.heap.size=w.heap.size+1):=by rw[hW1];exact bO _ _
 rw[HZ.out] at HC;clear hW1 hW2 hb1 hb2 hrow ti tm tr hi hm hr hfl
 go_enter Tryz.func116,Tryz.ntmps116
 go_wp2_with fail
 rw[<-HW.out];refine HC.out.mono ?_;rintro e1 w3 ⟨v,rfl,hv3,hb3⟩;have HF:Hid (w3.ownsRow w.heap.size 9 1 v (eO e).length ((eO e).map Value.string)/\Below w.heap.size w w3):=⟨wu hv3 HB2.out.size,HB2.out.trans (hb3.mono HB2.out.size)⟩;clear hv3 hb3 HC
 go_wp2
 go_ret;exact⟨_,rfl,HF.out⟩
variable {p:PV}{a:Nat->Addr}{B rb m:Nat}{n:Int}{ls:List dQ}{S:St}
theorem iF.fresh(h:iF p a B w rb n ls S m):∃q:PV,(∀k,w.heap.size<=k->q.c k=7)/\iF q a B w rb n ls S m:=by
 refine⟨{p with c:=fun k=>if w.heap.size<=k then 7 else p.c k},fun k hk=>aH hk,?_⟩
 have hc:∀k,k<w.heap.size->(if w.heap.size<=k then 7 else p.c k)=p.c k:=fun k hk=>aA aJ
 exact {
  gl:=h.gl,base:=h.base,row:=h.row
  const:=fun w'' hs hk=>h.const w'' hs (fun k h1 h2=>hk k h1 ((hc k h1).trans h2))
  top:=h.top,rules:=h.rules,mlt:=h.mlt,jR:=h.jR,defs:=h.defs
  c1:=(hc rb h.ql).trans h.c1
  c2:=(hc p.tb h.top.lt).trans h.c2
  c3:=(hc p.rm h.rules.lt).trans h.c3
  c4:=(hc p.mm h.mlt).trans h.c4
  c5:=fun k hk=>(hc k (bF h.jR k hk).2).trans (h.c5 k hk)
  c6:=fun k hk=>(hc k (bF h.defs k hk).2).trans (h.c6 k hk)
  low:=fun k hk=>(hc k (aB hk h.bw)).trans (h.low k hk)
  few:=h.few,ok:=h.ok,made:=h.made}
variable {w':ak}
theorem PStB.wrote{b:Nat}(h:PStB p a B w rb n ls S m)(hg:w.grownBy w' (some b))(hb:p.c b=4\/p.c b=7):PStB p a B w' rb n ls S m:=by
 have off:∀{k:Nat},k<w.heap.size->p.c k≠4->p.c k≠7->w'.heap[k]?=w.heap[k]?:=fun {k} hk h4 h7=>hg.block k hk (fun e=>by
  have e:=ax e;subst e
  rcases hb with q|q
  ·exact h4 q
  exact h7 q)
 exact {
  gl:=h.gl.keep hg.size (fun k hk=>off (aB hk h.gl.size) (by rw[h.low k (aB hk h.base)];decide) (by rw[h.low k (aB hk h.base)];decide))
  base:=h.base
  row:=(off h.ql (by rw[h.c1];decide) (by rw[h.c1];decide)).trans h.row
  const:=h.const.step hg.size (fun k hk h0=>⟨off hk (by rw[h0];decide) (by rw[h0];decide),h0⟩)
  top:=eu.keep h.top (off h.top.lt (by rw[h.c2];decide) (by rw[h.c2];decide))
  rules:=eu.keep h.rules (off h.rules.lt (by rw[h.c3];decide) (by rw[h.c3];decide))
  mlt:=aB h.mlt hg.size
  jR:=dR h.jR (fun k hk=>off (bF h.jR k hk).2 (by rw[h.c5 k hk];decide) (by rw[h.c5 k hk];decide))
  defs:=dR h.defs (fun k hk=>off (bF h.defs k hk).2 (by rw[h.c6 k hk];decide) (by rw[h.c6 k hk];decide))
  c1:=h.c1,c2:=h.c2,c3:=h.c3,c4:=h.c4,c5:=h.c5,c6:=h.c6,low:=h.low,few:=h.few,ok:=h.ok}
theorem MX(l r:List jQ):sJ (l++r)=sJ l++sJ r:=by unfold sJ;rw[lC]
theorem VK(d:jQ):sJ [d]=d.cells:=by unfold sJ;simp
variable {sb:Nat}{d:jQ}{e:dA}
theorem Sl{ds:List jQ}{es:List dA}(h:Jv w sb ds es)(hd:Pp w sb d e):Jv w sb (ds++[d]) (es++[e]):=by
 refine⟨by simp[h.1],fun k x y hx hy=>?_⟩
 rcases bX k ds.length with q|q
 ·rw[bW q] at hx;rw[bW (by rw[<-h.1];exact q)] at hy;exact h.2 k x y hx hy
 have hk:k=ds.length:=by
  have:=(aN.1 hx).1
  simp at this
  omega
 subst hk;rw[dz (ai _),qm] at hx;rw[h.1,dz (ai _),qm] at hy;obtain rfl:=ax hx;obtain rfl:=ax hy;exact hd
def ae4(e:dA):Prop:=BOk e.own/\e.own.length<=5000/\e.outs.length<=8000/\e.ins.length<=4000/\(∀x∈e.outs,x.size<=32)/\(∀x∈e.ins,x.size<=32)/\e.impl.length<=4000/\e.ord.length<=4000
variable {W0:Nat}
theorem PStB.PS{w3:ak}{vd':Value}(h:PStB p a B w rb n ls S (m+1))(hm:nG w p.mm (p.n3+e.outs.length) (e.outs.reverse++qE S))(hW:∀k,W0<=k->p.c k=7)(hd:∀w'':ak,(∀k,W0<=k->k<w.heap.size->w''.heap[k]?=w.heap[k]?)->Pp w'' p.sb d e)(hg:w.grownBy w3 p.vd.ownBlock)(hr:w3.ownsRow B 311 7 vd' (S.bG.length+1) (sJ p.ds++d.cells))(hat:∀k,vd'.ownBlock=some k->p.vd.ownBlock=some k\/w.heap.size<=k)(he:ae4 e)(h64:S.bG.length<64):iF {p with vd:=vd',c:=fun k=>if vd'.ownBlock=some k then 5 else if p.c k=7 then 0 else p.c k,n3:=p.n3+e.outs.length,ds:=p.ds++[d]} a B (w3.setCell ⟨rb,5,none⟩ vd') rb n ls {S with bG:=S.bG++[e]} m:=by
 have hrb:=h.ql
 have hnv:∀k,k<w.heap.size->p.c k≠5->vd'.ownBlock≠some k:=fun k hk hc e=>by
  rcases hat k e with q|q
  ·exact hc (h.c5 k q)
  omega
 have hc':∀k,k<w.heap.size->p.c k≠5->p.c k≠7->(if vd'.ownBlock=some k then 5 else if p.c k=7 then 0 else p.c k)=p.c k:=fun k hk hc h7=>(aA (hnv k hk hc)).trans (aA h7)
 have TP:∀k,k<w.heap.size->p.c k≠5->w3.heap[k]?=w.heap[k]?:=fun k hk hc=>hg.block k hk (fun e=>hc (h.c5 k e.symm))
 have off:∀k,k<w.heap.size->p.c k≠5->p.c k≠1->(w3.setCell ⟨rb,5,none⟩ vd').heap[k]?=w.heap[k]?:=fun k hk hc h1=>by
  rw[au _ _ _ _ (show k≠rb from fun e=>h1 (by rw[e];exact h.c1))];exact TP k hk hc
 have hsz:w.heap.size<=(w3.setCell ⟨rb,5,none⟩ vd').heap.size:=by simpa using hg.size
 exact {
  gl:=h.gl.keep hsz (fun k hk=>off k (aB hk h.gl.size) (by rw[h.low k (aB hk h.base)];decide) (by rw[h.low k (aB hk h.base)];decide))
  base:=h.base
  row:=by
   have h1:w3.heap[rb]?=_:=(TP rb hrb (by rw[h.c1];decide)).trans h.row;show(w3.setCell ⟨rb,5,none⟩ vd').heap[rb]?=_;rw[aR _ _ _ _ _ _ h1];rfl
  const:=fun w'' hs hk=>by
   have hold:=h.const w'' (aC hsz hs) (fun k h1 h2=>(hk k (aB h1 hsz) ((hc' k h1 (by rw[h2];decide) (by rw[h2];decide)).trans h2)).trans (off k h1 (by rw[h2];decide) (by rw[h2];decide)));refine⟨hold.1,hold.2.1,Sl hold.2.2 (hd w'' (fun k h1 h2=>?_))⟩;have h7:=hW k h1
   exact(hk k (aB h2 hsz) (by
    show(if vd'.ownBlock=some k then 5 else if p.c k=7 then 0 else p.c k)=0
    rw[aA (hnv k h2 (by rw[h7];decide)),aH h7])).trans (off k h2 (by rw[h7];decide) (by rw[h7];decide))
  top:=eu.keep h.top (off p.tb h.top.lt (by rw[h.c2];decide) (by rw[h.c2];decide))
  rules:=eu.keep h.rules (off p.rm h.rules.lt (by rw[h.c3];decide) (by rw[h.c3];decide))
  mlt:=aB h.mlt hsz
  made:=by
   have hk:=eu.keep hm (off p.mm h.mlt (by rw[h.c4];decide) (by rw[h.c4];decide));refine nG.same (l:=e.outs.reverse++qE S) hk (fun x=>?_);show fo x ((S.bG++[e]).flatMap (·.outs))=_;rw[lC,Ig,Ig,QA,Bool.or_comm]
   simp[qE]
  jR:=by
   show World.ownsRow _ _ _ _ _ (S.bG++[e]).length (sJ (p.ds++[d]));rw[aI,MX,VK];exact dR hr (fun k hk=>au _ _ _ _ (show k≠rb from fun e=>hnv rb hrb (by rw[h.c1];decide) (by rw[<-e];exact hk)))
  defs:=dR h.defs (fun k hk=>off k (bF h.defs k hk).2 (by rw[h.c6 k hk];decide) (by rw[h.c6 k hk];decide))
  c1:=(hc' rb hrb (by rw[h.c1];decide) (by rw[h.c1];decide)).trans h.c1
  c2:=(hc' p.tb h.top.lt (by rw[h.c2];decide) (by rw[h.c2];decide)).trans h.c2
  c3:=(hc' p.rm h.rules.lt (by rw[h.c3];decide) (by rw[h.c3];decide)).trans h.c3
  c4:=(hc' p.mm h.mlt (by rw[h.c4];decide) (by rw[h.c4];decide)).trans h.c4
  c5:=fun k hk=>aH hk
  c6:=fun k hk=>(hc' k (bF h.defs k hk).2 (by rw[h.c6 k hk];decide) (by rw[h.c6 k hk];decide)).trans (h.c6 k hk)
  low:=fun k hk=>by
   have h0:=h.low k hk;show(if vd'.ownBlock=some k then 5 else if p.c k=7 then 0 else p.c k)=9;rw[aA (fun e=>by have:=(bF hr k e).1;omega),aA (by rw[h0];decide)];exact h0
  few:=by show p.n1+m<=5000/\p.n2+m<=5000/\p.n3+e.outs.length+8000*m<=40000000;have:=h.few;have:=he.2.2.1;omega
  ok:={top:=h.ok.top,Mi:=(by show S.top.length+m<=5000;have:=h.ok.Mi;omega),rules:=h.ok.rules,Ca:=(by show S.rules.length+m<=5000;have:=h.ok.Ca;omega),bG:=(by show(S.bG++[e]).length<=64;rw[aI];show _+1<=_;omega),edge:=(fun x hx=>by
       rcases bQ.1 (show x∈S.bG++[e] from hx) with hx|hx
       ·exact h.ok.edge x hx
       obtain rfl:=bD.1 hx
       exact he),defs:=(by show S.defs.length+4000*m<=_;have:=h.ok.defs;omega),lines:=h.ok.lines,count:=h.ok.count}}
theorem gJ.same{l:List ah}(h:gJ W0 w v l)(hb:∀k,W0<=k->k<w.heap.size->w'.heap[k]?=w.heap[k]?):gJ W0 w' v l:=by
 refine⟨?_,h.2⟩;obtain⟨ao,cap,rfl,hc,q|⟨b,o,rfl,q⟩⟩:=h.1
 ·exact⟨ao,cap,rfl,hc,aK q⟩
 exact⟨_,cap,rfl,hc,aP ⟨b,o,rfl,fun k s hs=>(aF (w:=w) (a:=⟨b,o+k,none⟩) (hb b (h.2 b rfl) (aG (q k s hs)))).trans (q k s hs)⟩⟩
def OV(S:St)(no:Nat)(ls:List dQ)(u:ah)(ro ri:Except FO jm):Res:=match ro with
 |.error e=>.error (e,no)
 |.ok outs=>match ri with
   |.error e=>.error (e,no)
   |.ok ins=>match oV S outs ins u with
     |some e=>.error (e,no)
     |none=>match Ef S.top ls [] with
       |.error e=>.error e
       |.ok ol=>.ok ({S with bG:=S.bG++[vv outs ins (fE u) ol.1]},ol.2)
variable {no:Nat}{t:ah}
theorem YK(hk:¬t.size<=qG pq t):kZ S no t ls=OV S no ls (bI (t.extract (qG pq t+1) t.size)) (nP (gK [S.top]) [oI] (t.extract 0 (qG pq t))) (nP (gK [S.top]) [oI,wC] (gV (bI (t.extract (qG pq t+1) t.size)))):=by
 unfold kZ OV;rw[aA hk,Gm]
 split
 ·rename_i e h
  rw[h]
 rename_i outs h
 rw[h]
 simp only
 split
 ·rename_i e h2
  rw[h2]
 rename_i ins h2
 rw[h2]
 simp only
 split
 ·rename_i e h3
  rw[h3]
 rename_i h3
 rw[h3]
 simp only
 split
 ·rename_i e h4
  rw[h4]
 rename_i ol h4
 rw[h4]
variable {s:jm}
theorem rD.mono{W1:Nat}(h:rD W1 w v s)(hW:W0<=W1):rD W0 w v s:=by
 obtain⟨g,cap,hv,hc,vs,hs,hcell⟩:=h;exact⟨g,cap,hv,hc,vs,⟨hs.1,fun k x y hx hy=>⟨(hs.2 k x y hx hy).1,(hs.2 k x y hx hy).2.1,fun b hb=>aC hW ((hs.2 k x y hx hy).2.2 b hb)⟩⟩,hcell⟩
structure yD(p:PV)(a:Nat->Addr)(B:Nat)(w0:ak)(rb no:Nat)(ls:List dQ)(S:St)(m:Nat)(v1:Value)(outs:jm)(v2:Value)(ins:jm)(w:ak):Prop where
 st:iF p a B w rb (no:Nat) ls S m
 so:rD w0.heap.size w v1 outs
 si:rD w0.heap.size w v2 ins
 bl:Below w0.heap.size w0 w
variable {w0:ak}{v1:Value}{outs ins:jm}
theorem yD.later{v2:Value}(h:yD p a B w0 rb no ls S m v1 outs v2 ins w)(hb:Below w.heap.size w w'):yD p a B w0 rb no ls S m v1 outs v2 ins w':=
 ⟨h.st.below hb,h.so.keep hb.block,h.si.keep hb.block,h.bl.trans (hb.mono h.bl.size)⟩
variable {ms:List ah}
theorem iF.paths(h:iF p a B w rb (no:Nat) ls S m)(ht:t.size<=4000)(hm:bL w vm ms)(hl:ms.length<=2):
  Calls Tryz.prog 266 #[.pointer (some ⟨rb,0,none⟩),.string t,vm] w fun e w'=>Uc w.heap.size a (no:Nat) (nP (gK [S.top]) ms t) e w'/\Below w.heap.size w w':=
 Dp rb (no:Nat) t [S.top] (some ⟨p.sb,0,none⟩) a ms vm w h.Ji (by rw[aj _ _ _ _ _ _ h.row];rfl) h.scopes h.gl ht h.afI hm hl
theorem Pb(w:ak)(ms:List ah)(t:TypeId):bL (w.alloc (.cells (ms.map Value.string).toArray t)) (.slice (some ⟨w.heap.size,0,none⟩) ms.length ms.length) ms:=by
 refine⟨_,_,rfl,ai _,aP ⟨w.heap.size,0,rfl,fun k s hs=>?_⟩⟩;rw[aj _ _ _ _ _ _ (bq w _ _ rfl)];show((ms.map Value.string).toArray)[0+k]?=_
 simp[hs]
theorem VI{cb:Nat}{v0:Value}{l0 l1:List ah}(h0:w.cell? ⟨cb,0,none⟩=some v0)(h1:w.cell? ⟨cb,1,none⟩=some v1)(t0:bL w v0 l0)(t1:bL w v1 l1)(s0:l0.length<=10000)(s1:l1.length<=10000):
  Calls Tryz.prog 202 #[.slice (some ⟨cb,0,none⟩) 2 2] w fun e w'=>∃v,e=.returned v/\gJ w.heap.size w' v (l0++l1)/\(∀k,v.ownBlock=some k->k<w'.heap.size)/\Below w.heap.size w w':=by
 have:=DU [(v0,l0),(v1,l1)] cb w (fun i x hx=>by
  match i,hx with
  |0,hx=>obtain rfl:=ax hx;exact⟨h0,t0⟩
  |1,hx=>obtain rfl:=ax hx;exact⟨h1,t1⟩
  |i+2,hx=>cases hx) (show 2<=10 by decide) (fun x hx=>by
  rcases bg.1 hx with rfl|hx
  ·exact s0
  obtain rfl:=bD.1 hx
  exact s1)
 refine this.mono ?_;rintro e w' ⟨v,rfl,hr,hb⟩
 have e:oL [(v0,l0),(v1,l1)]=l0++l1:=by simp[oL]
 rw[e] at hr;exact⟨v,rfl,⟨zW hr,fun k hk=>(bF hr k hk).1⟩,fun k hk=>(bF hr k hk).2,hb⟩
variable {top own:iH}{rest:List dQ}
theorem ZM(h:(iw rest).isSome=false):Ef top rest own=.ok (own,rest):=by
 cases rest with
 |nil=>rfl
 |cons x r=>
  rw[show iw (x::r)=if gq x.2 32=true then some (x,r) else none from rfl] at h;rw[Ef]
  split at h
  ·cases h
  rename_i q
  rw[aA q]
variable {x:dQ}
theorem OM(h:(iw (x::rest)).isSome=true):Ef top (x::rest) own=match GU (gK [own,top]) x.2 with
  |none=>.error (.syn,x.1)
  |some xy=>Ef top rest (pG own xy.1 xy.2):=by
 rw[show iw (x::rest)=if gq x.2 32=true then some (x,rest) else none from rfl] at h
 split at h
 ·rename_i q
  rw[Ef,aH q,Oc];unfold GU
  cases pR x.2 with
  |none=>rfl
  |some nv=>
   simp only
   cases iE (gK [own,top]) nv.2 with
   |none=>rfl
   |some y=>rfl
 cases h
def Ie:Option Value->Nat
 |some (.slice _ n _)=>n
 |_=>0
structure JE(p:PV)(a:Nat->Addr)(B:Nat)(w0 w1:ak)(rb:Nat)(ls:List dQ)(S:St)(m:Nat)(sb tb:Nat)(made:List ah)(n3:Nat)(w:ak)(vl:Value)(n:Int)(rest:List dQ)(own:iH)(nn:Nat):Prop where
 st:PStB {p with vl:=vl} a B w rb n rest S m
 eqn:Ef S.top ls []=Ef S.top rest own
 map:wH w tb nn own
 row:w.heap[sb]?=some (.cells #[.map (some tb),.pointer (some ⟨p.sb,0,none⟩)] 302 (0,0))
 same:∀k,w0.heap.size<=k->k<w1.heap.size->w.heap[k]?=w1.heap[k]?
 ach:nG w p.mm n3 made
 bl:Below B w0 w
 few:nn+rest.length<=ls.length/\own.length+rest.length<=ls.length
 bok:BOk own
 tb1:w1.heap.size<=tb/\tb<sb/\sb<w.heap.size
 w01:w0.heap.size<=w1.heap.size
variable {tb:Nat}
theorem JE.bound{w1:ak}{made:List ah}{n3:Nat}{wr w13 w14:ak}{vl FI:Value}{r:List dQ}{nn:Nat}{xy:ah×ah}(h:JE p a B w0 w1 rb ls S m sb tb made n3 wr vl n (x::r) own nn)(h13:PStB {p with vl:=FI} a B w13 rb (x.1:Nat) r S m)(af5:wr.grownBy w13 (some rb))(hm:wH w14 tb (nn+1) (pG own xy.1 xy.2))(adH:w13.grownBy w14 (some tb))(hv:GU (gK [own,S.top]) x.2=some xy)(alA:(iw (x::r)).isSome=true)(hc7:p.c tb=7)(hrb:rb<w0.heap.size)(hB:B<=rb)(hmm:p.mm<w0.heap.size)(hmr:p.mm≠rb)(hx:x.2.size<=4000):JE p a B w0 w1 rb ls S m sb tb made n3 w14 FI (x.1:Nat) r (pG own xy.1 xy.2) (nn+1):=by
 have h1:=h.tb1;have h2:=h.w01;have s13:=af5.size;have s14:=adH.size;have hb0:=h.bl.size
 have o13:∀k,k<wr.heap.size->k≠rb->w13.heap[k]?=wr.heap[k]?:=fun k hk hn=>af5.block k hk (fun e=>hn (ax e))
 have o14:∀k,k<w13.heap.size->k≠tb->w14.heap[k]?=w13.heap[k]?:=fun k hk hn=>adH.block k hk (fun e=>hn (ax e))
 have hsz:=Pg hv
 exact {
  st:=h13.wrote adH (aP hc7)
  eqn:=by rw[h.eqn,OM alA,hv]
  map:=hm
  row:=(o14 sb aJ aJ).trans ((o13 sb aJ aJ).trans h.row)
  same:=fun k hk1 hk2=>(o14 k aJ aJ).trans ((o13 k aJ aJ).trans (h.same k hk1 hk2))
  ach:=eu.keep h.ach ((o14 p.mm aJ aJ).trans (o13 p.mm aJ hmr))
  bl:=(h.bl.grown af5 aJ (fun k hk=>by have:=ax hk;omega)).grown adH aJ (fun k hk=>by have:=ax hk;omega)
  few:=by have:=h.few;have h3:=Ce xy.1 xy.2 own;rw[aY] at this;omega
  bok:=Yd h.bok aJ hsz.2
  tb1:=⟨h1.1,h1.2.1,aJ⟩
  w01:=h2}
theorem uy(h:qy ms s):∀y∈iL s,y.size<=32:=by
 obtain⟨x,_,hf,hx⟩:=h.iL;rw[hf]
 exact fun y hy=>h.names x hx y hy
theorem vI(h:qy ms s)(m:ah):∀y∈fF s m,y.size<=32:=by
 unfold fF
 cases hf:s.find? (fun x=>decide (x.1=m)) with
 |none=>intro y hy;cases hy
 |some x=>exact fun y hy=>h.names x (pY hf) y hy
theorem yE(s:jm)(m:ah):(fF s m).length<=oQ s:=by
 unfold fF
 cases h:s.find? (fun x=>decide (x.1=m)) with
 |none=>exact aS _
 |some x=>exact vg (pY h)
theorem Ki(h:qy ms s):(iL s).length<=oQ s:=by
 obtain⟨x,_,hf,hx⟩:=h.iL;rw[hf];exact vg hx
theorem Xh{u:ah}(h:oV S outs ins u=none):OV S no ls u (.ok outs) (.ok ins)=match Ef S.top ls [] with
  |.error e=>.error e
  |.ok ol=>.ok ({S with bG:=S.bG++[vv outs ins (fE u) ol.1]},ol.2):=by
 unfold OV;simp only[h]
theorem OJ:∀{rest:List dQ} {own own':iH} {rest':List dQ},Ef top rest own=.ok (own',rest')->rest'.length<=rest.length
 |[],own,own',rest',h=>by
  rw[Ef] at h;injection h with h;obtain⟨rfl,rfl⟩:=Prod.mk.inj h;exact ai _
 |y::rest,own,own',rest',h=>by
  rw[Ef] at h
  by_cases hb:gq y.2 32=true
  ·rw[aH hb] at h
   cases hbs:pR y.2 with
   |none=>rw[hbs] at h;cases h
   |some nv=>
    rw[hbs] at h;simp only at h
    cases hx:iE (Dj own top) nv.2 with
    |none=>rw[hx] at h;cases h
    |some z=>
     rw[hx] at h;have:=OJ h;rw[aY];omega
  rw[aA hb] at h;injection h with h;obtain⟨rfl,rfl⟩:=Prod.mk.inj h;exact ai _
theorem Nf{xr:dQ×List dQ}(h:iw ls=some xr):xr.2.length<=ls.length:=by
 cases ls with
 |nil=>cases h
 |cons x r=>
  rw[show iw (x::r)=if gq x.2 32=true then some (x,r) else none from rfl] at h
  split at h
  ·obtain rfl:=ax h;exact fH _
  cases h
variable {S':St}{rest':List dQ}
theorem Xj(h:wz S no t rest=.ok (S',rest')):rest'.length<=rest.length:=by
 unfold wz at h
 split at h
 ·cases h
 split at h
 ·cases h
 split at h
 ·cases h
 rename_i xr hx
 split at h
 ·cases h
 split at h
 ·cases h
 split at h
 ·cases h
 injection h with h;obtain⟨_,rfl⟩:=Prod.mk.inj h;exact Nf hx
theorem RV(h:kZ S no t rest=.ok (S',rest')):rest'.length<=rest.length:=by
 unfold kZ at h
 split at h
 ·cases h
 split at h
 ·cases h
 split at h
 ·cases h
 split at h
 ·cases h
 split at h
 ·cases h
 rename_i ol ho
 injection h with h;obtain⟨_,rfl⟩:=Prod.mk.inj h;exact OJ (own':=ol.1) ho
theorem En(h:qZ S no t rest=.ok (S',rest')):rest'.length<=rest.length:=by
 unfold qZ at h
 split at h
 ·cases h
 split at h
 ·exact Xj h
 split at h
 ·exact RV h
 split at h
 ·unfold oq at h
  split at h
  ·cases h
  split at h
  ·cases h
  injection h with h;obtain⟨_,rfl⟩:=Prod.mk.inj h;exact ai _
 unfold Nw at h
 split at h
 ·cases h
 split at h
 ·cases h
 injection h with h;obtain⟨_,rfl⟩:=Prod.mk.inj h;exact ai _
theorem OW:∀(g g':Nat) (S:St) (ls:List dQ),ls.length<=g->ls.length<=g'->Bp g S ls=Bp g' S ls
 |0,0,_,_,_,_=>rfl
 |0,g'+1,S,[],_,_=>by rw[Bp,Bp]
 |0,_+1,_,_::_,h,_=>by simp at h
 |g+1,0,S,[],_,_=>by rw[Bp,Bp]
 |_+1,0,_,_::_,_,h=>by simp at h
 |g+1,g'+1,S,[],_,_=>by rw[Bp,Bp]
 |g+1,g'+1,S,x::rest,h1,h2=>by
  rw[Bp,Bp];rw[aY] at h1 h2
  cases hs:qZ S x.1 x.2 rest with
  |error e=>rfl
  |ok Sr=>
   have:=En (S':=Sr.1) (rest':=Sr.2) hs;exact OW g g' Sr.1 Sr.2 aJ aJ
def zB(S:St)(ls:List dQ):Except (FO×Nat) St:=Bp ls.length S ls
theorem Xk(S:St):zB S []=.ok S:=rfl
theorem Us(S:St)(x:dQ)(rest:List dQ):zB S (x::rest)=match qZ S x.1 x.2 rest with
  |.error e=>.error e
  |.ok Sr=>zB Sr.1 Sr.2:=by
 unfold zB;rw[aY,Bp]
 cases hs:qZ S x.1 x.2 rest with
 |error e=>rfl
 |ok Sr=>exact OW _ _ _ _ (En (S':=Sr.1) (rest':=Sr.2) hs) (ai _)
theorem UB{w2 w4:ak}(hg:Gl a w)(hB:14<=B)(hBw:B<=w.heap.size)(hrow:w2.heap[sb]?=some (.cells #[.map (some tb),.pointer none] 302 (0,0)))(hmap:wH w2 tb 0 [])(htb:w.heap.size<=tb/\tb<sb)(hb2:Below w.heap.size w w2)(hl:XJ w4 (((w2.alloc (.map #[] 0)).alloc (.map #[] 0)).alloc (.cells #[.int .i64 0,.slice none 0 0,.pointer (some ⟨sb,0,none⟩),.map (some w2.heap.size),.map (some (w2.heap.size+1)),.slice none 0 0,.slice none 0 0] 201)).heap.size v ls)(hb4:Below (((w2.alloc (.map #[] 0)).alloc (.map #[] 0)).alloc (.cells #[.int .i64 0,.slice none 0 0,.pointer (some ⟨sb,0,none⟩),.map (some w2.heap.size),.map (some (w2.heap.size+1)),.slice none 0 0,.slice none 0 0] 201)).heap.size (((w2.alloc (.map #[] 0)).alloc (.map #[] 0)).alloc (.cells #[.int .i64 0,.slice none 0 0,.pointer (some ⟨sb,0,none⟩),.map (some w2.heap.size),.map (some (w2.heap.size+1)),.slice none 0 0,.slice none 0 0] 201)) w4)(hls:∀x∈ls,x.2.size<=4000)(hlc:ls.length<=5000):
  ∃p,iF p a B (w4.setCell ⟨w2.heap.size+2,1,none⟩ v) (w2.heap.size+2) (0:Nat) ls St.none 5000:=by
 have hsb:=bN hrow;generalize hw3:((w2.alloc (.map #[] 0)).alloc (.map #[] 0)).alloc (.cells #[.int .i64 0,.slice none 0 0,.pointer (some ⟨sb,0,none⟩),.map (some w2.heap.size),.map (some (w2.heap.size+1)),.slice none 0 0,.slice none 0 0] 201)=w3 at*
 have h3s:w3.heap.size=w2.heap.size+3:=by rw[<-hw3];simp
 have h3o:∀k,k<w2.heap.size->w3.heap[k]?=w2.heap[k]?:=fun k hk=>by
  rw[<-hw3,bC _ _ k (by simp;omega),bC _ _ k (by simp;omega),bC _ _ k hk]
 have h3r:w3.heap[w2.heap.size+2]?=some (.cells #[.int .i64 0,.slice none 0 0,.pointer (some ⟨sb,0,none⟩),.map (some w2.heap.size),.map (some (w2.heap.size+1)),.slice none 0 0,.slice none 0 0] 201 (0,0)):=by
  rw[<-hw3];exact bq _ _ _ eB
 have hm1:wH w3 w2.heap.size 0 []:=by
  have h1:wH (w2.alloc (.map #[] 0)) w2.heap.size 0 []:=eu.made UI yN ⟨_,_,rfl⟩ w2;refine eu.keep h1 ?_;rw[<-hw3,bC _ _ _ (by simp;omega),bC _ _ _ eB]
 have hm2:nG w3 (w2.heap.size+1) 0 []:=by
  have h1:nG ((w2.alloc (.map #[] 0)).alloc (.map #[] 0)) (w2.alloc (.map #[] 0)).heap.size 0 []:=eu.made Mj (.agg #[]) ⟨_,_,rfl⟩ (w2.alloc (.map #[] 0))
  have e:(w2.alloc (.map #[] 0)).heap.size=w2.heap.size+1:=eB
  rw[e] at h1;refine eu.keep h1 ?_;rw[<-hw3,bC _ _ _ eB]
 clear hw3
 have h5:∀k,k≠w2.heap.size+2->(w4.setCell ⟨w2.heap.size+2,1,none⟩ v).heap[k]?=w4.heap[k]?:=fun k hk=>au _ _ _ _ hk
 have h53:∀k,k<w3.heap.size->k≠w2.heap.size+2->(w4.setCell ⟨w2.heap.size+2,1,none⟩ v).heap[k]?=w3.heap[k]?:=fun k h1 h2=>(h5 k h2).trans (hb4.block k h1)
 have hs5:(w4.setCell ⟨w2.heap.size+2,1,none⟩ v).heap.size=w4.heap.size:=eB
 have h4s:=hb4.size
 have hvb:∀k,v.ownBlock=some k->w3.heap.size<=k/\k<w4.heap.size:=fun k hk=>bF hl k hk
 refine⟨{c:=fun k=>if k=w2.heap.size+2 then 1 else if k=tb then 2 else if k=w2.heap.size then 3 else if k=w2.heap.size+1 then 4 else if k<B then 9 else 0,vl:=v,vd:=.slice none 0 0,vf:=.slice none 0 0,sb:=sb,tb:=tb,rm:=w2.heap.size,mm:=w2.heap.size+1,n1:=0,n2:=0,n3:=0,ds:=[]},?_⟩
 have hc0:∀k,k≠w2.heap.size+2->k≠tb->k≠w2.heap.size->k≠w2.heap.size+1->B<=k->(if k=w2.heap.size+2 then 1 else if k=tb then 2 else if k=w2.heap.size then 3 else if k=w2.heap.size+1 then 4 else if k<B then 9 else 0)=0:=fun k h1 h2 h3 h4 h5=>by
  rw[aA h1,aA h2,aA h3,aA h4,aA aJ]
 have apv:=hb2.size
 exact {
  gl:=hg.keep aJ (fun k hk=>((h53 k (by have:=hg.size;omega) (by have:=hg.size;omega)).trans (h3o k (by have:=hg.size;omega))).trans (hb2.block k (by have:=hg.size;omega)))
  base:=hB
  row:=by
   show(w4.setCell ⟨w2.heap.size+2,1,none⟩ v).heap[w2.heap.size+2]?=_;rw[aR _ _ _ _ _ _ ((hb4.block _ aJ).trans h3r)];rfl
  const:=fun w'' hs hk=>by
   refine⟨(Qw hl).keep (fun k h1 h2=>?_),?_,rfl,fun k d e hd=>by simp at hd⟩
   ·obtain⟨o,n,c,e⟩:=h2;have h3:=hvb k (by rw[e];rfl);exact(hk k aJ (hc0 k aJ aJ aJ aJ aJ)).trans (h5 k aJ)
   exact((hk sb aJ (hc0 sb aJ aJ aJ aJ aJ)).trans ((h53 sb aJ aJ).trans (h3o sb hsb))).trans hrow
  top:=eu.keep hmap ((h53 tb aJ aJ).trans (h3o tb aJ))
  rules:=eu.keep hm1 (h53 w2.heap.size aJ aJ)
  mlt:=by show w2.heap.size+1<_;omega
  made:=eu.keep hm2 (h53 (w2.heap.size+1) aJ aJ)
  jR:=dK _ _ _ _
  defs:=dK _ _ _ _
  c1:=aH rfl
  c2:=by show(if tb=w2.heap.size+2 then 1 else if tb=tb then 2 else _)=2;rw[aA aJ,aH rfl]
  c3:=by show(if w2.heap.size=w2.heap.size+2 then 1 else if w2.heap.size=tb then 2 else if w2.heap.size=w2.heap.size then 3 else _)=3;rw[aA aJ,aA aJ,aH rfl]
  c4:=by show(if w2.heap.size+1=w2.heap.size+2 then 1 else if w2.heap.size+1=tb then 2 else if w2.heap.size+1=w2.heap.size then 3 else if w2.heap.size+1=w2.heap.size+1 then 4 else _)=4;rw[aA aJ,aA aJ,aA aJ,aH rfl]
  c5:=fun k hk=>by cases hk
  c6:=fun k hk=>by cases hk
  low:=fun k hk=>by
   show(if k=w2.heap.size+2 then 1 else if k=tb then 2 else if k=w2.heap.size then 3 else if k=w2.heap.size+1 then 4 else if k<B then 9 else 0)=9;rw[aA aJ,aA aJ,aA aJ,aA aJ,aH hk]
  few:=by show 0+5000<=5000/\0+5000<=5000/\0+8000*5000<=40000000;omega
  ok:={top:=(fun x hx=>by cases hx),Mi:=ai _,rules:=(fun x hx=>by cases hx),Ca:=ai _,bG:=aS _,edge:=(fun x hx=>by cases hx),defs:=(by show 0+4000*5000<=20000000;omega),lines:=hls,count:=hlc}}
end
end Go.Proofs.YthhbpebihgjpjaaGreatDoor
