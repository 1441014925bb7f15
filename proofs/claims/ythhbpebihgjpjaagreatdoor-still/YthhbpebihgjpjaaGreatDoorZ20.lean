import Derived.Test.YthhbpebihgjpjaaGreatDoorZ10
import Derived.Deep.AppendLies
namespace Go.Proofs.YthhbpebihgjpjaaGreatDoor
set_option maxRecDepth 1000000
set_option maxHeartbeats 20000000
set_option linter.all false
section
open Go.RowKit
variable {w:ak}{base s n:Nat}{e:TypeId}{v:Value}{xs:List Value}
theorem wu{base':Nat}(h:w.ownsRow base e s v n xs)(hb:base'<=base):w.ownsRow base' e s v n xs:=by
 obtain⟨h1,h|⟨g,cap,cur,rfl,hg,r⟩⟩:=h
 ·exact⟨h1,aK h⟩
 exact⟨h1,aP ⟨g,cap,cur,rfl,aC hb hg,r⟩⟩
theorem bE(h:w.ownsRow base e s v n xs):∃ao cap,v=.slice ao n cap/\n<=cap/\(0<n->∃g,ao=some ⟨g,0,none⟩):=by
 obtain⟨_,⟨rfl,h0⟩|⟨g,cap,cur,rfl,_,_,h,_⟩⟩:=h
 ·exact⟨none,0,by rw[h0],aJ,fun h=>aJ⟩
 exact⟨_,_,rfl,h,fun _=>⟨g,rfl⟩⟩
variable {cap g:Nat}
theorem dV(h:w.ownsRow base e s (.slice (some ⟨g,0,none⟩) n cap) n xs)(i:Nat)(x:Value)(hx:xs[i]?=some x):w.cell? ⟨g,i,none⟩=some x/\w.frozen? ⟨g,i,none⟩=false:=by
 obtain⟨h1,⟨e,h0⟩|⟨g',cap',cur,e,hg,hh,hn,hm,hs,ht⟩⟩:=h
 ·cases e
 injection e with e1 e2 e3;injection e1 with e1;injection e1 with e1 _ _;subst e1;refine⟨?_,aD _ _ _ _ _ hh⟩;rw[aj _ _ _ _ _ _ hh,<-cZ];rw[<-ht] at hx;rw[xQ] at hx
 split at hx
 ·exact hx
 cases hx
theorem FC(h:w.ownsRow base e s (.slice (some ⟨g,0,none⟩) n cap) n xs)(i:Nat)(u:Value):(w.setCell ⟨g,i,none⟩ u).ownsRow base e s (.slice (some ⟨g,0,none⟩) n cap) n (xs.set i u):=by
 obtain⟨h1,⟨e,h0⟩|⟨g',cap',cur,e,hg,hh,hn,hm,hs,ht⟩⟩:=h
 ·cases e
 injection e with e1 e2 e3;injection e1 with e1;injection e1 with e1 _ _;subst e1 e3;refine⟨by rw[Mw];exact h1,aP ⟨g,cap,_,rfl,hg,aR _ _ _ _ _ _ hh,hn,hm,by simpa using hs,?_⟩⟩;rw[Dx,List.take_set,ht]
theorem iM(w:ak)(cs:List Value)(t:TypeId):∀j u,cs[j]?=some u->(w.alloc (.cells cs.toArray t)).cell? ((⟨w.heap.size,0,none⟩:Addr).add j)=some u:=by
 intro j u hu
 have hadd:(⟨w.heap.size,0,none⟩:Addr).add j=⟨w.heap.size,j,none⟩:=by unfold Addr.add;split<;>simp_all
 rw[hadd,aj _ _ _ _ _ _ (bq w _ _ rfl)]
 simpa using hu
theorem CJ{α:Type}(f g:α->Value):∀(l:List α) (i:Nat) (x:α),l[i]?=some x->(l.flatMap fun x=>[f x,g x])[i*2]?=some (f x)/\(l.flatMap fun x=>[f x,g x])[i*2+1]?=some (g x)
 |[],i,x,h=>by simp at h
 |y::l,0,x,h=>by
  simp only[jq,Option.some.injEq] at h;subst h;exact⟨rfl,rfl⟩
 |y::l,i+1,x,h=>by
  have:=CJ f g l i x (by simpa using h);refine⟨?_,?_⟩
  ·show(f y::g y::l.flatMap _)[(i+1)*2]?=_;rw[show(i+1)*2=i*2+1+1 by omega,iK,iK];exact this.1
  show(f y::g y::l.flatMap _)[(i+1)*2+1]?=_;rw[show(i+1)*2+1=i*2+1+1+1 by omega,iK,iK];exact this.2
theorem vF{α:Type}(f g:α->Value):∀l:List α,(l.flatMap fun x=>[f x,g x]).length=l.length*2
 |[]=>rfl
 |y::l=>by
  rw[ng,aI,vF f g l];show 2+l.length*2=(l.length+1)*2;omega
def mq(l:List Nat):List Value:=l.map fun n=>Value.int .i64 ((n:Nat):Int)
theorem Fh(l r:List Nat):mq (l++r)=mq l++mq r:=by simp[mq]
theorem QG(l:List Nat):(mq l).length=l.length:=by simp[mq]
variable {i x:Nat}
theorem TJ{l:List Nat}(h:l[i]?=some x):(mq l)[i]?=some (.int .i64 (x:Nat)):=by simp[mq,h]
theorem ZF(l:List Nat)(i x:Nat):mq (l.set i x)=(mq l).set i (.int .i64 (x:Nat)):=by simp[mq,List.map_set]
def sw(w:ak)(v:Value)(l:List Nat):Prop:=∃ao cap,v=.slice ao l.length cap/\l.length<=cap/\(l=[]\/∃b o,ao=some ⟨b,o,none⟩/\∀k x,l[k]?=some x->w.cell? ⟨b,o+k,none⟩=some (.int .i64 (x:Nat)))
variable {w':ak}
theorem sw.keep{l:List Nat}(h:sw w v l)(hb:∀k,k<w.heap.size->w'.heap[k]?=w.heap[k]?):sw w' v l:=by
 obtain⟨ao,cap,rfl,hc,h|⟨b,o,rfl,h⟩⟩:=h
 ·exact⟨ao,cap,rfl,hc,aK h⟩
 exact⟨_,cap,rfl,hc,aP ⟨b,o,rfl,fun k s hs=>(aF (w:=w) (a:=⟨b,o+k,none⟩) (hb b (aG (h k s hs)))).trans (h k s hs)⟩⟩
structure lF(F:Nat->Prop)(w w':ak):Prop where
 os:w'.os=w.os
 tape:w'.tape=w.tape
 output:w'.output=w.output
 size:w.heap.size<=w'.heap.size
 block:∀k,k<w.heap.size->¬F k->w'.heap[k]?=w.heap[k]?
theorem lF.refl(F:Nat->Prop)(w:ak):lF F w w:=⟨rfl,rfl,rfl,ai _,fun _ _ _=>rfl⟩
variable {B:Nat}
theorem lF.below{F:Nat->Prop}{a:ak}(h:Below B a w)(hB:B<=w.heap.size)(hm:lF F w w')(hF:∀k,F k->B<=k):Below B a w':=
 ⟨hm.os.trans h.os,hm.tape.trans h.tape,hm.output.trans h.output,aC h.size hm.size,fun k hk=>(hm.block k (aB hk hB) (fun q=>by have:=hF k q;omega)).trans (h.block k hk)⟩
abbrev qx:=List (Nat×List Nat×Value)
def mr(I:qx):List Value:=I.flatMap fun x=>[.int .i64 ((x.1:Nat):Int),x.2.2]
theorem vM(I J:qx):mr (I++J)=mr I++mr J:=by simp[mr]
theorem zx(I:qx):(mr I).length=I.length*2:=vF _ _ I
variable {I:qx}
theorem Gz{x:Nat×List Nat×Value}(h:I[i]?=some x):(mr I)[i*2]?=some (.int .i64 ((x.1:Nat):Int))/\(mr I)[i*2+1]?=some x.2.2:=CJ _ _ I i x h
def za(w:ak)(sb:Nat)(vi:Value):Prop:=w.heap[sb]?=some (.cells #[vi] 209 (0,0))
variable {sb:Nat}{vi:Value}
theorem za.lt(h:za w sb vi):sb<w.heap.size:=bN h
theorem za.other(h:za w sb vi)(ho:w.ownsRow B e s v n xs)(he:e≠209):v.ownBlock≠some sb:=by
 intro hk;obtain⟨h1,⟨rfl,h0⟩|⟨g,cap,cur,rfl,hg,hh,r⟩⟩:=ho
 ·cases hk
 have e1:g=sb:=ax hk;subst e1;unfold za at h;rw[hh] at h;injection h with h;injection h with _ h _;exact he h
theorem Uj(p:Nat)(l:List Nat)(v:Value)(hr:za w sb vi)(ho:w.ownsRow B 212 2 vi I.length (mr I))(hB:B<=w.heap.size)(hl:I.length<=1000000000000)(hv:sw w v l):
  Calls Tryz.prog 117 #[.pointer (some ⟨sb,0,none⟩),.agg #[.int .i64 (p:Nat),v]] w fun e w'=>e=.returned (.tuple #[])/\∃Xu,za w' sb Xu/\w'.ownsRow B 212 2 Xu (I.length+1) (mr (I++[(p,l,v)]))/\lF (fun k=>k=sb\/vi.ownBlock=some k) w w':=by
 obtain⟨ti,HTI⟩:=iT (P:=Tryz.prog) (e:=212) (n:=2) (b:=32) (z:=(.agg #[.int .i64 0,.slice none 0 0])) dD;obtain⟨MS,xh,rfl,_,_⟩:=hv;obtain⟨kE,DT,MB,_,_⟩:=bE ho;generalize hIL:I.length=IL at*;subst MB;generalize l.length=LL at*;have HR:=aV hr;have HO:=aV ho;have HNE:Hid ((Value.slice kE IL DT).ownBlock≠some sb):=hr.other ho bS;obtain⟨W1,hW1⟩:∃W1,W1=w.alloc (.cells #[.int .i64 (p:Nat),.slice MS LL xh] 212):=⟨_,rfl⟩
 have HB1:Hid (Below w.heap.size w W1):=by rw[hW1];exact(ay _ _).alloc (ai _) _
 have c0:W1.cell? ⟨w.heap.size,0,none⟩=some (.int .i64 (p:Nat)):=by rw[hW1];exact jy _ _ _ _ _ rfl
 have c1:W1.cell? ⟨w.heap.size,1,none⟩=some (.slice MS LL xh):=by rw[hW1];exact jy _ _ _ _ _ rfl
 have cs:W1.cell? ⟨sb,0,none⟩=some (.slice kE IL DT):=by rw[aj _ _ _ _ _ _ ((HB1.out.block sb hr.lt).trans hr)];rfl
 have hsz1:W1.heap.size=w.heap.size+1:=by rw[hW1];exact bO _ _
 have HW1:=aV hW1;have csa:(W1.alloc (.cells #[.int .i64 (p:Nat),.slice MS LL xh] 212)).cell? ⟨sb,0,none⟩=some (.slice kE IL DT):=(aF (w:=W1) (a:=⟨sb,0,none⟩) (bC _ _ sb (aB hr.lt HB1.out.size))).trans cs;clear hr ho
 go_enter Tryz.func117,Tryz.ntmps117
 go_wp2_with fail
 rw[<-hW1];clear hW1;refine jX dD ?_;change wpAny _ _ _ _ _ _ _ (World.drew _);refine uA 0 (.pointer (some ⟨sb,0,none⟩)) rfl<|uA 1 (.pointer (some ⟨sb,0,none⟩)) rfl<|uA 2 (.pointer (some ⟨sb,0,none⟩)) rfl<|uA 3 (.pointer (some ⟨sb,0,none⟩)) rfl ?_
 refine pA 4 5 rfl rfl (fun K hK=>?KY) fun K hK=>?KZ
 case' KY=>
  go_simp;refine hK _ _ ?_;clear hK K
  refine rA 5 rfl fun K hK=>?_
  go_simp;refine hK _ _ ?_;clear hK K
  refine rA 6 rfl fun K hK=>?_
  go_simp
 case' KZ=>
  go_simp;refine hK _ _ ?_;clear hK K
  refine pA 4 6 rfl rfl (fun K hK=>?QI) fun K hK=>?QJ
  case' QI=>
   go_simp;refine hK _ _ ?_;clear hK K
   refine rA 6 rfl fun K hK=>?_
   go_simp
  case' QJ=>
   go_simp;refine hK _ _ ?_;clear hK K
   refine rA 4 rfl fun K hK=>?_
   go_simp
 all_goals
  refine hK _ _ ?_;clear hK K;obtain⟨W8,Gr⟩:∃W8,W8=(W1.alloc (.cells #[.int .i64 (p:Nat),.slice MS LL xh] 212)).drew:=⟨_,rfl⟩
  have Bd:Hid (Below w.heap.size w W8):=by rw[Gr];exact(HB1.out.alloc (iR aJ) _).drew
  have HN8:Hid (∀j u,([.int .i64 (p:Nat),.slice MS LL xh]:List Value)[j]?=some u->W8.cell? ((⟨w.heap.size+1,0,none⟩:Addr).add j)=some u):=by rw[Gr,<-hsz1];exact iM W1 _ _
  rw[<-Gr];clear Gr csa;have HD8:Hid (W8.ownsRow B 212 2 (.slice kE IL DT) IL (mr I)):=dR HO.out (fun k hk=>Bd.out.block k (bF HO.out k hk).2);have hB8:B<=W8.heap.size:=aC hB Bd.out.size
  refine rA 7 rfl fun K hK=>?_
  refine step_append_lies _ rfl (.tmp 8) (.tmp 10) 207 rfl B 212 ti (.agg #[.int .i64 0,.slice none 0 0]) 2 32 Tryz.underlying207 HTI.out.1 HTI.out.2.2.2 HTI.out.2.1 HTI.out.2.2.1 rfl bS _ IL (mr I) rfl HD8.out ⟨w.heap.size+1,0,none⟩ 1 1 [.int .i64 (p:Nat),.slice MS LL xh] rfl rfl HN8.out (by intro u hu;simp only[bg,dH,kz] at hu;rcases hu with rfl|rfl<;>rfl) bS (by unfold maxLen;omega) aJ hB8 _ rfl ?_;intro g6 cap6 w6 hv6 hg6 hat6 hlt6;have hrow6:za w6 sb (.slice kE IL DT):=(hg6.block sb (aB HR.out.lt Bd.out.size) (fun e=>HNE.out e.symm)).trans ((Bd.out.block sb HR.out.lt).trans HR.out)
  have d6:w6.cell? ⟨sb,0,none⟩=some (.slice kE IL DT):=by rw[aj _ _ _ _ _ _ hrow6];rfl
  have f6:w6.frozen? ⟨sb,0,none⟩=false:=aD _ _ _ _ _ hrow6
  have HFIN:Hid (∃Xu,za (w6.setCell ⟨sb,0,none⟩ (.slice (some ⟨g6,0,none⟩) (IL+1) cap6)) sb Xu/\(w6.setCell ⟨sb,0,none⟩ (.slice (some ⟨g6,0,none⟩) (IL+1) cap6)).ownsRow B 212 2 Xu (IL+1) (mr (I++[(p,l,.slice MS LL xh)]))/\lF (fun k=>k=sb\/(Value.slice kE IL DT).ownBlock=some k) w (w6.setCell ⟨sb,0,none⟩ (.slice (some ⟨g6,0,none⟩) (IL+1) cap6))):=by
   have hne:sb≠g6:=fun e=>by
    rcases hat6 with q|q
    ·exact HNE.out (by rw[e];exact q)
    have h1:=HR.out.lt;have h2:=Bd.out.size;omega
   refine⟨_,by unfold za;rw[aR _ _ _ _ _ _ hrow6];rfl,?_,?_⟩
   ·rw[vM];exact dR hv6 (fun k hk=>au _ _ _ _ (show k≠sb from fun e=>hne (by rw[<-e];exact(ax hk).symm)))
   refine⟨hg6.os.trans Bd.out.os,hg6.tape.trans Bd.out.tape,hg6.output.trans Bd.out.output,aC Bd.out.size (by simpa using hg6.size),fun k hk hn=>?_⟩;rw[au _ _ _ _ (show k≠sb from fun e=>hn (aK e))];exact(hg6.block k (aB hk Bd.out.size) (fun e=>hn (aP e.symm))).trans (Bd.out.block k hk)
  clear hv6 hg6 hat6 hlt6 hrow6;refine hK _ _ ?_;clear hK K;refine uA 8 (.pointer (some ⟨sb,0,none⟩)) rfl<|uA 9 (.pointer (some ⟨sb,0,none⟩)) rfl ?_
  refine rA 10 rfl fun K hK=>?_
  go_simp;refine hK _ _ ?_;clear hK K;refine yR dD ?_ _
  go_wp2_with fail
  first|go_end0|refine bV (eY rfl _ _ _) rfl ?_
  exact⟨rfl,HFIN.out⟩
theorem YX{IL:Nat}(hr:za w sb vi)(hv:∃ao cap,vi=.slice ao IL cap):
  Calls Tryz.prog 119 #[.pointer (some ⟨sb,0,none⟩)] w fun e w'=>e=.returned (.bool (((IL:Nat):Int)==0))/\w'=w:=by
 obtain⟨ao,cap,rfl⟩:=hv
 have cs:w.cell? ⟨sb,0,none⟩=some (.slice ao IL cap):=by rw[aj _ _ _ _ _ _ hr];rfl
 clear hr
 go_enter Tryz.func119,Tryz.ntmps119
 go_wp2
 go_ret;exact⟨rfl,rfl⟩
theorem aem(hr:za w sb (.slice (some ⟨g,0,none⟩) (n+1) cap))(hn:n<=1000000000000):
  Calls Tryz.prog 120 #[.pointer (some ⟨sb,0,none⟩)] w fun e w'=>e=.returned (.pointer (some ⟨g,n*2,none⟩))/\Below w.heap.size w w':=by
 have cs:w.cell? ⟨sb,0,none⟩=some (.slice (some ⟨g,0,none⟩) (n+1) cap):=by rw[aj _ _ _ _ _ _ hr];rfl
 have n0:(0:Int)<=(n:Int):=aJ
 have n1:(n:Int)<=1000000000000:=aJ
 have HB:Hid (Below w.heap.size w w):=ay _ _;clear hr
 go_enter Tryz.func120,Tryz.ntmps120
 go_wp2
 go_quiet (fail)
 have HB2:Hid (Below w.heap.size w (w.drewN nq)):=⟨rfl,rfl,rfl,ai _,fun _ _=>rfl⟩;generalize w.drewN nq=w2 at*
 go_wp2
 go_ret;exact⟨rfl,HB2.out⟩
theorem ad6(hr:za w sb (.slice (some ⟨g,0,none⟩) (n+1) cap))(hn:n<=1000000000000)(hc:n+1<=cap):
  Calls Tryz.prog 121 #[.pointer (some ⟨sb,0,none⟩)] w fun e w'=>e=.returned (.tuple #[])/\za w' sb (.slice (some ⟨g,0,none⟩) n cap)/\lF (fun k=>k=sb) w w':=by
 have cs:w.cell? ⟨sb,0,none⟩=some (.slice (some ⟨g,0,none⟩) (n+1) cap):=by rw[aj _ _ _ _ _ _ hr];rfl
 have fs:w.frozen? ⟨sb,0,none⟩=false:=aD _ _ _ _ _ hr
 have n0:(0:Int)<=(n:Int):=aJ
 have n1:(n:Int)<=1000000000000:=aJ
 have n2:(n:Int)<=(cap:Int):=aJ
 have HFIN:Hid (za (w.setCell ⟨sb,0,none⟩ (.slice (some ⟨g,0,none⟩) n cap)).drew sb (.slice (some ⟨g,0,none⟩) n cap)/\lF (fun k=>k=sb) w (w.setCell ⟨sb,0,none⟩ (.slice (some ⟨g,0,none⟩) n cap)).drew):=by
  refine⟨?_,rfl,rfl,rfl,?_,fun k hk hn=>?_⟩
  ·show(w.setCell ⟨sb,0,none⟩ _).heap[sb]?=_;rw[aR _ _ _ _ _ _ hr];rfl
  ·show _<=(w.setCell ⟨sb,0,none⟩ _).heap.size
   simp
  show(w.setCell ⟨sb,0,none⟩ _).heap[k]?=_;exact au _ _ _ _ hn
 clear hr
 go_enter Tryz.func121,Tryz.ntmps121
 go_region
 first|go_end0|refine bV (eY rfl _ _ _) rfl ?_
 exact⟨rfl,HFIN.out⟩
def Vv(w:ak)(wb:Nat)(vn vs vo:Value):Prop:=w.heap[wb]?=some (.cells #[vn,vs,vo] 148 (0,0))
theorem NN{wb gN nN cN gs nS cS p:Nat}{vo:Value}{av:Option Addr}{lv cv:Nat}(hr:Vv w wb (.slice (some ⟨gN,0,none⟩) nN cN) (.slice (some ⟨gs,0,none⟩) nS cS) vo)(hp:p<nN)(hps:p<nS)(hv:w.cell? ⟨gN,p,none⟩=some (.slice av lv cv)){cur:Array Value}(hgr:w.heap[gs]?=some (.cells cur 206 (0,0)))(hcur:cur[p]?=some (.int .i64 (x:Nat)))(hne:gs≠wb)(hne2:gs≠gN):
  Calls Tryz.prog 118 #[.pointer (some ⟨wb,0,none⟩),.int .i64 (p:Nat)] w fun e w'=>e=.returned (.agg #[.int .i64 (p:Nat),.slice av lv cv])/\lF (fun k=>k=gs) w w'/\w'.heap[gs]?=(w.setCell ⟨gs,p,none⟩ (.int .i64 1)).heap[gs]?:=by
 have hs:w.cell? ⟨gs,p,none⟩=some (.int .i64 (x:Nat)):=by rw[aj _ _ _ _ _ _ hgr];exact hcur
 have hf:w.frozen? ⟨gs,p,none⟩=false:=aD _ _ _ _ _ hgr;have hwb:=bN hr
 have c1w:w.cell? ⟨wb,1,none⟩=some (.slice (some ⟨gs,0,none⟩) nS cS):=by rw[aj _ _ _ _ _ _ hr];rfl
 have c0w:w.cell? ⟨wb,0,none⟩=some (.slice (some ⟨gN,0,none⟩) nN cN):=by rw[aj _ _ _ _ _ _ hr];rfl
 have p0:(0:Int)<=(p:Int):=aJ
 have p1:(p:Int)<(nN:Int):=aJ
 have p2:(p:Int)<(nS:Int):=aJ
 obtain⟨W1,hW1⟩:∃W1,W1=w.alloc (.cells #[.int .i64 0,.slice none 0 0] 212):=⟨_,rfl⟩
 have hb1:Below w.heap.size w W1:=by rw[hW1];exact(ay _ _).alloc (ai _) _
 have c1:W1.cell? ⟨wb,1,none⟩=some (.slice (some ⟨gs,0,none⟩) nS cS):=by rw[aj _ _ _ _ _ _ ((hb1.block wb hwb).trans hr)];rfl
 have cs:W1.cell? ⟨gs,p,none⟩=some (.int .i64 (x:Nat)):=(hb1.cell (p:=⟨gs,p,none⟩) (aG hs)).trans hs;have fs:W1.frozen? ⟨gs,p,none⟩=false:=(World.frozen?_of_block (w:=w) (a:=⟨gs,p,none⟩) (hb1.block gs (aG hs))).trans hf;have cn:W1.cell? ⟨gN,p,none⟩=some (.slice av lv cv):=(hb1.cell (p:=⟨gN,p,none⟩) (aG hv)).trans hv
 have cb:W1.cell? ⟨wb,0,none⟩=some (.slice (some ⟨gN,0,none⟩) nN cN):=by rw[aj _ _ _ _ _ _ ((hb1.block wb hwb).trans hr)];rfl
 obtain⟨W2,hW2⟩:∃W2,W2=W1.setCell ⟨gs,p,none⟩ (.int .i64 1):=⟨_,rfl⟩
 have d0:W2.cell? ⟨wb,0,none⟩=some (.slice (some ⟨gN,0,none⟩) nN cN):=by rw[hW2,qp _ _ _ _ (fun e=>hne (Addr.mk.inj e).1)];exact cb
 have dn:W2.cell? ⟨gN,p,none⟩=some (.slice av lv cv):=by rw[hW2,qp _ _ _ _ (fun e=>hne2 (Addr.mk.inj e).1)];exact cn
 have hrow:W2.heap[w.heap.size]?=some (.cells #[.int .i64 0,.slice none 0 0] 212 (0,0)):=by
  rw[hW2,au _ _ _ _ (show w.heap.size≠gs from fun e=>by have:=aG hs;simp only at this;omega),hW1];exact bq _ _ _ rfl
 have r0:W2.cell? ⟨w.heap.size,0,none⟩=some (.int .i64 0):=by rw[aj _ _ _ _ _ _ hrow];rfl
 have r1:W2.cell? ⟨w.heap.size,1,none⟩=some (.slice none 0 0):=by rw[aj _ _ _ _ _ _ hrow];rfl
 have q0:W2.frozen? ⟨w.heap.size,0,none⟩=false:=aD _ _ _ _ _ hrow;have q1:W2.frozen? ⟨w.heap.size,1,none⟩=false:=aD _ _ _ _ _ hrow
 have HMV:Hid (∀W3:ak,Below w.heap.size W2 W3->lF (fun k=>k=gs) w W3/\W3.heap[gs]?=(w.setCell ⟨gs,p,none⟩ (.int .i64 1)).heap[gs]?):=fun W3 hb=>by
  have hgs:gs<w.heap.size:=aG hs;refine⟨⟨?_,?_,?_,?_,fun k hk hn=>?_⟩,?_⟩
  ·rw[hb.os,hW2];exact hb1.os
  ·rw[hb.tape,hW2];exact hb1.tape
  ·rw[hb.output,hW2];exact hb1.output
  ·refine aC hb1.size (aC ?_ hb.size);rw[hW2];simp
  ·rw[hb.block k hk,hW2,au _ _ _ _ hn];exact hb1.block k hk
  rw[hb.block gs hgs,hW2];rw[aR _ _ _ _ _ _ ((hb1.block gs hgs).trans hgr),aR _ _ _ _ _ _ hgr]
 have CR:=aV hrow;clear hr hgr hcur hb1 hrow c1 cn cb hv hs hf;subst hW2 hW1
 go_enter Tryz.func118,Tryz.ntmps118
 go_wp2_with fail
 clear c1w c0w cs fs d0 dn q0 q1;generalize (w.alloc (.cells #[.int .i64 0,.slice none 0 0] 212)).setCell ⟨gs,p,none⟩ (.int .i64 1)=W2 at*;have hw1:w.heap.size<W2.heap.size:=aG r0;have HM3:=HMV.out ((W2.setCell ⟨w.heap.size,0,none⟩ (.int .i64 (p:Nat))).setCell ⟨w.heap.size,1,none⟩ (.slice av lv cv)) (((ay _ _).setCell (p:=⟨w.heap.size,0,none⟩) (ai _) _).setCell (p:=⟨w.heap.size,1,none⟩) (ai _) _)
 have HR3:Hid (((W2.setCell ⟨w.heap.size,0,none⟩ (.int .i64 (p:Nat))).setCell ⟨w.heap.size,1,none⟩ (.slice av lv cv)).heap[w.heap.size]?=some (.cells #[.int .i64 (p:Nat),.slice av lv cv] 212 (0,0))):=by
  show _=_;rw[aR _ _ _ _ _ _ (aR _ _ _ _ _ _ CR.out)];rfl
 generalize (W2.setCell ⟨w.heap.size,0,none⟩ (.int .i64 (p:Nat))).setCell ⟨w.heap.size,1,none⟩ (.slice av lv cv)=W3 at*;refine bV (pO Tryz.results118 _ _ w.heap.size 212 #[.int .i64 (p:Nat),.slice av lv cv] (0,0) _ rfl HR3.out Tryz.underlying212 rfl dD) rfl ?_;exact⟨rfl,HM3⟩
end
section
open Go.RowKit Go.Shelf
def lQ(l:List dQ):List Value:=l.flatMap fun x=>[.int .i64 (x.1:Nat),.string x.2]
theorem uH(l r:List dQ):lQ (l++r)=lQ l++lQ r:=by simp[lQ]
variable {l:List dQ}{i:Nat}
theorem Eb{x:dQ}(h:l[i]?=some x):(lQ l)[i*2]?=some (.int .i64 (x.1:Nat))/\(lQ l)[i*2+1]?=some (.string x.2):=CJ _ _ l i x h
theorem TD(l:List dQ)(x:dQ)(s:ah):(lQ (l++[x])).set (l.length*2+1) (.string s)=lQ (l++[(x.1,s)]):=by
 rw[uH,uH,MN _ _ (by unfold lQ;rw[vF];omega)];unfold lQ;rw[vF,show l.length*2+1-l.length*2=1 by omega];rfl
abbrev XJ(w:ak)(base:Nat)(v:Value)(l:List dQ):Prop:=w.ownsRow base 305 2 v l.length (lQ l)
theorem ZX(t:ah)(ht:t.size<=1048576)(a:Nat->Addr)(w:ak)(hg:Gl a w):
  Calls Tryz.prog 259 #[.string t,.string ⟨#[10]⟩] w fun e w'=>e=.returned (.slice (some ⟨w.heap.size,0,none⟩) (zR t).length (zR t).length)/\w'=w.alloc (.cells ((zR t).map Value.string).toArray 9):=by
 obtain⟨m,hm⟩:=hg.most;refine(Any.strings_Split Tryz.lays146 dD t nl m w aJ hm bS).mono ?_;rintro e w' ⟨rfl,rfl⟩;rw[BX];exact⟨rfl,rfl⟩
theorem Nj{R:List ah}{j:Nat}{r:ah}(h:R[j]?=some r)(L:List dQ)(on:Bool):mX (j+1) (R.drop j) L on=mX (j+1+1) (R.drop (j+1)) (lI L on (j+1) r) (Ed r):=by
 obtain⟨h1,h2⟩:=aN.1 h;rw[fG h1,h2];rfl
theorem IW(t:ah)(ht:t.size<=1048576)(a:Nat->Addr)(w:ak)(hg:Gl a w):
  Calls Tryz.prog 190 #[.string t] w fun e w'=>∃v,e=.returned v/\XJ w' w.heap.size v (uG t)/\Below w.heap.size w w':=by
 obtain⟨ti,HTI⟩:=iT (P:=Tryz.prog) (e:=305) (n:=2) (b:=24) (z:=(.agg #[.int .i64 0,.string ⟨#[]⟩])) dD;have HG:=aV hg;have HT:=aV ht;have wX:=aV (Uk t)
 have hrl:(zR t).length<=1048577:=by rw[BX];have:=Lu t;omega
 have HLS:Hid (uG t=mX 1 (zR t) [] false):=rfl;clear hg
 go_enter Tryz.func190,Tryz.ntmps190
 go_wp2_with fail
 refine(ZX t HT.out a w HG.out).mono ?_;rintro e w1 ⟨rfl,hw1⟩;have HW1:=aV hw1
 have HC1:Hid (∀k x,(zR t)[k]?=some x->w1.cell? ⟨w.heap.size,k,none⟩=some (.string x)):=fun k x hx=>by
  rw[HW1.out];exact jy w _ _ k _ (by simp[hx])
 have HB1:Hid (Below w.heap.size w w1):=by show Below _ _ _;rw[HW1.out];exact(ay _ _).alloc (ai _) _
 have hs1:w1.heap.size=w.heap.size+1:=by rw[hw1];simp
 clear hw1 HW1;generalize zR t=R at*
 have r0:(R.length:Int)<=1048577:=aJ
 go_wp2_with fail
 go_loopw [3,4,12] (fun v g i wr=>∃(j:Nat) (L:List dQ) (on:Bool) (ao:Option Addr) (n cap:Nat),i=.int .i64 j/\g=.bool on/\v=.slice ao n cap/\L.length=n/\j<=R.length/\wr.ownsRow w1.heap.size 305 2 (.slice ao n cap) n (lQ L)/\Below w1.heap.size w1 wr/\mX (j+1) (R.drop j) L on=uG t/\(on=true->L≠[])/\wB L+AR (R.drop j)<=t.size/\L.length<=j) (fun _ _ i _=>R.length-(intOf i).toNat)
 case atStart=>
  exact⟨0,[],false,none,0,0,rfl,rfl,rfl,rfl,aS _,dK _ _ _ _,ay _ _,HLS.out.symm,(fun h=>by cases h),by show 0+AR R<=_;have:=wX.out;omega,ai _⟩
 case round=>
  obtain⟨j,L,on,ao,nn,cap,rfl,rfl,rfl,hnn,hle,hown,hbw,hjf,hne,hsum,hLj⟩:=hrel;have HO:=aV hown;have GY:=aV hnn;clear hnn;have lJ:=aV hbw;have HJF:=aV hjf;have HNE:=aV hne;have afu:=aV hsum;clear hown hbw hjf hne hsum
  have j0:(0:Int)<=(j:Int):=aJ
  by_cases hlt:j<R.length
  ·have j1:(j:Int)<(R.length:Int):=aJ
   obtain⟨r,hr⟩:∃r,R[j]?=some r:=⟨R[j]'hlt,eB⟩;have c1:wr.cell? ⟨w.heap.size,j,none⟩=some (.string r):=(lJ.out.cell (p:=⟨w.heap.size,j,none⟩) (by simp only;omega)).trans (HC1.out j r hr)
   have HDS:Hid (AR (R.drop j)=r.size+AR (R.drop (j+1))):=by
    obtain⟨h1,h2⟩:=aN.1 hr;show _=_;rw[fG h1,h2];unfold AR;simp
   have hrs:r.size<=1048576:=by have:=HDS.out;have:=afu.out;have:=HT.out;omega
   have Ew:=aV ((Nj hr L on).symm.trans HJF.out)
   have HSX:Hid (wB (lI L on (j+1) r)+AR (R.drop (j+1))<=t.size):=by
    have h1:=Fb L on (j+1) r;have h2:=afu.out;have h3:=HDS.out;show _<=_;omega
   have HPS:=aV (aC (Le r) hrs);clear hr
   go_wp2_with fail
   refine(Qd r hrs _).mono ?_;rintro e w2 ⟨rfl,rfl⟩
   cases on with
   |true=>
    obtain⟨l,x,rfl⟩:∃l x,L=l++[x]:=by
     rcases tV L with h|⟨l,x,h⟩
     ·exact absurd h (HNE.out rfl)
     exact⟨l,x,by rw[h,tQ]⟩
    have HJS:Hid (lI (l++[x]) true (j+1) r=l++[(x.1,x.2++bI (qF r))]):=Ak l x _
    have CP:Hid (l.length+1=nn):=by have h:=GY.out;rw[aI] at h;exact h
    have hll:=CP.out;obtain⟨Bo,cap',hf,hc,hg⟩:=bE HO.out;injection hf with e1 e2 e3;subst e1 e3;obtain⟨g,rfl⟩:=hg aJ;have hcell:=dV HO.out (l.length*2+1) (.string x.2) (Eb (l:=l++[x]) (i:=l.length) eB).2;have c2:=hcell.1;have f2:=hcell.2;have hgw:g<w2.heap.size:=aG c2;have hgb:w1.heap.size<=g:=(bF HO.out g rfl).1
    have HFIN:Hid ((w2.setCell ⟨g,l.length*2+1,none⟩ (.string (x.2++bI (qF r)))).drew.ownsRow w1.heap.size 305 2 (.slice (some ⟨g,0,none⟩) nn cap) nn (lQ (l++[(x.1,x.2++bI (qF r))]))):=by
     have h:=FC HO.out (l.length*2+1) (.string (x.2++bI (qF r)));rw[TD] at h;exact h
    have HBF:Hid (Below w1.heap.size w1 (w2.setCell ⟨g,l.length*2+1,none⟩ (.string (x.2++bI (qF r)))).drew):=(lJ.out.setCell (p:=⟨g,l.length*2+1,none⟩) hgb _).drew
    have hxs:x.2.size<=1048576:=by
     have h1:x.2.size<=wB (l++[x]):=Ma eB;have:=afu.out;have:=HT.out;omega
    have hls:(bI (qF r)).size<=1048576:=aC (kG _) HPS.out;generalize qF r=P at*;generalize Ed r=od at*
    have hl0:(0:Int)<=(l.length:Int):=aJ
    clear hc hcell
    have hcs:¬9223372036854775807<x.2.size+(bI P).size:=aJ
    have XD:Hid (∀wx,Calls Tryz.prog 191 #[.string P] wx fun e w'=>e=.returned (.string (bI P))/\w'=wx):=fun wx=>gM P wx
    generalize bI P=Q at*
    have hw0:IntKind.i64.wrap ((nn:Int)-1)=(l.length:Int):=by rw[gP];have:=GY.out;omega
    have hi1:(l.length:Int)<(nn:Int):=aJ
    generalize hn:l.length=n at*;have HN0:=aV hn;clear hn hll
    go_wp2_with fail
    go_region_with (go_at_call 191;refine(XD.out _).mono ?_;rintro e w3 ⟨rfl,rfl⟩)
    all_goals
     go_wp2_with fail
     exact⟨⟨j+1,l++[(x.1,x.2++Q)],od,some ⟨g,0,none⟩,nn,cap,oW,rfl,rfl,by rw[aI,HN0.out];exact CP.out,hlt,HFIN.out,HBF.out,by rw[<-HJS.out];exact Ew.out,(fun _=>eB),by rw[<-HJS.out];exact HSX.out,by simp;have:=hLj;simp at this;omega⟩,by simp[intOf];omega⟩
   |false=>
    have HJS:Hid (lI L false (j+1) r=L++[(j+1,qF r)]):=rfl;generalize qF r=P at*;generalize Ed r=od at*
    have hn1:nn<=1048577:=by have:=GY.out;omega
    go_wp2_with (at_builtin;refine Ad _ rfl (.tmp 35) (.tmp 40) 198 rfl w1.heap.size 305 ti (.agg #[.int .i64 0,.string ⟨#[]⟩]) 2 24 Tryz.underlying198 HTI.out.1 HTI.out.2.2.2 HTI.out.2.1 HTI.out.2.2.1 rfl bS _ nn (lQ L) rfl (by exact dR HO.out (fun k hk=>bC w2 _ k (bF HO.out k hk).2)) ⟨w2.heap.size,0,none⟩ 1 1 [.int .i64 ((j:Int)+1),.string P] rfl rfl (by exact iM w2 _ _) (by intro u hu;simp only[bg,dH,kz] at hu;rcases hu with rfl|rfl<;>rfl) (by unfold maxLen;omega) aJ (by have:=lJ.out.size;simp;omega) ?_;intro v5 w5 hv5 hg5 hn5;refine dO ?_)
    have HV5:Hid (w5.ownsRow w1.heap.size 305 2 v5 (nn+1) (lQ (L++[(j+1,P)]))):=by
     rw[uH];exact hv5
    have Bq:Hid (Below w1.heap.size w1 w5):=(lJ.out.alloc lJ.out.size _).grown hg5 (by have:=lJ.out.size;simp;omega) (fun k hk=>(bF HO.out k hk).1);obtain⟨ao5,cap5,rfl,_,_⟩:=bE HV5.out;clear hv5 hg5 hn5;unfold Hid
    go_wp2_with fail
    exact⟨⟨j+1,L++[(j+1,P)],od,ao5,nn+1,cap5,oW,rfl,rfl,by rw[aI,GY.out];rfl,hlt,HV5.out,Bq.out,by rw[<-HJS.out];exact Ew.out,(fun _=>eB),by rw[<-HJS.out];exact HSX.out,by rw[aI];show _+1<=_;omega⟩,by simp[intOf];omega⟩
  obtain rfl:j=R.length:=aJ
  have HN:Hid (L=uG t):=by
   have h:=HJF.out;rw[List.drop_length] at h;exact h
  go_wp2_with fail
  go_ret;refine⟨_,rfl,?_,?_⟩
  ·have h:=wu (base':=w.heap.size) HO.out aJ;show World.ownsRow _ _ _ _ _ _ _;rw[<-HN.out,GY.out];exact h
  exact HB1.out.trans (lJ.out.mono aJ)
theorem AU{α:Type}(l:List α)(j:Nat)(x:α)(h:l[j]?=some x):l.take (j+1)=l.take j++[x]:=by
 obtain⟨h1,h2⟩:=aN.1 h;rw[jk h1,h2]
theorem TB(t:ah)(ht:t.size<=1048576)(a:Nat->Addr)(w:ak)(hg:Gl a w):
  Calls Tryz.prog 113 #[.string t] w fun e w'=>∃v,e=.returned v/\XJ w' w.heap.size v (Cb t)/\Below w.heap.size w w':=by
 obtain⟨ti,HTI⟩:=iT (P:=Tryz.prog) (e:=305) (n:=2) (b:=24) (z:=(.agg #[.int .i64 0,.string ⟨#[]⟩])) dD;have HG:=aV hg;have HT:=aV ht
 have CP:Hid ((uG t).length<=1048577):=by
  have h:=EZ (zR t) 1 [] false;have h2:=BX t;have h3:=Lu t;have h4:([]:List dQ).length=0:=rfl;show(mX 1 (zR t) [] false).length<=_;omega
 have HSD:Hid (Cb t=(uG t).filter fun x=>!wK x.2):=rfl;clear hg
 go_enter Tryz.func113,Tryz.ntmps113
 go_wp2_with fail
 refine(IW t HT.out a w HG.out).mono ?_;rintro e w1 ⟨v1,rfl,ho1,hb1⟩;have HO1:=aV ho1;have HB1:=aV hb1;have HLT:=aV (aC (WC t) HT.out);clear ho1 hb1;generalize uG t=L at*;obtain⟨ao1,Gf,rfl,hc1,hg1⟩:=bE HO1.out
 have l0:(L.length:Int)<=1048577:=by have:=CP.out;omega
 clear hc1
 go_wp2_with fail
 go_loopw [3,10] (fun v i wr=>∃(j n:Nat) (ao:Option Addr) (cap:Nat),i=.int .i64 j/\v=.slice ao n cap/\((L.take j).filter fun x=>!wK x.2).length=n/\j<=L.length/\wr.ownsRow w1.heap.size 305 2 (.slice ao n cap) n (lQ ((L.take j).filter fun x=>!wK x.2))/\Below w1.heap.size w1 wr) (fun _ i _=>L.length-(intOf i).toNat)
 case atStart=>exact⟨0,0,none,0,rfl,rfl,rfl,aS _,dK _ _ _ _,ay _ _⟩
 case round=>
  obtain⟨j,n,ao,cap,rfl,rfl,hn,hle,hown,hbw⟩:=hrel;have HN:=aV hn;have HO:=aV hown;have lJ:=aV hbw
  have hnj:n<=j:=by
   rw[<-hn];exact aC (pK _ _) (List.length_take_le _ _)
  clear hn hown hbw
  have j0:(0:Int)<=(j:Int):=aJ
  by_cases hlt:j<L.length
  ·have j1:(j:Int)<(L.length:Int):=aJ
   obtain⟨x,hx⟩:∃x,L[j]?=some x:=⟨L[j]'hlt,eB⟩;obtain⟨g,rfl⟩:=hg1 aJ;have hc:=Eb hx;have hw:=(bF HO1.out g rfl).2;have c1:wr.cell? ⟨g,j*2,none⟩=some (.int .i64 (x.1:Nat)):=(lJ.out.cell (p:=⟨g,j*2,none⟩) hw).trans (dV HO1.out _ _ hc.1).1;have c2:wr.cell? ⟨g,j*2+1,none⟩=some (.string x.2):=(lJ.out.cell (p:=⟨g,j*2+1,none⟩) hw).trans (dV HO1.out _ _ hc.2).1;have hxs:x.2.size<=1048576:=aC (Ma (aU hx)) HLT.out
   have Bu:Hid ((L.take (j+1)).filter (fun x=>!wK x.2)=(L.take j).filter (fun x=>!wK x.2)++(if wK x.2=true then [] else [x])):=by
    show _=_;rw[AU L j x hx,xP,List.filter_cons,List.filter_nil]
    cases wK x.2<;>rfl
   have Yq:Hid (wK x.2=decide ((bI x.2).size=0\/byteOf (bI x.2) 0=35)):=rfl
   have XD:Hid (∀wx,Calls Tryz.prog 191 #[.string x.2] wx fun e w'=>e=.returned (.string (bI x.2))/\w'=wx):=fun wx=>gM x.2 wx
   have hnn:=qR (bI x.2)
   have hidx:0<(bI x.2).size->∀wx,(Instr.index 9 (.string (bI x.2)) (.int .i64 0)).run Tryz.prog wx=.ok (.int .u8 (byteOf (bI x.2) 0)) wx:=fun h wx=>kI (bI x.2) 0 h wx
   clear hx hc;generalize bI x.2=Q at*;generalize (L.take j).filter (fun x=>!wK x.2)=F at*
   cases hem:wK x.2 with
   |true=>
    rw[hem,aH rfl,fM] at Bu;rw[hem] at Yq;have hor:=fI Yq.out.symm
    by_cases h0:Q.size=0
    ·rw[bT h0] at hnn;clear hidx hor Yq hem
     go_wp2_with fail
     refine(XD.out _).mono ?_;rintro e w2 ⟨rfl,rfl⟩
     go_wp2_with fail
     exact⟨⟨j+1,n,ao,cap,oW,rfl,by rw[Bu.out];exact HN.out,hlt,by rw[Bu.out];exact dR HO.out (fun k hk=>bC wr _ k (bF HO.out k hk).2),lJ.out.alloc lJ.out.size _⟩,by simp[intOf];omega⟩
    rw[bM h0] at hnn
    have h35:byteOf Q 0=35:=by rcases hor with h|h;exact absurd h h0;exact h
    have hi:=hidx aJ;rw[h35] at hi
    have q0:(0:Int)<(Q.size:Int):=aJ
    clear hidx hor Yq hem h35
    go_wp2_with fail
    refine(XD.out _).mono ?_;rintro e w2 ⟨rfl,rfl⟩
    go_wp2_with fail
    exact⟨⟨j+1,n,ao,cap,oW,rfl,by rw[Bu.out];exact HN.out,hlt,by rw[Bu.out];exact dR HO.out (fun k hk=>bC wr _ k (bF HO.out k hk).2),lJ.out.alloc lJ.out.size _⟩,by simp[intOf];omega⟩
   |false=>
    rw[hem,aA bS] at Bu;rw[hem] at Yq;have hor:=yg Yq.out.symm
    have h0:¬Q.size=0:=fun h=>hor (aK h)
    have h35:((byteOf Q 0:Int) !=35)=true:=by simp;intro h;exact hor (aP aJ)
    rw[bM h0] at hnn;have hi:=hidx aJ
    have q0:(0:Int)<(Q.size:Int):=aJ
    obtain⟨xn,xt⟩:=x;simp only at c1 c2 Bu XD hxs;clear hidx hor Yq hem;generalize byteOf Q 0=y at*;have HOa:Hid ((wr.alloc (.cells #[.int .i64 (xn:Nat),.string xt] 305)).ownsRow w1.heap.size 305 2 (.slice ao n cap) n (lQ F)):=dR HO.out (fun k hk=>bC wr _ k (bF HO.out k hk).2);have HBa:Hid (Below w1.heap.size w1 (wr.alloc (.cells #[.int .i64 (xn:Nat),.string xt] 305))):=lJ.out.alloc lJ.out.size _
    go_wp2_with fail
    refine(XD.out _).mono ?_;rintro e w2 ⟨rfl,rfl⟩
    go_wp2_with (at_builtin;refine Ad _ rfl (.tmp 24) (.tmp 26) 198 rfl w1.heap.size 305 ti (.agg #[.int .i64 0,.string ⟨#[]⟩]) 2 24 Tryz.underlying198 HTI.out.1 HTI.out.2.2.2 HTI.out.2.1 HTI.out.2.2.1 rfl bS _ n (lQ F) rfl (by exact dR HOa.out (fun k hk=>bC _ _ k (bF HOa.out k hk).2)) ⟨(wr.alloc (.cells #[.int .i64 (xn:Nat),.string xt] 305)).heap.size,0,none⟩ 1 1 [.int .i64 (xn:Nat),.string xt] FE rfl (by exact iM _ _ _) (by intro u hu;simp only[bg,dH,kz] at hu;rcases hu with rfl|rfl<;>rfl) (by unfold maxLen;omega) aJ (by have:=lJ.out.size;simp;omega) ?_;intro v5 w5 hv5 hg5 hn5;refine dO ?_)
    have HV5:Hid (w5.ownsRow w1.heap.size 305 2 v5 (n+1) (lQ (F++[(xn,xt)]))):=by
     rw[uH];exact hv5
    have Bq:Hid (Below w1.heap.size w1 w5):=(HBa.out.alloc HBa.out.size _).grown hg5 (by have:=lJ.out.size;simp;omega) (fun k hk=>(bF HO.out k hk).1);obtain⟨ao5,cap5,rfl,_,_⟩:=bE HV5.out;clear hv5 hg5 hn5;unfold Hid
    go_wp2_with fail
    exact⟨⟨j+1,n+1,ao5,cap5,oW,rfl,by rw[Bu.out,aI,HN.out];rfl,hlt,by rw[Bu.out];exact HV5.out,Bq.out⟩,by simp[intOf];omega⟩
  obtain rfl:j=L.length:=aJ
  have HE:Hid (Cb t=(L.take L.length).filter fun x=>!wK x.2):=by rw[rz];exact HSD.out
  go_wp2_with fail
  go_ret;refine⟨_,rfl,?_,?_⟩
  ·have h:=wu (base':=w.heap.size) HO.out HB1.out.size;show World.ownsRow _ _ _ _ _ _ _;rw[HE.out,HN.out];exact h
  exact HB1.out.trans (lJ.out.mono HB1.out.size)
end
section
open Go.RowKit Go.Maps
def Ag(w:ak)(v:Value)(l:List dQ):Prop:=∃ao cap,v=.slice ao l.length cap/\l.length<=cap/\(l=[]\/∃g o,ao=some ⟨g,o,none⟩/\∀k x,l[k]?=some x->w.cell? ⟨g,o+k*2,none⟩=some (.int .i64 (x.1:Nat))/\w.cell? ⟨g,o+k*2+1,none⟩=some (.string x.2))
variable {w w':ak}{v:Value}{l:List dQ}
theorem Ag.keep(h:Ag w v l)(hb:∀k,k<w.heap.size->(∃o n c,v=.slice (some ⟨k,o,none⟩) n c)->w'.heap[k]?=w.heap[k]?):Ag w' v l:=by
 obtain⟨ao,cap,rfl,hc,h|⟨g,o,rfl,h⟩⟩:=h
 ·exact⟨ao,cap,rfl,hc,aK h⟩
 refine⟨_,cap,rfl,hc,aP ⟨g,o,rfl,fun k x hx=>?_⟩⟩;obtain⟨h1,h2⟩:=h k x hx;have hk:=hb g (aG h1) ⟨_,_,_,rfl⟩;exact⟨(aF (w:=w) (a:=⟨g,o+k*2,none⟩) hk).trans h1,(aF (w:=w) (a:=⟨g,o+k*2+1,none⟩) hk).trans h2⟩
variable {base:Nat}
theorem Qw(h:XJ w base v l):Ag w v l:=by
 obtain⟨ao,cap,rfl,hc,hg⟩:=bE h;refine⟨ao,cap,rfl,hc,?_⟩
 by_cases h0:l=[]
 ·exact aK h0
 obtain⟨g,rfl⟩:=hg (gD.2 h0);refine aP ⟨g,0,rfl,fun k x hx=>?_⟩;have hc:=Eb hx;rw[dh];exact⟨(dV h _ _ hc.1).1,(dV h _ _ hc.2).1⟩
def BF(c:Nat->Nat)(w:ak)(P:ak->Prop):Prop:=∀w',w.heap.size<=w'.heap.size->(∀k,k<w.heap.size->c k=0->w'.heap[k]?=w.heap[k]?)->P w'
variable {c:Nat->Nat}{P:ak->Prop}
theorem BF.now(h:BF c w P):P w:=h w (ai _) (fun _ _ _=>rfl)
theorem BF.step{c':Nat->Nat}(h:BF c w P)(hs:w.heap.size<=w'.heap.size)(hk:∀k,k<w.heap.size->c k=0->w'.heap[k]?=w.heap[k]?/\c' k=0):BF c' w' P:=
 fun w'' hs' hk'=>h w'' (aC hs hs') (fun k h1 h2=>(hk' k (aB h1 hs) (hk k h1 h2).2).trans (hk k h1 h2).1)
structure jQ where
 vo:Value
 vi:Value
 vm:Value
 vr:Value
 rule:ah
 ob:Nat
def jQ.cells(d:jQ):List Value:=[d.vo,d.vi,d.vm,d.vr,.string d.rule,.string ⟨#[]⟩,.pointer (some ⟨d.ob,0,none⟩)]
def sJ(l:List jQ):List Value:=l.flatMap jQ.cells
structure Pp(w:ak)(sb:Nat)(d:jQ)(e:dA):Prop where
 outs:bL w d.vo e.outs
 ins:bL w d.vi e.ins
 impl:bL w d.vm e.impl
 ord:bL w d.vr e.ord
 rule:d.rule=e.rule
 own:∃tb n,sb<d.ob/\w.heap[d.ob]?=some (.cells #[.map (some tb),.pointer (some ⟨sb,0,none⟩)] 302 (0,0))/\wH w tb n e.own
def Jv(w:ak)(sb:Nat)(ds:List jQ)(es:List dA):Prop:=ds.length=es.length/\∀(k:Nat) d e,ds[k]?=some d->es[k]?=some e->Pp w sb d e
def UU:Value->Option (DataW Unit×List MemPlace)
 |.agg cs=>if cs.size=0 then some (.lit (.int .i64 0),[]) else none
 |_=>none
theorem aak{v':Value}{d:DataW Unit}{p p':List MemPlace}(h:UU v=some (d,p))(h':UU v'=some (d,p')):v=v':=by
 have hv:∀{v:Value} {d:DataW Unit} {p:List MemPlace},UU v=some (d,p)->v=.agg #[]:=by
  intro v d p h;unfold UU at h
  split at h
  ·rename_i cs
   split at h
   ·rename_i e
    rw[show cs=#[] from aaA e]
   cases h
  cases h
 rw[hv h,hv h']
def Mj:zF:=⟨UU,aak⟩
def nG(w:ak)(b n:Nat)(l:List ah):Prop:=eu Mj (.agg #[]) w b n (fun x=>if fo x l=true then some (.agg #[]) else none)
structure PV where
 c:Nat->Nat
 vl:Value
 vd:Value
 vf:Value
 sb:Nat
 tb:Nat
 rm:Nat
 mm:Nat
 n1:Nat
 n2:Nat
 n3:Nat
 ds:List jQ
def aeI(p:PV)(w:ak)(rb:Nat)(n:Int):Prop:=w.heap[rb]?=some (.cells #[.int .i64 n,p.vl,.pointer (some ⟨p.sb,0,none⟩),.map (some p.rm),.map (some p.mm),p.vd,p.vf] 201 (0,0))
def BOk(l:iH):Prop:=∀x∈l,x.2.size<=10000/\0<x.1.size
structure SOk(S:St)(m:Nat)(ls:List dQ):Prop where
 top:BOk S.top
 Mi:S.top.length+m<=5000
 rules:∀x∈S.rules,x.2.size<=4000
 Ca:S.rules.length+m<=5000
 bG:S.bG.length<=64
 edge:∀e∈S.bG,BOk e.own/\e.own.length<=5000/\e.outs.length<=8000/\e.ins.length<=4000/\(∀x∈e.outs,x.size<=32)/\(∀x∈e.ins,x.size<=32)/\e.impl.length<=4000/\e.ord.length<=4000
 defs:S.defs.length+4000*m<=20000000
 lines:∀x∈ls,x.2.size<=4000
 count:ls.length<=5000
structure PStB(p:PV)(a:Nat->Addr)(B:Nat)(w:ak)(rb:Nat)(n:Int)(ls:List dQ)(S:St)(m:Nat):Prop where
 gl:Gl a w
 base:14<=B
 row:aeI p w rb n
 const:BF p.c w (fun w=>Ag w p.vl ls/\w.heap[p.sb]?=some (.cells #[.map (some p.tb),.pointer none] 302 (0,0))/\Jv w p.sb p.ds S.bG)
 top:wH w p.tb p.n1 S.top
 rules:wH w p.rm p.n2 S.rules
 mlt:p.mm<w.heap.size
 jR:w.ownsRow B 311 7 p.vd S.bG.length (sJ p.ds)
 defs:w.ownsRow B 9 1 p.vf S.defs.length (S.defs.map Value.string)
 c1:p.c rb=1
 c2:p.c p.tb=2
 c3:p.c p.rm=3
 c4:p.c p.mm=4
 c5:∀k,p.vd.ownBlock=some k->p.c k=5
 c6:∀k,p.vf.ownBlock=some k->p.c k=6
 low:∀k,k<B->p.c k=9
 few:p.n1+m<=5000/\p.n2+m<=5000/\p.n3+8000*m<=40000000
 ok:SOk S m ls
structure iF(p:PV)(a:Nat->Addr)(B:Nat)(w:ak)(rb:Nat)(n:Int)(ls:List dQ)(S:St)(m:Nat):Prop extends PStB p a B w rb n ls S m where
 made:nG w p.mm p.n3 (qE S)
variable {p:PV}{a:Nat->Addr}{B rb m:Nat}{ls:List dQ}{S:St}
theorem PStB.ql{n:Int}(h:PStB p a B w rb n ls S m):rb<w.heap.size:=bN h.row
theorem PStB.below{n:Int}(h:PStB p a B w rb n ls S m)(hb:Below w.heap.size w w'):PStB p a B w' rb n ls S m where
 gl:=h.gl.keep hb.size (fun k hk=>hb.block k (aB hk h.gl.size))
 base:=h.base
 row:=(hb.block rb h.ql).trans h.row
 const:=h.const.step hb.size (fun k hk h0=>⟨hb.block k hk,h0⟩)
 top:=eu.keep h.top (hb.block _ h.top.lt)
 rules:=eu.keep h.rules (hb.block _ h.rules.lt)
 mlt:=aB h.mlt hb.size
 jR:=dR h.jR (fun k hk=>hb.block k (bF h.jR k hk).2)
 defs:=dR h.defs (fun k hk=>hb.block k (bF h.defs k hk).2)
 c1:=h.c1
 c2:=h.c2
 c3:=h.c3
 c4:=h.c4
 c5:=h.c5
 c6:=h.c6
 low:=h.low
 few:=h.few
 ok:=h.ok
theorem iF.below{n:Int}(h:iF p a B w rb n ls S m)(hb:Below w.heap.size w w'):iF p a B w' rb n ls S m:=⟨h.toPStB.below hb,eu.keep h.made (hb.block _ h.made.lt)⟩
theorem PStB.Ji{n:Int}(h:PStB p a B w rb n ls S m):w.cell? ⟨rb,0,none⟩=some (.int .i64 n):=by rw[aj _ _ _ _ _ _ h.row];rfl
theorem PStB.vY{n:Int}(h:PStB p a B w rb n ls S m):B<=rb:=by
 rcases bX rb B with c|c
 ·have h1:=h.low rb c;have h2:=h.c1;omega
 exact c
theorem uV{l:iH}{x y:ah}(h:eT l x=some y):∃z∈l,z.1=x/\z.2=y:=by
 unfold eT at h;obtain⟨z,hz,rfl⟩:=bA.1 h;exact⟨z,pY hz,by have:=List.find?_some hz;simpa using this,rfl⟩
theorem Ob{ls:List iH}(h:∀l∈ls,BOk l)(x:ah):(gK ls x).size<=10000:=by
 induction ls with
 |nil=>exact aS _
 |cons l ls ih=>
  rw[gK]
  cases hb:eT l x with
  |none=>exact ih (fun l hl=>h l (aZ _ hl))
  |some y=>
   obtain⟨z,hz,_,rfl⟩:=uV hb;exact(h l aQ z hz).1
theorem Sw{ls:List iH}(h:∀l∈ls,BOk l):gK ls ⟨#[]⟩=⟨#[]⟩:=by
 induction ls with
 |nil=>rfl
 |cons l ls ih=>
  rw[gK]
  cases hb:eT l ⟨#[]⟩ with
  |none=>exact ih (fun l hl=>h l (aZ _ hl))
  |some y=>
   obtain⟨z,hz,e,_⟩:=uV hb;have:=(h l aQ z hz).2;rw[e] at this;exact absurd this bS
end
end Go.Proofs.YthhbpebihgjpjaaGreatDoor
