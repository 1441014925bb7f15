import Derived.Test.YthhbpebihgjpjaaGreatDoorZ10
import Derived.Deep.AppendLies
namespace Go.Proofs.YthhbpebihgjpjaaGreatDoor
set_option maxRecDepth 1000000
set_option maxHeartbeats 20000000
set_option linter.all false
section
open Go.RowKit
variable {w:aj}{base s n:Nat}{e:TypeId}{v:Value}{xs:List Value}
theorem vZ{base':Nat}(h:w.ownsRow base e s v n xs)(hb:base'<=base):w.ownsRow base' e s v n xs:=by
 obtain⟨h1,h|⟨g,cap,cur,rfl,hg,r⟩⟩:=h
 ·exact⟨h1,aG h⟩
 exact⟨h1,aL ⟨g,cap,cur,rfl,aA hb hg,r⟩⟩
theorem bq(h:w.ownsRow base e s v n xs):∃ao cap,v=.slice ao n cap/\n<=cap/\(0<n->∃g,ao=some ⟨g,0,none⟩):=by
 obtain⟨_,⟨rfl,h0⟩|⟨g,cap,cur,rfl,_,_,h,_⟩⟩:=h
 ·exact⟨none,0,by rw[h0],by omega,fun h=>by omega⟩
 exact⟨_,_,rfl,h,fun _=>⟨g,rfl⟩⟩
variable {cap g:Nat}
theorem dO(h:w.ownsRow base e s (.slice (some ⟨g,0,none⟩) n cap) n xs)(i:Nat)(x:Value)(hx:xs[i]?=some x):w.cell? ⟨g,i,none⟩=some x/\w.frozen? ⟨g,i,none⟩=false:=by
 obtain⟨h1,⟨e,h0⟩|⟨g',cap',cur,e,hg,hh,hn,hm,hs,ht⟩⟩:=h
 ·cases e
 injection e with e1 e2 e3;injection e1 with e1;injection e1 with e1 _ _;subst e1;refine⟨?_,iG hh⟩;rw[bZ hh,<-bV];rw[<-ht] at hx;rw[xL] at hx
 split at hx
 ·exact hx
 cases hx
theorem FB(h:w.ownsRow base e s (.slice (some ⟨g,0,none⟩) n cap) n xs)(i:Nat)(u:Value):(w.setCell ⟨g,i,none⟩ u).ownsRow base e s (.slice (some ⟨g,0,none⟩) n cap) n (xs.set i u):=by
 obtain⟨h1,⟨e,h0⟩|⟨g',cap',cur,e,hg,hh,hn,hm,hs,ht⟩⟩:=h
 ·cases e
 injection e with e1 e2 e3;injection e1 with e1;injection e1 with e1 _ _;subst e1 e3;refine⟨by rw[Mw];exact h1,aL ⟨g,cap,_,rfl,hg,xY hh,hn,hm,by simpa using hs,?_⟩⟩;rw[Dw,List.take_set,ht]
theorem iH(w:aj)(cs:List Value)(t:TypeId):∀j u,cs[j]?=some u->(w.alloc (.cells cs.toArray t)).cell? ((⟨w.heap.size,0,none⟩:Addr).add j)=some u:=by
 intro j u hu
 have hadd:(⟨w.heap.size,0,none⟩:Addr).add j=⟨w.heap.size,j,none⟩:=by unfold Addr.add;split<;>simp_all
 rw[hadd,bZ (aW w _ _ rfl)]
 simpa using hu
theorem CF{α:Type}(f g:α->Value):∀(l:List α) (i:Nat) (x:α),l[i]?=some x->(l.flatMap fun x=>[f x,g x])[i*2]?=some (f x)/\(l.flatMap fun x=>[f x,g x])[i*2+1]?=some (g x)
 |[],i,x,h=>by simp at h
 |y::l,0,x,h=>by
  simp only[jk,Option.some.injEq] at h;subst h;exact⟨rfl,rfl⟩
 |y::l,i+1,x,h=>by
  have:=CF f g l i x (by simpa using h);refine⟨?_,?_⟩
  ·show(f y::g y::l.flatMap _)[(i+1)*2]?=_;rw[show(i+1)*2=i*2+1+1 by omega,iE,iE];exact this.1
  show(f y::g y::l.flatMap _)[(i+1)*2+1]?=_;rw[show(i+1)*2+1=i*2+1+1+1 by omega,iE,iE];exact this.2
theorem vB{α:Type}(f g:α->Value):∀l:List α,(l.flatMap fun x=>[f x,g x]).length=l.length*2
 |[]=>rfl
 |y::l=>by
  rw[mW,aF,vB f g l];show 2+l.length*2=(l.length+1)*2;omega
def lZ(l:List Nat):List Value:=l.map fun n=>Value.int .i64 ((n:Nat):Int)
theorem Fg(l r:List Nat):lZ (l++r)=lZ l++lZ r:=by simp[lZ]
theorem QE(l:List Nat):(lZ l).length=l.length:=by simp[lZ]
variable {i x:Nat}
theorem TG{l:List Nat}(h:l[i]?=some x):(lZ l)[i]?=some (.int .i64 (x:Nat)):=by simp[lZ,h]
theorem ZE(l:List Nat)(i x:Nat):lZ (l.set i x)=(lZ l).set i (.int .i64 (x:Nat)):=by simp[lZ,List.map_set]
def rZ(w:aj)(v:Value)(l:List Nat):Prop:=∃ao cap,v=.slice ao l.length cap/\l.length<=cap/\(l=[]\/∃b o,ao=some ⟨b,o,none⟩/\∀k x,l[k]?=some x->w.cell? ⟨b,o+k,none⟩=some (.int .i64 (x:Nat)))
variable {w':aj}
theorem rZ.keep{l:List Nat}(h:rZ w v l)(hb:∀k,k<w.heap.size->w'.heap[k]?=w.heap[k]?):rZ w' v l:=by
 obtain⟨ao,cap,rfl,hc,h|⟨b,o,rfl,h⟩⟩:=h
 ·exact⟨ao,cap,rfl,hc,aG h⟩
 exact⟨_,cap,rfl,hc,aL ⟨b,o,rfl,fun k s hs=>(aB (w:=w) (a:=⟨b,o+k,none⟩) (hb b (aC (h k s hs)))).trans (h k s hs)⟩⟩
structure lm(F:Nat->Prop)(w w':aj):Prop where
 os:w'.os=w.os
 tape:w'.tape=w.tape
 output:w'.output=w.output
 size:w.heap.size<=w'.heap.size
 block:∀k,k<w.heap.size->¬F k->w'.heap[k]?=w.heap[k]?
theorem lm.refl(F:Nat->Prop)(w:aj):lm F w w:=⟨rfl,rfl,rfl,ai _,fun _ _ _=>rfl⟩
variable {B:Nat}
theorem lm.below{F:Nat->Prop}{a:aj}(h:Below B a w)(hB:B<=w.heap.size)(hm:lm F w w')(hF:∀k,F k->B<=k):Below B a w':=
 ⟨hm.os.trans h.os,hm.tape.trans h.tape,hm.output.trans h.output,aA h.size hm.size,fun k hk=>(hm.block k (ay hk hB) (fun q=>by have:=hF k q;omega)).trans (h.block k hk)⟩
abbrev qp:=List (Nat×List Nat×Value)
def mg(I:qp):List Value:=I.flatMap fun x=>[.int .i64 ((x.1:Nat):Int),x.2.2]
theorem vK(I J:qp):mg (I++J)=mg I++mg J:=by simp[mg]
theorem zu(I:qp):(mg I).length=I.length*2:=vB _ _ I
variable {I:qp}
theorem Gy{x:Nat×List Nat×Value}(h:I[i]?=some x):(mg I)[i*2]?=some (.int .i64 ((x.1:Nat):Int))/\(mg I)[i*2+1]?=some x.2.2:=CF _ _ I i x h
def yY(w:aj)(sb:Nat)(vi:Value):Prop:=w.heap[sb]?=some (.cells #[vi] 209 (0,0))
variable {sb:Nat}{vi:Value}
theorem yY.lt(h:yY w sb vi):sb<w.heap.size:=bI h
theorem yY.other(h:yY w sb vi)(ho:w.ownsRow B e s v n xs)(he:e≠209):v.ownBlock≠some sb:=by
 intro hk;obtain⟨h1,⟨rfl,h0⟩|⟨g,cap,cur,rfl,hg,hh,r⟩⟩:=ho
 ·cases hk
 have e1:g=sb:=ak hk;subst e1;unfold yY at h;rw[hh] at h;injection h with h;injection h with _ h _;exact he h
theorem Ug(p:Nat)(l:List Nat)(v:Value)(hr:yY w sb vi)(ho:w.ownsRow B 212 2 vi I.length (mg I))(hB:B<=w.heap.size)(hl:I.length<=1000000000000)(hv:rZ w v l):
  Calls Tryz.prog 117 #[.pointer (some ⟨sb,0,none⟩),.agg #[.int .i64 (p:Nat),v]] w fun e w'=>e=.returned (.tuple #[])/\∃Xt,yY w' sb Xt/\w'.ownsRow B 212 2 Xt (I.length+1) (mg (I++[(p,l,v)]))/\lm (fun k=>k=sb\/vi.ownBlock=some k) w w':=by
 obtain⟨ti,HTI⟩:=iT (P:=Tryz.prog) (e:=212) (n:=2) (b:=32) (z:=(.agg #[.int .i64 0,.slice none 0 0])) (by kernel_rfl);obtain⟨MB,wF,rfl,_,_⟩:=hv;obtain⟨kz,DN,MC,_,_⟩:=bq ho;generalize hIL:I.length=IL at*;subst MC;generalize l.length=LL at*;have HR:=aP hr;have HO:=aP ho;have HNE:Hid ((Value.slice kz IL DN).ownBlock≠some sb):=hr.other ho (by decide);obtain⟨W1,hW1⟩:∃W1,W1=w.alloc (.cells #[.int .i64 (p:Nat),.slice MB LL wF] 212):=⟨_,rfl⟩
 have HB1:Hid (Below w.heap.size w W1):=by rw[hW1];exact(au _ _).alloc (ai _) _
 have c0:W1.cell? ⟨w.heap.size,0,none⟩=some (.int .i64 (p:Nat)):=by rw[hW1];exact jq _ _ _ _ _ rfl
 have c1:W1.cell? ⟨w.heap.size,1,none⟩=some (.slice MB LL wF):=by rw[hW1];exact jq _ _ _ _ _ rfl
 have cs:W1.cell? ⟨sb,0,none⟩=some (.slice kz IL DN):=by rw[bZ ((HB1.out.block sb hr.lt).trans hr)];rfl
 have hsz1:W1.heap.size=w.heap.size+1:=by rw[hW1];exact bJ _ _
 have HW1:=aP hW1;have csa:(W1.alloc (.cells #[.int .i64 (p:Nat),.slice MB LL wF] 212)).cell? ⟨sb,0,none⟩=some (.slice kz IL DN):=(aB (w:=W1) (a:=⟨sb,0,none⟩) (aZ _ _ sb (ay hr.lt HB1.out.size))).trans cs;clear hr ho
 go_enter Tryz.func117,Tryz.ntmps117
 go_wp2_with fail
 rw[<-hW1];clear hW1;refine jT (by kernel_rfl) ?_;change wpAny _ _ _ _ _ _ _ (World.drew _);refine uA 0 (.pointer (some ⟨sb,0,none⟩)) rfl ?_<|uA 1 (.pointer (some ⟨sb,0,none⟩)) rfl ?_<|uA 2 (.pointer (some ⟨sb,0,none⟩)) rfl ?_<|uA 3 (.pointer (some ⟨sb,0,none⟩)) rfl ?_ ?_;(iterate 4 ·exact⟨by kernel_rfl,kI,by intro w;go_simp⟩)
 refine pA 4 5 rfl rfl (by kernel_rfl) (fun K hK=>?KY) fun K hK=>?KZ
 case' KY=>
  go_simp;refine hK _ _ ?_;clear hK K
  refine rA 5 rfl (by kernel_rfl) fun K hK=>?_
  go_simp;refine hK _ _ ?_;clear hK K
  refine rA 6 rfl (by kernel_rfl) fun K hK=>?_
  go_simp
 case' KZ=>
  go_simp;refine hK _ _ ?_;clear hK K
  refine pA 4 6 rfl rfl (by kernel_rfl) (fun K hK=>?QG) fun K hK=>?QH
  case' QG=>
   go_simp;refine hK _ _ ?_;clear hK K
   refine rA 6 rfl (by kernel_rfl) fun K hK=>?_
   go_simp
  case' QH=>
   go_simp;refine hK _ _ ?_;clear hK K
   refine rA 4 rfl (by kernel_rfl) fun K hK=>?_
   go_simp
 all_goals
  refine hK _ _ ?_;clear hK K;obtain⟨W8,Gq⟩:∃W8,W8=(W1.alloc (.cells #[.int .i64 (p:Nat),.slice MB LL wF] 212)).drew:=⟨_,rfl⟩
  have Bb:Hid (Below w.heap.size w W8):=by rw[Gq];exact(HB1.out.alloc (iM (by omega)) _).drew
  have HN8:Hid (∀j u,([.int .i64 (p:Nat),.slice MB LL wF]:List Value)[j]?=some u->W8.cell? ((⟨w.heap.size+1,0,none⟩:Addr).add j)=some u):=by rw[Gq,<-hsz1];exact iH W1 _ _
  rw[<-Gq];clear Gq csa;have HD8:Hid (W8.ownsRow B 212 2 (.slice kz IL DN) IL (mg I)):=dL HO.out (fun k hk=>Bb.out.block k (bA HO.out k hk).2);have hB8:B<=W8.heap.size:=aA hB Bb.out.size
  refine rA 7 rfl (by kernel_rfl) fun K hK=>?_
  refine step_append_lies _ rfl (.tmp 8) (.tmp 10) 207 rfl B 212 ti (.agg #[.int .i64 0,.slice none 0 0]) 2 32 Tryz.underlying207 HTI.out.1 HTI.out.2.2.2 HTI.out.2.1 HTI.out.2.2.1 rfl (by decide) _ IL (mg I) rfl HD8.out ⟨w.heap.size+1,0,none⟩ 1 1 [.int .i64 (p:Nat),.slice MB LL wF] rfl rfl HN8.out (by intro u hu;simp only[aV,dz,ko] at hu;rcases hu with rfl|rfl<;>rfl) (by decide) (by unfold maxLen;omega) (by omega) hB8 _ rfl ?_;intro g6 cap6 w6 hv6 hg6 hat6 hlt6;have hrow6:yY w6 sb (.slice kz IL DN):=(hg6.block sb (ay HR.out.lt Bb.out.size) (fun e=>HNE.out e.symm)).trans ((Bb.out.block sb HR.out.lt).trans HR.out)
  have d6:w6.cell? ⟨sb,0,none⟩=some (.slice kz IL DN):=by rw[bZ hrow6];rfl
  have f6:w6.frozen? ⟨sb,0,none⟩=false:=iG hrow6
  have HFIN:Hid (∃Xt,yY (w6.setCell ⟨sb,0,none⟩ (.slice (some ⟨g6,0,none⟩) (IL+1) cap6)) sb Xt/\(w6.setCell ⟨sb,0,none⟩ (.slice (some ⟨g6,0,none⟩) (IL+1) cap6)).ownsRow B 212 2 Xt (IL+1) (mg (I++[(p,l,.slice MB LL wF)]))/\lm (fun k=>k=sb\/(Value.slice kz IL DN).ownBlock=some k) w (w6.setCell ⟨sb,0,none⟩ (.slice (some ⟨g6,0,none⟩) (IL+1) cap6))):=by
   have hne:sb≠g6:=fun e=>by
    rcases hat6 with q|q
    ·exact HNE.out (by rw[e];exact q)
    have h1:=HR.out.lt;have h2:=Bb.out.size;omega
   refine⟨_,by unfold yY;rw[xY hrow6];rfl,?_,?_⟩
   ·rw[vK];exact dL hv6 (fun k hk=>iP (show k≠sb from fun e=>hne (by rw[<-e];exact(ak hk).symm)))
   refine⟨hg6.os.trans Bb.out.os,hg6.tape.trans Bb.out.tape,hg6.output.trans Bb.out.output,aA Bb.out.size (by simpa using hg6.size),fun k hk hn=>?_⟩;rw[iP (show k≠sb from fun e=>hn (aG e))];exact(hg6.block k (ay hk Bb.out.size) (fun e=>hn (aL e.symm))).trans (Bb.out.block k hk)
  clear hv6 hg6 hat6 hlt6 hrow6;refine hK _ _ ?_;clear hK K;refine uA 8 (.pointer (some ⟨sb,0,none⟩)) rfl ?_<|uA 9 (.pointer (some ⟨sb,0,none⟩)) rfl ?_ ?_;(iterate 2 ·exact⟨by kernel_rfl,kI,by intro w;go_simp⟩)
  refine rA 10 rfl (by kernel_rfl) fun K hK=>?_
  go_simp;refine hK _ _ ?_;clear hK K;refine yP (by kernel_rfl) ?_ _
  go_wp2_with fail
  first|go_end0|refine bP (eG rfl _ _ _) rfl ?_
  exact⟨rfl,HFIN.out⟩
theorem YW{IL:Nat}(hr:yY w sb vi)(hv:∃ao cap,vi=.slice ao IL cap):
  Calls Tryz.prog 119 #[.pointer (some ⟨sb,0,none⟩)] w fun e w'=>e=.returned (.bool (((IL:Nat):Int)==0))/\w'=w:=by
 obtain⟨ao,cap,rfl⟩:=hv
 have cs:w.cell? ⟨sb,0,none⟩=some (.slice ao IL cap):=by rw[bZ hr];rfl
 clear hr
 go_enter Tryz.func119,Tryz.ntmps119
 go_wp2
 go_ret;exact⟨rfl,rfl⟩
theorem aei(hr:yY w sb (.slice (some ⟨g,0,none⟩) (n+1) cap))(hn:n<=1000000000000):
  Calls Tryz.prog 120 #[.pointer (some ⟨sb,0,none⟩)] w fun e w'=>e=.returned (.pointer (some ⟨g,n*2,none⟩))/\Below w.heap.size w w':=by
 have cs:w.cell? ⟨sb,0,none⟩=some (.slice (some ⟨g,0,none⟩) (n+1) cap):=by rw[bZ hr];rfl
 have n0:(0:Int)<=(n:Int):=by omega
 have n1:(n:Int)<=1000000000000:=by omega
 have HB:Hid (Below w.heap.size w w):=au _ _;clear hr
 go_enter Tryz.func120,Tryz.ntmps120
 go_wp2
 go_quiet (fail)
 have HB2:Hid (Below w.heap.size w (w.drewN nq)):=⟨rfl,rfl,rfl,ai _,fun _ _=>rfl⟩;generalize w.drewN nq=w2 at*
 go_wp2
 go_ret;exact⟨rfl,HB2.out⟩
theorem ad3(hr:yY w sb (.slice (some ⟨g,0,none⟩) (n+1) cap))(hn:n<=1000000000000)(hc:n+1<=cap):
  Calls Tryz.prog 121 #[.pointer (some ⟨sb,0,none⟩)] w fun e w'=>e=.returned (.tuple #[])/\yY w' sb (.slice (some ⟨g,0,none⟩) n cap)/\lm (fun k=>k=sb) w w':=by
 have cs:w.cell? ⟨sb,0,none⟩=some (.slice (some ⟨g,0,none⟩) (n+1) cap):=by rw[bZ hr];rfl
 have fs:w.frozen? ⟨sb,0,none⟩=false:=iG hr
 have n0:(0:Int)<=(n:Int):=by omega
 have n1:(n:Int)<=1000000000000:=by omega
 have n2:(n:Int)<=(cap:Int):=by omega
 have HFIN:Hid (yY (w.setCell ⟨sb,0,none⟩ (.slice (some ⟨g,0,none⟩) n cap)).drew sb (.slice (some ⟨g,0,none⟩) n cap)/\lm (fun k=>k=sb) w (w.setCell ⟨sb,0,none⟩ (.slice (some ⟨g,0,none⟩) n cap)).drew):=by
  refine⟨?_,rfl,rfl,rfl,?_,fun k hk hn=>?_⟩
  ·show(w.setCell ⟨sb,0,none⟩ _).heap[sb]?=_;rw[xY hr];rfl
  ·show _<=(w.setCell ⟨sb,0,none⟩ _).heap.size
   simp
  show(w.setCell ⟨sb,0,none⟩ _).heap[k]?=_;exact iP hn
 clear hr
 go_enter Tryz.func121,Tryz.ntmps121
 go_region
 first|go_end0|refine bP (eG rfl _ _ _) rfl ?_
 exact⟨rfl,HFIN.out⟩
def Vu(w:aj)(wb:Nat)(vn vs vo:Value):Prop:=w.heap[wb]?=some (.cells #[vn,vs,vo] 148 (0,0))
theorem NJ{wb gN nN cN gs nS cS p:Nat}{vo:Value}{av:Option Addr}{lv cv:Nat}(hr:Vu w wb (.slice (some ⟨gN,0,none⟩) nN cN) (.slice (some ⟨gs,0,none⟩) nS cS) vo)(hp:p<nN)(hps:p<nS)(hv:w.cell? ⟨gN,p,none⟩=some (.slice av lv cv)){cur:Array Value}(hgr:w.heap[gs]?=some (.cells cur 206 (0,0)))(hcur:cur[p]?=some (.int .i64 (x:Nat)))(hne:gs≠wb)(hne2:gs≠gN):
  Calls Tryz.prog 118 #[.pointer (some ⟨wb,0,none⟩),.int .i64 (p:Nat)] w fun e w'=>e=.returned (.agg #[.int .i64 (p:Nat),.slice av lv cv])/\lm (fun k=>k=gs) w w'/\w'.heap[gs]?=(w.setCell ⟨gs,p,none⟩ (.int .i64 1)).heap[gs]?:=by
 have hs:w.cell? ⟨gs,p,none⟩=some (.int .i64 (x:Nat)):=by rw[bZ hgr];exact hcur
 have hf:w.frozen? ⟨gs,p,none⟩=false:=iG hgr;have hwb:=bI hr
 have c1w:w.cell? ⟨wb,1,none⟩=some (.slice (some ⟨gs,0,none⟩) nS cS):=by rw[bZ hr];rfl
 have c0w:w.cell? ⟨wb,0,none⟩=some (.slice (some ⟨gN,0,none⟩) nN cN):=by rw[bZ hr];rfl
 have p0:(0:Int)<=(p:Int):=by omega
 have p1:(p:Int)<(nN:Int):=by omega
 have p2:(p:Int)<(nS:Int):=by omega
 obtain⟨W1,hW1⟩:∃W1,W1=w.alloc (.cells #[.int .i64 0,.slice none 0 0] 212):=⟨_,rfl⟩
 have hb1:Below w.heap.size w W1:=by rw[hW1];exact(au _ _).alloc (ai _) _
 have c1:W1.cell? ⟨wb,1,none⟩=some (.slice (some ⟨gs,0,none⟩) nS cS):=by rw[bZ ((hb1.block wb hwb).trans hr)];rfl
 have cs:W1.cell? ⟨gs,p,none⟩=some (.int .i64 (x:Nat)):=(hb1.cell (p:=⟨gs,p,none⟩) (aC hs)).trans hs;have fs:W1.frozen? ⟨gs,p,none⟩=false:=(World.frozen?_of_block (w:=w) (a:=⟨gs,p,none⟩) (hb1.block gs (aC hs))).trans hf;have cn:W1.cell? ⟨gN,p,none⟩=some (.slice av lv cv):=(hb1.cell (p:=⟨gN,p,none⟩) (aC hv)).trans hv
 have cb:W1.cell? ⟨wb,0,none⟩=some (.slice (some ⟨gN,0,none⟩) nN cN):=by rw[bZ ((hb1.block wb hwb).trans hr)];rfl
 obtain⟨W2,hW2⟩:∃W2,W2=W1.setCell ⟨gs,p,none⟩ (.int .i64 1):=⟨_,rfl⟩
 have d0:W2.cell? ⟨wb,0,none⟩=some (.slice (some ⟨gN,0,none⟩) nN cN):=by rw[hW2,qm _ _ _ _ (fun e=>hne (Addr.mk.inj e).1)];exact cb
 have dn:W2.cell? ⟨gN,p,none⟩=some (.slice av lv cv):=by rw[hW2,qm _ _ _ _ (fun e=>hne2 (Addr.mk.inj e).1)];exact cn
 have hrow:W2.heap[w.heap.size]?=some (.cells #[.int .i64 0,.slice none 0 0] 212 (0,0)):=by
  rw[hW2,iP (show w.heap.size≠gs from fun e=>by have:=aC hs;simp only at this;omega),hW1];exact aW _ _ _ rfl
 have r0:W2.cell? ⟨w.heap.size,0,none⟩=some (.int .i64 0):=by rw[bZ hrow];rfl
 have r1:W2.cell? ⟨w.heap.size,1,none⟩=some (.slice none 0 0):=by rw[bZ hrow];rfl
 have q0:W2.frozen? ⟨w.heap.size,0,none⟩=false:=iG hrow;have q1:W2.frozen? ⟨w.heap.size,1,none⟩=false:=iG hrow
 have HMV:Hid (∀W3:aj,Below w.heap.size W2 W3->lm (fun k=>k=gs) w W3/\W3.heap[gs]?=(w.setCell ⟨gs,p,none⟩ (.int .i64 1)).heap[gs]?):=fun W3 hb=>by
  have hgs:gs<w.heap.size:=aC hs;refine⟨⟨?_,?_,?_,?_,fun k hk hn=>?_⟩,?_⟩
  ·rw[hb.os,hW2];exact hb1.os
  ·rw[hb.tape,hW2];exact hb1.tape
  ·rw[hb.output,hW2];exact hb1.output
  ·refine aA hb1.size (aA ?_ hb.size);rw[hW2];simp
  ·rw[hb.block k hk,hW2,iP hn];exact hb1.block k hk
  rw[hb.block gs hgs,hW2];rw[xY ((hb1.block gs hgs).trans hgr),xY hgr]
 have CP:=aP hrow;clear hr hgr hcur hb1 hrow c1 cn cb hv hs hf;subst hW2 hW1
 go_enter Tryz.func118,Tryz.ntmps118
 go_wp2_with fail
 clear c1w c0w cs fs d0 dn q0 q1;generalize (w.alloc (.cells #[.int .i64 0,.slice none 0 0] 212)).setCell ⟨gs,p,none⟩ (.int .i64 1)=W2 at*;have hw1:w.heap.size<W2.heap.size:=aC r0;have HM3:=HMV.out ((W2.setCell ⟨w.heap.size,0,none⟩ (.int .i64 (p:Nat))).setCell ⟨w.heap.size,1,none⟩ (.slice av lv cv)) (((au _ _).setCell (p:=⟨w.heap.size,0,none⟩) (ai _) _).setCell (p:=⟨w.heap.size,1,none⟩) (ai _) _)
 have HR3:Hid (((W2.setCell ⟨w.heap.size,0,none⟩ (.int .i64 (p:Nat))).setCell ⟨w.heap.size,1,none⟩ (.slice av lv cv)).heap[w.heap.size]?=some (.cells #[.int .i64 (p:Nat),.slice av lv cv] 212 (0,0))):=by
  show _=_;rw[xY (xY CP.out)];rfl
 generalize (W2.setCell ⟨w.heap.size,0,none⟩ (.int .i64 (p:Nat))).setCell ⟨w.heap.size,1,none⟩ (.slice av lv cv)=W3 at*;refine bP (pI Tryz.results118 _ _ w.heap.size 212 #[.int .i64 (p:Nat),.slice av lv cv] (0,0) _ rfl HR3.out Tryz.underlying212 rfl (by kernel_rfl)) rfl ?_;exact⟨rfl,HM3⟩
end
section
open Go.RowKit Go.Shelf
def lJ(l:List dK):List Value:=l.flatMap fun x=>[.int .i64 (x.1:Nat),.string x.2]
theorem uz(l r:List dK):lJ (l++r)=lJ l++lJ r:=by simp[lJ]
variable {l:List dK}{i:Nat}
theorem DZ{x:dK}(h:l[i]?=some x):(lJ l)[i*2]?=some (.int .i64 (x.1:Nat))/\(lJ l)[i*2+1]?=some (.string x.2):=CF _ _ l i x h
theorem Tz(l:List dK)(x:dK)(s:ah):(lJ (l++[x])).set (l.length*2+1) (.string s)=lJ (l++[(x.1,s)]):=by
 rw[uz,uz,MO _ _ (by unfold lJ;rw[vB];omega)];unfold lJ;rw[vB,show l.length*2+1-l.length*2=1 by omega];rfl
abbrev XI(w:aj)(base:Nat)(v:Value)(l:List dK):Prop:=w.ownsRow base 305 2 v l.length (lJ l)
theorem ZW(t:ah)(ht:t.size<=1048576)(a:Nat->Addr)(w:aj)(hg:Gl a w):
  Calls Tryz.prog 259 #[.string t,.string ⟨#[10]⟩] w fun e w'=>e=.returned (.slice (some ⟨w.heap.size,0,none⟩) (zP t).length (zP t).length)/\w'=w.alloc (.cells ((zP t).map Value.string).toArray 9):=by
 obtain⟨m,hm⟩:=hg.most;refine(Any.strings_Split Tryz.lays146 (by kernel_rfl) t nl m w (by omega) hm (by decide)).mono ?_;rintro e w' ⟨rfl,rfl⟩;rw[BU];exact⟨rfl,rfl⟩
theorem Nh{R:List ah}{j:Nat}{r:ah}(h:R[j]?=some r)(L:List dK)(on:Bool):mP (j+1) (R.drop j) L on=mP (j+1+1) (R.drop (j+1)) (lD L on (j+1) r) (Eb r):=by
 obtain⟨h1,h2⟩:=aJ.1 h;rw[fA h1,h2];rfl
theorem IV(t:ah)(ht:t.size<=1048576)(a:Nat->Addr)(w:aj)(hg:Gl a w):
  Calls Tryz.prog 190 #[.string t] w fun e w'=>∃v,e=.returned v/\XI w' w.heap.size v (uy t)/\Below w.heap.size w w':=by
 obtain⟨ti,HTI⟩:=iT (P:=Tryz.prog) (e:=305) (n:=2) (b:=24) (z:=(.agg #[.int .i64 0,.string ⟨#[]⟩])) (by kernel_rfl);have HG:=aP hg;have HT:=aP ht;have wU:=aP (Uh t)
 have hrl:(zP t).length<=1048577:=by rw[BU];have:=Lu t;omega
 have HLS:Hid (uy t=mP 1 (zP t) [] false):=rfl;clear hg
 go_enter Tryz.func190,Tryz.ntmps190
 go_wp2_with fail
 refine(ZW t HT.out a w HG.out).mono ?_;rintro e w1 ⟨rfl,hw1⟩;have HW1:=aP hw1
 have HC1:Hid (∀k x,(zP t)[k]?=some x->w1.cell? ⟨w.heap.size,k,none⟩=some (.string x)):=fun k x hx=>by
  rw[HW1.out];exact jq w _ _ k _ (by simp[hx])
 have HB1:Hid (Below w.heap.size w w1):=by show Below _ _ _;rw[HW1.out];exact(au _ _).alloc (ai _) _
 have hs1:w1.heap.size=w.heap.size+1:=by rw[hw1];simp
 clear hw1 HW1;generalize zP t=R at*
 have r0:(R.length:Int)<=1048577:=by omega
 go_wp2_with fail
 go_loopw [3,4,12] (fun v g i wr=>∃(j:Nat) (L:List dK) (on:Bool) (ao:Option Addr) (n cap:Nat),i=.int .i64 j/\g=.bool on/\v=.slice ao n cap/\L.length=n/\j<=R.length/\wr.ownsRow w1.heap.size 305 2 (.slice ao n cap) n (lJ L)/\Below w1.heap.size w1 wr/\mP (j+1) (R.drop j) L on=uy t/\(on=true->L≠[])/\wm L+AP (R.drop j)<=t.size/\L.length<=j) (fun _ _ i _=>R.length-(intOf i).toNat)
 case atStart=>
  exact⟨0,[],false,none,0,0,rfl,rfl,rfl,rfl,aN _,dD _ _ _ _,au _ _,HLS.out.symm,(fun h=>by cases h),by show 0+AP R<=_;have:=wU.out;omega,ai _⟩
 case round=>
  obtain⟨j,L,on,ao,nn,cap,rfl,rfl,rfl,hnn,hle,hown,hbw,hjf,hne,hsum,hLj⟩:=hrel;have HO:=aP hown;have GX:=aP hnn;clear hnn;have lF:=aP hbw;have HJF:=aP hjf;have HNE:=aP hne;have afq:=aP hsum;clear hown hbw hjf hne hsum
  have j0:(0:Int)<=(j:Int):=by omega
  by_cases hlt:j<R.length
  ·have j1:(j:Int)<(R.length:Int):=by omega
   obtain⟨r,hr⟩:∃r,R[j]?=some r:=⟨R[j]'hlt,by simp⟩;have c1:wr.cell? ⟨w.heap.size,j,none⟩=some (.string r):=(lF.out.cell (p:=⟨w.heap.size,j,none⟩) (by simp only;omega)).trans (HC1.out j r hr)
   have HDS:Hid (AP (R.drop j)=r.size+AP (R.drop (j+1))):=by
    obtain⟨h1,h2⟩:=aJ.1 hr;show _=_;rw[fA h1,h2];unfold AP;simp
   have hrs:r.size<=1048576:=by have:=HDS.out;have:=afq.out;have:=HT.out;omega
   have Ev:=aP ((Nh hr L on).symm.trans HJF.out)
   have HSX:Hid (wm (lD L on (j+1) r)+AP (R.drop (j+1))<=t.size):=by
    have h1:=Fa L on (j+1) r;have h2:=afq.out;have h3:=HDS.out;show _<=_;omega
   have HPS:=aP (aA (Le r) hrs);clear hr
   go_wp2_with fail
   refine(Qb r hrs _).mono ?_;rintro e w2 ⟨rfl,rfl⟩
   cases on with
   |true=>
    obtain⟨l,x,rfl⟩:∃l x,L=l++[x]:=by
     rcases tL L with h|⟨l,x,h⟩
     ·exact absurd h (HNE.out rfl)
     exact⟨l,x,by rw[h,tK]⟩
    have HJS:Hid (lD (l++[x]) true (j+1) r=l++[(x.1,x.2++bD (qB r))]):=Ai l x _
    have CK:Hid (l.length+1=nn):=by have h:=GX.out;rw[aF] at h;exact h
    have hll:=CK.out;obtain⟨Bl,cap',hf,hc,hg⟩:=bq HO.out;injection hf with e1 e2 e3;subst e1 e3;obtain⟨g,rfl⟩:=hg (by omega);have hcell:=dO HO.out (l.length*2+1) (.string x.2) (DZ (l:=l++[x]) (i:=l.length) (by simp)).2;have c2:=hcell.1;have f2:=hcell.2;have hgw:g<w2.heap.size:=aC c2;have hgb:w1.heap.size<=g:=(bA HO.out g rfl).1
    have HFIN:Hid ((w2.setCell ⟨g,l.length*2+1,none⟩ (.string (x.2++bD (qB r)))).drew.ownsRow w1.heap.size 305 2 (.slice (some ⟨g,0,none⟩) nn cap) nn (lJ (l++[(x.1,x.2++bD (qB r))]))):=by
     have h:=FB HO.out (l.length*2+1) (.string (x.2++bD (qB r)));rw[Tz] at h;exact h
    have HBF:Hid (Below w1.heap.size w1 (w2.setCell ⟨g,l.length*2+1,none⟩ (.string (x.2++bD (qB r)))).drew):=(lF.out.setCell (p:=⟨g,l.length*2+1,none⟩) hgb _).drew
    have hxs:x.2.size<=1048576:=by
     have h1:x.2.size<=wm (l++[x]):=Ma (by simp);have:=afq.out;have:=HT.out;omega
    have hls:(bD (qB r)).size<=1048576:=aA (kD _) HPS.out;generalize qB r=P at*;generalize Eb r=od at*
    have hl0:(0:Int)<=(l.length:Int):=by omega
    clear hc hcell
    have hcs:¬9223372036854775807<x.2.size+(bD P).size:=by omega
    have XC:Hid (∀wx,Calls Tryz.prog 191 #[.string P] wx fun e w'=>e=.returned (.string (bD P))/\w'=wx):=fun wx=>gG P wx
    generalize bD P=Q at*
    have hw0:IntKind.i64.wrap ((nn:Int)-1)=(l.length:Int):=by rw[gH];have:=GX.out;omega
    have hi1:(l.length:Int)<(nn:Int):=by omega
    generalize hn:l.length=n at*;have HN0:=aP hn;clear hn hll
    go_wp2_with fail
    go_region_with (go_at_call 191;refine(XC.out _).mono ?_;rintro e w3 ⟨rfl,rfl⟩)
    all_goals
     go_wp2_with fail
     exact⟨⟨j+1,l++[(x.1,x.2++Q)],od,some ⟨g,0,none⟩,nn,cap,by go_num,rfl,rfl,by rw[aF,HN0.out];exact CK.out,hlt,HFIN.out,HBF.out,by rw[<-HJS.out];exact Ev.out,(fun _=>by simp),by rw[<-HJS.out];exact HSX.out,by simp;have:=hLj;simp at this;omega⟩,by simp[intOf];omega⟩
   |false=>
    have HJS:Hid (lD L false (j+1) r=L++[(j+1,qB r)]):=rfl;generalize qB r=P at*;generalize Eb r=od at*
    have hn1:nn<=1048577:=by have:=GX.out;omega
    go_wp2_with (at_builtin;refine Ab _ rfl (.tmp 35) (.tmp 40) 198 rfl w1.heap.size 305 ti (.agg #[.int .i64 0,.string ⟨#[]⟩]) 2 24 Tryz.underlying198 HTI.out.1 HTI.out.2.2.2 HTI.out.2.1 HTI.out.2.2.1 rfl (by decide) _ nn (lJ L) rfl (by exact dL HO.out (fun k hk=>aZ w2 _ k (bA HO.out k hk).2)) ⟨w2.heap.size,0,none⟩ 1 1 [.int .i64 ((j:Int)+1),.string P] rfl rfl (by exact iH w2 _ _) (by intro u hu;simp only[aV,dz,ko] at hu;rcases hu with rfl|rfl<;>rfl) (by unfold maxLen;omega) (by omega) (by have:=lF.out.size;simp;omega) ?_;intro v5 w5 hv5 hg5 hn5;refine dI ?_)
    have HV5:Hid (w5.ownsRow w1.heap.size 305 2 v5 (nn+1) (lJ (L++[(j+1,P)]))):=by
     rw[uz];exact hv5
    have Bo:Hid (Below w1.heap.size w1 w5):=(lF.out.alloc lF.out.size _).grown hg5 (by have:=lF.out.size;simp;omega) (fun k hk=>(bA HO.out k hk).1);obtain⟨ao5,cap5,rfl,_,_⟩:=bq HV5.out;clear hv5 hg5 hn5;unfold Hid
    go_wp2_with fail
    exact⟨⟨j+1,L++[(j+1,P)],od,ao5,nn+1,cap5,by go_num,rfl,rfl,by rw[aF,GX.out];rfl,hlt,HV5.out,Bo.out,by rw[<-HJS.out];exact Ev.out,(fun _=>by simp),by rw[<-HJS.out];exact HSX.out,by rw[aF];show _+1<=_;omega⟩,by simp[intOf];omega⟩
  obtain rfl:j=R.length:=by omega
  have HN:Hid (L=uy t):=by
   have h:=HJF.out;rw[List.drop_length] at h;exact h
  go_wp2_with fail
  go_ret;refine⟨_,rfl,?_,?_⟩
  ·have h:=vZ (base':=w.heap.size) HO.out (by omega);show World.ownsRow _ _ _ _ _ _ _;rw[<-HN.out,GX.out];exact h
  exact HB1.out.trans (lF.out.mono (by omega))
theorem AQ{α:Type}(l:List α)(j:Nat)(x:α)(h:l[j]?=some x):l.take (j+1)=l.take j++[x]:=by
 obtain⟨h1,h2⟩:=aJ.1 h;rw[jf h1,h2]
theorem Ty(t:ah)(ht:t.size<=1048576)(a:Nat->Addr)(w:aj)(hg:Gl a w):
  Calls Tryz.prog 113 #[.string t] w fun e w'=>∃v,e=.returned v/\XI w' w.heap.size v (BZ t)/\Below w.heap.size w w':=by
 obtain⟨ti,HTI⟩:=iT (P:=Tryz.prog) (e:=305) (n:=2) (b:=24) (z:=(.agg #[.int .i64 0,.string ⟨#[]⟩])) (by kernel_rfl);have HG:=aP hg;have HT:=aP ht
 have CK:Hid ((uy t).length<=1048577):=by
  have h:=EY (zP t) 1 [] false;have h2:=BU t;have h3:=Lu t;have h4:([]:List dK).length=0:=rfl;show(mP 1 (zP t) [] false).length<=_;omega
 have HSD:Hid (BZ t=(uy t).filter fun x=>!wH x.2):=rfl;clear hg
 go_enter Tryz.func113,Tryz.ntmps113
 go_wp2_with fail
 refine(IV t HT.out a w HG.out).mono ?_;rintro e w1 ⟨v1,rfl,ho1,hb1⟩;have HO1:=aP ho1;have HB1:=aP hb1;have HLT:=aP (aA (WB t) HT.out);clear ho1 hb1;generalize uy t=L at*;obtain⟨ao1,Gd,rfl,hc1,hg1⟩:=bq HO1.out
 have l0:(L.length:Int)<=1048577:=by have:=CK.out;omega
 clear hc1
 go_wp2_with fail
 go_loopw [3,10] (fun v i wr=>∃(j n:Nat) (ao:Option Addr) (cap:Nat),i=.int .i64 j/\v=.slice ao n cap/\((L.take j).filter fun x=>!wH x.2).length=n/\j<=L.length/\wr.ownsRow w1.heap.size 305 2 (.slice ao n cap) n (lJ ((L.take j).filter fun x=>!wH x.2))/\Below w1.heap.size w1 wr) (fun _ i _=>L.length-(intOf i).toNat)
 case atStart=>exact⟨0,0,none,0,rfl,rfl,rfl,aN _,dD _ _ _ _,au _ _⟩
 case round=>
  obtain⟨j,n,ao,cap,rfl,rfl,hn,hle,hown,hbw⟩:=hrel;have HN:=aP hn;have HO:=aP hown;have lF:=aP hbw
  have hnj:n<=j:=by
   rw[<-hn];exact aA (pG _ _) (List.length_take_le _ _)
  clear hn hown hbw
  have j0:(0:Int)<=(j:Int):=by omega
  by_cases hlt:j<L.length
  ·have j1:(j:Int)<(L.length:Int):=by omega
   obtain⟨x,hx⟩:∃x,L[j]?=some x:=⟨L[j]'hlt,by simp⟩;obtain⟨g,rfl⟩:=hg1 (by omega);have hc:=DZ hx;have hw:=(bA HO1.out g rfl).2;have c1:wr.cell? ⟨g,j*2,none⟩=some (.int .i64 (x.1:Nat)):=(lF.out.cell (p:=⟨g,j*2,none⟩) hw).trans (dO HO1.out _ _ hc.1).1;have c2:wr.cell? ⟨g,j*2+1,none⟩=some (.string x.2):=(lF.out.cell (p:=⟨g,j*2+1,none⟩) hw).trans (dO HO1.out _ _ hc.2).1;have hxs:x.2.size<=1048576:=aA (Ma (aO hx)) HLT.out
   have Br:Hid ((L.take (j+1)).filter (fun x=>!wH x.2)=(L.take j).filter (fun x=>!wH x.2)++(if wH x.2=true then [] else [x])):=by
    show _=_;rw[AQ L j x hx,xK,List.filter_cons,List.filter_nil]
    cases wH x.2<;>rfl
   have Yp:Hid (wH x.2=decide ((bD x.2).size=0\/byteOf (bD x.2) 0=35)):=rfl
   have XC:Hid (∀wx,Calls Tryz.prog 191 #[.string x.2] wx fun e w'=>e=.returned (.string (bD x.2))/\w'=wx):=fun wx=>gG x.2 wx
   have hnn:=qN (bD x.2)
   have hidx:0<(bD x.2).size->∀wx,(Instr.index 9 (.string (bD x.2)) (.int .i64 0)).run Tryz.prog wx=.ok (.int .u8 (byteOf (bD x.2) 0)) wx:=fun h wx=>kF (bD x.2) 0 h wx
   clear hx hc;generalize bD x.2=Q at*;generalize (L.take j).filter (fun x=>!wH x.2)=F at*
   cases hem:wH x.2 with
   |true=>
    rw[hem,aD rfl,fF] at Br;rw[hem] at Yp;have hor:=fC Yp.out.symm
    by_cases h0:Q.size=0
    ·rw[bN h0] at hnn;clear hidx hor Yp hem
     go_wp2_with fail
     refine(XC.out _).mono ?_;rintro e w2 ⟨rfl,rfl⟩
     go_wp2_with fail
     exact⟨⟨j+1,n,ao,cap,by go_num,rfl,by rw[Br.out];exact HN.out,hlt,by rw[Br.out];exact dL HO.out (fun k hk=>aZ wr _ k (bA HO.out k hk).2),lF.out.alloc lF.out.size _⟩,by simp[intOf];omega⟩
    rw[bH h0] at hnn
    have h35:byteOf Q 0=35:=by rcases hor with h|h;exact absurd h h0;exact h
    have hi:=hidx (by omega);rw[h35] at hi
    have q0:(0:Int)<(Q.size:Int):=by omega
    clear hidx hor Yp hem h35
    go_wp2_with fail
    refine(XC.out _).mono ?_;rintro e w2 ⟨rfl,rfl⟩
    go_wp2_with fail
    exact⟨⟨j+1,n,ao,cap,by go_num,rfl,by rw[Br.out];exact HN.out,hlt,by rw[Br.out];exact dL HO.out (fun k hk=>aZ wr _ k (bA HO.out k hk).2),lF.out.alloc lF.out.size _⟩,by simp[intOf];omega⟩
   |false=>
    rw[hem,ax (by decide)] at Br;rw[hem] at Yp;have hor:=xX Yp.out.symm
    have h0:¬Q.size=0:=fun h=>hor (aG h)
    have h35:((byteOf Q 0:Int) !=35)=true:=by simp;intro h;exact hor (aL (by omega))
    rw[bH h0] at hnn;have hi:=hidx (by omega)
    have q0:(0:Int)<(Q.size:Int):=by omega
    obtain⟨xn,xt⟩:=x;simp only at c1 c2 Br XC hxs;clear hidx hor Yp hem;generalize byteOf Q 0=y at*;have HOa:Hid ((wr.alloc (.cells #[.int .i64 (xn:Nat),.string xt] 305)).ownsRow w1.heap.size 305 2 (.slice ao n cap) n (lJ F)):=dL HO.out (fun k hk=>aZ wr _ k (bA HO.out k hk).2);have HBa:Hid (Below w1.heap.size w1 (wr.alloc (.cells #[.int .i64 (xn:Nat),.string xt] 305))):=lF.out.alloc lF.out.size _
    go_wp2_with fail
    refine(XC.out _).mono ?_;rintro e w2 ⟨rfl,rfl⟩
    go_wp2_with (at_builtin;refine Ab _ rfl (.tmp 24) (.tmp 26) 198 rfl w1.heap.size 305 ti (.agg #[.int .i64 0,.string ⟨#[]⟩]) 2 24 Tryz.underlying198 HTI.out.1 HTI.out.2.2.2 HTI.out.2.1 HTI.out.2.2.1 rfl (by decide) _ n (lJ F) rfl (by exact dL HOa.out (fun k hk=>aZ _ _ k (bA HOa.out k hk).2)) ⟨(wr.alloc (.cells #[.int .i64 (xn:Nat),.string xt] 305)).heap.size,0,none⟩ 1 1 [.int .i64 (xn:Nat),.string xt] (by simp[go_sem]) rfl (by exact iH _ _ _) (by intro u hu;simp only[aV,dz,ko] at hu;rcases hu with rfl|rfl<;>rfl) (by unfold maxLen;omega) (by omega) (by have:=lF.out.size;simp;omega) ?_;intro v5 w5 hv5 hg5 hn5;refine dI ?_)
    have HV5:Hid (w5.ownsRow w1.heap.size 305 2 v5 (n+1) (lJ (F++[(xn,xt)]))):=by
     rw[uz];exact hv5
    have Bo:Hid (Below w1.heap.size w1 w5):=(HBa.out.alloc HBa.out.size _).grown hg5 (by have:=lF.out.size;simp;omega) (fun k hk=>(bA HO.out k hk).1);obtain⟨ao5,cap5,rfl,_,_⟩:=bq HV5.out;clear hv5 hg5 hn5;unfold Hid
    go_wp2_with fail
    exact⟨⟨j+1,n+1,ao5,cap5,by go_num,rfl,by rw[Br.out,aF,HN.out];rfl,hlt,by rw[Br.out];exact HV5.out,Bo.out⟩,by simp[intOf];omega⟩
  obtain rfl:j=L.length:=by omega
  have HE:Hid (BZ t=(L.take L.length).filter fun x=>!wH x.2):=by rw[rf];exact HSD.out
  go_wp2_with fail
  go_ret;refine⟨_,rfl,?_,?_⟩
  ·have h:=vZ (base':=w.heap.size) HO.out HB1.out.size;show World.ownsRow _ _ _ _ _ _ _;rw[HE.out,HN.out];exact h
  exact HB1.out.trans (lF.out.mono HB1.out.size)
end
section
open Go.RowKit Go.Maps
def Ae(w:aj)(v:Value)(l:List dK):Prop:=∃ao cap,v=.slice ao l.length cap/\l.length<=cap/\(l=[]\/∃g o,ao=some ⟨g,o,none⟩/\∀k x,l[k]?=some x->w.cell? ⟨g,o+k*2,none⟩=some (.int .i64 (x.1:Nat))/\w.cell? ⟨g,o+k*2+1,none⟩=some (.string x.2))
variable {w w':aj}{v:Value}{l:List dK}
theorem Ae.keep(h:Ae w v l)(hb:∀k,k<w.heap.size->(∃o n c,v=.slice (some ⟨k,o,none⟩) n c)->w'.heap[k]?=w.heap[k]?):Ae w' v l:=by
 obtain⟨ao,cap,rfl,hc,h|⟨g,o,rfl,h⟩⟩:=h
 ·exact⟨ao,cap,rfl,hc,aG h⟩
 refine⟨_,cap,rfl,hc,aL ⟨g,o,rfl,fun k x hx=>?_⟩⟩;obtain⟨h1,h2⟩:=h k x hx;have hk:=hb g (aC h1) ⟨_,_,_,rfl⟩;exact⟨(aB (w:=w) (a:=⟨g,o+k*2,none⟩) hk).trans h1,(aB (w:=w) (a:=⟨g,o+k*2+1,none⟩) hk).trans h2⟩
variable {base:Nat}
theorem Qu(h:XI w base v l):Ae w v l:=by
 obtain⟨ao,cap,rfl,hc,hg⟩:=bq h;refine⟨ao,cap,rfl,hc,?_⟩
 by_cases h0:l=[]
 ·exact aG h0
 obtain⟨g,rfl⟩:=hg (fZ.2 h0);refine aL ⟨g,0,rfl,fun k x hx=>?_⟩;have hc:=DZ hx;rw[bW];exact⟨(dO h _ _ hc.1).1,(dO h _ _ hc.2).1⟩
def BA(c:Nat->Nat)(w:aj)(P:aj->Prop):Prop:=∀w',w.heap.size<=w'.heap.size->(∀k,k<w.heap.size->c k=0->w'.heap[k]?=w.heap[k]?)->P w'
variable {c:Nat->Nat}{P:aj->Prop}
theorem BA.now(h:BA c w P):P w:=h w (ai _) (fun _ _ _=>rfl)
theorem BA.step{c':Nat->Nat}(h:BA c w P)(hs:w.heap.size<=w'.heap.size)(hk:∀k,k<w.heap.size->c k=0->w'.heap[k]?=w.heap[k]?/\c' k=0):BA c' w' P:=
 fun w'' hs' hk'=>h w'' (aA hs hs') (fun k h1 h2=>(hk' k (ay h1 hs) (hk k h1 h2).2).trans (hk k h1 h2).1)
structure jM where
 vo:Value
 vi:Value
 vm:Value
 vr:Value
 rule:ah
 ob:Nat
def jM.cells(d:jM):List Value:=[d.vo,d.vi,d.vm,d.vr,.string d.rule,.string ⟨#[]⟩,.pointer (some ⟨d.ob,0,none⟩)]
def sF(l:List jM):List Value:=l.flatMap jM.cells
structure Pn(w:aj)(sb:Nat)(d:jM)(e:dm):Prop where
 outs:bG w d.vo e.outs
 ins:bG w d.vi e.ins
 impl:bG w d.vm e.impl
 ord:bG w d.vr e.ord
 rule:d.rule=e.rule
 own:∃tb n,sb<d.ob/\w.heap[d.ob]?=some (.cells #[.map (some tb),.pointer (some ⟨sb,0,none⟩)] 302 (0,0))/\wD w tb n e.own
def Jt(w:aj)(sb:Nat)(ds:List jM)(es:List dm):Prop:=ds.length=es.length/\∀(k:Nat) d e,ds[k]?=some d->es[k]?=some e->Pn w sb d e
def UQ:Value->Option (DataW Unit×List MemPlace)
 |.agg cs=>if cs.size=0 then some (.lit (.int .i64 0),[]) else none
 |_=>none
theorem aaj{v':Value}{d:DataW Unit}{p p':List MemPlace}(h:UQ v=some (d,p))(h':UQ v'=some (d,p')):v=v':=by
 have hv:∀{v:Value} {d:DataW Unit} {p:List MemPlace},UQ v=some (d,p)->v=.agg #[]:=by
  intro v d p h;unfold UQ at h
  split at h
  ·rename_i cs
   split at h
   ·rename_i e
    rw[show cs=#[] from aaz e]
   cases h
  cases h
 rw[hv h,hv h']
def Mj:zC:=⟨UQ,aaj⟩
def ny(w:aj)(b n:Nat)(l:List ah):Prop:=dU Mj (.agg #[]) w b n (fun x=>if eT x l=true then some (.agg #[]) else none)
structure PV where
 c:Nat->Nat
 vl:Value
 vd:Value
 vf:Value
 sb:Nat
 tb:Nat
 rm:Nat
 mm:Nat
 n1:Nat
 n2:Nat
 n3:Nat
 ds:List jM
def aeE(p:PV)(w:aj)(rb:Nat)(n:Int):Prop:=w.heap[rb]?=some (.cells #[.int .i64 n,p.vl,.pointer (some ⟨p.sb,0,none⟩),.map (some p.rm),.map (some p.mm),p.vd,p.vf] 201 (0,0))
def BOk(l:iB):Prop:=∀x∈l,x.2.size<=10000/\0<x.1.size
structure SOk(S:St)(m:Nat)(ls:List dK):Prop where
 top:BOk S.top
 Mi:S.top.length+m<=5000
 rules:∀x∈S.rules,x.2.size<=4000
 BX:S.rules.length+m<=5000
 bB:S.bB.length<=64
 edge:∀e∈S.bB,BOk e.own/\e.own.length<=5000/\e.outs.length<=8000/\e.ins.length<=4000/\(∀x∈e.outs,x.size<=32)/\(∀x∈e.ins,x.size<=32)/\e.impl.length<=4000/\e.ord.length<=4000
 defs:S.defs.length+4000*m<=20000000
 lines:∀x∈ls,x.2.size<=4000
 count:ls.length<=5000
structure PStB(p:PV)(a:Nat->Addr)(B:Nat)(w:aj)(rb:Nat)(n:Int)(ls:List dK)(S:St)(m:Nat):Prop where
 gl:Gl a w
 base:14<=B
 row:aeE p w rb n
 const:BA p.c w (fun w=>Ae w p.vl ls/\w.heap[p.sb]?=some (.cells #[.map (some p.tb),.pointer none] 302 (0,0))/\Jt w p.sb p.ds S.bB)
 top:wD w p.tb p.n1 S.top
 rules:wD w p.rm p.n2 S.rules
 mlt:p.mm<w.heap.size
 jN:w.ownsRow B 311 7 p.vd S.bB.length (sF p.ds)
 defs:w.ownsRow B 9 1 p.vf S.defs.length (S.defs.map Value.string)
 c1:p.c rb=1
 c2:p.c p.tb=2
 c3:p.c p.rm=3
 c4:p.c p.mm=4
 c5:∀k,p.vd.ownBlock=some k->p.c k=5
 c6:∀k,p.vf.ownBlock=some k->p.c k=6
 low:∀k,k<B->p.c k=9
 few:p.n1+m<=5000/\p.n2+m<=5000/\p.n3+8000*m<=40000000
 ok:SOk S m ls
structure ig(p:PV)(a:Nat->Addr)(B:Nat)(w:aj)(rb:Nat)(n:Int)(ls:List dK)(S:St)(m:Nat):Prop extends PStB p a B w rb n ls S m where
 made:ny w p.mm p.n3 (qg S)
variable {p:PV}{a:Nat->Addr}{B rb m:Nat}{ls:List dK}{S:St}
theorem PStB.qi{n:Int}(h:PStB p a B w rb n ls S m):rb<w.heap.size:=bI h.row
theorem PStB.below{n:Int}(h:PStB p a B w rb n ls S m)(hb:Below w.heap.size w w'):PStB p a B w' rb n ls S m where
 gl:=h.gl.keep hb.size (fun k hk=>hb.block k (ay hk h.gl.size))
 base:=h.base
 row:=(hb.block rb h.qi).trans h.row
 const:=h.const.step hb.size (fun k hk h0=>⟨hb.block k hk,h0⟩)
 top:=dU.keep h.top (hb.block _ h.top.lt)
 rules:=dU.keep h.rules (hb.block _ h.rules.lt)
 mlt:=ay h.mlt hb.size
 jN:=dL h.jN (fun k hk=>hb.block k (bA h.jN k hk).2)
 defs:=dL h.defs (fun k hk=>hb.block k (bA h.defs k hk).2)
 c1:=h.c1
 c2:=h.c2
 c3:=h.c3
 c4:=h.c4
 c5:=h.c5
 c6:=h.c6
 low:=h.low
 few:=h.few
 ok:=h.ok
theorem ig.below{n:Int}(h:ig p a B w rb n ls S m)(hb:Below w.heap.size w w'):ig p a B w' rb n ls S m:=⟨h.toPStB.below hb,dU.keep h.made (hb.block _ h.made.lt)⟩
theorem PStB.Jg{n:Int}(h:PStB p a B w rb n ls S m):w.cell? ⟨rb,0,none⟩=some (.int .i64 n):=by rw[bZ h.row];rfl
theorem PStB.vV{n:Int}(h:PStB p a B w rb n ls S m):B<=rb:=by
 rcases bR rb B with c|c
 ·have h1:=h.low rb c;have h2:=h.c1;omega
 exact c
theorem uT{l:iB}{x y:ah}(h:eB l x=some y):∃z∈l,z.1=x/\z.2=y:=by
 unfold eB at h;obtain⟨z,hz,rfl⟩:=aX.1 h;exact⟨z,pV hz,by have:=List.find?_some hz;simpa using this,rfl⟩
theorem NZ{ls:List iB}(h:∀l∈ls,BOk l)(x:ah):(gy ls x).size<=10000:=by
 induction ls with
 |nil=>exact aN _
 |cons l ls ih=>
  rw[gy]
  cases hb:eB l x with
  |none=>exact ih (fun l hl=>h l (aU _ hl))
  |some y=>
   obtain⟨z,hz,_,rfl⟩:=uT hb;exact(h l aM z hz).1
theorem Sn{ls:List iB}(h:∀l∈ls,BOk l):gy ls ⟨#[]⟩=⟨#[]⟩:=by
 induction ls with
 |nil=>rfl
 |cons l ls ih=>
  rw[gy]
  cases hb:eB l ⟨#[]⟩ with
  |none=>exact ih (fun l hl=>h l (aU _ hl))
  |some y=>
   obtain⟨z,hz,e,_⟩:=uT hb;have:=(h l aM z hz).2;rw[e] at this;exact absurd this (by decide)
